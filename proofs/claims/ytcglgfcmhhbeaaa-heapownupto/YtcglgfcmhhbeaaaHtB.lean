
import Derived.Test.YtcglgfcmhhbeaaaHqC
import Derived.Test.YtcglgfcmhhbeaaaApK
import Derived.BigQuiet
namespace Go.Proofs.Ytcglgfcmhhbeaaa.Hp
open Go.RowKit Go.Maps
set_option linter.unusedVariables false
set_option linter.unusedSimpArgs false
set_option maxRecDepth 100000
/-! ### weirmem.Book, of entries -/
/-- the mark of a number. -/
def mkT (i : Nat) : ByteArray := ⟨#[109, 97, 114, 107, 32, UInt8.ofNat (97 + i), 97, 97]⟩
theorem conv_mk (w : World) (a : Nat) (b : UInt8) : (convert 106 9 (.slice (some ⟨w.heap.size, 0, none⟩) 3 3)).run Try.prog (w.alloc (.cells #[.int .u8 (b.toNat : Int), .int .u8 97, .int .u8 97] 5)) = .ok (.string ⟨#[b, 97, 97]⟩) (w.alloc (.cells #[.int .u8 (b.toNat : Int), .int .u8 97, .int .u8 97] 5)) := by
  have := run_convert_bytes_back (P := Try.prog) (w.alloc (.cells #[.int .u8 (b.toNat : Int), .int .u8 97, .int .u8 97] 5)) 106 9 5 ⟨w.heap.size, 0, none⟩ 3 [b, 97, 97] Try.underlying106 Try.underlying5 Try.underlying9 (fun j hj => by
    have : j = 0 ∨ j = 1 ∨ j = 2 := by simp at hj; omega
    rcases this with rfl | rfl | rfl <;> simp [go_sem, Addr.add])
  exact this
theorem text_any (i : Nat) (hi : i ≤ 3) (w : World) : Calls Try.prog 71 #[.int .i64 (i : Int)] w fun e w' => e = .returned (.string (mkT i)) ∧ GR w w' := by
  have : i = 0 ∨ i = 1 ∨ i = 2 ∨ i = 3 := by omega
  have c0 := conv_mk w 0 97
  have c1 := conv_mk w 0 98
  have c2 := conv_mk w 0 99
  have c3 := conv_mk w 0 100
  have n0 : ((97 : UInt8).toNat : Int) = 97 := rfl
  have n1 : ((98 : UInt8).toNat : Int) = 98 := rfl
  have n2 : ((99 : UInt8).toNat : Int) = 99 := rfl
  have n3 : ((100 : UInt8).toNat : Int) = 100 := rfl
  rw [n0] at c0
  rw [n1] at c1
  rw [n2] at c2
  rw [n3] at c3
  clear n0 n1 n2 n3
  rcases this with rfl | rfl | rfl | rfl
  all_goals
    go_enter Try.func71, Try.ntmps71
    go_wp2
    go_ret
    exact ⟨rfl, (GR.refl w).alloc _⟩
def xx (i : Nat) : Ent := (0, mkT i)
end Go.Proofs.Ytcglgfcmhhbeaaa.Hp
