
import Derived.Test.YtbojljmacheccaaGreatDoorApK
import Derived.Deep.AppendLies
import Derived.OpenShut
import Derived.WalkSmall
import Derived.WalkKit
import Derived.ProofKit
import Derived.BigQuiet
import Derived.WalkLawsBesides
import Derived.Lib.Bytealg
import Derived.Shelf.SlSortCmp.QuietGrown
namespace Go.Proofs.YtbojljmacheccaaGreatDoor.Tx
open Go.RowKit
set_option linter.unusedVariables false
set_option linter.unusedSimpArgs false
set_option maxRecDepth 100000
def GR (W w' : World) : Prop := ∃ q os, w' = Sort.grow (W.drewN q) os
theorem GR.refl (W : World) : GR W W := ⟨0, #[], by rw [Sort.grow_empty]; rfl⟩
theorem GR.trans {W w1 w2 : World} (h : GR W w1) (k : GR w1 w2) : GR W w2 := by
  obtain ⟨q, os, rfl⟩ := h
  obtain ⟨p, os', rfl⟩ := k
  exact ⟨q + p, os ++ os', by show Sort.grow (Sort.grow ((W.drewN q).drewN p) os) os' = _; rw [Sort.grow_grow, World.drewN_drewN]⟩
theorem GR.alloc {W w1 : World} (h : GR W w1) (o : Obj) : GR W (w1.alloc o) := h.trans ⟨0, #[o], by rw [Sort.alloc_eq_grow]; rfl⟩
theorem GR.below {W w' : World} (h : GR W w') : Below W.heap.size W w' := by
  obtain ⟨q, os, rfl⟩ := h
  refine ⟨rfl, rfl, rfl, by simp [Sort.grow, World.drewN], fun k hk => ?_⟩
  show (W.heap ++ os)[k]? = W.heap[k]?
  rw [Array.getElem?_append_left hk]
/-- the mark of a number. -/
def mkT (i : Nat) : ByteArray := ⟨#[109, 97, 114, 107, 32, UInt8.ofNat (97 + i % 26), UInt8.ofNat (97 + i / 26 % 26), UInt8.ofNat (97 + i / 676 % 26)]⟩
theorem u8_of (a : Nat) (h : a < 26) : ((UInt8.ofNat (97 + a)).toNat : Int) = 97 + (a : Int) := by
  rw [UInt8.toNat_ofNat_of_lt' (by simp [UInt8.size]; omega)]; omega
theorem conv_mk (w : World) (a b c : Nat) (ha : a < 26) (hb : b < 26) (hc : c < 26) : (convert 113 9 (.slice (some ⟨w.heap.size, 0, none⟩) 3 3)).run Tryz.prog (w.alloc (.cells #[.int .u8 (97 + (a : Int)), .int .u8 (97 + (b : Int)), .int .u8 (97 + (c : Int))] 5)) = .ok (.string ⟨#[UInt8.ofNat (97 + a), UInt8.ofNat (97 + b), UInt8.ofNat (97 + c)]⟩) (w.alloc (.cells #[.int .u8 (97 + (a : Int)), .int .u8 (97 + (b : Int)), .int .u8 (97 + (c : Int))] 5)) := by
  have ea := u8_of a ha
  have eb := u8_of b hb
  have ec := u8_of c hc
  have := run_convert_bytes_back (P := Tryz.prog) (w.alloc (.cells #[.int .u8 (97 + (a : Int)), .int .u8 (97 + (b : Int)), .int .u8 (97 + (c : Int))] 5)) 113 9 5 ⟨w.heap.size, 0, none⟩ 3 [UInt8.ofNat (97 + a), UInt8.ofNat (97 + b), UInt8.ofNat (97 + c)] Tryz.underlying113 Tryz.underlying5 Tryz.underlying9 (fun j hj => by
    have : j = 0 ∨ j = 1 ∨ j = 2 := by simp at hj; omega
    rcases this with rfl | rfl | rfl
    · show _ = some (Value.int .u8 ((UInt8.ofNat (97 + a)).toNat : Int)); rw [ea]; simp [go_sem, Addr.add]
    · show _ = some (Value.int .u8 ((UInt8.ofNat (97 + b)).toNat : Int)); rw [eb]; simp [go_sem, Addr.add]
    · show _ = some (Value.int .u8 ((UInt8.ofNat (97 + c)).toNat : Int)); rw [ec]; simp [go_sem, Addr.add])
  exact this
theorem tx1 (a : Nat) (h : a ≤ 4398046511104) : IntKind.i64.wrap (a : Int) = (a : Int) ∧ wrap64 (a : Int) = (a : Int) := ⟨IntWalk.i64_in _ (by omega), IntWalk.wrap64_in _ (by omega)⟩
theorem tx2 (a : Nat) (h : a < 26) : IntKind.i64.wrap (97 + (a : Int)) = 97 + (a : Int) ∧ IntKind.u8.wrap (97 + (a : Int)) = 97 + (a : Int) := ⟨IntWalk.i64_in _ (by omega), by rw [IntKind.wrap_u8]; omega⟩
theorem text_any (i : Nat) (hi : i ≤ 4398046511104) (w : World) : Calls Tryz.prog 100 #[.int .i64 (i : Int)] w fun e w' => e = .returned (.string (mkT i)) ∧ GR w w' := by
  obtain ⟨a, ea⟩ : ∃ a, a = i % 26 := ⟨_, rfl⟩
  obtain ⟨b, eb⟩ : ∃ b, b = i / 26 % 26 := ⟨_, rfl⟩
  obtain ⟨c, ec⟩ : ∃ c, c = i / 676 % 26 := ⟨_, rfl⟩
  obtain ⟨p, ep⟩ : ∃ p, p = i / 26 := ⟨_, rfl⟩
  obtain ⟨q, eq⟩ : ∃ q, q = i / 676 := ⟨_, rfl⟩
  have ha : a < 26 := by omega
  have hb : b < 26 := by omega
  have hc : c < 26 := by omega
  have hp : p ≤ i := by omega
  have hq : q ≤ i := by omega
  obtain ⟨w1, v1⟩ := tx1 a (Nat.le_trans (Nat.le_of_lt ha) (by decide))
  obtain ⟨w2, v2⟩ := tx1 b (Nat.le_trans (Nat.le_of_lt hb) (by decide))
  obtain ⟨w3, v3⟩ := tx1 c (Nat.le_trans (Nat.le_of_lt hc) (by decide))
  obtain ⟨w4, v4⟩ := tx1 p (Nat.le_trans hp hi)
  obtain ⟨w5, v5⟩ := tx1 q (Nat.le_trans hq hi)
  obtain ⟨x1, y1⟩ := tx2 a ha
  obtain ⟨x2, y2⟩ := tx2 b hb
  obtain ⟨x3, y3⟩ := tx2 c hc
  have m1 : (i : Int).tmod 26 = (a : Int) := by rw [Int.tmod_eq_emod_of_nonneg (Int.natCast_nonneg _), ea]; rfl
  have m2 : (i : Int).tdiv 26 = (p : Int) := by rw [ep]; rfl
  have m3 : (i : Int).tdiv 676 = (q : Int) := by rw [eq]; rfl
  have m4 : (p : Int).tmod 26 = (b : Int) := by rw [Int.tmod_eq_emod_of_nonneg (Int.natCast_nonneg _), eb, ep]; rfl
  have m5 : (q : Int).tmod 26 = (c : Int) := by rw [Int.tmod_eq_emod_of_nonneg (Int.natCast_nonneg _), ec, eq]; rfl
  have cv := conv_mk w a b c ha hb hc
  have hm : Hid (mkT i = ⟨#[109, 97, 114, 107, 32, UInt8.ofNat (97 + a), UInt8.ofNat (97 + b), UInt8.ofNat (97 + c)]⟩) := by show _ = _; unfold mkT; rw [ea, eb, ec]
  rw [hm.out]
  clear ea eb ec ep eq hp hq hm ha hb hc hi
  generalize UInt8.ofNat (97 + a) = ua at *
  generalize UInt8.ofNat (97 + b) = ub at *
  generalize UInt8.ofNat (97 + c) = uc at *
  go_enter Tryz.func100, Tryz.ntmps100
  go_wp2_with fail
  go_ret
  exact ⟨rfl, (GR.refl w).alloc _⟩
end Go.Proofs.YtbojljmacheccaaGreatDoor.Tx
