
import Derived.Test.YtcbcpncbekeoaaaDoorFpB
import Derived.Test.YtcbcpncbekeoaaaDoorFnP
namespace Go.Proofs.YtcbcpncbekeoaaaDoor
open Go.RowKit
set_option linter.unusedVariables false
set_option linter.unusedSimpArgs false
def B (l : List UInt8) : ByteArray := ⟨l.toArray⟩
theorem B_list (l : List UInt8) : (B l).data.toList = l := by simp [B]
theorem B_of (T : ByteArray) : B T.data.toList = T := by cases T; simp [B]
theorem B_app (a b : List UInt8) : B a ++ B b = B (a ++ b) := by unfold B; rw [ByteArray.ext_iff]; simp
theorem B_size (l : List UInt8) : (B l).size = l.length := mk_size l
theorem label_any (word : List UInt8) (hw : word.length ≤ 100) (n : Int) (hn : I64' n) (w : World) (hE : EV w) :
    Calls Tryd.prog 21 #[.string (B word), .int .i64 n] w fun e w' => e = .returned (.string (B (lab word (some n)))) ∧ Below w.heap.size w w' := by
  have hI : Hid (∀ w, EV w → Calls Tryd.prog 28 #[.int .i64 n] w fun e' w' => e' = .returned (.string (B (Lib.itoa n))) ∧ Below w.heap.size w w') := fun w h => itoa_any n hn.1 hn.2 w h
  have hl := itoa_len n hn.1 hn.2
  have s1 := B_size word
  have s2 := B_size (Lib.itoa n)
  have hR : Hid (B (lab word (some n)) = B word ++ B (Lib.itoa n) ++ (⟨#[58, 32]⟩ : ByteArray)) := by
    show _ = _
    rw [show (⟨#[58, 32]⟩ : ByteArray) = B csp from rfl, B_app, B_app]; unfold lab; rw [List.append_assoc]
  obtain ⟨W, hW⟩ : ∃ W, W = B word := ⟨_, rfl⟩
  obtain ⟨T, hT⟩ : ∃ T, T = B (Lib.itoa n) := ⟨_, rfl⟩
  rw [← hT] at hI hR s2
  rw [← hW] at hR s1 ⊢
  have c1 : ¬ 9223372036854775807 < W.size + T.size := by omega
  have c2 : ¬ 9223372036854775807 < (W ++ T).size + 2 := by rw [ByteArray.size_append]; omega
  have c3 : ¬ 9223372036854775807 < W.size + T.size + 2 := by omega
  have hEH : Hid _ := hE
  clear hW hT hE s1 s2 hl
  go_enter Tryd.func21, Tryd.ntmps21
  go_wp2_with fail
  refine (hI.out _ hEH.out).mono ?_
  rintro e1 w1 ⟨rfl, B1⟩
  go_wp2_with fail
  go_ret
  exact ⟨by rw [hR.out]; rfl, B1⟩
end Go.Proofs.YtcbcpncbekeoaaaDoor
