
import Derived.Test.YtlcpkbllpkgihaaDoorDocW
namespace Go.Proofs.YtlcpkbllpkgihaaDoor
open Go.RowKit
set_option linter.unusedVariables false
set_option linter.unusedSimpArgs false
theorem be4_at (v : Nat) : be4 v = [v / 2 ^ 24 % 256, v / 2 ^ 16 % 256, v / 2 ^ 8 % 256, v / 2 ^ 0 % 256] := by simp [be4]
set_option maxRecDepth 100000 in
set_option maxHeartbeats 2000000 in
theorem rfix_fr (N : Nat) (w1 : World) (fr : Int) (v : Value) (n : Nat) (xs : List Value) (w : World) (h : WS N w1 fr v n xs w) (x : Nat) (hx : x < 4294967296) (z : Int) (hz : z = (x : Int)) (hb : n + 4 ≤ 140737488355328) :
    Calls Tryd.prog 47 #[.pointer (some ⟨N, 0, none⟩), .int .u32 z] w fun e w' => e = .returned undef ∧ ∃ v', WS N w1 0 v' (n + 4) (xs ++ enc (be4 x)) w' ∧ Fr N v v' w w' := by
  subst hz
  have e24 := be4_at x
  clear e24
  go_enter Tryd.func47, Tryd.ntmps47
  go_wp2_with fail
  go_loopw [4] (fun c wr => ∃ (k : Nat) (fr' : Int) (v' : Value), c = .int .i64 (k : Int) ∧ k ≤ 4 ∧ (k = 4 → fr' = 0) ∧ WS N w1 fr' v' (n + k) (xs ++ enc ((be4 x).take k)) wr ∧ Fr N v v' w wr) (fun c _ => 4 - (intOf c).toNat)
  case atStart => exact ⟨0, fr, v, rfl, by omega, by omega, by simpa [enc] using h, Fr.refl _ _ _⟩
  case round =>
    obtain ⟨k, fr', v', rfl, hk, hk0, hW, hF⟩ := hrel
    by_cases hlt : k < 4
    · have hltI : (k : Int) < 4 := by omega
      rcases (show k = 0 ∨ k = 1 ∨ k = 2 ∨ k = 3 by omega) with rfl | rfl | rfl | rfl
      · go_wp2_with fail
        refine (rbyte_fr N w1 fr' v' (n + 0) _ _ hW (x / 16777216 % 256) _ (by omega) (by omega)).mono ?_
        rintro e w2 ⟨rfl, v2, h2, F2⟩
        go_wp2_with fail
        go_roundw
        case rel => exact ⟨1, 0, v2, by go_num, by omega, fun _ => rfl, by have := h2; rw [List.append_assoc, enc_append] at this; exact this, hF.trans F2⟩
        case measure => simp [intOf]
      · go_wp2_with fail
        refine (rbyte_fr N w1 fr' v' (n + 1) _ _ hW (x / 65536 % 256) _ (by omega) (by omega)).mono ?_
        rintro e w2 ⟨rfl, v2, h2, F2⟩
        go_wp2_with fail
        go_roundw
        case rel => exact ⟨2, 0, v2, by go_num, by omega, fun _ => rfl, by have := h2; rw [List.append_assoc, enc_append] at this; exact this, hF.trans F2⟩
        case measure => simp [intOf]
      · go_wp2_with fail
        refine (rbyte_fr N w1 fr' v' (n + 2) _ _ hW (x / 256 % 256) _ (by omega) (by omega)).mono ?_
        rintro e w2 ⟨rfl, v2, h2, F2⟩
        go_wp2_with fail
        go_roundw
        case rel => exact ⟨3, 0, v2, by go_num, by omega, fun _ => rfl, by have := h2; rw [List.append_assoc, enc_append] at this; exact this, hF.trans F2⟩
        case measure => simp [intOf]
      · go_wp2_with fail
        refine (rbyte_fr N w1 fr' v' (n + 3) _ _ hW (x % 256) _ (by omega) (by omega)).mono ?_
        rintro e w2 ⟨rfl, v2, h2, F2⟩
        go_wp2_with fail
        go_roundw
        case rel => exact ⟨4, 0, v2, by go_num, by omega, fun _ => rfl, by have := h2; rw [List.append_assoc, enc_append] at this; exact this, hF.trans F2⟩
        case measure => simp [intOf]
    · obtain rfl : k = 4 := by omega
      obtain rfl := hk0 rfl
      have hW' : WS N w1 0 v' (n + 4) (xs ++ enc (be4 x)) wr := hW
      go_wp2_with fail
      first | go_end0 | (simp only [Exit.inBlock, Exit.then]; refine bodyPost_ret (results_none rfl _ _ _) rfl ?_) | refine bodyPost_ret (results_none rfl _ _ _) rfl ?_
      exact ⟨rfl, _, hW', hF⟩
end Go.Proofs.YtlcpkbllpkgihaaDoor
