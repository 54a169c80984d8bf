
import Derived.Test.YtmlankbaoanaeaaDoorSealB
namespace Go.Proofs.YtmlankbaoanaeaaDoor
open Go.RowKit
set_option linter.unusedVariables false
set_option linter.unusedSimpArgs false
theorem rnew_6 (w : World) : Calls Tryd.prog 84 #[.int .i64 6] w fun e w' => e = .returned (.agg #[.int .i64 6, .int .i64 0, .int .i64 0, .bool false, .bool false]) ∧ Below w.heap.size w w' := by
  go_enter Tryd.func84, Tryd.ntmps84
  go_wp2
  simp [bodyPost, results, Tryd.results84, go_sem]
  exact below_new (Below.refl _ _) _
set_option maxRecDepth 100000 in
theorem rbyte_any (N : Nat) (w1 : World) (fr : Int) (v : Value) (n : Nat) (xs : List Value) (w : World) (h : WS N w1 fr v n xs w) (x : Nat) (hb : n + 1 ≤ 140737488355328) :
    Calls Tryd.prog 45 #[.pointer (some ⟨N, 0, none⟩), .int .u8 (x : Int)] w fun e w' => e = .returned undef ∧ ∃ v', WS N w1 0 v' (n + 1) (xs ++ enc [x]) w' := by
  obtain ⟨i, i1, i0⟩ := Option.map_eq_some_iff.1 byte_info
  have i2 : i.zero = some (.int .u8 0) := congrArg (·.1) i0
  have i3 : i.bytes = 1 := congrArg (·.2.1) i0
  have i4 : i.size = 1 := congrArg (·.2.2) i0
  have hs0 := h.sz
  have c00 := h.c0
  have h2 := h.alloc (.cells #[.int .u8 (x : Int)] 5)
  have nw : ∀ j u, (enc [x])[j]? = some u → (w.alloc (.cells #[.int .u8 (x : Int)] 5)).cell? ((⟨w.heap.size, 0, none⟩ : Addr).add j) = some u := cells_news w [x] (0, 0)
  have hs := h2.sz
  have c0 := h2.c0
  have hml : maxLen = 9223372036854775807 := by decide
  clear i0
  go_enter Tryd.func45, Tryd.ntmps45
  go_wp2_with (at_builtin; refine wpList_append_lies _ (by rfl) _ _ _ (by rfl) (N + 1) 5 i (.int .u8 0) 1 1 Tryd.underlying24 i1 i2 i4 i3 rfl (by omega) v n xs (by rfl) h2.own ⟨w.heap.size, 0, none⟩ 1 1 (enc [x]) (by rfl) (by simp [enc]) nw (enc_one _) (by omega) (by omega) (by omega) (by omega) _ rfl ?_)
  intro g cap w2 hown hgrow hat hlt
  have hne : some N ≠ v.ownBlock := fun e => by have := h2.own.lt N e.symm; omega
  have c0' := (hgrow.cell_far ⟨N, 0, none⟩ hs hne).trans h2.c0
  have c1' := (hgrow.cell_far ⟨N, 1, none⟩ hs hne).trans h2.c1
  have f0' := (hgrow.frozen_far ⟨N, 0, none⟩ hs hne).trans h2.f0
  have f1' := (hgrow.frozen_far ⟨N, 1, none⟩ hs hne).trans h2.f1
  have hb' := h2.b.grown hgrow (by omega) (fun k e => by have := h2.own.lt k e; omega)
  have hz' := hgrow.size
  have hW := WS.put c0' c1' f0' f1' hb' (by omega) hown 0
  clear c0 hat hgrow c00 h2 nw
  go_wp2_with fail
  first | go_end0 | (simp only [Exit.inBlock, Exit.then]; refine bodyPost_ret (results_none rfl _ _ _) rfl ?_) | refine bodyPost_ret (results_none rfl _ _ _) rfl ?_
  exact ⟨rfl, _, hW⟩
theorem rbyte_z (N : Nat) (w1 : World) (fr : Int) (v : Value) (n : Nat) (xs : List Value) (w : World) (h : WS N w1 fr v n xs w) (x : Nat) (z : Int) (hz : z = (x : Int)) (hb : n + 1 ≤ 140737488355328) :
    Calls Tryd.prog 45 #[.pointer (some ⟨N, 0, none⟩), .int .u8 z] w fun e w' => e = .returned undef ∧ ∃ v', WS N w1 0 v' (n + 1) (xs ++ enc [x]) w' := by
  subst hz; exact rbyte_any N w1 fr v n xs w h x hb
theorem be4_at (v : Nat) : be4 v = [v / 2 ^ 24 % 256, v / 2 ^ 16 % 256, v / 2 ^ 8 % 256, v / 2 ^ 0 % 256] := by simp [be4]
set_option maxRecDepth 100000 in
set_option maxHeartbeats 2000000 in
theorem rfix_any (N : Nat) (w1 : World) (fr : Int) (v : Value) (n : Nat) (xs : List Value) (w : World) (h : WS N w1 fr v n xs w) (x : Nat) (hx : x < 4294967296) (z : Int) (hz : z = (x : Int)) (hb : n + 4 ≤ 140737488355328) :
    Calls Tryd.prog 47 #[.pointer (some ⟨N, 0, none⟩), .int .u32 z] w fun e w' => e = .returned undef ∧ ∃ v', WS N w1 0 v' (n + 4) (xs ++ enc (be4 x)) w' := by
  subst hz
  go_enter Tryd.func47, Tryd.ntmps47
  go_wp2_with fail
  go_loopw [4] (fun c wr => ∃ (k : Nat) (fr' : Int) (v' : Value), c = .int .i64 (k : Int) ∧ k ≤ 4 ∧ (k = 4 → fr' = 0) ∧ WS N w1 fr' v' (n + k) (xs ++ enc ((be4 x).take k)) wr) (fun c _ => 4 - (intOf c).toNat)
  case atStart => exact ⟨0, fr, v, rfl, by omega, by omega, by simpa [enc] using h⟩
  case round =>
    obtain ⟨k, fr', v', rfl, hk, hk0, hW⟩ := hrel
    by_cases hlt : k < 4
    · have hltI : (k : Int) < 4 := by omega
      rcases (show k = 0 ∨ k = 1 ∨ k = 2 ∨ k = 3 by omega) with rfl | rfl | rfl | rfl
      · go_wp2_with fail
        refine (rbyte_z N w1 fr' v' (n + 0) _ _ hW (x / 16777216 % 256) _ (by omega) (by omega)).mono ?_
        rintro e w2 ⟨rfl, v2, h2⟩
        go_wp2_with fail
        go_roundw
        case rel => exact ⟨1, 0, v2, by go_num, by omega, fun _ => rfl, by have := h2; rw [List.append_assoc, enc_append] at this; exact this⟩
        case measure => simp [intOf]
      · go_wp2_with fail
        refine (rbyte_z N w1 fr' v' (n + 1) _ _ hW (x / 65536 % 256) _ (by omega) (by omega)).mono ?_
        rintro e w2 ⟨rfl, v2, h2⟩
        go_wp2_with fail
        go_roundw
        case rel => exact ⟨2, 0, v2, by go_num, by omega, fun _ => rfl, by have := h2; rw [List.append_assoc, enc_append] at this; exact this⟩
        case measure => simp [intOf]
      · go_wp2_with fail
        refine (rbyte_z N w1 fr' v' (n + 2) _ _ hW (x / 256 % 256) _ (by omega) (by omega)).mono ?_
        rintro e w2 ⟨rfl, v2, h2⟩
        go_wp2_with fail
        go_roundw
        case rel => exact ⟨3, 0, v2, by go_num, by omega, fun _ => rfl, by have := h2; rw [List.append_assoc, enc_append] at this; exact this⟩
        case measure => simp [intOf]
      · go_wp2_with fail
        refine (rbyte_z N w1 fr' v' (n + 3) _ _ hW (x % 256) _ (by omega) (by omega)).mono ?_
        rintro e w2 ⟨rfl, v2, h2⟩
        go_wp2_with fail
        go_roundw
        case rel => exact ⟨4, 0, v2, by go_num, by omega, fun _ => rfl, by have := h2; rw [List.append_assoc, enc_append] at this; exact this⟩
        case measure => simp [intOf]
    · obtain rfl : k = 4 := by omega
      obtain rfl := hk0 rfl
      have hW' : WS N w1 0 v' (n + 4) (xs ++ enc (be4 x)) wr := hW
      go_wp2_with fail
      first | go_end0 | (simp only [Exit.inBlock, Exit.then]; refine bodyPost_ret (results_none rfl _ _ _) rfl ?_) | refine bodyPost_ret (results_none rfl _ _ _) rfl ?_
      exact ⟨rfl, _, hW'⟩
end Go.Proofs.YtmlankbaoanaeaaDoor
