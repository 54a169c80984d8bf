
import Derived.Test.YtaknjkinagppoaaGreatDoorKqC
import Derived.Test.YtaknjkinagppoaaGreatDoorKqP
import Derived.Test.YtaknjkinagppoaaGreatDoorKyV
import Derived.Test.YtaknjkinagppoaaGreatDoorKyS
namespace Go.Proofs.YtaknjkinagppoaaGreatDoor
open Go.RowKit Go.Shelf
attribute [local go_sem] Oper.semAt_some
set_option linter.unusedVariables false
set_option linter.unusedSimpArgs false
def fV : Option Int → Value
  | none => .nilIface
  | some p => atV p
/-- a reader in memory. -/
def RdA (N : Nat) (s : ByteArray) (st : StP) (W : World) : Prop := N < W.heap.size ∧ W.cell? ⟨N, 0, none⟩ = some (.string s) ∧ W.cell? ⟨N, 1, none⟩ = some (.int .i64 (st.1 : Int)) ∧ W.cell? ⟨N, 2, none⟩ = some (fV st.2) ∧ W.frozen? ⟨N, 1, none⟩ = false ∧ W.frozen? ⟨N, 2, none⟩ = false
theorem RdA.below {N B : Nat} {s : ByteArray} {st : StP} {W W' : World} (h : RdA N s st W) (hb : Below B W W') (hN : N < B) : RdA N s st W' := by
  obtain ⟨h0, h1, h2, h3, h4, h5⟩ := h
  exact ⟨Nat.lt_of_lt_of_le h0 hb.size, by rw [hb.cell (p := ⟨N, 0, none⟩) hN]; exact h1, by rw [hb.cell (p := ⟨N, 1, none⟩) hN]; exact h2, by rw [hb.cell (p := ⟨N, 2, none⟩) hN]; exact h3, by rw [hb.frozen (p := ⟨N, 1, none⟩) hN]; exact h4, by rw [hb.frozen (p := ⟨N, 2, none⟩) hN]; exact h5⟩
theorem RdA.set1 {N : Nat} {s : ByteArray} {st : StP} {W : World} (h : RdA N s st W) (k : Nat) : RdA N s (k, st.2) (W.setCell ⟨N, 1, none⟩ (.int .i64 (k : Int))) := by
  obtain ⟨h0, h1, h2, h3, h4, h5⟩ := h
  exact ⟨by simpa using h0, by simp [go_sem, h1], World.cell?_setCell_same _ _ _ h2, by simp [go_sem, h3], by simp [go_sem, h4], by simp [go_sem, h5]⟩
theorem RdA.set2 {N : Nat} {s : ByteArray} {st : StP} {W : World} (h : RdA N s st W) (p : Int) : RdA N s (st.1, some p) (W.setCell ⟨N, 2, none⟩ (atV p)) := by
  obtain ⟨h0, h1, h2, h3, h4, h5⟩ := h
  exact ⟨by simpa using h0, by simp [go_sem, h1], by simp [go_sem, h2], World.cell?_setCell_same _ _ _ h3, by simp [go_sem, h4], by simp [go_sem, h5]⟩
theorem grown_refl (w : World) (r : Option Nat) : w.grownBy w r := ⟨rfl, rfl, rfl, Nat.le_refl _, fun _ _ _ => rfl⟩
theorem grown_trans {w1 w2 w3 : World} {N : Nat} (h : w1.grownBy w2 (some N)) (k : w2.grownBy w3 (some N)) : w1.grownBy w3 (some N) :=
  ⟨k.os.trans h.os, k.tape.trans h.tape, k.output.trans h.output, Nat.le_trans h.size k.size, fun j hj hne => (k.block j (Nat.lt_of_lt_of_le hj h.size) hne).trans (h.block j hj hne)⟩
theorem grown_set (w : World) (N i : Nat) (v : Value) : w.grownBy (w.setCell ⟨N, i, none⟩ v) (some N) :=
  ⟨rfl, rfl, rfl, by simp, fun j hj hne => Below.heap_setCell _ _ _ _ (fun e => hne (by rw [e]))⟩
theorem grown_of_below {w w' : World} (N : Nat) (h : Below w.heap.size w w') : w.grownBy w' (some N) := ⟨h.os, h.tape, h.output, h.size, fun j hj _ => h.block j hj⟩
theorem w64_nat (k : Nat) (h : k ≤ 4000000) : wrap64 (k : Int) = (k : Int) := IntWalk.wrap64_in (k : Int) ⟨by omega, by omega⟩
theorem i64_nat (k : Nat) (h : k ≤ 4000000) : IntKind.i64.wrap (k : Int) = (k : Int) := IntWalk.i64_in (k : Int) ⟨by omega, by omega⟩
def atY (p : Int) : Value := .agg #[.int .i64 p, .iface 29 (.int .i64 53)]
theorem atV_eq (p : Int) : atV p = .iface 56 (atY p) := rfl
set_option maxRecDepth 100000 in
theorem fail_k (N : Nat) (s : ByteArray) (st : StP) (p : Int) (W : World) (h : RdA N s st W) : Calls Tryz.prog 25 #[.pointer (some ⟨N, 0, none⟩), .int .i64 p] W fun e w' => e = .returned undef ∧ RdA N s (failP st p) w' ∧ W.grownBy w' (some N) := by
  obtain ⟨at_, fl⟩ := st
  have hh : Hid (RdA N s (at_, fl) W) := h
  obtain ⟨h0, h1, h2, h3, h4, h5⟩ := h
  have ca : Hid (Calls Tryz.prog 47 #[.int .i64 p, .int .i64 53] W fun e w' => e = .returned (.iface 56 (atY p)) ∧ Below W.heap.size W w') := at_any p W
  cases fl with
  | none =>
    simp only [fV] at h3
    have hfin : Hid (∀ w1, Below W.heap.size W w1 → RdA N s (failP (at_, none) p) (w1.setCell ⟨N, 2, none⟩ (.iface 56 (atY p))) ∧ W.grownBy (w1.setCell ⟨N, 2, none⟩ (.iface 56 (atY p))) (some N)) := fun w1 hb => ⟨(hh.out.below hb h0).set2 p, grown_trans (grown_of_below N hb) (grown_set w1 N 2 _)⟩
    go_enter Tryz.func25, Tryz.ntmps25
    go_wp2_with (go_at_call 47; with_reducible refine Calls.mono ca.out ?_; rintro e w1 ⟨rfl, hb⟩; have k3 : w1.cell? ⟨N, 2, none⟩ = some .nilIface := (by rw [hb.cell (p := ⟨N, 2, none⟩) h0]; exact h3); have k5 : w1.frozen? ⟨N, 2, none⟩ = false := (by rw [hb.frozen (p := ⟨N, 2, none⟩) h0]; exact h5))
    first | go_end0 | (simp only [Exit.inBlock, Exit.then]; refine bodyPost_ret (results_none rfl _ _ _) rfl ?_) | refine bodyPost_ret (results_none rfl _ _ _) rfl ?_
    exact ⟨rfl, hfin.out w1 hb⟩
  | some q =>
    simp only [fV, atV] at h3
    go_enter Tryz.func25, Tryz.ntmps25
    go_wp2_with fail
    first | go_end0 | (simp only [Exit.inBlock, Exit.then]; refine bodyPost_ret (results_none rfl _ _ _) rfl ?_) | refine bodyPost_ret (results_none rfl _ _ _) rfl ?_
    exact ⟨rfl, hh.out, grown_refl _ _⟩
theorem ex_list (s : ByteArray) (k : Nat) : (s.extract k s.size).data.toList = s.data.toList.drop k := Lib.extract_to_end s k
set_option maxRecDepth 100000 in
set_option maxHeartbeats 4000000 in
theorem word_k (N : Nat) (s : ByteArray) (st : StP) (W : World) (h : RdA N s st W) (hg : ET W) (hs : s.size ≤ 4000000) (hst : st.1 ≤ s.data.toList.length) : Calls Tryz.prog 9 #[.pointer (some ⟨N, 0, none⟩)] W fun e w' => e = .returned (.string (ba (wordP s.data.toList st).1)) ∧ RdA N s (wordP s.data.toList st).2 w' ∧ W.grownBy w' (some N) := by
  obtain ⟨k, fl⟩ := st
  have hlen : s.data.toList.length = s.size := (Lib.size_eq s).symm
  simp only at hst
  rw [hlen] at hst
  have hh : Hid (RdA N s (k, fl) W) := h
  obtain ⟨h0, h1, h2, h3, h4, h5⟩ := h
  cases fl with
  | some q =>
    simp only [fV, atV] at h3
    go_enter Tryz.func9, Tryz.ntmps9
    go_wp2_with fail
    go_ret
    exact ⟨rfl, hh.out, grown_refl _ _⟩
  | none =>
    simp only [fV] at h3
    have hz : (s.extract k s.size).size ≤ s.size := by rw [Lib.size_eq, ex_list, List.length_drop, hlen]; omega
    have cU : ∀ W', Calls Tryz.prog 23 #[.string (s.extract k s.size)] W' fun e w' => e = .returned (outV (uneT (s.data.toList.drop k))) ∧ Below W'.heap.size W' w' := fun W' => by
      have := unescape_any (s.extract k s.size) W' (by omega) (fun a b => mk_extract _ (by omega) a b)
      rw [ex_list] at this
      exact this
    have hk1 : (k : Int) ≤ (s.size : Int) := by omega
    have S0 : Hid (W.cell? ⟨N, 0, none⟩ = some (.string s) ∧ W.cell? ⟨N, 1, none⟩ = some (.int .i64 (k : Int))) := ⟨h1, h2⟩
    have S0d : W.drew.cell? ⟨N, 0, none⟩ = some (.string s) ∧ W.drew.cell? ⟨N, 1, none⟩ = some (.int .i64 (k : Int)) := ⟨h1, h2⟩
    have hKp : Hid (∀ w1, Below W.heap.size W w1 → w1.cell? ⟨N, 0, none⟩ = some (.string s) ∧ w1.cell? ⟨N, 1, none⟩ = some (.int .i64 (k : Int))) := fun w1 hb => ⟨by rw [hb.cell (p := ⟨N, 0, none⟩) h0]; exact h1, by rw [hb.cell (p := ⟨N, 1, none⟩) h0]; exact h2⟩
    cases hu : uneT (s.data.toList.drop k) with
    | ok t n =>
      have hn : k + n ≤ s.size := by
        have h9 := (uneT_ok hu).1
        rw [List.length_drop] at h9
        rw [← hlen]
        omega
      have hnI : (k : Int) + (n : Int) ≤ 4000000 := by omega
      have hn0 : (0 : Int) ≤ (k : Int) + (n : Int) := by omega
      have hw : wordP s.data.toList (k, none) = (t, (k + n, none)) := by unfold wordP; rw [if_pos rfl]; simp only; rw [hu]
      rw [hw]
      rw [hu] at cU
      simp only [outV] at cU
      have hfin : Hid (∀ w1, Below W.heap.size W w1 → RdA N s (k + n, none) (w1.setCell ⟨N, 1, none⟩ (.int .i64 ((k : Int) + (n : Int)))) ∧ W.grownBy (w1.setCell ⟨N, 1, none⟩ (.int .i64 ((k : Int) + (n : Int)))) (some N)) := fun w1 hb => ⟨(hh.out.below hb h0).set1 (k + n), grown_trans (grown_of_below N hb) (grown_set w1 N 1 _)⟩
      have hfr : Hid (∀ w1, Below W.heap.size W w1 → w1.frozen? ⟨N, 1, none⟩ = false) := fun w1 hb => by rw [hb.frozen (p := ⟨N, 1, none⟩) h0]; exact h4
      have cUH : Hid (Calls Tryz.prog 23 #[.string (s.extract k s.size)] W.drew fun e w' => e = .returned (.tuple #[.string ⟨t.toArray⟩, .int .i64 (n : Int), .nilIface]) ∧ Below W.heap.size W w') := (cU W.drew).mono fun e w' hx => ⟨hx.1, (Below.refl _ W).drew.trans hx.2⟩
      have wk : wrap64 ((k : Int) + (n : Int)) = (k : Int) + (n : Int) := IntWalk.wrap64_in _ (by omega)
      have wi : IntKind.i64.wrap ((k : Int) + (n : Int)) = (k : Int) + (n : Int) := IntWalk.i64_in _ (by omega)
      clear cU hw hu
      go_enter Tryz.func9, Tryz.ntmps9
      go_wp2_with fail
      go_region_held3 (fun W' => W'.cell? ⟨N, 0, none⟩ = some (.string s) ∧ W'.cell? ⟨N, 1, none⟩ = some (.int .i64 (k : Int))) (first | assumption)
        (first
          | (go_at_call 23; (with_reducible refine Calls.mono cUH.out ?_); rintro e w1 ⟨rfl, BB⟩; have SS := hKp.out w1 BB))
      all_goals
        have q1 := (hKp.out w1 BB).2
        have q2 := hfr.out w1 BB
        go_wp2_with fail
        go_ret
        exact ⟨rfl, hfin.out w1 BB⟩
    | bad p =>
      have hp := uneT_bad hu
      rw [List.length_drop] at hp
      have hp1 : -1 ≤ p ∧ p ≤ 4000000 := by omega
      have hk4 : k ≤ 4000000 := by omega
      have hkp : -9223372036854775808 ≤ (k : Int) + p ∧ (k : Int) + p ≤ 9223372036854775807 := by omega
      have hw : wordP s.data.toList (k, none) = ([], (k, some ((k : Int) + p))) := by unfold wordP; rw [if_pos rfl]; simp only; rw [hu]
      rw [hw]
      rw [hu] at cU
      simp only [outV, atV_eq] at cU
      obtain ⟨Y, hY⟩ : ∃ Y, Y = atY p := ⟨_, rfl⟩
      have cP : Hid (∀ W', ET W' → Calls Tryz.prog 24 #[.iface 56 Y] W' fun e w' => e = .returned (.tuple #[.int .i64 p, .bool true]) ∧ Below W'.heap.size W' w') := fun W' hW => by rw [hY]; exact place_at p W' hW
      have wk : wrap64 ((k : Int) + p) = (k : Int) + p := IntWalk.wrap64_in _ hkp
      have wi : IntKind.i64.wrap ((k : Int) + p) = (k : Int) + p := IntWalk.i64_in _ hkp
      have wk0 : wrap64 (k : Int) = (k : Int) := w64_nat k hk4
      have wi0 : IntKind.i64.wrap (k : Int) = (k : Int) := i64_nat k hk4
      have cF : Hid (∀ W', Below W.heap.size W W' → Calls Tryz.prog 25 #[.pointer (some ⟨N, 0, none⟩), .int .i64 ((k : Int) + p)] W' fun e w' => e = .returned undef ∧ RdA N s (k, some ((k : Int) + p)) w' ∧ W.grownBy w' (some N)) := fun W' hb => (fail_k N s (k, none) ((k : Int) + p) W' (hh.out.below hb h0)).mono fun e w' hx => ⟨hx.1, hx.2.1, grown_trans (grown_of_below N hb) hx.2.2⟩
      have hfin : Hid (∀ w3, RdA N s (k, some ((k : Int) + p)) w3 → W.grownBy w3 (some N) → RdA N s (k, some ((k : Int) + p)) (w3.setCell ⟨N, 1, none⟩ (.int .i64 (k : Int))) ∧ W.grownBy (w3.setCell ⟨N, 1, none⟩ (.int .i64 (k : Int))) (some N)) := fun w3 hx hy => ⟨hx.set1 k, grown_trans hy (grown_set w3 N 1 _)⟩
      have hc3 : Hid (∀ w3, RdA N s (k, some ((k : Int) + p)) w3 → w3.cell? ⟨N, 1, none⟩ = some (.int .i64 (k : Int)) ∧ w3.frozen? ⟨N, 1, none⟩ = false) := fun w3 hx => ⟨hx.2.2.1, hx.2.2.2.2.1⟩
      have cUH : Hid (Calls Tryz.prog 23 #[.string (s.extract k s.size)] W.drew fun e w' => e = .returned (.tuple #[.string ⟨#[]⟩, .int .i64 0, .iface 56 Y]) ∧ Below W.heap.size W w') := by rw [hY]; exact (cU W.drew).mono fun e w' hx => ⟨hx.1, (Below.refl _ W).drew.trans hx.2⟩
      have hgH : Hid (∀ w1, Below W.heap.size W w1 → ET w1) := fun w1 hb => ET_below hg hb
      clear cU hw hu hY hp hp1 hkp hk4
      go_enter Tryz.func9, Tryz.ntmps9
      go_wp2_with fail
      go_region_held3 (fun W' => W'.cell? ⟨N, 0, none⟩ = some (.string s) ∧ W'.cell? ⟨N, 1, none⟩ = some (.int .i64 (k : Int))) (first | assumption)
        (first
          | (go_at_call 23; (with_reducible refine Calls.mono cUH.out ?_); rintro e w1 ⟨rfl, BB⟩; have SS := hKp.out w1 BB))
      all_goals
        go_wp2_with (go_at_call 24; with_reducible refine Calls.mono (cP.out _ (hgH.out _ BB)) ?_; rintro e w2 ⟨rfl, B2⟩; have B3 := BB.trans (B2.mono BB.size); have q1 := (hKp.out w2 B3).2)
        go_wp2_with fail
        refine Calls.mono (cF.out _ B3) ?_
        rintro e w3 ⟨rfl, R3, G3⟩
        obtain ⟨r1, r2⟩ := hc3.out w3 R3
        go_wp2_with fail
        go_ret
        exact ⟨rfl, hfin.out w3 R3 G3⟩
end Go.Proofs.YtaknjkinagppoaaGreatDoor
