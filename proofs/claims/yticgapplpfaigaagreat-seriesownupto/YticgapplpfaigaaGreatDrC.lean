
import Derived.Test.YticgapplpfaigaaGreatDrB
namespace Go.Proofs.YticgapplpfaigaaGreat
open Go.RowKit
set_option linter.unusedVariables false
set_option linter.unusedSimpArgs false
theorem cutL_rise {l : List Smp} (h : Rise l) (t : Int) : Rise (cutL l t) := by
  unfold cutL
  split
  · exact List.Pairwise.sublist (cut_sub l _ _ (by omega)) h
  · exact h
set_option maxRecDepth 100000 in
set_option maxHeartbeats 4000000 in
theorem rcut_any (N B : Nat) (v : Value) (l : List Smp) (w : World) (h : SS N B v l w) (t : Int) :
    Calls Tryz.prog 24 #[.pointer (some ⟨N, 0, none⟩), .int .i64 t] w fun e w' => e = .returned (.tuple #[.agg #[.int .u8 ((getV l t).1 : Int), .int .i64 (getV l t).2], .bool (hasT l t)]) ∧ ∃ v', SS N B v' (cutL l t) w' ∧ RFr N v v' w w' := by
  have hget : Hid (∀ W, SS N B v l W → Calls Tryz.prog 33 #[.pointer (some ⟨N, 0, none⟩), .int .i64 t] W fun e w' => e = .returned (.tuple #[.agg #[.int .u8 ((getV l t).1 : Int), .int .i64 (getV l t).2], .bool (hasT l t)]) ∧ Below W.heap.size W w') := fun W hW => rget_any N B v l t W hW
  have hahd : Hid (∀ W, SS N B v l W → Calls Tryz.prog 77 #[.pointer (some ⟨N, 0, none⟩), .int .i64 t] W fun e w' => e = .returned (.int .i64 (ahd l t : Int)) ∧ Below W.heap.size W w') := fun W hW => rahead_any N B v l t W hW
  have hH : Hid (SS N B v l w) := h
  have hn := h.hn
  have hNw := h.hN
  clear h
  go_enter Tryz.func24, Tryz.ntmps24
  go_wp2_with fail
  refine Calls.mono (hget.out _ (hH.out.alloc _)) ?_
  rintro e w1 ⟨rfl, hB1⟩
  have hS1 : Hid (SS N B v l w1) := (hH.out.alloc _).below hB1
  have hB01 := alloc_below hB1
  obtain ⟨r0, r1, z0, z1, hz⟩ := res_cells hB1
  obtain ⟨gv, hgv⟩ : ∃ g, g = getV l t := ⟨_, rfl⟩
  have hgvH : Hid (gv = getV l t) := hgv
  rw [← hgv]
  clear hgv hget
  have n1 : w.heap.size ≠ w1.heap.size := by omega
  have n2 : N ≠ w.heap.size := by omega
  have n3 : N ≠ w1.heap.size := by omega
  cases hh : hasT l t with
  | false =>
    have hcl : cutL l t = l := by unfold cutL; rw [if_neg (by rw [hh]; simp)]
    clear hB1
    have r0' : (w1.alloc (.cells #[.int .u8 (gv.1 : Int), .int .i64 gv.2] 61)).cell? ⟨w.heap.size, 0, none⟩ = some (.int .u8 0) := by rw [World.cell?_alloc_old _ _ _ n1]; exact r0
    have r1' : (w1.alloc (.cells #[.int .u8 (gv.1 : Int), .int .i64 gv.2] 61)).cell? ⟨w.heap.size, 1, none⟩ = some (.int .i64 0) := by rw [World.cell?_alloc_old _ _ _ n1]; exact r1
    go_wp2_with fail
    refine bodyPost_ret (v := .tuple #[.agg #[.int .u8 (gv.1 : Int), .int .i64 gv.2], .bool false]) ?_ rfl ⟨by rw [hgvH.out, hh], v, ?_, ?_⟩
    · simp [results, Tryz.results24, go_sem, r0, r1, n1, n1.symm, hz]
    · rw [hcl]
      have hne : v.ownBlock ≠ some w.heap.size := fun e => by have := hH.out.row.lt e; omega
      first
        | exact ((hS1.out.other (p := ⟨w.heap.size, 0, none⟩) n2 hne _).other (p := ⟨w.heap.size, 1, none⟩) n2 hne _).alloc _
        | exact ((hS1.out.alloc _).other (p := ⟨w.heap.size, 0, none⟩) n2 hne _).other (p := ⟨w.heap.size, 1, none⟩) n2 hne _
    · first
        | exact (RFr.of hB01).tail ((((Below.refl _ w1).setCell (p := ⟨w.heap.size, 0, none⟩) (Nat.le_refl _) _).setCell (p := ⟨w.heap.size, 1, none⟩) (Nat.le_refl _) _).alloc (by simp; omega) _)
        | exact (RFr.of hB01).tail ((((Below.refl _ w1).alloc (by omega) _).setCell (p := ⟨w.heap.size, 0, none⟩) (Nat.le_refl _) _).setCell (p := ⟨w.heap.size, 1, none⟩) (Nat.le_refl _) _)
  | true =>
    go_wp2_with fail
    refine Calls.mono (hahd.out _ (hS1.out.alloc _)) ?_
    rintro e w2 ⟨rfl, hB2⟩
    have hS2 : Hid (SS N B v l w2) := (hS1.out.alloc _).below hB2
    have hB12 := alloc_below hB2
    have hB02 : Below w.heap.size w w2 := hB01.trans (hB12.mono hB01.size)
    obtain ⟨o0, o1, y0, y1, hy⟩ := res_cells hB2
    have hqlt : ahd l t < l.length := by
      obtain ⟨y, hy, _⟩ := (hasT_iff hS2.out.hr t).1 hh
      exact (List.getElem?_eq_some_iff.1 hy).1
    obtain ⟨a, cap, hv, hcap, hL, hform⟩ := hS2.out.row.lin2 hS2.out.hk
    obtain ⟨g, rfl⟩ : ∃ g, a = some ⟨g, 0, none⟩ := by
      rcases hform with ⟨e, e2⟩ | e
      · omega
      · exact e
    have hLH : Hid (LIn w2 (some ⟨g, 0, none⟩) l) := hL
    have c0 := hS2.out.c0
    rw [hv] at c0
    obtain ⟨q, hq⟩ : ∃ q, q = ahd l t := ⟨_, rfl⟩
    have hqH : Hid (q = ahd l t) := hq
    rw [← hq] at hqlt ⊢
    obtain ⟨n, hnl⟩ : ∃ n, n = l.length := ⟨_, rfl⟩
    have hnH : Hid (n = l.length) := hnl
    rw [← hnl] at hqlt hn c0 hcap
    obtain ⟨v3, w3, hr3, hO3, hB3, _⟩ := app_gen w2 w2.heap.size (.slice none 0 0) [] (l.take q) (Or.inl (World.ownsRow_nil _ _ _ _)) (Nat.le_refl _) (some ⟨g, 0, none⟩) cap (by simp) (hL.take q) (by simp; omega)
    rw [List.length_take, ← hnl, Nat.min_eq_left (by omega)] at hr3
    rw [List.nil_append] at hO3
    have hin1 : w.heap.size < w2.heap.size := by omega
    have R0 : Hid (w2.cell? ⟨w.heap.size, 0, none⟩ = some (.int .u8 0) ∧ w2.cell? ⟨w.heap.size, 1, none⟩ = some (.int .i64 0) ∧ w2.frozen? ⟨w.heap.size, 0, none⟩ = false ∧ w2.frozen? ⟨w.heap.size, 1, none⟩ = false) :=
      ⟨(hB12.cell (p := ⟨w.heap.size, 0, none⟩) (by simp; omega)).trans r0, (hB12.cell (p := ⟨w.heap.size, 1, none⟩) (by simp; omega)).trans r1, (frozen_block (hB12.block _ (by omega))).trans z0, (frozen_block (hB12.block _ (by omega))).trans z1⟩
    have O0 : Hid (w2.cell? ⟨w1.heap.size, 0, none⟩ = some (.int .u8 (gv.1 : Int)) ∧ w2.cell? ⟨w1.heap.size, 1, none⟩ = some (.int .i64 gv.2)) := ⟨o0, o1⟩
    have hO3k : Hid (∀ y ∈ l.take q, y.ok) := fun y hy => hL.1 y (List.mem_of_mem_take hy)
    have e3 : ∃ a3 c3, v3 = .slice a3 q c3 ∧ q ≤ c3 := by
      obtain ⟨a3, c3, e, hc, _⟩ := hO3.lin hO3k.out
      rw [List.length_take, ← hnl, Nat.min_eq_left (by omega)] at e hc
      exact ⟨a3, c3, e, hc⟩
    obtain ⟨a3, c3, rfl, hc3⟩ := e3
    have hr3H : Hid (∀ W, W = w2 → (Builtin.append_ #[62, 62] 62 #[.slice none 0 0, .slice (some ⟨g, 0, none⟩) q cap]).run Tryz.prog W = .ok (.slice a3 q c3) w3) := fun W e => by rw [e]; exact hr3
    have hO3H : Hid (OR w3 w2.heap.size (.slice a3 q c3) (l.take q)) := hO3
    have hB3H : Hid (Below w2.heap.size w2 w3) := hB3
    have hN2 := hS2.out.hN
    have c03 : w3.cell? ⟨N, 0, none⟩ = some (.slice (some ⟨g, 0, none⟩) n cap) := (hB3.cell (p := ⟨N, 0, none⟩) hN2).trans c0
    have hL3 : Hid (LIn w3 (some ⟨g, 0, none⟩) l) := hL.below hB3 (Nat.le_refl _)
    have hfin : Hid (∀ v5 w5, OR w5 w2.heap.size v5 (l.take q ++ l.drop (q + 1)) → Below w2.heap.size w2 w5 → (SS N B v5 (cutL l t) (w5.setCell ⟨N, 0, none⟩ v5) ∧ RFr N v v5 w (w5.setCell ⟨N, 0, none⟩ v5)) ∧ v5.ownBlock ≠ some w.heap.size) := by
      intro v5 w5 hO5 hB5
      have hbd : v5.ownBlock ≠ some w.heap.size := fun e => by have := hO5.bound e; omega
      have hcl : l.take q ++ l.drop (q + 1) = cutL l t := by unfold cutL; rw [if_pos hh, hqH.out]
      have hsub : (cutL l t).Sublist l := by rw [← hcl]; exact cut_sub l _ _ (by omega)
      rw [hcl] at hO5
      have := hS2.out.fresh hB5 hO5 (fun y hy => hS2.out.hk y (hsub.subset hy)) (cutL_rise hS2.out.hr t) (by have := hsub.length_le; have := hnH.out; omega)
      exact ⟨⟨this.1, (RFr.of hB02).trans this.2⟩, hbd⟩
    have happ0 : Hid (∀ ad c W, W = w3 → (Builtin.append_ #[62, 62] 62 #[.slice a3 q c3, .slice ad 0 c]).run Tryz.prog W = .ok (.slice a3 q c3) w3) := fun ad c W e => by rw [e]; exact app_no _ _ _ _ _ _ hc3
    have q0 : (0 : Int) ≤ (q : Int) := by omega
    have hqI : (q : Int) ≤ (n : Int) := by omega
    have hqc : (q : Int) ≤ (cap : Int) := by omega
    have hq1 : (q : Int) + 1 ≤ (n : Int) := by omega
    have hq1c : (q : Int) + 1 ≤ (cap : Int) := by omega
    clear hr3 hq hnl hL hB1 hB2 hahd hS1 hB01 hB12 hO3 hB3 r0 r1 z0 z1 o0 o1 y0 y1 hform hv
    rcases Nat.lt_or_ge (q + 1) n with hqn | hqn
    · obtain ⟨v5, w5, hr5, hO5, hB5, _⟩ := app_gen w3 w2.heap.size (.slice a3 q c3) (l.take q) (l.drop (q + 1)) hO3H.out hB3H.out.size (some ⟨g, 0 + (q + 1) * 3, none⟩) (cap - (q + 1)) hO3k.out (hL3.out.drop (q + 1)) (by rw [List.length_take, List.length_drop, ← hnH.out]; omega)
      rw [List.length_drop, ← hnH.out, Nat.zero_add] at hr5
      obtain ⟨a5, c5, e5, _⟩ := hO5.lin (fun y hy => by
        rcases List.mem_append.1 hy with e | e
        · exact hO3k.out y e
        · exact hLH.out.1 y (List.mem_of_mem_drop e))
      obtain ⟨m5, hm5⟩ : ∃ m, m = (l.take q ++ l.drop (q + 1)).length := ⟨_, rfl⟩
      rw [← hm5] at e5
      subst e5
      clear hm5
      have hB25 : Below w2.heap.size w2 w5 := hB3H.out.trans hB5
      have hf2 : Hid _ := hfin.out _ w5 hO5 hB25
      have hr5H : Hid (∀ W, W = w3 → (Builtin.append_ #[62, 62] 62 #[.slice a3 q c3, .slice (some ⟨g, (q + 1) * 3, none⟩) (n - (q + 1)) (cap - (q + 1))]).run Tryz.prog W = .ok (.slice a5 m5 c5) w5) := fun W e => by rw [e]; exact hr5
      have hqcI : (q : Int) + 1 < (cap : Int) := by omega
      have hqnI : (q : Int) + 1 < (n : Int) := by omega
      have c05 : w5.cell? ⟨N, 0, none⟩ = some (.slice (some ⟨g, 0, none⟩) n cap) := (hB25.cell (p := ⟨N, 0, none⟩) hN2).trans c0
      have f05 : w5.frozen? ⟨N, 0, none⟩ = false := (frozen_block (hB25.block N hN2)).trans hS2.out.f0
      have O50 : w5.cell? ⟨w1.heap.size, 0, none⟩ = some (.int .u8 (gv.1 : Int)) := (hB25.cell (p := ⟨w1.heap.size, 0, none⟩) (by simpa using hy)).trans O0.out.1
      have O51 : w5.cell? ⟨w1.heap.size, 1, none⟩ = some (.int .i64 gv.2) := (hB25.cell (p := ⟨w1.heap.size, 1, none⟩) (by simpa using hy)).trans O0.out.2
      have R50 : w5.cell? ⟨w.heap.size, 0, none⟩ = some (.int .u8 0) := (hB25.cell (p := ⟨w.heap.size, 0, none⟩) (by simpa using hin1)).trans R0.out.1
      have R51 : w5.cell? ⟨w.heap.size, 1, none⟩ = some (.int .i64 0) := (hB25.cell (p := ⟨w.heap.size, 1, none⟩) (by simpa using hin1)).trans R0.out.2.1
      have F50 : w5.frozen? ⟨w.heap.size, 0, none⟩ = false := (frozen_block (hB25.block _ hin1)).trans R0.out.2.2.1
      have F51 : w5.frozen? ⟨w.heap.size, 1, none⟩ = false := (frozen_block (hB25.block _ hin1)).trans R0.out.2.2.2
      clear hr5 hO5 hB5
      go_wp2_with (at_builtin; first | (refine wpList_append_run (by rfl) _ _ _ (by rfl) _ _ _ _ (by rfl) (by rfl) (hr3H.out _ rfl) ?_) | (refine wpList_append_run (by rfl) _ _ _ (by rfl) _ _ _ _ (by rfl) (by rfl) (hr5H.out _ rfl) ?_))
      have hT := put_done hf2.out n2 (Nat.le_refl _) (.int .u8 (gv.1 : Int)) (.int .i64 gv.2)
      refine bodyPost_ret (v := .tuple #[.agg #[.int .u8 (gv.1 : Int), .int .i64 gv.2], .bool true]) ?_ rfl ⟨by rw [hgvH.out, hh], _, hT.1, hT.2⟩
      simp [results, Tryz.results24, go_sem, R50, R51, n2, n2.symm]
    · obtain rfl : q + 1 = n := by omega
      have hf2 : Hid _ := hfin.out _ w3 (by rw [show l.drop (q + 1) = [] by rw [hnH.out, List.drop_length], List.append_nil]; exact hO3H.out) hB3H.out
      have c05 : w3.cell? ⟨N, 0, none⟩ = some (.slice (some ⟨g, 0, none⟩) (q + 1) cap) := (hB3H.out.cell (p := ⟨N, 0, none⟩) hN2).trans c0
      have f05 : w3.frozen? ⟨N, 0, none⟩ = false := (frozen_block (hB3H.out.block N hN2)).trans hS2.out.f0
      have O50 : w3.cell? ⟨w1.heap.size, 0, none⟩ = some (.int .u8 (gv.1 : Int)) := (hB3H.out.cell (p := ⟨w1.heap.size, 0, none⟩) (by simpa using hy)).trans O0.out.1
      have O51 : w3.cell? ⟨w1.heap.size, 1, none⟩ = some (.int .i64 gv.2) := (hB3H.out.cell (p := ⟨w1.heap.size, 1, none⟩) (by simpa using hy)).trans O0.out.2
      have R50 : w3.cell? ⟨w.heap.size, 0, none⟩ = some (.int .u8 0) := (hB3H.out.cell (p := ⟨w.heap.size, 0, none⟩) (by simpa using hin1)).trans R0.out.1
      have R51 : w3.cell? ⟨w.heap.size, 1, none⟩ = some (.int .i64 0) := (hB3H.out.cell (p := ⟨w.heap.size, 1, none⟩) (by simpa using hin1)).trans R0.out.2.1
      have F50 : w3.frozen? ⟨w.heap.size, 0, none⟩ = false := (frozen_block (hB3H.out.block _ hin1)).trans R0.out.2.2.1
      have F51 : w3.frozen? ⟨w.heap.size, 1, none⟩ = false := (frozen_block (hB3H.out.block _ hin1)).trans R0.out.2.2.2
      by_cases hcc : q + 1 = cap
      · subst hcc
        go_wp2_with (at_builtin; first | (refine wpList_append_run (by rfl) _ _ _ (by rfl) _ _ _ _ (by rfl) (by rfl) (hr3H.out _ rfl) ?_) | (refine wpList_append_run (by rfl) _ _ _ (by rfl) _ _ _ _ (by rfl) (by rfl) (happ0.out _ _ _ rfl) ?_))
        have hT := put_done hf2.out n2 (Nat.le_refl _) (.int .u8 (gv.1 : Int)) (.int .i64 gv.2)
        refine bodyPost_ret (v := .tuple #[.agg #[.int .u8 (gv.1 : Int), .int .i64 gv.2], .bool true]) ?_ rfl ⟨by rw [hgvH.out, hh], _, hT.1, hT.2⟩
        simp [results, Tryz.results24, go_sem, R50, R51, n2, n2.symm]
      · have hcl : (q : Int) + 1 < (cap : Int) := by omega
        go_wp2_with (at_builtin; first | (refine wpList_append_run (by rfl) _ _ _ (by rfl) _ _ _ _ (by rfl) (by rfl) (hr3H.out _ rfl) ?_) | (refine wpList_append_run (by rfl) _ _ _ (by rfl) _ _ _ _ (by rfl) (by rfl) (happ0.out _ _ _ rfl) ?_))
        have hT := put_done hf2.out n2 (Nat.le_refl _) (.int .u8 (gv.1 : Int)) (.int .i64 gv.2)
        refine bodyPost_ret (v := .tuple #[.agg #[.int .u8 (gv.1 : Int), .int .i64 gv.2], .bool true]) ?_ rfl ⟨by rw [hgvH.out, hh], _, hT.1, hT.2⟩
        simp [results, Tryz.results24, go_sem, R50, R51, n2, n2.symm]
end Go.Proofs.YticgapplpfaigaaGreat
