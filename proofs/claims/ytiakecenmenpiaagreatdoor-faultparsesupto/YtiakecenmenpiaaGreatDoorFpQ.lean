
import Derived.Test.YtiakecenmenpiaaGreatDoorFpH
import Derived.Test.YtiakecenmenpiaaGreatDoorFpO
namespace Go.Proofs.YtiakecenmenpiaaGreatDoor
open Go.RowKit
set_option linter.unusedVariables false
set_option linter.unusedSimpArgs false
def lkO (i p : Option Int) : List (Bool × Int) := lk (i.getD 0, i.isSome, []) (p.getD 0, p.isSome, [])
theorem lkO_I (i p : Option Int) : fI (lkO i p) = i := by unfold lkO; rw [fI_lk]; cases i <;> rfl
theorem lkO_A (i p : Option Int) : fA (lkO i p) = p := by unfold lkO; rw [fA_lk]; cases p <;> rfl
theorem opt_eq {i j : Option Int} (h1 : i.getD 0 = j.getD 0) (h2 : i.isSome = j.isSome) : i = j := by
  cases i <;> cases j <;> simp_all
theorem line_inj {i p i' p' : Option Int} {c c' : Int} (hi : OkI i) (hp : OkI p) (hi' : OkI i') (hp' : OkI p') (hc : I64' c) (hc' : I64' c') (h : lineL i p c = lineL i' p' c') : i = i' ∧ p = p' ∧ c = c' := by
  have e1 := unlab_num i p c hi
  have e2 := unlab_num i' p' c' hi'
  rw [h, e2] at e1
  have a1 : i'.getD 0 = i.getD 0 := congrArg Prod.fst e1
  have a2 : i'.isSome = i.isSome := congrArg (fun x => x.2.1) e1
  have a3 : lab atW p' ++ nameL c' = lab atW p ++ nameL c := congrArg (fun x => x.2.2) e1
  have f1 := unlab_at p c hp
  have f2 := unlab_at p' c' hp'
  rw [← a3, f2] at f1
  have b1 : p'.getD 0 = p.getD 0 := congrArg Prod.fst f1
  have b2 : p'.isSome = p.isSome := congrArg (fun x => x.2.1) f1
  have b3 : nameL c' = nameL c := congrArg (fun x => x.2.2) f1
  exact ⟨(opt_eq a1 a2).symm, (opt_eq b1 b2).symm, nameL_inj hc hc' b3.symm⟩
theorem parse_lineO {S : ByteArray} (hs : S.size < 4294967281) {i p : Option Int} {c : Int} (hi : OkI i) (hp : OkI p) (hc : I64' c) (h0 : c ≠ 0) (hl : lineL i p c = S.data.toList) (w : World) (hE : EV w) (hM : ML w) (hg : ET w) :
    Calls Tryz.prog 4 #[.string S] w fun e w' => e = .returned (.tuple #[errV (lkO i p) c, .nilIface]) ∧ Below w.heap.size w w' := by
  have e1 := unlab_num i p c hi
  have e2 := unlab_at p c hp
  rw [hl] at e1
  have hr : rst S.data.toList = nameL c := by unfold rst; rw [e1]; simp only; rw [e2]
  have hly : lyr S.data.toList = lkO i p := by unfold lyr; rw [e1]; simp only; rw [e2]; rfl
  have h := parse_any S.data.toList hs w hE hM hg
  rw [B_of] at h
  refine h.mono ?_
  rintro e w' ⟨hps, hb⟩
  refine ⟨?_, hb⟩
  rcases hps with ⟨c', hc', h0', hn, _, rfl⟩ | ⟨_, hn, _⟩ | ⟨h1, _, _⟩
  · rw [hly, nameL_inj hc' hc (by rw [hn, hr])]
  · exact absurd (nameL_inj hc zero_I (by rw [hn, hr])) h0
  · refine absurd ?_ (h1 c hc h0 hr.symm)
    rw [hly, lkO_I, lkO_A]; exact hl
theorem same_line (i p : Option Int) (c : Int) (h0 : c ≠ 0) (w : World) (hg : ET w) :
    Calls Tryz.prog 7 #[errV (lkO i p) c, .agg #[.int .i64 c, .int .i64 (p.getD 0), .int .i64 (i.getD 0), .bool p.isSome, .bool i.isSome]] w fun e w' => e = .returned (.bool true) ∧ Below w.heap.size w w' := by
  have hz : (c == 0) = false := by rw [beq_eq_false_iff_ne]; exact h0
  cases i with
  | none =>
    cases p with
    | none => exact sameC_miss_miss (lkO none none) c hz rfl rfl w hg
    | some m => exact sameC_hit_miss (lkO none (some m)) c hz m _ rfl rfl w hg
  | some n =>
    cases p with
    | none => exact sameC_miss_hit (lkO (some n) none) c hz rfl n _ rfl w hg
    | some m => exact sameC_hit_hit (lkO (some n) (some m)) c hz m _ rfl n _ rfl w hg
/-- both tell the same of a text. -/
theorem both_parse (S : ByteArray) (hs : S.size < 4294967281) : ∃ (X Y : Value) (c a i : Int) (P Q : Bool) (d : Int),
    (∀ w, EV w → ML w → ET w → Calls Tryz.prog 4 #[.string S] w fun e w' => e = .returned (.tuple #[X, Y]) ∧ Below w.heap.size w w') ∧
    (∀ w, EV w → Calls Tryz.prog 5 #[.string S] w fun e w' => e = .returned (.tuple #[.agg #[.int .i64 c, .int .i64 a, .int .i64 i, .bool P, .bool Q], .agg #[.int .i64 d, .int .i64 0, .int .i64 0, .bool false, .bool false]]) ∧ Below w.heap.size w w') ∧
    (∀ w, ET w → Calls Tryz.prog 7 #[Y, .agg #[.int .i64 d, .int .i64 0, .int .i64 0, .bool false, .bool false]] w fun e w' => e = .returned (.bool true) ∧ Below w.heap.size w w') ∧
    (∀ w, ET w → Calls Tryz.prog 7 #[X, .agg #[.int .i64 c, .int .i64 a, .int .i64 i, .bool P, .bool Q]] w fun e w' => e = .returned (.bool true) ∧ Below w.heap.size w w') := by
  have hs2 : S.size ≤ 281474976710656 := by omega
  by_cases hok : S = ⟨#[111, 107]⟩
  · refine ⟨.nilIface, .nilIface, 0, 0, 0, false, false, 0, fun w h1 h2 h3 => ?_, fun w h1 => ?_, fun w _ => same_nil w, fun w _ => same_nil w⟩
    · rw [hok]; exact parse_ok w h1 h2 h3
    · refine (rparse_any S hs2 w h1).mono ?_
      rintro e w' ⟨hp, hb⟩
      refine ⟨?_, hb⟩
      rcases hp with ⟨_, rfl⟩ | ⟨h, _⟩ | ⟨h, _⟩
      · rfl
      · exact absurd hok h
      · exact absurd hok h
  · by_cases hl : ∃ i p c, OkI i ∧ OkI p ∧ I64' c ∧ c ≠ 0 ∧ lineL i p c = S.data.toList
    · obtain ⟨i, p, c, hi, hp, hc, h0, hl⟩ := hl
      refine ⟨errV (lkO i p) c, .nilIface, c, p.getD 0, i.getD 0, p.isSome, i.isSome, 0, fun w h1 h2 h3 => parse_lineO hs hi hp hc h0 hl w h1 h2 h3, fun w h1 => ?_, fun w _ => same_nil w, fun w hg => same_line i p c h0 w hg⟩
      refine (rparse_any S hs2 w h1).mono ?_
      rintro e w' ⟨hps, hb⟩
      refine ⟨?_, hb⟩
      rcases hps with ⟨h, _⟩ | ⟨_, i', p', c', hi', hp', hc', h0', hl', rfl⟩ | ⟨_, h, _⟩
      · exact absurd h hok
      · obtain ⟨rfl, rfl, rfl⟩ := line_inj hi hp hi' hp' hc hc' (by rw [hl, hl'])
        rfl
      · exact absurd hl (h i p c hi hp hc h0)
    · refine ⟨.nilIface, .iface 26 (.int .i64 31), 0, 0, 0, false, false, 31, fun w h1 h2 h3 => ?_, fun w h1 => ?_, fun w hg => sameC_miss_miss [] 31 rfl rfl rfl w hg, fun w _ => same_nil w⟩
      · have h := parse_any S.data.toList hs w h1 h2 h3
        rw [B_of] at h
        refine h.mono ?_
        rintro e w' ⟨hps, hb⟩
        refine ⟨?_, hb⟩
        rcases hps with ⟨c', hc', h0', hn, hl', rfl⟩ | ⟨h, _⟩ | ⟨_, _, rfl⟩
        · exact absurd ⟨_, _, c', by unfold lyr; rw [fI_lk]; exact okI_if _ _ (unlab_I _ _), by unfold lyr; rw [fA_lk]; exact okI_if _ _ (unlab_I _ _), hc', h0', hl'⟩ hl
        · exact absurd (ba_eq h) hok
        · rfl
      · refine (rparse_any S hs2 w h1).mono ?_
        rintro e w' ⟨hps, hb⟩
        refine ⟨?_, hb⟩
        rcases hps with ⟨h, _⟩ | ⟨_, i', p', c', hi', hp', hc', h0', hl', _⟩ | ⟨_, _, rfl⟩
        · exact absurd h hok
        · exact absurd ⟨i', p', c', hi', hp', hc', h0', hl'⟩ hl
        · rfl
set_option maxRecDepth 100000 in
set_option maxHeartbeats 2000000 in
theorem faultParses_walk (S : ByteArray) (hs : S.size < 4294967281) (w : World) (hE : EV w) (hM : ML w) (hg : ET w) :
    Calls Tryz.prog 3 #[.string S] w fun ev w' => ev = .returned (.bool true) ∧ Below w.heap.size w w' := by
  obtain ⟨X, Y, c, a, i, P, Q, d, k1, k2, k3, k4⟩ := both_parse S hs
  have k1H : Hid _ := k1
  have k2H : Hid _ := k2
  have k3H : Hid _ := k3
  have k4H : Hid _ := k4
  have hEH : Hid (EV w) := hE
  have hMH : Hid (ML w) := hM
  have hgH : Hid (ET w) := hg
  clear k1 k2 k3 k4 hE hM hg hs
  go_enter Tryz.func3, Tryz.ntmps3
  go_wp2_with fail
  refine (k1H.out _ hEH.out hMH.out hgH.out).mono ?_
  rintro e1 w1 ⟨rfl, B1⟩
  go_wp2_with fail
  refine (k2H.out _ (hEH.out.below B1)).mono ?_
  rintro e2 w2 ⟨rfl, B2⟩
  have P2 := bthen B1 B2
  obtain ⟨W, hW⟩ : ∃ W, W = (w2.alloc (.cells #[.int .i64 c, .int .i64 a, .int .i64 i, .bool P, .bool Q] 28)).alloc (.cells #[.int .i64 d, .int .i64 0, .int .i64 0, .bool false, .bool false] 28) := ⟨_, rfl⟩
  have PW' : Below w.heap.size w W := by rw [hW]; exact bnew (bnew P2 _) _
  have zW : W.heap.size = w2.heap.size + 1 + 1 := by rw [hW]; simp
  have q0 : W.cell? ⟨w2.heap.size, 0, none⟩ = some (.int .i64 c) := by rw [hW]; simp [go_sem]
  have q1 : W.cell? ⟨w2.heap.size, 1, none⟩ = some (.int .i64 a) := by rw [hW]; simp [go_sem]
  have q2 : W.cell? ⟨w2.heap.size, 2, none⟩ = some (.int .i64 i) := by rw [hW]; simp [go_sem]
  have q3 : W.cell? ⟨w2.heap.size, 3, none⟩ = some (.bool P) := by rw [hW]; simp [go_sem]
  have q4 : W.cell? ⟨w2.heap.size, 4, none⟩ = some (.bool Q) := by rw [hW]; simp [go_sem]
  have r0 : W.cell? ⟨w2.heap.size + 1, 0, none⟩ = some (.int .i64 d) := by rw [hW]; simp [go_sem]
  have r1 : W.cell? ⟨w2.heap.size + 1, 1, none⟩ = some (.int .i64 0) := by rw [hW]; simp [go_sem]
  have r2 : W.cell? ⟨w2.heap.size + 1, 2, none⟩ = some (.int .i64 0) := by rw [hW]; simp [go_sem]
  have r3 : W.cell? ⟨w2.heap.size + 1, 3, none⟩ = some (.bool false) := by rw [hW]; simp [go_sem]
  have r4 : W.cell? ⟨w2.heap.size + 1, 4, none⟩ = some (.bool false) := by rw [hW]; simp [go_sem]
  have hWH : Hid _ := hW
  clear hW B1 B2
  go_wp2_with fail
  rw [← hWH.out]
  refine (live1_any _ (ET_below hgH.out PW')).mono ?_
  rintro e3 w3 ⟨rfl, B3⟩
  have P3 := bthen PW' B3
  have z3 := B3.size
  have cc : ∀ k o, k ≤ w2.heap.size + 1 → w3.cell? ⟨k, o, none⟩ = W.cell? ⟨k, o, none⟩ := fun k o hk => B3.cell (p := ⟨k, o, none⟩) (by simp; omega)
  have s0 : w3.cell? ⟨w2.heap.size + 1, 0, none⟩ = some (.int .i64 d) := by rw [cc _ _ (by omega)]; exact r0
  have s1 : w3.cell? ⟨w2.heap.size + 1, 1, none⟩ = some (.int .i64 0) := by rw [cc _ _ (by omega)]; exact r1
  have s2 : w3.cell? ⟨w2.heap.size + 1, 2, none⟩ = some (.int .i64 0) := by rw [cc _ _ (by omega)]; exact r2
  have s3 : w3.cell? ⟨w2.heap.size + 1, 3, none⟩ = some (.bool false) := by rw [cc _ _ (by omega)]; exact r3
  have s4 : w3.cell? ⟨w2.heap.size + 1, 4, none⟩ = some (.bool false) := by rw [cc _ _ (by omega)]; exact r4
  have ccH : Hid _ := cc
  clear cc r0 r1 r2 r3 r4
  go_wp2_with fail
  refine (k3H.out _ (ET_below hgH.out P3)).mono ?_
  rintro e4 w4 ⟨rfl, B4⟩
  have P4 := bthen P3 B4
  have dd : ∀ o, w4.cell? ⟨w2.heap.size, o, none⟩ = W.cell? ⟨w2.heap.size, o, none⟩ := fun o => by rw [B4.cell (p := ⟨w2.heap.size, o, none⟩) (by simp; omega)]; exact ccH.out _ _ (by omega)
  have t0 : w4.cell? ⟨w2.heap.size, 0, none⟩ = some (.int .i64 c) := by rw [dd]; exact q0
  have t1 : w4.cell? ⟨w2.heap.size, 1, none⟩ = some (.int .i64 a) := by rw [dd]; exact q1
  have t2 : w4.cell? ⟨w2.heap.size, 2, none⟩ = some (.int .i64 i) := by rw [dd]; exact q2
  have t3 : w4.cell? ⟨w2.heap.size, 3, none⟩ = some (.bool P) := by rw [dd]; exact q3
  have t4 : w4.cell? ⟨w2.heap.size, 4, none⟩ = some (.bool Q) := by rw [dd]; exact q4
  clear dd q0 q1 q2 q3 q4 s0 s1 s2 s3 s4 B3 B4
  go_wp2_with fail
  refine (k4H.out _ (ET_below hgH.out P4)).mono ?_
  rintro e5 w5 ⟨rfl, B5⟩
  have P5 := bthen P4 B5
  go_wp2_with fail
  go_ret
  exact ⟨rfl, P5⟩
end Go.Proofs.YtiakecenmenpiaaGreatDoor
