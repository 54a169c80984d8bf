
import Derived.Test.YtgodihhlpcnbiaaGreatDoorBfEq
import Derived.Test.YtgodihhlpcnbiaaGreatDoorBdB
import Derived.Test.YtgodihhlpcnbiaaGreatDoorBdC
import Derived.Deep.RegionHeld3
namespace Go.Proofs.YtgodihhlpcnbiaaGreatDoor
open Go.RowKit _root_.Go.Proofs.YtgodihhlpcnbiaaGreatDoor.So
set_option linter.unusedVariables false
set_option linter.unusedSimpArgs false
/-- numbers that lie in memory. -/
def NmIn (w : World) (a : Option Addr) (l : List Int) : Prop := l = [] ∨ ∃ b off, a = some ⟨b, off, none⟩ ∧ b < w.heap.size ∧ ∀ i x, l[i]? = some x → w.cell? ⟨b, off + i, none⟩ = some (.int .i64 x)
theorem NmIn.at {w wr : World} {a : Option Addr} {l : List Int} (h : NmIn w a l) (hB : Below w.heap.size w wr) {k : Nat} {x : Int} (hx : l[k]? = some x) : ∃ b off, a = some ⟨b, off, none⟩ ∧ wr.cell? ⟨b, off + k, none⟩ = some (.int .i64 x) := by
  rcases h with h0 | ⟨b, off, e, hb, hc⟩
  · rw [h0] at hx; simp at hx
  · exact ⟨b, off, e, by rw [hB.cell (p := ⟨b, off + k, none⟩) hb]; exact hc k x hx⟩
theorem fieldBadT (n i : Int) (q : Bool) (w : World) : (Instr.field 31 (.agg #[.int .i64 n, .int .i64 0, .int .i64 i, .bool false, .bool q]) 0).run Tryz.prog w = .ok (.int .i64 n) w := by kernel_rfl
set_option maxRecDepth 100000 in
set_option maxHeartbeats 8000000 in
theorem batchTurns_walk (a a2 : Option Addr) (c c2 : Nat) (l : List PtP) (tn : List Int) (w : World) (ha : PsIn w a l) (hb : NmIn w a2 tn) (hx : ∀ x ∈ tn, -9223372036854775808 ≤ x ∧ x ≤ 9223372036854775807) (hl : l.length ≤ 268435456) (hm : tn.length ≤ 268435456) (htl : ∀ p ∈ l, p.t.length ≤ 4398046511103) (hT : UT w) (hE : ET w) :
    Calls Tryz.prog 6 #[.slice a l.length c, .slice a2 tn.length c2] w fun e w' => e = .returned (.bool true) ∧ Below w.heap.size w w' := by
  have htl' : ∀ p ∈ l, p.t.length ≤ 4398046511104 := fun p hp => by have := htl p hp; omega
  have cF1 : Hid (Calls Tryz.prog 13 #[.slice a l.length c] w fun e w' => FlA w w' l e) := flat_any a c l w ha (by omega) htl' hT
  have cL : Hid (∀ W, Below w.heap.size w W → Calls Tryz.prog 8 #[] W fun e w' => e = .returned (.bool true) ∧ Below W.heap.size W w') := fun W hW => blive_any W (hT.below hW (Nat.le_refl _)) (ET_below hE hW)
  have cC1 : Hid (∀ W, Below w.heap.size w W → Calls Tryz.prog 11 #[.slice a l.length c] W fun e w' => e = .returned (chkB l) ∧ Below W.heap.size W w') := fun W hW => rcheck_any a c l W (ha.below hW) (by omega) htl
  have fA : Hid (∀ W, Below w.heap.size w W → ∃ a5 z5 c5 w5 M5, (Builtin.append_ #[22, 22] 22 #[.slice (some ⟨W.heap.size, 0, none⟩) 0 0, .slice a l.length c]).run Tryz.prog (W.alloc (.cells #[] 46)) = .ok (.slice a5 z5 c5) w5 ∧ M5.map (·.1) = l ∧ z5 = l.length ∧ CpS W w5 (.slice a5 z5 c5) M5) := fun W hW => by
    obtain ⟨v5, w5, M5, r5, m5, S5⟩ := appP W _ _ _ (CpS.empty W) a c l (ha.below hW) (by simp; omega)
    obtain ⟨a5, c5, e5, _⟩ := S5.slice
    rw [List.nil_append] at S5 e5
    have l5 : M5.length = l.length := by rw [← m5, List.length_map]
    subst e5
    exact ⟨a5, _, c5, w5, M5, r5, m5, l5, S5⟩
  have cF2 : Hid (∀ (W : World) (a6 : Option Addr) (z6 c6 : Nat) (m : List PtP), Below w.heap.size w W → PsIn W a6 m → z6 = m.length → m.Perm l → Calls Tryz.prog 13 #[.slice a6 z6 c6] W fun e w' => FlA W w' m e) := fun W a6 z6 c6 m hW h6 e6 hp => by
    subst e6
    exact flat_any a6 c6 m W h6 (by rw [hp.length_eq]; omega) (fun p h => htl' p (hp.mem_iff.1 h)) (hT.below hW (Nat.le_refl _))
  have cS : Hid (chkOk l → ∀ W a' a3 z z' c' c3, z = (odD (flatL l)).length → z' = (odD (flatL l)).length → WIn W a' (odD (flatL l)) → WIn W a3 (odD (flatL l)) → Calls Tryz.prog 15 #[.slice a' z c', .slice a3 z' c3] W fun e w' => e = .returned (.bool true) ∧ Below W.heap.size W w') := fun k W a' a3 z z' c' c3 e e' h1 h2 => by
    subst e e'
    have f1 := flatL_few (l := l) fun p hp => right_few (badP_none k.2 p hp)
    have g1 := odD_len (flatL l)
    exact sameWrites_true a' a3 c' c3 _ W h1 h2 (by have := k.1; omega)
  have f16 : Hid (chkOk l → ∀ i, (flatL (l.take i)).length ≤ 160000) := fun k i => by
    have := flatL_few (l := l.take i) fun p hp => right_few (badP_none k.2 p (List.mem_of_mem_take hp))
    have h2 : (l.take i).length ≤ l.length := by rw [List.length_take]; omega
    have := k.1
    omega
  have lH : Hid (PsIn w a l) := ha
  have bH : Hid (NmIn w a2 tn) := hb
  have xH : Hid (∀ x ∈ tn, -9223372036854775808 ≤ x ∧ x ≤ 9223372036854775807) := hx
  obtain ⟨n1, hn1⟩ : ∃ n, n = l.length := ⟨_, rfl⟩
  obtain ⟨n2, hn2⟩ : ∃ n, n = tn.length := ⟨_, rfl⟩
  have n1H : Hid (n1 = l.length) := hn1
  have n2H : Hid (n2 = tn.length) := hn2
  rw [← hn1] at hl cF1 cC1 fA ⊢
  rw [← hn2] at hm ⊢
  clear ha hb hx htl htl' hT hE hn1 hn2
  go_enter Tryz.func6, Tryz.ntmps6
  go_wp2_with fail
  refine Calls.mono cF1.out ?_
  rintro e w1 ⟨a3, z3, c3, V1, rfl, b1, k1, j1⟩
  have b1H : Hid (Below w.heap.size w w1) := b1
  have K1 : Hid ((chkOk l → V1 = .nilIface ∧ z3 = (odD (flatL l)).length ∧ z3 ≤ c3 ∧ WIn w1 a3 (odD (flatL l))) ∧ (¬ chkOk l → a3 = none ∧ z3 = 0 ∧ V1 = chkV l)) := ⟨k1, j1⟩
  have S0 : Hid (Below w.heap.size w w1 ∧ (chkOk l → (0 : Int) = ((flatL (l.take 0)).length : Int))) := ⟨b1, fun _ => by simp [flatL]⟩
  clear b1 k1 j1 cF1
  go_wp2_with fail
  go_loopw [7, 8] (fun v7 v8 wr => ∃ (i : Nat) (x : Int), v7 = .int .i64 x ∧ v8 = .int .i64 (i : Int) ∧ i ≤ n1 ∧ Hid (Below w.heap.size w wr ∧ w1 = wr ∧ (chkOk l → x = ((flatL (l.take i)).length : Int)))) (fun _ v _ => n1 - (intOf v).toNat)
  case atStart => exact ⟨0, 0, rfl, rfl, Nat.zero_le _, S0.out.1, rfl, S0.out.2⟩
  case round =>
    clear S0
    obtain ⟨i, x, rfl, rfl, il, hS⟩ := hrel
    have i0 : (0 : Int) ≤ (i : Int) := by omega
    have wi : IntKind.i64.wrap ((i : Int) + 1) = ((i + 1 : Nat) : Int) := IntWalk.i64_in _ (by omega)
    by_cases hi : i < n1
    · have iI : (i : Int) < (n1 : Int) := by omega
      obtain ⟨p, hp⟩ := psome (l := l) (k := i) (by rw [← n1H.out]; exact hi)
      obtain ⟨b, off, ta, tc, fa, fc, e1, hbx, ax, fx⟩ := lH.out.at hS.out.1 hp
      subst e1
      obtain ⟨y, hy⟩ : ∃ y, IntKind.i64.wrap (x + (p.f.length : Int)) = y := ⟨_, rfl⟩
      have S2 : Hid (Below w.heap.size w wr ∧ w1 = wr ∧ (chkOk l → y = ((flatL (l.take (i + 1))).length : Int))) := ⟨hS.out.1, hS.out.2.1, fun k => by
        have h1 := hS.out.2.2 k
        have h2 := f16.out k (i + 1)
        rw [flatL_take hp, List.length_append, List.length_map] at h2 ⊢
        rw [← hy, h1]
        exact (IntWalk.i64_in _ (by omega)).trans (by omega)⟩
      clear fx hbx hp hS
      unfold PAt at ax
      generalize p.f.length = nf at *
      obtain ⟨_, _, x3, _⟩ := ax
      go_wp2_with fail
      exact ⟨⟨i + 1, y, by first | rfl | simp [hy], by first | rfl | simp, by omega, S2⟩, by simp [intOf]; omega⟩
    · have iI : ¬ (i : Int) < (n1 : Int) := by omega
      obtain rfl : i = n1 := by omega
      obtain ⟨hS1, hS2, hS3⟩ := hS.out
      subst hS2
      have xE : Hid (chkOk l → x = ((flatL l).length : Int)) := fun k => by have := hS3 k; rw [n1H.out, List.take_length] at this; exact this
      clear hS hS1 hS3
      by_cases h1 : chkOk l
      · obtain ⟨V1e, z3e, _, r3⟩ := K1.out.1 h1
        subst V1e
        have xe := xE.out h1
        have J : Hid (z3 = (odD (flatL l)).length ∧ WIn w1 a3 (odD (flatL l))) := ⟨z3e, r3⟩
        by_cases hz : (z3 : Int) = x
        · have dk : Hid (DK (flatL l)) := DK_of_len (by rw [← z3e]; omega)
          have hzb : ((z3 : Int) == x) = true := by simpa using hz
          have h1H : Hid (chkOk l) := h1
          obtain ⟨a5, z5, c5, w5, M5, r5, m5, e5, S5⟩ := fA.out w1 b1H.out
          have r5H : Hid (∀ W N, W = w1.alloc (.cells #[] 46) → N = w1.heap.size → (Builtin.append_ #[22, 22] 22 #[.slice (some ⟨N, 0, none⟩) 0 0, .slice a i c]).run Tryz.prog W = .ok (.slice a5 z5 c5) w5) := fun W N e e' => by subst e; subst e'; exact r5
          have S5H : Hid (CpS w1 w5 (.slice a5 z5 c5) M5) := S5
          have m5H : Hid (M5.map (·.1) = l ∧ z5 = i) := ⟨m5, e5⟩
          subst e5
          clear r5 m5 S5 K1 xE xe z3e r3 h1 cC1 f16
          go_wp2_with (at_builtin; refine wpList_append_runB (by rfl) _ _ _ (by rfl) _ _ _ _ (by rfl) (by rfl) (r5H.out _ _ (by first | rfl | simp) (by first | rfl | simp)) ?_)
          by_cases h0 : 0 < z5
          · have h0I : (0 : Int) < (z5 : Int) := by omega
            have h0J : ¬ (z5 : Int) = 0 := by omega
            have h0b : ((z5 : Int) == 0) = false := by simpa using h0J
            obtain ⟨g, rfl⟩ : ∃ g, a5 = some ⟨g, 0, none⟩ := by
              rcases World.ownsRow.form S5H.out.own (by have := S5H.out.slice; obtain ⟨_, _, e, _⟩ := this; injection e; omega) with ⟨g, cap, e, _⟩
              injection e with e1 _ _
              exact ⟨g, e1⟩
            have T0 : Hid (TuS w1 g z5 M5 w5 ∧ (M5.map (·.1)).Perm l) := ⟨TuS.of S5H.out, by rw [m5H.out.1]⟩
            clear S5H m5H r5H
            go_loopw [10] (fun v wr => ∃ (j : Nat) (L : List PtA), v = .int .i64 (j : Int) ∧ j ≤ n2 ∧ Hid (TuS w1 g z5 L wr ∧ (L.map (·.1)).Perm l)) (fun v _ => n2 - (intOf v).toNat)
            case atStart => exact ⟨0, M5, rfl, Nat.zero_le _, T0⟩
            case round =>
              clear T0
              obtain ⟨j, L, rfl, jl, hS⟩ := hrel
              have j0 : (0 : Int) ≤ (j : Int) := by omega
              have wj : IntKind.i64.wrap ((j : Int) + 1) = ((j + 1 : Nat) : Int) := IntWalk.i64_in _ (by omega)
              by_cases hj : j < n2
              · have jI : (j : Int) < (n2 : Int) := by omega
                obtain ⟨y, hy⟩ : ∃ y, tn[j]? = some y := ⟨_, List.getElem?_eq_getElem (by rw [← n2H.out]; exact hj)⟩
                have yb := xH.out y (List.mem_of_getElem? hy)
                obtain ⟨bq, oq, eq, cq⟩ := bH.out.at (b1H.out.trans (hS.out.1.bl.mono b1H.out.size)) hy
                subst eq
                have mb : -(z5 : Int) < y.tmod (z5 : Int) ∧ y.tmod (z5 : Int) < (z5 : Int) := ⟨by have := Int.tmod_lt_of_pos (-y) h0I; rw [Int.neg_tmod] at this; omega, Int.tmod_lt_of_pos y h0I⟩
                by_cases hr : y.tmod (z5 : Int) < 0
                · obtain ⟨kN, hk⟩ : ∃ kN : Nat, (kN : Int) = y.tmod (z5 : Int) + (z5 : Int) := ⟨(y.tmod (z5 : Int) + (z5 : Int)).toNat, by omega⟩
                  have kl : kN < z5 := by omega
                  have w1 : IntKind.i64.wrap (y.tmod (z5 : Int) + (z5 : Int)) = (kN : Int) := by rw [← hk]; exact IntWalk.i64_in _ (by omega)
                  have w2 : wrap64 (y.tmod (z5 : Int) + (z5 : Int)) = (kN : Int) := by rw [← hk]; exact IntWalk.wrap64_in _ (by omega)
                  clear hk mb yb hy
                  by_cases kz : kN = 0
                  · have w3 : IntKind.i64.wrap (y.tmod (z5 : Int) + (z5 : Int)) = 0 := by rw [w1, kz]; rfl
                    have w4 : wrap64 (y.tmod (z5 : Int) + (z5 : Int)) = 0 := by rw [w2, kz]; rfl
                    clear w1 w2 kl kz kN
                    have h0L : 0 < L.length := by rw [hS.out.1.len]; exact h0
                    obtain ⟨t0, ht0⟩ : ∃ t, t = L[0] := ⟨_, rfl⟩
                    have g0 : L[0]? = some t0 := by rw [ht0]; exact List.getElem?_eq_getElem h0L
                    have pm : (((L.set 0 t0).set 0 t0).map (·.1)).Perm l := by
                      rw [List.set_set, ht0, List.set_getElem_self]; exact hS.out.2
                    have S2 := ((hS.out.1.put 0 t0 h0 (hS.out.1.pt t0 (List.mem_of_getElem? g0))).put 0 t0 h0 (hS.out.1.pt t0 (List.mem_of_getElem? g0))).drew
                    simp only [Nat.zero_mul, Nat.zero_add] at S2
                    have S3 : Hid _ := And.intro S2 pm
                    obtain ⟨y1, y2, y3, y4⟩ := hS.out.1.at' 0 t0 g0
                    simp only [Nat.zero_mul, Nat.zero_add] at y1 y2 y3 y4
                    have f0 := hS.out.1.fr 0 (by omega)
                    have f1 := hS.out.1.fr 1 (by omega)
                    have f2 := hS.out.1.fr 2 (by omega)
                    have f3 := hS.out.1.fr 3 (by omega)
                    clear S2 pm g0 ht0 hS h0L
                    go_wp2_with fail
                    go_region
                    all_goals
                      go_wp2_with fail
                      exact ⟨⟨j + 1, _, by first | rfl | simp, by omega, S3⟩, by simp [intOf]; omega⟩
                  · have hkL : kN < L.length := by rw [hS.out.1.len]; exact kl
                    have h0L : 0 < L.length := by rw [hS.out.1.len]; exact h0
                    obtain ⟨t0, ht0⟩ : ∃ t, t = L[0] := ⟨_, rfl⟩
                    obtain ⟨tk, htk⟩ : ∃ t, t = L[kN] := ⟨_, rfl⟩
                    have g0 : L[0]? = some t0 := by rw [ht0]; exact List.getElem?_eq_getElem h0L
                    have gk : L[kN]? = some tk := by rw [htk]; exact List.getElem?_eq_getElem hkL
                    have pm : (((L.set 0 tk).set kN t0).map (·.1)).Perm l := by rw [ht0, htk]; exact ((List.set_set_perm h0L hkL).map _).trans hS.out.2
                    have S2 := ((hS.out.1.put 0 tk h0 (hS.out.1.pt tk (List.mem_of_getElem? gk))).put kN t0 kl (hS.out.1.pt t0 (List.mem_of_getElem? g0))).drew
                    simp only [Nat.zero_mul, Nat.zero_add] at S2
                    have S3 : Hid _ := And.intro S2 pm
                    obtain ⟨y1, y2, y3, y4⟩ := hS.out.1.at' 0 t0 g0
                    simp only [Nat.zero_mul, Nat.zero_add] at y1 y2 y3 y4
                    obtain ⟨x1, x2, x3, x4⟩ := hS.out.1.at' kN tk gk
                    have f0 := hS.out.1.fr 0 (by omega)
                    have f1 := hS.out.1.fr 1 (by omega)
                    have f2 := hS.out.1.fr 2 (by omega)
                    have f3 := hS.out.1.fr 3 (by omega)
                    have q0 := hS.out.1.fr (kN * 4) (by omega)
                    have q1 := hS.out.1.fr (kN * 4 + 1) (by omega)
                    have q2 := hS.out.1.fr (kN * 4 + 2) (by omega)
                    have q3 := hS.out.1.fr (kN * 4 + 3) (by omega)
                    have kI0 : (0 : Int) ≤ (kN : Int) := by omega
                    have kI : (kN : Int) < (z5 : Int) := by omega
                    clear S2 pm g0 gk ht0 htk hS hkL h0L
                    have d1 : ¬ kN * 4 = 1 := by omega
                    have d2 : ¬ kN * 4 = 2 := by omega
                    have d3 : ¬ kN * 4 = 3 := by omega
                    go_wp2_with fail
                    go_region
                    all_goals
                      go_wp2_with fail
                      exact ⟨⟨j + 1, _, by first | rfl | simp, by omega, S3⟩, by simp [intOf]; omega⟩
                · obtain ⟨kN, hk⟩ : ∃ kN : Nat, y.tmod (z5 : Int) = (kN : Int) := ⟨(y.tmod (z5 : Int)).toNat, by omega⟩
                  have kl : kN < z5 := by omega
                  have hr2 : ¬ (kN : Int) < 0 := by omega
                  clear mb yb hy hr
                  by_cases kz : kN = 0
                  · have w3 : y.tmod (z5 : Int) = 0 := by rw [hk, kz]; rfl
                    clear hk kl kz hr2 kN
                    have h0L : 0 < L.length := by rw [hS.out.1.len]; exact h0
                    obtain ⟨t0, ht0⟩ : ∃ t, t = L[0] := ⟨_, rfl⟩
                    have g0 : L[0]? = some t0 := by rw [ht0]; exact List.getElem?_eq_getElem h0L
                    have pm : (((L.set 0 t0).set 0 t0).map (·.1)).Perm l := by
                      rw [List.set_set, ht0, List.set_getElem_self]; exact hS.out.2
                    have S2 := ((hS.out.1.put 0 t0 h0 (hS.out.1.pt t0 (List.mem_of_getElem? g0))).put 0 t0 h0 (hS.out.1.pt t0 (List.mem_of_getElem? g0))).drew
                    simp only [Nat.zero_mul, Nat.zero_add] at S2
                    have S3 : Hid _ := And.intro S2 pm
                    obtain ⟨y1, y2, y3, y4⟩ := hS.out.1.at' 0 t0 g0
                    simp only [Nat.zero_mul, Nat.zero_add] at y1 y2 y3 y4
                    have f0 := hS.out.1.fr 0 (by omega)
                    have f1 := hS.out.1.fr 1 (by omega)
                    have f2 := hS.out.1.fr 2 (by omega)
                    have f3 := hS.out.1.fr 3 (by omega)
                    clear S2 pm g0 ht0 hS h0L
                    go_wp2_with fail
                    go_region
                    all_goals
                      go_wp2_with fail
                      exact ⟨⟨j + 1, _, by first | rfl | simp, by omega, S3⟩, by simp [intOf]; omega⟩
                  · have hkL : kN < L.length := by rw [hS.out.1.len]; exact kl
                    have h0L : 0 < L.length := by rw [hS.out.1.len]; exact h0
                    obtain ⟨t0, ht0⟩ : ∃ t, t = L[0] := ⟨_, rfl⟩
                    obtain ⟨tk, htk⟩ : ∃ t, t = L[kN] := ⟨_, rfl⟩
                    have g0 : L[0]? = some t0 := by rw [ht0]; exact List.getElem?_eq_getElem h0L
                    have gk : L[kN]? = some tk := by rw [htk]; exact List.getElem?_eq_getElem hkL
                    have pm : (((L.set 0 tk).set kN t0).map (·.1)).Perm l := by rw [ht0, htk]; exact ((List.set_set_perm h0L hkL).map _).trans hS.out.2
                    have S2 := ((hS.out.1.put 0 tk h0 (hS.out.1.pt tk (List.mem_of_getElem? gk))).put kN t0 kl (hS.out.1.pt t0 (List.mem_of_getElem? g0))).drew
                    simp only [Nat.zero_mul, Nat.zero_add] at S2
                    have S3 : Hid _ := And.intro S2 pm
                    obtain ⟨y1, y2, y3, y4⟩ := hS.out.1.at' 0 t0 g0
                    simp only [Nat.zero_mul, Nat.zero_add] at y1 y2 y3 y4
                    obtain ⟨x1, x2, x3, x4⟩ := hS.out.1.at' kN tk gk
                    have f0 := hS.out.1.fr 0 (by omega)
                    have f1 := hS.out.1.fr 1 (by omega)
                    have f2 := hS.out.1.fr 2 (by omega)
                    have f3 := hS.out.1.fr 3 (by omega)
                    have q0 := hS.out.1.fr (kN * 4) (by omega)
                    have q1 := hS.out.1.fr (kN * 4 + 1) (by omega)
                    have q2 := hS.out.1.fr (kN * 4 + 2) (by omega)
                    have q3 := hS.out.1.fr (kN * 4 + 3) (by omega)
                    have kI0 : (0 : Int) ≤ (kN : Int) := by omega
                    have kI : (kN : Int) < (z5 : Int) := by omega
                    clear S2 pm g0 gk ht0 htk hS hkL h0L
                    have d1 : ¬ kN * 4 = 1 := by omega
                    have d2 : ¬ kN * 4 = 2 := by omega
                    have d3 : ¬ kN * 4 = 3 := by omega
                    go_wp2_with fail
                    go_region
                    all_goals
                      go_wp2_with fail
                      exact ⟨⟨j + 1, _, by first | rfl | simp, by omega, S3⟩, by simp [intOf]; omega⟩
              · have jI : ¬ (j : Int) < (n2 : Int) := by omega
                have C2 : Hid _ := cF2.out wr (some ⟨g, 0, none⟩) z5 c5 (L.map (·.1)) (b1H.out.trans (hS.out.1.bl.mono b1H.out.size)) hS.out.1.psin (by rw [List.length_map]; exact hS.out.1.len.symm) hS.out.2
                have bW : Hid (Below w.heap.size w wr) := b1H.out.trans (hS.out.1.bl.mono b1H.out.size)
                have pmH : Hid ((L.map (·.1)).Perm l) := hS.out.2
                have JW : Hid (WIn wr a3 (odD (flatL l))) := J.out.2.below hS.out.1.bl
                clear hS
                go_wp2_with fail
                refine Calls.mono C2.out ?_
                rintro e w6 ⟨a6, z6, c6, V2, rfl, b6, k2, _⟩
                obtain ⟨V2e, z6e, _, r6⟩ := k2 (chkOk_perm pmH.out h1H.out)
                subst V2e
                rw [odD_perm dk.out (flatL_perm pmH.out)] at z6e r6
                have Q6 : Hid (Below w.heap.size w w6 ∧ z6 = (odD (flatL l)).length ∧ WIn w6 a6 (odD (flatL l)) ∧ WIn w6 a3 (odD (flatL l))) := ⟨bW.out.trans (b6.mono bW.out.size), z6e, r6, JW.out.below b6⟩
                clear b6 k2 z6e r6 C2 bW JW
                go_wp2_with fail
                refine Calls.mono (cL.out _ Q6.out.1) ?_
                rintro e w7 ⟨rfl, b7⟩
                have cX : Hid _ := cS.out h1H.out w7 a3 a6 z3 z6 c3 c6 J.out.1 Q6.out.2.1 (Q6.out.2.2.2.below b7) (Q6.out.2.2.1.below b7)
                have b7H : Hid (Below w.heap.size w w7) := Q6.out.1.trans (b7.mono Q6.out.1.size)
                clear b7 Q6 cL cS
                go_wp2_with fail
                refine Calls.mono cX.out ?_
                rintro e w8 ⟨rfl, b8⟩
                have b8H : Hid (Below w.heap.size w w8) := b7H.out.trans (b8.mono b7H.out.size)
                clear b8 b7H cX
                go_wp2_with fail
                go_ret
                exact ⟨by first | rfl | simp, b8H.out⟩
          · obtain rfl : z5 = 0 := by omega
            have M0 : M5 = [] := by
              obtain ⟨_, _, e, _⟩ := S5H.out.slice
              injection e with _ e _
              exact List.eq_nil_of_length_eq_zero e.symm
            have l0 : l = [] := by have := m5H.out.1; rw [M0] at this; exact this.symm
            have C2 : Hid _ := cF2.out w5 a5 0 c5 [] (b1H.out.trans (S5H.out.bl.mono b1H.out.size)) (Or.inl rfl) rfl (by rw [l0])
            have pmH : Hid (([] : List PtP).Perm l) := by rw [l0]; exact List.Perm.nil
            have bW : Hid (Below w.heap.size w w5) := b1H.out.trans (S5H.out.bl.mono b1H.out.size)
            have JW : Hid (WIn w5 a3 (odD (flatL l))) := J.out.2.below S5H.out.bl
            clear S5H m5H M0 l0
            go_loopw [10] (fun v wr => v = .int .i64 0 ∧ w5 = wr) (fun v _ => 0)
            case atStart => exact ⟨rfl, rfl⟩
            case round =>
              obtain ⟨rfl, hw⟩ := hrel
              subst hw
              by_cases hn0 : 0 < n2
              · have hnI : (0 : Int) < (n2 : Int) := by omega
                go_wp2_with fail
                refine Calls.mono C2.out ?_
                rintro e w6 ⟨a6, z6, c6, V2, rfl, b6, k2, _⟩
                obtain ⟨V2e, z6e, _, r6⟩ := k2 (chkOk_perm pmH.out h1H.out)
                subst V2e
                rw [odD_perm dk.out (flatL_perm pmH.out)] at z6e r6
                have Q6 : Hid (Below w.heap.size w w6 ∧ z6 = (odD (flatL l)).length ∧ WIn w6 a6 (odD (flatL l)) ∧ WIn w6 a3 (odD (flatL l))) := ⟨bW.out.trans (b6.mono bW.out.size), z6e, r6, JW.out.below b6⟩
                clear b6 k2 z6e r6 C2 bW JW
                go_wp2_with fail
                refine Calls.mono (cL.out _ Q6.out.1) ?_
                rintro e w7 ⟨rfl, b7⟩
                have cX : Hid _ := cS.out h1H.out w7 a3 a6 z3 z6 c3 c6 J.out.1 Q6.out.2.1 (Q6.out.2.2.2.below b7) (Q6.out.2.2.1.below b7)
                have b7H : Hid (Below w.heap.size w w7) := Q6.out.1.trans (b7.mono Q6.out.1.size)
                clear b7 Q6 cL cS
                go_wp2_with fail
                refine Calls.mono cX.out ?_
                rintro e w8 ⟨rfl, b8⟩
                have b8H : Hid (Below w.heap.size w w8) := b7H.out.trans (b8.mono b7H.out.size)
                clear b8 b7H cX
                go_wp2_with fail
                go_ret
                exact ⟨by first | rfl | simp, b8H.out⟩
              · have hnI : ¬ (0 : Int) < (n2 : Int) := by omega
                go_wp2_with fail
                refine Calls.mono C2.out ?_
                rintro e w6 ⟨a6, z6, c6, V2, rfl, b6, k2, _⟩
                obtain ⟨V2e, z6e, _, r6⟩ := k2 (chkOk_perm pmH.out h1H.out)
                subst V2e
                rw [odD_perm dk.out (flatL_perm pmH.out)] at z6e r6
                have Q6 : Hid (Below w.heap.size w w6 ∧ z6 = (odD (flatL l)).length ∧ WIn w6 a6 (odD (flatL l)) ∧ WIn w6 a3 (odD (flatL l))) := ⟨bW.out.trans (b6.mono bW.out.size), z6e, r6, JW.out.below b6⟩
                clear b6 k2 z6e r6 C2 bW JW
                go_wp2_with fail
                refine Calls.mono (cL.out _ Q6.out.1) ?_
                rintro e w7 ⟨rfl, b7⟩
                have cX : Hid _ := cS.out h1H.out w7 a3 a6 z3 z6 c3 c6 J.out.1 Q6.out.2.1 (Q6.out.2.2.2.below b7) (Q6.out.2.2.1.below b7)
                have b7H : Hid (Below w.heap.size w w7) := Q6.out.1.trans (b7.mono Q6.out.1.size)
                clear b7 Q6 cL cS
                go_wp2_with fail
                refine Calls.mono cX.out ?_
                rintro e w8 ⟨rfl, b8⟩
                have b8H : Hid (Below w.heap.size w w8) := b7H.out.trans (b8.mono b7H.out.size)
                clear b8 b7H cX
                go_wp2_with fail
                go_ret
                exact ⟨by first | rfl | simp, b8H.out⟩
        · have hzb : ((z3 : Int) == x) = false := by simpa using hz
          have hB1 := chkB_ok h1
          clear K1 xE xe z3e r3 h1 f16 J cF2 cS fA lH bH xH
          have e : True := trivial
          clear e
          have cD : Hid _ := cC1.out
          rw [hB1] at cD
          have hK : Hid (∀ W W' : World, Below W.heap.size W W' → Below w.heap.size w W → Below w.heap.size w W') := fun W W' hB h => h.trans (hB.mono h.size)
          have hSd : Below w.heap.size w w1.drew := b1H.out.drew
          have fb : ∀ w, (Instr.field 31 (.agg #[.int .i64 0, .int .i64 0, .int .i64 0, .bool false, .bool false]) 0).run Tryz.prog w = .ok (.int .i64 0) w := fieldBadT 0 0 false
          clear cC1 hB1 b1H
          go_wp2_with fail
          go_region_held3 (fun W => Below w.heap.size w W) (first | assumption)
            (first
              | (go_at_call 8; (with_reducible refine Calls.mono (cL.out _ (by assumption)) ?_); rintro e w' ⟨rfl, BB⟩; have SS := hK.out _ _ BB (by assumption))
              | (go_at_call 11; (with_reducible refine Calls.mono (cD.out _ (by assumption)) ?_); rintro e w' ⟨rfl, BB⟩; have SS := hK.out _ _ BB (by assumption)))
          all_goals
            go_wp2_with fail
            go_ret
            exact ⟨by first | rfl | simp | simp [*], by assumption⟩
      · have V1e := (K1.out.2 h1).2.2
        obtain ⟨N, I, q, hN, hB1⟩ := chkB_bad h1
        have hNb : (N == 0) = false := by simpa using hN
        have two := chkV_two h1
        rw [← V1e] at two
        clear K1 xE h1 V1e cF2 cS fA lH bH xH f16
        rcases two with e | ⟨i, x, e⟩
        · subst e
          have cD : Hid _ := cC1.out
          rw [hB1] at cD
          have hK : Hid (∀ W W' : World, Below W.heap.size W W' → Below w.heap.size w W → Below w.heap.size w W') := fun W W' hB h => h.trans (hB.mono h.size)
          have hSd : Below w.heap.size w w1.drew := b1H.out.drew
          have fb : ∀ w, (Instr.field 31 (.agg #[.int .i64 N, .int .i64 0, .int .i64 I, .bool false, .bool q]) 0).run Tryz.prog w = .ok (.int .i64 N) w := fieldBadT N I q
          clear cC1 hB1 b1H
          go_wp2_with fail
          go_region_held3 (fun W => Below w.heap.size w W) (first | assumption)
            (first
              | (go_at_call 8; (with_reducible refine Calls.mono (cL.out _ (by assumption)) ?_); rintro e w' ⟨rfl, BB⟩; have SS := hK.out _ _ BB (by assumption))
              | (go_at_call 11; (with_reducible refine Calls.mono (cD.out _ (by assumption)) ?_); rintro e w' ⟨rfl, BB⟩; have SS := hK.out _ _ BB (by assumption)))
          all_goals
            go_wp2_with fail
            go_ret
            exact ⟨by first | rfl | (simp [hN]; done) | simp [hNb], by assumption⟩
        · subst e
          have cD : Hid _ := cC1.out
          rw [hB1] at cD
          have hK : Hid (∀ W W' : World, Below W.heap.size W W' → Below w.heap.size w W → Below w.heap.size w W') := fun W W' hB h => h.trans (hB.mono h.size)
          have hSd : Below w.heap.size w w1.drew := b1H.out.drew
          have fb : ∀ w, (Instr.field 31 (.agg #[.int .i64 N, .int .i64 0, .int .i64 I, .bool false, .bool q]) 0).run Tryz.prog w = .ok (.int .i64 N) w := fieldBadT N I q
          clear cC1 hB1 b1H
          go_wp2_with fail
          go_region_held3 (fun W => Below w.heap.size w W) (first | assumption)
            (first
              | (go_at_call 8; (with_reducible refine Calls.mono (cL.out _ (by assumption)) ?_); rintro e w' ⟨rfl, BB⟩; have SS := hK.out _ _ BB (by assumption))
              | (go_at_call 11; (with_reducible refine Calls.mono (cD.out _ (by assumption)) ?_); rintro e w' ⟨rfl, BB⟩; have SS := hK.out _ _ BB (by assumption)))
          all_goals
            go_wp2_with fail
            go_ret
            exact ⟨by first | rfl | (simp [hN]; done) | simp [hNb], by assumption⟩
end Go.Proofs.YtgodihhlpcnbiaaGreatDoor
