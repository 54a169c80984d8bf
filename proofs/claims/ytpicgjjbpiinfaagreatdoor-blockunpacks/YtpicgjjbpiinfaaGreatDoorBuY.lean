
import Derived.Test.YtpicgjjbpiinfaaGreatDoorBuU
import Derived.Test.YtpicgjjbpiinfaaGreatDoorUvFq
import Derived.Test.YtpicgjjbpiinfaaGreatDoorUtEq
import Derived.Deep.RegionHeld3
import Derived.Test.YtpicgjjbpiinfaaGreatDoorBuN
import Derived.Test.YtpicgjjbpiinfaaGreatDoorBuM
import Derived.BigQuiet
namespace Go.Proofs.YtpicgjjbpiinfaaGreatDoor
open Go.RowKit
set_option linter.unusedVariables false
set_option linter.unusedSimpArgs false
theorem freshOf {w : World} {N m : Nat} {a : Option Addr} {f : Nat → Nat} (hm : m ≤ 140737488355327) (h : m = 0 ∨ ∃ g, a = some ⟨g, 0, none⟩ ∧ N < g ∧ g < w.heap.size ∧ BytesAt w g 0 m f) : Fresh (N + 1) m a f w := ⟨hm, h⟩
section
variable {N : Nat} {w1 : World} {a : Option Addr} {n cap p r : Nat} {bs : Nat → Nat} {fv : Option (Int × Int)} {w : World}
set_option maxRecDepth 100000 in
set_option maxHeartbeats 4000000 in
theorem dRawF (h : QR N w1 a n cap bs p r fv w) (M : Nat) (hM0 : 0 < M) (hM : M ≤ 9223372036854775807) :
    Calls Tryz.prog 41 #[.pointer (some ⟨N, 0, none⟩), .int .i64 (M : Int)] w fun e w' => (∃ p' r' fv' q m a' c, PieceG bs n p r (M : Int) fv p' r' fv' q m ∧ e = .returned (.slice a' m c) ∧ Fresh (N + 1) m a' (fun i => bs (q + i)) w' ∧ QR N w1 a n cap bs p' r' fv' w') ∧ RF N w w' := by
  have h256 := h.bytes256
  have hnb := h.nb
  have hpn := h.pn
  have hS : Hid _ := dNumber_any h M (by omega) 6 rfl
  clear h
  have hpos : (0 : Int) < (M : Int) := by omega
  have hzH : Hid (0 < M) := hM0
  have hneg : ¬ (M : Int) < 0 := by omega
  have hmw : IntKind.u64.wrap (M : Int) = (M : Int) := by rw [IntKind.wrap_u64]; omega
  go_enter Tryz.func41, Tryz.ntmps41
  go_wp2_with fail
  refine Calls.mono hS.out ?_
  rintro e w2 ⟨⟨fv', v, l, hG, rfl, h2⟩, F2⟩
  cases hf : fv' with
  | some z =>
    obtain ⟨rfl, rfl, hP⟩ := NumD.piece (most := (M : Int)) (by have := hzH.out; omega) hf hG
    rw [hf] at h2 hP
    have c3 := h2.c3
    have hf2 := h2.fe z rfl
    have h2H : Hid _ := h2
    have hPH : Hid (PieceG bs n p r (M : Int) fv p r (some z) 0 0) := hP
    obtain ⟨zq, ze⟩ := z
    simp only [fcd] at c3 hf2
    clear h2 hf hP hG hS
    go_wp2_with fail
    go_quiet (fail)
    go_wp2_with fail
    go_ret
    exact ⟨⟨p, r, _, 0, 0, none, 0, hPH.out, rfl, ⟨by omega, Or.inl rfl⟩, h2H.out.drewN _⟩, F2.trans (RF.drewN _ _)⟩
  | none =>
    subst hf
    obtain ⟨g1, g2, g4⟩ := NumD.good rfl hG
    obtain ⟨hl, hn, hxx, _⟩ := numS_len h256 g2
    have hl0 : 0 < l := by rw [hl]; exact uBf_pos 10 v
    have hlI : (0 : Int) < (l : Int) := by omega
    have c0 := h2.c0
    have c1 := h2.c1
    have c3 := h2.c3
    simp only [fcd] at c3
    have hg : Hid _ := And.intro g1 (And.intro g2 g4)
    have i2 : IntKind.i64.wrap ((n : Int) - (p : Int) - (l : Int)) = (n : Int) - (p : Int) - (l : Int) := IntWalk.i64_in _ (by omega)
    have i3 : IntKind.u64.wrap ((n : Int) - (p : Int) - (l : Int)) = (n : Int) - (p : Int) - (l : Int) := by rw [IntKind.wrap_u64]; omega
    have h2H : Hid _ := h2
    clear hG g1 g2 hl h2 hS
    by_cases hbig : n < p + l + v
    · have i1 : (n : Int) - (p : Int) - (l : Int) < (v : Int) := by omega
      go_wp2_with fail
      go_quiet (fail)
      go_wp2_with fail
      refine Calls.mono (dAt_any (n : Int) 30 rfl _) ?_
      rintro e w3 ⟨rfl, hB3⟩
      obtain ⟨h3, F3⟩ := (h2H.out.drewN _).after hB3
      have hFl3 : Hid _ := dFail_new h3 (n : Int) 30 rfl
      clear h3 c0 c1 c3
      go_wp2_with fail
      refine Calls.mono hFl3.out ?_
      rintro e w4 ⟨rfl, h4, F4⟩
      have d3 := h4.c3
      simp only [fcd] at d3
      have h4H : Hid _ := h4
      clear h4
      go_wp2_with fail
      go_ret
      exact ⟨⟨p, r, some ((n : Int), 30), 0, 0, none, 0, Or.inr ⟨hg.out.1, Or.inr ⟨v, l, hg.out.2.1, Or.inr (Or.inl ⟨by have := hzH.out; omega, hbig, rfl, rfl, rfl, rfl⟩)⟩⟩, rfl, ⟨by omega, Or.inl rfl⟩, h4H.out⟩, ((F2.trans (RF.drewN _ _)).trans F3).trans F4⟩
    · have i1 : ¬ (n : Int) - (p : Int) - (l : Int) < (v : Int) := by omega
      have hnc := h2H.out.nc
      rcases h2H.out.row with h0 | ⟨b, off, rfl, hb, hbN, hB⟩
      · omega
      obtain ⟨fr, hfr⟩ : ∃ fr, fr = p + l := ⟨_, rfl⟩
      obtain ⟨tx, hto⟩ : ∃ tx, tx = fr + v := ⟨_, rfl⟩
      have hfrH : Hid _ := hfr
      have htoH : Hid _ := hto
      have v47 : v ≤ 140737488355327 := by omega
      have hfin : Hid (∀ (W : World) a9 c9 w9, QR N w1 (some ⟨b, off, none⟩) n cap bs p r none W → RF N w W → v ≤ c9 → (v = 0 ∨ ∃ g, a9 = some ⟨g, 0, none⟩ ∧ W.heap.size ≤ g ∧ g < w9.heap.size ∧ BytesAt w9 g 0 v (fun i => bs (fr + i))) → Below W.heap.size W w9 →
          (∃ p' r' fv' q m a' c, PieceG bs n p r (M : Int) fv p' r' fv' q m ∧ Ending.returned (.slice a9 v c9) = .returned (.slice a' m c) ∧ Fresh (N + 1) m a' (fun i => bs (q + i)) ((w9.setCell ⟨N, 1, none⟩ (.int .i64 ((p : Int) + ((l : Int) + (v : Int))))).setCell ⟨N, 2, none⟩ (.int .i64 0)) ∧ QR N w1 (some ⟨b, off, none⟩) n cap bs p' r' fv' ((w9.setCell ⟨N, 1, none⟩ (.int .i64 ((p : Int) + ((l : Int) + (v : Int))))).setCell ⟨N, 2, none⟩ (.int .i64 0))) ∧ RF N w ((w9.setCell ⟨N, 1, none⟩ (.int .i64 ((p : Int) + ((l : Int) + (v : Int))))).setCell ⟨N, 2, none⟩ (.int .i64 0))) := by
        unfold Hid
        intro W a9 c9 w9 hW hFW hc9 hrow hB9
        have h9 := hW.below hB9
        obtain ⟨h10, F10⟩ := h9.pass (l + v) (by omega)
        rw [show ((l + v : Nat) : Int) = (l : Int) + (v : Int) by omega] at h10 F10
        have hsz := hW.sz
        refine ⟨⟨p + (l + v), 0, none, fr, v, a9, c9, Or.inr ⟨hg.out.1, Or.inr ⟨v, l, hg.out.2.1, Or.inr (Or.inr ⟨by have := hzH.out; omega, by omega, rfl, rfl, hfr, by omega, rfl⟩)⟩⟩, rfl, freshOf (N := N) v47 (bytesIn_set v47 (bytesIn_set v47 ?_)), h10⟩, (hFW.trans (RF.below hB9)).trans F10⟩
        rcases hrow with h0 | ⟨g, e, hg1, hg2, hB⟩
        · exact Or.inl h0
        · exact Or.inr ⟨g, e, by omega, hg2, hB⟩
      have hby : Hid (∀ W, QR N w1 (some ⟨b, off, none⟩) n cap bs p r none W → BytesAt W b (off + fr) v (fun i => bs (fr + i))) := by
        unfold Hid
        intro W hW i hi
        rcases hW.row with h0 | ⟨b', off', e', _, _, hB'⟩
        · omega
        · injection e' with e'
          injection e' with e' e''
          subst e' e''
          have := hB' (fr + i) (by omega)
          rw [← Nat.add_assoc] at this
          exact this
      have hbW : Hid (∀ W, QR N w1 (some ⟨b, off, none⟩) n cap bs p r none W → b < W.heap.size) := by
        unfold Hid
        intro W hW
        rcases hW.row with h0 | ⟨b', off', e', hb', _, hB'⟩
        · omega
        · injection e' with e'
          injection e' with e' e''
          subst e'
          exact hb'
      clear hB hfr hto
      go_wp2_with fail
      go_quiet (fail)
      go_wp2_with fail
      have hfr := hfrH.out
      have hto := htoH.out
      have hW : QR N w1 (some ⟨b, off, none⟩) n cap bs p r none (w2.drewN nq).drew := (h2H.out.drewN nq).below (Below.refl _ _).drew
      have hFW : RF N w (w2.drewN nq).drew := F2.trans (RF.below ((below_drewN (Below.refl _ _) nq).drew))
      have d0 : (w2.drewN nq).cell? ⟨N, 0, none⟩ = some (.slice (some ⟨b, off, none⟩) n cap) := (h2H.out.drewN nq).c0
      have d1 : (w2.drewN nq).cell? ⟨N, 1, none⟩ = some (.int .i64 (p : Int)) := (h2H.out.drewN nq).c1
      have SS : (w2.drewN nq).cell? ⟨N, 0, none⟩ = some (.slice (some ⟨b, off, none⟩) n cap) ∧ (w2.drewN nq).cell? ⟨N, 1, none⟩ = some (.int .i64 (p : Int)) := ⟨d0, d1⟩
      have SS2 : (w2.drewN nq).drew.cell? ⟨N, 0, none⟩ = some (.slice (some ⟨b, off, none⟩) n cap) ∧ (w2.drewN nq).drew.cell? ⟨N, 1, none⟩ = some (.int .i64 (p : Int)) := SS
      have hfrI : (p : Int) + (l : Int) = (fr : Int) := by omega
      have htoI : (fr : Int) + (v : Int) = (tx : Int) := by omega
      have wfr : IntKind.i64.wrap (fr : Int) = (fr : Int) := IntWalk.i64_in _ (by omega)
      have wto : IntKind.i64.wrap (tx : Int) = (tx : Int) := IntWalk.i64_in _ (by omega)
      have wv : IntKind.i64.wrap (v : Int) = (v : Int) := IntWalk.i64_in _ (by omega)
      have wlv : IntKind.i64.wrap ((l : Int) + (v : Int)) = (l : Int) + (v : Int) := IntWalk.i64_in _ (by omega)
      have k1 : (0 : Int) ≤ (fr : Int) := by omega
      have k2 : (fr : Int) ≤ (tx : Int) := by omega
      have k3 : (tx : Int) ≤ (n : Int) := by omega
      have k4 : (tx : Int) ≤ (cap : Int) := by omega
      have k5 : fr ≤ tx := by omega
      have k6 : tx ≤ cap := by omega
      have k7 : fr ≤ cap := by omega
      have ex : tx - fr = v := by omega
      by_cases hc : fr < cap
      · have j1 : ¬ cap ≤ fr := by omega
        have j2 : ¬ cap - fr = 0 := by omega
        have j3 : ¬ cap = fr := by omega
        have j4 : ¬ fr = cap := by omega
        obtain ⟨a9, c9, w9, hr, hc9, hrow, hB9⟩ := app_nil (some ⟨b, off + fr, none⟩) v (cap - fr) (fun i => bs (fr + i)) (w2.drewN nq).drew ⟨v47, Or.inr ⟨b, off + fr, rfl, hbW.out _ hW, hby.out _ hW⟩⟩
        have hrH : Hid _ := hr
        have hend : Hid _ := hfin.out _ a9 c9 w9 hW hFW hc9 hrow hB9
        have h9 := hW.below hB9
        have e0 := h9.c0
        have e1 := h9.c1
        have e2 := h9.c2
        have g1 := h9.f1
        have g2 := h9.f2
        clear hr hrow hW hFW h9 hfin hfr hto
        go_region_held3 (fun w' => w'.cell? ⟨N, 0, none⟩ = some (.slice (some ⟨b, off, none⟩) n cap) ∧ w'.cell? ⟨N, 1, none⟩ = some (.int .i64 (p : Int))) (first | assumption | exact ⟨by assumption, by assumption⟩)
          (first
            | (refine step_append_run rfl (.tmp 73) (.tmp 93) 22 rfl _ _ _ _ rfl rfl hrH.out ?_))
        go_wp2_with fail
        go_ret
        exact hend.out
      · have hvz : Hid (v = 0) := (by omega : v = 0)
        have htc : (cap : Int) + (v : Int) = (cap : Int) := by omega
        have hpc : (p : Int) + (l : Int) = (cap : Int) := by omega
        have wc : IntKind.i64.wrap (cap : Int) = (cap : Int) := IntWalk.i64_in _ (by omega)
        have kc0 : (0 : Int) ≤ (cap : Int) := by omega
        have kc1 : (cap : Int) ≤ (n : Int) := by omega
        obtain ⟨a9, c9, w9, hr, hc9, hrow, hB9⟩ := app_nil (some ⟨b, off, none⟩) v 0 (fun i => bs (fr + i)) (w2.drewN nq).drew ⟨v47, Or.inl hvz.out⟩
        have hr0 : (Builtin.append_ #[22, 22] 22 #[.slice none 0 0, .slice (some ⟨b, off, none⟩) 0 0]).run Tryz.prog (w2.drewN nq).drew = .ok (.slice a9 v c9) w9 := by rw [← hr]; simp only [hvz.out]
        have hrH : Hid _ := hr0
        have hend : Hid _ := hfin.out _ a9 c9 w9 hW hFW hc9 hrow hB9
        have h9 := hW.below hB9
        have e0 := h9.c0
        have e1 := h9.c1
        have e2 := h9.c2
        have g1 := h9.f1
        have g2 := h9.f2
        clear hr hr0 hrow hW hFW h9 hfin wfr wto k1 k2 k3 k4 k5 k6 k7 ex htoI hto htoH hfr hfrH hfrI
        go_region_held3 (fun w' => w'.cell? ⟨N, 0, none⟩ = some (.slice (some ⟨b, off, none⟩) n cap) ∧ w'.cell? ⟨N, 1, none⟩ = some (.int .i64 (p : Int))) (first | assumption | exact ⟨by assumption, by assumption⟩)
          (first
            | (refine step_append_run rfl (.tmp 73) (.tmp 93) 22 rfl _ _ _ _ rfl rfl hrH.out ?_))
        clear hpc htc
        go_wp2_with fail
        go_ret
        first
          | exact hend.out
          | (obtain ⟨⟨p', r', fv', q, m, a', c, H1, H2, H3, H4⟩, H5⟩ := hend.out; exact ⟨⟨p', r', fv', q, m, H1, a', ⟨c, H2⟩, H3, H4⟩, H5⟩)
theorem qb_raw {s : PS} (h : QB N w1 a n cap bs s w) (M : Nat) (hM0 : 0 < M) (hM : M ≤ 9223372036854775807) : Calls Tryz.prog 41 #[.pointer (some ⟨N, 0, none⟩), .int .i64 (M : Int)] w fun e w' => ∃ a' c, e = .returned (.slice a' (pieceT bs n M s).2.2 c) ∧ Fresh (N + 1) (pieceT bs n M s).2.2 a' (fun i => bs ((pieceT bs n M s).2.1 + i)) w' ∧ QB N w1 a n cap bs (pieceT bs n M s).1 w' ∧ RF N w w' := by
  refine (dRawF h M hM0 hM).mono ?_
  rintro e w' ⟨⟨p', r', fv', q, m, a', c, hG, rfl, hFr, hR⟩, hF⟩
  obtain ⟨t1, t2, t3⟩ := hG.toT
  rw [show (⟨s.p, s.r, s.fv⟩ : PS) = s from rfl] at t1 t2 t3
  rw [t1, t2]
  exact ⟨a', c, rfl, Fresh.ext hFr fun i hi => by rw [t3 (by omega)], hR, hF⟩
end
end Go.Proofs.YtpicgjjbpiinfaaGreatDoor

namespace Go.Proofs.YtpicgjjbpiinfaaGreatDoor
open Go.RowKit
set_option linter.unusedVariables false
set_option linter.unusedSimpArgs false
theorem cl_nil : CL ([] : List Nat) 0 := ⟨by omega, by simp, by simp⟩
theorem nbits_whole (l : List Nat) : nbits (l, 0) = 8 * l.length := by simp [nbits]
theorem nbits_len {s : List Nat × Nat} (h : CL s.1 s.2) : 8 * s.1.length ≤ nbits s + 7 ∧ nbits s ≤ 8 * s.1.length := by
  obtain ⟨l, b⟩ := s
  refine ⟨?_, nbits_le l b⟩
  unfold nbits
  simp only at h ⊢
  have := h.1
  omega
theorem bitsOn_n (x c : Nat) {s : List Nat × Nat} (h : CL s.1 s.2) : CL (bitsOn x c s).1 (bitsOn x c s).2 ∧ nbits (bitsOn x c s) = nbits s + c :=
  ⟨(bitsOn_bt x c s.1 s.2 h).1, (bitsOn_bt x c s.1 s.2 h).2.1⟩
theorem uB_small (x : Nat) (h : x < 16384) : (uB x).length ≤ 2 := by
  unfold uB uBf
  split
  · simp
  · rw [List.length_cons]
    unfold uBf
    rw [if_pos (by omega)]
    simp
/-- what the law hands over: times of one step, one value. -/
def ltT (f s : Int) (i : Nat) : Int := if i < 1000 then f + (i : Int) * s else 0
theorem stepZ_lt (f s : Int) (h1 : 1 ≤ s) (h2 : s ≤ 1125899906842624) (k : Nat) (hk : 0 < k) (hk' : k < 1000) : stepZ (ltT f s) k = s.toNat := by
  obtain ⟨j, rfl⟩ : ∃ j, k = j + 1 := ⟨k - 1, by omega⟩
  unfold stepZ ltT
  rw [Nat.add_sub_cancel, if_pos hk', if_pos (by omega), show f + ((j + 1 : Nat) : Int) * s - (f + (j : Int) * s) = s by rw [Int.natCast_add, Int.add_mul]; omega]
  omega
theorem timesS_lt (f s : Int) (hf : -4611686018427387904 ≤ f ∧ f ≤ 4611686018427387904) (h1 : 1 ≤ s) (h2 : s ≤ 1125899906842624) (n : Nat) (hn : n < 16384) : ∀ k, k + 2 ≤ 1000 → CL (timesS (ltT f s) n (k + 2)).1 (timesS (ltT f s) n (k + 2)).2 ∧ nbits (timesS (ltT f s) n (k + 2)) = 8 * ((uB n).length + (uB (foldZ (ltT f s 0))).length + (uB s.toNat).length) + k := by
  intro k
  induction k with
  | zero =>
    intro _
    have e : timesS (ltT f s) n 2 = (uB n ++ uB (foldZ (ltT f s 0)) ++ uB s.toNat, 0) := by
      simp [timesS, timeOn, uOn, stepZ_lt f s h1 h2 1 (by omega) (by omega)]
    rw [Nat.zero_add, e, nbits_whole]
    refine ⟨?_, by simp [Nat.add_assoc]⟩
    have hc := uOn_CL (x := s.toNat) (s := uOn (foldZ (ltT f s 0)) (uOn n ([], 0))) (by omega) (uOn_CL (by have e0 : ltT f s 0 = f := (by simp [ltT]); rw [e0]; unfold foldZ; split <;> omega) (uOn_CL (by omega) cl_nil))
    simpa [uOn] using hc
  | succ k ih0 =>
    intro hk
    have ih := ih0 (by omega)
    have e : timesS (ltT f s) n (k + 1 + 2) = bitsOn 0 0 (bitsOn 0 1 (timesS (ltT f s) n (k + 2))) := by
      show timeOn (ltT f s) (k + 2) (timesS (ltT f s) n (k + 2)) = _
      unfold timeOn
      rw [if_neg (by omega), if_neg (by omega), stepZ_lt f s h1 h2 (k + 2) (by omega) (by omega), show k + 2 - 1 = k + 1 by omega, stepZ_lt f s h1 h2 (k + 1) (by omega) (by omega), Int.sub_self, show wrap64 0 = 0 by simp [wrap64]]
      rfl
    rw [e]
    obtain ⟨c1, b1⟩ := bitsOn_n 0 1 ih.1
    obtain ⟨c2, b2⟩ := bitsOn_n 0 0 c1
    exact ⟨c2, by rw [b2, b1, ih.2]; omega⟩
theorem valsS_lt (v : Int) (n : Nat) (hn : n < 16384) : ∀ k, (valsS (fun _ => 0) (fun _ => v) n (k + 1)).ak = 0 ∧ (valsS (fun _ => 0) (fun _ => v) n (k + 1)).ax = v ∧ CL (valsS (fun _ => 0) (fun _ => v) n (k + 1)).s.1 (valsS (fun _ => 0) (fun _ => v) n (k + 1)).s.2 ∧ 8 * (uB n).length + k + 1 ≤ nbits (valsS (fun _ => 0) (fun _ => v) n (k + 1)).s ∧ nbits (valsS (fun _ => 0) (fun _ => v) n (k + 1)).s ≤ 8 * (uB n).length + k + 72 := by
  have h0 : CL (uOn n ([], 0)).1 (uOn n ([], 0)).2 := uOn_CL (by omega) cl_nil
  have hb0 : nbits (uOn n ([], 0)) = 8 * (uB n).length := by simp [uOn, nbits_whole]
  intro k
  induction k with
  | zero =>
    by_cases hv : v = 0
    · have e : valsS (fun _ => 0) (fun _ => v) n (0 + 1) = ⟨bitsOn 0 1 (uOn n ([], 0)), 0, v, 0⟩ := by
        simp only [valsS, valStep]; rw [if_pos ⟨by first | trivial | rfl, hv⟩]
      rw [e]
      obtain ⟨c1, b1⟩ := bitsOn_n 0 1 h0
      exact ⟨rfl, rfl, c1, by simp only; omega, by simp only; omega⟩
    · have e : valsS (fun _ => 0) (fun _ => v) n (0 + 1) = ⟨stepOn (wrap64 (v - 0)) (bitsOn 2 2 (uOn n ([], 0))), 0, v, v⟩ := by
        simp only [valsS, valStep]; rw [if_neg (fun h => hv h.2), if_pos trivial]
      rw [e]
      obtain ⟨c1, b1⟩ := bitsOn_n 2 2 h0
      obtain ⟨c2, b2⟩ := bitsOn_n (sizeN (foldZ (wrap64 (v - 0))) - 1) 6 c1
      obtain ⟨c3, b3⟩ := bitsOn_n (foldZ (wrap64 (v - 0))) (sizeN (foldZ (wrap64 (v - 0)))) c2
      have hs := sizeN_le (foldZ (wrap64 (v - 0)))
      refine ⟨rfl, rfl, c3, ?_, ?_⟩
      · show _ ≤ nbits (bitsOn _ _ _); omega
      · show nbits (bitsOn _ _ _) ≤ _; omega
  | succ k ih =>
    obtain ⟨e1, e2, c, b1, b2⟩ := ih
    have e : valsS (fun _ => 0) (fun _ => v) n (k + 1 + 1) = ⟨bitsOn 0 1 (valsS (fun _ => 0) (fun _ => v) n (k + 1)).s, 0, v, (valsS (fun _ => 0) (fun _ => v) n (k + 1)).la⟩ := by
      show valStep 0 v (valsS (fun _ => 0) (fun _ => v) n (k + 1)) = _
      unfold valStep
      rw [if_pos ⟨e1.symm, e2.symm⟩]
    rw [e]
    obtain ⟨c1, d1⟩ := bitsOn_n 0 1 c
    exact ⟨rfl, rfl, c1, by simp only; omega, by simp only; omega⟩
theorem pack_lt (f s v : Int) (hf : -4611686018427387904 ≤ f ∧ f ≤ 4611686018427387904) (h1 : 1 ≤ s) (h2 : s ≤ 1125899906842624) : 200 < (packS (ltT f s) (fun _ => 0) (fun _ => v) 1000).1.length ∧ (packS (ltT f s) (fun _ => 0) (fun _ => v) 1000).1.length ≤ 300 := by
  have hT := timesS_lt f s hf h1 h2 1000 (by omega) 998 (by omega)
  have hV := valsS_lt v 1000 (by omega) 999
  rw [show 998 + 2 = 1000 from rfl] at hT
  rw [show 999 + 1 = 1000 from rfl] at hV
  obtain ⟨c1, b1⟩ := hT
  obtain ⟨_, _, c2, b2, b3⟩ := hV
  have l1 := nbits_len c1
  have l2 := nbits_len c2
  have u0 : (uB 1000).length = 2 := by decide +kernel
  have u1 := uB_len (foldZ (ltT f s 0))
  have u2 := uB_len s.toNat
  have u3 := uB_small (timesS (ltT f s) 1000 1000).1.length (by omega)
  have u4 := uB_small (valsS (fun _ => 0) (fun _ => v) 1000 1000).s.1.length (by omega)
  simp only [packS, rawOn, List.length_append, List.length_nil]
  omega
end Go.Proofs.YtpicgjjbpiinfaaGreatDoor

namespace Go.Proofs.YtpicgjjbpiinfaaGreatDoor
open Go.RowKit
set_option linter.unusedVariables false
set_option linter.unusedSimpArgs false
theorem app1S (W : World) (base : Nat) (v : Value) (m : Nat) (xs : List Value) (own : W.ownsRow base 51 3 v m xs) (hbase : base ≤ W.heap.size) (t y x : Int) (hbig : m + 1 ≤ 10000000) :
    ∃ g c w', (Builtin.append_ #[39, 39] 39 #[v, .slice (some ⟨W.heap.size, 0, none⟩) 1 1]).run Tryz.prog (W.alloc (.cells #[.int .i64 t, .int .u8 y, .int .i64 x] 51)) = .ok (.slice (some ⟨g, 0, none⟩) (m + 1) c) w' ∧ w'.ownsRow base 51 3 (.slice (some ⟨g, 0, none⟩) (m + 1) c) (m + 1) (xs ++ [.int .i64 t, .int .u8 y, .int .i64 x]) ∧ Below base W w' := by
  obtain ⟨i, i1, i0⟩ := Option.map_eq_some_iff.1 smp_info
  have i2 : i.zero = some (.agg #[.int .i64 0, .int .u8 0, .int .i64 0]) := congrArg (·.1) i0
  have i3 : i.bytes = 24 := congrArg (·.2.1) i0
  have i4 : i.size = 3 := congrArg (·.2.2) i0
  have hB0 := below_new (Below.refl _ W) (.cells #[.int .i64 t, .int .u8 y, .int .i64 x] 51)
  have own' := own.alloc (.cells #[.int .i64 t, .int .u8 y, .int .i64 x] 51)
  have hbase' : base ≤ (W.alloc (.cells #[.int .i64 t, .int .u8 y, .int .i64 x] 51)).heap.size := by simp; omega
  obtain ⟨v', w', hr, ho', hg, hnil, hwh⟩ := run_append_own_at (P := Tryz.prog) (W.alloc (.cells #[.int .i64 t, .int .u8 y, .int .i64 x] 51)) base 39 39 51 i (.agg #[.int .i64 0, .int .u8 0, .int .i64 0]) 3 24 Tryz.underlying39 i1 i2 i4 i3 rfl (by omega) _ m xs own' ⟨W.heap.size, 0, none⟩ 1 1 [.int .i64 t, .int .u8 y, .int .i64 x] rfl (fun j u hu => by
    rcases j with _ | _ | _ | j
    · simp at hu; subst hu; rw [add_none2]; simp [go_sem]
    · simp at hu; subst hu; rw [add_none2]; simp [go_sem]
    · simp at hu; subst hu; rw [add_none2]; simp [go_sem]
    · simp at hu) (by intro u hu; simp at hu; rcases hu with rfl | rfl | rfl <;> rfl) (by simp [maxLen]; omega) (by omega) hbase'
  have hB2 : Below base (W.alloc (.cells #[.int .i64 t, .int .u8 y, .int .i64 x] 51)) w' := (Below.refl _ _).grown hg hbase' (fun k e => (own'.lt k e).1)
  rcases ho'.2 with ⟨hq, _⟩ | ⟨g, c, cur, hq, hbg, hgr, _⟩
  · have := hnil.1 hq; simp at this
  · subst hq
    exact ⟨g, c, w', hr, ho', (hB0.mono hbase).trans hB2⟩
theorem encS_succ (tt : Nat → Int) (kk : Nat → Nat) (xx : Nat → Int) (n : Nat) : encS tt kk xx (n + 1) = encS tt kk xx n ++ [.int .i64 (tt n), .int .u8 (kk n : Int), .int .i64 (xx n)] := by
  unfold encS
  rw [show (n + 1) * 3 = n * 3 + 1 + 1 + 1 by omega, List.range_succ, List.range_succ, List.range_succ]
  simp only [List.map_append, List.map_cons, List.map_nil, List.append_assoc, List.cons_append, List.nil_append]
  congr 1
  unfold smpC
  rw [if_pos (by omega), if_neg (by omega), if_pos (by omega), if_neg (by omega), if_neg (by omega), show n * 3 / 3 = n by omega, show (n * 3 + 1) / 3 = n by omega, show (n * 3 + 1 + 1) / 3 = n by omega]
theorem own_SIn {W : World} {base n : Nat} {v : Value} {tt : Nat → Int} {kk : Nat → Nat} {xx : Nat → Int} (h : W.ownsRow base 51 3 v n (encS tt kk xx n)) (hn : n ≤ 1048576) (hz : ∀ i, kk i < 256 ∧ -9223372036854775808 ≤ xx i ∧ xx i ≤ 9223372036854775807) (hz' : ∀ i, -9223372036854775808 ≤ tt i ∧ tt i ≤ 9223372036854775807) : ∃ a c, v = .slice a n c ∧ SIn W a n tt kk xx := by
  rcases h.2 with ⟨e, e0⟩ | ⟨g, cap, cur, e1, _⟩
  · exact ⟨none, 0, by rw [e, e0], by omega, hz, hz', Or.inl e0⟩
  · subst e1
    have hcs := h.cells (g := g) rfl
    refine ⟨some ⟨g, 0, none⟩, cap, rfl, by omega, hz, hz', Or.inr ⟨g, 0, rfl, (h.lt g rfl).2, fun i hi => ⟨?_, ?_, ?_⟩⟩⟩
    · have := hcs (i * 3) _ (encS_get tt kk xx n (i * 3) (by omega))
      rw [add_none2, Nat.zero_add] at this
      rw [Nat.zero_add, this]; unfold smpC; rw [if_pos (by omega), show i * 3 / 3 = i by omega]
    · have := hcs (i * 3 + 1) _ (encS_get tt kk xx n (i * 3 + 1) (by omega))
      rw [add_none2, Nat.zero_add] at this
      rw [Nat.zero_add, this]; unfold smpC; rw [if_neg (by omega), if_pos (by omega), show (i * 3 + 1) / 3 = i by omega]
    · have := hcs (i * 3 + 2) _ (encS_get tt kk xx n (i * 3 + 2) (by omega))
      rw [add_none2, Nat.zero_add] at this
      rw [Nat.zero_add, this]; unfold smpC; rw [if_neg (by omega), if_neg (by omega), show (i * 3 + 2) / 3 = i by omega]
theorem lt_rg (f s : Int) (hf : -4611686018427387904 ≤ f ∧ f ≤ 4611686018427387904) (h1 : 1 ≤ s) (h2 : s ≤ 1125899906842624) (k : Nat) (hk : k ≤ 1000) : 0 ≤ (k : Int) * s ∧ (k : Int) * s ≤ 1125899906842624000 ∧ -9223372036854775808 ≤ f + (k : Int) * s ∧ f + (k : Int) * s ≤ 9223372036854775807 := by
  have e1 : 0 ≤ (k : Int) * s := Int.mul_nonneg (by omega) (by omega)
  have e2 : (k : Int) * s ≤ 1000 * 1125899906842624 := Int.mul_le_mul (by omega) h2 (by omega) (by omega)
  omega
theorem ltT_rg (f s : Int) (hf : -4611686018427387904 ≤ f ∧ f ≤ 4611686018427387904) (h1 : 1 ≤ s) (h2 : s ≤ 1125899906842624) (i : Nat) : -9223372036854775808 ≤ ltT f s i ∧ ltT f s i ≤ 9223372036854775807 := by
  unfold ltT
  split
  · exact (lt_rg f s hf h1 h2 i (by omega)).2.2
  · omega
theorem ltT_rises (f s : Int) (h1 : 1 ≤ s) : Rises (ltT f s) 1000 := by
  intro i hi hi'
  unfold ltT
  rw [if_pos (by omega), if_pos (by omega)]
  obtain ⟨j, rfl⟩ : ∃ j, i = j + 1 := ⟨i - 1, by omega⟩
  rw [Nat.add_sub_cancel, Int.natCast_add, Int.add_mul]
  omega
end Go.Proofs.YtpicgjjbpiinfaaGreatDoor
