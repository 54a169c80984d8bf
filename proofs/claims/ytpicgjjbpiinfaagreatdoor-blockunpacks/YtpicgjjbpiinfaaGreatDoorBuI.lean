
import Derived.Test.YtpicgjjbpiinfaaGreatDoorBuH
import Derived.Deep.RegionHeld3
import Derived.Test.YtpicgjjbpiinfaaGreatDoorBuE
import Derived.Test.YtpicgjjbpiinfaaGreatDoorBuF
import Derived.BigQuiet
import Derived.WalkMore
namespace Go.Proofs.YtpicgjjbpiinfaaGreatDoor
open Go.RowKit
set_option linter.unusedVariables false
set_option linter.unusedSimpArgs false
theorem step_append_run {P : Program} {ops : Array Oper} {o : Oper} {a : Act} {w : World} {K : Act → World → Prop} {Q : Exit → Act → World → Prop} {E : Prop}
    (hg : o.guard = none) (s x : Operand) (t : TypeId) (hop : o.op = Op.call { callee := Callee.builtin Builtin.append, args := #[s, x], argTypes := #[t, t] })
    (v y v' : Value) (w' : World) (hs : a.eval s = v) (hx : a.eval x = y) (hr : (Builtin.append_ #[t, t] o.type #[v, y]).run P w = .ok v' w') (hK : K (a.put o.dst v') w') :
    if Region.wanted o (yielded ops a.tmps) = true then Oper.wp P o a w K Q else E := by
  have hw : Region.wanted o (yielded ops a.tmps) = true := by simp [Region.wanted, hg]
  rw [if_pos hw]
  unfold Oper.wp execOp
  simp only [hop, resolve, invoke, builtin, Sem.run_bind, Sem.run_pure, Result.andThen_ok, List.map_toArray, List.map_cons, List.map_nil, hs, hx, hr]
  exact hK
theorem bytesIn_set {w : World} {N j m : Nat} {x : Value} {a : Option Addr} {f : Nat → Nat} (hm : m ≤ 140737488355327) (h : m = 0 ∨ ∃ g, a = some ⟨g, 0, none⟩ ∧ N < g ∧ g < w.heap.size ∧ BytesAt w g 0 m f) : m = 0 ∨ ∃ g, a = some ⟨g, 0, none⟩ ∧ N < g ∧ g < (w.setCell ⟨N, j, none⟩ x).heap.size ∧ BytesAt (w.setCell ⟨N, j, none⟩ x) g 0 m f := by
  rcases h with h0 | ⟨g, e, hN, hg, hB⟩
  · exact Or.inl h0
  · exact Or.inr ⟨g, e, hN, by simpa using hg, fun i hi => ⟨by rw [World.cell?_setCell_other _ _ _ _ (by intro e; injection e with e1; omega)]; exact (hB i hi).1, (hB i hi).2⟩⟩
theorem bytesIn_of {w : World} {N m : Nat} {a : Option Addr} {f : Nat → Nat} (hm : m ≤ 140737488355327) (h : m = 0 ∨ ∃ g, a = some ⟨g, 0, none⟩ ∧ N < g ∧ g < w.heap.size ∧ BytesAt w g 0 m f) : BytesIn w a m f := by
  rcases h with h0 | ⟨g, e, hN, hg, hB⟩
  · exact ⟨hm, Or.inl h0⟩
  · exact ⟨hm, Or.inr ⟨g, 0, e, hg, hB⟩⟩
section
variable {N : Nat} {w1 : World} {a : Option Addr} {n cap p r : Nat} {bs : Nat → Nat} {fv : Option (Int × Int)} {w : World}
/-- what number tells of a length. -/
def NumL (N : Nat) (w1 : World) (a : Option Addr) (n cap : Nat) (bs : Nat → Nat) (p r M : Nat) (fv : Option (Int × Int)) (w : World) (e : Ending) (w' : World) : Prop :=
  (∃ fv' v l, NumD bs n p r M 6 fv fv' v l ∧ e = .returned (.tuple #[.int .u64 (v : Int), .int .i64 (l : Int)]) ∧ QR N w1 a n cap bs p r fv' w') ∧ RF N w w'
theorem NumD.piece {M v l : Nat} {fv' : Option (Int × Int)} {most : Int} {z : Int × Int} (hM : M = most.toNat) (hf : fv' = some z) (h : NumD bs n p r M 6 fv fv' v l) : v = 0 ∧ l = 0 ∧ PieceG bs n p r most fv p r fv' 0 0 := by
  rcases h with ⟨g1, g2, g3, g4⟩ | ⟨g1, ⟨q, g2, g3, g4, g5⟩ | ⟨x, k, g2, ⟨g4, g3, g5, g6⟩ | ⟨g4, g3, g5, g6⟩⟩⟩
  · exact ⟨g3, g4, Or.inl ⟨g1, g2, rfl, rfl, rfl⟩⟩
  · exact ⟨g4, g5, Or.inr ⟨g1, Or.inl ⟨q, g2, g3, rfl, rfl, rfl⟩⟩⟩
  · exact ⟨g5, g6, Or.inr ⟨g1, Or.inr ⟨x, k, g2, Or.inl ⟨by omega, g3, rfl, rfl, rfl⟩⟩⟩⟩
  · rw [hf] at g3; cases g3
theorem NumD.good {M v l : Nat} {fv' : Option (Int × Int)} (hf : fv' = none) (h : NumD bs n p r M 6 fv fv' v l) : startF bs p r fv = none ∧ numS bs n p 10 0 0 = .inr (v, l) ∧ v ≤ M := by
  rcases h with ⟨g1, g2, g3, g4⟩ | ⟨g1, ⟨q, g2, g3, g4, g5⟩ | ⟨x, k, g2, ⟨g4, g3, g5, g6⟩ | ⟨g4, g3, g5, g6⟩⟩⟩
  · rw [hf] at g2; exact absurd g2.symm g1
  · rw [hf] at g3; cases g3
  · rw [hf] at g3; cases g3
  · subst g5 g6; exact ⟨g1, g2, g4⟩
set_option maxRecDepth 100000 in
set_option maxHeartbeats 4000000 in
theorem dRaw_pos (h : QR N w1 a n cap bs p r fv w) (M : Nat) (hM0 : 0 < M) (hM : M ≤ 9223372036854775807) :
    Calls Tryz.prog 41 #[.pointer (some ⟨N, 0, none⟩), .int .i64 (M : Int)] w fun e w' => (∃ p' r' fv' q m a' c, PieceG bs n p r (M : Int) fv p' r' fv' q m ∧ e = .returned (.slice a' m c) ∧ BytesIn w' a' m (fun i => bs (q + i)) ∧ QR N w1 a n cap bs p' r' fv' w') ∧ RF N w w' := by
  have h256 := h.bytes256
  have hnb := h.nb
  have hpn := h.pn
  have hS : Hid _ := dNumber_any h M (by omega) 6 rfl
  clear h
  have hpos : (0 : Int) < (M : Int) := by omega
  have hzH : Hid (0 < M) := hM0
  have hneg : ¬ (M : Int) < 0 := by omega
  have hmw : IntKind.u64.wrap (M : Int) = (M : Int) := by rw [IntKind.wrap_u64]; omega
  go_enter Tryz.func41, Tryz.ntmps41
  go_wp2_with fail
  refine Calls.mono hS.out ?_
  rintro e w2 ⟨⟨fv', v, l, hG, rfl, h2⟩, F2⟩
  cases hf : fv' with
  | some z =>
    obtain ⟨rfl, rfl, hP⟩ := NumD.piece (most := (M : Int)) (by have := hzH.out; omega) hf hG
    rw [hf] at h2 hP
    have c3 := h2.c3
    have hf2 := h2.fe z rfl
    have h2H : Hid _ := h2
    have hPH : Hid (PieceG bs n p r (M : Int) fv p r (some z) 0 0) := hP
    obtain ⟨zq, ze⟩ := z
    simp only [fcd] at c3 hf2
    clear h2 hf hP hG hS
    go_wp2_with fail
    go_quiet (fail)
    go_wp2_with fail
    go_ret
    exact ⟨⟨p, r, _, 0, 0, none, 0, hPH.out, rfl, ⟨by omega, Or.inl rfl⟩, h2H.out.drewN _⟩, F2.trans (RF.drewN _ _)⟩
  | none =>
    subst hf
    obtain ⟨g1, g2, g4⟩ := NumD.good rfl hG
    obtain ⟨hl, hn, hxx, _⟩ := numS_len h256 g2
    have hl0 : 0 < l := by rw [hl]; exact uBf_pos 10 v
    have hlI : (0 : Int) < (l : Int) := by omega
    have c0 := h2.c0
    have c1 := h2.c1
    have c3 := h2.c3
    simp only [fcd] at c3
    have hg : Hid _ := And.intro g1 (And.intro g2 g4)
    have i2 : IntKind.i64.wrap ((n : Int) - (p : Int) - (l : Int)) = (n : Int) - (p : Int) - (l : Int) := IntWalk.i64_in _ (by omega)
    have i3 : IntKind.u64.wrap ((n : Int) - (p : Int) - (l : Int)) = (n : Int) - (p : Int) - (l : Int) := by rw [IntKind.wrap_u64]; omega
    have h2H : Hid _ := h2
    clear hG g1 g2 hl h2 hS
    by_cases hbig : n < p + l + v
    · have i1 : (n : Int) - (p : Int) - (l : Int) < (v : Int) := by omega
      go_wp2_with fail
      go_quiet (fail)
      go_wp2_with fail
      refine Calls.mono (dAt_any (n : Int) 30 rfl _) ?_
      rintro e w3 ⟨rfl, hB3⟩
      obtain ⟨h3, F3⟩ := (h2H.out.drewN _).after hB3
      have hFl3 : Hid _ := dFail_new h3 (n : Int) 30 rfl
      clear h3 c0 c1 c3
      go_wp2_with fail
      refine Calls.mono hFl3.out ?_
      rintro e w4 ⟨rfl, h4, F4⟩
      have d3 := h4.c3
      simp only [fcd] at d3
      have h4H : Hid _ := h4
      clear h4
      go_wp2_with fail
      go_ret
      exact ⟨⟨p, r, some ((n : Int), 30), 0, 0, none, 0, Or.inr ⟨hg.out.1, Or.inr ⟨v, l, hg.out.2.1, Or.inr (Or.inl ⟨by have := hzH.out; omega, hbig, rfl, rfl, rfl, rfl⟩)⟩⟩, rfl, ⟨by omega, Or.inl rfl⟩, h4H.out⟩, ((F2.trans (RF.drewN _ _)).trans F3).trans F4⟩
    · have i1 : ¬ (n : Int) - (p : Int) - (l : Int) < (v : Int) := by omega
      have hnc := h2H.out.nc
      rcases h2H.out.row with h0 | ⟨b, off, rfl, hb, hbN, hB⟩
      · omega
      obtain ⟨fr, hfr⟩ : ∃ fr, fr = p + l := ⟨_, rfl⟩
      obtain ⟨to, hto⟩ : ∃ to, to = fr + v := ⟨_, rfl⟩
      have hfrH : Hid _ := hfr
      have htoH : Hid _ := hto
      have v47 : v ≤ 140737488355327 := by omega
      have hfin : Hid (∀ (W : World) a9 c9 w9, QR N w1 (some ⟨b, off, none⟩) n cap bs p r none W → RF N w W → v ≤ c9 → (v = 0 ∨ ∃ g, a9 = some ⟨g, 0, none⟩ ∧ W.heap.size ≤ g ∧ g < w9.heap.size ∧ BytesAt w9 g 0 v (fun i => bs (fr + i))) → Below W.heap.size W w9 →
          (∃ p' r' fv' q m a' c, PieceG bs n p r (M : Int) fv p' r' fv' q m ∧ Ending.returned (.slice a9 v c9) = .returned (.slice a' m c) ∧ BytesIn ((w9.setCell ⟨N, 1, none⟩ (.int .i64 ((p : Int) + ((l : Int) + (v : Int))))).setCell ⟨N, 2, none⟩ (.int .i64 0)) a' m (fun i => bs (q + i)) ∧ QR N w1 (some ⟨b, off, none⟩) n cap bs p' r' fv' ((w9.setCell ⟨N, 1, none⟩ (.int .i64 ((p : Int) + ((l : Int) + (v : Int))))).setCell ⟨N, 2, none⟩ (.int .i64 0))) ∧ RF N w ((w9.setCell ⟨N, 1, none⟩ (.int .i64 ((p : Int) + ((l : Int) + (v : Int))))).setCell ⟨N, 2, none⟩ (.int .i64 0))) := by
        unfold Hid
        intro W a9 c9 w9 hW hFW hc9 hrow hB9
        have h9 := hW.below hB9
        obtain ⟨h10, F10⟩ := h9.pass (l + v) (by omega)
        rw [show ((l + v : Nat) : Int) = (l : Int) + (v : Int) by omega] at h10 F10
        have hsz := hW.sz
        refine ⟨⟨p + (l + v), 0, none, fr, v, a9, c9, Or.inr ⟨hg.out.1, Or.inr ⟨v, l, hg.out.2.1, Or.inr (Or.inr ⟨by have := hzH.out; omega, by omega, rfl, rfl, hfr, by omega, rfl⟩)⟩⟩, rfl, bytesIn_of (N := N) v47 (bytesIn_set v47 (bytesIn_set v47 ?_)), h10⟩, (hFW.trans (RF.below hB9)).trans F10⟩
        rcases hrow with h0 | ⟨g, e, hg1, hg2, hB⟩
        · exact Or.inl h0
        · exact Or.inr ⟨g, e, by omega, hg2, hB⟩
      have hby : Hid (∀ W, QR N w1 (some ⟨b, off, none⟩) n cap bs p r none W → BytesAt W b (off + fr) v (fun i => bs (fr + i))) := by
        unfold Hid
        intro W hW i hi
        rcases hW.row with h0 | ⟨b', off', e', _, _, hB'⟩
        · omega
        · injection e' with e'
          injection e' with e' e''
          subst e' e''
          have := hB' (fr + i) (by omega)
          rw [← Nat.add_assoc] at this
          exact this
      have hbW : Hid (∀ W, QR N w1 (some ⟨b, off, none⟩) n cap bs p r none W → b < W.heap.size) := by
        unfold Hid
        intro W hW
        rcases hW.row with h0 | ⟨b', off', e', hb', _, hB'⟩
        · omega
        · injection e' with e'
          injection e' with e' e''
          subst e'
          exact hb'
      clear hB hfr hto
      go_wp2_with fail
      go_quiet (fail)
      go_wp2_with fail
      have hfr := hfrH.out
      have hto := htoH.out
      have hW : QR N w1 (some ⟨b, off, none⟩) n cap bs p r none (w2.drewN nq).drew := (h2H.out.drewN nq).below (Below.refl _ _).drew
      have hFW : RF N w (w2.drewN nq).drew := F2.trans (RF.below ((below_drewN (Below.refl _ _) nq).drew))
      have d0 : (w2.drewN nq).cell? ⟨N, 0, none⟩ = some (.slice (some ⟨b, off, none⟩) n cap) := (h2H.out.drewN nq).c0
      have d1 : (w2.drewN nq).cell? ⟨N, 1, none⟩ = some (.int .i64 (p : Int)) := (h2H.out.drewN nq).c1
      have SS : (w2.drewN nq).cell? ⟨N, 0, none⟩ = some (.slice (some ⟨b, off, none⟩) n cap) ∧ (w2.drewN nq).cell? ⟨N, 1, none⟩ = some (.int .i64 (p : Int)) := ⟨d0, d1⟩
      have SS2 : (w2.drewN nq).drew.cell? ⟨N, 0, none⟩ = some (.slice (some ⟨b, off, none⟩) n cap) ∧ (w2.drewN nq).drew.cell? ⟨N, 1, none⟩ = some (.int .i64 (p : Int)) := SS
      have hfrI : (p : Int) + (l : Int) = (fr : Int) := by omega
      have htoI : (fr : Int) + (v : Int) = (to : Int) := by omega
      have wfr : IntKind.i64.wrap (fr : Int) = (fr : Int) := IntWalk.i64_in _ (by omega)
      have wto : IntKind.i64.wrap (to : Int) = (to : Int) := IntWalk.i64_in _ (by omega)
      have wv : IntKind.i64.wrap (v : Int) = (v : Int) := IntWalk.i64_in _ (by omega)
      have wlv : IntKind.i64.wrap ((l : Int) + (v : Int)) = (l : Int) + (v : Int) := IntWalk.i64_in _ (by omega)
      have k1 : (0 : Int) ≤ (fr : Int) := by omega
      have k2 : (fr : Int) ≤ (to : Int) := by omega
      have k3 : (to : Int) ≤ (n : Int) := by omega
      have k4 : (to : Int) ≤ (cap : Int) := by omega
      have k5 : fr ≤ to := by omega
      have k6 : to ≤ cap := by omega
      have k7 : fr ≤ cap := by omega
      have ex : to - fr = v := by omega
      by_cases hc : fr < cap
      · have j1 : ¬ cap ≤ fr := by omega
        have j2 : ¬ cap - fr = 0 := by omega
        have j3 : ¬ cap = fr := by omega
        have j4 : ¬ fr = cap := by omega
        obtain ⟨a9, c9, w9, hr, hc9, hrow, hB9⟩ := app_nil (some ⟨b, off + fr, none⟩) v (cap - fr) (fun i => bs (fr + i)) (w2.drewN nq).drew ⟨v47, Or.inr ⟨b, off + fr, rfl, hbW.out _ hW, hby.out _ hW⟩⟩
        have hrH : Hid _ := hr
        have hend : Hid _ := hfin.out _ a9 c9 w9 hW hFW hc9 hrow hB9
        have h9 := hW.below hB9
        have e0 := h9.c0
        have e1 := h9.c1
        have e2 := h9.c2
        have g1 := h9.f1
        have g2 := h9.f2
        clear hr hrow hW hFW h9 hfin hfr hto
        go_region_held3 (fun w' => w'.cell? ⟨N, 0, none⟩ = some (.slice (some ⟨b, off, none⟩) n cap) ∧ w'.cell? ⟨N, 1, none⟩ = some (.int .i64 (p : Int))) (first | assumption | exact ⟨by assumption, by assumption⟩)
          (first
            | (refine step_append_run rfl (.tmp 73) (.tmp 93) 22 rfl _ _ _ _ rfl rfl hrH.out ?_))
        go_wp2_with fail
        go_ret
        exact hend.out
      · have hvz : Hid (v = 0) := (by omega : v = 0)
        have htc : (cap : Int) + (v : Int) = (cap : Int) := by omega
        have hpc : (p : Int) + (l : Int) = (cap : Int) := by omega
        have wc : IntKind.i64.wrap (cap : Int) = (cap : Int) := IntWalk.i64_in _ (by omega)
        have kc0 : (0 : Int) ≤ (cap : Int) := by omega
        have kc1 : (cap : Int) ≤ (n : Int) := by omega
        obtain ⟨a9, c9, w9, hr, hc9, hrow, hB9⟩ := app_nil (some ⟨b, off, none⟩) v 0 (fun i => bs (fr + i)) (w2.drewN nq).drew ⟨v47, Or.inl hvz.out⟩
        have hr0 : (Builtin.append_ #[22, 22] 22 #[.slice none 0 0, .slice (some ⟨b, off, none⟩) 0 0]).run Tryz.prog (w2.drewN nq).drew = .ok (.slice a9 v c9) w9 := by rw [← hr]; simp only [hvz.out]
        have hrH : Hid _ := hr0
        have hend : Hid _ := hfin.out _ a9 c9 w9 hW hFW hc9 hrow hB9
        have h9 := hW.below hB9
        have e0 := h9.c0
        have e1 := h9.c1
        have e2 := h9.c2
        have g1 := h9.f1
        have g2 := h9.f2
        clear hr hr0 hrow hW hFW h9 hfin wfr wto k1 k2 k3 k4 k5 k6 k7 ex htoI hto htoH hfr hfrH hfrI
        go_region_held3 (fun w' => w'.cell? ⟨N, 0, none⟩ = some (.slice (some ⟨b, off, none⟩) n cap) ∧ w'.cell? ⟨N, 1, none⟩ = some (.int .i64 (p : Int))) (first | assumption | exact ⟨by assumption, by assumption⟩)
          (first
            | (refine step_append_run rfl (.tmp 73) (.tmp 93) 22 rfl _ _ _ _ rfl rfl hrH.out ?_))
        clear hpc htc
        go_wp2_with fail
        go_ret
        first
          | exact hend.out
          | (obtain ⟨⟨p', r', fv', q, m, a', c, H1, H2, H3, H4⟩, H5⟩ := hend.out; exact ⟨⟨p', r', fv', q, m, H1, a', ⟨c, H2⟩, H3, H4⟩, H5⟩)
set_option maxRecDepth 100000 in
set_option maxHeartbeats 4000000 in
theorem dRaw_zero (h : QR N w1 a n cap bs p r fv w) (M : Nat) (hM0 : M = 0) (hM : M ≤ 9223372036854775807) :
    Calls Tryz.prog 41 #[.pointer (some ⟨N, 0, none⟩), .int .i64 (M : Int)] w fun e w' => (∃ p' r' fv' q m a' c, PieceG bs n p r (M : Int) fv p' r' fv' q m ∧ e = .returned (.slice a' m c) ∧ BytesIn w' a' m (fun i => bs (q + i)) ∧ QR N w1 a n cap bs p' r' fv' w') ∧ RF N w w' := by
  have h256 := h.bytes256
  have hnb := h.nb
  have hpn := h.pn
  have hS : Hid _ := dNumber_any h 0 (by omega) 6 rfl
  clear h
  have hpos : ¬ (0 : Int) < (M : Int) := by omega
  have hzH : Hid (M = 0) := hM0
  clear hM0
  have hneg : ¬ (M : Int) < 0 := by omega
  go_enter Tryz.func41, Tryz.ntmps41
  go_wp2_with fail
  refine Calls.mono hS.out ?_
  rintro e w2 ⟨⟨fv', v, l, hG, rfl, h2⟩, F2⟩
  cases hf : fv' with
  | some z =>
    obtain ⟨rfl, rfl, hP⟩ := NumD.piece (most := (M : Int)) (by have := hzH.out; omega) hf hG
    rw [hf] at h2 hP
    have c3 := h2.c3
    have hf2 := h2.fe z rfl
    have h2H : Hid _ := h2
    have hPH : Hid (PieceG bs n p r (M : Int) fv p r (some z) 0 0) := hP
    obtain ⟨zq, ze⟩ := z
    simp only [fcd] at c3 hf2
    clear h2 hf hP hG hS
    go_wp2_with fail
    go_quiet (fail)
    go_wp2_with fail
    go_ret
    exact ⟨⟨p, r, _, 0, 0, none, 0, hPH.out, rfl, ⟨by omega, Or.inl rfl⟩, h2H.out.drewN _⟩, F2.trans (RF.drewN _ _)⟩
  | none =>
    subst hf
    obtain ⟨g1, g2, g4⟩ := NumD.good rfl hG
    obtain ⟨hl, hn, hxx, _⟩ := numS_len h256 g2
    have hl0 : 0 < l := by rw [hl]; exact uBf_pos 10 v
    have hlI : (0 : Int) < (l : Int) := by omega
    have c0 := h2.c0
    have c1 := h2.c1
    have c3 := h2.c3
    simp only [fcd] at c3
    have hg : Hid _ := And.intro g1 (And.intro g2 g4)
    have i2 : IntKind.i64.wrap ((n : Int) - (p : Int) - (l : Int)) = (n : Int) - (p : Int) - (l : Int) := IntWalk.i64_in _ (by omega)
    have i3 : IntKind.u64.wrap ((n : Int) - (p : Int) - (l : Int)) = (n : Int) - (p : Int) - (l : Int) := by rw [IntKind.wrap_u64]; omega
    have h2H : Hid _ := h2
    clear hG g1 g2 hl h2 hS
    by_cases hbig : n < p + l + v
    · omega
    · have i1 : ¬ (n : Int) - (p : Int) - (l : Int) < (v : Int) := by omega
      have hnc := h2H.out.nc
      rcases h2H.out.row with h0 | ⟨b, off, rfl, hb, hbN, hB⟩
      · omega
      obtain ⟨fr, hfr⟩ : ∃ fr, fr = p + l := ⟨_, rfl⟩
      obtain ⟨to, hto⟩ : ∃ to, to = fr + v := ⟨_, rfl⟩
      have hfrH : Hid _ := hfr
      have htoH : Hid _ := hto
      have v47 : v ≤ 140737488355327 := by omega
      have hfin : Hid (∀ (W : World) a9 c9 w9, QR N w1 (some ⟨b, off, none⟩) n cap bs p r none W → RF N w W → v ≤ c9 → (v = 0 ∨ ∃ g, a9 = some ⟨g, 0, none⟩ ∧ W.heap.size ≤ g ∧ g < w9.heap.size ∧ BytesAt w9 g 0 v (fun i => bs (fr + i))) → Below W.heap.size W w9 →
          (∃ p' r' fv' q m a' c, PieceG bs n p r (M : Int) fv p' r' fv' q m ∧ Ending.returned (.slice a9 v c9) = .returned (.slice a' m c) ∧ BytesIn ((w9.setCell ⟨N, 1, none⟩ (.int .i64 ((p : Int) + ((l : Int) + (v : Int))))).setCell ⟨N, 2, none⟩ (.int .i64 0)) a' m (fun i => bs (q + i)) ∧ QR N w1 (some ⟨b, off, none⟩) n cap bs p' r' fv' ((w9.setCell ⟨N, 1, none⟩ (.int .i64 ((p : Int) + ((l : Int) + (v : Int))))).setCell ⟨N, 2, none⟩ (.int .i64 0))) ∧ RF N w ((w9.setCell ⟨N, 1, none⟩ (.int .i64 ((p : Int) + ((l : Int) + (v : Int))))).setCell ⟨N, 2, none⟩ (.int .i64 0))) := by
        unfold Hid
        intro W a9 c9 w9 hW hFW hc9 hrow hB9
        have h9 := hW.below hB9
        obtain ⟨h10, F10⟩ := h9.pass (l + v) (by omega)
        rw [show ((l + v : Nat) : Int) = (l : Int) + (v : Int) by omega] at h10 F10
        have hsz := hW.sz
        refine ⟨⟨p + (l + v), 0, none, fr, v, a9, c9, Or.inr ⟨hg.out.1, Or.inr ⟨v, l, hg.out.2.1, Or.inr (Or.inr ⟨by have := hzH.out; omega, by omega, rfl, rfl, hfr, by omega, rfl⟩)⟩⟩, rfl, bytesIn_of (N := N) v47 (bytesIn_set v47 (bytesIn_set v47 ?_)), h10⟩, (hFW.trans (RF.below hB9)).trans F10⟩
        rcases hrow with h0 | ⟨g, e, hg1, hg2, hB⟩
        · exact Or.inl h0
        · exact Or.inr ⟨g, e, by omega, hg2, hB⟩
      have hby : Hid (∀ W, QR N w1 (some ⟨b, off, none⟩) n cap bs p r none W → BytesAt W b (off + fr) v (fun i => bs (fr + i))) := by
        unfold Hid
        intro W hW i hi
        rcases hW.row with h0 | ⟨b', off', e', _, _, hB'⟩
        · omega
        · injection e' with e'
          injection e' with e' e''
          subst e' e''
          have := hB' (fr + i) (by omega)
          rw [← Nat.add_assoc] at this
          exact this
      have hbW : Hid (∀ W, QR N w1 (some ⟨b, off, none⟩) n cap bs p r none W → b < W.heap.size) := by
        unfold Hid
        intro W hW
        rcases hW.row with h0 | ⟨b', off', e', hb', _, hB'⟩
        · omega
        · injection e' with e'
          injection e' with e' e''
          subst e'
          exact hb'
      clear hB hfr hto
      go_wp2_with fail
      go_quiet (fail)
      go_wp2_with fail
      have hfr := hfrH.out
      have hto := htoH.out
      have hW : QR N w1 (some ⟨b, off, none⟩) n cap bs p r none (w2.drewN nq).drew := (h2H.out.drewN nq).below (Below.refl _ _).drew
      have hFW : RF N w (w2.drewN nq).drew := F2.trans (RF.below ((below_drewN (Below.refl _ _) nq).drew))
      have d0 : (w2.drewN nq).cell? ⟨N, 0, none⟩ = some (.slice (some ⟨b, off, none⟩) n cap) := (h2H.out.drewN nq).c0
      have d1 : (w2.drewN nq).cell? ⟨N, 1, none⟩ = some (.int .i64 (p : Int)) := (h2H.out.drewN nq).c1
      have SS : (w2.drewN nq).cell? ⟨N, 0, none⟩ = some (.slice (some ⟨b, off, none⟩) n cap) ∧ (w2.drewN nq).cell? ⟨N, 1, none⟩ = some (.int .i64 (p : Int)) := ⟨d0, d1⟩
      have SS2 : (w2.drewN nq).drew.cell? ⟨N, 0, none⟩ = some (.slice (some ⟨b, off, none⟩) n cap) ∧ (w2.drewN nq).drew.cell? ⟨N, 1, none⟩ = some (.int .i64 (p : Int)) := SS
      have hfrI : (p : Int) + (l : Int) = (fr : Int) := by omega
      have htoI : (fr : Int) + (v : Int) = (to : Int) := by omega
      have wfr : IntKind.i64.wrap (fr : Int) = (fr : Int) := IntWalk.i64_in _ (by omega)
      have wto : IntKind.i64.wrap (to : Int) = (to : Int) := IntWalk.i64_in _ (by omega)
      have wv : IntKind.i64.wrap (v : Int) = (v : Int) := IntWalk.i64_in _ (by omega)
      have wlv : IntKind.i64.wrap ((l : Int) + (v : Int)) = (l : Int) + (v : Int) := IntWalk.i64_in _ (by omega)
      have k1 : (0 : Int) ≤ (fr : Int) := by omega
      have k2 : (fr : Int) ≤ (to : Int) := by omega
      have k3 : (to : Int) ≤ (n : Int) := by omega
      have k4 : (to : Int) ≤ (cap : Int) := by omega
      have k5 : fr ≤ to := by omega
      have k6 : to ≤ cap := by omega
      have k7 : fr ≤ cap := by omega
      have ex : to - fr = v := by omega
      by_cases hc : fr < cap
      · have j1 : ¬ cap ≤ fr := by omega
        have j2 : ¬ cap - fr = 0 := by omega
        have j3 : ¬ cap = fr := by omega
        have j4 : ¬ fr = cap := by omega
        obtain ⟨a9, c9, w9, hr, hc9, hrow, hB9⟩ := app_nil (some ⟨b, off + fr, none⟩) v (cap - fr) (fun i => bs (fr + i)) (w2.drewN nq).drew ⟨v47, Or.inr ⟨b, off + fr, rfl, hbW.out _ hW, hby.out _ hW⟩⟩
        have hrH : Hid _ := hr
        have hend : Hid _ := hfin.out _ a9 c9 w9 hW hFW hc9 hrow hB9
        have h9 := hW.below hB9
        have e0 := h9.c0
        have e1 := h9.c1
        have e2 := h9.c2
        have g1 := h9.f1
        have g2 := h9.f2
        clear hr hrow hW hFW h9 hfin hfr hto
        go_region_held3 (fun w' => w'.cell? ⟨N, 0, none⟩ = some (.slice (some ⟨b, off, none⟩) n cap) ∧ w'.cell? ⟨N, 1, none⟩ = some (.int .i64 (p : Int))) (first | assumption | exact ⟨by assumption, by assumption⟩)
          (first
            | (refine step_append_run rfl (.tmp 73) (.tmp 93) 22 rfl _ _ _ _ rfl rfl hrH.out ?_))
        go_wp2_with fail
        go_ret
        exact hend.out
      · have hvz : Hid (v = 0) := (by omega : v = 0)
        have htc : (cap : Int) + (v : Int) = (cap : Int) := by omega
        have hpc : (p : Int) + (l : Int) = (cap : Int) := by omega
        have wc : IntKind.i64.wrap (cap : Int) = (cap : Int) := IntWalk.i64_in _ (by omega)
        have kc0 : (0 : Int) ≤ (cap : Int) := by omega
        have kc1 : (cap : Int) ≤ (n : Int) := by omega
        obtain ⟨a9, c9, w9, hr, hc9, hrow, hB9⟩ := app_nil (some ⟨b, off, none⟩) v 0 (fun i => bs (fr + i)) (w2.drewN nq).drew ⟨v47, Or.inl hvz.out⟩
        have hr0 : (Builtin.append_ #[22, 22] 22 #[.slice none 0 0, .slice (some ⟨b, off, none⟩) 0 0]).run Tryz.prog (w2.drewN nq).drew = .ok (.slice a9 v c9) w9 := by rw [← hr]; simp only [hvz.out]
        have hrH : Hid _ := hr0
        have hend : Hid _ := hfin.out _ a9 c9 w9 hW hFW hc9 hrow hB9
        have h9 := hW.below hB9
        have e0 := h9.c0
        have e1 := h9.c1
        have e2 := h9.c2
        have g1 := h9.f1
        have g2 := h9.f2
        clear hr hr0 hrow hW hFW h9 hfin wfr wto k1 k2 k3 k4 k5 k6 k7 ex htoI hto htoH hfr hfrH hfrI
        go_region_held3 (fun w' => w'.cell? ⟨N, 0, none⟩ = some (.slice (some ⟨b, off, none⟩) n cap) ∧ w'.cell? ⟨N, 1, none⟩ = some (.int .i64 (p : Int))) (first | assumption | exact ⟨by assumption, by assumption⟩)
          (first
            | (refine step_append_run rfl (.tmp 73) (.tmp 93) 22 rfl _ _ _ _ rfl rfl hrH.out ?_))
        clear hpc htc
        go_wp2_with fail
        go_ret
        first
          | exact hend.out
          | (obtain ⟨⟨p', r', fv', q, m, a', c, H1, H2, H3, H4⟩, H5⟩ := hend.out; exact ⟨⟨p', r', fv', q, m, H1, a', ⟨c, H2⟩, H3, H4⟩, H5⟩)
set_option maxRecDepth 100000 in
set_option maxHeartbeats 4000000 in
theorem dRaw_neg (h : QR N w1 a n cap bs p r fv w) (most : Int) (hm : most < 0) :
    Calls Tryz.prog 41 #[.pointer (some ⟨N, 0, none⟩), .int .i64 most] w fun e w' => (∃ p' r' fv' q m a' c, PieceG bs n p r most fv p' r' fv' q m ∧ e = .returned (.slice a' m c) ∧ BytesIn w' a' m (fun i => bs (q + i)) ∧ QR N w1 a n cap bs p' r' fv' w') ∧ RF N w w' := by
  have h256 := h.bytes256
  have hnb := h.nb
  have hpn := h.pn
  have hS : Hid _ := dNumber_any h 0 (by omega) 6 rfl
  clear h
  have hpos : ¬ (0 : Int) < most := by omega
  go_enter Tryz.func41, Tryz.ntmps41
  go_wp2_with fail
  refine Calls.mono hS.out ?_
  rintro e w2 ⟨⟨fv', v, l, hG, rfl, h2⟩, F2⟩
  cases hf : fv' with
  | some z =>
    obtain ⟨rfl, rfl, hP⟩ := NumD.piece (most := most) (by omega) hf hG
    rw [hf] at h2 hP
    have c3 := h2.c3
    have hf2 := h2.fe z rfl
    have h2H : Hid _ := h2
    have hPH : Hid (PieceG bs n p r most fv p r (some z) 0 0) := hP
    obtain ⟨zq, ze⟩ := z
    simp only [fcd] at c3 hf2
    clear h2 hf hP hG hS
    go_wp2_with fail
    go_quiet (fail)
    go_wp2_with fail
    go_ret
    exact ⟨⟨p, r, _, 0, 0, none, 0, hPH.out, rfl, ⟨by omega, Or.inl rfl⟩, h2H.out.drewN _⟩, F2.trans (RF.drewN _ _)⟩
  | none =>
    subst hf
    obtain ⟨g1, g2, g4⟩ := NumD.good rfl hG
    obtain ⟨hl, hn, hxx, _⟩ := numS_len h256 g2
    have hl0 : 0 < l := by rw [hl]; exact uBf_pos 10 v
    have hlI : (0 : Int) < (l : Int) := by omega
    have c1 := h2.c1
    have hg : Hid _ := And.intro g1 (And.intro g2 g4)
    have h2H : Hid _ := h2
    clear hG g1 g2 hl h2 hS
    go_wp2_with fail
    refine Calls.mono (dAt_any (p : Int) 6 rfl _) ?_
    rintro e w3 ⟨rfl, hB3⟩
    obtain ⟨h3, F3⟩ := h2H.out.after hB3
    have hFl3 : Hid _ := dFail_new h3 (p : Int) 6 rfl
    clear h3 c1
    go_wp2_with fail
    refine Calls.mono hFl3.out ?_
    rintro e w4 ⟨rfl, h4, F4⟩
    have d3 := h4.c3
    simp only [fcd] at d3
    have h4H : Hid _ := h4
    clear h4
    go_wp2_with fail
    go_quiet (fail)
    go_wp2_with fail
    go_ret
    exact ⟨⟨p, r, some ((p : Int), 6), 0, 0, none, 0, Or.inr ⟨hg.out.1, Or.inr ⟨v, l, hg.out.2.1, Or.inl ⟨Or.inl hm, rfl, rfl, rfl, rfl⟩⟩⟩, rfl, ⟨by omega, Or.inl rfl⟩, h4H.out.drewN _⟩, ((F2.trans F3).trans F4).trans (RF.drewN _ _)⟩
theorem dRaw_gen (h : QR N w1 a n cap bs p r fv w) (most : Int) (hmost : -9223372036854775808 ≤ most ∧ most ≤ 9223372036854775807) :
    Calls Tryz.prog 41 #[.pointer (some ⟨N, 0, none⟩), .int .i64 most] w fun e w' => (∃ p' r' fv' q m a' c, PieceG bs n p r most fv p' r' fv' q m ∧ e = .returned (.slice a' m c) ∧ BytesIn w' a' m (fun i => bs (q + i)) ∧ QR N w1 a n cap bs p' r' fv' w') ∧ RF N w w' := by
  by_cases hm : most < 0
  · exact dRaw_neg h most hm
  · obtain ⟨M, rfl⟩ : ∃ M : Nat, most = (M : Int) := ⟨most.toNat, by omega⟩
    rcases Nat.eq_zero_or_pos M with h0 | h0
    · exact dRaw_zero h M h0 (by omega)
    · exact dRaw_pos h M h0 (by omega)
end
end Go.Proofs.YtpicgjjbpiinfaaGreatDoor

namespace Go.Proofs.YtpicgjjbpiinfaaGreatDoor
open Go.RowKit
set_option linter.unusedVariables false
set_option linter.unusedSimpArgs false
/-- the table of classes. -/
def clsV (j : Nat) : Int := [0, 0, 0, -63, 64, 7, -255, 256, 9, -2047, 2048, 12].getD j 0
def CT (w : World) : Prop := ∀ j, j < 12 → w.cell? ⟨0, j, none⟩ = some (.int .i64 (clsV j))
/-- a turn as bits: the lead, its size, the rest, its size. -/
def turnA (d : Int) : Nat := if d = 0 then 0 else if -63 ≤ d ∧ d ≤ 64 then 2 else if -255 ≤ d ∧ d ≤ 256 then 6 else if -2047 ≤ d ∧ d ≤ 2048 then 14 else 15
def turnB (d : Int) : Nat := if d = 0 then 1 else if -63 ≤ d ∧ d ≤ 64 then 2 else if -255 ≤ d ∧ d ≤ 256 then 3 else 4
def turnC (d : Int) : Nat := if d = 0 then 0 else if -63 ≤ d ∧ d ≤ 64 then (d + 63).toNat else if -255 ≤ d ∧ d ≤ 256 then (d + 255).toNat else if -2047 ≤ d ∧ d ≤ 2048 then (d + 2047).toNat else (d % 18446744073709551616).toNat
def turnD (d : Int) : Nat := if d = 0 then 0 else if -63 ≤ d ∧ d ≤ 64 then 7 else if -255 ≤ d ∧ d ≤ 256 then 9 else if -2047 ≤ d ∧ d ≤ 2048 then 12 else 64
def turnOn (d : Int) (s : List Nat × Nat) : List Nat × Nat := bitsOn (turnC d) (turnD d) (bitsOn (turnA d) (turnB d) s)
theorem WS.belowW {N : Nat} {w1 wx w' : World} {fr : Int} {v : Value} {n : Nat} {xs : List Value} (h : WS N w1 fr v n xs wx) (hb : Below wx.heap.size wx w') : WS N w1 fr v n xs w' := by
  obtain ⟨c0, c1, f0, f1, own, b, sz⟩ := h
  refine ⟨?_, ?_, ?_, ?_, ⟨own.1, ?_⟩, b.trans (hb.mono (by omega)), Nat.lt_of_lt_of_le sz hb.size⟩
  · rw [hb.cell (p := ⟨N, 0, none⟩) sz]; exact c0
  · rw [hb.cell (p := ⟨N, 1, none⟩) sz]; exact c1
  · rw [hb.frozen (p := ⟨N, 0, none⟩) sz]; exact f0
  · rw [hb.frozen (p := ⟨N, 1, none⟩) sz]; exact f1
  · rcases own.2 with h2 | ⟨g, cap, cur, e1, e2, e3, e4⟩
    · exact Or.inl h2
    · exact Or.inr ⟨g, cap, cur, e1, e2, by rw [hb.block g (Array.getElem?_eq_some_iff.1 e3).1]; exact e3, e4⟩
/-- the program's Writer at N, the document's at N: what is written, and how many bits of the last byte. -/
def RW (N : Nat) (w1 : World) (s : List Nat × Nat) (wx : World) : Prop := CL s.1 s.2 ∧ ∃ v, WS N w1 (((8 - s.2) % 8 : Nat) : Int) v s.1.length (enc s.1) wx
def DW (N : Nat) (w1 : World) (s : List Nat × Nat) (wx : World) : Prop := CL s.1 s.2 ∧ ∃ v, WS N w1 (s.2 : Int) v s.1.length (enc s.1) wx
theorem RW.below {N : Nat} {w1 wx w' : World} {s : List Nat × Nat} (h : RW N w1 s wx) (hb : Below wx.heap.size wx w') : RW N w1 s w' := by
  obtain ⟨h1, v, h2⟩ := h
  exact ⟨h1, v, h2.belowW hb⟩
theorem DW.below {N : Nat} {w1 wx w' : World} {s : List Nat × Nat} (h : DW N w1 s wx) (hb : Below wx.heap.size wx w') : DW N w1 s w' := by
  obtain ⟨h1, v, h2⟩ := h
  exact ⟨h1, v, h2.belowW hb⟩
theorem RW.b {N : Nat} {w1 wx : World} {s : List Nat × Nat} (h : RW N w1 s wx) : Below N w1 wx := by
  obtain ⟨h1, v, h2⟩ := h
  exact h2.b
theorem DW.b {N : Nat} {w1 wx : World} {s : List Nat × Nat} (h : DW N w1 s wx) : Below N w1 wx := by
  obtain ⟨h1, v, h2⟩ := h
  exact h2.b
theorem RW.sz {N : Nat} {w1 wx : World} {s : List Nat × Nat} (h : RW N w1 s wx) : N < wx.heap.size := by
  obtain ⟨h1, v, h2⟩ := h
  exact h2.sz
theorem DW.sz {N : Nat} {w1 wx : World} {s : List Nat × Nat} (h : DW N w1 s wx) : N < wx.heap.size := by
  obtain ⟨h1, v, h2⟩ := h
  exact h2.sz
/-- a number more. -/
def uOn (x : Nat) (s : List Nat × Nat) : List Nat × Nat := (s.1 ++ uB x, 0)
theorem uBf_256 : ∀ (f v : Nat), v < 128 ^ (f + 1) → ∀ y ∈ uBf f v, y < 256 := by
  intro f
  induction f with
  | zero => intro v h y hy; simp [uBf] at hy; simp at h; omega
  | succ f ih =>
    intro v h y hy
    by_cases hv : v < 128
    · simp [uBf, hv] at hy; omega
    · have e : uBf (f + 1) v = (v % 128 + 128) :: uBf f (v / 128) := by conv => lhs; unfold uBf; rw [if_neg hv]
      rw [e] at hy
      rcases List.mem_cons.1 hy with rfl | hy
      · omega
      · exact ih _ (by rw [Nat.div_lt_iff_lt_mul (by omega)]; rw [Nat.pow_succ] at h; omega) y hy
theorem uOn_CL {x : Nat} {s : List Nat × Nat} (hx : x < 18446744073709551616) (h : CL s.1 s.2) : CL (uOn x s).1 (uOn x s).2 := by
  refine ⟨by simp [uOn], fun y hy => ?_, fun h => absurd rfl h⟩
  rcases List.mem_append.1 hy with h1 | h1
  · exact h.2.1 y h1
  · exact uBf_256 10 x (by omega) y h1
theorem rw_uint {N : Nat} {w1 w : World} {s : List Nat × Nat} (h : RW N w1 s w) (x : Nat) (hx : x < 18446744073709551616) (z : Int) (hz : z = (x : Int)) (hb : s.1.length + 100 ≤ 140737488355328) : Calls Tryz.prog 54 #[.pointer (some ⟨N, 0, none⟩), .int .u64 z] w fun e w' => e = .returned undef ∧ RW N w1 (uOn x s) w' := by
  obtain ⟨h1, v, h2⟩ := h
  refine (wuint_fr N w1 _ v _ _ w h2 x hx z hz (by omega)).mono ?_
  rintro e w' ⟨rfl, v', n', hW, _, _⟩
  rw [enc_append] at hW
  have hn := hW.len
  subst hn
  exact ⟨rfl, uOn_CL hx h1, v', (show WS N w1 (((8 - 0) % 8 : Nat) : Int) v' _ _ w' from hW)⟩
theorem dw_uint {N : Nat} {w1 w : World} {s : List Nat × Nat} (h : DW N w1 s w) (x : Nat) (hx : x < 18446744073709551616) (z : Int) (hz : z = (x : Int)) (hb : s.1.length + 100 ≤ 140737488355328) : Calls Tryz.prog 65 #[.pointer (some ⟨N, 0, none⟩), .int .u64 z] w fun e w' => e = .returned undef ∧ DW N w1 (uOn x s) w' := by
  obtain ⟨h1, v, h2⟩ := h
  refine (ruint_fr N w1 _ v _ _ w h2 x hx z hz (by omega)).mono ?_
  rintro e w' ⟨rfl, v', n', hW, _, _⟩
  rw [enc_append] at hW
  have hn := hW.len
  subst hn
  exact ⟨rfl, uOn_CL hx h1, v', hW⟩
theorem rw_int {N : Nat} {w1 w : World} {s : List Nat × Nat} (h : RW N w1 s w) (z : Int) (hz : -9223372036854775808 ≤ z ∧ z ≤ 9223372036854775807) (hb : s.1.length + 100 ≤ 140737488355328) : Calls Tryz.prog 55 #[.pointer (some ⟨N, 0, none⟩), .int .i64 z] w fun e w' => e = .returned undef ∧ RW N w1 (uOn (foldZ z) s) w' := by
  obtain ⟨h1, v, h2⟩ := h
  refine (wint_fr N w1 _ v _ _ w h2 z hz (by omega)).mono ?_
  rintro e w' ⟨rfl, v', n', hW, _, _⟩
  rw [enc_append] at hW
  have hn := hW.len
  subst hn
  exact ⟨rfl, uOn_CL (foldZ_lt z hz) h1, v', (show WS N w1 (((8 - 0) % 8 : Nat) : Int) v' _ _ w' from hW)⟩
theorem dw_int {N : Nat} {w1 w : World} {s : List Nat × Nat} (h : DW N w1 s w) (z : Int) (hz : -9223372036854775808 ≤ z ∧ z ≤ 9223372036854775807) (hb : s.1.length + 100 ≤ 140737488355328) : Calls Tryz.prog 66 #[.pointer (some ⟨N, 0, none⟩), .int .i64 z] w fun e w' => e = .returned undef ∧ DW N w1 (uOn (foldZ z) s) w' := by
  obtain ⟨h1, v, h2⟩ := h
  refine (rint_fr N w1 _ v _ _ w h2 z hz (by omega)).mono ?_
  rintro e w' ⟨rfl, v', n', hW, _, _⟩
  rw [enc_append] at hW
  have hn := hW.len
  subst hn
  exact ⟨rfl, uOn_CL (foldZ_lt z hz) h1, v', hW⟩
theorem rw_bits {N : Nat} {w1 w : World} {s : List Nat × Nat} (h : RW N w1 s w) (x : Nat) (hx : x < 18446744073709551616) (z k : Int) (hz : z = (x : Int)) (hb : s.1.length + 100 ≤ 140737488355328) : Calls Tryz.prog 71 #[.pointer (some ⟨N, 0, none⟩), .int .u64 z, .int .i64 k] w fun e w' => e = .returned undef ∧ RW N w1 (bitsOn x (broughtN k) s) w' := by
  subst hz
  obtain ⟨l, b⟩ := s
  obtain ⟨h1, v, h2⟩ := h
  refine (wbits_fr N w1 b v l w h2 h1 x hx k (by simp only at hb; omega)).mono ?_
  rintro e w' ⟨rfl, v', hW, _, hC⟩
  exact ⟨rfl, hC, v', hW⟩
theorem dw_bits {N : Nat} {w1 w : World} {s : List Nat × Nat} (h : DW N w1 s w) (x : Nat) (hx : x < 18446744073709551616) (z k : Int) (hz : z = (x : Int)) (hb : s.1.length + 100 ≤ 140737488355328) : Calls Tryz.prog 68 #[.pointer (some ⟨N, 0, none⟩), .int .u64 z, .int .i64 k] w fun e w' => e = .returned undef ∧ DW N w1 (bitsOn x (broughtN k) s) w' := by
  subst hz
  obtain ⟨l, b⟩ := s
  obtain ⟨h1, v, h2⟩ := h
  refine (rbits_fr N w1 b h1.1 v l w h2 (fun hb => h1.pos hb) x hx k (by simp only at hb; omega)).mono ?_
  rintro e w' ⟨rfl, v', hW, _⟩
  exact ⟨rfl, (bitsOn_bt x (broughtN k) l b h1).1, v', hW⟩
theorem turnOn_len (d : Int) (s : List Nat × Nat) : (turnOn d s).1.length ≤ s.1.length + 68 := by
  have h1 := bitsOn_len (turnC d) (turnD d) (bitsOn (turnA d) (turnB d) s)
  have h2 := bitsOn_len (turnA d) (turnB d) s
  have h3 : turnB d ≤ 4 := by unfold turnB; repeat' split <;> try omega
  have h4 : turnD d ≤ 64 := by unfold turnD; repeat' split <;> try omega
  unfold turnOn
  omega
end Go.Proofs.YtpicgjjbpiinfaaGreatDoor
