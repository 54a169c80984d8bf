
import Derived.Test.YtlcpkbllpkgihaaDoorQdN
import Derived.Deep.RegionHeld3
namespace Go.Proofs.YtlcpkbllpkgihaaDoor
open Go.RowKit
set_option linter.unusedVariables false
set_option linter.unusedSimpArgs false
theorem step_append_run {P : Program} {ops : Array Oper} {o : Oper} {a : Act} {w : World} {K : Act → World → Prop} {Q : Exit → Act → World → Prop} {E : Prop}
    (hg : o.guard = none) (s x : Operand) (t : TypeId) (hop : o.op = Op.call { callee := Callee.builtin Builtin.append, args := #[s, x], argTypes := #[t, t] })
    (v y v' : Value) (w' : World) (hs : a.eval s = v) (hx : a.eval x = y) (hr : (Builtin.append_ #[t, t] o.type #[v, y]).run P w = .ok v' w') (hK : K (a.put o.dst v') w') :
    if Region.wanted o (yielded ops a.tmps) = true then Oper.wp P o a w K Q else E := by
  have hw : Region.wanted o (yielded ops a.tmps) = true := by simp [Region.wanted, hg]
  rw [if_pos hw]
  unfold Oper.wp execOp
  simp only [hop, resolve, invoke, builtin, Sem.run_bind, Sem.run_pure, Result.andThen_ok, List.map_toArray, List.map_cons, List.map_nil, hs, hx, hr]
  exact hK
theorem bytesIn_set {w : World} {N j m : Nat} {x : Value} {a : Option Addr} {f : Nat → Nat} (hm : m ≤ 140737488355327) (h : m = 0 ∨ ∃ g, a = some ⟨g, 0, none⟩ ∧ N < g ∧ g < w.heap.size ∧ BytesAt w g 0 m f) : m = 0 ∨ ∃ g, a = some ⟨g, 0, none⟩ ∧ N < g ∧ g < (w.setCell ⟨N, j, none⟩ x).heap.size ∧ BytesAt (w.setCell ⟨N, j, none⟩ x) g 0 m f := by
  rcases h with h0 | ⟨g, e, hN, hg, hB⟩
  · exact Or.inl h0
  · exact Or.inr ⟨g, e, hN, by simpa using hg, fun i hi => ⟨by rw [World.cell?_setCell_other _ _ _ _ (by intro e; injection e with e1; omega)]; exact (hB i hi).1, (hB i hi).2⟩⟩
theorem bytesIn_of {w : World} {N m : Nat} {a : Option Addr} {f : Nat → Nat} (hm : m ≤ 140737488355327) (h : m = 0 ∨ ∃ g, a = some ⟨g, 0, none⟩ ∧ N < g ∧ g < w.heap.size ∧ BytesAt w g 0 m f) : BytesIn w a m f := by
  rcases h with h0 | ⟨g, e, hN, hg, hB⟩
  · exact ⟨hm, Or.inl h0⟩
  · exact ⟨hm, Or.inr ⟨g, 0, e, hg, hB⟩⟩
section
variable {N : Nat} {w1 : World} {a : Option Addr} {n cap p r : Nat} {bs : Nat → Nat} {fv : Option (Int × Int)} {w : World}
/-- what number tells of a length. -/
def NumL (N : Nat) (w1 : World) (a : Option Addr) (n cap : Nat) (bs : Nat → Nat) (p r M : Nat) (fv : Option (Int × Int)) (w : World) (e : Ending) (w' : World) : Prop :=
  (∃ fv' v l, NumD bs n p r M 6 fv fv' v l ∧ e = .returned (.tuple #[.int .u64 (v : Int), .int .i64 (l : Int)]) ∧ QR N w1 a n cap bs p r fv' w') ∧ RF N w w'
theorem NumD.piece {M v l : Nat} {fv' : Option (Int × Int)} {most : Int} {z : Int × Int} (hM : M = most.toNat) (hf : fv' = some z) (h : NumD bs n p r M 6 fv fv' v l) : v = 0 ∧ l = 0 ∧ PieceG bs n p r most fv p r fv' 0 0 := by
  rcases h with ⟨g1, g2, g3, g4⟩ | ⟨g1, ⟨q, g2, g3, g4, g5⟩ | ⟨x, k, g2, ⟨g4, g3, g5, g6⟩ | ⟨g4, g3, g5, g6⟩⟩⟩
  · exact ⟨g3, g4, Or.inl ⟨g1, g2, rfl, rfl, rfl⟩⟩
  · exact ⟨g4, g5, Or.inr ⟨g1, Or.inl ⟨q, g2, g3, rfl, rfl, rfl⟩⟩⟩
  · exact ⟨g5, g6, Or.inr ⟨g1, Or.inr ⟨x, k, g2, Or.inl ⟨by omega, g3, rfl, rfl, rfl⟩⟩⟩⟩
  · rw [hf] at g3; cases g3
theorem NumD.good {M v l : Nat} {fv' : Option (Int × Int)} (hf : fv' = none) (h : NumD bs n p r M 6 fv fv' v l) : startF bs p r fv = none ∧ numS bs n p 10 0 0 = .inr (v, l) ∧ v ≤ M := by
  rcases h with ⟨g1, g2, g3, g4⟩ | ⟨g1, ⟨q, g2, g3, g4, g5⟩ | ⟨x, k, g2, ⟨g4, g3, g5, g6⟩ | ⟨g4, g3, g5, g6⟩⟩⟩
  · rw [hf] at g2; exact absurd g2.symm g1
  · rw [hf] at g3; cases g3
  · rw [hf] at g3; cases g3
  · subst g5 g6; exact ⟨g1, g2, g4⟩
set_option maxRecDepth 100000 in
set_option maxHeartbeats 4000000 in
theorem dRaw_pos (h : QR N w1 a n cap bs p r fv w) (M : Nat) (hM0 : 0 < M) (hM : M ≤ 9223372036854775807) :
    Calls Tryd.prog 60 #[.pointer (some ⟨N, 0, none⟩), .int .i64 (M : Int)] w fun e w' => (∃ p' r' fv' q m a' c, PieceG bs n p r (M : Int) fv p' r' fv' q m ∧ e = .returned (.slice a' m c) ∧ BytesIn w' a' m (fun i => bs (q + i)) ∧ QR N w1 a n cap bs p' r' fv' w') ∧ RF N w w' := by
  have h256 := h.bytes256
  have hnb := h.nb
  have hpn := h.pn
  have hS : Hid _ := dNumber_any h M (by omega) 6 rfl
  clear h
  have hpos : (0 : Int) < (M : Int) := by omega
  have hzH : Hid (0 < M) := hM0
  have hneg : ¬ (M : Int) < 0 := by omega
  have hmw : IntKind.u64.wrap (M : Int) = (M : Int) := by rw [IntKind.wrap_u64]; omega
  go_enter Tryd.func60, Tryd.ntmps60
  go_wp2_with fail
  refine Calls.mono hS.out ?_
  rintro e w2 ⟨⟨fv', v, l, hG, rfl, h2⟩, F2⟩
  cases hf : fv' with
  | some z =>
    obtain ⟨rfl, rfl, hP⟩ := NumD.piece (most := (M : Int)) (by have := hzH.out; omega) hf hG
    rw [hf] at h2 hP
    have c3 := h2.c3
    have hf2 := h2.fe z rfl
    have h2H : Hid _ := h2
    have hPH : Hid (PieceG bs n p r (M : Int) fv p r (some z) 0 0) := hP
    obtain ⟨zq, ze⟩ := z
    simp only [fcd] at c3 hf2
    clear h2 hf hP hG hS
    go_wp2_with fail
    go_quiet (fail)
    go_wp2_with fail
    go_ret
    exact ⟨⟨p, r, _, 0, 0, none, 0, hPH.out, rfl, ⟨by omega, Or.inl rfl⟩, h2H.out.drewN _⟩, F2.trans (RF.drewN _ _)⟩
  | none =>
    subst hf
    obtain ⟨g1, g2, g4⟩ := NumD.good rfl hG
    obtain ⟨hl, hn, hxx, _⟩ := numS_len h256 g2
    have hl0 : 0 < l := by rw [hl]; exact uBf_pos 10 v
    have hlI : (0 : Int) < (l : Int) := by omega
    have c0 := h2.c0
    have c1 := h2.c1
    have c3 := h2.c3
    simp only [fcd] at c3
    have hg : Hid _ := And.intro g1 (And.intro g2 g4)
    have i2 : IntKind.i64.wrap ((n : Int) - (p : Int) - (l : Int)) = (n : Int) - (p : Int) - (l : Int) := IntWalk.i64_in _ (by omega)
    have i3 : IntKind.u64.wrap ((n : Int) - (p : Int) - (l : Int)) = (n : Int) - (p : Int) - (l : Int) := by rw [IntKind.wrap_u64]; omega
    have h2H : Hid _ := h2
    clear hG g1 g2 hl h2 hS
    by_cases hbig : n < p + l + v
    · have i1 : (n : Int) - (p : Int) - (l : Int) < (v : Int) := by omega
      go_wp2_with fail
      go_quiet (fail)
      go_wp2_with fail
      refine Calls.mono (dAt_any (n : Int) 30 rfl _) ?_
      rintro e w3 ⟨rfl, hB3⟩
      obtain ⟨h3, F3⟩ := (h2H.out.drewN _).after hB3
      have hFl3 : Hid _ := dFail_new h3 (n : Int) 30 rfl
      clear h3 c0 c1 c3
      go_wp2_with fail
      refine Calls.mono hFl3.out ?_
      rintro e w4 ⟨rfl, h4, F4⟩
      have d3 := h4.c3
      simp only [fcd] at d3
      have h4H : Hid _ := h4
      clear h4
      go_wp2_with fail
      go_ret
      exact ⟨⟨p, r, some ((n : Int), 30), 0, 0, none, 0, Or.inr ⟨hg.out.1, Or.inr ⟨v, l, hg.out.2.1, Or.inr (Or.inl ⟨by have := hzH.out; omega, hbig, rfl, rfl, rfl, rfl⟩)⟩⟩, rfl, ⟨by omega, Or.inl rfl⟩, h4H.out⟩, ((F2.trans (RF.drewN _ _)).trans F3).trans F4⟩
    · have i1 : ¬ (n : Int) - (p : Int) - (l : Int) < (v : Int) := by omega
      have hnc := h2H.out.nc
      rcases h2H.out.row with h0 | ⟨b, off, rfl, hb, hbN, hB⟩
      · omega
      obtain ⟨fr, hfr⟩ : ∃ fr, fr = p + l := ⟨_, rfl⟩
      obtain ⟨to, hto⟩ : ∃ to, to = fr + v := ⟨_, rfl⟩
      have hfrH : Hid _ := hfr
      have htoH : Hid _ := hto
      have v47 : v ≤ 140737488355327 := by omega
      have hfin : Hid (∀ (W : World) a9 c9 w9, QR N w1 (some ⟨b, off, none⟩) n cap bs p r none W → RF N w W → v ≤ c9 → (v = 0 ∨ ∃ g, a9 = some ⟨g, 0, none⟩ ∧ W.heap.size ≤ g ∧ g < w9.heap.size ∧ BytesAt w9 g 0 v (fun i => bs (fr + i))) → Below W.heap.size W w9 →
          (∃ p' r' fv' q m a' c, PieceG bs n p r (M : Int) fv p' r' fv' q m ∧ Ending.returned (.slice a9 v c9) = .returned (.slice a' m c) ∧ BytesIn ((w9.setCell ⟨N, 1, none⟩ (.int .i64 ((p : Int) + ((l : Int) + (v : Int))))).setCell ⟨N, 2, none⟩ (.int .i64 0)) a' m (fun i => bs (q + i)) ∧ QR N w1 (some ⟨b, off, none⟩) n cap bs p' r' fv' ((w9.setCell ⟨N, 1, none⟩ (.int .i64 ((p : Int) + ((l : Int) + (v : Int))))).setCell ⟨N, 2, none⟩ (.int .i64 0))) ∧ RF N w ((w9.setCell ⟨N, 1, none⟩ (.int .i64 ((p : Int) + ((l : Int) + (v : Int))))).setCell ⟨N, 2, none⟩ (.int .i64 0))) := by
        unfold Hid
        intro W a9 c9 w9 hW hFW hc9 hrow hB9
        have h9 := hW.below hB9
        obtain ⟨h10, F10⟩ := h9.pass (l + v) (by omega)
        rw [show ((l + v : Nat) : Int) = (l : Int) + (v : Int) by omega] at h10 F10
        have hsz := hW.sz
        refine ⟨⟨p + (l + v), 0, none, fr, v, a9, c9, Or.inr ⟨hg.out.1, Or.inr ⟨v, l, hg.out.2.1, Or.inr (Or.inr ⟨by have := hzH.out; omega, by omega, rfl, rfl, hfr, by omega, rfl⟩)⟩⟩, rfl, bytesIn_of (N := N) v47 (bytesIn_set v47 (bytesIn_set v47 ?_)), h10⟩, (hFW.trans (RF.below hB9)).trans F10⟩
        rcases hrow with h0 | ⟨g, e, hg1, hg2, hB⟩
        · exact Or.inl h0
        · exact Or.inr ⟨g, e, by omega, hg2, hB⟩
      have hby : Hid (∀ W, QR N w1 (some ⟨b, off, none⟩) n cap bs p r none W → BytesAt W b (off + fr) v (fun i => bs (fr + i))) := by
        unfold Hid
        intro W hW i hi
        rcases hW.row with h0 | ⟨b', off', e', _, _, hB'⟩
        · omega
        · injection e' with e'
          injection e' with e' e''
          subst e' e''
          have := hB' (fr + i) (by omega)
          rw [← Nat.add_assoc] at this
          exact this
      have hbW : Hid (∀ W, QR N w1 (some ⟨b, off, none⟩) n cap bs p r none W → b < W.heap.size) := by
        unfold Hid
        intro W hW
        rcases hW.row with h0 | ⟨b', off', e', hb', _, hB'⟩
        · omega
        · injection e' with e'
          injection e' with e' e''
          subst e'
          exact hb'
      clear hB hfr hto
      go_wp2_with fail
      go_quiet (fail)
      go_wp2_with fail
      have hfr := hfrH.out
      have hto := htoH.out
      have hW : QR N w1 (some ⟨b, off, none⟩) n cap bs p r none (w2.drewN nq).drew := (h2H.out.drewN nq).below (Below.refl _ _).drew
      have hFW : RF N w (w2.drewN nq).drew := F2.trans (RF.below ((below_drewN (Below.refl _ _) nq).drew))
      have d0 : (w2.drewN nq).cell? ⟨N, 0, none⟩ = some (.slice (some ⟨b, off, none⟩) n cap) := (h2H.out.drewN nq).c0
      have d1 : (w2.drewN nq).cell? ⟨N, 1, none⟩ = some (.int .i64 (p : Int)) := (h2H.out.drewN nq).c1
      have SS : (w2.drewN nq).cell? ⟨N, 0, none⟩ = some (.slice (some ⟨b, off, none⟩) n cap) ∧ (w2.drewN nq).cell? ⟨N, 1, none⟩ = some (.int .i64 (p : Int)) := ⟨d0, d1⟩
      have SS2 : (w2.drewN nq).drew.cell? ⟨N, 0, none⟩ = some (.slice (some ⟨b, off, none⟩) n cap) ∧ (w2.drewN nq).drew.cell? ⟨N, 1, none⟩ = some (.int .i64 (p : Int)) := SS
      have hfrI : (p : Int) + (l : Int) = (fr : Int) := by omega
      have htoI : (fr : Int) + (v : Int) = (to : Int) := by omega
      have wfr : IntKind.i64.wrap (fr : Int) = (fr : Int) := IntWalk.i64_in _ (by omega)
      have wto : IntKind.i64.wrap (to : Int) = (to : Int) := IntWalk.i64_in _ (by omega)
      have wv : IntKind.i64.wrap (v : Int) = (v : Int) := IntWalk.i64_in _ (by omega)
      have wlv : IntKind.i64.wrap ((l : Int) + (v : Int)) = (l : Int) + (v : Int) := IntWalk.i64_in _ (by omega)
      have k1 : (0 : Int) ≤ (fr : Int) := by omega
      have k2 : (fr : Int) ≤ (to : Int) := by omega
      have k3 : (to : Int) ≤ (n : Int) := by omega
      have k4 : (to : Int) ≤ (cap : Int) := by omega
      have k5 : fr ≤ to := by omega
      have k6 : to ≤ cap := by omega
      have k7 : fr ≤ cap := by omega
      have ex : to - fr = v := by omega
      by_cases hc : fr < cap
      · have j1 : ¬ cap ≤ fr := by omega
        have j2 : ¬ cap - fr = 0 := by omega
        have j3 : ¬ cap = fr := by omega
        have j4 : ¬ fr = cap := by omega
        obtain ⟨a9, c9, w9, hr, hc9, hrow, hB9⟩ := app_nil (some ⟨b, off + fr, none⟩) v (cap - fr) (fun i => bs (fr + i)) (w2.drewN nq).drew ⟨v47, Or.inr ⟨b, off + fr, rfl, hbW.out _ hW, hby.out _ hW⟩⟩
        have hrH : Hid _ := hr
        have hend : Hid _ := hfin.out _ a9 c9 w9 hW hFW hc9 hrow hB9
        have h9 := hW.below hB9
        have e0 := h9.c0
        have e1 := h9.c1
        have e2 := h9.c2
        have g1 := h9.f1
        have g2 := h9.f2
        clear hr hrow hW hFW h9 hfin hfr hto
        go_region_held3 (fun w' => w'.cell? ⟨N, 0, none⟩ = some (.slice (some ⟨b, off, none⟩) n cap) ∧ w'.cell? ⟨N, 1, none⟩ = some (.int .i64 (p : Int))) (first | assumption | exact ⟨by assumption, by assumption⟩)
          (first
            | (refine step_append_run rfl (.tmp 73) (.tmp 93) 24 rfl _ _ _ _ rfl rfl hrH.out ?_))
        go_wp2_with fail
        go_ret
        exact hend.out
      · have hvz : Hid (v = 0) := (by omega : v = 0)
        have htc : (cap : Int) + (v : Int) = (cap : Int) := by omega
        have hpc : (p : Int) + (l : Int) = (cap : Int) := by omega
        have wc : IntKind.i64.wrap (cap : Int) = (cap : Int) := IntWalk.i64_in _ (by omega)
        have kc0 : (0 : Int) ≤ (cap : Int) := by omega
        have kc1 : (cap : Int) ≤ (n : Int) := by omega
        obtain ⟨a9, c9, w9, hr, hc9, hrow, hB9⟩ := app_nil (some ⟨b, off, none⟩) v 0 (fun i => bs (fr + i)) (w2.drewN nq).drew ⟨v47, Or.inl hvz.out⟩
        have hr0 : (Builtin.append_ #[24, 24] 24 #[.slice none 0 0, .slice (some ⟨b, off, none⟩) 0 0]).run Tryd.prog (w2.drewN nq).drew = .ok (.slice a9 v c9) w9 := by rw [← hr]; simp only [hvz.out]
        have hrH : Hid _ := hr0
        have hend : Hid _ := hfin.out _ a9 c9 w9 hW hFW hc9 hrow hB9
        have h9 := hW.below hB9
        have e0 := h9.c0
        have e1 := h9.c1
        have e2 := h9.c2
        have g1 := h9.f1
        have g2 := h9.f2
        clear hr hr0 hrow hW hFW h9 hfin wfr wto k1 k2 k3 k4 k5 k6 k7 ex htoI hto htoH hfr hfrH hfrI
        go_region_held3 (fun w' => w'.cell? ⟨N, 0, none⟩ = some (.slice (some ⟨b, off, none⟩) n cap) ∧ w'.cell? ⟨N, 1, none⟩ = some (.int .i64 (p : Int))) (first | assumption | exact ⟨by assumption, by assumption⟩)
          (first
            | (refine step_append_run rfl (.tmp 73) (.tmp 93) 24 rfl _ _ _ _ rfl rfl hrH.out ?_))
        clear hpc htc
        go_wp2_with fail
        go_ret
        first
          | exact hend.out
          | (obtain ⟨⟨p', r', fv', q, m, a', c, H1, H2, H3, H4⟩, H5⟩ := hend.out; exact ⟨⟨p', r', fv', q, m, H1, a', ⟨c, H2⟩, H3, H4⟩, H5⟩)
set_option maxRecDepth 100000 in
set_option maxHeartbeats 4000000 in
theorem dRaw_zero (h : QR N w1 a n cap bs p r fv w) (M : Nat) (hM0 : M = 0) (hM : M ≤ 9223372036854775807) :
    Calls Tryd.prog 60 #[.pointer (some ⟨N, 0, none⟩), .int .i64 (M : Int)] w fun e w' => (∃ p' r' fv' q m a' c, PieceG bs n p r (M : Int) fv p' r' fv' q m ∧ e = .returned (.slice a' m c) ∧ BytesIn w' a' m (fun i => bs (q + i)) ∧ QR N w1 a n cap bs p' r' fv' w') ∧ RF N w w' := by
  have h256 := h.bytes256
  have hnb := h.nb
  have hpn := h.pn
  have hS : Hid _ := dNumber_any h 0 (by omega) 6 rfl
  clear h
  have hpos : ¬ (0 : Int) < (M : Int) := by omega
  have hzH : Hid (M = 0) := hM0
  clear hM0
  have hneg : ¬ (M : Int) < 0 := by omega
  go_enter Tryd.func60, Tryd.ntmps60
  go_wp2_with fail
  refine Calls.mono hS.out ?_
  rintro e w2 ⟨⟨fv', v, l, hG, rfl, h2⟩, F2⟩
  cases hf : fv' with
  | some z =>
    obtain ⟨rfl, rfl, hP⟩ := NumD.piece (most := (M : Int)) (by have := hzH.out; omega) hf hG
    rw [hf] at h2 hP
    have c3 := h2.c3
    have hf2 := h2.fe z rfl
    have h2H : Hid _ := h2
    have hPH : Hid (PieceG bs n p r (M : Int) fv p r (some z) 0 0) := hP
    obtain ⟨zq, ze⟩ := z
    simp only [fcd] at c3 hf2
    clear h2 hf hP hG hS
    go_wp2_with fail
    go_quiet (fail)
    go_wp2_with fail
    go_ret
    exact ⟨⟨p, r, _, 0, 0, none, 0, hPH.out, rfl, ⟨by omega, Or.inl rfl⟩, h2H.out.drewN _⟩, F2.trans (RF.drewN _ _)⟩
  | none =>
    subst hf
    obtain ⟨g1, g2, g4⟩ := NumD.good rfl hG
    obtain ⟨hl, hn, hxx, _⟩ := numS_len h256 g2
    have hl0 : 0 < l := by rw [hl]; exact uBf_pos 10 v
    have hlI : (0 : Int) < (l : Int) := by omega
    have c0 := h2.c0
    have c1 := h2.c1
    have c3 := h2.c3
    simp only [fcd] at c3
    have hg : Hid _ := And.intro g1 (And.intro g2 g4)
    have i2 : IntKind.i64.wrap ((n : Int) - (p : Int) - (l : Int)) = (n : Int) - (p : Int) - (l : Int) := IntWalk.i64_in _ (by omega)
    have i3 : IntKind.u64.wrap ((n : Int) - (p : Int) - (l : Int)) = (n : Int) - (p : Int) - (l : Int) := by rw [IntKind.wrap_u64]; omega
    have h2H : Hid _ := h2
    clear hG g1 g2 hl h2 hS
    by_cases hbig : n < p + l + v
    · omega
    · have i1 : ¬ (n : Int) - (p : Int) - (l : Int) < (v : Int) := by omega
      have hnc := h2H.out.nc
      rcases h2H.out.row with h0 | ⟨b, off, rfl, hb, hbN, hB⟩
      · omega
      obtain ⟨fr, hfr⟩ : ∃ fr, fr = p + l := ⟨_, rfl⟩
      obtain ⟨to, hto⟩ : ∃ to, to = fr + v := ⟨_, rfl⟩
      have hfrH : Hid _ := hfr
      have htoH : Hid _ := hto
      have v47 : v ≤ 140737488355327 := by omega
      have hfin : Hid (∀ (W : World) a9 c9 w9, QR N w1 (some ⟨b, off, none⟩) n cap bs p r none W → RF N w W → v ≤ c9 → (v = 0 ∨ ∃ g, a9 = some ⟨g, 0, none⟩ ∧ W.heap.size ≤ g ∧ g < w9.heap.size ∧ BytesAt w9 g 0 v (fun i => bs (fr + i))) → Below W.heap.size W w9 →
          (∃ p' r' fv' q m a' c, PieceG bs n p r (M : Int) fv p' r' fv' q m ∧ Ending.returned (.slice a9 v c9) = .returned (.slice a' m c) ∧ BytesIn ((w9.setCell ⟨N, 1, none⟩ (.int .i64 ((p : Int) + ((l : Int) + (v : Int))))).setCell ⟨N, 2, none⟩ (.int .i64 0)) a' m (fun i => bs (q + i)) ∧ QR N w1 (some ⟨b, off, none⟩) n cap bs p' r' fv' ((w9.setCell ⟨N, 1, none⟩ (.int .i64 ((p : Int) + ((l : Int) + (v : Int))))).setCell ⟨N, 2, none⟩ (.int .i64 0))) ∧ RF N w ((w9.setCell ⟨N, 1, none⟩ (.int .i64 ((p : Int) + ((l : Int) + (v : Int))))).setCell ⟨N, 2, none⟩ (.int .i64 0))) := by
        unfold Hid
        intro W a9 c9 w9 hW hFW hc9 hrow hB9
        have h9 := hW.below hB9
        obtain ⟨h10, F10⟩ := h9.pass (l + v) (by omega)
        rw [show ((l + v : Nat) : Int) = (l : Int) + (v : Int) by omega] at h10 F10
        have hsz := hW.sz
        refine ⟨⟨p + (l + v), 0, none, fr, v, a9, c9, Or.inr ⟨hg.out.1, Or.inr ⟨v, l, hg.out.2.1, Or.inr (Or.inr ⟨by have := hzH.out; omega, by omega, rfl, rfl, hfr, by omega, rfl⟩)⟩⟩, rfl, bytesIn_of (N := N) v47 (bytesIn_set v47 (bytesIn_set v47 ?_)), h10⟩, (hFW.trans (RF.below hB9)).trans F10⟩
        rcases hrow with h0 | ⟨g, e, hg1, hg2, hB⟩
        · exact Or.inl h0
        · exact Or.inr ⟨g, e, by omega, hg2, hB⟩
      have hby : Hid (∀ W, QR N w1 (some ⟨b, off, none⟩) n cap bs p r none W → BytesAt W b (off + fr) v (fun i => bs (fr + i))) := by
        unfold Hid
        intro W hW i hi
        rcases hW.row with h0 | ⟨b', off', e', _, _, hB'⟩
        · omega
        · injection e' with e'
          injection e' with e' e''
          subst e' e''
          have := hB' (fr + i) (by omega)
          rw [← Nat.add_assoc] at this
          exact this
      have hbW : Hid (∀ W, QR N w1 (some ⟨b, off, none⟩) n cap bs p r none W → b < W.heap.size) := by
        unfold Hid
        intro W hW
        rcases hW.row with h0 | ⟨b', off', e', hb', _, hB'⟩
        · omega
        · injection e' with e'
          injection e' with e' e''
          subst e'
          exact hb'
      clear hB hfr hto
      go_wp2_with fail
      go_quiet (fail)
      go_wp2_with fail
      have hfr := hfrH.out
      have hto := htoH.out
      have hW : QR N w1 (some ⟨b, off, none⟩) n cap bs p r none (w2.drewN nq).drew := (h2H.out.drewN nq).below (Below.refl _ _).drew
      have hFW : RF N w (w2.drewN nq).drew := F2.trans (RF.below ((below_drewN (Below.refl _ _) nq).drew))
      have d0 : (w2.drewN nq).cell? ⟨N, 0, none⟩ = some (.slice (some ⟨b, off, none⟩) n cap) := (h2H.out.drewN nq).c0
      have d1 : (w2.drewN nq).cell? ⟨N, 1, none⟩ = some (.int .i64 (p : Int)) := (h2H.out.drewN nq).c1
      have SS : (w2.drewN nq).cell? ⟨N, 0, none⟩ = some (.slice (some ⟨b, off, none⟩) n cap) ∧ (w2.drewN nq).cell? ⟨N, 1, none⟩ = some (.int .i64 (p : Int)) := ⟨d0, d1⟩
      have SS2 : (w2.drewN nq).drew.cell? ⟨N, 0, none⟩ = some (.slice (some ⟨b, off, none⟩) n cap) ∧ (w2.drewN nq).drew.cell? ⟨N, 1, none⟩ = some (.int .i64 (p : Int)) := SS
      have hfrI : (p : Int) + (l : Int) = (fr : Int) := by omega
      have htoI : (fr : Int) + (v : Int) = (to : Int) := by omega
      have wfr : IntKind.i64.wrap (fr : Int) = (fr : Int) := IntWalk.i64_in _ (by omega)
      have wto : IntKind.i64.wrap (to : Int) = (to : Int) := IntWalk.i64_in _ (by omega)
      have wv : IntKind.i64.wrap (v : Int) = (v : Int) := IntWalk.i64_in _ (by omega)
      have wlv : IntKind.i64.wrap ((l : Int) + (v : Int)) = (l : Int) + (v : Int) := IntWalk.i64_in _ (by omega)
      have k1 : (0 : Int) ≤ (fr : Int) := by omega
      have k2 : (fr : Int) ≤ (to : Int) := by omega
      have k3 : (to : Int) ≤ (n : Int) := by omega
      have k4 : (to : Int) ≤ (cap : Int) := by omega
      have k5 : fr ≤ to := by omega
      have k6 : to ≤ cap := by omega
      have k7 : fr ≤ cap := by omega
      have ex : to - fr = v := by omega
      by_cases hc : fr < cap
      · have j1 : ¬ cap ≤ fr := by omega
        have j2 : ¬ cap - fr = 0 := by omega
        have j3 : ¬ cap = fr := by omega
        have j4 : ¬ fr = cap := by omega
        obtain ⟨a9, c9, w9, hr, hc9, hrow, hB9⟩ := app_nil (some ⟨b, off + fr, none⟩) v (cap - fr) (fun i => bs (fr + i)) (w2.drewN nq).drew ⟨v47, Or.inr ⟨b, off + fr, rfl, hbW.out _ hW, hby.out _ hW⟩⟩
        have hrH : Hid _ := hr
        have hend : Hid _ := hfin.out _ a9 c9 w9 hW hFW hc9 hrow hB9
        have h9 := hW.below hB9
        have e0 := h9.c0
        have e1 := h9.c1
        have e2 := h9.c2
        have g1 := h9.f1
        have g2 := h9.f2
        clear hr hrow hW hFW h9 hfin hfr hto
        go_region_held3 (fun w' => w'.cell? ⟨N, 0, none⟩ = some (.slice (some ⟨b, off, none⟩) n cap) ∧ w'.cell? ⟨N, 1, none⟩ = some (.int .i64 (p : Int))) (first | assumption | exact ⟨by assumption, by assumption⟩)
          (first
            | (refine step_append_run rfl (.tmp 73) (.tmp 93) 24 rfl _ _ _ _ rfl rfl hrH.out ?_))
        go_wp2_with fail
        go_ret
        exact hend.out
      · have hvz : Hid (v = 0) := (by omega : v = 0)
        have htc : (cap : Int) + (v : Int) = (cap : Int) := by omega
        have hpc : (p : Int) + (l : Int) = (cap : Int) := by omega
        have wc : IntKind.i64.wrap (cap : Int) = (cap : Int) := IntWalk.i64_in _ (by omega)
        have kc0 : (0 : Int) ≤ (cap : Int) := by omega
        have kc1 : (cap : Int) ≤ (n : Int) := by omega
        obtain ⟨a9, c9, w9, hr, hc9, hrow, hB9⟩ := app_nil (some ⟨b, off, none⟩) v 0 (fun i => bs (fr + i)) (w2.drewN nq).drew ⟨v47, Or.inl hvz.out⟩
        have hr0 : (Builtin.append_ #[24, 24] 24 #[.slice none 0 0, .slice (some ⟨b, off, none⟩) 0 0]).run Tryd.prog (w2.drewN nq).drew = .ok (.slice a9 v c9) w9 := by rw [← hr]; simp only [hvz.out]
        have hrH : Hid _ := hr0
        have hend : Hid _ := hfin.out _ a9 c9 w9 hW hFW hc9 hrow hB9
        have h9 := hW.below hB9
        have e0 := h9.c0
        have e1 := h9.c1
        have e2 := h9.c2
        have g1 := h9.f1
        have g2 := h9.f2
        clear hr hr0 hrow hW hFW h9 hfin wfr wto k1 k2 k3 k4 k5 k6 k7 ex htoI hto htoH hfr hfrH hfrI
        go_region_held3 (fun w' => w'.cell? ⟨N, 0, none⟩ = some (.slice (some ⟨b, off, none⟩) n cap) ∧ w'.cell? ⟨N, 1, none⟩ = some (.int .i64 (p : Int))) (first | assumption | exact ⟨by assumption, by assumption⟩)
          (first
            | (refine step_append_run rfl (.tmp 73) (.tmp 93) 24 rfl _ _ _ _ rfl rfl hrH.out ?_))
        clear hpc htc
        go_wp2_with fail
        go_ret
        first
          | exact hend.out
          | (obtain ⟨⟨p', r', fv', q, m, a', c, H1, H2, H3, H4⟩, H5⟩ := hend.out; exact ⟨⟨p', r', fv', q, m, H1, a', ⟨c, H2⟩, H3, H4⟩, H5⟩)
set_option maxRecDepth 100000 in
set_option maxHeartbeats 4000000 in
theorem dRaw_neg (h : QR N w1 a n cap bs p r fv w) (most : Int) (hm : most < 0) :
    Calls Tryd.prog 60 #[.pointer (some ⟨N, 0, none⟩), .int .i64 most] w fun e w' => (∃ p' r' fv' q m a' c, PieceG bs n p r most fv p' r' fv' q m ∧ e = .returned (.slice a' m c) ∧ BytesIn w' a' m (fun i => bs (q + i)) ∧ QR N w1 a n cap bs p' r' fv' w') ∧ RF N w w' := by
  have h256 := h.bytes256
  have hnb := h.nb
  have hpn := h.pn
  have hS : Hid _ := dNumber_any h 0 (by omega) 6 rfl
  clear h
  have hpos : ¬ (0 : Int) < most := by omega
  go_enter Tryd.func60, Tryd.ntmps60
  go_wp2_with fail
  refine Calls.mono hS.out ?_
  rintro e w2 ⟨⟨fv', v, l, hG, rfl, h2⟩, F2⟩
  cases hf : fv' with
  | some z =>
    obtain ⟨rfl, rfl, hP⟩ := NumD.piece (most := most) (by omega) hf hG
    rw [hf] at h2 hP
    have c3 := h2.c3
    have hf2 := h2.fe z rfl
    have h2H : Hid _ := h2
    have hPH : Hid (PieceG bs n p r most fv p r (some z) 0 0) := hP
    obtain ⟨zq, ze⟩ := z
    simp only [fcd] at c3 hf2
    clear h2 hf hP hG hS
    go_wp2_with fail
    go_quiet (fail)
    go_wp2_with fail
    go_ret
    exact ⟨⟨p, r, _, 0, 0, none, 0, hPH.out, rfl, ⟨by omega, Or.inl rfl⟩, h2H.out.drewN _⟩, F2.trans (RF.drewN _ _)⟩
  | none =>
    subst hf
    obtain ⟨g1, g2, g4⟩ := NumD.good rfl hG
    obtain ⟨hl, hn, hxx, _⟩ := numS_len h256 g2
    have hl0 : 0 < l := by rw [hl]; exact uBf_pos 10 v
    have hlI : (0 : Int) < (l : Int) := by omega
    have c1 := h2.c1
    have hg : Hid _ := And.intro g1 (And.intro g2 g4)
    have h2H : Hid _ := h2
    clear hG g1 g2 hl h2 hS
    go_wp2_with fail
    refine Calls.mono (dAt_any (p : Int) 6 rfl _) ?_
    rintro e w3 ⟨rfl, hB3⟩
    obtain ⟨h3, F3⟩ := h2H.out.after hB3
    have hFl3 : Hid _ := dFail_new h3 (p : Int) 6 rfl
    clear h3 c1
    go_wp2_with fail
    refine Calls.mono hFl3.out ?_
    rintro e w4 ⟨rfl, h4, F4⟩
    have d3 := h4.c3
    simp only [fcd] at d3
    have h4H : Hid _ := h4
    clear h4
    go_wp2_with fail
    go_quiet (fail)
    go_wp2_with fail
    go_ret
    exact ⟨⟨p, r, some ((p : Int), 6), 0, 0, none, 0, Or.inr ⟨hg.out.1, Or.inr ⟨v, l, hg.out.2.1, Or.inl ⟨Or.inl hm, rfl, rfl, rfl, rfl⟩⟩⟩, rfl, ⟨by omega, Or.inl rfl⟩, h4H.out.drewN _⟩, ((F2.trans F3).trans F4).trans (RF.drewN _ _)⟩
theorem dRaw_gen (h : QR N w1 a n cap bs p r fv w) (most : Int) (hmost : -9223372036854775808 ≤ most ∧ most ≤ 9223372036854775807) :
    Calls Tryd.prog 60 #[.pointer (some ⟨N, 0, none⟩), .int .i64 most] w fun e w' => (∃ p' r' fv' q m a' c, PieceG bs n p r most fv p' r' fv' q m ∧ e = .returned (.slice a' m c) ∧ BytesIn w' a' m (fun i => bs (q + i)) ∧ QR N w1 a n cap bs p' r' fv' w') ∧ RF N w w' := by
  by_cases hm : most < 0
  · exact dRaw_neg h most hm
  · obtain ⟨M, rfl⟩ : ∃ M : Nat, most = (M : Int) := ⟨most.toNat, by omega⟩
    rcases Nat.eq_zero_or_pos M with h0 | h0
    · exact dRaw_zero h M h0 (by omega)
    · exact dRaw_pos h M h0 (by omega)
set_option maxRecDepth 100000 in
theorem dText_gen (h : QR N w1 a n cap bs p r fv w) (most : Int) (hmost : -9223372036854775808 ≤ most ∧ most ≤ 9223372036854775807) :
    Calls Tryd.prog 59 #[.pointer (some ⟨N, 0, none⟩), .int .i64 most] w fun e w' => (∃ p' r' fv' q m, ∃ s : ByteArray, PieceG bs n p r most fv p' r' fv' q m ∧ e = .returned (.string s) ∧ s.size = m ∧ bytesL (fun i => (s.data.toList.getD i 0).toNat) s.size = bytesL (fun i => bs (q + i)) m ∧ QR N w1 a n cap bs p' r' fv' w') ∧ RF N w w' := by
  have hS : Hid _ := dRaw_gen h most hmost
  clear h
  go_enter Tryd.func59, Tryd.ntmps59
  go_wp2_with fail
  refine Calls.mono hS.out ?_
  rintro e w2 ⟨⟨p', r', fv', q, m, a', c, hG, rfl, hin, h2⟩, F2⟩
  obtain ⟨s, hs1, hs2, hconv⟩ := to_text2 (c := c) hin
  have hc := hconv w2 (Below.refl _ _)
  have hs2H : Hid _ := hs2
  have h2H : Hid _ := h2
  have hGH : Hid (PieceG bs n p r most fv p' r' fv' q m) := hG
  clear h2 hin hconv hs2 hG
  go_wp2_with fail
  go_ret
  exact ⟨⟨p', r', fv', q, m, s, hGH.out, rfl, hs1, hs2H.out, h2H.out⟩, F2⟩
end
end Go.Proofs.YtlcpkbllpkgihaaDoor
