
import Derived.Test.YtpbcbpiolhjlhaaGreatDoorBzAN
import Derived.Test.YtpbcbpiolhjlhaaGreatDoorBzAB
import Derived.Test.YtpbcbpiolhjlhaaGreatDoorDeQq
import Derived.Test.YtpbcbpiolhjlhaaGreatDoorBzAM
import Derived.Test.YtpbcbpiolhjlhaaGreatDoorBzAL
import Derived.Test.YtpbcbpiolhjlhaaGreatDoorBzAE
import Derived.ProofKit
import Derived.OpenShut
import Derived.Deep.SlicePairs
import Derived.Lib.SmallJoins
import Derived.Test.YtpbcbpiolhjlhaaGreatDoorRows
import Derived.SizedLaws

namespace Go.Proofs.YtpbcbpiolhjlhaaGreatDoor.De
open Go.RowKit _root_.Go.Proofs.YtpbcbpiolhjlhaaGreatDoor.So
set_option linter.unusedVariables false
set_option linter.unusedSimpArgs false
/-- what Flat tells of points that are right. -/
def FlaR (w w' : World) (l : List PtP) (e : Ending) : Prop := ∃ a z c, e = .returned (.tuple #[.slice a z c, .nilIface]) ∧ (∃ L, DW w' w.heap.size (.slice a z c) L ∧ L.map (·.1) = odD (flatL l)) ∧ Below w.heap.size w w'
set_option maxRecDepth 100000 in
set_option maxHeartbeats 8000000 in
theorem flatO_ok (a : Option Addr) (c : Nat) (l : List PtP) (w : World) (hl : PsIn w a l) (hok : chkOk l) (hpt : ∀ p ∈ l, p.t.length ≤ 4398046511104) (hT : UT w) :
    Calls Tryz.prog 5 #[.slice a l.length c] w fun e w' => FlaR w w' l e := by
  obtain ⟨n, hnl⟩ : ∃ n, l.length = n := ⟨_, rfl⟩
  have nH : Hid (l.length = n) := hnl
  have lH : Hid (PsIn w a l) := hl
  have h16 : Hid (∀ p ∈ l, p.f.length ≤ 16) := fun p hp => right_few (badP_none hok.2 p hp)
  have hptH : Hid (∀ p ∈ l, p.t.length ≤ 4398046511104) := hpt
  have n4 : n ≤ 10000 := by rw [← hnl]; exact hok.1
  have C0 : Hid (Calls Tryz.prog 15 #[.slice a l.length c] w fun e w' => e = .returned .nilIface ∧ Below w.heap.size w w') := by
    have := check_any a c l w hl (by omega) hT
    rw [chkV_ok hok] at this
    exact this
  have cS : Hid (∀ W ta tc p, p ∈ l → TgIn W ta p.t → Calls Tryz.prog 16 #[.slice ta p.t.length tc] W fun e w' => ∃ a' c', e = .returned (.slice a' (sortT p.t).length c') ∧ TgIn w' a' (sortT p.t) ∧ (∀ ad, a' = some ad → W.heap.size ≤ ad.block) ∧ Below W.heap.size W w') := fun W ta tc p hp ht => (sort_any ta tc p.t W ht (hpt p hp)).mono fun e w' h => by
    obtain ⟨a', c', e1, e2, e3⟩ := sortedR_new h.1
    exact ⟨a', c', e1, e2, e3, h.2⟩
  have cO : Hid (∀ (W : World) (v : Value) (a3 : Option Addr) (z c3 : Nat) (L : List WrA), v = .slice a3 z c3 → FlO w l n v L W → Calls Tryz.prog 7 #[.slice a3 z c3] W fun e w' => ∃ a z c, e = .returned (.slice a z c) ∧ (∃ L, DW w' w.heap.size (.slice a z c) L ∧ L.map (·.1) = odD (flatL l)) ∧ Below w.heap.size w w') := fun W v a3 z c3 L e h => by
    subst e
    have hi := h.is
    rw [← nH.out, List.take_length] at hi
    obtain ⟨a4, c4, e4, _, hw⟩ := h.row.slice
    injection e4 with e5 e6 e7
    subst e5 e7
    rw [hi] at hw
    have lL : z = (flatL l).length := by rw [← hi, List.length_map]; exact e6
    rw [lL]
    have hf := flatL_few h16.out
    refine (orderD a3 c3 (flatL l) W hw (by rw [nH.out] at hf; omega) (flatL_tags hpt)).mono fun e w' hh => ?_
    obtain ⟨a5, z5, c5, L5, q1, q2, q3, q4⟩ := hh
    exact ⟨a5, z5, c5, q1, ⟨L5, q2.mono h.bl.size, q3⟩, h.bl.trans (q4.mono h.bl.size)⟩
  rw [hnl] at C0 ⊢
  clear hl hok hpt hT hnl
  go_enter Tryz.func5, Tryz.ntmps5
  go_wp2_with fail
  refine Calls.mono C0.out ?_
  rintro e w1 ⟨rfl, b1⟩
  have S0 : Hid (FlO w l 0 (.slice none 0 0) [] w1) := ⟨b1, _root_.Go.Proofs.YtpbcbpiolhjlhaaGreatDoor.OW2.nil _ _, by simp [flatL], by simp⟩
  clear b1 C0
  go_wp2_with fail
  go_loopw [5, 18] (fun v5 v18 wr => ∃ (i : Nat) (a3 : Option Addr) (z c3 : Nat) (L : List WrA), v5 = .slice a3 z c3 ∧ v18 = .int .i64 (i : Int) ∧ i ≤ n ∧ Hid (FlO w l i (.slice a3 z c3) L wr)) (fun _ v _ => n - (intOf v).toNat)
  case atStart => exact ⟨0, none, 0, 0, [], rfl, rfl, Nat.zero_le _, S0⟩
  case round =>
    clear S0
    obtain ⟨i, a3, z, c3, L, rfl, rfl, il, hS⟩ := hrel
    have i0 : (0 : Int) ≤ (i : Int) := by omega
    have wi : IntKind.i64.wrap ((i : Int) + 1) = ((i + 1 : Nat) : Int) := IntWalk.i64_in _ (by omega)
    by_cases hi : i < n
    · have iI : (i : Int) < (n : Int) := by omega
      obtain ⟨p, hp⟩ := psome (l := l) (k := i) (by rw [nH.out]; exact hi)
      have hpm := List.mem_of_getElem? hp
      have p16 := h16.out p hpm
      have ppt := hptH.out p hpm
      obtain ⟨b, off, ta, tc, fa, fc, e1, hbx, ax, fx⟩ := lH.out.at hS.out.bl hp
      subst e1
      obtain ⟨K, hK⟩ : ∃ K, K = wr.heap.size := ⟨_, rfl⟩
      obtain ⟨w2, hw2⟩ : ∃ w2, w2 = wr.alloc (.cells #[.string p.m, .slice ta p.t.length tc, .slice fa p.f.length fc, .int .i64 p.tm] 80) := ⟨_, rfl⟩
      have b2 : Below w.heap.size w w2 := by rw [hw2]; exact hS.out.bl.alloc hS.out.bl.size _
      have C1 : Hid _ := cS.out w2 ta tc p hpm (fx w2 b2).2.1
      have st : Hid (∀ (w3 : World) (a' : Option Addr), Below w2.heap.size w2 w3 → TgIn w3 a' (sortT p.t) → (∀ ad, a' = some ad → w2.heap.size ≤ ad.block) → FlI w l i p K w3.heap.size a' fa fc 0 (.slice a3 z c3) L w3) := fun w3 a' q1 q2 q3 => by rw [hK]; exact hS.out.start a' fa ta tc fc hw2 q1 q2 q3
      have fd : Hid (∀ W, Below w.heap.size w W → FdIn W fa p.f) := fun W hW => (fx W hW).2.2.2.1
      have fdc : Hid (p.f.length ≤ fc) := (fx w2 b2).2.2.2.2.2
      have dn : Hid (∀ (M : Nat) (a' : Option Addr) (v : Value) (L : List WrA) (wx : World), FlI w l i p K M a' fa fc p.f.length v L wx → FlO w l (i + 1) v L wx) := fun M a' v L wx h => h.done hp p16
      have ap : Hid (∀ (M : Nat) (a' : Option Addr) (c' k : Nat) (a4 : Option Addr) (z4 c4 : Nat) (L : List WrA) (W : World) (f : FdP), FlI w l i p K M a' fa fc k (.slice a4 z4 c4) L W → p.f[k]? = some f → _) := fun M a' c' k a4 z4 c4 L W f h hf => h.app c' hf p16 (by omega) ppt
      clear fx b2 hbx hp hpm ppt hS
      unfold PAt at ax
      obtain ⟨nf, hnf⟩ : ∃ nf, nf = p.f.length := ⟨_, rfl⟩
      have nfH : Hid (nf = p.f.length) := hnf
      obtain ⟨pm, hpm⟩ : ∃ pm, pm = p.m := ⟨_, rfl⟩
      have z1 : w2.cell? ⟨K, 1, none⟩ = some (.slice ta p.t.length tc) := by rw [hw2, hK]; simp [go_sem]
      rw [← hnf] at ax hw2 p16
      obtain ⟨nt, hnt⟩ : ∃ nt, nt = p.t.length := ⟨_, rfl⟩
      rw [← hnt] at ax hw2 z1 C1
      clear hnf hnt hpm
      obtain ⟨x1, x2, x3, x4⟩ := ax
      go_wp2_with fail
      rw [← hw2, ← hK]
      clear hw2 hK x1 x2 x3 x4 z1
      refine Calls.mono C1.out ?_
      rintro e w3 ⟨a', c', rfl, t3, f3, b3⟩
      have I0 : Hid (FlI w l i p K w3.heap.size a' fa fc 0 (.slice a3 z c3) L w3) := st.out w3 a' b3 t3 f3
      obtain ⟨M, hM⟩ : ∃ M, M = w3.heap.size := ⟨_, rfl⟩
      rw [← hM] at I0
      have z2 := I0.out.box.2.1
      rw [← nfH.out] at z2
      clear b3 t3 f3 C1 st hM
      go_wp2_with fail
      clear z2
      go_loopw [5, 28] (fun v5 v28 wx => ∃ (k : Nat) (a3 : Option Addr) (z c3 : Nat) (L : List WrA), v5 = .slice a3 z c3 ∧ v28 = .int .i64 (k : Int) ∧ k ≤ nf ∧ Hid (FlI w l i p K M a' fa fc k (.slice a3 z c3) L wx)) (fun _ v _ => nf - (intOf v).toNat)
      case atStart => exact ⟨0, a3, z, c3, L, rfl, rfl, Nat.zero_le _, I0⟩
      case round =>
        clear I0
        obtain ⟨k, a4, z4, c4, L4, rfl, rfl, kl, hI⟩ := hrel
        have k0 : (0 : Int) ≤ (k : Int) := by omega
        have wk : IntKind.i64.wrap ((k : Int) + 1) = ((k + 1 : Nat) : Int) := IntWalk.i64_in _ (by omega)
        by_cases hk : k < nf
        · have kI : (k : Int) < (nf : Int) := by omega
          obtain ⟨f, hf⟩ : ∃ f, p.f[k]? = some f := ⟨_, List.getElem?_eq_getElem (by rw [← nfH.out]; exact hk)⟩
          obtain ⟨fb, fo, ef, hfb, y0, y1⟩ := (fd.out wr hI.out.bl).at (Below.refl _ _) hf
          subst ef
          obtain ⟨w5, hw5⟩ : ∃ w5, w5 = wr.alloc (.cells #[.string f.1, .int .i64 f.2] 83) := ⟨_, rfl⟩
          have b5 : Below wr.heap.size wr w5 := by rw [hw5]; exact (Below.refl _ wr).alloc (Nat.le_refl _) _
          obtain ⟨a6, c6, w6, L6, r6, I6⟩ := ap.out M a' c' k a4 z4 c4 L4 w5 f (hI.out.below b5) hf
          have rH : Hid (∀ W' N, W' = w5.alloc (.cells #[.string p.m, .slice a' (sortT p.t).length c', .string f.1, .int .i64 p.tm, .int .u8 0, .int .i64 f.2] 76) → N = w5.heap.size → (Builtin.append_ #[23, 23] 23 #[.slice a4 z4 c4, .slice (some ⟨N, 0, none⟩) 1 1]).run Tryz.prog W' = .ok (.slice a6 (z4 + 1) c6) w6) := r6
          have I6H : Hid (FlI w l i p K M a' (some ⟨fb, fo, none⟩) fc (k + 1) (.slice a6 (z4 + 1) c6) L6 w6) := I6
          obtain ⟨p0, _, p3⟩ := hI.out.box
          have Kl : K < wr.heap.size := Nat.lt_of_lt_of_le hI.out.hK hI.out.hM
          have Kn : ¬ K = wr.heap.size := Nat.ne_of_lt Kl
          clear r6 I6 b5 hI hf
          generalize (sortT p.t).length = ns at *
          subst hw5
          go_wp2_with (at_builtin; refine wpList_append_runB (by rfl) _ _ _ (by rfl) _ _ _ _ (by rfl) (by rfl) (rH.out _ _ (by first | rfl | simp) (by first | rfl | simp)) ?_)
          exact ⟨⟨k + 1, a6, z4 + 1, c6, L6, rfl, by first | rfl | simp, by omega, I6H⟩, by simp [intOf]; omega⟩
        · have kI : ¬ (k : Int) < (nf : Int) := by omega
          have hO : Hid (FlO w l (i + 1) (.slice a4 z4 c4) L4 wr) := by
            have ek : k = p.f.length := by rw [← nfH.out]; omega
            have := hI.out
            rw [ek] at this
            exact dn.out _ _ _ _ _ this
          clear hI
          go_wp2_with fail
          exact ⟨⟨i + 1, a4, z4, c4, L4, rfl, by first | rfl | simp, by omega, hO⟩, by simp [intOf]; omega⟩
    · have iI : ¬ (i : Int) < (n : Int) := by omega
      obtain rfl : i = n := by omega
      have C : Hid _ := cO.out wr _ a3 z c3 L rfl hS.out
      clear hS
      go_wp2_with fail
      refine Calls.mono C.out ?_
      rintro e w9 ⟨a5, z5, c5, rfl, r⟩
      have fin : Hid (FlaR w w9 l (.returned (.tuple #[.slice a5 z5 c5, .nilIface]))) := ⟨a5, z5, c5, rfl, r⟩
      clear r C
      go_wp2_with fail
      go_ret2
      exact fin.out
end Go.Proofs.YtpbcbpiolhjlhaaGreatDoor.De


namespace Go.Proofs.YtpbcbpiolhjlhaaGreatDoor
open Go.RowKit _root_.Go.Proofs.YtpbcbpiolhjlhaaGreatDoor.So
set_option linter.unusedVariables false
set_option linter.unusedSimpArgs false
/-- the book, all of it from N on. -/
def BJ (N n : Nat) (w : World) : Prop := ∃ Own, Mb.BB N (N + 1) n Own w ∧ ∀ q, Own q → N ≤ q
theorem BJ.below {N n : Nat} {w w' : World} (h : BJ N n w) (b : Below w.heap.size w w') : BJ N n w' := by
  obtain ⟨O, bb, hi⟩ := h
  exact ⟨O, bb.below b, hi⟩
theorem BJ.more {N n n' : Nat} {w : World} (h : BJ N n w) (hn : n ≤ n') : BJ N n' w := by
  obtain ⟨O, bb, hi⟩ := h
  exact ⟨O, bb.more hn (fun q e => e) bb.lt, hi⟩
theorem BJ.start (w : World) : BJ w.heap.size 0 (w.alloc (.cells (Array.replicate 28 (.slice none 0 0)) 54)) := ⟨_, Mb.BB.start w, fun q e => by omega⟩
theorem BJ.alone {N n : Nat} {w : World} (h : BJ N n w) (hn : n ≤ 4194304) :
    Calls Tryz.prog 12 #[.pointer (some ⟨N, 0, none⟩)] w fun e w' => e = .returned (.bool true) ∧ Below N w w' := by
  obtain ⟨O, bb, hi⟩ := h
  have nC := bb.nC
  exact (bb.alone hn).mono fun e w' ⟨e1, k⟩ => ⟨e1, k.below (by omega) (fun q hq c => by have := hi q c; omega)⟩
def tgE (t : TagP) : Bk5.E2 := (.string t.1, .string t.2)
theorem enc_tg (l : List TagP) : Bk5.enc (l.map tgE) = encT l := by
  induction l with
  | nil => rfl
  | cons s r ih => simp only [List.map_cons, Bk5.enc, encT, ih, tgE, List.cons_append, List.nil_append]
theorem OT.oe {w : World} {B : Nat} {v : Value} {l : List TagP} (h : OT w B v l) : Bk5.OE w B v (l.map tgE) := by
  unfold Bk5.OE
  rw [List.length_map, enc_tg]
  exact h
def fdE (f : FdP) : Bk6.EK := (.string f.1, .int .i64 f.2)
theorem enc_fd (l : List FdP) : Bk6.enc (l.map fdE) = encF l := by
  induction l with
  | nil => rfl
  | cons s r ih => simp only [List.map_cons, Bk6.enc, encF, ih, fdE, List.cons_append, List.nil_append]
theorem OF.oe {w : World} {B : Nat} {v : Value} {l : List FdP} (h : OF w B v l) : Bk6.OE w B v (l.map fdE) := by
  unfold Bk6.OE
  rw [List.length_map, enc_fd]
  exact h
def wrE (t : WrA) : Bk18.EK := (.string t.1.s.m, De.tV t, .string t.1.s.f, .int .i64 t.1.tm, .int .u8 (t.1.kd : Int), .int .i64 t.1.n)
theorem enc_wr (l : List WrA) : Bk18.enc (l.map wrE) = encW l := by
  induction l with
  | nil => rfl
  | cons s r ih => simp only [List.map_cons, Bk18.enc, encW, ih, wrE, De.tV, List.cons_append, List.nil_append]
def ptE (u : PtA) : Bk17.EK := (.string u.1.m, So.Wr.Dp.pV u, fV u, .int .i64 u.1.tm)
theorem enc_pt (l : List PtA) : Bk17.enc (l.map ptE) = encP l := by
  induction l with
  | nil => rfl
  | cons s r ih => simp only [List.map_cons, Bk17.enc, encP, ih, ptE, So.Wr.Dp.pV, fV, List.cons_append, List.nil_append]
theorem BJ.takeW {N n : Nat} {w0 w : World} {v : Value} {L : List WrA} (h : BJ N n w0) (b : Below w0.heap.size w0 w) (d : De.DW w w0.heap.size v L) (hl : L.length ≤ 1048576) (ht : ∀ t ∈ L, t.1.s.t.length ≤ 268435456) (hn : n + L.length + 1 ≤ 4194304) :
    Calls Tryz.prog 6 #[.pointer (some ⟨N, 0, none⟩), v] w fun e w' => e = .returned undef ∧ BJ N (n + L.length + 1) w' ∧ Below N w w' := by
  obtain ⟨O, bb, hi⟩ := h
  have nC := bb.nC
  have sz := b.size
  have mm : ∀ x ∈ L.map wrE, ∃ t ∈ L, x = wrE t := fun x hx => by
    obtain ⟨t, h1, h2⟩ := List.mem_map.1 hx
    exact ⟨t, h1, h2.symm⟩
  have gm : ∀ (i : Nat) (x : Bk18.EK), (L.map wrE)[i]? = some x → ∃ t, L[i]? = some t ∧ x = wrE t := fun i x hx => by
    rw [List.getElem?_map, Option.map_eq_some_iff] at hx
    obtain ⟨t, h1, h2⟩ := hx
    exact ⟨t, h1, h2.symm⟩
  have o : Bk18.OE w w0.heap.size v (L.map wrE) := by
    unfold Bk18.OE
    rw [List.length_map, enc_wr]
    exact d.row
  have bd : ∀ q, Mb.Q18 v (L.map wrE) (L.map wrE).length q → w0.heap.size ≤ q ∧ q < w.heap.size := fun q e => by
    rcases e with e | ⟨j, x, _, hx, e⟩
    · exact World.ownsRow.lt d.row q e
    · obtain ⟨t, h1, rfl⟩ := gm j x hx
      exact (d.tg t (List.mem_of_getElem? h1)).bound e
  refine ((bb.below b).take18 o (by rw [List.length_map]; exact hl) (fun x hx => ?_) (fun q e => ?_) (fun q e x hx => ?_) (fun i j x y q hij hx hy e => ?_) (by rw [List.length_map]; omega)).mono fun e w' ⟨e1, b1, k⟩ => ⟨e1, ⟨_, b1.more (by rw [List.length_map]; omega) (fun q e => e) b1.lt, fun q c => ?_⟩, k.below (by omega) (fun q hq c => by have := hi q c; omega)⟩
  · obtain ⟨t, h1, rfl⟩ := mm x hx
    exact ⟨_, (d.tg t h1).oe, by rw [List.length_map]; exact ht t h1⟩
  · obtain ⟨h1, h2⟩ := bd q e
    exact ⟨by omega, fun c => by have := bb.lt q c; omega, h2⟩
  · obtain ⟨t, h1, rfl⟩ := mm x hx
    exact fun c => d.dv t h1 q c e
  · obtain ⟨t, h1, rfl⟩ := gm i x hx
    obtain ⟨u, h2, rfl⟩ := gm j y hy
    obtain ⟨l1, e1⟩ := List.getElem?_eq_some_iff.1 h1
    obtain ⟨l2, e2⟩ := List.getElem?_eq_some_iff.1 h2
    have := List.pairwise_iff_getElem.1 d.pw i j l1 l2 hij
    rw [e1, e2] at this
    exact this q e
  · rcases c with c | c | c
    · exact hi q c
    · have := (bd q c).1; omega
    · omega
theorem BJ.takeP {N n : Nat} {w0 w : World} {l : List WrP} {v : Value} (h : BJ N n w0) (r : So.Wr.Dp.PtsR w0 w l (.returned v)) (hl : l.length ≤ 1048576) (ht : ∀ x ∈ l, x.s.t.length ≤ 268435456) (hn : n + 2 * l.length + 1 ≤ 4194304) :
    Calls Tryz.prog 9 #[.pointer (some ⟨N, 0, none⟩), v] w fun e w' => e = .returned undef ∧ BJ N (n + 2 * l.length + 1) w' ∧ Below N w w' := by
  obtain ⟨v', L, B, e0, pg, hB, po, tl, fl, ll, b⟩ := r
  injection e0 with e0
  subst e0
  obtain ⟨O, bb, hi⟩ := h
  have nC := bb.nC
  have sz := b.size
  have mm : ∀ x ∈ L.map ptE, ∃ t ∈ L, x = ptE t := fun x hx => by
    obtain ⟨t, h1, h2⟩ := List.mem_map.1 hx
    exact ⟨t, h1, h2.symm⟩
  have gm : ∀ (i : Nat) (x : Bk17.EK), (L.map ptE)[i]? = some x → ∃ t, L[i]? = some t ∧ x = ptE t := fun i x hx => by
    rw [List.getElem?_map, Option.map_eq_some_iff] at hx
    obtain ⟨t, h1, h2⟩ := hx
    exact ⟨t, h1, h2.symm⟩
  have row : w.ownsRow w0.heap.size 80 4 v L.length (encP L) := by
    refine ⟨pg.row.1, ?_⟩
    rcases pg.row.2 with h2 | ⟨g, cap, cur, e1, e2, e3⟩
    · exact Or.inl h2
    · exact Or.inr ⟨g, cap, cur, e1, Nat.le_trans hB e2, e3⟩
  have o : Bk17.OE w w0.heap.size v (L.map ptE) := by
    unfold Bk17.OE
    rw [List.length_map, enc_pt]
    exact row
  have of0 : ∀ u ∈ L, OF w w0.heap.size (fV u) u.1.f := fun u hu => by
    have f := pg.px.fd u hu
    refine ⟨f.1, ?_⟩
    rcases f.2 with h2 | ⟨g, cap, cur, e1, e2, e3⟩
    · exact Or.inl h2
    · exact Or.inr ⟨g, cap, cur, e1, Nat.le_trans hB e2, e3⟩
  have vB : ∀ q, v.ownBlock = some q → B ≤ q := fun q e => (World.ownsRow.lt pg.row q e).1
  have fB : ∀ u ∈ L, ∀ q, (fV u).ownBlock = some q → B ≤ q := fun u hu q e => ((pg.px.fd u hu).bound e).1
  have tB : ∀ u ∈ L, ∀ q, (So.Wr.Dp.pV u).ownBlock = some q → q < B := fun u hu => (po.1 u hu).2.1
  have bd : ∀ q, Mb.Q17 v (L.map ptE) (L.map ptE).length q → w0.heap.size ≤ q ∧ q < w.heap.size := fun q e => by
    rcases e with e | ⟨j, x, _, hx, e⟩
    · exact World.ownsRow.lt row q e
    · obtain ⟨t, h1, rfl⟩ := gm j x hx
      have hm := List.mem_of_getElem? h1
      rcases e with e | e
      · exact ((po.1 t hm).1).bound e
      · exact (of0 t hm).bound e
  refine ((bb.below b).take17 o (by rw [List.length_map]; omega) (fun x hx => ?_) (fun x hx => ?_) (fun q e => ?_) (fun q e x hx => ?_) (fun i j x y q hij hx hy e => ?_) (fun x hx q e => ?_) (by rw [List.length_map]; omega)).mono fun e w' ⟨e1, b1, k⟩ => ⟨e1, ⟨_, b1.more (by rw [List.length_map]; omega) (fun q e => e) b1.lt, fun q c => ?_⟩, k.below (by omega) (fun q hq c => by have := hi q c; omega)⟩
  · obtain ⟨t, h1, rfl⟩ := mm x hx
    exact ⟨_, (po.1 t h1).1.oe, by
      rw [List.length_map]
      obtain ⟨x, hx, ex⟩ := (po.1 t h1).2.2
      rw [ex]
      exact ht x hx⟩
  · obtain ⟨t, h1, rfl⟩ := mm x hx
    exact ⟨_, (of0 t h1).oe, by rw [List.length_map]; have := fl t h1; omega⟩
  · obtain ⟨h1, h2⟩ := bd q e
    exact ⟨by omega, fun c => by have := bb.lt q c; omega, h2⟩
  · obtain ⟨t, h1, rfl⟩ := mm x hx
    rintro (c | c)
    · have := vB q e; have := tB t h1 q c; omega
    · exact pg.px.fr t h1 q c e
  · obtain ⟨t, h1, rfl⟩ := gm i x hx
    obtain ⟨u, h2, rfl⟩ := gm j y hy
    have m1 := List.mem_of_getElem? h1
    have m2 := List.mem_of_getElem? h2
    obtain ⟨l1, e1⟩ := List.getElem?_eq_some_iff.1 h1
    obtain ⟨l2, e2⟩ := List.getElem?_eq_some_iff.1 h2
    have pt := List.pairwise_iff_getElem.1 po.2 i j l1 l2 hij
    have pf := List.pairwise_iff_getElem.1 pg.px.ff i j l1 l2 hij
    rw [e1, e2] at pt pf
    rcases e with e | e <;> rintro (c | c)
    · exact pt q e c
    · have := tB t m1 q e; have := fB u m2 q c; omega
    · have := fB t m1 q e; have := tB u m2 q c; omega
    · exact pf q e c
  · obtain ⟨t, h1, rfl⟩ := mm x hx
    exact fun c => by have := tB t h1 q e; have := fB t h1 q c; omega
  · rcases c with c | c | c
    · exact hi q c
    · have := (bd q c).1; omega
    · omega
end Go.Proofs.YtpbcbpiolhjlhaaGreatDoor


namespace Go.Proofs.YtpbcbpiolhjlhaaGreatDoor
open Go.RowKit _root_.Go.Proofs.YtpbcbpiolhjlhaaGreatDoor.So
set_option linter.unusedVariables false
set_option linter.unusedSimpArgs false
/-- weirboth.Is, of an Errno. -/
theorem isE_any (c e : Int) (he : (e == 0) = false) (w : World) (hg : ET w) :
    Calls Tryz.prog 29 #[.iface 101 (.int .i64 c), .int .i64 e] w fun ev w' => ev = .returned (.bool (c == e)) ∧ Below w.heap.size w w' := by
  have hgA : ET (w.alloc (.cells #[.int .i64 0] 101)) := ET_alloc hg _
  go_enter Tryz.func29, Tryz.ntmps29
  go_wp2_with fail
  refine (as_EE c ⟨w.heap.size, 0, none⟩ (.int .i64 0) _ hgA (by simp) (by simp)).mono ?_
  rintro ev w1 ⟨rfl, rfl⟩
  go_wp2
  go_ret
  exact ⟨rfl, below_new (below_new (below_new (below_new (below_new (Below.refl _ _) _) _) _) _) _⟩
def lvP : PtP := ⟨⟨#[109]⟩, [], [(⟨#[118]⟩, 3)], 5⟩
def lvW : WrP := ⟨⟨⟨#[109]⟩, [], ⟨#[118]⟩⟩, 5, 0, 3⟩
set_option maxRecDepth 100000 in
theorem lv_right : pointN lvP = 0 := by decide +kernel
set_option maxRecDepth 100000 in
theorem no_right : pointN ⟨⟨#[]⟩, [], [], 0⟩ = 50 := by decide +kernel
/-- one point at B, its field at F. -/
def OneP (W : World) (B F : Nat) : Prop := B < W.heap.size ∧ F < W.heap.size ∧ (W.cell? ⟨B, 0, none⟩ = some (.string ⟨#[109]⟩) ∧ W.cell? ⟨B, 1, none⟩ = some (.slice none 0 0) ∧ W.cell? ⟨B, 2, none⟩ = some (.slice (some ⟨F, 0, none⟩) 1 1) ∧ W.cell? ⟨B, 3, none⟩ = some (.int .i64 5)) ∧ W.cell? ⟨F, 0, none⟩ = some (.string ⟨#[118]⟩) ∧ W.cell? ⟨F, 1, none⟩ = some (.int .i64 3)
theorem OneP.below {W W' : World} {B F : Nat} (h : OneP W B F) (hB : Below W.heap.size W W') : OneP W' B F := by
  obtain ⟨h1, h2, ⟨h3, h4, h5, h6⟩, h7, h8⟩ := h
  exact ⟨Nat.lt_of_lt_of_le h1 hB.size, Nat.lt_of_lt_of_le h2 hB.size, ⟨by rw [hB.cell (p := ⟨B, 0, none⟩) h1]; exact h3, by rw [hB.cell (p := ⟨B, 1, none⟩) h1]; exact h4, by rw [hB.cell (p := ⟨B, 2, none⟩) h1]; exact h5, by rw [hB.cell (p := ⟨B, 3, none⟩) h1]; exact h6⟩, by rw [hB.cell (p := ⟨F, 0, none⟩) h2]; exact h7, by rw [hB.cell (p := ⟨F, 1, none⟩) h2]; exact h8⟩
theorem OneP.pt {W : World} {B F : Nat} (h : OneP W B F) : PtIn W none (some ⟨F, 0, none⟩) 1 lvP := ⟨Or.inl rfl, by decide, Or.inr ⟨F, 0, rfl, h.2.1, fun i t ht => by
  cases i with
  | zero => simp [lvP] at ht; subst ht; exact ⟨by simpa using h.2.2.2.1, by simpa using h.2.2.2.2⟩
  | succ i => simp [lvP] at ht⟩, by decide, by decide⟩
set_option maxRecDepth 100000 in
set_option maxHeartbeats 4000000 in
theorem check_one (w : World) (B F : Nat) (hO : OneP w B F) (hT : UT w) : Calls Tryz.prog 15 #[.slice (some ⟨B, 0, none⟩) 1 1] w fun e w' => e = .returned .nilIface ∧ Below w.heap.size w w' := by
  have OH : Hid (OneP w B F) := hO
  have cR : Hid (∀ W, Below w.heap.size w W → Calls Tryz.prog 30 #[.agg #[.string ⟨#[109]⟩, .slice none 0 0, .slice (some ⟨F, 0, none⟩) 1 1, .int .i64 5]] W fun e w' => e = .returned .nilIface ∧ Below W.heap.size W w') := fun W hW => by
    have := bright_any none (some ⟨F, 0, none⟩) 0 1 lvP W (hO.below hW).pt (hT.below hW (Nat.le_refl _))
    rw [lv_right] at this
    exact this
  clear hO hT
  go_enter Tryz.func15, Tryz.ntmps15
  go_wp2_with fail
  go_loopw [12] (fun v wr => (v = .int .i64 0 ∨ v = .int .i64 1) ∧ Below w.heap.size w wr) (fun v _ => 1 - (intOf v).toNat)
  case atStart => exact ⟨Or.inl rfl, Below.refl _ _⟩
  case round =>
    obtain ⟨hv, hB⟩ := hrel
    rcases hv with rfl | rfl
    · obtain ⟨b1, b2, ⟨x0, x1, x2, x3⟩, y0, y1⟩ := OH.out.below hB
      have bA : Below wr.heap.size wr (wr.alloc (.cells #[.string ⟨#[109]⟩, .slice none 0 0, .slice (some ⟨F, 0, none⟩) 1 1, .int .i64 5] 80)) := (Below.refl _ wr).alloc (Nat.le_refl _) _
      have bA2 := hB.trans (bA.mono hB.size)
      have C : Hid _ := cR.out _ bA2
      have bH : Hid (Below w.heap.size w (wr.alloc (.cells #[.string ⟨#[109]⟩, .slice none 0 0, .slice (some ⟨F, 0, none⟩) 1 1, .int .i64 5] 80))) := bA2
      clear bA bA2 hB
      go_wp2_with fail
      refine Calls.mono C.out ?_
      rintro e w1 ⟨rfl, b3⟩
      have b3H : Hid (Below w.heap.size w w1) := bH.out.trans (b3.mono bH.out.size)
      clear b3 bH C x0 x1 x2 x3 y0 y1
      go_wp2_with fail
      exact ⟨⟨Or.inr rfl, b3H.out⟩, by simp [intOf]⟩
    · have hBH : Hid (Below w.heap.size w wr) := hB
      clear hB
      go_wp2_with fail
      go_ret
      exact ⟨rfl, hBH.out⟩
theorem ord_one (out : List Nat) (h : Sorted1 (ahW [lvW]) 1 out) : ordL [lvW] out out.length = [lvW] := by
  have h0 : 0 ∈ out := (h.all 0).2 (by omega)
  have hall : ∀ p ∈ out, p = 0 := fun p hp => by have := (h.all p).1 hp; omega
  match out, h, h0, hall with
  | [p], _, _, hall =>
    have : p = 0 := hall p (by simp)
    subst this; rfl
  | p :: q :: r, h, _, hall =>
    have e1 : p = 0 := hall p (by simp)
    have e2 : q = 0 := hall q (by simp)
    subst e1 e2
    have := (List.pairwise_cons.1 h.ord).1 0 (by simp)
    rw [(ahW_ao [lvW] 1).irr 0 (by omega)] at this
    cases this
end Go.Proofs.YtpbcbpiolhjlhaaGreatDoor


namespace Go.Proofs.YtpbcbpiolhjlhaaGreatDoor
open Go.RowKit _root_.Go.Proofs.YtpbcbpiolhjlhaaGreatDoor.So
set_option linter.unusedVariables false
set_option linter.unusedSimpArgs false
/-- what Flat tells of that point. -/
def FlR (w w' : World) (e : Ending) : Prop := ∃ g c, e = .returned (.tuple #[.slice (some ⟨g, 0, none⟩) 1 c, .nilIface]) ∧ (w'.cell? ⟨g, 3, none⟩ = some (.int .i64 5) ∧ w'.cell? ⟨g, 4, none⟩ = some (.int .u8 0) ∧ w'.cell? ⟨g, 5, none⟩ = some (.int .i64 3)) ∧ Below w.heap.size w w'
set_option maxRecDepth 100000 in
set_option maxHeartbeats 8000000 in
theorem flat_one (w : World) (B F : Nat) (hO : OneP w B F) (hT : UT w) : Calls Tryz.prog 5 #[.slice (some ⟨B, 0, none⟩) 1 1] w fun e w' => FlR w w' e := by
  have OH : Hid (OneP w B F) := hO
  have C0 : Hid _ := check_one w B F hO hT
  have cS : Hid (∀ W, Calls Tryz.prog 16 #[.slice none 0 0] W fun e w' => ∃ a' c', e = .returned (.slice a' 0 c') ∧ Below W.heap.size W w') := fun W => (sort_any none 0 [] W (Or.inl rfl) (by simp)).mono fun e w' h => by
    obtain ⟨a', c', e1, _⟩ := sortedR_tin h.1
    exact ⟨a', c', e1, h.2⟩
  have cO : Hid (∀ (W : World) (a : Option Addr) (c : Nat) (ta : Option Addr) (tc : Nat), Below w.heap.size w W → OW2 W w.heap.size (.slice a 1 c) [(lvW, ta, tc)] → Calls Tryz.prog 7 #[.slice a 1 c] W fun e w' => ∃ g c', e = .returned (.slice (some ⟨g, 0, none⟩) 1 c') ∧ (w'.cell? ⟨g, 3, none⟩ = some (.int .i64 5) ∧ w'.cell? ⟨g, 4, none⟩ = some (.int .u8 0) ∧ w'.cell? ⟨g, 5, none⟩ = some (.int .i64 3)) ∧ Below w.heap.size w w') := fun W a c ta tc hW hr => by
    obtain ⟨a', c', e, hin⟩ := hr.1.win
    injection e with e1 e2 e3
    subst e1
    have hin' : WIn W a [lvW] := hin
    refine (order_any a c [lvW] W hin' (by simp) (fun x hx => by rw [List.mem_singleton.1 hx]; decide)).mono fun e w' hh => ?_
    obtain ⟨out, L, v, rfl, hs, hw2, hL, hB⟩ := hh
    rw [ord_one out hs] at hL
    obtain ⟨t, rfl⟩ : ∃ t, L = [t] := by
      rcases L with _ | ⟨t, _ | ⟨u, r⟩⟩
      · simp at hL
      · exact ⟨t, rfl⟩
      · simp at hL
    have ht : t.1 = lvW := by simpa using hL
    rcases World.ownsRow.form hw2.1.1 (by simp) with ⟨g, cap, e, _⟩
    refine ⟨g, cap, by rw [e]; rfl, ?_, hW.trans (hB.mono hW.size)⟩
    have ro := hw2.1.1
    rw [e] at ro
    have hcs := World.ownsRow.cells ro (g := g) rfl
    obtain ⟨_, _, _, e4, e5, e6⟩ := encW_get [t] 0 t rfl
    have k4 := hcs _ _ e4
    have k5 := hcs _ _ e5
    have k6 := hcs _ _ e6
    rw [tag_add] at k4 k5 k6
    rw [ht] at k4 k5 k6
    exact ⟨by simpa [lvW] using k4, by simpa [lvW] using k5, by simpa [lvW] using k6⟩
  clear hO hT
  go_enter Tryz.func5, Tryz.ntmps5
  go_wp2_with fail
  refine Calls.mono C0.out ?_
  rintro e w1 ⟨rfl, b1⟩
  have b1H : Hid (Below w.heap.size w w1) := b1
  clear b1 C0
  go_wp2_with fail
  go_loopw [5, 18] (fun v5 v18 wr => Below w.heap.size w wr ∧ ((v5 = .slice none 0 0 ∧ v18 = .int .i64 0) ∨ ∃ (a : Option Addr) (c : Nat) (ta : Option Addr) (tc : Nat), v5 = .slice a 1 c ∧ v18 = .int .i64 1 ∧ Hid (OW2 wr w.heap.size (.slice a 1 c) [(lvW, ta, tc)]))) (fun _ v _ => 1 - (intOf v).toNat)
  case atStart => exact ⟨b1H.out, Or.inl ⟨rfl, rfl⟩⟩
  case round =>
    clear b1H
    obtain ⟨hB, hv⟩ := hrel
    rcases hv with ⟨rfl, rfl⟩ | ⟨a, c, ta, tc, rfl, rfl, hW⟩
    · obtain ⟨b1, b2, ⟨x0, x1, x2, x3⟩, y0, y1⟩ := OH.out.below hB
      obtain ⟨K, hK⟩ : ∃ K, K = wr.heap.size := ⟨_, rfl⟩
      obtain ⟨w2, hw2⟩ : ∃ w2, w2 = wr.alloc (.cells #[.string ⟨#[109]⟩, .slice none 0 0, .slice (some ⟨F, 0, none⟩) 1 1, .int .i64 5] 80) := ⟨_, rfl⟩
      have b2' : Below w.heap.size w w2 := by rw [hw2]; exact hB.alloc hB.size _
      have kl0 : K < w2.heap.size := by rw [hw2, hK]; simp
      have z0 : w2.cell? ⟨K, 0, none⟩ = some (.string ⟨#[109]⟩) ∧ w2.cell? ⟨K, 1, none⟩ = some (.slice none 0 0) ∧ w2.cell? ⟨K, 2, none⟩ = some (.slice (some ⟨F, 0, none⟩) 1 1) ∧ w2.cell? ⟨K, 3, none⟩ = some (.int .i64 5) := by rw [hw2, hK]; simp [go_sem]
      have kp : Hid (∀ W, Below w2.heap.size w2 W → (Below w.heap.size w W ∧ W.cell? ⟨K, 0, none⟩ = some (.string ⟨#[109]⟩) ∧ W.cell? ⟨K, 2, none⟩ = some (.slice (some ⟨F, 0, none⟩) 1 1) ∧ W.cell? ⟨K, 3, none⟩ = some (.int .i64 5)) ∧ OneP W B F) := fun W hW => ⟨⟨b2'.trans (hW.mono b2'.size), by rw [hW.cell (p := ⟨K, 0, none⟩) kl0]; exact z0.1, by rw [hW.cell (p := ⟨K, 2, none⟩) kl0]; exact z0.2.2.1, by rw [hW.cell (p := ⟨K, 3, none⟩) kl0]; exact z0.2.2.2⟩, OH.out.below (b2'.trans (hW.mono b2'.size))⟩
      have C1 : Hid _ := cS.out w2
      obtain ⟨_, z1, _, _⟩ := z0
      have kl1 : Hid (K < w2.heap.size) := kl0
      clear hB kl0 b2'
      go_wp2_with fail
      rw [← hw2, ← hK]
      clear hw2 hK x0 x1 x2 x3 y0 y1 z1
      refine Calls.mono C1.out ?_
      rintro e w3 ⟨a', c', rfl, b3⟩
      obtain ⟨⟨_, _, z2, _⟩, _⟩ := kp.out w3 b3
      have b3H : Hid (Below w2.heap.size w2 w3) := b3
      clear b3 C1
      go_wp2_with fail
      clear z2
      go_loopw [5, 28] (fun v5 v28 wx => Below w2.heap.size w2 wx ∧ ((v5 = .slice none 0 0 ∧ v28 = .int .i64 0) ∨ ∃ (a : Option Addr) (c : Nat) (ta : Option Addr) (tc : Nat), v5 = .slice a 1 c ∧ v28 = .int .i64 1 ∧ Hid (OW2 wx w.heap.size (.slice a 1 c) [(lvW, ta, tc)]))) (fun _ v _ => 1 - (intOf v).toNat)
      case atStart => exact ⟨b3H.out, Or.inl ⟨rfl, rfl⟩⟩
      case round =>
        clear b3H
        obtain ⟨hB, hv⟩ := hrel
        rcases hv with ⟨rfl, rfl⟩ | ⟨a4, c4, ta, tc, rfl, rfl, hW⟩
        · obtain ⟨⟨bw, p0, _, p3⟩, f1, f2, _, y0, y1⟩ := kp.out wr hB
          obtain ⟨K2, hK2⟩ : ∃ K, K = wr.heap.size := ⟨_, rfl⟩
          obtain ⟨w5, hw5⟩ : ∃ w5, w5 = wr.alloc (.cells #[.string ⟨#[118]⟩, .int .i64 3] 83) := ⟨_, rfl⟩
          have b5 : Below wr.heap.size wr w5 := by rw [hw5]; exact (Below.refl _ wr).alloc (Nat.le_refl _) _
          have b5w : Below w.heap.size w w5 := bw.trans (b5.mono bw.size)
          obtain ⟨a4, c4, w6, hr6, ho6, hb6⟩ := app2W w5 w.heap.size (.slice none 0 0) [] (OW2.nil _ _) b5w.size (lvW, a', c') ⟨Or.inl rfl, by simp [lvW]⟩ (fun h => absurd rfl h) (by simp)
          have B6 : Below w2.heap.size w2 w6 := by
            have h1 := hB.trans (b5.mono hB.size)
            refine ⟨hb6.os.trans h1.os, hb6.tape.trans h1.tape, hb6.output.trans h1.output, Nat.le_trans h1.size hb6.size, fun i hi => ?_⟩
            have hw5' : w5.heap.size ≤ w5.heap.size := Nat.le_refl _
            obtain ⟨a7, c7, w7, hr7, ho7, hb7⟩ := app2W w5 w5.heap.size (.slice none 0 0) [] (OW2.nil _ _) (Nat.le_refl _) (lvW, a', c') ⟨Or.inl rfl, by simp [lvW]⟩ (fun h => absurd rfl h) (by simp)
            rw [hr6] at hr7
            injection hr7 with e1 e2
            subst e2
            rw [hb7.block i (Nat.lt_of_lt_of_le hi h1.size)]; exact h1.block i hi
          have q0 : w5.cell? ⟨K2, 0, none⟩ = some (.string ⟨#[118]⟩) ∧ w5.cell? ⟨K2, 1, none⟩ = some (.int .i64 3) := by rw [hw5, hK2]; simp [go_sem]
          obtain ⟨q0, q1⟩ := q0
          obtain ⟨⟨_, r0, _, r3⟩, _⟩ := kp.out w5 (hB.trans (b5.mono hB.size))
          have hrH : Hid (∀ W N, W = w5.alloc (.cells #[.string ⟨#[109]⟩, .slice a' 0 c', .string ⟨#[118]⟩, .int .i64 5, .int .u8 0, .int .i64 3] 76) → N = w5.heap.size → (Builtin.append_ #[23, 23] 23 #[.slice none 0 0, .slice (some ⟨N, 0, none⟩) 1 1]).run Tryz.prog W = .ok (.slice a4 1 c4) w6) := fun W N e e' => by subst e; subst e'; exact hr6
          have ho6H : Hid (OW2 w6 w.heap.size (.slice a4 1 c4) [(lvW, a', c')]) := ho6
          have B6H : Hid (Below w2.heap.size w2 w6) := B6
          have Kl : K < wr.heap.size := Nat.lt_of_lt_of_le kl1.out hB.size
          have Kn : ¬ K = wr.heap.size := Nat.ne_of_lt Kl
          clear hr6 ho6 hb6 B6 b5 b5w hB bw f1 f2 r0 r3 q0 q1
          subst hw5 hK2
          go_wp2_with (at_builtin; refine wpList_append_runB (by rfl) _ _ _ (by rfl) _ _ _ _ (by rfl) (by rfl) (hrH.out _ _ (by first | rfl | simp) (by first | rfl | simp)) ?_)
          exact ⟨⟨B6H.out, Or.inr ⟨a4, c4, a', c', rfl, rfl, ho6H⟩⟩, by simp [intOf]⟩
        · have hBH : Hid (Below w.heap.size w wr) := (kp.out wr hB).1.1
          clear hB
          go_wp2_with fail
          exact ⟨⟨hBH.out, Or.inr ⟨a4, c4, ta, tc, rfl, rfl, hW⟩⟩, by simp [intOf]⟩
    · have C : Hid _ := cO.out wr a c ta tc hB hW.out
      clear hB hW
      go_wp2_with fail
      refine Calls.mono C.out ?_
      rintro e w9 ⟨g, c', rfl, hcs, b9⟩
      have fin : Hid (FlR w w9 (.returned (.tuple #[.slice (some ⟨g, 0, none⟩) 1 c', .nilIface]))) := ⟨g, c', rfl, hcs, b9⟩
      clear hcs b9 C
      go_wp2_with fail
      go_ret2
      exact fin.out
end Go.Proofs.YtpbcbpiolhjlhaaGreatDoor


namespace Go.Proofs.YtpbcbpiolhjlhaaGreatDoor
open Go.RowKit _root_.Go.Proofs.YtpbcbpiolhjlhaaGreatDoor.So
attribute [local go_sem] Oper.semAt_some
set_option linter.unusedVariables false
set_option linter.unusedSimpArgs false
theorem none_right (w : World) (hT : UT w) : Calls Tryz.prog 30 #[.agg #[.string ⟨#[]⟩, .slice none 0 0, .slice none 0 0, .int .i64 0]] w fun e w' => e = .returned (.iface 101 (.int .i64 50)) ∧ Below w.heap.size w w' := by
  have := bright_any none none 0 0 ⟨⟨#[]⟩, [], [], 0⟩ w ⟨Or.inl rfl, by decide, Or.inl rfl, by decide, by decide⟩ hT
  rw [no_right] at this
  exact this
set_option maxRecDepth 100000 in
set_option maxHeartbeats 4000000 in
/-- live, of the batch. -/
theorem blive_any (w : World) (hT : UT w) (hg : ET w) : Calls Tryz.prog 11 #[] w fun e w' => e = .returned (.bool true) ∧ Below w.heap.size w w' := by
  obtain ⟨w2, hw2⟩ : ∃ w2, w2 = (w.alloc (.cells #[.string ⟨#[118]⟩, .int .i64 3] 83)).alloc (.cells #[.string ⟨#[109]⟩, .slice none 0 0, .slice (some ⟨w.heap.size, 0, none⟩) 1 1, .int .i64 5] 80) := ⟨_, rfl⟩
  have b2 : Below w.heap.size w w2 := by rw [hw2]; exact ((Below.refl _ w).alloc (Nat.le_refl _) _).alloc (by simp) _
  have hO : OneP w2 (w.heap.size + 1) w.heap.size := by
    rw [hw2]
    refine ⟨by simp, by simp; omega, ⟨?_, ?_, ?_, ?_⟩, ?_, ?_⟩ <;> simp [go_sem]
  have cF : Hid _ := flat_one w2 _ _ hO (hT.below b2 (Nat.le_refl _))
  have cN : Hid (∀ W, UT W → Calls Tryz.prog 30 #[.agg #[.string ⟨#[]⟩, .slice none 0 0, .slice none 0 0, .int .i64 0]] W fun e w' => e = .returned (.iface 101 (.int .i64 50)) ∧ Below W.heap.size W w') := fun W hW => none_right W hW
  have cI : Hid (∀ W, ET W → Calls Tryz.prog 29 #[.iface 101 (.int .i64 50), .int .i64 50] W fun ev w' => ev = .returned (.bool true) ∧ Below W.heap.size W w') := fun W hW => isE_any 50 50 rfl W hW
  have hU : Hid (∀ W, Below w.heap.size w W → UT W ∧ ET W) := fun W hW => ⟨hT.below hW (Nat.le_refl _), ET_below hg hW⟩
  have b2H : Hid (Below w.heap.size w w2) := b2
  clear hT hg b2 hO
  go_enter Tryz.func11, Tryz.ntmps11
  go_wp2_with fail
  rw [← hw2]
  clear hw2
  refine Calls.mono cF.out ?_
  rintro e w3 ⟨g, c, rfl, ⟨x3, x4, x5⟩, b3⟩
  have b3H : Hid (Below w.heap.size w w3) := b2H.out.trans (b3.mono b2H.out.size)
  clear b3 b2H cF
  go_wp2_with fail
  refine Calls.mono (cN.out _ (hU.out _ b3H.out).1) ?_
  rintro e w4 ⟨rfl, b4⟩
  have b4H : Hid (Below w.heap.size w w4) := b3H.out.trans (b4.mono b3H.out.size)
  clear b4 b3H x3 x4 x5
  go_wp2_with fail
  refine Calls.mono (cI.out _ (hU.out _ b4H.out).2) ?_
  rintro e w5 ⟨rfl, b5⟩
  have b5H : Hid (Below w.heap.size w w5) := b4H.out.trans (b5.mono b4H.out.size)
  clear b5 b4H
  go_wp2_with fail
  go_ret
  exact ⟨rfl, b5H.out⟩
end Go.Proofs.YtpbcbpiolhjlhaaGreatDoor


namespace Go.Proofs.YtpbcbpiolhjlhaaGreatDoor
open Go.RowKit _root_.Go.Proofs.YtpbcbpiolhjlhaaGreatDoor.So
set_option linter.unusedVariables false
set_option linter.unusedSimpArgs false
theorem odD_sub {l : List WrP} {x : WrP} (h : x ∈ odD l) : x ∈ l := ((odD_ok _ l (Nat.le_refl _)).2 _).1 h |>.mem
theorem flatL_tagsK {l : List PtP} {K : Nat} (h : ∀ p ∈ l, p.t.length ≤ K) : ∀ x ∈ flatL l, x.s.t.length ≤ K := by
  intro x hx
  obtain ⟨p, hp, hx⟩ := List.mem_flatMap.1 hx
  obtain ⟨f, _, rfl⟩ := List.mem_map.1 hx
  exact Nat.le_trans (sortT_short p.t) (h p hp)
/-- the book and what was there ahead of it. -/
structure BS (wb : World) (n : Nat) (W : World) : Prop where
  j : BJ wb.heap.size n W
  b : Below wb.heap.size wb W
theorem BS.below {wb : World} {n : Nat} {W W' : World} (h : BS wb n W) (b : Below W.heap.size W W') : BS wb n W' := ⟨h.j.below b, h.b.trans (b.mono h.b.size)⟩
/-- writes to be taken. -/
def BW (wb : World) (n K : Nat) (v : Value) (W : World) : Prop := ∃ w0 L, BS wb n w0 ∧ Below w0.heap.size w0 W ∧ De.DW W w0.heap.size v L ∧ L.length ≤ K ∧ ∀ t ∈ L, t.1.s.t.length ≤ 268435456
theorem takeW_b {wb : World} {n K : Nat} {v : Value} {W : World} (h : BW wb n K v W) (hK : K ≤ 1048576) (hn : n + K + 1 ≤ 4194304) :
    Calls Tryz.prog 6 #[.pointer (some ⟨wb.heap.size, 0, none⟩), v] W fun e w' => e = .returned undef ∧ BS wb (n + K + 1) w' := by
  obtain ⟨w0, L, s, b, d, hl, ht⟩ := h
  exact (s.j.takeW b d (by omega) ht (by omega)).mono fun e w' ⟨e1, j, bb⟩ => ⟨e1, j.more (by omega), (s.below b).b.trans bb⟩
/-- points to be taken. -/
def BP (wb : World) (n : Nat) (m : List WrP) (v : Value) (W : World) : Prop := ∃ w0, BS wb n w0 ∧ So.Wr.Dp.PtsR w0 W m (.returned v)
theorem takeP_b {wb : World} {n K : Nat} {m : List WrP} {v : Value} {W : World} (h : BP wb n m v W) (hm : 2 * m.length ≤ K) (hK : K ≤ 1048576) (ht : ∀ x ∈ m, x.s.t.length ≤ 268435456) (hn : n + K + 1 ≤ 4194304) :
    Calls Tryz.prog 9 #[.pointer (some ⟨wb.heap.size, 0, none⟩), v] W fun e w' => e = .returned undef ∧ BS wb (n + K + 1) w' := by
  obtain ⟨w0, s, r⟩ := h
  have bb0 : Below w0.heap.size w0 W := by
    obtain ⟨_, _, _, _, _, _, _, _, _, _, b⟩ := r
    exact b
  exact (s.j.takeP r (by omega) ht (by omega)).mono fun e w' ⟨e1, j, bb⟩ => ⟨e1, j.more (by omega), (s.below bb0).b.trans bb⟩
theorem flat_b {wb : World} {n : Nat} {a : Option Addr} {c : Nat} {l : List PtP} {W : World} (h : BS wb n W) (ha : PsIn W a l) (hl : l.length ≤ 1048576) (hlt : ∀ p ∈ l, p.t.length ≤ 1048576) (hT : UT W) :
    Calls Tryz.prog 5 #[.slice a l.length c] W fun e w' => ∃ a' z c' V, e = .returned (.tuple #[.slice a' z c', V]) ∧ BW wb n 160000 (.slice a' z c') w' := by
  by_cases hok : chkOk l
  · have h16 : ∀ p ∈ l, p.f.length ≤ 16 := fun p hp => right_few (badP_none hok.2 p hp)
    refine (De.flatO_ok a c l W ha hok (fun p hp => by have := hlt p hp; omega) hT).mono fun e w' ⟨a', z, c', e1, ⟨L, d, i⟩, b⟩ => ⟨a', z, c', _, e1, W, L, h, b, d, ?_, fun t ht => ?_⟩
    · have h1 := congrArg List.length i
      rw [List.length_map] at h1
      have h2 := odD_len (flatL l)
      have h3 := flatL_few h16
      have h4 := hok.1
      omega
    · have hm : t.1 ∈ odD (flatL l) := by rw [← i]; exact List.mem_map.2 ⟨t, ht, rfl⟩
      have := flatL_tagsK hlt _ (odD_sub hm)
      omega
  · exact (flat_bad a c l W ha (by omega) hok hT).mono fun e w' ⟨e1, b⟩ => ⟨none, 0, 0, _, e1, W, [], h, b, De.DW.nil _ _, Nat.zero_le _, fun t ht => by cases ht⟩
theorem order_b {wb : World} {n : Nat} {a : Option Addr} {c : Nat} {m : List WrP} {W : World} (h : BS wb n W) (ha : WIn W a m) (hm : m.length ≤ 349525) (hmt : ∀ x ∈ m, x.s.t.length ≤ 1048576) :
    Calls Tryz.prog 7 #[.slice a m.length c] W fun e w' => ∃ a' z c', e = .returned (.slice a' z c') ∧ BW wb n 349525 (.slice a' z c') w' := by
  refine (De.orderD a c m W ha (by omega) (fun x hx => by have := hmt x hx; omega)).mono fun e w' ⟨a', z, c', L, e1, d, i, b⟩ => ⟨a', z, c', e1, W, L, h, b, d, ?_, fun t ht => ?_⟩
  · have h1 := congrArg List.length i
    rw [List.length_map] at h1
    have h2 := odD_len m
    omega
  · have hx : t.1 ∈ odD m := by rw [← i]; exact List.mem_map.2 ⟨t, ht, rfl⟩
    have := hmt _ (odD_sub hx)
    omega
theorem merge_b {wb : World} {n : Nat} {a : Option Addr} {c : Nat} {m : List WrP} {W : World} (h : BS wb n W) (ha : WIn W a m) (hm : m.length ≤ 349525) (hmt : ∀ x ∈ m, x.s.t.length ≤ 1048576) :
    Calls Tryz.prog 8 #[.slice a m.length c, .slice a m.length c] W fun e w' => ∃ a' z c', e = .returned (.slice a' z c') ∧ BW wb n 699050 (.slice a' z c') w' := by
  refine (De.bmerge_any a a c c m m W ha ha (by omega) (fun x hx => by have := hmt x hx; omega) (fun x hx => by have := hmt x hx; omega)).mono fun e w' ⟨a', z, c', L, e1, d, i, b⟩ => ⟨a', z, c', e1, W, L, h, b, d, ?_, fun t ht => ?_⟩
  · have h1 := congrArg List.length i
    rw [List.length_map] at h1
    have h2 := odD_len (m ++ m)
    rw [List.length_append] at h2
    omega
  · have hx : t.1 ∈ odD (m ++ m) := by rw [← i]; exact List.mem_map.2 ⟨t, ht, rfl⟩
    have hy : t.1 ∈ m := by
      rcases List.mem_append.1 (odD_sub hx) with q | q
      · exact q
      · exact q
    have := hmt _ hy
    omega
theorem points_b {wb : World} {n : Nat} {a : Option Addr} {c : Nat} {m : List WrP} {W : World} (h : BS wb n W) (ha : WIn W a m) (hm : m.length ≤ 349525) (hmt : ∀ x ∈ m, x.s.t.length ≤ 1048576) :
    Calls Tryz.prog 10 #[.slice a m.length c] W fun e w' => ∃ v, e = .returned v ∧ BP wb n m v w' :=
  (So.Wr.Dp.bpointsO_any a c m W ha (by omega) (fun x hx => by have := hmt x hx; omega)).mono fun e w' r => by
    obtain ⟨v, L, B, e1, q⟩ := r
    exact ⟨v, e1, W, h, v, L, B, rfl, q⟩
theorem alone_b {wb : World} {n : Nat} {W : World} (h : BS wb n W) (hn : n ≤ 4194304) :
    Calls Tryz.prog 12 #[.pointer (some ⟨wb.heap.size, 0, none⟩)] W fun e w' => e = .returned (.bool true) ∧ Below wb.heap.size wb w' :=
  (h.j.alone hn).mono fun e w' ⟨e1, b⟩ => ⟨e1, h.b.trans b⟩
set_option maxRecDepth 100000 in
set_option maxHeartbeats 16000000 in
theorem batchOwn_walk (a a2 : Option Addr) (c c2 : Nat) (l : List PtP) (m : List WrP) (w : World) (ha : PsIn w a l) (hl : l.length ≤ 1048576) (hlt : ∀ p ∈ l, p.t.length ≤ 1048576) (hb : WIn w a2 m) (hm : m.length ≤ 349525) (hmt : ∀ x ∈ m, x.s.t.length ≤ 1048576) (hu : UT w) (he : ET w) :
    Calls Tryz.prog 3 #[.slice a l.length c, .slice a2 m.length c2] w fun e w' => e = .returned (.bool true) ∧ Below w.heap.size w w' := by
  have cW : Hid (Calls Tryz.prog 4 #[.slice a2 m.length c2] w fun e w' => ∃ g c', e = .returned (.slice (some ⟨g, 0, none⟩) m.length c') ∧ Hid (KpR w' g c' m ∧ Below w.heap.size w w')) := (writes_any a2 c2 m w hb (by omega) (fun x hx => by have := hmt x hx; omega)).mono fun e w' ⟨g, c', e1, k, b⟩ => ⟨g, c', e1, k, b⟩
  have toW : ∀ (wb W : World), Below w.heap.size w wb → Below wb.heap.size wb W → Below w.heap.size w W := fun wb W h1 h2 => h1.trans (h2.mono h1.size)
  have cF : Hid (∀ wb n W, Below w.heap.size w wb → BS wb n W → Calls Tryz.prog 5 #[.slice a l.length c] W fun e w' => ∃ a' z c' V, e = .returned (.tuple #[.slice a' z c', V]) ∧ BW wb n 160000 (.slice a' z c') w') := fun wb n W h1 h2 => flat_b h2 (ha.below (toW wb W h1 h2.b)) hl hlt (hu.below (toW wb W h1 h2.b) (Nat.le_refl _))
  have cO : Hid (∀ wb g c' n W, KpR wb g c' m → BS wb n W → Calls Tryz.prog 7 #[.slice (some ⟨g, 0, none⟩) m.length c'] W fun e w' => ∃ a' z c', e = .returned (.slice a' z c') ∧ BW wb n 349525 (.slice a' z c') w') := fun wb g c' n W h1 h2 => order_b h2 (h1.below h2.b).win hm hmt
  have cM : Hid (∀ wb g c' n W, KpR wb g c' m → BS wb n W → Calls Tryz.prog 8 #[.slice (some ⟨g, 0, none⟩) m.length c', .slice (some ⟨g, 0, none⟩) m.length c'] W fun e w' => ∃ a' z c', e = .returned (.slice a' z c') ∧ BW wb n 699050 (.slice a' z c') w') := fun wb g c' n W h1 h2 => merge_b h2 (h1.below h2.b).win hm hmt
  have cP : Hid (∀ wb g c' n W, KpR wb g c' m → BS wb n W → Calls Tryz.prog 10 #[.slice (some ⟨g, 0, none⟩) m.length c'] W fun e w' => ∃ v, e = .returned v ∧ BP wb n m v w') := fun wb g c' n W h1 h2 => points_b h2 (h1.below h2.b).win hm hmt
  have tP : Hid (∀ wb n v W, n + 699051 ≤ 4194304 → BP wb n m v W → Calls Tryz.prog 9 #[.pointer (some ⟨wb.heap.size, 0, none⟩), v] W fun e w' => e = .returned undef ∧ BS wb (n + 699050 + 1) w') := fun wb n v W hn h => takeP_b (K := 699050) h (by omega) (by omega) (fun x hx => by have := hmt x hx; omega) (by omega)
  have cL : Hid (∀ wb n W, Below w.heap.size w wb → BS wb n W → Calls Tryz.prog 11 #[] W fun e w' => e = .returned (.bool true) ∧ BS wb n w') := fun wb n W h1 h2 => (blive_any W (hu.below (toW wb W h1 h2.b) (Nat.le_refl _)) (ET_below he (toW wb W h1 h2.b))).mono fun e w' ⟨e1, b⟩ => ⟨e1, h2.below b⟩
  have cK : Hid (∀ wb g c' W, KpR wb g c' m ∧ Below w.heap.size w wb → Below wb.heap.size wb W → Calls Tryz.prog 13 #[.slice (some ⟨g, 0, none⟩) m.length c', .slice a2 m.length c2] W fun e w' => e = .returned (.bool true) ∧ Below w.heap.size w w') := fun wb g c' W h1 h2 => (bkept_any g c' a2 c2 m W (h1.1.below h2) (hb.below (toW wb W h1.2 h2)) (by omega)).mono fun e w' ⟨e1, b⟩ => ⟨e1, (toW wb W h1.2 h2).trans (b.mono (toW wb W h1.2 h2).size)⟩
  clear ha hlt hb hmt hu he toW
  generalize l.length = nl at *
  generalize m.length = nm at *
  go_enter Tryz.func3, Tryz.ntmps3
  go_wp2_with fail
  refine Calls.mono cW.out ?_
  rintro e wb ⟨g, d, rfl, KB⟩
  clear cW
  have S0 : Hid (BS wb 0 (wb.alloc (.cells (Array.replicate 28 (.slice none 0 0)) 54))) := ⟨BJ.start wb, (Below.refl _ wb).alloc (Nat.le_refl _) _⟩
  have er : (Array.replicate 28 (Value.slice none 0 0)) = #[.slice none 0 0, .slice none 0 0, .slice none 0 0, .slice none 0 0, .slice none 0 0, .slice none 0 0, .slice none 0 0, .slice none 0 0, .slice none 0 0, .slice none 0 0, .slice none 0 0, .slice none 0 0, .slice none 0 0, .slice none 0 0, .slice none 0 0, .slice none 0 0, .slice none 0 0, .slice none 0 0, .slice none 0 0, .slice none 0 0, .slice none 0 0, .slice none 0 0, .slice none 0 0, .slice none 0 0, .slice none 0 0, .slice none 0 0, .slice none 0 0, .slice none 0 0] := rfl
  rw [er] at S0
  clear er
  go_wp2_with fail
  go_loopw [7] (fun vi wr => ∃ k : Nat, k ≤ 2 ∧ vi = .int .i64 (k : Int) ∧ Hid (BS wb (1907629 * k) wr)) (fun vi _ => 2 - (intOf vi).toNat)
  case atStart => exact ⟨0, by omega, rfl, S0⟩
  case round =>
    obtain ⟨k, hk2, rfl, hS⟩ := hrel
    clear S0
    have kw : IntKind.i64.wrap ((k : Int) + 1) = ((k + 1 : Nat) : Int) := IntWalk.i64_in _ (by omega)
    by_cases hk : k < 2
    · have hkI : (k : Int) < 2 := by omega
      obtain ⟨q, hq⟩ : ∃ q, q = 1907629 * k := ⟨_, rfl⟩
      have hqH : Hid (q = 1907629 * k ∧ q ≤ 1907629) := ⟨hq, by omega⟩
      rw [← hq] at hS
      clear hq
      go_wp2_with fail
      refine Calls.mono (cF.out wb _ _ KB.out.2 hS.out) ?_
      rintro e w2 ⟨a2', z2, d2, V2, rfl, t2⟩
      have T2 : Hid _ := t2
      clear t2 hS
      go_wp2_with fail
      refine Calls.mono (takeW_b T2.out (by omega) (by have := hqH.out; omega)) ?_
      rintro e w3 ⟨rfl, s3⟩
      have S3 : Hid _ := s3
      clear T2 s3
      go_wp2_with fail
      refine Calls.mono (cO.out wb _ _ _ _ KB.out.1 S3.out) ?_
      rintro e w4 ⟨a4, z4, d4, rfl, t4⟩
      have T4 : Hid _ := t4
      clear t4 S3
      go_wp2_with fail
      refine Calls.mono (takeW_b T4.out (by omega) (by have := hqH.out; omega)) ?_
      rintro e w5 ⟨rfl, s5⟩
      have S5 : Hid _ := s5
      clear T4 s5
      go_wp2_with fail
      refine Calls.mono (cM.out wb _ _ _ _ KB.out.1 S5.out) ?_
      rintro e w6 ⟨a6, z6, d6, rfl, t6⟩
      have T6 : Hid _ := t6
      clear t6 S5
      go_wp2_with fail
      refine Calls.mono (takeW_b T6.out (by omega) (by have := hqH.out; omega)) ?_
      rintro e w7 ⟨rfl, s7⟩
      have S7 : Hid _ := s7
      clear T6 s7
      go_wp2_with fail
      refine Calls.mono (cP.out wb _ _ _ _ KB.out.1 S7.out) ?_
      rintro e w8 ⟨v8, rfl, t8⟩
      have T8 : Hid _ := t8
      clear t8 S7
      go_wp2_with fail
      refine Calls.mono (tP.out wb _ _ _ (by have := hqH.out; omega) T8.out) ?_
      rintro e w9 ⟨rfl, s9⟩
      have SN : Hid (BS wb (1907629 * (k + 1)) w9) := ⟨s9.j.more (by have := hqH.out; omega), s9.b⟩
      clear T8 s9 hqH
      go_wp2_with fail
      exact ⟨⟨k + 1, by omega, by go_num, SN⟩, by first | (simp [intOf]; done) | (simp [intOf]; omega)⟩
    · have hkI : ¬ (k : Int) < 2 := by omega
      obtain rfl : k = 2 := by omega
      go_wp2_with fail
      refine Calls.mono (cL.out wb _ _ KB.out.2 hS.out) ?_
      rintro e w2 ⟨rfl, s2⟩
      have S2 : Hid _ := s2
      clear s2 hS
      go_wp2_with fail
      refine Calls.mono (alone_b S2.out (by omega)) ?_
      rintro e w3 ⟨rfl, b3⟩
      have cE : Hid _ := cK.out wb _ _ _ KB.out b3
      clear S2 b3
      go_wp2_with fail
      refine Calls.mono cE.out ?_
      rintro e w4 ⟨rfl, b4⟩
      go_wp2_with fail
      go_ret
      exact ⟨rfl, b4⟩
end Go.Proofs.YtpbcbpiolhjlhaaGreatDoor


namespace Go.Proofs.YtpbcbpiolhjlhaaGreatDoor
open Go.ChangeShapes Go.WideShapes Go.ChangeAt Go.RowKit
set_option linter.unusedVariables false
def strOf : Value → ByteArray
  | .string s => s
  | _ => ⟨#[]⟩
set_option maxRecDepth 100000 in
/-- tags, as they are read. -/
theorem tags_read {H : Type} {enc : TypeId × Value → H} {W : World} {v : Value} {y : DataW H × List MemPlace} {fuel : Nat}
    (hf : DataW.trod enc Tryz.prog W 0 (fun _ => true) true fuel 66 [v] = some y) :
    ∃ a l cap, v = .slice a l.length cap ∧ TgIn W a l ∧ l.length ≤ 9223372036854775807 := by
  rcases Go.Deep.open_slice_pairs Tryz.underlying66 Tryz.underlying91 (by kernel_rfl) rfl rfl (by kernel_rfl) (by kernel_rfl) hf with ⟨hcs, hx⟩ | ⟨a, len, cap, m, n, V0, V1, D0, D1, P0, P1, hcs, _, hl, hm, hmeq, hx, hall⟩
  · simp at hcs
    subst hcs
    exact ⟨none, [], 0, rfl, Or.inl rfl, by simp⟩
  · simp at hcs
    subst hcs
    simp only [if_true] at hmeq
    have hml : len ≤ 9223372036854775807 := by have : maxLen = 9223372036854775807 := rfl; omega
    have key : ∀ i, i < m → ∃ s t, V0 i = .string s ∧ V1 i = .string t := fun i hi => by
      obtain ⟨_, _, t0, t1⟩ := hall i hi
      obtain ⟨s, e0, _⟩ := DataW.trod_string Tryz.underlying9 t0
      obtain ⟨t, e1, _⟩ := DataW.trod_string Tryz.underlying9 t1
      simp at e0 e1
      exact ⟨s, t, e0, e1⟩
    refine ⟨some a, (List.range len).map (fun i => (strOf (V0 i), strOf (V1 i))), cap, by simp, ?_, by simpa using hml⟩
    rcases Nat.eq_zero_or_pos len with h0 | h0
    · subst h0; exact Or.inl rfl
    · right
      obtain ⟨b, off, spot⟩ := a
      have hspot : spot = none := by simpa [Addr.add] using World.cell?_spot (hall 0 (by omega)).1
      subst hspot
      refine ⟨b, off, rfl, ?_, fun i t ht => ?_⟩
      · have h' := (hall 0 (by omega)).1
        rw [Go.WideShapes.add_plain] at h'
        rcases Nat.lt_or_ge b W.heap.size with h2 | h2
        · exact h2
        · simp [World.cell?, Array.getElem?_eq_none h2] at h'
      · have hi : i < len := by
          have := (List.getElem?_eq_some_iff.1 ht).1
          simpa using this
        have et : t = (strOf (V0 i), strOf (V1 i)) := by
          rw [List.getElem?_map, List.getElem?_range hi] at ht
          simpa using ht.symm
        subst et
        obtain ⟨s, u, e0, e1⟩ := key i (by omega)
        obtain ⟨c0, c1, _, _⟩ := hall i (by omega)
        rw [Go.WideShapes.add_plain] at c0 c1
        refine ⟨?_, ?_⟩
        · rw [c0, e0]; rfl
        · rw [← Nat.add_assoc] at c1; rw [c1, e1]; rfl
end Go.Proofs.YtpbcbpiolhjlhaaGreatDoor


namespace Go.Proofs.YtpbcbpiolhjlhaaGreatDoor
open Go.ChangeShapes Go.WideShapes Go.ChangeAt Go.RowKit
set_option linter.unusedVariables false
set_option linter.unusedSimpArgs false
theorem bulk_posW {H : Type} (d : DataW H) : 1 ≤ Rows.uptoBulk d := by
  cases d <;> first | (simp [Rows.uptoBulk]; done) | (rename_i q; cases q <;> simp [Rows.uptoBulk])
theorem bulk_lenW {H : Type} : ∀ l : List (DataW H), l.length ≤ Rows.uptoBulkAll l
  | [] => Nat.zero_le _
  | d :: r => by
    have h1 := bulk_posW d
    have h2 := bulk_lenW r
    simp only [Rows.uptoBulkAll, List.length_cons]; omega
theorem bulk_memW {H : Type} : ∀ {l : List (DataW H)} {d : DataW H}, d ∈ l → Rows.uptoBulk d ≤ Rows.uptoBulkAll l
  | x :: r, d, h => by
    simp only [Rows.uptoBulkAll]
    rcases List.mem_cons.1 h with e | e
    · subst e; omega
    · have := bulk_memW e; omega
/-- the bulk of tags bounds how many there are. -/
theorem tags_fewW {H : Type} {enc : TypeId × Value → H} {W : World} {a : Option Addr} {n cap : Nat} {y : DataW H × List MemPlace} {fuel : Nat}
    (hf : DataW.trod enc Tryz.prog W 0 (fun _ => true) true fuel 66 [.slice a n cap] = some y) : n ≤ Rows.uptoBulk y.1 := by
  rcases Go.Deep.open_slice Tryz.underlying66 hf with ⟨hcs, hx⟩ | ⟨a', len, cap', m, n', D, Pl, hcs, _, hl, hm, hmm, hx, hall⟩
  · simp at hcs
    omega
  · simp at hcs
    obtain ⟨_, rfl, rfl⟩ := hcs
    rw [hx]
    simp only [Rows.uptoBulk]
    have := bulk_lenW ((List.range n).map D)
    simp at this
    omega
end Go.Proofs.YtpbcbpiolhjlhaaGreatDoor


namespace Go.Proofs.YtpbcbpiolhjlhaaGreatDoor
open Go.ChangeShapes Go.WideShapes Go.ChangeAt Go.RowKit
set_option linter.unusedVariables false
end Go.Proofs.YtpbcbpiolhjlhaaGreatDoor


namespace Go.Proofs.YtpbcbpiolhjlhaaGreatDoor
open Go.ChangeShapes Go.WideShapes Go.ChangeAt Go.RowKit
set_option linter.unusedVariables false
def numOf : Value → Int
  | .int _ n => n
  | _ => 0
set_option maxRecDepth 100000 in
/-- fields, as they are read. -/
theorem fields_read {H : Type} {enc : TypeId × Value → H} {W : World} {v : Value} {y : DataW H × List MemPlace} {fuel : Nat}
    (hf : DataW.trod enc Tryz.prog W 0 (fun _ => true) true fuel 78 [v] = some y) :
    ∃ a l cap, v = .slice a l.length cap ∧ FdIn W a l ∧ l.length ≤ cap := by
  rcases Go.Deep.open_slice_pairs Tryz.underlying78 Tryz.underlying83 (by kernel_rfl) rfl rfl (by kernel_rfl) (by kernel_rfl) hf with ⟨hcs, hx⟩ | ⟨a, len, cap, m, n, V0, V1, D0, D1, P0, P1, hcs, _, hl, hm, hmeq, hx, hall⟩
  · simp at hcs
    subst hcs
    exact ⟨none, [], 0, rfl, Or.inl rfl, by simp⟩
  · simp at hcs
    subst hcs
    simp only [if_true] at hmeq
    have key : ∀ i, i < m → ∃ s t, V0 i = .string s ∧ V1 i = .int .i64 t := fun i hi => by
      obtain ⟨_, _, t0, t1⟩ := hall i hi
      obtain ⟨s, e0, _⟩ := DataW.trod_string Tryz.underlying9 t0
      obtain ⟨t, e1, _⟩ := DataW.trod_int Tryz.underlying2 t1
      simp at e0 e1
      exact ⟨s, t, e0, e1⟩
    refine ⟨some a, (List.range len).map (fun i => (strOf (V0 i), numOf (V1 i))), cap, by simp, ?_, by simp; omega⟩
    rcases Nat.eq_zero_or_pos len with h0 | h0
    · subst h0; exact Or.inl rfl
    · right
      obtain ⟨b, off, spot⟩ := a
      have hspot : spot = none := by simpa [Addr.add] using World.cell?_spot (hall 0 (by omega)).1
      subst hspot
      refine ⟨b, off, rfl, ?_, fun i t ht => ?_⟩
      · have h' := (hall 0 (by omega)).1
        rw [Go.WideShapes.add_plain] at h'
        rcases Nat.lt_or_ge b W.heap.size with h2 | h2
        · exact h2
        · simp [World.cell?, Array.getElem?_eq_none h2] at h'
      · have hi : i < len := by
          have := (List.getElem?_eq_some_iff.1 ht).1
          simpa using this
        have et : t = (strOf (V0 i), numOf (V1 i)) := by
          rw [List.getElem?_map, List.getElem?_range hi] at ht
          simpa using ht.symm
        subst et
        obtain ⟨s, u, e0, e1⟩ := key i (by omega)
        obtain ⟨c0, c1, _, _⟩ := hall i (by omega)
        rw [Go.WideShapes.add_plain] at c0 c1
        refine ⟨?_, ?_⟩
        · rw [c0, e0]; rfl
        · rw [← Nat.add_assoc] at c1; rw [c1, e1]; rfl
end Go.Proofs.YtpbcbpiolhjlhaaGreatDoor
