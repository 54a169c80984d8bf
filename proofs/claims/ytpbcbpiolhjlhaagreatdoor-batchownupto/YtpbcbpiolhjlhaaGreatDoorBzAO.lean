
import Derived.Test.YtpbcbpiolhjlhaaGreatDoorBzAN
import Derived.Test.YtpbcbpiolhjlhaaGreatDoorBzAA
import Derived.BigQuiet

namespace Go.Proofs.YtpbcbpiolhjlhaaGreatDoor.So.Wr.Dp
open Go.RowKit
set_option linter.unusedVariables false
set_option linter.unusedSimpArgs false
/-- a point's tags, and where they lie. -/
def pT (u : PtA) : List TagP × Option Addr × Nat := (u.1.t, u.2.1)
theorem take_up {α : Type} (Z : List α) (i : Nat) : (Z.take i).Sublist (Z.take (i + 1)) := by rw [List.take_add_one]; exact List.sublist_append_left _ _
theorem ts_new {α : Type} {M Z : List α} {i : Nat} {z : α} (h : M.Sublist (Z.take i)) (hz : Z[i]? = some z) : (M ++ [z]).Sublist (Z.take (i + 1)) := by rw [List.take_add_one, hz]; exact h.append (List.Sublist.refl _)
theorem map_set_same {α β : Type} {f : α → β} {L : List α} {k : Nat} {u x : α} (hu : L[k]? = some u) (e : f x = f u) : (L.set k x).map f = L.map f := by
  refine List.ext_getElem? fun i => ?_
  rw [List.getElem?_map, List.getElem?_map, List.getElem?_set]
  by_cases c : k = i
  · subst c
    rw [if_pos rfl, if_pos (List.getElem?_eq_some_iff.1 hu).1, hu]
    simp [e]
  · rw [if_neg c]
/-- while the points are made: i samples are in. -/
structure PS (Z : List (List TagP × Option Addr × Nat)) (w3 : World) (S : List WrP) (i : Nat) (v : Value) (L : List PtA) (wr : World) : Prop where
  pg : PG wr w3.heap.size v L
  is : L.map (·.1) = (grD (S.take i)).map toP
  tl : ∀ u ∈ L, u.1.t.length ≤ 4398046511104
  fl : ∀ u ∈ L, u.1.f.length ≤ i
  le : L.length ≤ i
  bl : Below w3.heap.size w3 wr
  ts : (L.map pT).Sublist (Z.take i)
theorem PS.below {Z : List (List TagP × Option Addr × Nat)} {w3 : World} {S : List WrP} {i : Nat} {v : Value} {L : List PtA} {wr wx : World} (s : PS Z w3 S i v L wr) (hB : Below wr.heap.size wr wx) : PS Z w3 S i v L wx := ⟨s.pg.below hB, s.is, s.tl, s.fl, s.le, s.bl.trans (hB.mono s.bl.size), s.ts⟩
/-- the point is there, its field not yet. -/
structure PM (Z : List (List TagP × Option Addr × Nat)) (w3 : World) (S : List WrP) (i : Nat) (x : WrP) (v : Value) (L : List PtA) (wr : World) : Prop where
  pg : PG wr w3.heap.size v L
  is : ∃ R0 fs, L.map (·.1) = R0.map toP ++ [toP (pkO x, fs)] ∧ grD (S.take (i + 1)) = R0 ++ [(pkO x, fs ++ [(x.s.f, x.n)])]
  tl : ∀ u ∈ L, u.1.t.length ≤ 4398046511104
  fl : ∀ u ∈ L, u.1.f.length ≤ i
  le : L.length ≤ i + 1
  bl : Below w3.heap.size w3 wr
  ts : (L.map pT).Sublist (Z.take (i + 1))
theorem PM.below {Z : List (List TagP × Option Addr × Nat)} {w3 : World} {S : List WrP} {i : Nat} {x : WrP} {v : Value} {L : List PtA} {wr wx : World} (s : PM Z w3 S i x v L wr) (hB : Below wr.heap.size wr wx) : PM Z w3 S i x v L wx := ⟨s.pg.below hB, s.is, s.tl, s.fl, s.le, s.bl.trans (hB.mono s.bl.size), s.ts⟩
theorem PM.len {Z : List (List TagP × Option Addr × Nat)} {w3 : World} {S : List WrP} {i : Nat} {x : WrP} {v : Value} {L : List PtA} {wr : World} (s : PM Z w3 S i x v L wr) : 0 < L.length := by
  obtain ⟨R0, fs, h, _⟩ := s.is
  have := congrArg List.length h
  simp at this
  omega
/-- the same point as the sample ahead. -/
theorem PS.same {Z : List (List TagP × Option Addr × Nat)} {w3 : World} {S : List WrP} {i : Nat} {x y : WrP} {v : Value} {L : List PtA} {wr : World} (hS : S.Pairwise lessP) (s : PS Z w3 S i v L wr) (hi : 0 < i) (hx : S[i]? = some x) (hy : S[i - 1]? = some y) (hk : kC (pkO y) (pkO x) = 0) : PM Z w3 S i x v L wr := by
  refine ⟨s.pg, ?_, s.tl, s.fl, by have := s.le; omega, s.bl, s.ts.trans (take_up Z i)⟩
  have h := grD_last hS (i - 1) y hy
  rw [show i - 1 + 1 = i by omega] at h
  obtain ⟨R0, fs, e, h0⟩ := h
  have ek : pkO y = pkO x := (kC_is.zero _ _).1 hk
  rw [ek] at e h0
  refine ⟨R0, fs, by rw [s.is, e, List.map_append]; rfl, ?_⟩
  rw [grD_take hx]
  exact LastK.same e h0 (kC_is.self _)
theorem PS.newR {Z : List (List TagP × Option Addr × Nat)} {w3 : World} {S : List WrP} {i : Nat} {x : WrP} {v : Value} {L : List PtA} {wr : World} (hS : S.Pairwise lessP) (s : PS Z w3 S i v L wr) (hx : S[i]? = some x) (hk : i = 0 ∨ ∃ y, S[i - 1]? = some y ∧ kC (pkO y) (pkO x) ≠ 0) : grD (S.take (i + 1)) = grD (S.take i) ++ [(pkO x, [(x.s.f, x.n)])] := by
  rw [grD_take hx]
  by_cases h0 : i = 0
  · subst h0; rfl
  · rcases hk with e | ⟨y, hy, hk⟩
    · exact absurd e h0
    · have h := grD_last hS (i - 1) y hy
      rw [show i - 1 + 1 = i by omega] at h
      refine h.new ?_
      obtain ⟨hl, ex⟩ := List.getElem?_eq_some_iff.1 hx
      obtain ⟨hl', ey⟩ := List.getElem?_eq_some_iff.1 hy
      have := List.pairwise_iff_getElem.1 hS (i - 1) i hl' hl (by omega)
      rw [ex, ey] at this
      rcases this with q | q
      · exact q
      · exact absurd q.1 hk
/-- another point. -/
theorem PS.new {Z : List (List TagP × Option Addr × Nat)} {w3 : World} {S : List WrP} {i : Nat} {x : WrP} {v : Value} {L : List PtA} {wr : World} (hS : S.Pairwise lessP) (s : PS Z w3 S i v L wr) (hx : S[i]? = some x) (hk : i = 0 ∨ ∃ y, S[i - 1]? = some y ∧ kC (pkO y) (pkO x) ≠ 0) (ta : Option Addr) (tc : Nat) (ht : TgIn w3 ta x.s.t) (hts : x.s.t.length ≤ 4398046511104) (hn : i + 1 ≤ 1099511627776) (hz : Z[i]? = some (x.s.t, ta, tc)) :
    ∃ g c w', (Builtin.append_ #[22, 22] 22 #[v, .slice (some ⟨wr.heap.size, 0, none⟩) 1 1]).run Tryz.prog (wr.alloc (.cells #[.string x.s.m, .slice ta x.s.t.length tc, .slice none 0 0, .int .i64 x.tm] 80)) = .ok (.slice (some ⟨g, 0, none⟩) (L.length + 1) c) w' ∧ PM Z w3 S i x (.slice (some ⟨g, 0, none⟩) (L.length + 1) c) (L ++ [(⟨x.s.m, x.s.t, [], x.tm⟩, (ta, tc), (none, 0))]) w' ∧ wr.grownBy w' v.ownBlock ∧ (v.ownBlock = some g ∨ wr.heap.size < g) := by
  obtain ⟨g, c, w', h1, h2, h3, h4, h5⟩ := s.pg.more s.bl.size x.s.m x.s.t ta tc x.tm (ht.below s.bl) (fun hne ad e => by
    rcases ht with q | ⟨b, off, q, hb, _⟩
    · exact absurd q hne
    · rw [e] at q; injection q with q; rw [q]; exact hb) (by have := s.le; omega)
  refine ⟨g, c, w', h1, ⟨h2, ⟨grD (S.take i), [], ?_, ?_⟩, fun u hu => ?_, fun u hu => ?_, ?_, s.bl.trans h3, by rw [List.map_append]; exact ts_new s.ts hz⟩, h4, h5⟩
  · rw [List.map_append, s.is]; rfl
  · exact s.newR hS hx hk
  · rcases List.mem_append.1 hu with q | q
    · exact s.tl u q
    · rw [List.mem_singleton.1 q]; exact hts
  · rcases List.mem_append.1 hu with q | q
    · exact s.fl u q
    · rw [List.mem_singleton.1 q]; exact Nat.zero_le _
  · rw [List.length_append, List.length_singleton]; have := s.le; omega
/-- the field goes in. -/
theorem PM.done {Z : List (List TagP × Option Addr × Nat)} {w3 : World} {S : List WrP} {i : Nat} {x : WrP} {g n cap : Nat} {L : List PtA} {wr : World} (s : PM Z w3 S i x (.slice (some ⟨g, 0, none⟩) n cap) L wr) (hn : i + 1 ≤ 1099511627776) :
    ∃ (fa : Option Addr) (fn fc : Nat) (a : Option Addr) (c : Nat) (w' : World) (L' : List PtA) (fb : Option Nat), n = L.length ∧ wr.cell? ⟨g, (L.length - 1) * 4 + 2, none⟩ = some (.slice fa fn fc) ∧ (Builtin.append_ #[78, 78] 78 #[.slice fa fn fc, .slice (some ⟨wr.heap.size, 0, none⟩) 1 1]).run Tryz.prog (wr.alloc (.cells #[.string x.s.f, .int .i64 x.n] 83)) = .ok (.slice a (fn + 1) c) w'
      ∧ PS Z w3 S (i + 1) (.slice (some ⟨g, 0, none⟩) n cap) L' (w'.setCell ⟨g, (L.length - 1) * 4 + 2, none⟩ (.slice a (fn + 1) c)) ∧ w'.cell? ⟨g, (L.length - 1) * 4 + 2, none⟩ = some (.slice fa fn fc) ∧ w'.frozen? ⟨g, (L.length - 1) * 4 + 2, none⟩ = false ∧ wr.grownBy w' fb ∧ (∀ k, fb = some k → k ≠ g) ∧ (∀ k, fb = some k → k < wr.heap.size ∧ ∃ u ∈ L, fbk u = some k) := by
  have hl := s.len
  obtain ⟨R0, fs, hm, hg⟩ := s.is
  obtain ⟨u, hu⟩ : ∃ u, L[L.length - 1]? = some u := ⟨_, List.getElem?_eq_getElem (by omega)⟩
  have hu' := List.mem_of_getElem? hu
  have len0 : L.length = R0.length + 1 := by
    have := congrArg List.length hm
    simpa using this
  have hu1 : u.1 = toP (pkO x, fs) := by
    have q : (L.map (·.1))[L.length - 1]? = some u.1 := by rw [List.getElem?_map, hu]; rfl
    rw [hm, len0, List.getElem?_append_right (by simp)] at q
    simp at q
    exact q.symm
  obtain ⟨a, c, w', q1, q2, q3, q4, q5, q6⟩ := s.pg.field s.bl.size hu (x.s.f, x.n) (by have := s.fl u hu'; omega)
  have c0 := (s.pg.at hu).2.2.1
  refine ⟨u.2.2.1, u.1.f.length, u.2.2.2, a, c, w', L.set (L.length - 1) (addF u (x.s.f, x.n) a c), fbk u, (s.pg.len).1, c0, q1, ⟨q2, ?_, fun y hy => ?_, fun y hy => ?_, by rw [List.length_set]; have := s.le; omega, s.bl.trans q3, by rw [map_set_same hu (show pT (addF u (x.s.f, x.n) a c) = pT u from rfl)]; exact s.ts⟩, q4, q5, q6, fun k e e2 => s.pg.px.fr u hu' k e (by rw [e2]; rfl), fun k e => ⟨((s.pg.px.fd u hu').bound e).2, u, hu', e⟩⟩
  · rw [hg, List.map_append, List.map_set, hm, len0]
    have e1 : R0.length + 1 - 1 = (R0.map toP).length := by simp
    have e2 : (addF u (x.s.f, x.n) a c).1 = toP (pkO x, fs ++ [(x.s.f, x.n)]) := by
      unfold addF
      rw [hu1]
      rfl
    rw [e1, List.set_append_right _ _ (Nat.le_refl _), Nat.sub_self, e2]
    rfl
  · rcases List.mem_or_eq_of_mem_set hy with q | q
    · exact s.tl y q
    · rw [q]; exact s.tl u hu'
  · rcases List.mem_or_eq_of_mem_set hy with q | q
    · have := s.fl y q; omega
    · rw [q]
      have := s.fl u hu'
      show (u.1.f ++ [_]).length ≤ i + 1
      rw [List.length_append, List.length_singleton]; omega
end Go.Proofs.YtpbcbpiolhjlhaaGreatDoor.So.Wr.Dp


namespace Go.Proofs.YtpbcbpiolhjlhaaGreatDoor
open Go.RowKit _root_.Go.Proofs.YtpbcbpiolhjlhaaGreatDoor.So
set_option linter.unusedVariables false
set_option linter.unusedSimpArgs false
set_option maxRecDepth 100000 in
set_option maxHeartbeats 16000000 in
/-- SameWrites, of rows that are the same. -/
theorem sameWrites_true (a a2 : Option Addr) (c c2 : Nat) (l : List WrP) (w : World) (ha : WIn w a l) (hb : WIn w a2 l) (hn : l.length ≤ 1099511627775) :
    Calls Tryz.prog 59 #[.slice a l.length c, .slice a2 l.length c2] w fun e w' => e = .returned (.bool true) ∧ Below w.heap.size w w' := by
  obtain ⟨n, hn1⟩ : ∃ n, n = l.length := ⟨_, rfl⟩
  have nH : Hid (n = l.length) := hn1
  rw [← hn1] at hn ⊢
  have aH : Hid (WIn w a l) := ha
  have bH : Hid (WIn w a2 l) := hb
  have W0 : Hid (Below w.heap.size w w) := Below.refl _ _
  have nn : ((n : Int) == (n : Int)) = true := by simp
  clear ha hb hn1
  go_enter Tryz.func59, Tryz.ntmps59
  go_wp2_with fail
  go_loopw [5] (fun v wr => ∃ (i : Nat), v = .int .i64 (i : Int) ∧ i ≤ n ∧ Hid (Below w.heap.size w wr)) (fun v _ => n - (intOf v).toNat)
  case atStart => exact ⟨0, rfl, Nat.zero_le _, W0⟩
  case round =>
    clear W0
    obtain ⟨i, rfl, il, BH⟩ := hrel
    have i0 : (0 : Int) ≤ (i : Int) := by omega
    have wi : IntKind.i64.wrap ((i : Int) + 1) = ((i + 1 : Nat) : Int) := IntWalk.i64_in _ (by omega)
    by_cases hi : i < n
    · have iI : (i : Int) < (n : Int) := by omega
      have hiL : Hid (i < l.length) := by rw [← nH.out]; exact hi
      obtain ⟨b, off, tx, cx, e1, hbx, ax, fx⟩ := aH.out.at BH.out (atW_some hiL.out)
      obtain ⟨b', off', ty, cy, e2, hby, ay, fy⟩ := bH.out.at BH.out (atW_some hiL.out)
      subst e1 e2
      have CH : Hid (∀ W', Below w.heap.size w W' → Calls Tryz.prog 82 #[wV (atW l i) tx cx, wV (atW l i) ty cy] W' fun e w' => e = .returned (.int .i64 0) ∧ Below W'.heap.size W' w') := fun W' hW' => by
        have := rpcompare_any (atW l i) (atW l i) tx ty cx cy W' (fx W' hW').2 (fy W' hW').2
        rw [wC_self] at this
        exact this
      clear fx fy
      unfold wV at CH
      unfold WAt at ax ay
      generalize atW l i = x at ax ay CH
      generalize x.s.t.length = nx at ax ay CH
      have bl : b < wr.heap.size := Nat.lt_of_lt_of_le hbx BH.out.size
      have bl' : b' < wr.heap.size := Nat.lt_of_lt_of_le hby BH.out.size
      clear hbx hby
      obtain ⟨x1, x2, x3, x4, x5, x6⟩ := ax
      obtain ⟨y1, y2, y3, y4, y5, y6⟩ := ay
      go_wp2_with fail
      refine wp_region_noPanic ?_
      refine wp_region_held_drew (S := fun W => (W.cell? ⟨b, off + i * 6, none⟩ = some (.string x.s.m) ∧ W.cell? ⟨b, off + i * 6 + 1, none⟩ = some (.slice tx nx cx) ∧ W.cell? ⟨b, off + i * 6 + 2, none⟩ = some (.string x.s.f) ∧ W.cell? ⟨b, off + i * 6 + 3, none⟩ = some (.int .i64 x.tm) ∧ W.cell? ⟨b, off + i * 6 + 4, none⟩ = some (.int .u8 (x.kd : Int)) ∧ W.cell? ⟨b, off + i * 6 + 5, none⟩ = some (.int .i64 x.n)) ∧ W.cell? ⟨b', off' + i * 6, none⟩ = some (.string x.s.m) ∧ W.cell? ⟨b', off' + i * 6 + 1, none⟩ = some (.slice ty nx cy) ∧ W.cell? ⟨b', off' + i * 6 + 2, none⟩ = some (.string x.s.f) ∧ W.cell? ⟨b', off' + i * 6 + 3, none⟩ = some (.int .i64 x.tm) ∧ W.cell? ⟨b', off' + i * 6 + 4, none⟩ = some (.int .u8 (x.kd : Int)) ∧ W.cell? ⟨b', off' + i * 6 + 5, none⟩ = some (.int .i64 x.n)) (by kernel_rfl) ⟨⟨x1, x2, x3, x4, x5, x6⟩, y1, y2, y3, y4, y5, y6⟩ (fun hHeld => ?_)
      refine zT 0 (v := ?_) rfl ?_ ?_
      rotate_left 1
      · (intro w0 hSw; (try dsimp only at hSw); obtain ⟨⟨s1, s2, s3, s4, s5, s6⟩, t1, t2, t3, t4, t5, t6⟩ := hSw; go_simp; try with_reducible rfl)
      (try simp only [z1, z2, z3]); (try simp only [Act.put, z4, z5, z6])
      refine zT 1 (v := ?_) rfl ?_ ?_
      rotate_left 1
      · (intro w0 hSw; (try dsimp only at hSw); obtain ⟨⟨s1, s2, s3, s4, s5, s6⟩, t1, t2, t3, t4, t5, t6⟩ := hSw; go_simp; try with_reducible rfl)
      (try simp only [z1, z2, z3]); (try simp only [Act.put, z4, z5, z6])
      refine zT 2 (v := ?_) rfl ?_ ?_
      rotate_left 1
      · (intro w0 hSw; (try dsimp only at hSw); obtain ⟨⟨s1, s2, s3, s4, s5, s6⟩, t1, t2, t3, t4, t5, t6⟩ := hSw; go_simp; try with_reducible rfl)
      (try simp only [z1, z2, z3]); (try simp only [Act.put, z4, z5, z6])
      refine zT 3 (v := ?_) rfl ?_ ?_
      rotate_left 1
      · (intro w0 hSw; (try dsimp only at hSw); obtain ⟨⟨s1, s2, s3, s4, s5, s6⟩, t1, t2, t3, t4, t5, t6⟩ := hSw; go_simp; try with_reducible rfl)
      (try simp only [z1, z2, z3]); (try simp only [Act.put, z4, z5, z6])
      refine zT 4 (v := ?_) rfl ?_ ?_
      rotate_left 1
      · (intro w0 hSw; (try dsimp only at hSw); obtain ⟨⟨s1, s2, s3, s4, s5, s6⟩, t1, t2, t3, t4, t5, t6⟩ := hSw; go_simp; try with_reducible rfl)
      (try simp only [z1, z2, z3]); (try simp only [Act.put, z4, z5, z6])
      refine zT 5 (v := ?_) rfl ?_ ?_
      rotate_left 1
      · (intro w0 hSw; (try dsimp only at hSw); obtain ⟨⟨s1, s2, s3, s4, s5, s6⟩, t1, t2, t3, t4, t5, t6⟩ := hSw; go_simp; try with_reducible rfl)
      (try simp only [z1, z2, z3]); (try simp only [Act.put, z4, z5, z6])
      refine zT 6 (v := ?_) rfl ?_ ?_
      rotate_left 1
      · (intro w0 hSw; (try dsimp only at hSw); obtain ⟨⟨s1, s2, s3, s4, s5, s6⟩, t1, t2, t3, t4, t5, t6⟩ := hSw; go_simp; try with_reducible rfl)
      (try simp only [z1, z2, z3]); (try simp only [Act.put, z4, z5, z6])
      refine zT 7 (v := ?_) rfl ?_ ?_
      rotate_left 1
      · (intro w0 hSw; (try dsimp only at hSw); obtain ⟨⟨s1, s2, s3, s4, s5, s6⟩, t1, t2, t3, t4, t5, t6⟩ := hSw; go_simp; try with_reducible rfl)
      (try simp only [z1, z2, z3]); (try simp only [Act.put, z4, z5, z6])
      refine wpAnyH_ready (rs := [8]) (by kernel_rfl) (by simp) ?_
      refine AllReadyH.cons (o := _) rfl (fun K hK => ?_) AllReadyH.nil
      go_simp
      refine Calls.mono (CH.out _ (show Below w.heap.size w wr.drew from BH.out.drew)) ?_
      rintro e w' ⟨rfl, BB⟩
      try dsimp only
      refine hK _ _ ?_ (fun hHeld => ?_)
      · exact ⟨⟨by rw [BB.cell (p := ⟨b, off + i * 6, none⟩) bl]; exact x1, by rw [BB.cell (p := ⟨b, off + i * 6 + 1, none⟩) bl]; exact x2, by rw [BB.cell (p := ⟨b, off + i * 6 + 2, none⟩) bl]; exact x3, by rw [BB.cell (p := ⟨b, off + i * 6 + 3, none⟩) bl]; exact x4, by rw [BB.cell (p := ⟨b, off + i * 6 + 4, none⟩) bl]; exact x5, by rw [BB.cell (p := ⟨b, off + i * 6 + 5, none⟩) bl]; exact x6⟩, by rw [BB.cell (p := ⟨b', off' + i * 6, none⟩) bl']; exact y1, by rw [BB.cell (p := ⟨b', off' + i * 6 + 1, none⟩) bl']; exact y2, by rw [BB.cell (p := ⟨b', off' + i * 6 + 2, none⟩) bl']; exact y3, by rw [BB.cell (p := ⟨b', off' + i * 6 + 3, none⟩) bl']; exact y4, by rw [BB.cell (p := ⟨b', off' + i * 6 + 4, none⟩) bl']; exact y5, by rw [BB.cell (p := ⟨b', off' + i * 6 + 5, none⟩) bl']; exact y6⟩
      clear hK K
      (try simp only [z1, z2, z3]); (try simp only [Act.put, z4, z5, z6])
      refine zT 9 (v := ?_) rfl ?_ ?_
      rotate_left 1
      · (intro w0 hSw; (try dsimp only at hSw); obtain ⟨⟨s1, s2, s3, s4, s5, s6⟩, t1, t2, t3, t4, t5, t6⟩ := hSw; go_simp; try with_reducible rfl)
      (try simp only [z1, z2, z3]); (try simp only [Act.put, z4, z5, z6])
      refine zT 10 (v := ?_) rfl ?_ ?_
      rotate_left 1
      · (intro w0 hSw; (try dsimp only at hSw); obtain ⟨⟨s1, s2, s3, s4, s5, s6⟩, t1, t2, t3, t4, t5, t6⟩ := hSw; go_simp; try with_reducible rfl)
      (try simp only [z1, z2, z3]); (try simp only [Act.put, z4, z5, z6])
      refine zT 11 (v := ?_) rfl ?_ ?_
      rotate_left 1
      · (intro w0 hSw; (try dsimp only at hSw); obtain ⟨⟨s1, s2, s3, s4, s5, s6⟩, t1, t2, t3, t4, t5, t6⟩ := hSw; go_simp; try with_reducible rfl)
      (try simp only [z1, z2, z3]); (try simp only [Act.put, z4, z5, z6])
      refine zT 12 (v := ?_) rfl ?_ ?_
      rotate_left 1
      · (intro w0 hSw; (try dsimp only at hSw); obtain ⟨⟨s1, s2, s3, s4, s5, s6⟩, t1, t2, t3, t4, t5, t6⟩ := hSw; go_simp; try with_reducible rfl)
      (try simp only [z1, z2, z3]); (try simp only [Act.put, z4, z5, z6])
      refine zT 13 (v := ?_) rfl ?_ ?_
      rotate_left 1
      · (intro w0 hSw; (try dsimp only at hSw); obtain ⟨⟨s1, s2, s3, s4, s5, s6⟩, t1, t2, t3, t4, t5, t6⟩ := hSw; go_simp; try with_reducible rfl)
      (try simp only [z1, z2, z3]); (try simp only [Act.put, z4, z5, z6])
      refine zT 14 (v := ?_) rfl ?_ ?_
      rotate_left 1
      · (intro w0 hSw; (try dsimp only at hSw); obtain ⟨⟨s1, s2, s3, s4, s5, s6⟩, t1, t2, t3, t4, t5, t6⟩ := hSw; go_simp; try with_reducible rfl)
      (try simp only [z1, z2, z3]); (try simp only [Act.put, z4, z5, z6])
      refine zT 15 (v := ?_) rfl ?_ ?_
      rotate_left 1
      · (intro w0 hSw; (try dsimp only at hSw); obtain ⟨⟨s1, s2, s3, s4, s5, s6⟩, t1, t2, t3, t4, t5, t6⟩ := hSw; go_simp; try with_reducible rfl)
      (try simp only [z1, z2, z3]); (try simp only [Act.put, z4, z5, z6])
      refine zT 16 (v := ?_) rfl ?_ ?_
      rotate_left 1
      · (intro w0 hSw; (try dsimp only at hSw); obtain ⟨⟨s1, s2, s3, s4, s5, s6⟩, t1, t2, t3, t4, t5, t6⟩ := hSw; go_simp; try with_reducible rfl)
      (try simp only [z1, z2, z3]); (try simp only [Act.put, z4, z5, z6])
      refine zT 17 (v := ?_) rfl ?_ ?_
      rotate_left 1
      · (intro w0 hSw; (try dsimp only at hSw); obtain ⟨⟨s1, s2, s3, s4, s5, s6⟩, t1, t2, t3, t4, t5, t6⟩ := hSw; go_simp; try with_reducible rfl)
      (try simp only [z1, z2, z3]); (try simp only [Act.put, z4, z5, z6])
      refine zT 18 (v := ?_) rfl ?_ ?_
      rotate_left 1
      · (intro w0 hSw; (try dsimp only at hSw); obtain ⟨⟨s1, s2, s3, s4, s5, s6⟩, t1, t2, t3, t4, t5, t6⟩ := hSw; go_simp; try with_reducible rfl)
      (try simp only [z1, z2, z3]); (try simp only [Act.put, z4, z5, z6])
      refine zT 19 (v := ?_) rfl ?_ ?_
      rotate_left 1
      · (intro w0 hSw; (try dsimp only at hSw); obtain ⟨⟨s1, s2, s3, s4, s5, s6⟩, t1, t2, t3, t4, t5, t6⟩ := hSw; go_simp; try with_reducible rfl)
      (try simp only [z1, z2, z3]); (try simp only [Act.put, z4, z5, z6])
      refine zT 20 (v := ?_) rfl ?_ ?_
      rotate_left 1
      · (intro w0 hSw; (try dsimp only at hSw); obtain ⟨⟨s1, s2, s3, s4, s5, s6⟩, t1, t2, t3, t4, t5, t6⟩ := hSw; go_simp; try with_reducible rfl)
      (try simp only [z1, z2, z3]); (try simp only [Act.put, z4, z5, z6])
      refine zT 21 (v := ?_) rfl ?_ ?_
      rotate_left 1
      · (intro w0 hSw; (try dsimp only at hSw); obtain ⟨⟨s1, s2, s3, s4, s5, s6⟩, t1, t2, t3, t4, t5, t6⟩ := hSw; go_simp; try with_reducible rfl)
      (try simp only [z1, z2, z3]); (try simp only [Act.put, z4, z5, z6])
      refine zT 22 (v := ?_) rfl ?_ ?_
      rotate_left 1
      · (intro w0 hSw; (try dsimp only at hSw); obtain ⟨⟨s1, s2, s3, s4, s5, s6⟩, t1, t2, t3, t4, t5, t6⟩ := hSw; go_simp; try with_reducible rfl)
      (try simp only [z1, z2, z3]); (try simp only [Act.put, z4, z5, z6])
      refine wpAnyH_done (by kernel_rfl) ?_ _
      refine NoPanic.normal ?_
      have fin : Hid (Below w.heap.size w w') := BH.out.drew.trans (BB.mono BH.out.size)
      clear BB BH CH x1 x2 x3 x4 x5 x6 y1 y2 y3 y4 y5 y6 hHeld
      go_wp2_with fail
      exact ⟨⟨i + 1, by first | rfl | simp, by omega, fin⟩, by simp [intOf]; omega⟩
    · have iI : ¬ (i : Int) < (n : Int) := by omega
      go_wp2_with fail
      go_ret
      exact ⟨rfl, BH.out⟩
end Go.Proofs.YtpbcbpiolhjlhaaGreatDoor


namespace Go.Proofs.YtpbcbpiolhjlhaaGreatDoor
open Go.RowKit _root_.Go.Proofs.YtpbcbpiolhjlhaaGreatDoor.So
set_option linter.unusedVariables false
set_option linter.unusedSimpArgs false
theorem step_append_runB {P : Program} {ops : Array Oper} {o : Oper} {a : Act} {w : World} {K : Act → World → Prop} {Q : Exit → Act → World → Prop} {E : Prop}
    (hg : o.guard = none) (s x : Operand) (t : TypeId) (hop : o.op = Op.call { callee := Callee.builtin Builtin.append, args := #[s, x], argTypes := #[t, t] })
    (v y v' : Value) (w' : World) (hs : a.eval s = v) (hx : a.eval x = y) (hr : (Builtin.append_ #[t, t] o.type #[v, y]).run P w = .ok v' w') (hK : K (a.put o.dst v') w') :
    if Region.wanted o (yielded ops a.tmps) = true then Oper.wp P o a w K Q else E := by
  have hw : Region.wanted o (yielded ops a.tmps) = true := by simp [Region.wanted, hg]
  rw [if_pos hw]
  unfold Oper.wp execOp
  simp only [hop, resolve, invoke, builtin, Sem.run_bind, Sem.run_pure, Result.andThen_ok, List.map_toArray, List.map_cons, List.map_nil, hs, hx, hr]
  exact hK
def markW : WrP := ⟨⟨⟨#[109, 97, 114, 107]⟩, [], ⟨#[]⟩⟩, 0, 0, 0⟩
/-- writes in memory of their own, a marked one behind them. -/
def KpR (w : World) (g c : Nat) (l : List WrP) : Prop := l.length + 1 ≤ c ∧ WIn w (some ⟨g, 0, none⟩) (l ++ [markW])
theorem KpR.below {w w' : World} {g c : Nat} {l : List WrP} (h : KpR w g c l) (hB : Below w.heap.size w w') : KpR w' g c l := ⟨h.1, h.2.below hB⟩
theorem KpR.win {w : World} {g c : Nat} {l : List WrP} (h : KpR w g c l) : WIn w (some ⟨g, 0, none⟩) l := by
  have := (h.2.cut (n := 0) l.length).1
  rwa [List.take_left] at this
theorem KpR.mark {w : World} {g c : Nat} {l : List WrP} (h : KpR w g c l) : g < w.heap.size ∧ w.cell? ⟨g, l.length * 6, none⟩ = some (.string ⟨#[109, 97, 114, 107]⟩) := by
  rcases h.2 with h0 | ⟨b, off, e, hb, hc⟩
  · simp at h0
  · injection e with e
    injection e with e1 e2
    subst e1 e2
    obtain ⟨ta, tc, h1, _⟩ := hc l.length markW (by simp)
    rw [Nat.zero_add] at h1
    exact ⟨hb, h1.1⟩
/-- what stands while they are laid. -/
structure WtS (w : World) (l : List WrP) (i : Nat) (v : Value) (L : List WrA) (wr : World) : Prop where
  bl : Below w.heap.size w wr
  row : OW2 wr w.heap.size v L
  is : L.map (·.1) = l.take i
  il : i ≤ l.length
theorem WtS.app {w wr : World} {l : List WrP} {i : Nat} {a3 : Option Addr} {z c3 : Nat} {L : List WrA} (h : WtS w l i (.slice a3 z c3) L wr) (x : WrP) (w' : World) (a' : Option Addr) (c' : Nat) (tg : SerIn w' a' x.s) (fr : x.s.t ≠ [] → ∀ ad, a' = some ad → wr.heap.size ≤ ad.block) (BB : Below wr.heap.size wr w') (hn : l.length ≤ 1099511627775) :
    ∃ a4 c4 w6, (∀ W N, W = w'.alloc (.cells #[.string x.s.m, .slice a' x.s.t.length c', .string x.s.f, .int .i64 x.tm, .int .u8 (x.kd : Int), .int .i64 x.n] 76) → N = w'.heap.size → (Builtin.append_ #[23, 23] 23 #[.slice a3 z c3, .slice (some ⟨N, 0, none⟩) 1 1]).run Tryz.prog W = .ok (.slice a4 (z + 1) c4) w6) ∧ OW2 w6 w.heap.size (.slice a4 (z + 1) c4) (L ++ [(x, a', c')]) ∧ Below w.heap.size w w6 := by
  have lz : L.length = z := by
    obtain ⟨_, _, e, _⟩ := h.row.1.win
    injection e with _ e _
    exact e.symm
  have li : L.length ≤ l.length := by rw [← List.length_map (f := (·.1)), h.is, List.length_take]; omega
  have B' := h.bl.trans (BB.mono h.bl.size)
  obtain ⟨a4, c4, w6, q1, q2, q3⟩ := app2W w' w.heap.size (.slice a3 z c3) L (h.row.below BB) B'.size (x, a', c') tg (fun he ad had e => by
    have h1 := (World.ownsRow.lt h.row.1.1 _ e).2
    have h2 := fr he ad had
    omega) (by omega)
  rw [lz] at q1 q2
  exact ⟨a4, c4, w6, fun W N e e' => by subst e; subst e'; exact q1, q2, B'.trans (q3.mono (Nat.le_refl _))⟩
set_option maxRecDepth 100000 in
set_option maxHeartbeats 16000000 in
theorem writes_any (a : Option Addr) (c : Nat) (l : List WrP) (w : World) (ha : WIn w a l) (hn : l.length ≤ 549755813888) (hts : ∀ x ∈ l, x.s.t.length ≤ 4398046511104) :
    Calls Tryz.prog 4 #[.slice a l.length c] w fun e w' => ∃ g c', e = .returned (.slice (some ⟨g, 0, none⟩) l.length c') ∧ KpR w' g c' l ∧ Below w.heap.size w w' := by
  obtain ⟨n, hn1⟩ : ∃ n, n = l.length := ⟨_, rfl⟩
  have nH : Hid (n = l.length) := hn1
  have hnH : Hid (l.length ≤ 549755813888) := hn
  have htH : Hid (∀ x ∈ l, x.s.t.length ≤ 4398046511104) := hts
  rw [← hn1] at hn ⊢
  have aH : Hid (WIn w a l) := ha
  have S0 : Hid (WtS w l 0 (.slice none 0 0) [] w) := ⟨Below.refl _ _, OW2.nil _ _, by simp, Nat.zero_le _⟩
  clear ha hn1 hts
  go_enter Tryz.func4, Tryz.ntmps4
  go_wp2_with fail
  go_loopw [3, 4] (fun u v wr => ∃ (i : Nat) (a3 : Option Addr) (z c3 : Nat) (L : List WrA), u = .slice a3 z c3 ∧ v = .int .i64 (i : Int) ∧ i ≤ n ∧ Hid (WtS w l i (.slice a3 z c3) L wr)) (fun _ v _ => n - (intOf v).toNat)
  case atStart => exact ⟨0, none, 0, 0, [], rfl, rfl, Nat.zero_le _, S0⟩
  case round =>
    clear S0
    obtain ⟨i, a3, z, c3, L, rfl, rfl, il, hS⟩ := hrel
    have i0 : (0 : Int) ≤ (i : Int) := by omega
    have wi : IntKind.i64.wrap ((i : Int) + 1) = ((i + 1 : Nat) : Int) := IntWalk.i64_in _ (by omega)
    by_cases hi : i < n
    · have iI : (i : Int) < (n : Int) := by omega
      have hiL : Hid (i < l.length) := by rw [← nH.out]; exact hi
      obtain ⟨b, off, tx, cx, e1, hbx, ax, fx⟩ := aH.out.at hS.out.bl (atW_some hiL.out)
      subst e1
      have hx3 := htH.out (atW l i) (List.mem_of_getElem? (atW_some hiL.out))
      have CH : Hid (∀ W', Below w.heap.size w W' → Calls Tryz.prog 14 #[.agg #[.string (atW l i).s.m, .slice tx (atW l i).s.t.length cx, .string (atW l i).s.f]] W' fun e w' => ∃ a' c', e = .returned (.agg #[.string (atW l i).s.m, .slice a' (atW l i).s.t.length c', .string (atW l i).s.f]) ∧ TgIn w' a' (atW l i).s.t ∧ (∀ ad, a' = some ad → W'.heap.size ≤ ad.block) ∧ Below W'.heap.size W' w') := fun W' hW' => copySeries_any tx cx (atW l i).s W' (fx W' hW').2 hx3
      have fA : Hid (∀ (w' : World) (a' : Option Addr) (c' : Nat), TgIn w' a' (atW l i).s.t → (∀ ad, a' = some ad → wr.drew.heap.size ≤ ad.block) → Below wr.drew.heap.size wr.drew w' → ∃ a4 c4 w6, (∀ W N, W = w'.alloc (.cells #[.string (atW l i).s.m, .slice a' (atW l i).s.t.length c', .string (atW l i).s.f, .int .i64 (atW l i).tm, .int .u8 ((atW l i).kd : Int), .int .i64 (atW l i).n] 76) → N = w'.heap.size → (Builtin.append_ #[23, 23] 23 #[.slice a3 z c3, .slice (some ⟨N, 0, none⟩) 1 1]).run Tryz.prog W = .ok (.slice a4 (z + 1) c4) w6) ∧ WtS w l (i + 1) (.slice a4 (z + 1) c4) (L ++ [(atW l i, a', c')]) w6 ∧ WAt w6 b (off + i * 6) (atW l i) tx cx ∧ (∀ o, WAt (w'.alloc o) b (off + i * 6) (atW l i) tx cx)) := fun w' a' c' tg fr BB => by
        have bd : Below wr.heap.size wr w' := (show Below wr.heap.size wr wr.drew from (Below.refl _ wr).drew).trans BB
        have B' := hS.out.bl.trans (bd.mono hS.out.bl.size)
        obtain ⟨a4, c4, w6, q1, q2, q3⟩ := hS.out.app (atW l i) w' a' c' ⟨tg, (fx w' B').2.2⟩ (fun _ ad had => fr ad had) bd (by have := hnH.out; omega)
        refine ⟨a4, c4, w6, q1, ⟨q3, q2, ?_, hiL.out⟩, (fx w6 q3).1, fun o => (fx _ (B'.trans ((Below.refl _ w').alloc B'.size o))).1⟩
        rw [List.map_append, hS.out.is, List.take_add_one, atW_some hiL.out]; rfl
      have BH : Hid (Below w.heap.size w wr) := hS.out.bl
      have bl : b < wr.heap.size := Nat.lt_of_lt_of_le hbx hS.out.bl.size
      clear fx hx3 hbx hS
      unfold WAt at ax fA
      have atH : Hid (∃ y, y = atW l i) := ⟨_, rfl⟩
      obtain ⟨x, hx⟩ := atH.out
      have hxH : Hid (x = atW l i) := hx
      rw [← hx] at ax CH fA
      clear hx atH
      generalize x.s.t.length = nx at ax CH fA
      obtain ⟨x1, x2, x3, x4, x5, x6⟩ := ax
      go_wp2_with fail
      refine wp_region_noPanic ?_
      refine wp_region_held_drew (S := fun W => W.cell? ⟨b, off + i * 6, none⟩ = some (.string x.s.m) ∧ W.cell? ⟨b, off + i * 6 + 1, none⟩ = some (.slice tx nx cx) ∧ W.cell? ⟨b, off + i * 6 + 2, none⟩ = some (.string x.s.f) ∧ W.cell? ⟨b, off + i * 6 + 3, none⟩ = some (.int .i64 x.tm) ∧ W.cell? ⟨b, off + i * 6 + 4, none⟩ = some (.int .u8 (x.kd : Int)) ∧ W.cell? ⟨b, off + i * 6 + 5, none⟩ = some (.int .i64 x.n)) (by kernel_rfl) ⟨x1, x2, x3, x4, x5, x6⟩ (fun hHeld => ?_)
      refine zT 0 (v := ?_) rfl ?_ ?_
      rotate_left 1
      · (intro w0 hSw; (try dsimp only at hSw); obtain ⟨s1, s2, s3, s4, s5, s6⟩ := hSw; go_simp; try with_reducible rfl)
      (try simp only [z1, z2, z3]); (try simp only [Act.put, z4, z5, z6])
      refine zT 1 (v := ?_) rfl ?_ ?_
      rotate_left 1
      · (intro w0 hSw; (try dsimp only at hSw); obtain ⟨s1, s2, s3, s4, s5, s6⟩ := hSw; go_simp; try with_reducible rfl)
      (try simp only [z1, z2, z3]); (try simp only [Act.put, z4, z5, z6])
      refine zT 2 (v := ?_) rfl ?_ ?_
      rotate_left 1
      · (intro w0 hSw; (try dsimp only at hSw); obtain ⟨s1, s2, s3, s4, s5, s6⟩ := hSw; go_simp; try with_reducible rfl)
      (try simp only [z1, z2, z3]); (try simp only [Act.put, z4, z5, z6])
      refine zT 3 (v := ?_) rfl ?_ ?_
      rotate_left 1
      · (intro w0 hSw; (try dsimp only at hSw); obtain ⟨s1, s2, s3, s4, s5, s6⟩ := hSw; go_simp; try with_reducible rfl)
      (try simp only [z1, z2, z3]); (try simp only [Act.put, z4, z5, z6])
      refine zT 4 (v := ?_) rfl ?_ ?_
      rotate_left 1
      · (intro w0 hSw; (try dsimp only at hSw); obtain ⟨s1, s2, s3, s4, s5, s6⟩ := hSw; go_simp; try with_reducible rfl)
      (try simp only [z1, z2, z3]); (try simp only [Act.put, z4, z5, z6])
      refine zT 5 (v := ?_) rfl ?_ ?_
      rotate_left 1
      · (intro w0 hSw; (try dsimp only at hSw); obtain ⟨s1, s2, s3, s4, s5, s6⟩ := hSw; go_simp; try with_reducible rfl)
      (try simp only [z1, z2, z3]); (try simp only [Act.put, z4, z5, z6])
      refine zT 7 (v := ?_) rfl ?_ ?_
      rotate_left 1
      · (intro w0 hSw; (try dsimp only at hSw); obtain ⟨s1, s2, s3, s4, s5, s6⟩ := hSw; go_simp; try with_reducible rfl)
      (try simp only [z1, z2, z3]); (try simp only [Act.put, z4, z5, z6])
      refine zT 8 (v := ?_) rfl ?_ ?_
      rotate_left 1
      · (intro w0 hSw; (try dsimp only at hSw); obtain ⟨s1, s2, s3, s4, s5, s6⟩ := hSw; go_simp; try with_reducible rfl)
      (try simp only [z1, z2, z3]); (try simp only [Act.put, z4, z5, z6])
      refine zT 9 (v := ?_) rfl ?_ ?_
      rotate_left 1
      · (intro w0 hSw; (try dsimp only at hSw); obtain ⟨s1, s2, s3, s4, s5, s6⟩ := hSw; go_simp; try with_reducible rfl)
      (try simp only [z1, z2, z3]); (try simp only [Act.put, z4, z5, z6])
      refine zT 10 (v := ?_) rfl ?_ ?_
      rotate_left 1
      · (intro w0 hSw; (try dsimp only at hSw); obtain ⟨s1, s2, s3, s4, s5, s6⟩ := hSw; go_simp; try with_reducible rfl)
      (try simp only [z1, z2, z3]); (try simp only [Act.put, z4, z5, z6])
      refine zT 11 (v := ?_) rfl ?_ ?_
      rotate_left 1
      · (intro w0 hSw; (try dsimp only at hSw); obtain ⟨s1, s2, s3, s4, s5, s6⟩ := hSw; go_simp; try with_reducible rfl)
      (try simp only [z1, z2, z3]); (try simp only [Act.put, z4, z5, z6])
      refine wpAnyH_ready (rs := [6]) (by kernel_rfl) (by simp) ?_
      refine AllReadyH.cons (o := _) rfl (fun K hK => ?_) AllReadyH.nil
      go_simp
      refine Calls.mono (CH.out _ (show Below w.heap.size w wr.drew from BH.out.drew)) ?_
      rintro e w' ⟨a', c', rfl, tg, fr, BB⟩
      obtain ⟨a4, c4, w6, q1, q2, q3, q4⟩ := fA.out w' a' c' tg fr BB
      have S6 : Hid (WtS w l (i + 1) (.slice a4 (z + 1) c4) (L ++ [(x, a', c')]) w6) := q2
      have rH : Hid (∀ W N, W = w'.alloc (.cells #[.string x.s.m, .slice a' nx c', .string x.s.f, .int .i64 x.tm, .int .u8 (x.kd : Int), .int .i64 x.n] 76) → N = w'.heap.size → (Builtin.append_ #[23, 23] 23 #[.slice a3 z c3, .slice (some ⟨N, 0, none⟩) 1 1]).run Tryz.prog W = .ok (.slice a4 (z + 1) c4) w6) := q1
      have sA := q4
      have sB : w6.cell? ⟨b, off + i * 6, none⟩ = some (.string x.s.m) ∧ w6.cell? ⟨b, off + i * 6 + 1, none⟩ = some (.slice tx nx cx) ∧ w6.cell? ⟨b, off + i * 6 + 2, none⟩ = some (.string x.s.f) ∧ w6.cell? ⟨b, off + i * 6 + 3, none⟩ = some (.int .i64 x.tm) ∧ w6.cell? ⟨b, off + i * 6 + 4, none⟩ = some (.int .u8 (x.kd : Int)) ∧ w6.cell? ⟨b, off + i * 6 + 5, none⟩ = some (.int .i64 x.n) := q3
      clear q1 q2 q3 q4 tg fr
      try dsimp only
      refine hK _ _ ⟨by rw [BB.cell (p := ⟨b, off + i * 6, none⟩) bl]; exact x1, by rw [BB.cell (p := ⟨b, off + i * 6 + 1, none⟩) bl]; exact x2, by rw [BB.cell (p := ⟨b, off + i * 6 + 2, none⟩) bl]; exact x3, by rw [BB.cell (p := ⟨b, off + i * 6 + 3, none⟩) bl]; exact x4, by rw [BB.cell (p := ⟨b, off + i * 6 + 4, none⟩) bl]; exact x5, by rw [BB.cell (p := ⟨b, off + i * 6 + 5, none⟩) bl]; exact x6⟩ (fun hHeld => ?_)
      clear hK K
      (try simp only [z1, z2, z3]); (try simp only [Act.put, z4, z5, z6])
      refine zT 12 (v := ?_) rfl ?_ ?_
      rotate_left 1
      · (intro w0 hSw; (try dsimp only at hSw); obtain ⟨s1, s2, s3, s4, s5, s6⟩ := hSw; go_simp; try with_reducible rfl)
      (try simp only [z1, z2, z3]); (try simp only [Act.put, z4, z5, z6])
      refine wpAnyH_ready (rs := [13]) (by kernel_rfl) (by simp) ?_
      refine AllReadyH.cons (o := _) rfl (fun K hK => ?_) AllReadyH.nil
      go_simp
      try dsimp only
      refine hK _ _ (sA _) (fun hHeld => ?_)
      clear hK K
      (try simp only [z1, z2, z3]); (try simp only [Act.put, z4, z5, z6])
      refine wpAnyH_ready (rs := [14]) (by kernel_rfl) (by simp) ?_
      refine AllReadyH.cons (o := _) rfl (fun K hK => ?_) AllReadyH.nil
      refine step_append_runB rfl (.tmp 11) (.tmp 24) 23 rfl _ _ _ _ rfl rfl (rH.out _ _ rfl rfl) ?_
      refine hK _ _ sB (fun hHeld => ?_)
      clear hK K
      (try simp only [z1, z2, z3]); (try simp only [Act.put, z4, z5, z6])
      refine zT 15 (v := ?_) rfl ?_ ?_
      rotate_left 1
      · (intro w0 hSw; (try dsimp only at hSw); obtain ⟨s1, s2, s3, s4, s5, s6⟩ := hSw; go_simp; try with_reducible rfl)
      (try simp only [z1, z2, z3]); (try simp only [Act.put, z4, z5, z6])
      refine wpAnyH_done (by kernel_rfl) ?_ _
      refine NoPanic.normal ?_
      clear BB BH CH fA rH sA sB x1 x2 x3 x4 x5 x6 hHeld
      go_wp2_with fail
      exact ⟨⟨i + 1, a4, z + 1, c4, _, rfl, by first | rfl | simp, by omega, S6⟩, by simp [intOf]; omega⟩
    · have iI : ¬ (i : Int) < (n : Int) := by omega
      obtain rfl : i = n := by omega
      obtain ⟨a4, c4, w6, q1, q2, q3⟩ := hS.out.app markW wr none 0 ⟨Or.inl rfl, by decide⟩ (fun he => absurd rfl he) (Below.refl _ _) (by have := hnH.out; omega)
      have lz : z = i := by
        obtain ⟨_, _, e, _⟩ := hS.out.row.1.win
        injection e with _ e _
        rw [e, ← List.length_map (f := (·.1)), hS.out.is, List.length_take, ← nH.out]; exact Nat.min_self _
      subst lz
      obtain ⟨a5, c5, e5, h5, w5⟩ := q2.slice
      injection e5 with e6 e7 e8
      subst e6 e8
      have hw5 : WIn w6 a4 (l ++ [markW]) := by
        rw [List.map_append, hS.out.is, nH.out, List.take_length] at w5; exact w5
      obtain ⟨g, rfl⟩ : ∃ g, a4 = some ⟨g, 0, none⟩ := by
        rcases World.ownsRow.form q2.1.1 (by simp) with ⟨g, cap, e, _⟩
        injection e with e1 _ _
        exact ⟨g, e1⟩
      have hc5 : z + 1 ≤ c4 := by omega
      have fin : Hid (KpR w6 g c4 l ∧ Below w.heap.size w w6) := ⟨⟨by rw [← nH.out]; exact hc5, hw5⟩, q3⟩
      have rH : Hid (∀ W N, W = wr.alloc (.cells #[.string ⟨#[109, 97, 114, 107]⟩, .slice none 0 0, .string ⟨#[]⟩, .int .i64 0, .int .u8 0, .int .i64 0] 76) → N = wr.heap.size → (Builtin.append_ #[23, 23] 23 #[.slice a3 z c3, .slice (some ⟨N, 0, none⟩) 1 1]).run Tryz.prog W = .ok (.slice (some ⟨g, 0, none⟩) (z + 1) c4) w6) := q1
      have zc : (z : Int) ≤ (c4 : Int) := by omega
      clear q1 q2 q3 hS e7 h5 w5 hw5
      go_wp2_with (at_builtin; refine wpList_append_runB (by rfl) _ _ _ (by rfl) _ _ _ _ (by rfl) (by rfl) (rH.out _ _ (by first | rfl | simp) (by first | rfl | simp)) ?_)
      go_ret
      exact ⟨g, c4, rfl, fin.out⟩
set_option maxRecDepth 100000 in
set_option maxHeartbeats 4000000 in
theorem bkept_any (g c : Nat) (a2 : Option Addr) (c2 : Nat) (l : List WrP) (w : World) (hk : KpR w g c l) (hb : WIn w a2 l) (hn : l.length ≤ 549755813888) :
    Calls Tryz.prog 13 #[.slice (some ⟨g, 0, none⟩) l.length c, .slice a2 l.length c2] w fun e w' => e = .returned (.bool true) ∧ Below w.heap.size w w' := by
  have C1 : Hid (Calls Tryz.prog 59 #[.slice (some ⟨g, 0, none⟩) l.length c, .slice a2 l.length c2] w fun e w' => e = .returned (.bool true) ∧ Below w.heap.size w w') := sameWrites_true _ _ c c2 l w hk.win hb (by omega)
  have mk := hk.mark
  have hc := hk.1
  clear hk hb
  generalize l.length = n at *
  have mH : Hid (∀ W, Below w.heap.size w W → W.cell? ⟨g, n * 6, none⟩ = some (.string ⟨#[109, 97, 114, 107]⟩)) := fun W hW => by rw [hW.cell (p := ⟨g, n * 6, none⟩) mk.1]; exact mk.2
  have k1 : (n : Int) + 1 ≤ (c : Int) := by omega
  have k2 : (0 : Int) ≤ (n : Int) + 1 := by omega
  have k3 : -9223372036854775808 ≤ (n : Int) + 1 ∧ (n : Int) + 1 ≤ 9223372036854775807 := by omega
  have k4 : (n : Int) < (n : Int) + 1 := by omega
  have k5 : (0 : Int) ≤ (n : Int) := by omega
  have wk : wrap64 ((n : Int) + 1) = (n : Int) + 1 := IntWalk.wrap64_in _ k3
  have wi : IntKind.i64.wrap ((n : Int) + 1) = (n : Int) + 1 := IntWalk.i64_in _ k3
  clear k3
  clear mk
  go_enter Tryz.func13, Tryz.ntmps13
  go_wp2_with fail
  refine Calls.mono C1.out ?_
  rintro e w1 ⟨rfl, b1⟩
  have b1H : Hid (Below w.heap.size w w1) := b1
  have m1 := mH.out w1 b1
  clear b1 C1 mH
  go_wp2_with fail
  go_ret
  exact ⟨rfl, b1H.out⟩
end Go.Proofs.YtpbcbpiolhjlhaaGreatDoor


namespace Go.Proofs.YtpbcbpiolhjlhaaGreatDoor.So.Wr
open Go.RowKit
set_option linter.unusedVariables false
set_option linter.unusedSimpArgs false
theorem nums6 (z i : Nat) (h : z ≤ i) (hi : i ≤ 549755813888) : IntKind.i64.wrap (((z + 1 : Nat) : Int) - 1) = (z : Int) ∧ IntKind.i64.wrap ((z : Int) + 1 - 1) = (z : Int) ∧ wrap64 (z : Int) = (z : Int) ∧ (0 : Int) ≤ (z : Int) ∧ (z : Int) < ((z + 1 : Nat) : Int) ∧ (z : Int) < (z : Int) + 1 := by
  refine ⟨?_, ?_, IntWalk.wrap64_in _ (by omega), by omega, by omega, by omega⟩
  · rw [show ((z + 1 : Nat) : Int) - 1 = (z : Int) by omega]; exact IntWalk.i64_in _ (by omega)
  · rw [show (z : Int) + 1 - 1 = (z : Int) by omega]; exact IntWalk.i64_in _ (by omega)
/-- the loop, behind sorted: S in order. -/
def Srt6 (w3 : World) (g : Nat) (S : List WrA) : Prop := g < w3.heap.size ∧ ∀ i t, S[i]? = some t → WAt w3 g (i * 6) t.1 t.2.1 t.2.2 ∧ SerIn w3 t.2.1 t.1.s ∧ t.1.s.t.length ≤ 4398046511104
end Go.Proofs.YtpbcbpiolhjlhaaGreatDoor.So.Wr
