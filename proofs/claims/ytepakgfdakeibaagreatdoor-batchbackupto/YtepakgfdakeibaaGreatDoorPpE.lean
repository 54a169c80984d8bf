
import Derived.Test.YtepakgfdakeibaaGreatDoorPpC
import Derived.Test.YtepakgfdakeibaaGreatDoorPoJq
import Derived.BigQuiet
import Derived.Test.YtepakgfdakeibaaGreatDoorBhMp
import Derived.Test.YtepakgfdakeibaaGreatDoorBdC
import Derived.Test.YtepakgfdakeibaaGreatDoorKyB
import Derived.ProofKit
import Derived.OpenShut
import Derived.Deep.SlicePairs
import Derived.Lib.SmallJoins
import Derived.Test.YtepakgfdakeibaaGreatDoorRows
import Derived.Test.YtepakgfdakeibaaGreatDoorBdBp
namespace Go.Proofs.YtepakgfdakeibaaGreatDoor.So.Wr
open Go.RowKit
set_option linter.unusedVariables false
set_option linter.unusedSimpArgs false
/-- the three boxes of a round: the sample, the point, the field. -/
structure BX (K : Nat) (x : WrP) (tx : Option Addr) (nx cx : Nat) (W : World) : Prop where
  kl : K + 1 + 1 < W.heap.size
  w0 : W.cell? ⟨K, 0, none⟩ = some (.string x.s.m)
  w1 : W.cell? ⟨K, 1, none⟩ = some (.slice tx nx cx)
  w2 : W.cell? ⟨K, 2, none⟩ = some (.string x.s.f)
  p0 : W.cell? ⟨K + 1, 0, none⟩ = some (.string x.s.m)
  p1 : W.cell? ⟨K + 1, 1, none⟩ = some (.slice tx nx cx)
  p2 : W.cell? ⟨K + 1, 2, none⟩ = some (.slice none 0 0)
  p3 : W.cell? ⟨K + 1, 3, none⟩ = some (.int .i64 x.tm)
  z1 : W.frozen? ⟨K + 1, 1, none⟩ = false
  z2 : W.frozen? ⟨K + 1, 2, none⟩ = false
  f0 : W.cell? ⟨K + 1 + 1, 0, none⟩ = some (.string x.s.f)
  f1 : W.cell? ⟨K + 1 + 1, 1, none⟩ = some (.int .i64 x.n)
theorem BX.kept {K : Nat} {x : WrP} {tx : Option Addr} {nx cx : Nat} {W W' : World} (h : BX K x tx nx cx W) (hs : W.heap.size ≤ W'.heap.size) (hb : ∀ k, k < W.heap.size → k = K ∨ k = K + 1 ∨ k = K + 1 + 1 → W'.heap[k]? = W.heap[k]?) : BX K x tx nx cx W' := by
  have a := h.kl
  have k0 := hb K (by omega) (Or.inl rfl)
  have k1 := hb (K + 1) (by omega) (Or.inr (Or.inl rfl))
  have k2 := hb (K + 1 + 1) (by omega) (Or.inr (Or.inr rfl))
  have c : ∀ (b o : Nat), W'.heap[b]? = W.heap[b]? → W'.cell? ⟨b, o, none⟩ = W.cell? ⟨b, o, none⟩ := fun b o e => World.cell?_of_block (w := W) (a := ⟨b, o, none⟩) e
  have z : ∀ (b o : Nat), W'.heap[b]? = W.heap[b]? → W'.frozen? ⟨b, o, none⟩ = W.frozen? ⟨b, o, none⟩ := fun b o e => by simp [World.frozen?, e]
  exact ⟨by omega, by rw [c _ _ k0]; exact h.w0, by rw [c _ _ k0]; exact h.w1, by rw [c _ _ k0]; exact h.w2, by rw [c _ _ k1]; exact h.p0, by rw [c _ _ k1]; exact h.p1, by rw [c _ _ k1]; exact h.p2, by rw [c _ _ k1]; exact h.p3, by rw [z _ _ k1]; exact h.z1, by rw [z _ _ k1]; exact h.z2, by rw [c _ _ k2]; exact h.f0, by rw [c _ _ k2]; exact h.f1⟩
theorem BX.below {K : Nat} {x : WrP} {tx : Option Addr} {nx cx : Nat} {W W' : World} (h : BX K x tx nx cx W) (hb : Below W.heap.size W W') : BX K x tx nx cx W' := h.kept hb.size fun k hk _ => hb.block k hk
/-- while the place is looked for. -/
structure DI (w3 : World) (K : Nat) (x : WrP) (tx : Option Addr) (nx cx : Nat) (v : Value) (L : List PtA) (W : World) : Prop where
  pg : PG W w3.heap.size v L
  bl : Below w3.heap.size w3 W
  bx : BX K x tx nx cx W
  kB : w3.heap.size ≤ K
  rK : ∀ k, v.ownBlock = some k → k < K
  fK : ∀ u ∈ L, ∀ k, fbk u = some k → k < K
  tK : ∀ u ∈ L, ∀ k, tbk u = some k → k < K
  nx : x.s.t.length = nx
  ts : TgIn w3 tx x.s.t
theorem DI.below {w3 : World} {K : Nat} {x : WrP} {tx : Option Addr} {nx cx : Nat} {v : Value} {L : List PtA} {W W' : World} (h : DI w3 K x tx nx cx v L W) (hb : Below W.heap.size W W') : DI w3 K x tx nx cx v L W' := ⟨h.pg.below hb, h.bl.trans (hb.mono h.bl.size), h.bx.below hb, h.kB, h.rK, h.fK, h.tK, h.nx, h.ts⟩
/-- the field goes in at a point. -/
theorem DI.field {w3 : World} {K : Nat} {x : WrP} {tx : Option Addr} {nx cx g n cap i : Nat} {L : List PtA} {u : PtA} {W : World} (s : DI w3 K x tx nx cx (.slice (some ⟨g, 0, none⟩) n cap) L W) (hi : L[i]? = some u) (hn : u.1.f.length + 1 ≤ 4398046511104) :
    ∃ (fa : Option Addr) (fn fc : Nat) (a : Option Addr) (c : Nat) (w' : World), W.cell? ⟨g, i * 4 + 2, none⟩ = some (.slice fa fn fc) ∧ (Builtin.append_ #[39, 39] 39 #[.slice fa fn fc, .slice (some ⟨W.heap.size, 0, none⟩) 1 1]).run Tryz.prog (W.alloc (.cells #[.string x.s.f, .int .i64 x.n] 54)) = .ok (.slice a (fn + 1) c) w'
      ∧ PG (w'.setCell ⟨g, i * 4 + 2, none⟩ (.slice a (fn + 1) c)) w3.heap.size (.slice (some ⟨g, 0, none⟩) n cap) (L.set i (addF u (x.s.f, x.n) a c)) ∧ Below w3.heap.size w3 (w'.setCell ⟨g, i * 4 + 2, none⟩ (.slice a (fn + 1) c)) ∧ w'.cell? ⟨g, i * 4 + 2, none⟩ = some (.slice fa fn fc) ∧ w'.frozen? ⟨g, i * 4 + 2, none⟩ = false
      ∧ w'.cell? ⟨K + 1 + 1, 0, none⟩ = some (.string x.s.f) ∧ w'.cell? ⟨K + 1 + 1, 1, none⟩ = some (.int .i64 x.n) ∧ g ≠ K + 1 + 1 := by
  obtain ⟨a, c, w', q1, q2, q3, q4, q5, q6⟩ := s.pg.field s.bl.size hi (x.s.f, x.n) hn
  have hu := List.mem_of_getElem? hi
  have bx2 : BX K x tx nx cx w' := s.bx.kept q6.size fun k hk e => q6.block k hk (fun q => by have := s.fK u hu k q.symm; omega)
  have gk := s.rK g rfl
  exact ⟨u.2.2.1, u.1.f.length, u.2.2.2, a, c, w', (s.pg.at hi).2.2.1, q1, q2, s.bl.trans q3, q4, q5, bx2.f0, bx2.f1, by omega⟩
/-- the new point is ready, and the row one longer. -/
theorem DI.start {w3 : World} {K : Nat} {x : WrP} {tx : Option Addr} {nx cx z c3 : Nat} {a3 : Option Addr} {L : List PtA} {W : World} (s : DI w3 K x tx nx cx (.slice a3 z c3) L W) (a' : Option Addr) (c' : Nat) (ht : TgIn W a' x.s.t) (hnew : ∀ ad, a' = some ad → K + 1 + 1 < ad.block) (hn : L.length + 1 ≤ 1099511627776) (W7 : World) (hW7 : W7 = ((W.setCell ⟨K + 1, 1, none⟩ (.slice a' nx c')).setCell ⟨K + 1, 2, none⟩ (.slice (some ⟨W.heap.size, 0, none⟩) 1 1)).alloc (.cells #[.string x.s.f, .int .i64 x.n] 54)) :
    ∃ g cap w8, (Builtin.append_ #[26, 26] 26 #[.slice a3 z c3, .slice (some ⟨W.heap.size + 1, 0, none⟩) 1 1]).run Tryz.prog (W7.alloc (.cells #[.string ⟨#[]⟩, .slice none 0 0, .slice none 0 0, .int .i64 0] 41)) = .ok (.slice (some ⟨g, 0, none⟩) (z + 1) cap) w8 ∧ IS w3 (K + 1) (⟨x.s.m, x.s.t, [(x.s.f, x.n)], x.tm⟩, (a', c'), (some ⟨W.heap.size, 0, none⟩, 1)) g (z + 1) cap L z w8 := by
  obtain ⟨u, hu⟩ : ∃ u : PtA, u = (⟨x.s.m, x.s.t, [(x.s.f, x.n)], x.tm⟩, (a', c'), (some ⟨W.heap.size, 0, none⟩, 1)) := ⟨_, rfl⟩
  have hnx := s.nx
  have zl : z = L.length := by
    rcases s.pg.row.2 with ⟨e, e0⟩ | ⟨_, _, _, e, _⟩
    · injection e with _ e _; omega
    · injection e with _ e _
  -- only the point's box is another one, and the field's row is new
  have kl := s.bx.kl
  obtain ⟨W6, hW6⟩ : ∃ W6, W6 = (W.setCell ⟨K + 1, 1, none⟩ (.slice a' nx c')).setCell ⟨K + 1, 2, none⟩ (.slice (some ⟨W.heap.size, 0, none⟩) 1 1) := ⟨_, rfl⟩
  have s6 : W6.heap.size = W.heap.size := by rw [hW6]; simp
  have g6 : W.grownBy W6 (some (K + 1)) := by
    have o : OB (K + 1) W W6 := by rw [hW6]; exact (OB.set _ _ _).trans (OB.set _ _ _)
    exact ⟨o.same.1, o.same.2.1, o.same.2.2, o.size, fun k hk hne => o.keep k hk (fun e => hne (by rw [e]))⟩
  have b7 : Below W6.heap.size W6 W7 := by rw [hW7, ← hW6]; exact (Below.refl _ W6).alloc (Nat.le_refl _) _
  have s7 : W7.heap.size = W.heap.size + 1 := by rw [hW7]; simp
  have b07 : Below w3.heap.size w3 W7 := by
    have h6 : Below w3.heap.size w3 W6 := s.bl.trans ((Below.refl _ W).grown g6 s.bl.size (fun k e => by injection e with e; have := s.kB; omega))
    exact h6.trans (b7.mono h6.size)
  have kB := s.kB
  have apK : ∀ {o : Option Nat}, (∀ k, o = some k → k < K) → Ap o (some (K + 1)) := fun h k e q => by injection q with q; have := h k e; omega
  have row6 : W6.ownsRow w3.heap.size 41 4 (.slice a3 z c3) L.length (encP L) := World.ownsRow.kept s.pg.row g6 (by
    cases q : (Value.slice a3 z c3).ownBlock with
    | none => exact Or.inl rfl
    | some k => right; intro e; injection e with e; have := s.rK k q; omega)
  have px6 : PX W6 w3.heap.size (Value.slice a3 z c3).ownBlock L := ⟨fun v hv => (s.pg.px.tg v hv).keep g6 (apK (s.tK v hv)), fun v hv => (s.pg.px.fd v hv).keep g6 (apK (s.fK v hv)), s.pg.px.tr, s.pg.px.fr, s.pg.px.tf, s.pg.px.ff⟩
  have px7 := px6.below b7
  have tU : ∀ k, tbk u = some k → K + 1 + 1 < k ∧ k < W.heap.size := fun k e => by
    have h1 : TgIn W u.2.1.1 u.1.t := by rw [hu]; exact ht
    refine ⟨?_, tbk_lt h1 e⟩
    rw [hu] at e
    unfold tbk at e
    split at e
    · cases e
    · simp only at e
      cases a' with
      | none => cases e
      | some ad =>
        have : ad.block = k := by simpa using e
        rw [← this]; exact hnew ad rfl
  have fU : fbk u = some W.heap.size := by rw [hu]; rfl
  have tg7 : TgIn W7 u.2.1.1 u.1.t := by
    have h1 : TgIn W u.2.1.1 u.1.t := by rw [hu]; exact ht
    exact (h1.keep g6 (fun k e q => by injection q with q; have := (tU k e).1; omega)).below b7
  have of7 : OF W7 w3.heap.size (fV u) u.1.f := by
    have h := World.ownsRow_lit (e := 54) (size := 2) (base := w3.heap.size) W6 #[.string x.s.f, .int .i64 x.n] 1 (by rw [s6]; exact s.bl.size) (by simp [maxLen]) rfl
    rw [hW7, ← hW6, hu]
    unfold OF fV
    simp only [encF, List.append_nil]
    rw [s6] at h
    exact h
  have pxu : PX W7 w3.heap.size (Value.slice a3 z c3).ownBlock (L ++ [u]) := px7.more u tg7 of7 (fun k e q => by have := (tU k e).1; have := s.rK k q; omega) (fun k e q => by rw [fU] at e; injection e with e; have := s.rK k q; omega) (fun k e q => by rw [fU] at q; injection q with q; have := (tU k e).2; omega) (fun u' hu' => ⟨fun k e q => by have := (tU k e).1; have := s.fK u' hu' k q; omega, fun k e q => by rw [fU] at q; injection q with q; have := s.tK u' hu' k e; omega, fun k e q => by rw [fU] at q; injection q with q; have := s.fK u' hu' k e; omega⟩)
  -- the row one longer
  obtain ⟨W8, hW8⟩ : ∃ W8, W8 = W7.alloc (.cells #[.string ⟨#[]⟩, .slice none 0 0, .slice none 0 0, .int .i64 0] 41) := ⟨_, rfl⟩
  have b8 : Below W7.heap.size W7 W8 := by rw [hW8]; exact (Below.refl _ W7).alloc (Nat.le_refl _) _
  have row8 : W8.ownsRow w3.heap.size 41 4 (.slice a3 z c3) L.length (encP L) := by
    have p6 : PG W6 w3.heap.size (.slice a3 z c3) L := ⟨row6, px6⟩
    exact ((p6.below b7).below b8).row
  obtain ⟨i, i1, i0⟩ := Option.map_eq_some_iff.1 pt_info
  have i2 : i.zero = some (.agg #[.string ⟨#[]⟩, .slice none 0 0, .slice none 0 0, .int .i64 0]) := congrArg (·.1) i0
  have i3 : i.bytes = 72 := congrArg (·.2.1) i0
  have i4 : i.size = 4 := congrArg (·.2.2) i0
  have hml : maxLen = 9223372036854775807 := by decide
  obtain ⟨e0, he0⟩ : ∃ e0 : PtA, e0 = (⟨⟨#[]⟩, [], [], 0⟩, (none, 0), (none, 0)) := ⟨_, rfl⟩
  have sz8 : w3.heap.size ≤ W8.heap.size := Nat.le_trans b07.size b8.size
  obtain ⟨g, cap, w8, hr, own, gr, hat, hlt⟩ := run_append_lies (P := Tryz.prog) W8 26 26 w3.heap.size 41 i (.agg #[.string ⟨#[]⟩, .slice none 0 0, .slice none 0 0, .int .i64 0]) 4 72 Tryz.underlying26 i1 i2 i4 i3 rfl (by omega) (.slice a3 z c3) L.length (encP L) row8 ⟨W7.heap.size, 0, none⟩ 1 1 (encP [e0]) rfl (fun j v hj => by
    rw [hW8]
    rw [he0] at hj
    rcases j with _ | _ | _ | _ | j <;> simp [encP] at hj <;> (try (subst hj; simp [go_sem]))) (encP_one _) (by omega) (by omega) (by omega) sz8 _ rfl
  have rbK : (Value.slice a3 z c3).ownBlock ≠ some (K + 1) := fun e => by have := s.rK _ e; omega
  have kk : w8.heap[K + 1]? = W7.heap[K + 1]? := by
    rw [gr.block (K + 1) (by have := b8.size; omega) (fun e => rbK e.symm)]
    exact b8.block (K + 1) (by omega)
  have cc : ∀ o, w8.cell? ⟨K + 1, o, none⟩ = W7.cell? ⟨K + 1, o, none⟩ := fun o => World.cell?_of_block (w := W7) (a := ⟨K + 1, o, none⟩) kk
  have c7 : ∀ o, W7.cell? ⟨K + 1, o, none⟩ = W6.cell? ⟨K + 1, o, none⟩ := fun o => b7.cell (p := ⟨K + 1, o, none⟩) (by show K + 1 < W6.heap.size; omega)
  have gB : w3.heap.size ≤ g := (World.ownsRow.lt own g rfl).1
  have px8 : PX w8 w3.heap.size (some g) (L ++ [u]) := by
    have p0 := (pxu.below b8).grown gr
    rcases hat with e | e
    · rw [← e]; exact p0
    · have q := (pxu.below b8).moved (k := g) (by omega)
      exact ⟨p0.tg, p0.fd, q.tr, q.fr, q.tf, q.ff⟩
  refine ⟨g, cap, w8, by rw [← hW8, zl]; rw [show W.heap.size + 1 = W7.heap.size from s7.symm]; rw [zl] at hr; exact hr, ?_⟩
  rw [← hu]
  have tz : L.take z = L := by rw [zl]; exact List.take_length
  have dz : L.drop z = [] := by rw [zl]; exact List.drop_length
  refine ⟨⟨e0, by rw [tz, dz]; simp [zl], ?_⟩, px8, b07.trans ((b8.mono b07.size).trans ((Below.refl _ W8).grown gr sz8 (fun k e => (World.ownsRow.lt row8 k e).1))), by have := gr.size; have := b8.size; omega, ?_, ?_, ?_, ?_, ?_⟩
  · rw [tz, dz, encP_append, zl]; exact own
  · rcases hat with e | e
    · intro q; exact rbK (by rw [e, q])
    · have := b8.size; omega
  · rw [cc, c7, hW6, hu, World.cell?_setCell_other _ _ _ _ (by intro e; injection e; omega), World.cell?_setCell_other _ _ _ _ (by intro e; injection e; omega)]; exact s.bx.p0
  · rw [cc, c7, hW6, hu, World.cell?_setCell_other _ _ _ _ (by intro e; injection e; omega), World.cell?_setCell_same _ _ _ s.bx.p1, hnx]
  · rw [cc, c7, hW6, hu]
    refine World.cell?_setCell_same _ _ _ (u := .slice none 0 0) ?_
    rw [World.cell?_setCell_other _ _ _ _ (by intro e; injection e; omega)]; exact s.bx.p2
  · rw [cc, c7, hW6, hu, World.cell?_setCell_other _ _ _ _ (by intro e; injection e; omega), World.cell?_setCell_other _ _ _ _ (by intro e; injection e; omega)]; exact s.bx.p3
end Go.Proofs.YtepakgfdakeibaaGreatDoor.So.Wr

namespace Go.Proofs.YtepakgfdakeibaaGreatDoor.So.Wr
open Go.RowKit
set_option linter.unusedVariables false
set_option linter.unusedSimpArgs false
theorem fieldSer (p q r : Value) (w : World) : (Instr.field 44 (.agg #[p, q, r]) 1).run Tryz.prog w = .ok q w := by kernel_rfl
theorem nums7 (k z : Nat) (h : 0 < k) (hkz : k ≤ z) (hz : z ≤ 549755813888) : IntKind.i64.wrap ((k : Int) - 1) = (k : Int) - 1 ∧ (0 : Int) ≤ (k : Int) - 1 ∧ (k : Int) - 1 < (z : Int) + 1 ∧ (1 : Int) ≤ (k : Int) ∧ ((k : Int) < (z : Int) + 1 ∧ (0 : Int) ≤ (k : Int)) := ⟨IntWalk.i64_in _ (by omega), by omega, by omega, by omega, ⟨by omega, by omega⟩⟩
theorem nums8 (k z : Nat) (h : k ≤ z) : (0 : Int) ≤ (k : Int) ∧ (k : Int) < (z : Int) + 1 := ⟨by omega, by omega⟩
/-- i samples of the row are in. -/
structure DS (w3 : World) (R : List WrP) (i : Nat) (v : Value) (L : List PtA) (wr : World) : Prop where
  pg : PG wr w3.heap.size v L
  is : L.map (·.1) = (grD (intW (R.take i))).map toP
  tl : ∀ u ∈ L, u.1.t.length ≤ 4398046511104
  fl : ∀ u ∈ L, u.1.f.length ≤ i
  le : L.length ≤ i
  bl : Below w3.heap.size w3 wr
theorem DS.below {w3 : World} {R : List WrP} {i : Nat} {v : Value} {L : List PtA} {wr wx : World} (s : DS w3 R i v L wr) (hB : Below wr.heap.size wr wx) : DS w3 R i v L wx := ⟨s.pg.below hB, s.is, s.tl, s.fl, s.le, s.bl.trans (hB.mono s.bl.size)⟩
theorem int_skip {R : List WrP} {i : Nat} {x : WrP} (h : R[i]? = some x) (hk : ¬ x.kd = 0) : intW (R.take (i + 1)) = intW (R.take i) := by
  unfold intW; rw [List.take_add_one, h, List.filter_append]; simp [hk]
theorem int_more {R : List WrP} {i : Nat} {x : WrP} (h : R[i]? = some x) (hk : x.kd = 0) : intW (R.take (i + 1)) = intW (R.take i) ++ [x] := by
  unfold intW; rw [List.take_add_one, h, List.filter_append]; simp [hk]
theorem DS.skip {w3 : World} {R : List WrP} {i : Nat} {v : Value} {L : List PtA} {wr : World} {x : WrP} (s : DS w3 R i v L wr) (h : R[i]? = some x) (hk : ¬ x.kd = 0) : DS w3 R (i + 1) v L wr := ⟨s.pg, by rw [int_skip h hk]; exact s.is, s.tl, fun u hu => by have := s.fl u hu; omega, by have := s.le; omega, s.bl⟩
/-- the points by their keys: what the walk has seen of them. -/
theorem DS.seen {w3 : World} {R : List WrP} {i : Nat} {v : Value} {L : List PtA} {wr : World} (s : DS w3 R i v L wr) {j : Nat} {g : (SerP × Int) × List (ByteArray × Int)} (hg : (grD (intW (R.take i)))[j]? = some g) : ∃ u, L[j]? = some u ∧ u.1 = toP g := by
  have h : (L.map (·.1))[j]? = some (toP g) := by rw [s.is, List.getElem?_map, hg]; rfl
  rw [List.getElem?_map, Option.map_eq_some_iff] at h
  exact h
theorem key_f (l : List WrP) : ∀ g ∈ grD l, g.1.1.f = ⟨#[]⟩ := by
  have h : ∀ (E : List WrP) (R : Gr (SerP × Int) ByteArray), (∀ g ∈ R, g.1.1.f = ⟨#[]⟩) → ∀ g ∈ (E.map enO).foldl (fun R e => stepR kC e R) R, g.1.1.f = ⟨#[]⟩ := by
    intro E
    induction E with
    | nil => intro R hR; exact hR
    | cons x E ih =>
      intro R hR
      refine ih _ fun g hg => ?_
      rcases stepR_keys kC_is (enO x) R g hg with e | ⟨g0, h0, e⟩
      · rw [e]; rfl
      · rw [← e]; exact hR g0 h0
  exact h l [] (fun g h => by cases h)
theorem pkP_to {g : (SerP × Int) × List (ByteArray × Int)} (h : g.1.1.f = ⟨#[]⟩) : pkP (toP g) = g.1 := by
  obtain ⟨⟨⟨m, t, f⟩, tm⟩, fs⟩ := g
  simp only at h
  subst h
  rfl
theorem DS.step {w3 : World} {R : List WrP} {i at_ : Nat} {v : Value} {L : List PtA} {wr : World} {x : WrP} (s : DS w3 R i v L wr) (h : R[i]? = some x) (hk : x.kd = 0) (hat : at_ ≤ L.length) (hall : ∀ j u, j < at_ → L[j]? = some u → kC (pkP u.1) (pkO x) < 0) (hnot : ∀ u, L[at_]? = some u → ¬ kC (pkP u.1) (pkO x) < 0) :
    grD (intW (R.take (i + 1))) = (match (grD (intW (R.take i)))[at_]? with
      | none => grD (intW (R.take i)) ++ [(pkO x, [(x.s.f, x.n)])]
      | some g => if kC g.1 (pkO x) = 0 then (grD (intW (R.take i))).set at_ (g.1, g.2 ++ [(x.s.f, x.n)]) else (grD (intW (R.take i))).take at_ ++ (pkO x, [(x.s.f, x.n)]) :: (grD (intW (R.take i))).drop at_) := by
  have len : L.length = (grD (intW (R.take i))).length := by
    have := congrArg List.length s.is
    simpa using this
  rw [int_more h hk, grD_more, stepR_at (enO x) (grD (intW (R.take i))) at_ (by omega) (fun j g hj hg => ?_) (fun g hg => ?_)]
  · cases (grD (intW (R.take i)))[at_]? with
    | none => rfl
    | some g => rfl
  · obtain ⟨u, h1, h2⟩ := s.seen hg
    have := hall j u hj h1
    rw [h2, pkP_to (key_f _ g (List.mem_of_getElem? hg))] at this
    exact this
  · obtain ⟨u, h1, h2⟩ := s.seen hg
    have := hnot u h1
    rw [h2, pkP_to (key_f _ g (List.mem_of_getElem? hg))] at this
    exact this
theorem DS.field {w3 : World} {R : List WrP} {i at_ : Nat} {v : Value} {L : List PtA} {wr : World} {x : WrP} {u : PtA} (s : DS w3 R i v L wr) (h : R[i]? = some x) (hk : x.kd = 0) (hu : L[at_]? = some u) (hall : ∀ j u, j < at_ → L[j]? = some u → kC (pkP u.1) (pkO x) < 0) (h0 : kC (pkP u.1) (pkO x) = 0) (a : Option Addr) (c : Nat) {W : World} (hp : PG W w3.heap.size v (L.set at_ (addF u (x.s.f, x.n) a c))) (hb : Below w3.heap.size w3 W) : DS w3 R (i + 1) v (L.set at_ (addF u (x.s.f, x.n) a c)) W := by
  have hl : at_ < L.length := (List.getElem?_eq_some_iff.1 hu).1
  have len : L.length = (grD (intW (R.take i))).length := by
    have := congrArg List.length s.is
    simpa using this
  obtain ⟨g, hg⟩ : ∃ g, (grD (intW (R.take i)))[at_]? = some g := ⟨_, List.getElem?_eq_getElem (by omega)⟩
  obtain ⟨u', hu', e⟩ := s.seen hg
  rw [hu] at hu'
  injection hu' with hu'
  subst hu'
  have st := s.step h hk (by omega) hall (fun u2 h2 => by rw [hu] at h2; injection h2 with h2; subst h2; omega)
  have hmem := List.mem_of_getElem? hu
  have gk : kC g.1 (pkO x) = 0 := by
    rw [e, pkP_to (key_f _ g (List.mem_of_getElem? hg))] at h0; exact h0
  rw [hg] at st
  simp only [gk, if_true] at st
  refine ⟨hp, ?_, fun y hy => ?_, fun y hy => ?_, by rw [List.length_set]; have := s.le; omega, hb⟩
  · rw [st, List.map_set, List.map_set, s.is]
    congr 1
    unfold addF
    rw [e]
    rfl
  · rcases List.mem_or_eq_of_mem_set hy with q | q
    · exact s.tl y q
    · rw [q]; exact s.tl u hmem
  · rcases List.mem_or_eq_of_mem_set hy with q | q
    · have := s.fl y q; omega
    · rw [q]
      have := s.fl u hmem
      show (u.1.f ++ [_]).length ≤ i + 1
      rw [List.length_append, List.length_singleton]; omega
/-- what stands at the place. -/
def Cmp (L : List PtA) (at_ : Nat) (x : WrP) : Prop := ∀ u, L[at_]? = some u → 0 < kC (pkP u.1) (pkO x)
theorem DS.ins {w3 : World} {R : List WrP} {i at_ g n cap : Nat} {v : Value} {L L2 : List PtA} {wr W : World} {x : WrP} (s : DS w3 R i v L wr) (h : R[i]? = some x) (hk : x.kd = 0) (hat : at_ ≤ L.length) (hall : ∀ j u, j < at_ → L[j]? = some u → kC (pkP u.1) (pkO x) < 0) (hcmp : Cmp L at_ x) (hxt : x.s.t.length ≤ 4398046511104) (a' : Option Addr) (c' : Nat) (f : Option Addr × Nat) (e : L2 = L.take at_ ++ ((⟨x.s.m, x.s.t, [(x.s.f, x.n)], x.tm⟩, (a', c'), f) : PtA) :: L.drop at_) (hp : PG W w3.heap.size (.slice (some ⟨g, 0, none⟩) n cap) L2) (hb : Below w3.heap.size w3 W) : DS w3 R (i + 1) (.slice (some ⟨g, 0, none⟩) n cap) L2 W := by
  have st := s.step h hk hat hall (fun u hu => by have := hcmp u hu; omega)
  have len : L.length = (grD (intW (R.take i))).length := by
    have := congrArg List.length s.is
    simpa using this
  have st2 : grD (intW (R.take (i + 1))) = (grD (intW (R.take i))).take at_ ++ (pkO x, [(x.s.f, x.n)]) :: (grD (intW (R.take i))).drop at_ := by
    cases q : (grD (intW (R.take i)))[at_]? with
    | none =>
      rw [q] at st
      have := List.getElem?_eq_none_iff.1 q
      rw [List.take_of_length_le this, List.drop_of_length_le this]
      exact st
    | some g0 =>
      rw [q] at st
      obtain ⟨u, hu, eu⟩ := s.seen q
      have := hcmp u hu
      rw [eu, pkP_to (key_f _ g0 (List.mem_of_getElem? q))] at this
      simp only at st
      rw [if_neg (by omega)] at st
      exact st
  have mem : ∀ u ∈ L2, u ∈ L ∨ u = ((⟨x.s.m, x.s.t, [(x.s.f, x.n)], x.tm⟩, (a', c'), f) : PtA) := fun u hu => by
    rw [e] at hu
    rcases List.mem_append.1 hu with q | q
    · exact Or.inl (List.mem_of_mem_take q)
    · rcases List.mem_cons.1 q with q | q
      · exact Or.inr q
      · exact Or.inl (List.mem_of_mem_drop q)
  refine ⟨hp, ?_, fun u hu => ?_, fun u hu => ?_, ?_, hb⟩
  · rw [st2, e, List.map_append, List.map_cons, List.map_append, List.map_cons, List.map_take, List.map_drop, s.is, List.map_take, List.map_drop]
    rfl
  · rcases mem u hu with q | q
    · exact s.tl u q
    · rw [q]; exact hxt
  · rcases mem u hu with q | q
    · have := s.fl u q; omega
    · rw [q]; simp
  · rw [e]
    have := s.le
    simp
    omega
set_option maxRecDepth 100000 in
set_option maxHeartbeats 32000000 in
theorem rpoints_any (a : Option Addr) (c : Nat) (l : List WrP) (w : World) (hl : WIn w a l) (hc : l.length ≤ c) (hn : l.length ≤ 549755813888) (hts : ∀ x ∈ l, x.s.t.length ≤ 4398046511104) :
    Calls Tryz.prog 9 #[.slice a l.length c] w fun e w' => PtsR w w' l e := by
  have CO : Hid (Calls Tryz.prog 24 #[.slice a l.length c] w fun e w' => ∃ (a1 : Option Addr) (z1 c1 : Nat), e = .returned (.slice a1 z1 c1) ∧ z1 = (odD l).length ∧ WIn w' a1 (odD l) ∧ Below w.heap.size w w') := (rorder_any _ l (Nat.le_refl _) a c w hl hc hn hts).mono fun e w' hh => by
    obtain ⟨a1, z1, c1, L, rfl, o, i, b⟩ := hh
    obtain ⟨a', c', e', hw⟩ := o.1.win
    injection e' with e1 e2 e3
    subst e1 e3
    rw [i] at hw
    exact ⟨a1, z1, c1, rfl, by rw [← i, List.length_map]; exact e2, hw, b⟩
  have hRt : Hid (∀ x ∈ odD l, x.s.t.length ≤ 4398046511104) := odD_tags l hts
  have hRl := odD_len l
  clear hl hts
  go_enter Tryz.func9, Tryz.ntmps9
  go_wp2_with fail
  refine Calls.mono CO.out ?_
  rintro e w3 ⟨a1, m, c1, rfl, hm, hW, hB3⟩
  obtain ⟨R, hR⟩ : ∃ R, R = odD l := ⟨_, rfl⟩
  rw [← hR] at hm hW hRt hRl
  have hRH : Hid (R = odD l) := hR
  have hmH : Hid (m = R.length) := hm
  have hWH : Hid (WIn w3 a1 R) := hW
  have B3 : Hid (Below w.heap.size w w3) := hB3
  have hml : m ≤ l.length := by omega
  have S0 : Hid (DS w3 R 0 (.slice none 0 0) [] w3) := ⟨PG.nil _ _, rfl, (fun u h => by cases h), (fun u h => by cases h), Nat.le_refl _, Below.refl _ _⟩
  clear CO hm hW hR hB3 hRl
  go_wp2_with fail
  go_loopw [3, 5] (fun v3 v5 wr => ∃ (i z c3 : Nat) (a3 : Option Addr) (L : List PtA), v3 = .slice a3 z c3 ∧ v5 = .int .i64 (i : Int) ∧ i ≤ m ∧ Hid (DS w3 R i (.slice a3 z c3) L wr)) (fun _ v5 _ => m - (intOf v5).toNat)
  case atStart => exact ⟨0, 0, 0, none, [], rfl, rfl, Nat.zero_le _, S0⟩
  case round =>
    clear S0
    obtain ⟨i, z, c3, a3, L, rfl, rfl, him, hDS⟩ := hrel
    obtain ⟨wo, hwo⟩ : ∃ wo : World, wo = wr := ⟨_, rfl⟩
    subst hwo
    by_cases hi : i < m
    · have hiI : (i : Int) < (m : Int) := by omega
      have i0 : (0 : Int) ≤ (i : Int) := by omega
      have iw : IntKind.i64.wrap ((i : Int) + 1) = ((i + 1 : Nat) : Int) := IntWalk.i64_in _ (by omega)
      obtain ⟨x, hx⟩ : ∃ x, R[i]? = some x := ⟨_, List.getElem?_eq_getElem (by have := hmH.out; omega)⟩
      have hxH : Hid (R[i]? = some x) := hx
      have hxt : x.s.t.length ≤ 4398046511104 := hRt.out x (List.mem_of_getElem? hx)
      obtain ⟨b, off, tx, cx, ea, hb, hat, hfx⟩ := hWH.out.at hDS.out.bl hx
      subst ea
      have hser : Hid (SerIn w3 tx x.s) := (hfx w3 (Below.refl _ _)).2
      obtain ⟨nx, hnx'⟩ : ∃ nx, x.s.t.length = nx := ⟨_, rfl⟩
      have hnx : Hid (x.s.t.length = nx) := hnx'
      unfold WAt at hat
      rw [hnx'] at hat
      obtain ⟨a1', a2', a3', a4', a5', a6'⟩ := hat
      have hzl : Hid (z = L.length) := by
        rcases hDS.out.pg.row.2 with ⟨e, e0⟩ | ⟨_, _, _, e, _⟩
        · injection e with _ e _; show z = L.length; omega
        · injection e with _ e _
      have hzi : Hid (z ≤ i) := by have := hzl.out; have := hDS.out.le; show z ≤ i; omega
      clear hx hfx hnx' hb
      by_cases hkd : x.kd = 0
      · have hkb : ((x.kd : Int) == 0) = true := by simp [hkd]
        have hkn : ((x.kd : Int) != 0) = false := by simp [hkd]
        have hkd0 : Hid (x.kd = 0) := hkd
        obtain ⟨K, hK⟩ : ∃ K, K = wo.heap.size := ⟨_, rfl⟩
        obtain ⟨W1, hW1⟩ : ∃ W1, W1 = ((wo.alloc (.cells #[.string x.s.m, .slice tx nx cx, .string x.s.f, .int .i64 x.tm, .int .u8 (x.kd : Int), .int .i64 x.n] 52)).alloc (.cells #[.string x.s.m, .slice tx nx cx, .slice none 0 0, .int .i64 x.tm] 41)).alloc (.cells #[.string x.s.f, .int .i64 x.n] 54) := ⟨_, rfl⟩
        have bW : Below wo.heap.size wo W1 := by rw [hW1]; exact (((Below.refl _ wo).alloc (Nat.le_refl _) _).alloc (by simp) _).alloc (by simp; omega) _
        have bx1 : BX K x tx nx cx W1 := by
          rw [hW1, hK]
          exact ⟨by simp, by simp [go_sem], by simp [go_sem], by simp [go_sem], by simp [go_sem], by simp [go_sem], by simp [go_sem], by simp [go_sem], by simp [go_sem], by simp [go_sem], by simp [go_sem], by simp [go_sem]⟩
        have D1 : Hid (DI w3 K x tx nx cx (.slice a3 z c3) L W1) := ⟨hDS.out.pg.below bW, hDS.out.bl.trans (bW.mono hDS.out.bl.size), bx1, by rw [hK]; exact hDS.out.bl.size, fun k e => by rw [hK]; exact (World.ownsRow.lt hDS.out.pg.row k e).2, fun u hu k e => by rw [hK]; exact ((hDS.out.pg.px.fd u hu).bound e).2, fun u hu k e => by rw [hK]; exact tbk_lt (hDS.out.pg.px.tg u hu) e, hnx.out, hser.out.1⟩
        clear hkd bW bx1
        go_wp2_with fail
        rw [← hW1, ← hK]
        clear hW1 hK a1' a2' a3' a4' a5' a6'
        go_loopw [9] (fun v9 wx => ∃ at_ : Nat, v9 = .int .i64 (at_ : Int) ∧ at_ ≤ z ∧ Hid (∀ j u, j < at_ → L[j]? = some u → kC (pkP u.1) (pkO x) < 0) ∧ Hid (DI w3 K x tx nx cx (.slice a3 z c3) L wx)) (fun v9 _ => z - (intOf v9).toNat)
        case atStart => exact ⟨0, rfl, Nat.zero_le _, (fun j u hj => by omega), D1⟩
        case round =>
          clear D1
          obtain ⟨at_, rfl, hatz, hallH, hDI⟩ := hrel
          have at0 : (0 : Int) ≤ (at_ : Int) := by omega
          have hatH : Hid (at_ ≤ L.length) := by have := hzl.out; show at_ ≤ L.length; omega
          by_cases hlt : at_ < z
          · have hltI : (at_ : Int) < (z : Int) := by omega
            obtain ⟨u, hu⟩ : ∃ u, L[at_]? = some u := ⟨_, List.getElem?_eq_getElem (by have := hzl.out; omega)⟩
            have huH : Hid (L[at_]? = some u) := hu
            obtain ⟨g, hg⟩ : ∃ g, a3 = some ⟨g, 0, none⟩ := by
              rcases hDI.out.pg.row.2 with ⟨_, e0⟩ | ⟨g', _, _, e, _⟩
              · have := hzl.out; omega
              · injection e with e _ _; exact ⟨g', e⟩
            subst hg
            have aw : IntKind.i64.wrap ((at_ : Int) + 1) = ((at_ + 1 : Nat) : Int) := IntWalk.i64_in _ (by have := hzi.out; omega)
            obtain ⟨tn, htn'⟩ : ∃ tn, u.1.t.length = tn := ⟨_, rfl⟩
            obtain ⟨fn, hfn'⟩ : ∃ fn, u.1.f.length = fn := ⟨_, rfl⟩
            have htn : Hid (u.1.t.length = tn) := htn'
            have hfn : Hid (u.1.f.length = fn) := hfn'
            have tnl : tn ≤ 4398046511104 := by rw [← htn']; exact hDS.out.tl u (List.mem_of_getElem? hu)
            obtain ⟨cv, hcv⟩ : ∃ cv, kC (pkP u.1) (pkO x) = cv := ⟨_, rfl⟩
            have hcH : Hid (kC (pkP u.1) (pkO x) = cv) := hcv
            have CH : Hid (∀ W, DI w3 K x tx nx cx (.slice (some ⟨g, 0, none⟩) z c3) L W → Calls Tryz.prog 25 #[.agg #[.string u.1.m, .slice u.2.1.1 tn u.2.1.2, .slice u.2.2.1 fn u.2.2.2, .int .i64 u.1.tm], .agg #[.string x.s.m, .slice tx nx cx, .slice none 0 0, .int .i64 x.tm]] W fun e w' => e = .returned (.int .i64 cv) ∧ Below W.heap.size W w') := fun W hW => by
              have := rahead_any u.1 ⟨x.s.m, x.s.t, [], x.tm⟩ u.2.1.1 u.2.2.1 tx none tn u.2.1.2 fn u.2.2.2 nx cx 0 0 W (hW.pg.px.tg u (List.mem_of_getElem? hu)) (hW.ts.below hW.bl) htn' hnx.out tnl (by have := hnx.out; omega)
              rw [show kC (pkP u.1) (pkP ⟨x.s.m, x.s.t, [], x.tm⟩) = cv from hcv] at this
              exact this
            clear hcv hu tnl htn' hfn'
            have hat := hDI.out.pg.at huH.out
            unfold PAt at hat
            rw [htn.out, hfn.out] at hat
            obtain ⟨r1, r2, r3, r4⟩ := hat
            have b1 := hDI.out.bx.p0
            have b2 := hDI.out.bx.p1
            have b3 := hDI.out.bx.p2
            have b4 := hDI.out.bx.p3
            have gl := (hDI.out.pg.len).2.2.2
            have KPl : K + 1 < wr.heap.size := by have := hDI.out.bx.kl; omega
            by_cases hneg : cv < 0
            · have hnd : decide (cv < 0) = true := decide_eq_true hneg
              go_wp2_with fail
              refine wp_region_noPanic ?_
              refine wp_region_held_drew (S := fun W => (W.cell? ⟨g, at_ * 4, none⟩ = some (.string u.1.m) ∧ W.cell? ⟨g, at_ * 4 + 1, none⟩ = some (.slice u.2.1.1 tn u.2.1.2) ∧ W.cell? ⟨g, at_ * 4 + 2, none⟩ = some (.slice u.2.2.1 fn u.2.2.2) ∧ W.cell? ⟨g, at_ * 4 + 3, none⟩ = some (.int .i64 u.1.tm)) ∧ W.cell? ⟨K + 1, 0, none⟩ = some (.string x.s.m) ∧ W.cell? ⟨K + 1, 1, none⟩ = some (.slice tx nx cx) ∧ W.cell? ⟨K + 1, 2, none⟩ = some (.slice none 0 0) ∧ W.cell? ⟨K + 1, 3, none⟩ = some (.int .i64 x.tm)) (by kernel_rfl) ⟨⟨r1, r2, r3, r4⟩, b1, b2, b3, b4⟩ (fun hHeld => ?_)
              refine zT 0 (v := ?_) rfl ?_ ?_
              rotate_left 1
              · (intro w0 hSw; (try dsimp only at hSw); obtain ⟨⟨s1, s2, s3, s4⟩, t1, t2, t3, t4⟩ := hSw; go_simp; try with_reducible rfl)
              (try simp only [z1, z2, z3]); (try simp only [Act.put, z4, z5, z6])
              refine zT 1 (v := ?_) rfl ?_ ?_
              rotate_left 1
              · (intro w0 hSw; (try dsimp only at hSw); obtain ⟨⟨s1, s2, s3, s4⟩, t1, t2, t3, t4⟩ := hSw; go_simp; try with_reducible rfl)
              (try simp only [z1, z2, z3]); (try simp only [Act.put, z4, z5, z6])
              refine zT 2 (v := ?_) rfl ?_ ?_
              rotate_left 1
              · (intro w0 hSw; (try dsimp only at hSw); obtain ⟨⟨s1, s2, s3, s4⟩, t1, t2, t3, t4⟩ := hSw; go_simp; try with_reducible rfl)
              (try simp only [z1, z2, z3]); (try simp only [Act.put, z4, z5, z6])
              refine zT 3 (v := ?_) rfl ?_ ?_
              rotate_left 1
              · (intro w0 hSw; (try dsimp only at hSw); obtain ⟨⟨s1, s2, s3, s4⟩, t1, t2, t3, t4⟩ := hSw; go_simp; try with_reducible rfl)
              (try simp only [z1, z2, z3]); (try simp only [Act.put, z4, z5, z6])
              refine zT 4 (v := ?_) rfl ?_ ?_
              rotate_left 1
              · (intro w0 hSw; (try dsimp only at hSw); obtain ⟨⟨s1, s2, s3, s4⟩, t1, t2, t3, t4⟩ := hSw; go_simp; try with_reducible rfl)
              (try simp only [z1, z2, z3]); (try simp only [Act.put, z4, z5, z6])
              refine zT 5 (v := ?_) rfl ?_ ?_
              rotate_left 1
              · (intro w0 hSw; (try dsimp only at hSw); obtain ⟨⟨s1, s2, s3, s4⟩, t1, t2, t3, t4⟩ := hSw; go_simp; try with_reducible rfl)
              (try simp only [z1, z2, z3]); (try simp only [Act.put, z4, z5, z6])
              refine zT 6 (v := ?_) rfl ?_ ?_
              rotate_left 1
              · (intro w0 hSw; (try dsimp only at hSw); obtain ⟨⟨s1, s2, s3, s4⟩, t1, t2, t3, t4⟩ := hSw; go_simp; try with_reducible rfl)
              (try simp only [z1, z2, z3]); (try simp only [Act.put, z4, z5, z6])
              refine zT 7 (v := ?_) rfl ?_ ?_
              rotate_left 1
              · (intro w0 hSw; (try dsimp only at hSw); obtain ⟨⟨s1, s2, s3, s4⟩, t1, t2, t3, t4⟩ := hSw; go_simp; try with_reducible rfl)
              (try simp only [z1, z2, z3]); (try simp only [Act.put, z4, z5, z6])
              refine zT 8 (v := ?_) rfl ?_ ?_
              rotate_left 1
              · (intro w0 hSw; (try dsimp only at hSw); obtain ⟨⟨s1, s2, s3, s4⟩, t1, t2, t3, t4⟩ := hSw; go_simp; try with_reducible rfl)
              (try simp only [z1, z2, z3]); (try simp only [Act.put, z4, z5, z6])
              refine zT 9 (v := ?_) rfl ?_ ?_
              rotate_left 1
              · (intro w0 hSw; (try dsimp only at hSw); obtain ⟨⟨s1, s2, s3, s4⟩, t1, t2, t3, t4⟩ := hSw; go_simp; try with_reducible rfl)
              (try simp only [z1, z2, z3]); (try simp only [Act.put, z4, z5, z6])
              refine wpAnyH_ready (rs := [10]) (by kernel_rfl) (by simp) ?_
              refine AllReadyH.cons (o := _) rfl (fun K0 hK => ?_) AllReadyH.nil
              go_simp
              refine Calls.mono (CH.out _ (show DI w3 K x tx nx cx (.slice (some ⟨g, 0, none⟩) z c3) L wr.drew from hDI.out.below (show Below wr.heap.size wr wr.drew from (Below.refl _ wr).drew))) ?_
              rintro e w' ⟨rfl, BB⟩
              try dsimp only
              refine hK _ _ ?_ (fun hHeld => ?_)
              · exact ⟨⟨by rw [BB.cell (p := ⟨g, at_ * 4, none⟩) gl]; exact r1, by rw [BB.cell (p := ⟨g, at_ * 4 + 1, none⟩) gl]; exact r2, by rw [BB.cell (p := ⟨g, at_ * 4 + 2, none⟩) gl]; exact r3, by rw [BB.cell (p := ⟨g, at_ * 4 + 3, none⟩) gl]; exact r4⟩, by rw [BB.cell (p := ⟨K + 1, 0, none⟩) KPl]; exact b1, by rw [BB.cell (p := ⟨K + 1, 1, none⟩) KPl]; exact b2, by rw [BB.cell (p := ⟨K + 1, 2, none⟩) KPl]; exact b3, by rw [BB.cell (p := ⟨K + 1, 3, none⟩) KPl]; exact b4⟩
              clear hK K0
              (try simp only [z1, z2, z3]); (try simp only [Act.put, z4, z5, z6])
              refine zT 11 (v := ?_) rfl ?_ ?_
              rotate_left 1
              · (intro w0 hSw; (try dsimp only at hSw); obtain ⟨⟨s1, s2, s3, s4⟩, t1, t2, t3, t4⟩ := hSw; go_simp; try with_reducible rfl)
              (try simp only [z1, z2, z3]); (try simp only [Act.put, z4, z5, z6])
              refine zT 12 (v := ?_) rfl ?_ ?_
              rotate_left 1
              · (intro w0 hSw; (try dsimp only at hSw); obtain ⟨⟨s1, s2, s3, s4⟩, t1, t2, t3, t4⟩ := hSw; go_simp; try with_reducible rfl)
              (try simp only [z1, z2, z3]); (try simp only [Act.put, z4, z5, z6])
              refine wpAnyH_done (by kernel_rfl) ?_ _
              refine NoPanic.normal ?_
              have hD2 : Hid (DI w3 K x tx nx cx (.slice (some ⟨g, 0, none⟩) z c3) L w') := (hDI.out.below (show Below wr.heap.size wr wr.drew from (Below.refl _ wr).drew)).below BB
              have hall2 : Hid (∀ j u, j < at_ + 1 → L[j]? = some u → kC (pkP u.1) (pkO x) < 0) := fun j u' hj hu' => by
                by_cases q : j < at_
                · exact hallH.out j u' q hu'
                · obtain rfl : j = at_ := by omega
                  rw [huH.out] at hu'
                  injection hu' with hu'
                  subst hu'
                  rw [hcH.out]; exact hneg
              clear hDI hallH CH BB hHeld r1 r2 r3 r4 b1 b2 b3 b4
              go_wp2_with fail
              exact ⟨⟨at_ + 1, by first | rfl | simp, by omega, hall2, hD2⟩, by simp [intOf]; omega⟩
            · have hnd : decide (cv < 0) = false := decide_eq_false hneg
              by_cases hz0 : cv = 0
              · have hzb : (cv == 0) = true := by simpa using hz0
                have hc0H : Hid (cv = 0) := hz0
                clear hz0
                go_wp2_with fail
                refine wp_region_noPanic ?_
                refine wp_region_held_drew (S := fun W => (W.cell? ⟨g, at_ * 4, none⟩ = some (.string u.1.m) ∧ W.cell? ⟨g, at_ * 4 + 1, none⟩ = some (.slice u.2.1.1 tn u.2.1.2) ∧ W.cell? ⟨g, at_ * 4 + 2, none⟩ = some (.slice u.2.2.1 fn u.2.2.2) ∧ W.cell? ⟨g, at_ * 4 + 3, none⟩ = some (.int .i64 u.1.tm)) ∧ W.cell? ⟨K + 1, 0, none⟩ = some (.string x.s.m) ∧ W.cell? ⟨K + 1, 1, none⟩ = some (.slice tx nx cx) ∧ W.cell? ⟨K + 1, 2, none⟩ = some (.slice none 0 0) ∧ W.cell? ⟨K + 1, 3, none⟩ = some (.int .i64 x.tm)) (by kernel_rfl) ⟨⟨r1, r2, r3, r4⟩, b1, b2, b3, b4⟩ (fun hHeld => ?_)
                refine zT 0 (v := ?_) rfl ?_ ?_
                rotate_left 1
                · (intro w0 hSw; (try dsimp only at hSw); obtain ⟨⟨s1, s2, s3, s4⟩, t1, t2, t3, t4⟩ := hSw; go_simp; try with_reducible rfl)
                (try simp only [z1, z2, z3]); (try simp only [Act.put, z4, z5, z6])
                refine zT 1 (v := ?_) rfl ?_ ?_
                rotate_left 1
                · (intro w0 hSw; (try dsimp only at hSw); obtain ⟨⟨s1, s2, s3, s4⟩, t1, t2, t3, t4⟩ := hSw; go_simp; try with_reducible rfl)
                (try simp only [z1, z2, z3]); (try simp only [Act.put, z4, z5, z6])
                refine zT 2 (v := ?_) rfl ?_ ?_
                rotate_left 1
                · (intro w0 hSw; (try dsimp only at hSw); obtain ⟨⟨s1, s2, s3, s4⟩, t1, t2, t3, t4⟩ := hSw; go_simp; try with_reducible rfl)
                (try simp only [z1, z2, z3]); (try simp only [Act.put, z4, z5, z6])
                refine zT 3 (v := ?_) rfl ?_ ?_
                rotate_left 1
                · (intro w0 hSw; (try dsimp only at hSw); obtain ⟨⟨s1, s2, s3, s4⟩, t1, t2, t3, t4⟩ := hSw; go_simp; try with_reducible rfl)
                (try simp only [z1, z2, z3]); (try simp only [Act.put, z4, z5, z6])
                refine zT 4 (v := ?_) rfl ?_ ?_
                rotate_left 1
                · (intro w0 hSw; (try dsimp only at hSw); obtain ⟨⟨s1, s2, s3, s4⟩, t1, t2, t3, t4⟩ := hSw; go_simp; try with_reducible rfl)
                (try simp only [z1, z2, z3]); (try simp only [Act.put, z4, z5, z6])
                refine zT 5 (v := ?_) rfl ?_ ?_
                rotate_left 1
                · (intro w0 hSw; (try dsimp only at hSw); obtain ⟨⟨s1, s2, s3, s4⟩, t1, t2, t3, t4⟩ := hSw; go_simp; try with_reducible rfl)
                (try simp only [z1, z2, z3]); (try simp only [Act.put, z4, z5, z6])
                refine zT 6 (v := ?_) rfl ?_ ?_
                rotate_left 1
                · (intro w0 hSw; (try dsimp only at hSw); obtain ⟨⟨s1, s2, s3, s4⟩, t1, t2, t3, t4⟩ := hSw; go_simp; try with_reducible rfl)
                (try simp only [z1, z2, z3]); (try simp only [Act.put, z4, z5, z6])
                refine zT 7 (v := ?_) rfl ?_ ?_
                rotate_left 1
                · (intro w0 hSw; (try dsimp only at hSw); obtain ⟨⟨s1, s2, s3, s4⟩, t1, t2, t3, t4⟩ := hSw; go_simp; try with_reducible rfl)
                (try simp only [z1, z2, z3]); (try simp only [Act.put, z4, z5, z6])
                refine zT 8 (v := ?_) rfl ?_ ?_
                rotate_left 1
                · (intro w0 hSw; (try dsimp only at hSw); obtain ⟨⟨s1, s2, s3, s4⟩, t1, t2, t3, t4⟩ := hSw; go_simp; try with_reducible rfl)
                (try simp only [z1, z2, z3]); (try simp only [Act.put, z4, z5, z6])
                refine zT 9 (v := ?_) rfl ?_ ?_
                rotate_left 1
                · (intro w0 hSw; (try dsimp only at hSw); obtain ⟨⟨s1, s2, s3, s4⟩, t1, t2, t3, t4⟩ := hSw; go_simp; try with_reducible rfl)
                (try simp only [z1, z2, z3]); (try simp only [Act.put, z4, z5, z6])
                refine wpAnyH_ready (rs := [10]) (by kernel_rfl) (by simp) ?_
                refine AllReadyH.cons (o := _) rfl (fun K0 hK => ?_) AllReadyH.nil
                go_simp
                refine Calls.mono (CH.out _ (show DI w3 K x tx nx cx (.slice (some ⟨g, 0, none⟩) z c3) L wr.drew from hDI.out.below (show Below wr.heap.size wr wr.drew from (Below.refl _ wr).drew))) ?_
                rintro e w' ⟨rfl, BB⟩
                try dsimp only
                refine hK _ _ ?_ (fun hHeld => ?_)
                · exact ⟨⟨by rw [BB.cell (p := ⟨g, at_ * 4, none⟩) gl]; exact r1, by rw [BB.cell (p := ⟨g, at_ * 4 + 1, none⟩) gl]; exact r2, by rw [BB.cell (p := ⟨g, at_ * 4 + 2, none⟩) gl]; exact r3, by rw [BB.cell (p := ⟨g, at_ * 4 + 3, none⟩) gl]; exact r4⟩, by rw [BB.cell (p := ⟨K + 1, 0, none⟩) KPl]; exact b1, by rw [BB.cell (p := ⟨K + 1, 1, none⟩) KPl]; exact b2, by rw [BB.cell (p := ⟨K + 1, 2, none⟩) KPl]; exact b3, by rw [BB.cell (p := ⟨K + 1, 3, none⟩) KPl]; exact b4⟩
                clear hK K0
                (try simp only [z1, z2, z3]); (try simp only [Act.put, z4, z5, z6])
                refine zT 11 (v := ?_) rfl ?_ ?_
                rotate_left 1
                · (intro w0 hSw; (try dsimp only at hSw); obtain ⟨⟨s1, s2, s3, s4⟩, t1, t2, t3, t4⟩ := hSw; go_simp; try with_reducible rfl)
                (try simp only [z1, z2, z3]); (try simp only [Act.put, z4, z5, z6])
                refine zT 12 (v := ?_) rfl ?_ ?_
                rotate_left 1
                · (intro w0 hSw; (try dsimp only at hSw); obtain ⟨⟨s1, s2, s3, s4⟩, t1, t2, t3, t4⟩ := hSw; go_simp; try with_reducible rfl)
                (try simp only [z1, z2, z3]); (try simp only [Act.put, z4, z5, z6])
                refine wpAnyH_done (by kernel_rfl) ?_ _
                refine NoPanic.normal ?_
                have hD2 : Hid (DI w3 K x tx nx cx (.slice (some ⟨g, 0, none⟩) z c3) L w') := (hDI.out.below (show Below wr.heap.size wr wr.drew from (Below.refl _ wr).drew)).below BB
                clear hDI BB hHeld r1 r2 r3 r4 b1 b2 b3 b4 gl KPl
                generalize w' = wp at *
                have hDI := hD2
                clear hD2
                have hat := hDI.out.pg.at huH.out
                unfold PAt at hat
                rw [htn.out, hfn.out] at hat
                obtain ⟨r1, r2, r3, r4⟩ := hat
                have b1 := hDI.out.bx.p0
                have b2 := hDI.out.bx.p1
                have b3 := hDI.out.bx.p2
                have b4 := hDI.out.bx.p3
                have gl := (hDI.out.pg.len).2.2.2
                have KPl : K + 1 < wp.heap.size := by have := hDI.out.bx.kl; omega
                go_wp2_with fail
                refine wp_region_noPanic ?_
                refine wp_region_held_drew (S := fun W => (W.cell? ⟨g, at_ * 4, none⟩ = some (.string u.1.m) ∧ W.cell? ⟨g, at_ * 4 + 1, none⟩ = some (.slice u.2.1.1 tn u.2.1.2) ∧ W.cell? ⟨g, at_ * 4 + 2, none⟩ = some (.slice u.2.2.1 fn u.2.2.2) ∧ W.cell? ⟨g, at_ * 4 + 3, none⟩ = some (.int .i64 u.1.tm)) ∧ W.cell? ⟨K + 1, 0, none⟩ = some (.string x.s.m) ∧ W.cell? ⟨K + 1, 1, none⟩ = some (.slice tx nx cx) ∧ W.cell? ⟨K + 1, 2, none⟩ = some (.slice none 0 0) ∧ W.cell? ⟨K + 1, 3, none⟩ = some (.int .i64 x.tm)) (by kernel_rfl) ⟨⟨r1, r2, r3, r4⟩, b1, b2, b3, b4⟩ (fun hHeld => ?_)
                refine zT 0 (v := ?_) rfl ?_ ?_
                rotate_left 1
                · (intro w0 hSw; (try dsimp only at hSw); obtain ⟨⟨s1, s2, s3, s4⟩, t1, t2, t3, t4⟩ := hSw; go_simp; try with_reducible rfl)
                (try simp only [z1, z2, z3]); (try simp only [Act.put, z4, z5, z6])
                refine zT 1 (v := ?_) rfl ?_ ?_
                rotate_left 1
                · (intro w0 hSw; (try dsimp only at hSw); obtain ⟨⟨s1, s2, s3, s4⟩, t1, t2, t3, t4⟩ := hSw; go_simp; try with_reducible rfl)
                (try simp only [z1, z2, z3]); (try simp only [Act.put, z4, z5, z6])
                refine zT 2 (v := ?_) rfl ?_ ?_
                rotate_left 1
                · (intro w0 hSw; (try dsimp only at hSw); obtain ⟨⟨s1, s2, s3, s4⟩, t1, t2, t3, t4⟩ := hSw; go_simp; try with_reducible rfl)
                (try simp only [z1, z2, z3]); (try simp only [Act.put, z4, z5, z6])
                refine zT 3 (v := ?_) rfl ?_ ?_
                rotate_left 1
                · (intro w0 hSw; (try dsimp only at hSw); obtain ⟨⟨s1, s2, s3, s4⟩, t1, t2, t3, t4⟩ := hSw; go_simp; try with_reducible rfl)
                (try simp only [z1, z2, z3]); (try simp only [Act.put, z4, z5, z6])
                refine zT 4 (v := ?_) rfl ?_ ?_
                rotate_left 1
                · (intro w0 hSw; (try dsimp only at hSw); obtain ⟨⟨s1, s2, s3, s4⟩, t1, t2, t3, t4⟩ := hSw; go_simp; try with_reducible rfl)
                (try simp only [z1, z2, z3]); (try simp only [Act.put, z4, z5, z6])
                refine zT 5 (v := ?_) rfl ?_ ?_
                rotate_left 1
                · (intro w0 hSw; (try dsimp only at hSw); obtain ⟨⟨s1, s2, s3, s4⟩, t1, t2, t3, t4⟩ := hSw; go_simp; try with_reducible rfl)
                (try simp only [z1, z2, z3]); (try simp only [Act.put, z4, z5, z6])
                refine zT 6 (v := ?_) rfl ?_ ?_
                rotate_left 1
                · (intro w0 hSw; (try dsimp only at hSw); obtain ⟨⟨s1, s2, s3, s4⟩, t1, t2, t3, t4⟩ := hSw; go_simp; try with_reducible rfl)
                (try simp only [z1, z2, z3]); (try simp only [Act.put, z4, z5, z6])
                refine zT 7 (v := ?_) rfl ?_ ?_
                rotate_left 1
                · (intro w0 hSw; (try dsimp only at hSw); obtain ⟨⟨s1, s2, s3, s4⟩, t1, t2, t3, t4⟩ := hSw; go_simp; try with_reducible rfl)
                (try simp only [z1, z2, z3]); (try simp only [Act.put, z4, z5, z6])
                refine zT 8 (v := ?_) rfl ?_ ?_
                rotate_left 1
                · (intro w0 hSw; (try dsimp only at hSw); obtain ⟨⟨s1, s2, s3, s4⟩, t1, t2, t3, t4⟩ := hSw; go_simp; try with_reducible rfl)
                (try simp only [z1, z2, z3]); (try simp only [Act.put, z4, z5, z6])
                refine zT 9 (v := ?_) rfl ?_ ?_
                rotate_left 1
                · (intro w0 hSw; (try dsimp only at hSw); obtain ⟨⟨s1, s2, s3, s4⟩, t1, t2, t3, t4⟩ := hSw; go_simp; try with_reducible rfl)
                (try simp only [z1, z2, z3]); (try simp only [Act.put, z4, z5, z6])
                refine wpAnyH_ready (rs := [10]) (by kernel_rfl) (by simp) ?_
                refine AllReadyH.cons (o := _) rfl (fun K0 hK => ?_) AllReadyH.nil
                go_simp
                refine Calls.mono (CH.out _ (show DI w3 K x tx nx cx (.slice (some ⟨g, 0, none⟩) z c3) L wp.drew from hDI.out.below (show Below wp.heap.size wp wp.drew from (Below.refl _ wp).drew))) ?_
                rintro e w' ⟨rfl, BB⟩
                try dsimp only
                refine hK _ _ ?_ (fun hHeld => ?_)
                · exact ⟨⟨by rw [BB.cell (p := ⟨g, at_ * 4, none⟩) gl]; exact r1, by rw [BB.cell (p := ⟨g, at_ * 4 + 1, none⟩) gl]; exact r2, by rw [BB.cell (p := ⟨g, at_ * 4 + 2, none⟩) gl]; exact r3, by rw [BB.cell (p := ⟨g, at_ * 4 + 3, none⟩) gl]; exact r4⟩, by rw [BB.cell (p := ⟨K + 1, 0, none⟩) KPl]; exact b1, by rw [BB.cell (p := ⟨K + 1, 1, none⟩) KPl]; exact b2, by rw [BB.cell (p := ⟨K + 1, 2, none⟩) KPl]; exact b3, by rw [BB.cell (p := ⟨K + 1, 3, none⟩) KPl]; exact b4⟩
                clear hK K0
                (try simp only [z1, z2, z3]); (try simp only [Act.put, z4, z5, z6])
                refine zT 11 (v := ?_) rfl ?_ ?_
                rotate_left 1
                · (intro w0 hSw; (try dsimp only at hSw); obtain ⟨⟨s1, s2, s3, s4⟩, t1, t2, t3, t4⟩ := hSw; go_simp; try with_reducible rfl)
                (try simp only [z1, z2, z3]); (try simp only [Act.put, z4, z5, z6])
                refine zT 12 (v := ?_) rfl ?_ ?_
                rotate_left 1
                · (intro w0 hSw; (try dsimp only at hSw); obtain ⟨⟨s1, s2, s3, s4⟩, t1, t2, t3, t4⟩ := hSw; go_simp; try with_reducible rfl)
                (try simp only [z1, z2, z3]); (try simp only [Act.put, z4, z5, z6])
                refine wpAnyH_done (by kernel_rfl) ?_ _
                refine NoPanic.normal ?_
                have hD2 : Hid (DI w3 K x tx nx cx (.slice (some ⟨g, 0, none⟩) z c3) L w') := (hDI.out.below (show Below wp.heap.size wp wp.drew from (Below.refl _ wp).drew)).below BB
                clear hDI BB hHeld
                generalize w' = WY at *
                have hDI := hD2
                clear hD2
                obtain ⟨fa, fm, fc, fa2, fc2, w8, cF, rF0, hP8, hB8, c8, f8, e0, e1, gK⟩ := (hDI.out.below (show Below WY.heap.size WY WY.drew from (Below.refl _ WY).drew)).field huH.out (by have := hDS.out.fl u (List.mem_of_getElem? huH.out); omega)
                have k0 := hDI.out.bx.f0
                have k1 := hDI.out.bx.f1
                have kl := hDI.out.bx.kl
                have gl2 := (hDI.out.pg.len).2.2.2
                have sS : Hid (WY.drew.cell? ⟨K + 1 + 1, 0, none⟩ = some (.string x.s.f) ∧ WY.drew.cell? ⟨K + 1 + 1, 1, none⟩ = some (.int .i64 x.n)) := ⟨k0, k1⟩
                have bA : Below WY.heap.size WY.drew (WY.drew.alloc (.cells #[.string x.s.f, .int .i64 x.n] 54)) := (Below.refl _ WY.drew).alloc (Nat.le_refl _) _
                have sA : Hid ((WY.drew.alloc (.cells #[.string x.s.f, .int .i64 x.n] 54)).cell? ⟨K + 1 + 1, 0, none⟩ = some (.string x.s.f) ∧ (WY.drew.alloc (.cells #[.string x.s.f, .int .i64 x.n] 54)).cell? ⟨K + 1 + 1, 1, none⟩ = some (.int .i64 x.n)) := ⟨by rw [bA.cell (p := ⟨K + 1 + 1, 0, none⟩) kl]; exact k0, by rw [bA.cell (p := ⟨K + 1 + 1, 1, none⟩) kl]; exact k1⟩
                have cFa : (WY.drew.alloc (.cells #[.string x.s.f, .int .i64 x.n] 54)).cell? ⟨g, at_ * 4 + 2, none⟩ = some (.slice fa fm fc) := by rw [bA.cell (p := ⟨g, at_ * 4 + 2, none⟩) gl2]; exact cF
                have cFq : WY.cell? ⟨g, at_ * 4 + 2, none⟩ = some (.slice fa fm fc) := cF
                have sB : Hid (w8.cell? ⟨K + 1 + 1, 0, none⟩ = some (.string x.s.f) ∧ w8.cell? ⟨K + 1 + 1, 1, none⟩ = some (.int .i64 x.n)) := ⟨e0, e1⟩
                have sC : Hid ((w8.setCell ⟨g, at_ * 4 + 2, none⟩ (.slice fa2 (fm + 1) fc2)).cell? ⟨K + 1 + 1, 0, none⟩ = some (.string x.s.f) ∧ (w8.setCell ⟨g, at_ * 4 + 2, none⟩ (.slice fa2 (fm + 1) fc2)).cell? ⟨K + 1 + 1, 1, none⟩ = some (.int .i64 x.n)) := ⟨by rw [World.cell?_setCell_other _ _ _ _ (by intro e; injection e; omega)]; exact e0, by rw [World.cell?_setCell_other _ _ _ _ (by intro e; injection e; omega)]; exact e1⟩
                have rF : Hid (∀ W, W = WY.drew.alloc (.cells #[.string x.s.f, .int .i64 x.n] 54) → (Builtin.append_ #[39, 39] 39 #[.slice fa fm fc, .slice (some ⟨WY.heap.size, 0, none⟩) 1 1]).run Tryz.prog W = .ok (.slice fa2 (fm + 1) fc2) w8) := fun W e => by subst e; exact rF0
                have P8 : Hid (DS w3 R (i + 1) (.slice (some ⟨g, 0, none⟩) z c3) (L.set at_ (addF u (x.s.f, x.n) fa2 fc2)) (w8.setCell ⟨g, at_ * 4 + 2, none⟩ (.slice fa2 (fm + 1) fc2))) := hDS.out.field hxH.out hkd0.out huH.out hallH.out (by rw [hcH.out]; exact hc0H.out) fa2 fc2 hP8 hB8
                clear hDI cF rF0 hP8 hB8 e0 e1 bA gK hDS kl r1 r2 r3 r4 b1 b2 b3 b4 gl KPl CH hallH
                go_wp2_with fail
                refine wp_region_noPanic ?_
                refine wp_region_held_drew (S := fun W => W.cell? ⟨K + 1 + 1, 0, none⟩ = some (.string x.s.f) ∧ W.cell? ⟨K + 1 + 1, 1, none⟩ = some (.int .i64 x.n)) (by kernel_rfl) sS.out (fun hHeld => ?_)
                refine zT 0 (v := ?_) rfl ?_ ?_
                rotate_left 1
                · (intro w0 hSw; (try dsimp only at hSw); obtain ⟨s1, s2⟩ := hSw; go_simp; try with_reducible rfl)
                (try simp only [z1, z2, z3]); (try simp only [Act.put, z4, z5, z6])
                refine zT 1 (v := ?_) rfl ?_ ?_
                rotate_left 1
                · (intro w0 hSw; (try dsimp only at hSw); obtain ⟨s1, s2⟩ := hSw; go_simp; try with_reducible rfl)
                (try simp only [z1, z2, z3]); (try simp only [Act.put, z4, z5, z6])
                refine zT 2 (v := ?_) rfl ?_ ?_
                rotate_left 1
                · (intro w0 hSw; (try dsimp only at hSw); obtain ⟨s1, s2⟩ := hSw; go_simp; try with_reducible rfl)
                (try simp only [z1, z2, z3]); (try simp only [Act.put, z4, z5, z6])
                refine zT 3 (v := ?_) rfl ?_ ?_
                rotate_left 1
                · (intro w0 hSw; (try dsimp only at hSw); obtain ⟨s1, s2⟩ := hSw; go_simp; try with_reducible rfl)
                (try simp only [z1, z2, z3]); (try simp only [Act.put, z4, z5, z6])
                refine zT 4 (v := ?_) rfl ?_ ?_
                rotate_left 1
                · (intro w0 hSw; (try dsimp only at hSw); obtain ⟨s1, s2⟩ := hSw; go_simp; try with_reducible rfl)
                (try simp only [z1, z2, z3]); (try simp only [Act.put, z4, z5, z6])
                refine zT 5 (v := ?_) rfl ?_ ?_
                rotate_left 1
                · (intro w0 hSw; (try dsimp only at hSw); obtain ⟨s1, s2⟩ := hSw; go_simp; try with_reducible rfl)
                (try simp only [z1, z2, z3]); (try simp only [Act.put, z4, z5, z6])
                refine zT 7 (v := ?_) rfl ?_ ?_
                rotate_left 1
                · (intro w0 hSw; (try dsimp only at hSw); obtain ⟨s1, s2⟩ := hSw; go_simp; try with_reducible rfl)
                (try simp only [z1, z2, z3]); (try simp only [Act.put, z4, z5, z6])
                refine wpAnyH_ready (rs := [6, 8]) (by kernel_rfl) (by simp) ?_
                refine AllReadyH.cons (o := _) rfl (fun K1 hK => ?_) ?_
                · go_simp
                  try dsimp only
                  refine hK _ _ sS.out (fun hHeld => ?_)
                  clear hK K1
                  (try simp only [z1, z2, z3]); (try simp only [Act.put, z4, z5, z6])
                  refine wpAnyH_ready (rs := [8]) (by kernel_rfl) (by simp) ?_
                  refine AllReadyH.cons (o := _) rfl (fun K1 hK => ?_) AllReadyH.nil
                  go_simp
                  try dsimp only
                  refine hK _ _ sA.out (fun hHeld => ?_)
                  clear hK K1
                  (try simp only [z1, z2, z3]); (try simp only [Act.put, z4, z5, z6])
                  refine wpAnyH_ready (rs := [9]) (by kernel_rfl) (by simp) ?_
                  refine AllReadyH.cons (o := _) rfl (fun K1 hK => ?_) AllReadyH.nil
                  refine step_append_runB rfl (.tmp 80) (.tmp 82) 39 rfl _ _ _ _ rfl rfl (rF.out _ rfl) ?_
                  refine hK _ _ sB.out (fun hHeld => ?_)
                  clear hK K1
                  (try simp only [z1, z2, z3]); (try simp only [Act.put, z4, z5, z6])
                  refine zT 10 (v := ?_) rfl ?_ ?_
                  rotate_left 1
                  · (intro w0 hSw; (try dsimp only at hSw); obtain ⟨s1, s2⟩ := hSw; go_simp; try with_reducible rfl)
                  (try simp only [z1, z2, z3]); (try simp only [Act.put, z4, z5, z6])
                  refine zT 11 (v := ?_) rfl ?_ ?_
                  rotate_left 1
                  · (intro w0 hSw; (try dsimp only at hSw); obtain ⟨s1, s2⟩ := hSw; go_simp; try with_reducible rfl)
                  (try simp only [z1, z2, z3]); (try simp only [Act.put, z4, z5, z6])
                  refine wpAnyH_ready (rs := [12]) (by kernel_rfl) (by simp) ?_
                  refine AllReadyH.cons (o := _) rfl (fun K1 hK => ?_) AllReadyH.nil
                  go_simp
                  try dsimp only
                  refine hK _ _ sC.out (fun hHeld => ?_)
                  clear hK K1
                  (try simp only [z1, z2, z3]); (try simp only [Act.put, z4, z5, z6])
                  refine wpAnyH_done (by kernel_rfl) ?_ _
                  refine NoPanic.normal ?_
                  clear sS sA sB sC rF c8 f8 k0 k1 cFa cFq
                  go_wp2_with fail
                  exact ⟨⟨i + 1, z, c3, some ⟨g, 0, none⟩, _, rfl, by first | rfl | simp, by omega, P8⟩, by simp [intOf]; omega⟩
                refine AllReadyH.cons (o := _) rfl (fun K1 hK => ?_) AllReadyH.nil
                go_simp
                try dsimp only
                refine hK _ _ sA.out (fun hHeld => ?_)
                clear hK K1
                (try simp only [z1, z2, z3]); (try simp only [Act.put, z4, z5, z6])
                refine wpAnyH_ready (rs := [6]) (by kernel_rfl) (by simp) ?_
                refine AllReadyH.cons (o := _) rfl (fun K1 hK => ?_) AllReadyH.nil
                go_simp
                try dsimp only
                refine hK _ _ sA.out (fun hHeld => ?_)
                clear hK K1
                (try simp only [z1, z2, z3]); (try simp only [Act.put, z4, z5, z6])
                refine wpAnyH_ready (rs := [9]) (by kernel_rfl) (by simp) ?_
                refine AllReadyH.cons (o := _) rfl (fun K1 hK => ?_) AllReadyH.nil
                refine step_append_runB rfl (.tmp 80) (.tmp 82) 39 rfl _ _ _ _ rfl rfl (rF.out _ rfl) ?_
                refine hK _ _ sB.out (fun hHeld => ?_)
                clear hK K1
                (try simp only [z1, z2, z3]); (try simp only [Act.put, z4, z5, z6])
                refine zT 10 (v := ?_) rfl ?_ ?_
                rotate_left 1
                · (intro w0 hSw; (try dsimp only at hSw); obtain ⟨s1, s2⟩ := hSw; go_simp; try with_reducible rfl)
                (try simp only [z1, z2, z3]); (try simp only [Act.put, z4, z5, z6])
                refine zT 11 (v := ?_) rfl ?_ ?_
                rotate_left 1
                · (intro w0 hSw; (try dsimp only at hSw); obtain ⟨s1, s2⟩ := hSw; go_simp; try with_reducible rfl)
                (try simp only [z1, z2, z3]); (try simp only [Act.put, z4, z5, z6])
                refine wpAnyH_ready (rs := [12]) (by kernel_rfl) (by simp) ?_
                refine AllReadyH.cons (o := _) rfl (fun K1 hK => ?_) AllReadyH.nil
                go_simp
                try dsimp only
                refine hK _ _ sC.out (fun hHeld => ?_)
                clear hK K1
                (try simp only [z1, z2, z3]); (try simp only [Act.put, z4, z5, z6])
                refine wpAnyH_done (by kernel_rfl) ?_ _
                refine NoPanic.normal ?_
                clear sS sA sB sC rF c8 f8 k0 k1 cFa cFq
                go_wp2_with fail
                exact ⟨⟨i + 1, z, c3, some ⟨g, 0, none⟩, _, rfl, by first | rfl | simp, by omega, P8⟩, by simp [intOf]; omega⟩
              · have hzb : (cv == 0) = false := by simpa using hz0
                have hcmp : Hid (Cmp L at_ x) := fun u' hu' => by
                  rw [huH.out] at hu'
                  injection hu' with hu'
                  subst hu'
                  rw [hcH.out]; omega
                clear hz0
                go_wp2_with fail
                refine wp_region_noPanic ?_
                refine wp_region_held_drew (S := fun W => (W.cell? ⟨g, at_ * 4, none⟩ = some (.string u.1.m) ∧ W.cell? ⟨g, at_ * 4 + 1, none⟩ = some (.slice u.2.1.1 tn u.2.1.2) ∧ W.cell? ⟨g, at_ * 4 + 2, none⟩ = some (.slice u.2.2.1 fn u.2.2.2) ∧ W.cell? ⟨g, at_ * 4 + 3, none⟩ = some (.int .i64 u.1.tm)) ∧ W.cell? ⟨K + 1, 0, none⟩ = some (.string x.s.m) ∧ W.cell? ⟨K + 1, 1, none⟩ = some (.slice tx nx cx) ∧ W.cell? ⟨K + 1, 2, none⟩ = some (.slice none 0 0) ∧ W.cell? ⟨K + 1, 3, none⟩ = some (.int .i64 x.tm)) (by kernel_rfl) ⟨⟨r1, r2, r3, r4⟩, b1, b2, b3, b4⟩ (fun hHeld => ?_)
                refine zT 0 (v := ?_) rfl ?_ ?_
                rotate_left 1
                · (intro w0 hSw; (try dsimp only at hSw); obtain ⟨⟨s1, s2, s3, s4⟩, t1, t2, t3, t4⟩ := hSw; go_simp; try with_reducible rfl)
                (try simp only [z1, z2, z3]); (try simp only [Act.put, z4, z5, z6])
                refine zT 1 (v := ?_) rfl ?_ ?_
                rotate_left 1
                · (intro w0 hSw; (try dsimp only at hSw); obtain ⟨⟨s1, s2, s3, s4⟩, t1, t2, t3, t4⟩ := hSw; go_simp; try with_reducible rfl)
                (try simp only [z1, z2, z3]); (try simp only [Act.put, z4, z5, z6])
                refine zT 2 (v := ?_) rfl ?_ ?_
                rotate_left 1
                · (intro w0 hSw; (try dsimp only at hSw); obtain ⟨⟨s1, s2, s3, s4⟩, t1, t2, t3, t4⟩ := hSw; go_simp; try with_reducible rfl)
                (try simp only [z1, z2, z3]); (try simp only [Act.put, z4, z5, z6])
                refine zT 3 (v := ?_) rfl ?_ ?_
                rotate_left 1
                · (intro w0 hSw; (try dsimp only at hSw); obtain ⟨⟨s1, s2, s3, s4⟩, t1, t2, t3, t4⟩ := hSw; go_simp; try with_reducible rfl)
                (try simp only [z1, z2, z3]); (try simp only [Act.put, z4, z5, z6])
                refine zT 4 (v := ?_) rfl ?_ ?_
                rotate_left 1
                · (intro w0 hSw; (try dsimp only at hSw); obtain ⟨⟨s1, s2, s3, s4⟩, t1, t2, t3, t4⟩ := hSw; go_simp; try with_reducible rfl)
                (try simp only [z1, z2, z3]); (try simp only [Act.put, z4, z5, z6])
                refine zT 5 (v := ?_) rfl ?_ ?_
                rotate_left 1
                · (intro w0 hSw; (try dsimp only at hSw); obtain ⟨⟨s1, s2, s3, s4⟩, t1, t2, t3, t4⟩ := hSw; go_simp; try with_reducible rfl)
                (try simp only [z1, z2, z3]); (try simp only [Act.put, z4, z5, z6])
                refine zT 6 (v := ?_) rfl ?_ ?_
                rotate_left 1
                · (intro w0 hSw; (try dsimp only at hSw); obtain ⟨⟨s1, s2, s3, s4⟩, t1, t2, t3, t4⟩ := hSw; go_simp; try with_reducible rfl)
                (try simp only [z1, z2, z3]); (try simp only [Act.put, z4, z5, z6])
                refine zT 7 (v := ?_) rfl ?_ ?_
                rotate_left 1
                · (intro w0 hSw; (try dsimp only at hSw); obtain ⟨⟨s1, s2, s3, s4⟩, t1, t2, t3, t4⟩ := hSw; go_simp; try with_reducible rfl)
                (try simp only [z1, z2, z3]); (try simp only [Act.put, z4, z5, z6])
                refine zT 8 (v := ?_) rfl ?_ ?_
                rotate_left 1
                · (intro w0 hSw; (try dsimp only at hSw); obtain ⟨⟨s1, s2, s3, s4⟩, t1, t2, t3, t4⟩ := hSw; go_simp; try with_reducible rfl)
                (try simp only [z1, z2, z3]); (try simp only [Act.put, z4, z5, z6])
                refine zT 9 (v := ?_) rfl ?_ ?_
                rotate_left 1
                · (intro w0 hSw; (try dsimp only at hSw); obtain ⟨⟨s1, s2, s3, s4⟩, t1, t2, t3, t4⟩ := hSw; go_simp; try with_reducible rfl)
                (try simp only [z1, z2, z3]); (try simp only [Act.put, z4, z5, z6])
                refine wpAnyH_ready (rs := [10]) (by kernel_rfl) (by simp) ?_
                refine AllReadyH.cons (o := _) rfl (fun K0 hK => ?_) AllReadyH.nil
                go_simp
                refine Calls.mono (CH.out _ (show DI w3 K x tx nx cx (.slice (some ⟨g, 0, none⟩) z c3) L wr.drew from hDI.out.below (show Below wr.heap.size wr wr.drew from (Below.refl _ wr).drew))) ?_
                rintro e w' ⟨rfl, BB⟩
                try dsimp only
                refine hK _ _ ?_ (fun hHeld => ?_)
                · exact ⟨⟨by rw [BB.cell (p := ⟨g, at_ * 4, none⟩) gl]; exact r1, by rw [BB.cell (p := ⟨g, at_ * 4 + 1, none⟩) gl]; exact r2, by rw [BB.cell (p := ⟨g, at_ * 4 + 2, none⟩) gl]; exact r3, by rw [BB.cell (p := ⟨g, at_ * 4 + 3, none⟩) gl]; exact r4⟩, by rw [BB.cell (p := ⟨K + 1, 0, none⟩) KPl]; exact b1, by rw [BB.cell (p := ⟨K + 1, 1, none⟩) KPl]; exact b2, by rw [BB.cell (p := ⟨K + 1, 2, none⟩) KPl]; exact b3, by rw [BB.cell (p := ⟨K + 1, 3, none⟩) KPl]; exact b4⟩
                clear hK K0
                (try simp only [z1, z2, z3]); (try simp only [Act.put, z4, z5, z6])
                refine zT 11 (v := ?_) rfl ?_ ?_
                rotate_left 1
                · (intro w0 hSw; (try dsimp only at hSw); obtain ⟨⟨s1, s2, s3, s4⟩, t1, t2, t3, t4⟩ := hSw; go_simp; try with_reducible rfl)
                (try simp only [z1, z2, z3]); (try simp only [Act.put, z4, z5, z6])
                refine zT 12 (v := ?_) rfl ?_ ?_
                rotate_left 1
                · (intro w0 hSw; (try dsimp only at hSw); obtain ⟨⟨s1, s2, s3, s4⟩, t1, t2, t3, t4⟩ := hSw; go_simp; try with_reducible rfl)
                (try simp only [z1, z2, z3]); (try simp only [Act.put, z4, z5, z6])
                refine wpAnyH_done (by kernel_rfl) ?_ _
                refine NoPanic.normal ?_
                have hD2 : Hid (DI w3 K x tx nx cx (.slice (some ⟨g, 0, none⟩) z c3) L w') := (hDI.out.below (show Below wr.heap.size wr wr.drew from (Below.refl _ wr).drew)).below BB
                clear hDI BB hHeld r1 r2 r3 r4 b1 b2 b3 b4 gl KPl
                generalize w' = wp at *
                have hDI := hD2
                clear hD2
                have hat := hDI.out.pg.at huH.out
                unfold PAt at hat
                rw [htn.out, hfn.out] at hat
                obtain ⟨r1, r2, r3, r4⟩ := hat
                have b1 := hDI.out.bx.p0
                have b2 := hDI.out.bx.p1
                have b3 := hDI.out.bx.p2
                have b4 := hDI.out.bx.p3
                have gl := (hDI.out.pg.len).2.2.2
                have KPl : K + 1 < wp.heap.size := by have := hDI.out.bx.kl; omega
                go_wp2_with fail
                refine wp_region_noPanic ?_
                refine wp_region_held_drew (S := fun W => (W.cell? ⟨g, at_ * 4, none⟩ = some (.string u.1.m) ∧ W.cell? ⟨g, at_ * 4 + 1, none⟩ = some (.slice u.2.1.1 tn u.2.1.2) ∧ W.cell? ⟨g, at_ * 4 + 2, none⟩ = some (.slice u.2.2.1 fn u.2.2.2) ∧ W.cell? ⟨g, at_ * 4 + 3, none⟩ = some (.int .i64 u.1.tm)) ∧ W.cell? ⟨K + 1, 0, none⟩ = some (.string x.s.m) ∧ W.cell? ⟨K + 1, 1, none⟩ = some (.slice tx nx cx) ∧ W.cell? ⟨K + 1, 2, none⟩ = some (.slice none 0 0) ∧ W.cell? ⟨K + 1, 3, none⟩ = some (.int .i64 x.tm)) (by kernel_rfl) ⟨⟨r1, r2, r3, r4⟩, b1, b2, b3, b4⟩ (fun hHeld => ?_)
                refine zT 0 (v := ?_) rfl ?_ ?_
                rotate_left 1
                · (intro w0 hSw; (try dsimp only at hSw); obtain ⟨⟨s1, s2, s3, s4⟩, t1, t2, t3, t4⟩ := hSw; go_simp; try with_reducible rfl)
                (try simp only [z1, z2, z3]); (try simp only [Act.put, z4, z5, z6])
                refine zT 1 (v := ?_) rfl ?_ ?_
                rotate_left 1
                · (intro w0 hSw; (try dsimp only at hSw); obtain ⟨⟨s1, s2, s3, s4⟩, t1, t2, t3, t4⟩ := hSw; go_simp; try with_reducible rfl)
                (try simp only [z1, z2, z3]); (try simp only [Act.put, z4, z5, z6])
                refine zT 2 (v := ?_) rfl ?_ ?_
                rotate_left 1
                · (intro w0 hSw; (try dsimp only at hSw); obtain ⟨⟨s1, s2, s3, s4⟩, t1, t2, t3, t4⟩ := hSw; go_simp; try with_reducible rfl)
                (try simp only [z1, z2, z3]); (try simp only [Act.put, z4, z5, z6])
                refine zT 3 (v := ?_) rfl ?_ ?_
                rotate_left 1
                · (intro w0 hSw; (try dsimp only at hSw); obtain ⟨⟨s1, s2, s3, s4⟩, t1, t2, t3, t4⟩ := hSw; go_simp; try with_reducible rfl)
                (try simp only [z1, z2, z3]); (try simp only [Act.put, z4, z5, z6])
                refine zT 4 (v := ?_) rfl ?_ ?_
                rotate_left 1
                · (intro w0 hSw; (try dsimp only at hSw); obtain ⟨⟨s1, s2, s3, s4⟩, t1, t2, t3, t4⟩ := hSw; go_simp; try with_reducible rfl)
                (try simp only [z1, z2, z3]); (try simp only [Act.put, z4, z5, z6])
                refine zT 5 (v := ?_) rfl ?_ ?_
                rotate_left 1
                · (intro w0 hSw; (try dsimp only at hSw); obtain ⟨⟨s1, s2, s3, s4⟩, t1, t2, t3, t4⟩ := hSw; go_simp; try with_reducible rfl)
                (try simp only [z1, z2, z3]); (try simp only [Act.put, z4, z5, z6])
                refine zT 6 (v := ?_) rfl ?_ ?_
                rotate_left 1
                · (intro w0 hSw; (try dsimp only at hSw); obtain ⟨⟨s1, s2, s3, s4⟩, t1, t2, t3, t4⟩ := hSw; go_simp; try with_reducible rfl)
                (try simp only [z1, z2, z3]); (try simp only [Act.put, z4, z5, z6])
                refine zT 7 (v := ?_) rfl ?_ ?_
                rotate_left 1
                · (intro w0 hSw; (try dsimp only at hSw); obtain ⟨⟨s1, s2, s3, s4⟩, t1, t2, t3, t4⟩ := hSw; go_simp; try with_reducible rfl)
                (try simp only [z1, z2, z3]); (try simp only [Act.put, z4, z5, z6])
                refine zT 8 (v := ?_) rfl ?_ ?_
                rotate_left 1
                · (intro w0 hSw; (try dsimp only at hSw); obtain ⟨⟨s1, s2, s3, s4⟩, t1, t2, t3, t4⟩ := hSw; go_simp; try with_reducible rfl)
                (try simp only [z1, z2, z3]); (try simp only [Act.put, z4, z5, z6])
                refine zT 9 (v := ?_) rfl ?_ ?_
                rotate_left 1
                · (intro w0 hSw; (try dsimp only at hSw); obtain ⟨⟨s1, s2, s3, s4⟩, t1, t2, t3, t4⟩ := hSw; go_simp; try with_reducible rfl)
                (try simp only [z1, z2, z3]); (try simp only [Act.put, z4, z5, z6])
                refine wpAnyH_ready (rs := [10]) (by kernel_rfl) (by simp) ?_
                refine AllReadyH.cons (o := _) rfl (fun K0 hK => ?_) AllReadyH.nil
                go_simp
                refine Calls.mono (CH.out _ (show DI w3 K x tx nx cx (.slice (some ⟨g, 0, none⟩) z c3) L wp.drew from hDI.out.below (show Below wp.heap.size wp wp.drew from (Below.refl _ wp).drew))) ?_
                rintro e w' ⟨rfl, BB⟩
                try dsimp only
                refine hK _ _ ?_ (fun hHeld => ?_)
                · exact ⟨⟨by rw [BB.cell (p := ⟨g, at_ * 4, none⟩) gl]; exact r1, by rw [BB.cell (p := ⟨g, at_ * 4 + 1, none⟩) gl]; exact r2, by rw [BB.cell (p := ⟨g, at_ * 4 + 2, none⟩) gl]; exact r3, by rw [BB.cell (p := ⟨g, at_ * 4 + 3, none⟩) gl]; exact r4⟩, by rw [BB.cell (p := ⟨K + 1, 0, none⟩) KPl]; exact b1, by rw [BB.cell (p := ⟨K + 1, 1, none⟩) KPl]; exact b2, by rw [BB.cell (p := ⟨K + 1, 2, none⟩) KPl]; exact b3, by rw [BB.cell (p := ⟨K + 1, 3, none⟩) KPl]; exact b4⟩
                clear hK K0
                (try simp only [z1, z2, z3]); (try simp only [Act.put, z4, z5, z6])
                refine zT 11 (v := ?_) rfl ?_ ?_
                rotate_left 1
                · (intro w0 hSw; (try dsimp only at hSw); obtain ⟨⟨s1, s2, s3, s4⟩, t1, t2, t3, t4⟩ := hSw; go_simp; try with_reducible rfl)
                (try simp only [z1, z2, z3]); (try simp only [Act.put, z4, z5, z6])
                refine zT 12 (v := ?_) rfl ?_ ?_
                rotate_left 1
                · (intro w0 hSw; (try dsimp only at hSw); obtain ⟨⟨s1, s2, s3, s4⟩, t1, t2, t3, t4⟩ := hSw; go_simp; try with_reducible rfl)
                (try simp only [z1, z2, z3]); (try simp only [Act.put, z4, z5, z6])
                refine wpAnyH_done (by kernel_rfl) ?_ _
                refine NoPanic.normal ?_
                have hD2 : Hid (DI w3 K x tx nx cx (.slice (some ⟨g, 0, none⟩) z c3) L w') := (hDI.out.below (show Below wp.heap.size wp wp.drew from (Below.refl _ wp).drew)).below BB
                clear hDI BB hHeld r1 r2 r3 r4 b1 b2 b3 b4 gl KPl CH
                generalize w' = WY at *
                have hDI := hD2
                clear hD2
                generalize hga : (some ⟨g, 0, none⟩ : Option Addr) = a3 at *
                clear hga
                have CC : Hid (Calls Tryz.prog 14 #[.agg #[.string x.s.m, .slice tx nx cx, .string x.s.f]] WY fun e w' => ∃ a' c', e = .returned (.agg #[.string x.s.m, .slice a' nx c', .string x.s.f]) ∧ TgIn w' a' x.s.t ∧ (∀ ad, a' = some ad → WY.heap.size ≤ ad.block) ∧ Below WY.heap.size WY w') := by
                  have := copySeries_any tx cx x.s WY ⟨hDI.out.ts.below hDI.out.bl, by omega⟩ hxt
                  rw [hnx.out] at this
                  exact this
                have k0 := hDI.out.bx.w0
                have k1 := hDI.out.bx.w1
                have k2 := hDI.out.bx.w2
                have hfs : ∀ (p q r : Value) (w : World), (Instr.field 44 (.agg #[p, q, r]) 1).run Tryz.prog w = .ok q w := fieldSer
                go_wp2_with fail
                refine Calls.mono CC.out ?_
                rintro e w5 ⟨a', c', rfl, t5, n5, b5⟩
                have hD5 : Hid (DI w3 K x tx nx cx (.slice a3 z c3) L w5) := hDI.out.below b5
                have kl := hDI.out.bx.kl
                obtain ⟨W7, hW7⟩ : ∃ W7, W7 = ((w5.setCell ⟨K + 1, 1, none⟩ (.slice a' nx c')).setCell ⟨K + 1, 2, none⟩ (.slice (some ⟨w5.heap.size, 0, none⟩) 1 1)).alloc (.cells #[.string x.s.f, .int .i64 x.n] 54) := ⟨_, rfl⟩
                obtain ⟨gq, cq, w8, rP0, hI8⟩ := hD5.out.start a' c' t5 (fun ad e => by have := n5 ad e; omega) (by have := hDS.out.le; omega) W7 hW7
                have rP : Hid (∀ W, W = W7.alloc (.cells #[.string ⟨#[]⟩, .slice none 0 0, .slice none 0 0, .int .i64 0] 41) → (Builtin.append_ #[26, 26] 26 #[.slice a3 z c3, .slice (some ⟨w5.heap.size + 1, 0, none⟩) 1 1]).run Tryz.prog W = .ok (.slice (some ⟨gq, 0, none⟩) (z + 1) cq) w8) := fun W e => by subst e; exact rP0
                have I8 : Hid (IS w3 (K + 1) (⟨x.s.m, x.s.t, [(x.s.f, x.n)], x.tm⟩, (a', c'), (some ⟨w5.heap.size, 0, none⟩, 1)) gq (z + 1) cq L z w8) := hI8
                have p0 := hD5.out.bx.p0
                have p1 := hD5.out.bx.p1
                have p2 := hD5.out.bx.p2
                have p3 := hD5.out.bx.p3
                have y1 := hD5.out.bx.z1
                have y2 := hD5.out.bx.z2
                have q0 := hD5.out.bx.f0
                have q1 := hD5.out.bx.f1
                have kl5 : K + 1 + 1 < w5.heap.size := hD5.out.bx.kl
                have kl6 : K + 1 < w5.heap.size := by omega
                have n51 : ¬ w5.heap.size = K + 1 := by omega
                have n52 : ¬ K + 1 = w5.heap.size := by omega
                have n53 : ¬ w5.heap.size = K + 1 + 1 := by omega
                have zle : z ≤ i := hzi.out
                obtain ⟨zw1, zw2, zw3, z0, z1, z2⟩ := nums6 z i zle (by omega)
                have zwH : Hid (wrap64 (z : Int) = (z : Int)) := zw3
                have insH : Hid (∀ (L2 : List PtA) (W : World), L2 = L.take at_ ++ ((⟨x.s.m, x.s.t, [(x.s.f, x.n)], x.tm⟩, (a', c'), (some ⟨w5.heap.size, 0, none⟩, 1)) : PtA) :: L.drop at_ → PG W w3.heap.size (.slice (some ⟨gq, 0, none⟩) (z + 1) cq) L2 → Below w3.heap.size w3 W → DS w3 R (i + 1) (.slice (some ⟨gq, 0, none⟩) (z + 1) cq) L2 W) := fun L2 W e hp hb => hDS.out.ins hxH.out hkd0.out hatH.out hallH.out hcmp.out hxt a' c' _ e hp hb
                have zlH : Hid (z = L.length) := hzl
                clear CC t5 n5 b5 hDI hD5 kl rP0 hI8 k0 k1 k2 hDS hallH hcmp zle
                rw [hW7] at rP
                go_wp2_with (at_builtin; refine wpList_append_runB (by rfl) _ _ _ (by rfl) _ _ _ _ (by rfl) (by rfl) (rP.out _ rfl) ?_)
                clear rP hW7 p0 p1 p2 p3 y1 y2 q0 q1 n51 n52 n53 zw1 zw2 zw3 kl5 kl6
                generalize w5.heap.size = KG at *
                obtain ⟨U, hU⟩ : ∃ U : PtA, U = (⟨x.s.m, x.s.t, [(x.s.f, x.n)], x.tm⟩, (a', c'), (some ⟨KG, 0, none⟩, 1)) := ⟨_, rfl⟩
                rw [← hU] at I8 insH
                clear hU
                go_loopw [10] (fun v10 wx => ∃ k : Nat, v10 = .int .i64 (k : Int) ∧ at_ ≤ k ∧ k ≤ z ∧ Hid (IS w3 (K + 1) U gq (z + 1) cq L k wx)) (fun v10 _ => (intOf v10).toNat)
                case atStart => exact ⟨z, by first | rfl | (simp; exact zwH.out), hatz, Nat.le_refl _, I8⟩
                case round =>
                  clear I8 z0 z1 z2
                  obtain ⟨k, rfl, hka, hkz, hI⟩ := hrel
                  by_cases hk : at_ < k
                  · have hkI : (k : Int) > (at_ : Int) := by omega
                    have hkJ : (at_ : Int) < (k : Int) := by omega
                    obtain ⟨kw, k0, k1, k2, k3, k5⟩ := nums7 k z (by omega) hkz (by have := hzi.out; omega)
                    have hI1 := hI.out
                    rw [show k = k - 1 + 1 by omega] at hI1
                    obtain ⟨t, ht, hr, _, hI2, hfz⟩ := hI1.shift (by have := zlH.out; omega)
                    rw [show k - 1 + 1 = k by omega] at hI2 hfz
                    obtain ⟨⟨v0, f0⟩, z0⟩ := hfz 0 (by omega)
                    obtain ⟨⟨v1, f1⟩, z1⟩ := hfz 1 (by omega)
                    obtain ⟨⟨v2, f2⟩, z2⟩ := hfz 2 (by omega)
                    obtain ⟨⟨v3, f3⟩, z3⟩ := hfz 3 (by omega)
                    rw [Nat.add_zero] at f0 z0
                    have hI2H : Hid (IS w3 (K + 1) U gq (z + 1) cq L (k - 1) (put4 wr gq (k * 4) t)) := hI2
                    unfold put4 at hI2H
                    unfold PAt at hr
                    generalize t.1.t.length = tn' at hr hI2H
                    generalize t.1.f.length = fn' at hr hI2H
                    obtain ⟨r1, r2, r3, r4⟩ := hr
                    clear hI hI1 hI2 hfz ht
                    go_wp2_with fail
                    exact ⟨⟨k - 1, by first | rfl | rw [show ((k - 1 : Nat) : Int) = (k : Int) - 1 by omega], by omega, by omega, hI2H⟩, by simp [intOf]; omega⟩
                  · have hkI : ¬ (k : Int) > (at_ : Int) := by omega
                    have hkJ : ¬ (at_ : Int) < (k : Int) := by omega
                    obtain rfl : k = at_ := by omega
                    obtain ⟨hP, hB, hfz⟩ := hI.out.done (by have := zlH.out; omega)
                    obtain ⟨⟨v0, f0⟩, z0⟩ := hfz 0 (by omega)
                    obtain ⟨⟨v1, f1⟩, z1⟩ := hfz 1 (by omega)
                    obtain ⟨⟨v2, f2⟩, z2⟩ := hfz 2 (by omega)
                    obtain ⟨⟨v3, f3⟩, z3⟩ := hfz 3 (by omega)
                    rw [Nat.add_zero] at f0 z0
                    have D8 : Hid (DS w3 R (i + 1) (.slice (some ⟨gq, 0, none⟩) (z + 1) cq) (L.take k ++ U :: L.drop k) (put4 wr gq (k * 4) U)) := insH.out _ _ rfl hP hB
                    have p0 := hI.out.p0
                    have p1 := hI.out.p1
                    have p2 := hI.out.p2
                    have p3 := hI.out.p3
                    obtain ⟨kI0, kI1⟩ := nums8 k z (by omega)
                    unfold put4 at D8
                    generalize U.1.t.length = tn' at p1 D8
                    generalize U.1.f.length = fn' at p2 D8
                    clear hI hP hB hfz insH
                    go_wp2_with fail
                    exact ⟨⟨i + 1, z + 1, cq, some ⟨gq, 0, none⟩, _, rfl, by first | rfl | simp, by omega, D8⟩, by simp [intOf]; omega⟩
          · have hltI : ¬ (at_ : Int) < (z : Int) := by omega
            have hcmp : Hid (Cmp L at_ x) := fun u' hu' => by
              have := (List.getElem?_eq_some_iff.1 hu').1
              have := hzl.out
              omega
            go_wp2_with fail
            go_quiet (fail)
            generalize hwq : World.drewN wr _ = wq
            have hD2 : Hid (DI w3 K x tx nx cx (.slice a3 z c3) L wq) := hDI.out.below (hwq ▸ bdrewB (Below.refl _ wr) _)
            clear hwq hDI
            go_wp2_with fail
            go_quiet (fail)
            generalize hwq : World.drewN wq _ = WY
            have hDI : Hid (DI w3 K x tx nx cx (.slice a3 z c3) L WY) := hD2.out.below (hwq ▸ bdrewB (Below.refl _ wq) _)
            clear hwq hD2
            have CC : Hid (Calls Tryz.prog 14 #[.agg #[.string x.s.m, .slice tx nx cx, .string x.s.f]] WY fun e w' => ∃ a' c', e = .returned (.agg #[.string x.s.m, .slice a' nx c', .string x.s.f]) ∧ TgIn w' a' x.s.t ∧ (∀ ad, a' = some ad → WY.heap.size ≤ ad.block) ∧ Below WY.heap.size WY w') := by
              have := copySeries_any tx cx x.s WY ⟨hDI.out.ts.below hDI.out.bl, by omega⟩ hxt
              rw [hnx.out] at this
              exact this
            have k0 := hDI.out.bx.w0
            have k1 := hDI.out.bx.w1
            have k2 := hDI.out.bx.w2
            have hfs : ∀ (p q r : Value) (w : World), (Instr.field 44 (.agg #[p, q, r]) 1).run Tryz.prog w = .ok q w := fieldSer
            go_wp2_with fail
            refine Calls.mono CC.out ?_
            rintro e w5 ⟨a', c', rfl, t5, n5, b5⟩
            have hD5 : Hid (DI w3 K x tx nx cx (.slice a3 z c3) L w5) := hDI.out.below b5
            have kl := hDI.out.bx.kl
            obtain ⟨W7, hW7⟩ : ∃ W7, W7 = ((w5.setCell ⟨K + 1, 1, none⟩ (.slice a' nx c')).setCell ⟨K + 1, 2, none⟩ (.slice (some ⟨w5.heap.size, 0, none⟩) 1 1)).alloc (.cells #[.string x.s.f, .int .i64 x.n] 54) := ⟨_, rfl⟩
            obtain ⟨gq, cq, w8, rP0, hI8⟩ := hD5.out.start a' c' t5 (fun ad e => by have := n5 ad e; omega) (by have := hDS.out.le; omega) W7 hW7
            have rP : Hid (∀ W, W = W7.alloc (.cells #[.string ⟨#[]⟩, .slice none 0 0, .slice none 0 0, .int .i64 0] 41) → (Builtin.append_ #[26, 26] 26 #[.slice a3 z c3, .slice (some ⟨w5.heap.size + 1, 0, none⟩) 1 1]).run Tryz.prog W = .ok (.slice (some ⟨gq, 0, none⟩) (z + 1) cq) w8) := fun W e => by subst e; exact rP0
            have I8 : Hid (IS w3 (K + 1) (⟨x.s.m, x.s.t, [(x.s.f, x.n)], x.tm⟩, (a', c'), (some ⟨w5.heap.size, 0, none⟩, 1)) gq (z + 1) cq L z w8) := hI8
            have p0 := hD5.out.bx.p0
            have p1 := hD5.out.bx.p1
            have p2 := hD5.out.bx.p2
            have p3 := hD5.out.bx.p3
            have y1 := hD5.out.bx.z1
            have y2 := hD5.out.bx.z2
            have q0 := hD5.out.bx.f0
            have q1 := hD5.out.bx.f1
            have kl5 : K + 1 + 1 < w5.heap.size := hD5.out.bx.kl
            have kl6 : K + 1 < w5.heap.size := by omega
            have n51 : ¬ w5.heap.size = K + 1 := by omega
            have n52 : ¬ K + 1 = w5.heap.size := by omega
            have n53 : ¬ w5.heap.size = K + 1 + 1 := by omega
            have zle : z ≤ i := hzi.out
            obtain ⟨zw1, zw2, zw3, z0, z1, z2⟩ := nums6 z i zle (by omega)
            have zwH : Hid (wrap64 (z : Int) = (z : Int)) := zw3
            have insH : Hid (∀ (L2 : List PtA) (W : World), L2 = L.take at_ ++ ((⟨x.s.m, x.s.t, [(x.s.f, x.n)], x.tm⟩, (a', c'), (some ⟨w5.heap.size, 0, none⟩, 1)) : PtA) :: L.drop at_ → PG W w3.heap.size (.slice (some ⟨gq, 0, none⟩) (z + 1) cq) L2 → Below w3.heap.size w3 W → DS w3 R (i + 1) (.slice (some ⟨gq, 0, none⟩) (z + 1) cq) L2 W) := fun L2 W e hp hb => hDS.out.ins hxH.out hkd0.out hatH.out hallH.out hcmp.out hxt a' c' _ e hp hb
            have zlH : Hid (z = L.length) := hzl
            clear CC t5 n5 b5 hDI hD5 kl rP0 hI8 k0 k1 k2 hDS hallH hcmp zle
            rw [hW7] at rP
            go_wp2_with (at_builtin; refine wpList_append_runB (by rfl) _ _ _ (by rfl) _ _ _ _ (by rfl) (by rfl) (rP.out _ rfl) ?_)
            clear rP hW7 p0 p1 p2 p3 y1 y2 q0 q1 n51 n52 n53 zw1 zw2 zw3 kl5 kl6
            generalize w5.heap.size = KG at *
            obtain ⟨U, hU⟩ : ∃ U : PtA, U = (⟨x.s.m, x.s.t, [(x.s.f, x.n)], x.tm⟩, (a', c'), (some ⟨KG, 0, none⟩, 1)) := ⟨_, rfl⟩
            rw [← hU] at I8 insH
            clear hU
            go_loopw [10] (fun v10 wx => ∃ k : Nat, v10 = .int .i64 (k : Int) ∧ at_ ≤ k ∧ k ≤ z ∧ Hid (IS w3 (K + 1) U gq (z + 1) cq L k wx)) (fun v10 _ => (intOf v10).toNat)
            case atStart => exact ⟨z, by first | rfl | (simp; exact zwH.out), hatz, Nat.le_refl _, I8⟩
            case round =>
              clear I8 z0 z1 z2
              obtain ⟨k, rfl, hka, hkz, hI⟩ := hrel
              by_cases hk : at_ < k
              · exfalso; omega
              · have hkI : ¬ (k : Int) > (at_ : Int) := by omega
                have hkJ : ¬ (at_ : Int) < (k : Int) := by omega
                obtain rfl : k = at_ := by omega
                obtain ⟨hP, hB, hfz⟩ := hI.out.done (by have := zlH.out; omega)
                obtain ⟨⟨v0, f0⟩, z0⟩ := hfz 0 (by omega)
                obtain ⟨⟨v1, f1⟩, z1⟩ := hfz 1 (by omega)
                obtain ⟨⟨v2, f2⟩, z2⟩ := hfz 2 (by omega)
                obtain ⟨⟨v3, f3⟩, z3⟩ := hfz 3 (by omega)
                rw [Nat.add_zero] at f0 z0
                have D8 : Hid (DS w3 R (i + 1) (.slice (some ⟨gq, 0, none⟩) (z + 1) cq) (L.take k ++ U :: L.drop k) (put4 wr gq (k * 4) U)) := insH.out _ _ rfl hP hB
                have p0 := hI.out.p0
                have p1 := hI.out.p1
                have p2 := hI.out.p2
                have p3 := hI.out.p3
                obtain ⟨kI0, kI1⟩ := nums8 k z (by omega)
                unfold put4 at D8
                generalize U.1.t.length = tn' at p1 D8
                generalize U.1.f.length = fn' at p2 D8
                clear hI hP hB hfz insH
                go_wp2_with fail
                exact ⟨⟨i + 1, z + 1, cq, some ⟨gq, 0, none⟩, _, rfl, by first | rfl | simp, by omega, D8⟩, by simp [intOf]; omega⟩
      · have hkb : ((x.kd : Int) == 0) = false := by simp; omega
        have hkn : ((x.kd : Int) != 0) = true := by simp; omega
        have P1 : Hid (DS w3 R (i + 1) (.slice a3 z c3) L (wo.alloc (.cells #[.string x.s.m, .slice tx nx cx, .string x.s.f, .int .i64 x.tm, .int .u8 (x.kd : Int), .int .i64 x.n] 52))) := (hDS.out.skip hxH.out hkd).below ((Below.refl _ wo).alloc (Nat.le_refl _) _)
        clear hkd hDS
        go_wp2_with fail
        exact ⟨⟨i + 1, z, c3, a3, L, rfl, by first | rfl | simp, by omega, P1⟩, by simp [intOf]; omega⟩
    · have hiI : ¬ (i : Int) < (m : Int) := by omega
      obtain rfl : i = m := by omega
      have fin : Hid (PtsR w wo l (.returned (.slice a3 z c3))) := by
        have P := hDS.out
        refine ⟨_, L, w3.heap.size, rfl, P.pg, ?_, P.tl, fun u hu => by have := P.fl u hu; omega, by have := P.le; omega, B3.out.trans (P.bl.mono B3.out.size)⟩
        rw [P.is, List.take_of_length_le (by have := hmH.out; omega), hRH.out]
        rfl
      clear hDS
      go_wp2_with fail
      go_ret
      exact fin.out
end Go.Proofs.YtepakgfdakeibaaGreatDoor.So.Wr

namespace Go.Proofs.YtepakgfdakeibaaGreatDoor.So.Wr
open Go.RowKit
set_option linter.unusedVariables false
set_option linter.unusedSimpArgs false
theorem PtsR.psin {w w' : World} {l : List WrP} {e : Ending} (h : PtsR w w' l e) (hl : l.length ≤ 549755813888) : ∃ a z c, e = .returned (.slice a z c) ∧ z = (ptsD l).length ∧ z ≤ l.length ∧ PsIn w' a (ptsD l) ∧ Below w.heap.size w w' := by
  obtain ⟨v, L, B, rfl, hp, hi, ht, hf, hn, hb⟩ := h
  obtain ⟨a, c, rfl, hc, hs⟩ := hp.psin ht (fun u hu => by have := hf u hu; omega)
  rw [hi] at hs
  exact ⟨a, L.length, c, rfl, by rw [← hi, List.length_map], hn, hs, hb⟩
/-- what lies in memory while BatchPoints runs. -/
def PtT (w : World) (g d : Nat) (a : Option Addr) (l : List WrP) (W : World) : Prop := KpR W g d l ∧ WIn W a l ∧ Below w.heap.size w W
theorem PtT.below {w : World} {g d : Nat} {a : Option Addr} {l : List WrP} {W W' : World} (h : PtT w g d a l W) (hB : Below W.heap.size W W') : PtT w g d a l W' := ⟨h.1.below hB, h.2.1.below hB, h.2.2.trans (hB.mono h.2.2.size)⟩
set_option maxRecDepth 100000 in
set_option maxHeartbeats 8000000 in
theorem batchPoints_walk (a : Option Addr) (c : Nat) (l : List WrP) (w : World) (ha : WIn w a l) (hc : l.length ≤ c) (hl : l.length ≤ 268435456) (htl : ∀ x ∈ l, x.s.t.length ≤ 4398046511104) (hT : UT w) (hE : ET w) :
    Calls Tryz.prog 3 #[.slice a l.length c] w fun e w' => e = .returned (.bool true) ∧ Below w.heap.size w w' := by
  have cW1 : Hid (Calls Tryz.prog 5 #[.slice a l.length c] w fun e w' => ∃ g d, e = .returned (.slice (some ⟨g, 0, none⟩) l.length d) ∧ PtT w g d a l w') := (writes_any a c l w ha (by omega) htl).mono fun e w' ⟨g, d, h1, h2, h3⟩ => ⟨g, d, h1, h2, ha.below h3, h3⟩
  have cL : Hid (∀ W, Below w.heap.size w W → Calls Tryz.prog 6 #[] W fun e w' => e = .returned (.bool true) ∧ Below W.heap.size W w') := fun W hW => blive_any W (hT.below hW (Nat.le_refl _)) (ET_below hE hW)
  have cP : Hid (∀ W g d, PtT w g d a l W → Calls Tryz.prog 8 #[.slice (some ⟨g, 0, none⟩) l.length d] W fun e w' => ∃ a' z c', e = .returned (.slice a' z c') ∧ z = (ptsD l).length ∧ PsIn w' a' (ptsD l) ∧ Below W.heap.size W w') := fun W g d h => (bpoints_any _ d l W h.1.win (by omega) htl).mono fun e w' hh => by
    obtain ⟨a', z, c', h1, h2, _, h3, h4⟩ := hh.psin (by omega)
    exact ⟨a', z, c', h1, h2, h3, h4⟩
  have cR : Hid (∀ W g d, PtT w g d a l W → Calls Tryz.prog 9 #[.slice a l.length c] W fun e w' => ∃ a' z c', e = .returned (.slice a' z c') ∧ z = (ptsD l).length ∧ z ≤ l.length ∧ PsIn w' a' (ptsD l) ∧ Below W.heap.size W w') := fun W g d h => (rpoints_any a c l W h.2.1 hc (by omega) htl).mono fun e w' hh => hh.psin (by omega)
  have cS : Hid (∀ W a' a3 z z' c' c3, z = (ptsD l).length → z' = (ptsD l).length → z' ≤ l.length → PsIn W a' (ptsD l) → PsIn W a3 (ptsD l) → Calls Tryz.prog 7 #[.slice a' z c', .slice a3 z' c3] W fun e w' => e = .returned (.bool true) ∧ Below W.heap.size W w') := fun W a' a3 z z' c' c3 e e' hz h1 h2 => by
    subst e e'
    exact samePoints_true a' a3 c' c3 _ W h1 h2 (by omega)
  have cK : Hid (∀ W g d, PtT w g d a l W → Calls Tryz.prog 10 #[.slice (some ⟨g, 0, none⟩) l.length d, .slice a l.length c] W fun e w' => e = .returned (.bool true) ∧ Below W.heap.size W w') := fun W g d h => bkept_any g d a c l W h.1 h.2.1 (by omega)
  clear ha htl hT hE
  generalize l.length = n at *
  go_enter Tryz.func3, Tryz.ntmps3
  go_wp2_with fail
  refine Calls.mono cW1.out ?_
  rintro e w1 ⟨g, d, rfl, h1⟩
  have O1 : Hid (PtT w g d a l w1) := h1
  clear h1 cW1
  go_wp2_with fail
  refine Calls.mono (cL.out _ O1.out.2.2) ?_
  rintro e w2 ⟨rfl, b2⟩
  have O2 : Hid (PtT w g d a l w2) := O1.out.below b2
  clear b2 O1 cL
  go_wp2_with fail
  refine Calls.mono (cP.out _ _ _ O2.out) ?_
  rintro e w5 ⟨a5, z5, c5, rfl, e5, r5, b5⟩
  have O5 : Hid (PtT w g d a l w5 ∧ z5 = (ptsD l).length ∧ PsIn w5 a5 (ptsD l)) := ⟨O2.out.below b5, e5, r5⟩
  clear b5 e5 r5 O2 cP
  go_wp2_with fail
  refine Calls.mono (cR.out _ _ _ O5.out.1) ?_
  rintro e w6 ⟨a6, z6, c6, rfl, e6, l6, r6, b6⟩
  have cX : Hid (Calls Tryz.prog 7 #[.slice a5 z5 c5, .slice a6 z6 c6] w6 fun e w' => e = .returned (.bool true) ∧ Below w6.heap.size w6 w') := cS.out w6 a5 a6 z5 z6 c5 c6 O5.out.2.1 e6 l6 (O5.out.2.2.below b6) r6
  have O6 : Hid (PtT w g d a l w6) := O5.out.1.below b6
  clear b6 e6 r6 O5 cR cS l6
  go_wp2_with fail
  refine Calls.mono cX.out ?_
  rintro e w7 ⟨rfl, b7⟩
  have O7 : Hid (PtT w g d a l w7) := O6.out.below b7
  clear b7 O6 cX
  go_wp2_with fail
  refine Calls.mono (cK.out _ _ _ O7.out) ?_
  rintro e w8 ⟨rfl, b8⟩
  have fin : Hid (Below w.heap.size w w8) := (O7.out.below b8).2.2
  clear b8 O7 cK
  go_wp2_with fail
  go_ret
  exact ⟨rfl, fin.out⟩
end Go.Proofs.YtepakgfdakeibaaGreatDoor.So.Wr

namespace Go.Proofs.YtepakgfdakeibaaGreatDoor
open Go.ChangeShapes Go.WideShapes Go.ChangeAt Go.RowKit
set_option linter.unusedVariables false
def strOf : Value → ByteArray
  | .string s => s
  | _ => ⟨#[]⟩
set_option maxRecDepth 100000 in
/-- tags, as they are read. -/
theorem tags_read {H : Type} {enc : TypeId × Value → H} {W : World} {v : Value} {y : DataW H × List MemPlace} {fuel : Nat}
    (hf : DataW.trod enc Tryz.prog W 0 (fun _ => true) true fuel 38 [v] = some y) :
    ∃ a l cap, v = .slice a l.length cap ∧ TgIn W a l ∧ l.length ≤ 9223372036854775807 := by
  rcases Go.Deep.open_slice_pairs Tryz.underlying38 Tryz.underlying82 (by kernel_rfl) rfl rfl (by kernel_rfl) (by kernel_rfl) hf with ⟨hcs, hx⟩ | ⟨a, len, cap, m, n, V0, V1, D0, D1, P0, P1, hcs, _, hl, hm, hmeq, hx, hall⟩
  · simp at hcs
    subst hcs
    exact ⟨none, [], 0, rfl, Or.inl rfl, by simp⟩
  · simp at hcs
    subst hcs
    simp only [if_true] at hmeq
    have hml : len ≤ 9223372036854775807 := by have : maxLen = 9223372036854775807 := rfl; omega
    have key : ∀ i, i < m → ∃ s t, V0 i = .string s ∧ V1 i = .string t := fun i hi => by
      obtain ⟨_, _, t0, t1⟩ := hall i hi
      obtain ⟨s, e0, _⟩ := DataW.trod_string Tryz.underlying9 t0
      obtain ⟨t, e1, _⟩ := DataW.trod_string Tryz.underlying9 t1
      simp at e0 e1
      exact ⟨s, t, e0, e1⟩
    refine ⟨some a, (List.range len).map (fun i => (strOf (V0 i), strOf (V1 i))), cap, by simp, ?_, by simpa using hml⟩
    rcases Nat.eq_zero_or_pos len with h0 | h0
    · subst h0; exact Or.inl rfl
    · right
      obtain ⟨b, off, spot⟩ := a
      have hspot : spot = none := by simpa [Addr.add] using World.cell?_spot (hall 0 (by omega)).1
      subst hspot
      refine ⟨b, off, rfl, ?_, fun i t ht => ?_⟩
      · have h' := (hall 0 (by omega)).1
        rw [Go.WideShapes.add_plain] at h'
        rcases Nat.lt_or_ge b W.heap.size with h2 | h2
        · exact h2
        · simp [World.cell?, Array.getElem?_eq_none h2] at h'
      · have hi : i < len := by
          have := (List.getElem?_eq_some_iff.1 ht).1
          simpa using this
        have et : t = (strOf (V0 i), strOf (V1 i)) := by
          rw [List.getElem?_map, List.getElem?_range hi] at ht
          simpa using ht.symm
        subst et
        obtain ⟨s, u, e0, e1⟩ := key i (by omega)
        obtain ⟨c0, c1, _, _⟩ := hall i (by omega)
        rw [Go.WideShapes.add_plain] at c0 c1
        refine ⟨?_, ?_⟩
        · rw [c0, e0]; rfl
        · rw [← Nat.add_assoc] at c1; rw [c1, e1]; rfl
end Go.Proofs.YtepakgfdakeibaaGreatDoor

namespace Go.Proofs.YtepakgfdakeibaaGreatDoor
open Go.ChangeShapes Go.WideShapes Go.ChangeAt Go.RowKit
set_option linter.unusedVariables false
set_option linter.unusedSimpArgs false
theorem bulk_posW {H : Type} (d : DataW H) : 1 ≤ Rows.uptoBulk d := by
  cases d <;> first | (simp [Rows.uptoBulk]; done) | (rename_i q; cases q <;> simp [Rows.uptoBulk])
theorem bulk_lenW {H : Type} : ∀ l : List (DataW H), l.length ≤ Rows.uptoBulkAll l
  | [] => Nat.zero_le _
  | d :: r => by
    have h1 := bulk_posW d
    have h2 := bulk_lenW r
    simp only [Rows.uptoBulkAll, List.length_cons]; omega
theorem bulk_memW {H : Type} : ∀ {l : List (DataW H)} {d : DataW H}, d ∈ l → Rows.uptoBulk d ≤ Rows.uptoBulkAll l
  | x :: r, d, h => by
    simp only [Rows.uptoBulkAll]
    rcases List.mem_cons.1 h with e | e
    · subst e; omega
    · have := bulk_memW e; omega
/-- the bulk of tags bounds how many there are. -/
theorem tags_fewW {H : Type} {enc : TypeId × Value → H} {W : World} {a : Option Addr} {n cap : Nat} {y : DataW H × List MemPlace} {fuel : Nat}
    (hf : DataW.trod enc Tryz.prog W 0 (fun _ => true) true fuel 38 [.slice a n cap] = some y) : n ≤ Rows.uptoBulk y.1 := by
  rcases Go.Deep.open_slice Tryz.underlying38 hf with ⟨hcs, hx⟩ | ⟨a', len, cap', m, n', D, Pl, hcs, _, hl, hm, hmm, hx, hall⟩
  · simp at hcs
    omega
  · simp at hcs
    obtain ⟨_, rfl, rfl⟩ := hcs
    rw [hx]
    simp only [Rows.uptoBulk]
    have := bulk_lenW ((List.range n).map D)
    simp at this
    omega
set_option maxRecDepth 100000 in
/-- writes, as they are read, by their bulk. -/
theorem writes_bulk {H : Type} {enc : TypeId × Value → H} {W : World} {v : Value} {y : DataW H × List MemPlace} {fuel : Nat}
    (hf : DataW.trod enc Tryz.prog W 0 (fun _ => true) true fuel 22 [v] = some y) (hbk : Rows.uptoBulk y.1 ≤ 1048576) :
    ∃ a l cap, v = .slice a (List.length l) cap ∧ WIn W a l ∧ l.length ≤ cap ∧ l.length ≤ 1048576 ∧ ∀ x ∈ l, x.s.t.length ≤ 4398046511104 := by
  rcases Go.Deep.open_slice Tryz.underlying22 hf with ⟨hcs, hx⟩ | ⟨a, len, cap, m, n, D, Pl, hcs, hb, hl, hm, hmm, hx, hall⟩
  · simp at hcs
    subst hcs
    exact ⟨none, [], 0, rfl, Or.inl rfl, by simp, by simp, by simp⟩
  · simp at hcs
    subst hcs
    simp only [if_true] at hmm
    subst hmm
    have hce : Tryz.prog.cellsOf 52 = 6 := by kernel_rfl
    have hcs : Tryz.prog.cellsOf 44 = 3 := by kernel_rfl
    have hcm : Tryz.prog.cellsOf 50 = 3 := by kernel_rfl
    have hcv : Tryz.prog.cellsOf 48 = 2 := by kernel_rfl
    have ck : Tryz.prog.cellsOf 46 = 1 := by kernel_rfl
    have cu : Tryz.prog.cellsOf 2 = 1 := by kernel_rfl
    have cs : Tryz.prog.cellsOf 9 = 1 := by kernel_rfl
    have ct : Tryz.prog.cellsOf 38 = 1 := by kernel_rfl
    have hy1 : y.1 = .slice ((List.range len).map D) ((List.range (m - len)).map fun j => D (len + j)) := by rw [hx]
    have hbe : Rows.uptoBulkAll ((List.range len).map D) ≤ 1048576 := by
      rw [hy1] at hbk; simp only [Rows.uptoBulk] at hbk; omega
    have hsz : len ≤ 1048576 := by have := bulk_lenW ((List.range len).map D); simp at this; omega
    have each : ∀ i, i < len → ∃ q : WrA, (W.cell? (a.add (i * 6)) = some (.string q.1.s.m) ∧ W.cell? (a.add (i * 6 + 1)) = some (.slice q.2.1 q.1.s.t.length q.2.2) ∧ W.cell? (a.add (i * 6 + 2)) = some (.string q.1.s.f) ∧ W.cell? (a.add (i * 6 + 3)) = some (.int .i64 q.1.tm) ∧ W.cell? (a.add (i * 6 + 4)) = some (.int .u8 (q.1.kd : Int)) ∧ W.cell? (a.add (i * 6 + 5)) = some (.int .i64 q.1.n)) ∧ SerIn W q.2.1 q.1.s ∧ q.1.s.t.length ≤ 4398046511104 := by
      intro i hi
      obtain ⟨cs', h1, h2⟩ := hall i (by omega)
      rw [hce] at h1
      obtain ⟨_, hlen, hcell⟩ := World.cells?_some h1
      obtain ⟨xs, k, hk, hxy, _, hxl, hff⟩ := DataW.trod_struct Tryz.underlying52 h2
      have hDb : Rows.uptoBulk (D i) ≤ 1048576 := Nat.le_trans (bulk_memW (List.mem_map.2 ⟨i, List.mem_range.2 hi, rfl⟩)) hbe
      match xs, hxl, cs', hlen with
      | [y0, y1], _, [v0, v1, v2, v3, v4, v5], _ =>
        have g0 : DataW.trod enc Tryz.prog W 0 (fun _ => true) true k 44 (List.take (Tryz.prog.cellsOf 44) [v0, v1, v2, v3, v4, v5]) = some y0 := hff 0 _ rfl
        have g1 : DataW.trod enc Tryz.prog W 0 (fun _ => true) true k 50 (List.take (Tryz.prog.cellsOf 50) [v3, v4, v5]) = some y1 := hff 1 _ rfl
        rw [hcs] at g0
        rw [hcm] at g1
        simp only [List.take_succ_cons, List.take_zero] at g0 g1
        have hDi : D i = .agg [y0.1, y1.1] := by simpa using congrArg (·.1) hxy
        obtain ⟨xs', k', hk', hxy', _, hxl', hff'⟩ := DataW.trod_struct Tryz.underlying44 g0
        obtain ⟨xs2, k2, hk2, hxy2, _, hxl2, hff2⟩ := DataW.trod_struct Tryz.underlying50 g1
        match xs', hxl', xs2, hxl2 with
        | [u0, u1, u2], _, [u3, u4], _ =>
          have hy0 : y0.1 = .agg [u0.1, u1.1, u2.1] := by simpa using congrArg (·.1) hxy'
          have f0 : DataW.trod enc Tryz.prog W 0 (fun _ => true) true k' 9 (List.take (Tryz.prog.cellsOf 9) [v0, v1, v2]) = some u0 := hff' 0 _ rfl
          have f1 : DataW.trod enc Tryz.prog W 0 (fun _ => true) true k' 38 (List.take (Tryz.prog.cellsOf 38) [v1, v2]) = some u1 := hff' 1 _ rfl
          have f2 : DataW.trod enc Tryz.prog W 0 (fun _ => true) true k' 9 (List.take (Tryz.prog.cellsOf 9) [v2]) = some u2 := hff' 2 _ rfl
          have f3 : DataW.trod enc Tryz.prog W 0 (fun _ => true) true k2 2 (List.take (Tryz.prog.cellsOf 2) [v3, v4, v5]) = some u3 := hff2 0 _ rfl
          have f4 : DataW.trod enc Tryz.prog W 0 (fun _ => true) true k2 48 (List.take (Tryz.prog.cellsOf 48) [v4, v5]) = some u4 := hff2 1 _ rfl
          rw [cs] at f0 f2
          rw [ct] at f1
          rw [cu] at f3
          rw [hcv] at f4
          simp only [List.take_succ_cons, List.take_zero] at f0 f1 f2 f3 f4
          obtain ⟨xs3, k3, hk3, hxy3, _, hxl3, hff3⟩ := DataW.trod_struct Tryz.underlying48 f4
          match xs3, hxl3 with
          | [u5, u6], _ =>
            have f5 : DataW.trod enc Tryz.prog W 0 (fun _ => true) true k3 46 (List.take (Tryz.prog.cellsOf 46) [v4, v5]) = some u5 := hff3 0 _ rfl
            have f6 : DataW.trod enc Tryz.prog W 0 (fun _ => true) true k3 2 (List.take (Tryz.prog.cellsOf 2) [v5]) = some u6 := hff3 1 _ rfl
            rw [ck] at f5
            rw [cu] at f6
            simp only [List.take_succ_cons, List.take_zero] at f5 f6
            obtain ⟨sm, e0, _⟩ := DataW.trod_string Tryz.underlying9 f0
            obtain ⟨sf, e2, _⟩ := DataW.trod_string Tryz.underlying9 f2
            obtain ⟨n3, e3, _, w3⟩ := DataW.trod_int Tryz.underlying2 f3
            obtain ⟨n5, e5, _, w5⟩ := DataW.trod_int Tryz.underlying46 f5
            obtain ⟨n6, e6, _, w6⟩ := DataW.trod_int Tryz.underlying2 f6
            obtain ⟨ta, tl, tc, e1, ti, tn⟩ := tags_read f1
            subst e1
            have hfew := tags_fewW f1
            have hfew2 : tl.length ≤ 4398046511104 := by
              rw [hDi] at hDb
              simp only [Rows.uptoBulk, Rows.uptoBulkAll] at hDb
              rw [hy0] at hDb
              simp only [Rows.uptoBulk, Rows.uptoBulkAll] at hDb
              omega
            simp at e0 e2 e3 e5 e6
            subst e0 e2 e3 e5 e6
            have r0 := hcell 0 (by omega)
            have r1 := hcell 1 (by omega)
            have r2 := hcell 2 (by omega)
            have r3 := hcell 3 (by omega)
            have r4 := hcell 4 (by omega)
            have r5 := hcell 5 (by omega)
            rw [Go.Deep.add_add] at r0 r1 r2 r3 r4 r5
            have b5 := bounds_u8 w5
            refine ⟨(⟨⟨sm, tl, sf⟩, n3, n5.toNat, n6⟩, ta, tc), ⟨by simpa using r0, by simpa using r1, by simpa using r2, by simpa using r3, ?_, by simpa using r5⟩, ⟨ti, tn⟩, hfew2⟩
            have ek : ((n5.toNat : Nat) : Int) = n5 := by omega
            simpa [ek] using r4
    have each2 : ∀ i, i < len → ∃ q : WrA, _ := each
    haveI : Inhabited WrA := ⟨(noW, none, 0)⟩
    obtain ⟨q, hq⟩ := choose_belowW each2
    refine ⟨some a, (List.range len).map (fun i => (q i).1), m, by simp, ?_, by simpa using hl, by simpa using hsz, fun x hx => ?_⟩
    · rcases Nat.eq_zero_or_pos len with h0 | h0
      · exact Or.inl (by rw [h0]; rfl)
      · right
        obtain ⟨b, off, spot⟩ := a
        have hspot : spot = none := by simpa [Addr.add] using World.cell?_spot (hq 0 h0).1.1
        subst hspot
        refine ⟨b, off, rfl, ?_, fun i s hs => ?_⟩
        · have h' := (hq 0 h0).1.1
          rw [tag_add] at h'
          rcases Nat.lt_or_ge b W.heap.size with h2 | h2
          · exact h2
          · simp [World.cell?, Array.getElem?_eq_none h2] at h'
        · have hi : i < len := by have := (List.getElem?_eq_some_iff.1 hs).1; simpa using this
          have es : s = (q i).1 := by
            rw [List.getElem?_map, List.getElem?_range hi] at hs
            simpa using hs.symm
          subst es
          obtain ⟨⟨r0, r1, r2, r3, r4, r5⟩, hS, _⟩ := hq i hi
          rw [tag_add] at r0 r1 r2 r3 r4 r5
          exact ⟨(q i).2.1, (q i).2.2, ⟨r0, by rw [Nat.add_assoc]; exact r1, by rw [Nat.add_assoc]; exact r2, by rw [Nat.add_assoc]; exact r3, by rw [Nat.add_assoc]; exact r4, by rw [Nat.add_assoc]; exact r5⟩, hS⟩
    · simp only [List.mem_map, List.mem_range] at hx
      obtain ⟨i, hi, rfl⟩ := hx
      exact (hq i hi).2.2
end Go.Proofs.YtepakgfdakeibaaGreatDoor
