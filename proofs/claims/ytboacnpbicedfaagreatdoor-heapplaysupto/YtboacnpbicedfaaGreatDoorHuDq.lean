
import Derived.Test.YtboacnpbicedfaaGreatDoorHuCq
namespace Go.Proofs.YtboacnpbicedfaaGreatDoor.Hp
open Go.RowKit Go.Maps
set_option linter.unusedVariables false
set_option linter.unusedSimpArgs false
set_option maxRecDepth 100000
def bV (c : Int) : Value := .agg #[.int .i64 c, .int .i64 0, .int .i64 0, .bool false, .bool false]
theorem rnewB (c : Int) (w : World) : Calls Tryz.prog 25 #[.int .i64 c] w fun e w' => e = .returned (bV c) ∧ Below w.heap.size w w' := by
  unfold bV
  go_enter Tryz.func25, Tryz.ntmps25
  go_wp2
  simp [bodyPost, results, Tryz.results25, go_sem]
  exact (Below.refl _ w).alloc (Nat.le_refl _) _
/-- a result's box for an error. -/
structure BC (w : World) (R : Nat) : Prop where
  hl : R < w.heap.size
  c0 : w.cell? ⟨R, 0, none⟩ = some (.int .i64 0)
  c1 : w.cell? ⟨R, 1, none⟩ = some (.int .i64 0)
  c2 : w.cell? ⟨R, 2, none⟩ = some (.int .i64 0)
  c3 : w.cell? ⟨R, 3, none⟩ = some (.bool false)
  c4 : w.cell? ⟨R, 4, none⟩ = some (.bool false)
  z : ∀ o, w.frozen? ⟨R, o, none⟩ = false
theorem BC.keep {w w' : World} {R : Nat} (h : BC w R) (hs : w.heap.size ≤ w'.heap.size) (hb : w'.heap[R]? = w.heap[R]?) : BC w' R := by
  have cc : ∀ o, w'.cell? ⟨R, o, none⟩ = w.cell? ⟨R, o, none⟩ := fun o => World.cell?_of_block (w := w) (a := ⟨R, o, none⟩) hb
  exact ⟨Nat.lt_of_lt_of_le h.hl hs, by rw [cc]; exact h.c0, by rw [cc]; exact h.c1, by rw [cc]; exact h.c2, by rw [cc]; exact h.c3, by rw [cc]; exact h.c4, fun o => by have := h.z o; simpa [World.frozen?, hb] using this⟩
theorem BC.below {w w' : World} {R : Nat} (h : BC w R) (hb : Below w.heap.size w w') : BC w' R := h.keep hb.size (hb.block R h.hl)
theorem BC.new (w : World) : BC (w.alloc (.cells #[.int .i64 0, .int .i64 0, .int .i64 0, .bool false, .bool false] 43)) w.heap.size := ⟨by simp, by simp [go_sem], by simp [go_sem], by simp [go_sem], by simp [go_sem], by simp [go_sem], fun o => by simp [go_sem]⟩
def st5 (W : World) (R : Nat) (c : Int) : World := ((((W.setCell ⟨R, 0, none⟩ (.int .i64 c)).setCell ⟨R, 1, none⟩ (.int .i64 0)).setCell ⟨R, 2, none⟩ (.int .i64 0)).setCell ⟨R, 3, none⟩ (.bool false)).setCell ⟨R, 4, none⟩ (.bool false)
theorem st5_below {w W : World} {R N : Nat} (h : Below N w W) (hR : N ≤ R) (c : Int) : Below N w (st5 W R c) := ((((h.setCell (p := ⟨R, 0, none⟩) hR _).setCell (p := ⟨R, 1, none⟩) hR _).setCell (p := ⟨R, 2, none⟩) hR _).setCell (p := ⟨R, 3, none⟩) hR _).setCell (p := ⟨R, 4, none⟩) hR _
/-- a cell written that is no cell of the heap's. -/
theorem DS.other {w : World} {B dp : Nat} {most : Bool} {v : Value} {L : List Ent} {mv : Int} (h : DS w B dp most v L mv) (R o : Nat) (u : Value) (h1 : R ≠ dp) (h2 : ∀ g, v.ownBlock = some g → R ≠ g) : DS (w.setCell ⟨R, o, none⟩ u) B dp most v L mv := by
  have co : ∀ q, (w.setCell ⟨R, o, none⟩ u).cell? ⟨dp, q, none⟩ = w.cell? ⟨dp, q, none⟩ := fun q => World.cell?_setCell_other _ _ _ _ (by intro q; injection q; omega)
  exact ⟨by rw [co]; exact h.c0, by rw [co]; exact h.c1, by rw [co]; exact h.c2, by rw [World.frozen?_setCell]; exact h.z0, by rw [World.frozen?_setCell]; exact h.z2, ownsRow_setCell_ne h.row _ (fun g e => h2 g e) _, h.ne, by simpa using h.hl, by simpa using h.bs⟩
theorem DS.st5 {w : World} {B dp : Nat} {most : Bool} {v : Value} {L : List Ent} {mv : Int} (h : DS w B dp most v L mv) (R : Nat) (c : Int) (h1 : R ≠ dp) (h2 : ∀ g, v.ownBlock = some g → R ≠ g) : DS (st5 w R c) B dp most v L mv := ((((h.other R 0 _ h1 h2).other R 1 _ h1 h2).other R 2 _ h1 h2).other R 3 _ h1 h2).other R 4 _ h1 h2
theorem HF.below' {hp mb N : Nat} {rb : Option Nat} {w w1 w2 : World} (h : HF hp mb rb w w1) (hb : Below N w1 w2) (hN : w.heap.size ≤ N) : HF hp mb rb w w2 := ⟨Nat.le_trans h.size hb.size, fun k hk a b d => by rw [hb.block k (by omega)]; exact h.keep k hk a b d, hb.os.trans h.same.1, hb.tape.trans h.same.2.1, hb.output.trans h.same.2.2⟩
/-- where its row came to lie elsewhere. -/
theorem HF.join {hp mb : Nat} {rb rb' : Option Nat} {w w1 w2 : World} (h : HF hp mb rb w w1) (k : HF hp mb rb' w1 w2) (hr : ∀ g, rb' = some g → rb = some g ∨ w.heap.size ≤ g) : HF hp mb rb w w2 :=
  ⟨Nat.le_trans h.size k.size, fun j hj a b d => by
    rw [k.keep j (Nat.lt_of_lt_of_le hj h.size) a b (fun e => by
      rcases hr j e.symm with q | q
      · exact d q.symm
      · omega)]
    exact h.keep j hj a b d, k.same.1.trans h.same.1, k.same.2.1.trans h.same.2.1, k.same.2.2.trans h.same.2.2⟩
/-- an entry more. -/
theorem DS.grow {W : World} {B dp : Nat} {most : Bool} {v : Value} {L : List Ent} {mv : Int} (h : DS W B dp most v L mv) (x : Ent) (hn : L.length + 1 ≤ 1099511627776) :
    ∃ g cap w8, (Builtin.append_ #[31, 31] 31 #[v, .slice (some ⟨W.heap.size, 0, none⟩) 1 1]).run Tryz.prog (W.alloc (.cells #[.int .i64 x.1, .string x.2] 30)) = .ok (.slice (some ⟨g, 0, none⟩) (L.length + 1) cap) w8 ∧
      (∀ b, b < W.heap.size → v.ownBlock ≠ some b → w8.heap[b]? = W.heap[b]?) ∧ W.heap.size ≤ w8.heap.size ∧ DS (w8.setCell ⟨dp, 0, none⟩ (.slice (some ⟨g, 0, none⟩) (L.length + 1) cap)) B dp most (.slice (some ⟨g, 0, none⟩) (L.length + 1) cap) (L ++ [x]) mv ∧
      HF dp dp v.ownBlock W (w8.setCell ⟨dp, 0, none⟩ (.slice (some ⟨g, 0, none⟩) (L.length + 1) cap)) ∧ (v.ownBlock = some g ∨ W.heap.size < g) ∧ w8.cell? ⟨dp, 0, none⟩ = some v ∧ w8.frozen? ⟨dp, 0, none⟩ = false := by
  obtain ⟨g, cap, w8, rA, row8, g8, hat⟩ := grow_fact h.row h.bs x hn
  have hl := h.hl
  have ng : dp ≠ g := by
    rcases hat with q | q
    · exact h.ne g q
    · omega
  have k8 : ∀ b, b < W.heap.size → v.ownBlock ≠ some b → w8.heap[b]? = W.heap[b]? := fun b hb q => g8.block b hb (fun e => q e.symm)
  have kd : w8.heap[dp]? = W.heap[dp]? := k8 dp h.hl (fun e => h.ne dp e rfl)
  have cc : ∀ o, w8.cell? ⟨dp, o, none⟩ = W.cell? ⟨dp, o, none⟩ := fun o => World.cell?_of_block (w := W) (a := ⟨dp, o, none⟩) kd
  have zz : ∀ o, w8.frozen? ⟨dp, o, none⟩ = W.frozen? ⟨dp, o, none⟩ := fun o => by simp [World.frozen?, kd]
  refine ⟨g, cap, w8, rA, k8, g8.size, ⟨World.cell?_setCell_same _ _ _ (by rw [cc]; exact h.c0), ?_, ?_, by rw [World.frozen?_setCell, zz]; exact h.z0, by rw [World.frozen?_setCell, zz]; exact h.z2, ?_, ?_, ?_, ?_⟩, (HF.grown g8 (Or.inr (Or.inr rfl))).set dp 0 _ (Or.inl rfl), hat, by rw [cc]; exact h.c0, by rw [zz]; exact h.z0⟩
  · rw [World.cell?_setCell_other _ _ _ _ (by intro q; injection q; omega), cc]; exact h.c1
  · rw [World.cell?_setCell_other _ _ _ _ (by intro q; injection q; omega), cc]; exact h.c2
  · have LL : (L ++ [x]).length = L.length + 1 := by simp
    unfold OE
    rw [LL] at row8 ⊢
    exact ownsRow_setCell_ne row8 _ (fun k e => by injection e with e; rw [← e]; exact ng) _
  · intro k e; injection e with e; rw [← e]; exact ng
  · have := g8.size; simp; omega
  · have := g8.size; have := h.bs; simp; omega
set_option maxHeartbeats 4000000 in
theorem dput_nil (x : Ent) (w : World) : Calls Tryz.prog 29 #[.pointer none, eV x] w fun e w' => e = .returned (bV 1) ∧ Below w.heap.size w w' := by
  obtain ⟨W2, hW2⟩ : ∃ W2, W2 = (w.alloc (.cells #[.int .i64 x.1, .string x.2] 30)).alloc (.cells #[.int .i64 0, .int .i64 0, .int .i64 0, .bool false, .bool false] 43) := ⟨_, rfl⟩
  obtain ⟨R, hR⟩ : ∃ R, R = w.heap.size + 1 := ⟨_, rfl⟩
  have b2 : Hid (Below w.heap.size w W2) := by show Below _ _ _; rw [hW2]; exact ((Below.refl _ w).alloc (Nat.le_refl _) _).alloc (by simp) _
  have bc : BC W2 R := by
    have := BC.new (w.alloc (.cells #[.int .i64 x.1, .string x.2] 30))
    rw [hW2, hR]; simpa using this
  have bcH : Hid (BC W2 R) := bc
  have CN : Hid _ := rnewB 1 W2
  unfold bV at CN ⊢
  unfold eV
  clear bc
  go_enter Tryz.func29, Tryz.ntmps29
  go_wp2_with fail
  rw [← hW2, ← hR]
  refine Calls.mono CN.out ?_
  rintro e w1 ⟨rfl, BB⟩
  have b1 := bcH.out.below BB
  have fin : Hid (Below w.heap.size w (st5 w1 R 1)) := st5_below (below_trans b2.out (below_less BB b2.out.size)) (by omega) 1
  obtain ⟨_, c0, c1, c2, c3, c4, z⟩ := b1
  have z0 := z 0
  have z1 := z 1
  have z2 := z 2
  have z3 := z 3
  have z4 := z 4
  clear BB CN bcH b2 hW2 hR z
  go_wp2_with fail
  simp [bodyPost, results, Tryz.results29, go_sem, c0, c1, c2, c3, c4]
  exact fin.out
set_option maxHeartbeats 4000000 in
theorem dput_known {w : World} {B dp : Nat} {most : Bool} {v : Value} {L : List Ent} {mv : Int} (h : DS w B dp most v L mv) (x : Ent) (i : Nat) (hr : FR L x.2 (some i)) (hL : L.length ≤ 1152921504606846976) :
    Calls Tryz.prog 29 #[.pointer (some ⟨dp, 0, none⟩), eV x] w fun e w' => e = .returned (bV 5) ∧ Below w.heap.size w w' := by
  obtain ⟨W2, hW2⟩ : ∃ W2, W2 = (w.alloc (.cells #[.int .i64 x.1, .string x.2] 30)).alloc (.cells #[.int .i64 0, .int .i64 0, .int .i64 0, .bool false, .bool false] 43) := ⟨_, rfl⟩
  obtain ⟨K, hK⟩ : ∃ K, K = w.heap.size := ⟨_, rfl⟩
  obtain ⟨R, hR⟩ : ∃ R, R = w.heap.size + 1 := ⟨_, rfl⟩
  have b2 : Hid (Below w.heap.size w W2) := by show Below _ _ _; rw [hW2]; exact ((Below.refl _ w).alloc (Nat.le_refl _) _).alloc (by simp) _
  have bcH : Hid (BC W2 R) := by
    have := BC.new (w.alloc (.cells #[.int .i64 x.1, .string x.2] 30))
    show BC W2 R
    rw [hW2, hR]; simpa using this
  have x1 : W2.cell? ⟨K, 0, none⟩ = some (.int .i64 x.1) := by rw [hW2, hK]; simp [go_sem]
  have x2 : W2.cell? ⟨K, 1, none⟩ = some (.string x.2) := by rw [hW2, hK]; simp [go_sem]
  have hD : Hid (DS W2 B dp most v L mv) := h.below b2.out
  have CF : Hid _ := dfind_any hD.out x.2 (some i) hr hL
  have CN : Hid _ := rnewB 5 W2
  have i0 : (i : Int) ≥ 0 := by omega
  have hx : rI (some i) = (i : Int) := rfl
  rw [hx] at CF
  unfold bV at CN ⊢
  unfold eV
  clear h hr hD hL hx
  go_enter Tryz.func29, Tryz.ntmps29
  go_wp2_with fail
  rw [← hW2, ← hR]
  have hRw : Hid (w.heap.size ≤ R) := by show _ ≤ _; omega
  clear hW2 hR hK
  refine Calls.mono CF.out ?_
  rintro e w1 ⟨rfl, hw1⟩
  subst hw1
  clear CF
  go_wp2_with fail
  refine Calls.mono CN.out ?_
  rintro e w1 ⟨rfl, BB⟩
  have b1 := bcH.out.below BB
  have fin : Hid (Below w.heap.size w (st5 w1 R 5)) := st5_below (below_trans b2.out (below_less BB b2.out.size)) hRw.out 5
  obtain ⟨_, c0, c1, c2, c3, c4, z⟩ := b1
  have z0 := z 0
  have z1 := z 1
  have z2 := z 2
  have z3 := z 3
  have z4 := z 4
  clear BB CN bcH b2 z x1 x2 hRw
  go_wp2_with fail
  simp [bodyPost, results, Tryz.results29, go_sem, c0, c1, c2, c3, c4]
  exact fin.out
/-- behind a change: the heap, and what else is another. -/
structure DO (w : World) (B dp : Nat) (most : Bool) (v : Value) (L : List Ent) (mv : Int) (w' : World) : Prop where
  ds : ∃ v', DS w' B dp most v' L mv ∧ ∀ g, v'.ownBlock = some g → v.ownBlock = some g ∨ w.heap.size ≤ g
  fr : HF dp dp v.ownBlock w w'
set_option maxHeartbeats 8000000 in
theorem dput_ok {w : World} {B dp : Nat} {most : Bool} {v : Value} {L : List Ent} {mv : Int} (h : DS w B dp most v L mv) (x : Ent) (hr : FR L x.2 none) (hn : L.length + 1 ≤ 1099511627776) :
    Calls Tryz.prog 29 #[.pointer (some ⟨dp, 0, none⟩), eV x] w fun e w' => e = .returned (bV 0) ∧ DO w B dp most v (upL (ahd most) (L ++ [x]) L.length).1 (((upL (ahd most) (L ++ [x]) L.length).2 : Nat) : Int) w' := by
  obtain ⟨W2, hW2⟩ : ∃ W2, W2 = (w.alloc (.cells #[.int .i64 x.1, .string x.2] 30)).alloc (.cells #[.int .i64 0, .int .i64 0, .int .i64 0, .bool false, .bool false] 43) := ⟨_, rfl⟩
  obtain ⟨K, hK⟩ : ∃ K, K = w.heap.size := ⟨_, rfl⟩
  obtain ⟨R, hR⟩ : ∃ R, R = w.heap.size + 1 := ⟨_, rfl⟩
  have b2 : Hid (Below w.heap.size w W2) := by show Below _ _ _; rw [hW2]; exact ((Below.refl _ w).alloc (Nat.le_refl _) _).alloc (by simp) _
  have bcH : Hid (BC W2 R) := by
    have := BC.new (w.alloc (.cells #[.int .i64 x.1, .string x.2] 30))
    show BC W2 R
    rw [hW2, hR]; simpa using this
  have x1 : W2.cell? ⟨K, 0, none⟩ = some (.int .i64 x.1) := by rw [hW2, hK]; simp [go_sem]
  have x2 : W2.cell? ⟨K, 1, none⟩ = some (.string x.2) := by rw [hW2, hK]; simp [go_sem]
  have hD : Hid (DS W2 B dp most v L mv) := h.below b2.out
  have CF : Hid _ := dfind_any hD.out x.2 none hr (by omega)
  have hx : rI none = -1 := rfl
  rw [hx] at CF
  have vB : ∀ k, v.ownBlock = some k → k < w.heap.size := fun k e => (h.row.bound e).2
  have hl := h.hl
  obtain ⟨av, capv, hv, _, _⟩ := h.row.form
  obtain ⟨g, cap, w8, rA, k8, sz8, D3, F3, hat, c0b, z0b⟩ := hD.out.drew.grow x hn
  have szW : W2.heap.size = w.heap.size + 2 := by rw [hW2]; simp
  have szd : W2.drew.heap.size = W2.heap.size := rfl
  have gne : ∀ k, k = K ∨ k = R → g ≠ k := fun k hk e => by
    rcases hat with q | q
    · have := vB g q; omega
    · omega
  have KK : w8.heap[K]? = W2.heap[K]? := k8 K (by omega) (fun e => by have := vB K e; omega)
  have RR : w8.heap[R]? = W2.heap[R]? := k8 R (by omega) (fun e => by have := vB R e; omega)
  obtain ⟨W3, hW3⟩ : ∃ W3, W3 = w8.setCell ⟨dp, 0, none⟩ (.slice (some ⟨g, 0, none⟩) (L.length + 1) cap) := ⟨_, rfl⟩
  rw [← hW3] at D3 F3
  have R3 : W3.heap[R]? = W2.heap[R]? := by rw [hW3, Below.heap_setCell _ _ _ _ (fun e => by have e : R = dp := e; omega)]; exact RR
  have bA : Below W2.heap.size W2.drew (W2.drew.alloc (.cells #[.int .i64 x.1, .string x.2] 30)) := (Below.refl _ W2.drew).alloc (Nat.le_refl _) _
  have Kl : K < W2.heap.size := by omega
  have hl2 : dp < W2.heap.size := by omega
  have sS : Hid (W2.drew.cell? ⟨K, 0, none⟩ = some (.int .i64 x.1) ∧ W2.drew.cell? ⟨K, 1, none⟩ = some (.string x.2)) := ⟨x1, x2⟩
  have sA : Hid ((W2.drew.alloc (.cells #[.int .i64 x.1, .string x.2] 30)).cell? ⟨K, 0, none⟩ = some (.int .i64 x.1) ∧ (W2.drew.alloc (.cells #[.int .i64 x.1, .string x.2] 30)).cell? ⟨K, 1, none⟩ = some (.string x.2)) := ⟨by rw [bA.cell (p := ⟨K, 0, none⟩) Kl]; exact x1, by rw [bA.cell (p := ⟨K, 1, none⟩) Kl]; exact x2⟩
  have sB : Hid (w8.cell? ⟨K, 0, none⟩ = some (.int .i64 x.1) ∧ w8.cell? ⟨K, 1, none⟩ = some (.string x.2)) := ⟨by rw [World.cell?_of_block (w := W2) (a := ⟨K, 0, none⟩) KK]; exact x1, by rw [World.cell?_of_block (w := W2) (a := ⟨K, 1, none⟩) KK]; exact x2⟩
  have sC : Hid ((w8.setCell ⟨dp, 0, none⟩ (.slice (some ⟨g, 0, none⟩) (L.length + 1) cap)).cell? ⟨K, 0, none⟩ = some (.int .i64 x.1) ∧ (w8.setCell ⟨dp, 0, none⟩ (.slice (some ⟨g, 0, none⟩) (L.length + 1) cap)).cell? ⟨K, 1, none⟩ = some (.string x.2)) := by
    have kd : K ≠ dp := by omega
    refine ⟨?_, ?_⟩
    · rw [World.cell?_setCell_other _ _ _ _ (by intro q; injection q; omega)]; exact sB.out.1
    · rw [World.cell?_setCell_other _ _ _ _ (by intro q; injection q; omega)]; exact sB.out.2
  have D4 := D3.mvs 0
  obtain ⟨W4, hW4⟩ : ∃ W4, W4 = W3.setCell ⟨dp, 2, none⟩ (.int .i64 0) := ⟨_, rfl⟩
  rw [← hW4] at D4
  have R4 : W4.heap[R]? = W2.heap[R]? := by rw [hW4, Below.heap_setCell _ _ _ _ (fun e => by have e : R = dp := e; omega)]; exact R3
  have LL : (L ++ [x]).length = L.length + 1 := by simp
  have CU : Hid _ := dup_any (w := W4) ⟨D4.1, HF.refl _ _ _ _, LL⟩ L.length (by omega) (by omega) (by omega)
  have F4 : HF dp dp v.ownBlock W2 W4 := (show HF dp dp v.ownBlock W2 W3 from ⟨F3.size, F3.keep, F3.same⟩).join D4.2 (fun k e => by
    injection e with e
    have e : g = k := e
    rcases hat with q | q
    · exact Or.inl (by rw [← e]; exact q)
    · exact Or.inr (by omega))
  have RES : Hid (∀ w5, UE W4 B dp most (.slice (some ⟨g, 0, none⟩) (L.length + 1) cap) (L.length + 1) (upL (ahd most) (L ++ [x]) L.length).1 (0 + (((upL (ahd most) (L ++ [x]) L.length).2 : Nat) : Int)) w5 → BC w5 R ∧ DO w B dp most v (upL (ahd most) (L ++ [x]) L.length).1 (((upL (ahd most) (L ++ [x]) L.length).2 : Nat) : Int) (st5 w5 R 0)) := fun w5 u => by
    have s4 := F4.size
    have R5 : w5.heap[R]? = W4.heap[R]? := u.fr.keep R (by omega) (by omega) (by omega) (fun e => gne R (Or.inr rfl) (by injection e with e; exact e.symm))
    have Fa : HF dp dp v.ownBlock w w5 := (HF.below (hp := dp) (mb := dp) (rb := v.ownBlock) b2.out).trans (F4.join u.fr (fun k e => by
      injection e with e
      have e : g = k := e
      rcases hat with q | q
      · exact Or.inl (by rw [← e]; exact q)
      · exact Or.inr (by omega)))
    refine ⟨bcH.out.keep (Nat.le_trans s4 u.fr.size) (R5.trans R4), ⟨⟨.slice (some ⟨g, 0, none⟩) (L.length + 1) cap, ?_, fun k e => ?_⟩, Fa.below' (st5_below (Below.refl R w5) (Nat.le_refl _) 0) (by omega)⟩⟩
    · have d := u.ds
      rw [Int.zero_add] at d
      exact d.st5 R 0 (by omega) (fun k e => by injection e with e; have e : g = k := e; have := gne R (Or.inr rfl); omega)
    · injection e with e
      have e : g = k := e
      rcases hat with q | q
      · exact Or.inl (by rw [← e]; exact q)
      · exact Or.inr (by omega)
  subst hv
  have rF : Hid (∀ W, W = W2.drew.alloc (.cells #[.int .i64 x.1, .string x.2] 30) → (Builtin.append_ #[31, 31] 31 #[.slice av L.length capv, .slice (some ⟨W2.heap.size, 0, none⟩) 1 1]).run Tryz.prog W = .ok (.slice (some ⟨g, 0, none⟩) (L.length + 1) cap) w8) := fun W e => by subst e; exact rA
  have c0 : W2.cell? ⟨dp, 0, none⟩ = some (.slice av L.length capv) := hD.out.c0
  have c0a : (W2.drew.alloc (.cells #[.int .i64 x.1, .string x.2] 30)).cell? ⟨dp, 0, none⟩ = some (.slice av L.length capv) := by rw [bA.cell (p := ⟨dp, 0, none⟩) hl2]; exact c0
  have c0c : (W2.alloc (.cells #[.int .i64 x.1, .string x.2] 30)).cell? ⟨dp, 0, none⟩ = some (.slice av L.length capv) := c0a
  have m2 : Hid (W3.cell? ⟨dp, 2, none⟩ = some (.int .i64 mv) ∧ W3.frozen? ⟨dp, 2, none⟩ = false) := ⟨D3.c2, D3.z2⟩
  have m0 : Hid (W3.cell? ⟨dp, 0, none⟩ = some (.slice (some ⟨g, 0, none⟩) (L.length + 1) cap)) := D3.c0
  have hW3H : Hid (W3 = w8.setCell ⟨dp, 0, none⟩ (.slice (some ⟨g, 0, none⟩) (L.length + 1) cap)) := hW3
  have hW4H : Hid (W4 = W3.setCell ⟨dp, 2, none⟩ (.int .i64 0)) := hW4
  obtain ⟨nw, nw2, nw3, nw4⟩ := nums_n L.length hn
  unfold bV
  unfold eV
  generalize upL (ahd most) (L ++ [x]) L.length = U at *
  generalize L ++ [x] = L2 at *
  generalize L.length = n at *
  clear h hr hn hD hx vB hl k8 sz8 D3 F3 hat szW szd gne KK RR R3 bA D4 R4 LL F4 rA x1 x2 hl2 Kl
  go_enter Tryz.func29, Tryz.ntmps29
  go_wp2_with fail
  rw [← hW2, ← hR, ← hK]
  clear hW2 hK hR hW3 hW4
  refine Calls.mono CF.out ?_
  rintro e w1 ⟨rfl, hw1⟩
  subst hw1
  clear CF
  go_wp2_with fail
  refine wp_region_noPanic ?_
  refine wp_region_held_drew (S := fun W => W.cell? ⟨K, 0, none⟩ = some (.int .i64 x.1) ∧ W.cell? ⟨K, 1, none⟩ = some (.string x.2)) (by kernel_rfl) sS.out (fun hHeld => ?_)
  refine wpAnyH_take (i := 0) (oi := _) (v := ?_) rfl (by kernel_rfl) (by kernel_rfl) (by kernel_rfl) (fun _ _ _ h => h) (Or.inl ⟨by rfl, ?_⟩) (by assumption) ?_
  rotate_left 1
  · (intro w0 hSw; (try dsimp only at hSw); obtain ⟨s1, s2⟩ := hSw; go_simp; try with_reducible rfl)
  (try simp only [List.getElem_toArray, List.getElem_cons_succ, List.getElem_cons_zero]); (try simp only [Act.put, List.setIfInBounds_toArray, List.set_cons_zero, List.set_cons_succ])
  refine wpAnyH_take (i := 1) (oi := _) (v := ?_) rfl (by kernel_rfl) (by kernel_rfl) (by kernel_rfl) (fun _ _ _ h => h) (Or.inl ⟨by rfl, ?_⟩) (by assumption) ?_
  rotate_left 1
  · (intro w0 hSw; (try dsimp only at hSw); obtain ⟨s1, s2⟩ := hSw; go_simp; try with_reducible rfl)
  (try simp only [List.getElem_toArray, List.getElem_cons_succ, List.getElem_cons_zero]); (try simp only [Act.put, List.setIfInBounds_toArray, List.set_cons_zero, List.set_cons_succ])
  refine wpAnyH_take (i := 2) (oi := _) (v := ?_) rfl (by kernel_rfl) (by kernel_rfl) (by kernel_rfl) (fun _ _ _ h => h) (Or.inl ⟨by rfl, ?_⟩) (by assumption) ?_
  rotate_left 1
  · (intro w0 hSw; (try dsimp only at hSw); obtain ⟨s1, s2⟩ := hSw; go_simp; try with_reducible rfl)
  (try simp only [List.getElem_toArray, List.getElem_cons_succ, List.getElem_cons_zero]); (try simp only [Act.put, List.setIfInBounds_toArray, List.set_cons_zero, List.set_cons_succ])
  refine wpAnyH_take (i := 3) (oi := _) (v := ?_) rfl (by kernel_rfl) (by kernel_rfl) (by kernel_rfl) (fun _ _ _ h => h) (Or.inl ⟨by rfl, ?_⟩) (by assumption) ?_
  rotate_left 1
  · (intro w0 hSw; (try dsimp only at hSw); obtain ⟨s1, s2⟩ := hSw; go_simp; try with_reducible rfl)
  (try simp only [List.getElem_toArray, List.getElem_cons_succ, List.getElem_cons_zero]); (try simp only [Act.put, List.setIfInBounds_toArray, List.set_cons_zero, List.set_cons_succ])
  refine wpAnyH_take (i := 5) (oi := _) (v := ?_) rfl (by kernel_rfl) (by kernel_rfl) (by kernel_rfl) (fun _ _ _ h => h) (Or.inl ⟨by rfl, ?_⟩) (by assumption) ?_
  rotate_left 1
  · (intro w0 hSw; (try dsimp only at hSw); obtain ⟨s1, s2⟩ := hSw; go_simp; try with_reducible rfl)
  (try simp only [List.getElem_toArray, List.getElem_cons_succ, List.getElem_cons_zero]); (try simp only [Act.put, List.setIfInBounds_toArray, List.set_cons_zero, List.set_cons_succ])
  refine wpAnyH_ready (rs := [4, 6]) (by kernel_rfl) (by simp) ?_
  refine AllReadyH.cons (o := _) rfl (fun K1 hK => ?_) ?_
  · go_simp
    try dsimp only
    refine hK _ _ sS.out (fun hHeld => ?_)
    clear hK K1
    (try simp only [List.getElem_toArray, List.getElem_cons_succ, List.getElem_cons_zero]); (try simp only [Act.put, List.setIfInBounds_toArray, List.set_cons_zero, List.set_cons_succ])
    refine wpAnyH_ready (rs := [6]) (by kernel_rfl) (by simp) ?_
    refine AllReadyH.cons (o := _) rfl (fun K1 hK => ?_) AllReadyH.nil
    go_simp
    try dsimp only
    refine hK _ _ sA.out (fun hHeld => ?_)
    clear hK K1
    (try simp only [List.getElem_toArray, List.getElem_cons_succ, List.getElem_cons_zero]); (try simp only [Act.put, List.setIfInBounds_toArray, List.set_cons_zero, List.set_cons_succ])
    refine wpAnyH_ready (rs := [7]) (by kernel_rfl) (by simp) ?_
    refine AllReadyH.cons (o := _) rfl (fun K1 hK => ?_) AllReadyH.nil
    refine step_append_runH rfl (.tmp 18) (.tmp 20) 31 rfl _ _ _ _ rfl rfl (rF.out _ rfl) ?_
    refine hK _ _ sB.out (fun hHeld => ?_)
    clear hK K1
    (try simp only [List.getElem_toArray, List.getElem_cons_succ, List.getElem_cons_zero]); (try simp only [Act.put, List.setIfInBounds_toArray, List.set_cons_zero, List.set_cons_succ])
    refine wpAnyH_take (i := 8) (oi := _) (v := ?_) rfl (by kernel_rfl) (by kernel_rfl) (by kernel_rfl) (fun _ _ _ h => h) (Or.inl ⟨by rfl, ?_⟩) (by assumption) ?_
    rotate_left 1
    · (intro w0 hSw; (try dsimp only at hSw); obtain ⟨s1, s2⟩ := hSw; go_simp; try with_reducible rfl)
    (try simp only [List.getElem_toArray, List.getElem_cons_succ, List.getElem_cons_zero]); (try simp only [Act.put, List.setIfInBounds_toArray, List.set_cons_zero, List.set_cons_succ])
    refine wpAnyH_take (i := 9) (oi := _) (v := ?_) rfl (by kernel_rfl) (by kernel_rfl) (by kernel_rfl) (fun _ _ _ h => h) (Or.inl ⟨by rfl, ?_⟩) (by assumption) ?_
    rotate_left 1
    · (intro w0 hSw; (try dsimp only at hSw); obtain ⟨s1, s2⟩ := hSw; go_simp; try with_reducible rfl)
    (try simp only [List.getElem_toArray, List.getElem_cons_succ, List.getElem_cons_zero]); (try simp only [Act.put, List.setIfInBounds_toArray, List.set_cons_zero, List.set_cons_succ])
    refine wpAnyH_ready (rs := [10]) (by kernel_rfl) (by simp) ?_
    refine AllReadyH.cons (o := _) rfl (fun K1 hK => ?_) AllReadyH.nil
    go_simp
    try dsimp only
    refine hK _ _ sC.out (fun hHeld => ?_)
    clear hK K1
    (try simp only [List.getElem_toArray, List.getElem_cons_succ, List.getElem_cons_zero]); (try simp only [Act.put, List.setIfInBounds_toArray, List.set_cons_zero, List.set_cons_succ])
    refine wpAnyH_done (by kernel_rfl) ?_ _
    refine NoPanic.normal ?_
    clear sS sA sB sC rF c0 c0a c0c c0b z0b hHeld
    rw [← hW3H.out]
    clear hW3H
    obtain ⟨m1, m2⟩ := m2.out
    have m0 := m0.out
    go_wp2_with fail
    rw [← hW4H.out]
    clear hW4H m1 m2
    refine Calls.mono CU.out ?_
    rintro e w5 ⟨rfl, u5⟩
    obtain ⟨b1, fin⟩ := RES.out w5 u5
    have fin : Hid _ := fin
    clear u5 CU RES m0 bcH b2
    obtain ⟨_, c0, c1, c2, c3, c4, z⟩ := b1
    have z0 := z 0
    have z1 := z 1
    have z2 := z 2
    have z3 := z 3
    have z4 := z 4
    clear z
    go_wp2_with fail
    simp [bodyPost, results, Tryz.results29, go_sem, c0, c1, c2, c3, c4]
    exact fin.out
  refine AllReadyH.cons (o := _) rfl (fun K1 hK => ?_) AllReadyH.nil
  go_simp
  try dsimp only
  refine hK _ _ sA.out (fun hHeld => ?_)
  clear hK K1
  (try simp only [List.getElem_toArray, List.getElem_cons_succ, List.getElem_cons_zero]); (try simp only [Act.put, List.setIfInBounds_toArray, List.set_cons_zero, List.set_cons_succ])
  refine wpAnyH_ready (rs := [4]) (by kernel_rfl) (by simp) ?_
  refine AllReadyH.cons (o := _) rfl (fun K1 hK => ?_) AllReadyH.nil
  go_simp
  try dsimp only
  refine hK _ _ sA.out (fun hHeld => ?_)
  clear hK K1
  (try simp only [List.getElem_toArray, List.getElem_cons_succ, List.getElem_cons_zero]); (try simp only [Act.put, List.setIfInBounds_toArray, List.set_cons_zero, List.set_cons_succ])
  refine wpAnyH_ready (rs := [7]) (by kernel_rfl) (by simp) ?_
  refine AllReadyH.cons (o := _) rfl (fun K1 hK => ?_) AllReadyH.nil
  refine step_append_runH rfl (.tmp 18) (.tmp 20) 31 rfl _ _ _ _ rfl rfl (rF.out _ rfl) ?_
  refine hK _ _ sB.out (fun hHeld => ?_)
  clear hK K1
  (try simp only [List.getElem_toArray, List.getElem_cons_succ, List.getElem_cons_zero]); (try simp only [Act.put, List.setIfInBounds_toArray, List.set_cons_zero, List.set_cons_succ])
  refine wpAnyH_take (i := 8) (oi := _) (v := ?_) rfl (by kernel_rfl) (by kernel_rfl) (by kernel_rfl) (fun _ _ _ h => h) (Or.inl ⟨by rfl, ?_⟩) (by assumption) ?_
  rotate_left 1
  · (intro w0 hSw; (try dsimp only at hSw); obtain ⟨s1, s2⟩ := hSw; go_simp; try with_reducible rfl)
  (try simp only [List.getElem_toArray, List.getElem_cons_succ, List.getElem_cons_zero]); (try simp only [Act.put, List.setIfInBounds_toArray, List.set_cons_zero, List.set_cons_succ])
  refine wpAnyH_take (i := 9) (oi := _) (v := ?_) rfl (by kernel_rfl) (by kernel_rfl) (by kernel_rfl) (fun _ _ _ h => h) (Or.inl ⟨by rfl, ?_⟩) (by assumption) ?_
  rotate_left 1
  · (intro w0 hSw; (try dsimp only at hSw); obtain ⟨s1, s2⟩ := hSw; go_simp; try with_reducible rfl)
  (try simp only [List.getElem_toArray, List.getElem_cons_succ, List.getElem_cons_zero]); (try simp only [Act.put, List.setIfInBounds_toArray, List.set_cons_zero, List.set_cons_succ])
  refine wpAnyH_ready (rs := [10]) (by kernel_rfl) (by simp) ?_
  refine AllReadyH.cons (o := _) rfl (fun K1 hK => ?_) AllReadyH.nil
  go_simp
  try dsimp only
  refine hK _ _ sC.out (fun hHeld => ?_)
  clear hK K1
  (try simp only [List.getElem_toArray, List.getElem_cons_succ, List.getElem_cons_zero]); (try simp only [Act.put, List.setIfInBounds_toArray, List.set_cons_zero, List.set_cons_succ])
  refine wpAnyH_done (by kernel_rfl) ?_ _
  refine NoPanic.normal ?_
  clear sS sA sB sC rF c0 c0a c0c c0b z0b hHeld
  rw [← hW3H.out]
  clear hW3H
  obtain ⟨m1, m2⟩ := m2.out
  have m0 := m0.out
  go_wp2_with fail
  rw [← hW4H.out]
  clear hW4H m1 m2
  refine Calls.mono CU.out ?_
  rintro e w5 ⟨rfl, u5⟩
  obtain ⟨b1, fin⟩ := RES.out w5 u5
  have fin : Hid _ := fin
  clear u5 CU RES m0 bcH b2
  obtain ⟨_, c0, c1, c2, c3, c4, z⟩ := b1
  have z0 := z 0
  have z1 := z 1
  have z2 := z 2
  have z3 := z 3
  have z4 := z 4
  clear z
  go_wp2_with fail
  simp [bodyPost, results, Tryz.results29, go_sem, c0, c1, c2, c3, c4]
  exact fin.out
end Go.Proofs.YtboacnpbicedfaaGreatDoor.Hp
