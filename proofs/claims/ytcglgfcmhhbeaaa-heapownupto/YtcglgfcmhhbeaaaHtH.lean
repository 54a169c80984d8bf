
import Derived.Test.YtcglgfcmhhbeaaaHtG
import Derived.Test.YtcglgfcmhhbeaaaHtA
import Derived.Test.YtcglgfcmhhbeaaaHqE
import Derived.Test.YtcglgfcmhhbeaaaHpMn
import Derived.Test.YtcglgfcmhhbeaaaHqD
namespace Go.Proofs.Ytcglgfcmhhbeaaa.Hp
open Go.RowKit Go.Maps
set_option linter.unusedVariables false
set_option linter.unusedSimpArgs false
set_option maxRecDepth 100000
theorem bldL_perm (ah : Ent → Ent → Bool) : ∀ (k : Nat) (r : List Ent × Nat), k ≤ r.1.length → (bldL ah k r).1.Perm r.1
  | 0, r, _ => List.Perm.refl _
  | k + 1, r, h => by
    have hp := downL_perm ah _ r.1 k (Nat.le_refl _) (by omega)
    have hl := downL_len ah _ r.1 k (Nat.le_refl _)
    unfold bldL
    exact (bldL_perm ah k ((downL ah r.1 k).1, r.2 + (downL ah r.1 k).2) (by simp only [hl]; omega)).trans hp
/-- blocks of a kind are as they were. -/
structure KR (S : Nat → Prop) (w w' : World) : Prop where
  size : w.heap.size ≤ w'.heap.size
  keep : ∀ k, k < w.heap.size → S k → w'.heap[k]? = w.heap[k]?
  same : w'.os = w.os ∧ w'.tape = w.tape ∧ w'.output = w.output
theorem KR.refl (S : Nat → Prop) (w : World) : KR S w w := ⟨Nat.le_refl _, fun _ _ _ => rfl, rfl, rfl, rfl⟩
theorem KR.trans {S : Nat → Prop} {w w1 w2 : World} (h : KR S w w1) (g : KR S w1 w2) : KR S w w2 :=
  ⟨Nat.le_trans h.size g.size, fun k hk s => by rw [g.keep k (Nat.lt_of_lt_of_le hk h.size) s]; exact h.keep k hk s, g.same.1.trans h.same.1, g.same.2.1.trans h.same.2.1, g.same.2.2.trans h.same.2.2⟩
theorem KR.less {S T : Nat → Prop} {w w' : World} (h : KR S w w') (hT : ∀ k, k < w.heap.size → T k → S k) : KR T w w' := ⟨h.size, fun k hk t => h.keep k hk (hT k hk t), h.same⟩
theorem KR.below {S : Nat → Prop} {w w1 w2 : World} (h : KR S w w1) (b : Below w1.heap.size w1 w2) : KR S w w2 := h.trans ⟨b.size, fun k hk _ => b.block k hk, b.os, b.tape, b.output⟩
theorem KR.toB {S : Nat → Prop} {w w' : World} {n : Nat} (h : KR S w w') (hn : n ≤ w.heap.size) (hS : ∀ k, k < n → S k) : Below n w w' := ⟨h.same.1, h.same.2.1, h.same.2.2, h.size, fun k hk => h.keep k (by omega) (hS k hk)⟩
theorem HS.kr {S : Nat → Prop} {w w' : World} {B hp mb : Nat} {most : Bool} {v : Value} {ex : Option ByteArray} {f : ByteArray → Option Nat} {L : List Ent} {mv : Int} (h : HS w B hp mb most v ex f L mv) (k : KR S w w') (h1 : S hp) (h2 : S mb) (h3 : ∀ q, v.ownBlock = some q → S q) : HS w' B hp mb most v ex f L mv := by
  obtain ⟨c, hm, hc⟩ := h.mp
  have e1 := k.keep hp h.hl h1
  have cc : ∀ o, w'.cell? ⟨hp, o, none⟩ = w.cell? ⟨hp, o, none⟩ := fun o => World.cell?_of_block (w := w) (a := ⟨hp, o, none⟩) e1
  have zz : ∀ o, w'.frozen? ⟨hp, o, none⟩ = w.frozen? ⟨hp, o, none⟩ := fun o => World.frozen?_of_block (w := w) (a := ⟨hp, o, none⟩) e1
  refine ⟨by rw [cc]; exact h.c0, by rw [cc]; exact h.c1, by rw [cc]; exact h.c2, by rw [cc]; exact h.c3, by rw [zz]; exact h.z0, by rw [zz]; exact h.z3, ⟨h.row.1, ?_⟩, ⟨c, hm.keep (k.keep mb hm.lt h2), hc⟩, h.pl, h.hw, h.nm, Nat.lt_of_lt_of_le h.hl k.size, h.exs⟩
  rcases h.row.2 with q | ⟨g, cap, cur, q1, q2, q3, q4⟩
  · exact Or.inl q
  · exact Or.inr ⟨g, cap, cur, q1, q2, by rw [k.keep g (Array.getElem?_eq_some_iff.1 q3).1 (h3 g (by rw [q1]; rfl))]; exact q3, q4⟩
theorem OE.kr {S : Nat → Prop} {w w' : World} {B : Nat} {v : Value} {l : List Ent} (h : OE w B v l) (k : KR S w w') (h3 : ∀ q, v.ownBlock = some q → S q) : OE w' B v l := by
  refine ⟨h.1, ?_⟩
  rcases h.2 with h2 | ⟨g, cap, cur, e1, e2, e3, e4⟩
  · exact Or.inl h2
  · exact Or.inr ⟨g, cap, cur, e1, e2, by rw [k.keep g (Array.getElem?_eq_some_iff.1 e3).1 (h3 g (by rw [e1]; rfl))]; exact e3, e4⟩
theorem BK.kr {N C m : Nat} {V : Nat → Value} {hv : Value} {G : Nat → List Ent} {S : Nat → Prop} {w w' : World} (h : BK N C m V hv G w) (k : KR S w w') (hS : ∀ q, N ≤ q → S q) : BK N C m V hv G w' := by
  have nC := h.sp.nC
  have sz := k.size
  have e1 := k.keep N h.sp.nw (hS N (Nat.le_refl _))
  have cc : ∀ o, w'.cell? ⟨N, o, none⟩ = w.cell? ⟨N, o, none⟩ := fun o => World.cell?_of_block (w := w) (a := ⟨N, o, none⟩) e1
  have zz : ∀ o, w'.frozen? ⟨N, o, none⟩ = w.frozen? ⟨N, o, none⟩ := fun o => World.frozen?_of_block (w := w) (a := ⟨N, o, none⟩) e1
  refine ⟨⟨nC, by have := h.sp.nw; omega, by have := h.sp.cw; omega, fun i hi q e => by have := h.sp.vb i hi q e; omega, fun q e => by have := h.sp.hb q e; omega, h.sp.dis, h.sp.hd⟩, ⟨by rw [cc]; exact h.st.c12, ⟨h.st.hr.1, ?_⟩, fun j hj => (h.st.rows j hj).kr k (fun q e => hS q (by have := (h.sp.vb j hj q e).1; omega)), BF.refl _ _ _⟩, fun j hj hne => by rw [cc]; exact h.nil j hj hne, fun j => by rw [zz]; exact h.fz j⟩
  rcases h.st.hr.2 with h2 | ⟨g, cap, cur, q1, q2, q3, q4⟩
  · exact Or.inl h2
  · exact Or.inr ⟨g, cap, cur, q1, q2, by rw [k.keep g (Array.getElem?_eq_some_iff.1 q3).1 (hS g (by omega))]; exact q3, q4⟩
/-- what was handed out, kept by the book: 2i lists. -/
def BS (N : Nat) (n i : Nat) (W4 wr : World) : Prop := ∃ V hv G, BK N (N + 1) (2 * i) V hv G wr ∧ (∀ j, j < 2 * i → (G j).length ≤ n) ∧ Below N W4 wr
/-- the fork while it is changed. -/
def FS (D1 N D p2 m2 : Nat) (n : Nat) (w6 wr : World) : Prop := ∃ v f L mv, HS wr D1 p2 m2 false v none f L mv ∧ (∀ k, v.ownBlock = some k → D1 ≤ k ∧ k < N ∨ D ≤ k) ∧ L.length ≤ n ∧ KR (fun k => k < D1 ∨ N ≤ k) w6 wr ∧ D1 ≤ p2 ∧ p2 < N ∧ D1 ≤ m2 ∧ m2 < N ∧ D = w6.heap.size ∧ N ≤ D
theorem FS.op {D1 N D p2 m2 n' : Nat} {w6 wr w' : World} {v : Value} {f : ByteArray → Option Nat} {L L' : List Ent} {mv mv' : Int} (hs : HS wr D1 p2 m2 false v none f L mv) (hv : ∀ k, v.ownBlock = some k → D1 ≤ k ∧ k < N ∨ D ≤ k) (kr : KR (fun k => k < D1 ∨ N ≤ k) w6 wr) (h : D1 ≤ p2 ∧ p2 < N ∧ D1 ≤ m2 ∧ m2 < N ∧ D = w6.heap.size ∧ N ≤ D) (o : OP wr D1 p2 m2 false v L' mv' w') (hn : L'.length ≤ n') : FS D1 N D p2 m2 n' w6 w' := by
  obtain ⟨v', f', hs', sep⟩ := o.hs
  obtain ⟨h1, h2, h3, h4, h5, h6⟩ := h
  have sz := kr.size
  refine ⟨v', f', L', mv', hs', fun k e => ?_, hn, ⟨Nat.le_trans kr.size o.fr.size, fun k hk s => ?_, o.fr.same.1.trans kr.same.1, o.fr.same.2.1.trans kr.same.2.1, o.fr.same.2.2.trans kr.same.2.2⟩, h1, h2, h3, h4, h5, h6⟩
  · rcases sep with q | ⟨j, q, hj⟩
    · exact hv k (by rw [← q]; exact e)
    · rw [q] at e; injection e with e; exact Or.inr (by omega)
  · rw [o.fr.keep k (by omega) (by omega) (by omega) (fun e => by rcases hv k e.symm with c | c <;> omega)]
    exact kr.keep k hk s
theorem FS.put {D1 N D p2 m2 n : Nat} {w6 wr : World} (h : FS D1 N D p2 m2 n w6 wr) (x : Ent) (hx : x.2.size ≤ 9223372036854775807) (hn : n ≤ 1048580) : Calls Try.prog 9 #[.pointer (some ⟨p2, 0, none⟩), eV x] wr fun e w' => (∃ r, e = .returned r) ∧ FS D1 N D p2 m2 (n + 1) w6 w' := by
  obtain ⟨v, f, L, mv, hs, hv, hl, kr, h1, h2, h3, h4, h5, h6⟩ := h
  refine (put_l hs (by have := kr.size; omega) x hx (by omega)).mono fun e w' hh => ⟨⟨_, hh.1⟩, ?_⟩
  obtain ⟨mv', o⟩ := hh.2
  have := putL_len false L x
  exact FS.op hs hv kr ⟨h1, h2, h3, h4, h5, h6⟩ o (by omega)
theorem FS.pop {D1 N D p2 m2 n : Nat} {w6 wr : World} (h : FS D1 N D p2 m2 n w6 wr) (hn : n ≤ 1048580) : Calls Try.prog 10 #[.pointer (some ⟨p2, 0, none⟩)] wr fun e w' => (∃ r, e = .returned r) ∧ FS D1 N D p2 m2 (n + 1) w6 w' := by
  obtain ⟨v, f, L, mv, hs, hv, hl, kr, h1, h2, h3, h4, h5, h6⟩ := h
  refine (pop_any hs (by omega)).mono fun e w' hh => ⟨hh.1, ?_⟩
  obtain ⟨L', mv', o, _, hl'⟩ := hh.2
  exact FS.op hs hv kr ⟨h1, h2, h3, h4, h5, h6⟩ o (by omega)
/-- 'append([]T{}, l...)'. -/
theorem copyE {wr : World} {B : Nat} {v : Value} {l : List Ent} (h : OE wr B v l) (hn : l.length ≤ 1048576) : ∃ v1 w1, (Builtin.append_ #[28, 28] 28 #[.slice (some ⟨wr.heap.size, 0, none⟩) 0 0, v]).run Try.prog (wr.alloc (.cells #[] 24)) = .ok v1 w1 ∧ OE w1 wr.heap.size v1 l ∧ Below wr.heap.size wr w1 := by
  have bA : Below wr.heap.size wr (wr.alloc (.cells #[] 24)) := (Below.refl _ wr).alloc (Nat.le_refl _) _
  have own0 : OE (wr.alloc (.cells #[] 24)) wr.heap.size (.slice (some ⟨wr.heap.size, 0, none⟩) 0 0) [] := by
    have := World.ownsRow_made (e := 24) (size := 2) (base := wr.heap.size) wr #[] 0 (by simp) (by simp [maxLen]) rfl
    simpa [OE, encE] using this
  obtain ⟨a, c, rfl, _, hin⟩ := h.ein
  obtain ⟨v1, w1, r1, o1, g1, _⟩ := appE _ wr.heap.size _ [] l own0 bA.size a c (hin.below bA) (by simp; omega)
  rw [List.nil_append] at o1
  exact ⟨v1, w1, r1, o1, below_trans bA (grown_belowE own0 bA.size g1)⟩
theorem same_oeT {w : World} {B C : Nat} {v u : Value} {l : List Ent} (h : OE w B v l) (k : OE w C u l) (hn : l.length ≤ 1099511627776) : Calls Try.prog 14 #[v, u] w fun e w' => e = .returned (.bool true) ∧ Below w.heap.size w w' := by
  obtain ⟨a, c, rfl, _, i1⟩ := h.ein
  obtain ⟨a2, c2, rfl, _, i2⟩ := k.ein
  exact same_true a a2 c c2 l w i1 i2 hn
/-- one more list, told by a call on a heap that lies below the book. -/
theorem BS.take {N : Nat} {wr w' : World} {V : Nat → Value} {hv : Value} {G : Nat → List Ent} {m : Nat} {v : Value} {l : List Ent} (h : BK N (N + 1) m V hv G wr) (hb : Below wr.heap.size wr w') (o : OE w' wr.heap.size v l) (hm : m ≤ 4) :
    Calls Try.prog 7 #[.pointer (some ⟨N, 0, none⟩), v] w' fun e w2 => e = .returned undef ∧ ∃ hv', BK N (N + 1) (m + 1) (fun j => if j = m then v else V j) hv' (fun j => if j = m then l else G j) w2 ∧ Below N w' w2 := by
  refine take_any' (h.below hb) o (fun k e => ?_) hm
  have := (o.bound e).1
  have nw := h.sp.cw
  exact ⟨by omega, fun q => by have := (h.sp.hb k q).2; omega, fun j hj q => by have := (h.sp.vb j hj k q).2; omega⟩
theorem rank99 {w : World} {B g n cap : Nat} {l : List Ent} (h : OE w B (.slice (some ⟨g, 0, none⟩) n cap) l) {i : Nat} (hi : i < l.length) : ∃ l' : List Ent, l'.length = l.length ∧ OE (w.setCell ⟨g, i * 2, none⟩ (.int .i64 99)) B (.slice (some ⟨g, 0, none⟩) n cap) l' ∧ w.grownBy (w.setCell ⟨g, i * 2, none⟩ (.int .i64 99)) (some g) ∧ (∃ r : Int, w.cell? ⟨g, i * 2, none⟩ = some (.int .i64 r)) ∧ w.frozen? ⟨g, i * 2, none⟩ = false := by
  obtain ⟨_, _, e1, _⟩ := h.formO
  injection e1 with _ e2 _
  subst e2
  have t1 := World.ownsRow.stored h (i * 2) (.int .i64 99)
  rw [encE_rank l i 99 hi] at t1
  have hcs := World.ownsRow.cells h (g := g) rfl
  obtain ⟨q1, _⟩ := encE_get l i _ (atE_some hi)
  have k1 := hcs _ _ q1
  rw [add_lt0, Nat.zero_add] at k1
  exact ⟨l.set i (99, (atE l i).2), by simp, by unfold OE; rw [List.length_set]; exact t1.1, t1.2, ⟨_, k1⟩, World.ownsRow.frozenAt h _⟩
theorem nums_h (i n : Nat) (h : i < n) (hn : n ≤ 4398046511104) : (0 : Int) ≤ (i : Int) ∧ (i : Int) < (n : Int) ∧ IntKind.i64.wrap ((i : Int) + 1) = ((i + 1 : Nat) : Int) := ⟨by omega, by omega, IntWalk.i64_in _ (by omega)⟩
/-- 28 empty lists. -/
def nils : Array Value := #[.slice none 0 0, .slice none 0 0, .slice none 0 0, .slice none 0 0, .slice none 0 0, .slice none 0 0, .slice none 0 0, .slice none 0 0, .slice none 0 0, .slice none 0 0, .slice none 0 0, .slice none 0 0, .slice none 0 0, .slice none 0 0, .slice none 0 0, .slice none 0 0, .slice none 0 0, .slice none 0 0, .slice none 0 0, .slice none 0 0, .slice none 0 0, .slice none 0 0, .slice none 0 0, .slice none 0 0, .slice none 0 0, .slice none 0 0, .slice none 0 0, .slice none 0 0]
theorem nils_is : nils = Array.replicate 28 (.slice none 0 0) := rfl
set_option maxHeartbeats 32000000 in
theorem heapOwn_walk (a : Option Addr) (len cap : Nat) (op : Nat → OpP) (x : Ent) (w : World) (hop : OpIn w a len op) (hsz : ∀ i, i < len → (op i).e.2.size ≤ 9223372036854775807) (hlen : len ≤ 1048576) (hx : x.2.size ≤ 9223372036854775807) :
    Calls Try.prog 3 #[.slice a len cap, .agg #[.int .i64 x.1, .string x.2]] w fun e w' => e = .returned (.bool true) ∧ Below w.heap.size w w' := by
  obtain ⟨K, hK⟩ : ∃ K, K = w.heap.size := ⟨_, rfl⟩
  obtain ⟨W0, hW0⟩ : ∃ W0, W0 = w.alloc (.cells #[.int .i64 x.1, .string x.2] 24) := ⟨_, rfl⟩
  have b0 : Below w.heap.size w W0 := by rw [hW0]; exact (Below.refl _ w).alloc (Nat.le_refl _) _
  have s0 : W0.heap.size = K + 1 := by rw [hW0, hK]; simp
  have x0 : W0.cell? ⟨K, 0, none⟩ = some (.int .i64 x.1) := by rw [hW0, hK]; simp [go_sem]
  have x1 : W0.cell? ⟨K, 1, none⟩ = some (.string x.2) := by rw [hW0, hK]; simp [go_sem]
  have CD : Hid _ := done_any false a len cap op W0 (hop.below b0) hsz hlen
  have hxH : Hid (x.2.size ≤ 9223372036854775807) := hx
  have H0 : Hid (Below w.heap.size w W0 ∧ W0.heap.size = K + 1 ∧ W0.cell? ⟨K, 0, none⟩ = some (.int .i64 x.1) ∧ W0.cell? ⟨K, 1, none⟩ = some (.string x.2) ∧ K = w.heap.size) := ⟨b0, s0, x0, x1, hK⟩
  have hW0H : Hid (w.alloc (.cells #[.int .i64 x.1, .string x.2] 24) = W0 ∧ w.heap.size = K) := ⟨hW0.symm, hK.symm⟩
  clear hop hsz hx b0 s0 x0 x1 hW0 hK
  go_enter Try.func3, Try.ntmps3
  go_wp2_with fail
  rw [hW0H.out.1, hW0H.out.2]
  clear hW0H
  refine Calls.mono CD.out ?_
  rintro e w1 ⟨rfl, nx⟩
  clear CD
  obtain ⟨L, mv, gb, di⟩ := nx
  obtain ⟨v, f, hs1⟩ := gb.hs
  have hLl : L.length ≤ 1048576 := Nat.le_trans di.le hlen
  obtain ⟨hp, hhp⟩ : ∃ hp, hp = W0.heap.size + 1 := ⟨_, rfl⟩
  obtain ⟨mb, hmb⟩ : ∃ mb, mb = W0.heap.size := ⟨_, rfl⟩
  have hs1' : HS w1 (W0.heap.size + 2) hp mb false v none f L mv := by rw [hhp, hmb]; exact hs1
  rw [← hhp]
  have CF : Hid _ := fork_any hs1' (by omega)
  have H1 : Hid (HS w1 (W0.heap.size + 2) hp mb false v none f L mv ∧ Below W0.heap.size W0 w1 ∧ W0.heap.size + 2 ≤ w1.heap.size ∧ hp = W0.heap.size + 1 ∧ mb = W0.heap.size) := ⟨hs1', gb.bl, gb.sz, hhp, hmb⟩
  clear hs1 hs1' hhp hmb gb di
  go_wp2_with fail
  refine Calls.mono CF.out ?_
  rintro e w2 ⟨p2, m2, v2, rfl, hf2, pl2, ml2, bl2⟩
  clear CF
  have CL : Hid _ := list_any (H1.out.1.below bl2) (by omega)
  have H2h : Hid (HS w2 w1.heap.size p2 m2 false v2 none f L mv ∧ w1.heap.size ≤ p2 ∧ w1.heap.size ≤ m2 ∧ Below w1.heap.size w1 w2) := ⟨hf2, pl2, ml2, bl2⟩
  clear hf2 pl2 ml2 bl2
  go_wp2_with fail
  refine Calls.mono CL.out ?_
  rintro e w3 ⟨vw, rfl, ow, bl3⟩
  clear CL
  obtain ⟨N, hN⟩ : ∃ N, N = w3.heap.size := ⟨_, rfl⟩
  obtain ⟨W4, hW4⟩ : ∃ W4, W4 = w3.alloc (.cells nils 59) := ⟨_, rfl⟩
  have bk0 := BK.start w3
  rw [← nils_is, ← hW4, ← hN] at bk0
  have b34 : Below w3.heap.size w3 W4 := by rw [hW4]; exact (Below.refl _ w3).alloc (Nat.le_refl _) _
  have s34 : W4.heap.size = N + 1 := by rw [hW4, hN]; simp
  obtain ⟨hs1, bl1, sz1, hhp, hmb⟩ := H1.out
  obtain ⟨hf2, pl2, ml2, bl2⟩ := H2h.out
  have b24 : Below w2.heap.size w2 W4 := below_trans bl3 (below_less b34 bl3.size)
  have b14 : Below w1.heap.size w1 W4 := below_trans bl2 (below_less b24 bl2.size)
  have HH : Hid (∀ W, Below N W4 W → HS W (W0.heap.size + 2) hp mb false v none f L mv ∧ HS W w1.heap.size p2 m2 false v2 none f L mv ∧ OE W w2.heap.size vw L ∧ W.cell? ⟨K, 0, none⟩ = some (.int .i64 x.1) ∧ W.cell? ⟨K, 1, none⟩ = some (.string x.2) ∧ Below w.heap.size w W) := fun W hW => by
    have kr : KR (fun k => k < N) W4 W := ⟨hW.size, fun k _ s => hW.block k s, hW.os, hW.tape, hW.output⟩
    obtain ⟨q0, q1, q2, q3, q4⟩ := H0.out
    have z1 := bl1.size
    have z2 := bl2.size
    have z3 := bl3.size
    have hhl := hs1.hl
    have hml : mb < w1.heap.size := by obtain ⟨_, m, _⟩ := hs1.mp; exact m.lt
    have hpl := hf2.hl
    have hm2 : m2 < w2.heap.size := by obtain ⟨_, m, _⟩ := hf2.mp; exact m.lt
    have bK : Below K.succ W0 W := below_trans (below_trans (below_less bl1 (by omega)) (below_less b14 (by omega))) (below_less hW (by omega))
    refine ⟨(hs1.below b14).kr kr (by omega) (by omega) (fun q e => by have := (World.ownsRow.lt hs1.row q e).2; omega), (hf2.below b24).kr kr (by omega) (by omega) (fun q e => by have := (World.ownsRow.lt hf2.row q e).2; omega), (ow.below b34 (Nat.le_refl _)).kr kr (fun q e => by have := (ow.bound e).2; omega), ?_, ?_, ?_⟩
    · rw [bK.cell (p := ⟨K, 0, none⟩) (by show K < _; omega)]; exact q2
    · rw [bK.cell (p := ⟨K, 1, none⟩) (by show K < _; omega)]; exact q3
    · exact below_trans q0 (below_less (below_trans (below_trans bl1 (below_less b14 bl1.size)) (below_less hW (by omega))) (by omega))
  have NB : Hid (N + 1 = W4.heap.size ∧ w1.heap.size ≤ w2.heap.size ∧ w2.heap.size ≤ N ∧ w.heap.size ≤ W0.heap.size ∧ W0.heap.size + 2 ≤ w1.heap.size ∧ K < W0.heap.size ∧ w1.heap.size ≤ p2 ∧ p2 < N ∧ w1.heap.size ≤ m2 ∧ m2 < N ∧ hp < w1.heap.size ∧ mb < w1.heap.size ∧ (∀ q, v.ownBlock = some q → W0.heap.size + 2 ≤ q ∧ q < w1.heap.size) ∧ (∀ q, v2.ownBlock = some q → w1.heap.size ≤ q ∧ q < N)) := by
    have z2 := bl2.size
    have z3 := bl3.size
    obtain ⟨q0, q1, q2, q3, q4⟩ := H0.out
    refine ⟨by omega, by omega, by omega, q0.size, sz1, by omega, pl2, by have := hf2.hl; omega, ml2, ?_, hs1.hl, ?_, fun q e => World.ownsRow.lt hs1.row q e, fun q e => ?_⟩
    · obtain ⟨_, m, _⟩ := hf2.mp; have := m.lt; omega
    · obtain ⟨_, m, _⟩ := hs1.mp; exact m.lt
    · have := World.ownsRow.lt hf2.row q e; omega
  have BS0 : Hid (BS N L.length 0 W4 W4) := ⟨_, _, _, bk0, fun j hj => by omega, Below.refl _ _⟩
  have hW4H : Hid (w3.alloc (.cells nils 59) = W4 ∧ w3.heap.size = N) := ⟨hW4.symm, hN.symm⟩
  obtain ⟨aw, cw, evw, _⟩ := ow.formO
  subst evw
  clear hs1 bl1 sz1 hhp hmb hf2 pl2 ml2 bl2 b24 b14 ow bl3 b34 s34 bk0 hW4 hN H1 H2h H0
  unfold nils at hW4H
  go_wp2_with fail
  rw [hW4H.out.1, hW4H.out.2]
  clear hW4H
  go_loopw [9] (fun v9 wr => ∃ (i : Nat), v9 = .int .i64 (i : Int) ∧ i ≤ 2 ∧ Hid (BS N L.length i W4 wr)) (fun v9 _ => 2 - (intOf v9).toNat)
  case atStart => exact ⟨0, rfl, by omega, BS0⟩
  case round =>
    clear BS0
    obtain ⟨i, rfl, hil, hB⟩ := hrel
    by_cases hi : i < 2
    · obtain ⟨i0, iI, iw⟩ := nums_h i 2 hi (by omega)
      have iI2 : (i : Int) < 2 := by omega
      have C1 : Hid (Calls Try.prog 6 #[.pointer (some ⟨hp, 0, none⟩)] wr fun e w5 => ∃ v5, e = .returned v5 ∧ Calls Try.prog 7 #[.pointer (some ⟨N, 0, none⟩), v5] w5 fun e w6 => e = .returned undef ∧ Calls Try.prog 8 #[.pointer (some ⟨hp, 0, none⟩)] w6 fun e w7 => ∃ v7, e = .returned v7 ∧ Calls Try.prog 7 #[.pointer (some ⟨N, 0, none⟩), v7] w7 fun e w8 => e = .returned undef ∧ BS N L.length (i + 1) W4 w8) := by
        obtain ⟨V, hv, G, bk, hG, bW⟩ := hB.out
        have nN : N ≤ wr.heap.size := Nat.le_of_lt bk.sp.nw
        refine (list_any (HH.out wr bW).1 (by omega)).mono fun e w5 hh => ?_
        obtain ⟨v5, e5, o5, b5⟩ := hh
        refine ⟨v5, e5, (BS.take bk b5 o5 (by omega)).mono fun e w6 hh => ⟨hh.1, ?_⟩⟩
        obtain ⟨hv6, bk6, b6⟩ := hh.2
        have bW6 : Below N W4 w6 := below_trans bW (below_trans (below_less b5 nN) b6)
        have nN6 : N ≤ w6.heap.size := Nat.le_of_lt bk6.sp.nw
        refine (sorted_any (HH.out w6 bW6).1 (by omega)).mono fun e w7 hh => ?_
        obtain ⟨v7, e7, o7, b7⟩ := hh
        refine ⟨v7, e7, (BS.take bk6 b7 o7 (by omega)).mono fun e w8 hh => ⟨hh.1, ?_⟩⟩
        obtain ⟨hv8, bk8, b8⟩ := hh.2
        refine ⟨_, hv8, _, bk8, fun j hj => ?_, below_trans bW6 (below_trans (below_less b7 nN6) b8)⟩
        split
        · rw [srtL_len]; exact Nat.le_refl _
        · split
          · exact Nat.le_refl _
          · exact hG j (by omega)
      clear hB
      go_wp2_with fail
      refine Calls.mono C1.out ?_
      rintro e w5 ⟨v5, rfl, C20⟩
      have C2 : Hid _ := C20
      clear C20 C1
      go_wp2_with fail
      refine Calls.mono C2.out ?_
      rintro e w6 ⟨rfl, C30⟩
      have C3 : Hid _ := C30
      clear C30 C2
      go_wp2_with fail
      refine Calls.mono C3.out ?_
      rintro e w7 ⟨v7, rfl, C40⟩
      have C4 : Hid _ := C40
      clear C40 C3
      go_wp2_with fail
      refine Calls.mono C4.out ?_
      rintro e w8 ⟨rfl, nb⟩
      have NB8 : Hid _ := nb
      clear nb C4
      go_wp2_with fail
      exact ⟨⟨i + 1, rfl, hi, NB8⟩, by first | (simp [intOf]; done) | (simp [intOf]; omega)⟩
    · have hlt : ¬ (i : Int) < 2 := by omega
      obtain rfl : i = 2 := by omega
      obtain ⟨V, hv, G, bk, hG, bW⟩ := hB.out
      obtain ⟨hh1, hh2, hh3, hh4, hh5, hh6⟩ := HH.out wr bW
      obtain ⟨vk, w6, rk, ok, b6⟩ := copyE hh3 hLl
      have rkH : Hid (∀ W, W = wr.alloc (.cells #[] 24) → (Builtin.append_ #[28, 28] 28 #[.slice (some ⟨wr.heap.size, 0, none⟩) 0 0, .slice aw L.length cw]).run Try.prog W = .ok vk w6) := fun W e => by subst e; exact rk
      have nN : N < wr.heap.size := bk.sp.nw
      have bW6 : Below N W4 w6 := below_trans bW (below_less b6 (by omega))
      obtain ⟨_, g2, _, y0, y1, _⟩ := HH.out w6 bW6
      have s6 := b6.size
      obtain ⟨z1, z2, z3, z4, z5, z6, z7, z8, z9, z10, z11, z12, z13, z14⟩ := NB.out
      have FS0 : FS w1.heap.size N w6.heap.size p2 m2 L.length w6 w6 := ⟨v2, f, L, mv, g2, fun k e => Or.inl (z14 k e), Nat.le_refl _, KR.refl _ _, z7, z8, z9, z10, rfl, by omega⟩
      have CP : Hid (Calls Try.prog 9 #[.pointer (some ⟨p2, 0, none⟩), eV x] w6 fun e w7 => (∃ r, e = .returned r) ∧ Calls Try.prog 10 #[.pointer (some ⟨p2, 0, none⟩)] w7 fun e w8 => (∃ r, e = .returned r) ∧ Calls Try.prog 10 #[.pointer (some ⟨p2, 0, none⟩)] w8 fun e w9 => (∃ r, e = .returned r) ∧ KR (fun k => k < w1.heap.size ∨ N ≤ k) w6 w9) := (FS0.put x hxH.out (by omega)).mono fun e w7 hh => ⟨hh.1, (hh.2.pop (by omega)).mono fun e w8 hh => ⟨hh.1, (hh.2.pop (by omega)).mono fun e w9 hh => ⟨hh.1, by
        obtain ⟨_, _, _, _, _, _, _, kr, _⟩ := hh.2
        exact kr⟩⟩⟩
      unfold eV at CP
      have oks : ∀ q, vk.ownBlock = some q → wr.heap.size ≤ q ∧ q < w6.heap.size := fun q e => ok.bound e
      have ST : Hid (BK N (N + 1) 4 V hv G wr ∧ (∀ j, j < 4 → (G j).length ≤ L.length) ∧ HS wr (W0.heap.size + 2) hp mb false v none f L mv ∧ Below w.heap.size w wr ∧ OE w6 wr.heap.size vk L ∧ Below wr.heap.size wr w6 ∧ N < wr.heap.size ∧ ∀ q, vk.ownBlock = some q → wr.heap.size ≤ q ∧ q < w6.heap.size) := ⟨bk, hG, hh1, hh6, ok, b6, nN, oks⟩
      obtain ⟨ak, ck, evk, _⟩ := ok.formO
      subst evk
      clear hB bk hG bW hh1 hh2 hh3 hh4 hh5 hh6 rk ok b6 bW6 g2 FS0 oks s6 nN HH z1 z2 z3 z4 z5 z6 z7 z8 z9 z10 z11 z12 z13 z14
      go_wp2_with (at_builtin; refine wpList_append_runE (by rfl) _ _ _ (by rfl) _ _ _ _ (by rfl) (by rfl) (rkH.out _ rfl) ?_)
      refine Calls.mono CP.out ?_
      rintro e w7 ⟨⟨r, rfl⟩, CP20⟩
      have CP2 : Hid _ := CP20
      clear CP20 CP rkH y0 y1
      go_wp2_with fail
      refine Calls.mono CP2.out ?_
      rintro e w8 ⟨⟨r2, rfl⟩, CP30⟩
      have CP3 : Hid _ := CP30
      clear CP30 CP2
      go_wp2_with fail
      refine Calls.mono CP3.out ?_
      rintro e w9 ⟨⟨r3, rfl⟩, kr9⟩
      clear CP3
      obtain ⟨bk, hG, hs, bw, ok, b6, nN, oks⟩ := ST.out
      obtain ⟨z1, z2, z3, z4, z5, z6, z7, z8, z9, z10, z11, z12, z13, z14⟩ := NB.out
      have s6 := b6.size
      have s9 := kr9.size
      have ok9 := ok.kr kr9 (fun q e => by have := oks q e; exact Or.inr (by omega))
      obtain ⟨vl, w10, rl, ol, b10⟩ := copyE ok9 hLl
      have s10 := b10.size
      have ols : ∀ q, vl.ownBlock = some q → w9.heap.size ≤ q ∧ q < w10.heap.size := fun q e => ol.bound e
      obtain ⟨al, cl, evl, _, hgl⟩ := ol.formO
      subst evl
      have rlH : Hid (∀ W, W = w9.alloc (.cells #[] 24) → (Builtin.append_ #[28, 28] 28 #[.slice (some ⟨w9.heap.size, 0, none⟩) 0 0, .slice ak L.length ck]).run Try.prog W = .ok (.slice al L.length cl) w10) := fun W e => by subst e; exact rl
      have hin : EnIn w10 al L := by
        obtain ⟨a', c', e', _, hi'⟩ := ol.ein
        injection e' with e'' _ _
        rw [e'']
        exact hi'
      have nd := hs.pl.nd
      have nokn : ¬ ∃ j, j < L.length ∧ kn (L.take j) (atE L j).2 = true := by
        rintro ⟨j, hj, hk⟩
        unfold kn at hk
        rw [List.any_eq_true] at hk
        obtain ⟨e, he, hd⟩ := hk
        have hd := of_decide_eq_true hd
        obtain ⟨q, hq⟩ := List.getElem?_of_mem he
        rw [List.getElem?_take] at hq
        split at hq
        · rename_i hqj
          have := nd q j (by omega) hj (by rw [atE_get hq]; exact hd)
          omega
        · cases hq
      have bp : (bldL (ahd false) (L.length / 2) (L, 0)).1.Perm L := bldL_perm (ahd false) (L.length / 2) (L, 0) (by show L.length / 2 ≤ L.length; omega)
      have CB : Hid (Calls Try.prog 11 #[.bool false, .slice al L.length cl] w10 fun e w11 => ∃ pb, e = .returned (.tuple #[.pointer (some ⟨pb, 0, none⟩), .nilIface]) ∧ OE w11 w9.heap.size (.slice al L.length cl) L ∧ ∀ w12, KR (fun k => ∀ q, (Value.slice al L.length cl).ownBlock = some q → k ≠ q) w11 w12 → Calls Try.prog 12 #[] w12 fun e w13 => e = .returned (.bool true) ∧ Calls Try.prog 13 #[.pointer (some ⟨N, 0, none⟩)] w13 fun e w14 => e = .returned (.bool true) ∧ Calls Try.prog 6 #[.pointer (some ⟨hp, 0, none⟩)] w14 fun e w15 => ∃ v15, e = .returned v15 ∧ Calls Try.prog 14 #[v15, .slice ak L.length ck] w15 fun e w16 => e = .returned (.bool true) ∧ Calls Try.prog 8 #[.pointer (some ⟨pb, 0, none⟩)] w16 fun e w17 => ∃ v17, e = .returned v17 ∧ Calls Try.prog 8 #[.pointer (some ⟨hp, 0, none⟩)] w17 fun e w18 => ∃ v18, e = .returned v18 ∧ Calls Try.prog 14 #[v17, v18] w18 fun e w19 => e = .returned (.bool true) ∧ Below w.heap.size w w19) := by
        refine (build_any false al cl L w10 hin hs.nm (by omega)).mono fun e w11 hh => ?_
        obtain ⟨hr, b11⟩ := hh
        rcases hr with ⟨_, _, bad⟩ | ⟨e1, gb⟩
        · exact absurd bad nokn
        · have s11 := b11.size
          refine ⟨w10.heap.size + 1, e1, ol.below b11 (Nat.le_refl _), fun w12 kr12 => ?_⟩
          have s12 := kr12.size
          refine (live_any w12).mono fun e w13 hh => ⟨hh.1, ?_⟩
          have b13 := hh.2
          have s13 := b13.size
          -- from where the book was closed on
          have krN : KR (fun k => k < w1.heap.size ∨ N ≤ k) wr w13 := by
            have k1 : KR (fun k => k < w1.heap.size ∨ N ≤ k) wr w6 := (KR.refl _ wr).below b6
            have k2 := k1.trans kr9
            have k3 := (k2.below b10).below b11
            have k4 : KR (fun k => k < w1.heap.size ∨ N ≤ k) wr w12 := ⟨Nat.le_trans k3.size kr12.size, fun k hk s => by
              rw [kr12.keep k (by omega) (fun q e => by have := ols q e; omega)]
              exact k3.keep k hk s, kr12.same.1.trans k3.same.1, kr12.same.2.1.trans k3.same.2.1, kr12.same.2.2.trans k3.same.2.2⟩
            exact k4.below b13
          have krK : KR (fun k => wr.heap.size ≤ k) w6 w13 := by
            have k2 : KR (fun k => wr.heap.size ≤ k) w6 w9 := kr9.less (fun k hk s => Or.inr (by omega))
            have k3 := (k2.below b10).below b11
            have k4 : KR (fun k => wr.heap.size ≤ k) w6 w12 := ⟨Nat.le_trans k3.size kr12.size, fun k hk s => by
              rw [kr12.keep k (by omega) (fun q e => by have := ols q e; omega)]
              exact k3.keep k hk s, kr12.same.1.trans k3.same.1, kr12.same.2.1.trans k3.same.2.1, kr12.same.2.2.trans k3.same.2.2⟩
            exact k4.below b13
          have krB : KR (fun k => w10.heap.size ≤ k) w11 w13 := (kr12.less (fun k hk s q e => by have := ols q e; omega)).below b13
          have bk13 := bk.kr krN (fun q hq => Or.inr hq)
          refine (alone_any bk13 (by omega) (fun j hj => by have := hG j hj; omega)).mono fun e w14 hh => ⟨hh.1, ?_⟩
          have af := hh.2
          have vb : ∀ j, j < 4 → ∀ q, (V j).ownBlock = some q → N + 1 ≤ q ∧ q < wr.heap.size := fun j hj q e => bk.sp.vb j hj q e
          have a1 : KR (fun k => k < N) w13 w14 := ⟨af.size, fun k hk s => af.keep k hk (by omega) (fun j hj e => by have := vb j hj k e; omega), af.same⟩
          have a2 : KR (fun k => wr.heap.size ≤ k) w13 w14 := ⟨af.size, fun k hk s => af.keep k hk (by omega) (fun j hj e => by have := vb j hj k e; omega), af.same⟩
          have h14 := (hs.kr krN (Or.inl z11) (Or.inl z12) (fun q e => Or.inl (z13 q e).2)).kr a1 (by omega) (by omega) (fun q e => by have := z13 q e; omega)
          have k14 := (ok.kr krK (fun q e => (oks q e).1)).kr a2 (fun q e => (oks q e).1)
          obtain ⟨vb', fb, hb⟩ := gb.hs
          have b14 := (hb.kr krB (by omega) (by omega) (fun q e => by have := (World.ownsRow.lt hb.row q e).1; omega)).kr a2 (by omega) (by omega) (fun q e => by have := (World.ownsRow.lt hb.row q e).1; omega)
          have kw : Below w.heap.size w w14 := by
            have q1 : Below w.heap.size wr w13 := krN.toB (by have := bw.size; omega) (fun k hk => Or.inl (by omega))
            have q2 : Below w.heap.size w13 w14 := a1.toB (by omega) (fun k hk => by omega)
            exact below_trans (below_trans bw q1) q2
          refine (list_any h14 (by omega)).mono fun e w15 hh => ?_
          obtain ⟨v15, e15, o15, b15⟩ := hh
          refine ⟨v15, e15, (same_oeT o15 (k14.below b15 (Nat.le_refl _)) (by omega)).mono fun e w16 hh => ⟨hh.1, ?_⟩⟩
          have b16 := below_trans b15 (below_less hh.2 b15.size)
          have lB : (bldL (ahd false) (L.length / 2) (L, 0)).1.length = L.length := bp.length_eq
          refine (sorted_any (b14.below b16) (by rw [lB]; omega)).mono fun e w17 hh => ?_
          obtain ⟨v17, e17, o17, b17⟩ := hh
          have b17' := below_trans b16 (below_less b17 b16.size)
          refine ⟨v17, e17, (sorted_any (h14.below b17') (by omega)).mono fun e w18 hh => ?_⟩
          obtain ⟨v18, e18, o18, b18⟩ := hh
          have b18' := below_trans b17' (below_less b18 b17'.size)
          rw [srtL_same bp] at o17
          refine ⟨v18, e18, (same_oeT (o17.below b18 (Nat.le_refl _)) o18 (by rw [srtL_len]; omega)).mono fun e w19 hh => ⟨hh.1, ?_⟩⟩
          exact below_trans kw (below_less (below_trans b18' (below_less hh.2 b18'.size)) kw.size)
      have glH : Hid (0 < L.length → ∃ g, al = some ⟨g, 0, none⟩) := hgl
      clear ST NB bk hG hs bw ok b6 nN oks s6 s9 ok9 rl ol b10 s10 ols hgl hin nd nokn bp kr9 hxH z1 z2 z3 z4 z5 z6 z7 z8 z9 z10 z11 z12 z13 z14
      go_wp2_with (at_builtin; refine wpList_append_runE (by rfl) _ _ _ (by rfl) _ _ _ _ (by rfl) (by rfl) (rlH.out _ rfl) ?_)
      refine Calls.mono CB.out ?_
      rintro e w11 ⟨pb, rfl, ol11, FIN0⟩
      have FIN : Hid _ := FIN0
      have RK0 : Hid (∃ l' : List Ent, l'.length = L.length ∧ OE w11 w9.heap.size (.slice al L.length cl) l' ∧ KR (fun k => ∀ q, (Value.slice al L.length cl).ownBlock = some q → k ≠ q) w11 w11) := ⟨L, rfl, ol11, KR.refl _ _⟩
      clear FIN0 CB rlH ol11
      go_wp2_with fail
      go_loopw [14] (fun v14 wx => ∃ (q : Nat), v14 = .int .i64 (q : Int) ∧ q ≤ L.length ∧ Hid (∃ l' : List Ent, l'.length = L.length ∧ OE wx w9.heap.size (.slice al L.length cl) l' ∧ KR (fun k => ∀ q, (Value.slice al L.length cl).ownBlock = some q → k ≠ q) w11 wx)) (fun v14 _ => L.length - (intOf v14).toNat)
      case atStart => exact ⟨0, rfl, Nat.zero_le _, RK0⟩
      case round =>
        clear RK0
        obtain ⟨q, rfl, hql, hR⟩ := hrel
        by_cases hq : q < L.length
        · obtain ⟨q0, qI, qw⟩ := nums_h q L.length hq (by omega)
          obtain ⟨g, rfl⟩ := glH.out (by omega)
          obtain ⟨l', hl', o', kr'⟩ := hR.out
          obtain ⟨l2, hl2, o2, gg, ⟨r, d0⟩, z0⟩ := rank99 o' (i := q) (by omega)
          have NX : Hid (∃ l' : List Ent, l'.length = L.length ∧ OE (wr.setCell ⟨g, q * 2, none⟩ (.int .i64 99)) w9.heap.size (.slice (some ⟨g, 0, none⟩) L.length cl) l' ∧ KR (fun k => ∀ q, (Value.slice (some ⟨g, 0, none⟩) L.length cl).ownBlock = some q → k ≠ q) w11 (wr.setCell ⟨g, q * 2, none⟩ (.int .i64 99))) := ⟨l2, by omega, o2, kr'.trans ⟨gg.size, fun k hk s => gg.block k hk (fun e => by injection e with e; exact s g rfl e), gg.os, gg.tape, gg.output⟩⟩
          clear hR o' kr' o2 gg hl' hl2
          go_wp2_with fail
          exact ⟨⟨q + 1, rfl, hq, NX⟩, by first | (simp [intOf]; done) | (simp [intOf]; omega)⟩
        · have hlt3 : ¬ (q : Int) < (L.length : Int) := by omega
          have C1 : Hid _ := FIN.out wr (by obtain ⟨_, _, _, kr'⟩ := hR.out; exact kr')
          clear hR FIN
          go_wp2_with fail
          refine Calls.mono C1.out ?_
          rintro e w13 ⟨rfl, C20⟩
          have C2 : Hid _ := C20
          clear C20 C1
          go_wp2_with fail
          refine Calls.mono C2.out ?_
          rintro e w14 ⟨rfl, C30⟩
          have C3 : Hid _ := C30
          clear C30 C2
          go_wp2_with fail
          refine Calls.mono C3.out ?_
          rintro e w15 ⟨v15, rfl, C40⟩
          have C4 : Hid _ := C40
          clear C40 C3
          go_wp2_with fail
          refine Calls.mono C4.out ?_
          rintro e w16 ⟨rfl, C50⟩
          have C5 : Hid _ := C50
          clear C50 C4
          go_wp2_with fail
          refine Calls.mono C5.out ?_
          rintro e w17 ⟨v17, rfl, C60⟩
          have C6 : Hid _ := C60
          clear C60 C5
          go_wp2_with fail
          refine Calls.mono C6.out ?_
          rintro e w18 ⟨v18, rfl, C70⟩
          have C7 : Hid _ := C70
          clear C70 C6
          go_wp2_with fail
          refine Calls.mono C7.out ?_
          rintro e w19 ⟨rfl, fin0⟩
          have fin : Hid _ := fin0
          clear fin0 C7
          go_wp2_with fail
          go_ret
          exact ⟨rfl, fin.out⟩
end Go.Proofs.Ytcglgfcmhhbeaaa.Hp
