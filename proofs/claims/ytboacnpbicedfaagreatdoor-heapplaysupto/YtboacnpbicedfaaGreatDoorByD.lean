
import Derived.Test.YtboacnpbicedfaaGreatDoorByC
namespace Go.Proofs.YtboacnpbicedfaaGreatDoor.Hp
open Go.RowKit Go.Maps
set_option linter.unusedVariables false
set_option linter.unusedSimpArgs false
set_option maxRecDepth 100000
theorem encE_rank (l : List Ent) (i : Nat) (r : Int) (hi : i < l.length) : (encE l).set (i * 2) (.int .i64 r) = encE (l.set i (r, (atE l i).2)) := by
  rw [← encE_put l i _ hi]
  obtain ⟨_, e2⟩ := encE_get l i _ (atE_some hi)
  generalize (atE l i).2 = nm at *
  generalize encE l = M at *
  apply List.ext_getElem?
  intro j
  simp only [List.getElem?_set]
  by_cases h1 : i * 2 + 1 = j
  · subst h1
    rw [if_neg (by omega), e2, if_pos rfl]
    have : i * 2 + 1 < M.length := (List.getElem?_eq_some_iff.1 e2).1
    simp [this]
  · rw [if_neg h1]
theorem HS.ranked {w : World} {B hp mb g n cap : Nat} {most : Bool} {f : ByteArray → Option Nat} {L : List Ent} {mv : Int} (h : HS w B hp mb most (.slice (some ⟨g, 0, none⟩) n cap) none f L mv) (i : Nat) (hi : i < L.length) (r : Int) : HS (w.setCell ⟨g, i * 2, none⟩ (.int .i64 r)) B hp mb most (.slice (some ⟨g, 0, none⟩) n cap) none f (L.set i (r, (atE L i).2)) mv ∧ HF hp mb (some g) w (w.setCell ⟨g, i * 2, none⟩ (.int .i64 r)) := by
  obtain ⟨rfl, _⟩ := h.len
  have t := World.ownsRow.stored h.row (i * 2) (.int .i64 r)
  rw [encE_rank L i r hi] at t
  obtain ⟨_, _, gB, gl, _⟩ := h.len
  have hB := (h.hw.sp g rfl).1
  have mB := (h.hw.sp g rfl).2
  have hl := h.hl
  have kh : (w.setCell ⟨g, i * 2, none⟩ (.int .i64 r)).heap[hp]? = w.heap[hp]? := t.2.block hp hl (fun e => by injection e; omega)
  have co : ∀ o, (w.setCell ⟨g, i * 2, none⟩ (.int .i64 r)).cell? ⟨hp, o, none⟩ = w.cell? ⟨hp, o, none⟩ := fun o => World.cell?_of_block (w := w) (a := ⟨hp, o, none⟩) kh
  obtain ⟨c, mp, hc⟩ := h.mp
  refine ⟨⟨by rw [co]; exact h.c0, by rw [co]; exact h.c1, by rw [co]; exact h.c2, by rw [co]; exact h.c3, by rw [World.frozen?_setCell]; exact h.z0, by rw [World.frozen?_setCell]; exact h.z3, by rw [List.length_set]; exact t.1, ⟨c, mp.keep (t.2.block mb mp.lt (fun e => by injection e; omega)), by rw [List.length_set]; exact hc⟩, h.pl.turn hi r, h.hw, fun e he => ?_, by simpa using hl, h.exs⟩, HF.grown t.2 (Or.inr (Or.inr rfl))⟩
  rcases List.mem_or_eq_of_mem_set he with q | q
  · exact h.nm e q
  · rw [q]; exact h.nm (atE L i) (List.mem_of_getElem? (atE_some hi))
theorem turn_none {w : World} {B hp mb : Nat} {most : Bool} {v : Value} {f : ByteArray → Option Nat} {L : List Ent} {mv : Int} (h : HS w B hp mb most v none f L mv) (s : ByteArray) (hs : s.size ≤ 9223372036854775807) (r : Int) (hf : f s = none) :
    Calls Tryz.prog 32 #[.pointer (some ⟨hp, 0, none⟩), .string s, .int .i64 r] w fun e w' => e = .returned (.iface 41 (.int .i64 4)) ∧ w' = w := by
  have CF : Hid _ := find_none h s hs hf
  clear h
  go_enter Tryz.func32, Tryz.ntmps32
  go_wp2_with fail
  refine Calls.mono CF.out ?_
  rintro e w1 ⟨rfl, hw1⟩
  subst hw1
  go_wp2_with fail
  go_ret
  exact ⟨rfl, rfl⟩
set_option maxRecDepth 100000 in
set_option maxHeartbeats 4000000 in
theorem turn_ok {w : World} {B hp mb : Nat} {most : Bool} {v : Value} {f : ByteArray → Option Nat} {L : List Ent} {mv : Int} (h : HS w B hp mb most v none f L mv) (s : ByteArray) (hs : s.size ≤ 9223372036854775807) (r : Int) (i : Nat) (hf : f s = some i) (hn : L.length ≤ 1099511627776) :
    Calls Tryz.prog 32 #[.pointer (some ⟨hp, 0, none⟩), .string s, .int .i64 r] w fun e w' => e = .returned .nilIface ∧ OP w B hp mb most v (mendL (ahd most) (L.set i (r, s)) i).1 ((mendL (ahd most) (L.set i (r, s)) i).2 : Nat) w' := by
  have CF : Hid _ := find_some h s hs i hf
  obtain ⟨hi, hnm⟩ := h.pl.lt (by simp) hf
  obtain ⟨a, cap, rfl, hg⟩ := h.form
  obtain ⟨g, rfl⟩ := hg (by omega)
  have c0 := h.c0
  obtain ⟨a1, _⟩ := h.at hi
  have z1 := World.ownsRow.frozenAt h.row (i * 2)
  obtain ⟨h2, fr2⟩ := h.ranked i hi r
  rw [hnm] at h2
  obtain ⟨W2, hW2⟩ : ∃ W2, W2 = w.setCell ⟨g, i * 2, none⟩ (.int .i64 r) := ⟨_, rfl⟩
  rw [← hW2] at h2 fr2
  have ud : UD W2 B hp mb most (.slice (some ⟨g, 0, none⟩) L.length cap) none L.length (L.set i (r, s)) mv W2 := ⟨⟨_, h2⟩, HF.refl _ _ _ _, by simp⟩
  have CM : Hid (Calls Tryz.prog 63 #[.pointer (some ⟨hp, 0, none⟩), .int .i64 (i : Int)] W2 fun e w' => e = .returned (.int .i64 (((mendL (ahd most) (L.set i (r, s)) i).2 : Nat) : Int)) ∧ (w'.frozen? ⟨hp, 3, none⟩ = false ∧ w'.cell? ⟨hp, 3, none⟩ = some (.int .i64 mv)) ∧ OP w B hp mb most (.slice (some ⟨g, 0, none⟩) L.length cap) (mendL (ahd most) (L.set i (r, s)) i).1 ((mendL (ahd most) (L.set i (r, s)) i).2 : Nat) (w'.setCell ⟨hp, 3, none⟩ (.int .i64 (((mendL (ahd most) (L.set i (r, s)) i).2 : Nat) : Int)))) := by
    refine (mend_any ud i hi (by omega)).mono fun e w2 hh => ?_
    obtain ⟨rfl, u2⟩ := hh
    obtain ⟨f2, hs2⟩ := u2.hs
    obtain ⟨m1, m2⟩ := hs2.setMoves (((mendL (ahd most) (L.set i (r, s)) i).2 : Nat) : Int)
    exact ⟨rfl, ⟨hs2.z3, hs2.c3⟩, ⟨⟨_, f2, m1, Or.inl rfl⟩, (HF.trans fr2 u2.fr).trans (m2 _)⟩⟩
  have i0 : (0 : Int) ≤ (i : Int) := Int.natCast_nonneg i
  have iI : (i : Int) < (L.length : Int) := Int.ofNat_lt.2 hi
  have hW2H : Hid (w.setCell ⟨g, i * 2, none⟩ (.int .i64 r) = W2) := hW2.symm
  generalize mendL (ahd most) (L.set i (r, s)) i = R at *
  clear h h2 fr2 ud hg hW2 hnm hn hs hf
  generalize L.length = n at *
  go_enter Tryz.func32, Tryz.ntmps32
  go_wp2_with fail
  refine Calls.mono CF.out ?_
  rintro e w1 ⟨rfl, hw1⟩
  subst hw1
  clear CF
  go_wp2_with fail
  rw [hW2H.out]
  clear hW2H c0 a1 z1
  refine Calls.mono CM.out ?_
  rintro e w2 ⟨rfl, ⟨z3, c3⟩, op0⟩
  have op : Hid _ := op0
  clear op0 CM
  go_wp2_with fail
  go_ret
  exact ⟨rfl, op.out⟩
theorem take_none {w : World} {B hp mb : Nat} {most : Bool} {v : Value} {f : ByteArray → Option Nat} {L : List Ent} {mv : Int} (h : HS w B hp mb most v none f L mv) (s : ByteArray) (hs : s.size ≤ 9223372036854775807) (hf : f s = none) :
    Calls Tryz.prog 30 #[.pointer (some ⟨hp, 0, none⟩), .string s] w fun e w' => e = .returned (.tuple #[eV (0, ⟨#[]⟩), .iface 41 (.int .i64 4)]) ∧ Below w.heap.size w w' := by
  have b1 : Hid (Below w.heap.size w (w.alloc (.cells #[.int .i64 0, .string ⟨#[]⟩] 30))) := (Below.refl _ w).alloc (Nat.le_refl _) _
  have CF : Hid _ := find_none (h.below b1.out) s hs hf
  clear h
  unfold eV
  go_enter Tryz.func30, Tryz.ntmps30
  go_wp2_with fail
  refine Calls.mono CF.out ?_
  rintro e w1 ⟨rfl, hw1⟩
  subst hw1
  go_wp2_with fail
  simp [bodyPost, results, Tryz.results30, go_sem]
  exact b1.out
end Go.Proofs.YtboacnpbicedfaaGreatDoor.Hp

namespace Go.Proofs.YtboacnpbicedfaaGreatDoor.Hp
open Go.RowKit Go.Maps
set_option linter.unusedVariables false
set_option linter.unusedSimpArgs false
set_option maxRecDepth 100000
theorem ba_eq {P T : ByteArray} (h : P.data.toList = T.data.toList) : P = T := by
  cases P; cases T; exact congrArg ByteArray.mk (Array.ext' h)
theorem ba_ne {P T : ByteArray} (h : P ≠ T) : (P.toList == T.toList) = false := by
  rw [beq_eq_false_iff_ne, ByteArray.toList_eq, ByteArray.toList_eq]
  exact fun e => h (ba_eq e)
theorem cut_form {L : List Ent} (h : 0 < L.length) : ∃ M x, L = M ++ [x] := ⟨L.dropLast, L.getLast (by intro e; rw [e] at h; simp at h), (List.dropLast_concat_getLast _).symm⟩
theorem atE_last (M : List Ent) (x : Ent) : atE (M ++ [x]) ((M ++ [x]).length - 1) = x := atE_get (by simp)
/-- a name out of the map: the heap is whole again. -/
theorem HS.dropped {w : World} {B hp mb : Nat} {most : Bool} {v : Value} {f : ByteArray → Option Nat} {L : List Ent} {mv : Int} {c : Nat} (c0 : w.cell? ⟨hp, 0, none⟩ = some v) (c1 : w.cell? ⟨hp, 1, none⟩ = some (.map (some mb))) (c2 : w.cell? ⟨hp, 2, none⟩ = some (.func (.func (fnM most)) #[] #[])) (c3 : w.cell? ⟨hp, 3, none⟩ = some (.int .i64 mv)) (z0 : w.frozen? ⟨hp, 0, none⟩ = false) (z3 : w.frozen? ⟨hp, 3, none⟩ = false) (row : w.ownsRow B 30 2 v L.length (encE L)) (mp : MP w mb f c) (hc : c ≤ L.length + 1) (hw : HW v.ownBlock hp mb) (nm : ∀ e ∈ L, e.2.size ≤ 9223372036854775807) (hl : hp < w.heap.size)
    (s : ByteArray) (hs : s.size ≤ 9223372036854775807) (hf : (f s).isSome = true) (hp2 : PL none (upd f s none) L) (ty : TypeId) :
    ∃ w', (Builtin.delete_ #[51, 9] ty #[.map (some mb), .string s]).run Tryz.prog w = .ok (.tuple #[]) w' ∧ HS w' B hp mb most v none (upd f s none) L mv ∧ w.grownBy w' (some mb) := by
  obtain ⟨w', r, m, g, z⟩ := mp.del s hs ty
  rw [hf] at m
  have kh : w'.heap[hp]? = w.heap[hp]? := g.block hp hl (fun e => hw.ne (by injection e))
  have co : ∀ o, w'.cell? ⟨hp, o, none⟩ = w.cell? ⟨hp, o, none⟩ := fun o => World.cell?_of_block (w := w) (a := ⟨hp, o, none⟩) kh
  refine ⟨w', r, ⟨by rw [co]; exact c0, by rw [co]; exact c1, by rw [co]; exact c2, by rw [co]; exact c3, by rw [z]; exact z0, by rw [z]; exact z3, ?_, ⟨_, m, ?_⟩, hp2, hw, nm, Nat.lt_of_lt_of_le hl g.size, fun s hs => by cases hs⟩, g⟩
  · exact World.ownsRow.kept row g (Or.inr fun q => (hw.sp mb q).2 rfl)
  · show c - 1 ≤ L.length + 0
    omega
theorem HS.far {w w' : World} {B hp mb K : Nat} {most : Bool} {v : Value} {ex : Option ByteArray} {f : ByteArray → Option Nat} {L : List Ent} {mv : Int} (h : HS w B hp mb most v ex f L mv) (g : w.grownBy w' (some K)) (h1 : K ≠ hp) (h2 : K ≠ mb) (h3 : v.ownBlock ≠ some K) : HS w' B hp mb most v ex f L mv := by
  have kh : w'.heap[hp]? = w.heap[hp]? := g.block hp h.hl (fun e => h1 (by injection e with e; exact e.symm))
  have co : ∀ o, w'.cell? ⟨hp, o, none⟩ = w.cell? ⟨hp, o, none⟩ := fun o => World.cell?_of_block (w := w) (a := ⟨hp, o, none⟩) kh
  have zo : ∀ o, w'.frozen? ⟨hp, o, none⟩ = w.frozen? ⟨hp, o, none⟩ := fun o => by simp [World.frozen?, kh]
  obtain ⟨c, mp, hc⟩ := h.mp
  exact ⟨by rw [co]; exact h.c0, by rw [co]; exact h.c1, by rw [co]; exact h.c2, by rw [co]; exact h.c3, by rw [zo]; exact h.z0, by rw [zo]; exact h.z3, World.ownsRow.kept h.row g (Or.inr h3), ⟨c, mp.keep (g.block mb mp.lt (fun e => h2 (by injection e with e; exact e.symm))), hc⟩, h.pl, h.hw, h.nm, Nat.lt_of_lt_of_le h.hl g.size, h.exs⟩
theorem two_set (w : World) (K : Nat) (u t : Value) : w.grownBy ((w.setCell ⟨K, 0, none⟩ u).setCell ⟨K, 1, none⟩ t) (some K) :=
  ⟨rfl, rfl, rfl, by simp, fun k hk q => by rw [Below.heap_setCell _ _ _ _ (fun e => q (by rw [e])), Below.heap_setCell _ _ _ _ (fun e => q (by rw [e]))]⟩
/-- the two boxes that Take makes: its result's, and what was at the place. -/
structure TB (w : World) (y : Ent) (W : World) : Prop where
  a0 : W.cell? ⟨w.heap.size, 0, none⟩ = some (.int .i64 0)
  a1 : W.cell? ⟨w.heap.size, 1, none⟩ = some (.string ⟨#[]⟩)
  b0 : W.cell? ⟨w.heap.size + 1, 0, none⟩ = some (.int .i64 y.1)
  b1 : W.cell? ⟨w.heap.size + 1, 1, none⟩ = some (.string y.2)
  z0 : W.frozen? ⟨w.heap.size, 0, none⟩ = false
  z1 : W.frozen? ⟨w.heap.size, 1, none⟩ = false
  sz : w.heap.size + 2 ≤ W.heap.size
theorem TB.keep {w W W' : World} {y : Ent} (h : TB w y W) (k0 : W'.heap[w.heap.size]? = W.heap[w.heap.size]?) (k1 : W'.heap[w.heap.size + 1]? = W.heap[w.heap.size + 1]?) (hs : W.heap.size ≤ W'.heap.size) : TB w y W' :=
  ⟨by rw [World.cell?_of_block (w := W) (a := ⟨w.heap.size, 0, none⟩) k0]; exact h.a0, by rw [World.cell?_of_block (w := W) (a := ⟨w.heap.size, 1, none⟩) k0]; exact h.a1, by rw [World.cell?_of_block (w := W) (a := ⟨w.heap.size + 1, 0, none⟩) k1]; exact h.b0, by rw [World.cell?_of_block (w := W) (a := ⟨w.heap.size + 1, 1, none⟩) k1]; exact h.b1, by have := h.z0; simp only [World.frozen?, k0] at *; exact this, by have := h.z1; simp only [World.frozen?, k0] at *; exact this, Nat.le_trans h.sz hs⟩
theorem TB.made (w : World) (y : Ent) : TB w y ((w.alloc (.cells #[.int .i64 0, .string ⟨#[]⟩] 30)).alloc (.cells #[.int .i64 y.1, .string y.2] 30)) := by
  refine ⟨?_, ?_, ?_, ?_, ?_, ?_, ?_⟩ <;> simp [go_sem]
theorem TB.frame {w W W' : World} {y : Ent} {hp mb : Nat} {rb : Option Nat} (h : TB w y W) (f : HF hp mb rb W W') (h1 : hp < w.heap.size) (h2 : mb < w.heap.size) (h3 : ∀ k, rb = some k → k < w.heap.size) : TB w y W' := by
  have := h.sz
  exact h.keep (f.keep _ (by omega) (by omega) (by omega) (fun e => by have := h3 _ e.symm; omega)) (f.keep _ (by omega) (by omega) (by omega) (fun e => by have := h3 _ e.symm; omega)) f.size
theorem CT.hf {w w' : World} {B hp mb g cap : Nat} {L : List Ent} (h : CT w B hp mb g cap L w') : HF hp mb (some g) w w' := ⟨h.size, fun k hk a b d => h.keep k hk a (fun e => d (by rw [e])), h.same⟩
theorem OP.out {w W W' : World} {B hp mb : Nat} {most : Bool} {v : Value} {f : ByteArray → Option Nat} {L : List Ent} {mv : Int} {v' : Value} (h : HS W B hp mb most v' none f L mv) (hv : v'.ownBlock = v.ownBlock) (fr : HF hp mb v.ownBlock w W) (g : W.grownBy W' (some w.heap.size)) (h1 : hp < w.heap.size) (h2 : mb < w.heap.size) (h3 : ∀ k, v.ownBlock = some k → k < w.heap.size) : OP w B hp mb most v L mv W' :=
  ⟨⟨v', f, h.far g (by omega) (by omega) (fun e => by rw [hv] at e; have := h3 _ e; omega), Or.inl hv⟩, fr.step (HF.grown (hp := hp) (mb := mb) (rb := some w.heap.size) g (Or.inr (Or.inr rfl))) (Or.inr ⟨_, rfl, Nat.le_refl _⟩)⟩
set_option maxRecDepth 100000 in
set_option maxHeartbeats 8000000 in
theorem take_over {w : World} {B hp mb : Nat} {most : Bool} {v : Value} {f : ByteArray → Option Nat} {M : List Ent} {x : Ent} {mv : Int} (h : HS w B hp mb most v none f (M ++ [x]) mv) (s : ByteArray) (hs : s.size ≤ 9223372036854775807) (i : Nat) (hf : f s = some i) (hne : x.2 ≠ s) (hn : M.length + 1 ≤ 1099511627776) :
    Calls Tryz.prog 30 #[.pointer (some ⟨hp, 0, none⟩), .string s] w fun e w' => e = .returned (.tuple #[eV (atE (M ++ [x]) i), .nilIface]) ∧ OP w B hp mb most v (mendL (ahd most) (M.set i x) i).1 ((mendL (ahd most) (M.set i x) i).2 : Nat) w' := by
  have LL : (M ++ [x]).length = M.length + 1 := by simp
  obtain ⟨hi, hnm⟩ := h.pl.lt (by simp) hf
  clear hnm
  obtain ⟨hi2, pl2⟩ := h.pl.cutOver hf (by rw [atE_last]; exact hne)
  rw [atE_last, List.dropLast_concat] at pl2
  obtain ⟨a, cap, rfl, hg⟩ := h.form
  obtain ⟨g, rfl⟩ := hg (by omega)
  have hl := h.hl
  have hB := (h.hw.sp g rfl).1
  have mB := (h.hw.sp g rfl).2
  have mlt : mb < w.heap.size := by obtain ⟨_, m, _⟩ := h.mp; exact m.lt
  obtain ⟨ll, lc, gB, gl, lc2⟩ := h.len
  have b0 : Below w.heap.size w (w.alloc (.cells #[.int .i64 0, .string ⟨#[]⟩] 30)) := (Below.refl _ w).alloc (Nat.le_refl _) _
  have CF : Hid _ := find_some (h.below b0) s hs i hf
  have c0 := h.c0
  obtain ⟨e1, e2⟩ := h.at hi
  obtain ⟨y, hy⟩ : ∃ y, y = atE (M ++ [x]) i := ⟨_, rfl⟩
  rw [← hy] at e1 e2 ⊢
  obtain ⟨W1, hW1⟩ : ∃ W1, W1 = (w.alloc (.cells #[.int .i64 0, .string ⟨#[]⟩] 30)).alloc (.cells #[.int .i64 y.1, .string y.2] 30) := ⟨_, rfl⟩
  have b1 : Below w.heap.size w W1 := by rw [hW1]; exact ((Below.refl _ w).alloc (Nat.le_refl _) _).alloc (by simp) _
  have tb1 : TB w y W1 := by rw [hW1]; exact TB.made w y
  have h1 := h.below b1
  rw [LL] at h1
  have CC : Hid (Calls Tryz.prog 62 #[.pointer (some ⟨hp, 0, none⟩)] W1 fun e w' => e = .returned (eV x) ∧ CT W1 B hp mb g cap M w') := cut_any h1 hn
  have NX : Hid (∀ w2, CT W1 B hp mb g cap M w2 → w2.cell? ⟨hp, 3, none⟩ = some (.int .i64 mv) ∧ w2.frozen? ⟨hp, 3, none⟩ = false ∧ hp < w2.heap.size ∧ ∀ W4, W4 = (w2.setCell ⟨hp, 3, none⟩ (.int .i64 0)).alloc (.cells #[.int .i64 x.1, .string x.2] 30) → Calls Tryz.prog 49 #[.pointer (some ⟨hp, 0, none⟩), .int .i64 (i : Int), eV x] W4 fun e w5 => e = .returned undef ∧ Calls Tryz.prog 63 #[.pointer (some ⟨hp, 0, none⟩), .int .i64 (i : Int)] w5 fun e w6 => e = .returned (.int .i64 (((mendL (ahd most) (M.set i x) i).2 : Nat) : Int)) ∧ w6.cell? ⟨hp, 3, none⟩ = some (.int .i64 0) ∧ w6.frozen? ⟨hp, 3, none⟩ = false ∧ w6.cell? ⟨hp, 1, none⟩ = some (.map (some mb)) ∧ ∃ w8, ((Builtin.delete_ #[51, 9] 0 #[.map (some mb), .string s]).run Tryz.prog (w6.setCell ⟨hp, 3, none⟩ (.int .i64 (((mendL (ahd most) (M.set i x) i).2 : Nat) : Int))) = .ok (.tuple #[]) w8) ∧ TB w y w8 ∧ ∀ w9, w8.grownBy w9 (some w.heap.size) → OP w B hp mb most (.slice (some ⟨g, 0, none⟩) (M ++ [x]).length cap) (mendL (ahd most) (M.set i x) i).1 ((mendL (ahd most) (M.set i x) i).2 : Nat) w9) := fun w2 ct => by
    have k3 : w2.cell? ⟨hp, 3, none⟩ = some (.int .i64 mv) := by rw [ct.cs 3 (by omega)]; exact h1.c3
    have hl2 : hp < w2.heap.size := Nat.lt_of_lt_of_le h1.hl ct.size
    refine ⟨k3, by rw [ct.zs]; exact h1.z3, hl2, fun W4 hW4 => ?_⟩
    obtain ⟨W3, hW3⟩ : ∃ W3, W3 = w2.setCell ⟨hp, 3, none⟩ (.int .i64 0) := ⟨_, rfl⟩
    rw [← hW3] at hW4
    have g3 : w2.grownBy W3 (some hp) := by rw [hW3]; exact ⟨rfl, rfl, rfl, by simp, fun k hk q => Below.heap_setCell _ _ _ _ (fun e => q (by rw [e]))⟩
    have b4 : Below W3.heap.size W3 W4 := by rw [hW4]; exact (Below.refl _ W3).alloc (Nat.le_refl _) _
    have hl3 : hp < W3.heap.size := Nat.lt_of_lt_of_le hl2 g3.size
    have c4 : ∀ o, o ≠ 3 → W4.cell? ⟨hp, o, none⟩ = w2.cell? ⟨hp, o, none⟩ := fun o ho => by rw [b4.cell (p := ⟨hp, o, none⟩) hl3, hW3, World.cell?_setCell_other _ _ _ _ (by intro e; injection e; omega)]
    have z4 : ∀ o, W4.frozen? ⟨hp, o, none⟩ = W1.frozen? ⟨hp, o, none⟩ := fun o => by rw [b4.frozen (p := ⟨hp, o, none⟩) hl3, hW3, World.frozen?_setCell, ct.zs]
    have d0 : W4.cell? ⟨hp, 0, none⟩ = some (.slice (some ⟨g, 0, none⟩) M.length cap) := by rw [c4 0 (by omega)]; exact ct.c0
    have d1 : W4.cell? ⟨hp, 1, none⟩ = some (.map (some mb)) := by rw [c4 1 (by omega), ct.cs 1 (by omega)]; exact h1.c1
    have d2 : W4.cell? ⟨hp, 2, none⟩ = some (.func (.func (fnM most)) #[] #[]) := by rw [c4 2 (by omega), ct.cs 2 (by omega)]; exact h1.c2
    have d3 : W4.cell? ⟨hp, 3, none⟩ = some (.int .i64 0) := by rw [b4.cell (p := ⟨hp, 3, none⟩) hl3, hW3]; exact World.cell?_setCell_same _ _ _ k3
    have row3 : W3.ownsRow B 30 2 (.slice (some ⟨g, 0, none⟩) M.length cap) M.length (encE M) := by rw [hW3]; exact ownsRow_setCell_ne ct.row _ (fun k e => by injection e with e; subst e; exact hB) _
    have row4 : W4.ownsRow B 30 2 (.slice (some ⟨g, 0, none⟩) M.length cap) M.length (encE M) := by rw [hW4]; exact row3.alloc _
    obtain ⟨c, mp1, hc⟩ := h1.mp
    have hc : c ≤ M.length + 1 := by have : c ≤ (M ++ [x]).length + 0 := hc; omega
    have m2 : w2.heap[mb]? = W1.heap[mb]? := ct.keep mb mp1.lt (fun e => h.hw.ne e.symm) (by omega)
    have mlt2 : mb < w2.heap.size := Nat.lt_of_lt_of_le mp1.lt ct.size
    have m3 : W3.heap[mb]? = w2.heap[mb]? := g3.block mb mlt2 (fun e => h.hw.ne (by injection e with e; exact e.symm))
    have mp4 : MP W4 mb f c := mp1.keep (by rw [b4.block mb (Nat.lt_of_lt_of_le mlt2 g3.size), m3, m2])
    have hx : x.2.size ≤ 9223372036854775807 := h.nm x (by simp)
    have fx : f x.2 = some M.length := by
      have := h.pl.at (i := M.length) (by omega)
      rwa [show atE (M ++ [x]) M.length = x from atE_get (by simp)] at this
    have fr14 : HF hp mb (some g) w W4 := (((HF.below b1).trans ct.hf).trans (HF.grown g3 (Or.inl rfl))).trans (HF.below b4)
    have h3 : ∀ k, (some g : Option Nat) = some k → k < w.heap.size := fun k e => by injection e with e; omega
    have tb4 : TB w y W4 := ((tb1.frame ct.hf hl mlt h3).frame (HF.grown (rb := some g) g3 (Or.inl rfl)) hl mlt h3).frame (HF.below (rb := some g) b4) hl mlt h3
    have hiM : i < M.length := by omega
    refine (lay_any (cm := M.length + 1) h.hw (Nat.lt_of_lt_of_le hl3 b4.size) d0 d1 row4 mp4 i hiM (by omega) x hx (by rw [fx]; exact hc) (by omega)).mono fun e w5 hh => ?_
    obtain ⟨rfl, ly⟩ := hh
    refine ⟨rfl, ?_⟩
    have h5 : HS w5 B hp mb most (.slice (some ⟨g, 0, none⟩) M.length cap) (some s) (upd f x.2 (some i)) (M.set i x) 0 := by
      refine ⟨by rw [(ly.cs 0).1]; exact d0, by rw [(ly.cs 1).1]; exact d1, by rw [(ly.cs 2).1]; exact d2, by rw [(ly.cs 3).1]; exact d3, by rw [(ly.cs 0).2, z4]; exact h1.z0, by rw [(ly.cs 3).2, z4]; exact h1.z3, ly.row, by rw [List.length_set]; exact ly.mp, pl2, h.hw, fun e he => ?_, Nat.lt_of_lt_of_le (Nat.lt_of_lt_of_le hl3 b4.size) ly.fr.size, fun t ht => ?_⟩
      · rcases List.mem_or_eq_of_mem_set he with q | q
        · exact h.nm e (List.mem_append_left _ q)
        · rw [q]; exact hx
      · injection ht with ht
        subst ht
        exact upd_some (by rw [hf]; rfl)
    have ud : UD w5 B hp mb most (.slice (some ⟨g, 0, none⟩) M.length cap) (some s) M.length (M.set i x) 0 w5 := ⟨⟨_, h5⟩, HF.refl _ _ _ _, by simp⟩
    refine (mend_any ud i hiM (by omega)).mono fun e w6 hh => ?_
    obtain ⟨rfl, u6⟩ := hh
    obtain ⟨f6, h6⟩ := u6.hs
    obtain ⟨h7, m7⟩ := h6.setMoves (((mendL (ahd most) (M.set i x) i).2 : Nat) : Int)
    obtain ⟨c7, mp7, hc7⟩ := h7.mp
    obtain ⟨w8, r8, h8, g8⟩ := HS.dropped h7.c0 h7.c1 h7.c2 h7.c3 h7.z0 h7.z3 h7.row mp7 hc7 h7.hw h7.nm h7.hl s hs (h7.exs s rfl) h7.pl.drop 0
    have fr8 : HF hp mb (some g) w5 w8 := (HF.trans u6.fr (m7 _)).trans (HF.grown g8 (Or.inr (Or.inl rfl)))
    refine ⟨rfl, h6.c3, h6.z3, h6.c1, w8, r8, (tb4.frame ly.fr hl mlt h3).frame fr8 hl mlt h3, fun w9 g9 => ?_⟩
    exact OP.out (v := .slice (some ⟨g, 0, none⟩) (M ++ [x]).length cap) h8 rfl ((fr14.trans ly.fr).trans fr8) g9 hl mlt h3
  have i0 : (0 : Int) ≤ (i : Int) := Int.natCast_nonneg i
  have iI : (i : Int) < ((M ++ [x]).length : Int) := Int.ofNat_lt.2 hi
  have hW1H : Hid ((w.alloc (.cells #[.int .i64 0, .string ⟨#[]⟩] 30)).alloc (.cells #[.int .i64 y.1, .string y.2] 30) = W1) := hW1.symm
  generalize mendL (ahd most) (M.set i x) i = R at *
  have hneB : (x.2.toList == s.toList) = false := ba_ne hne
  unfold eV at CC NX ⊢
  generalize (M ++ [x]).length = n at *
  clear h h1 hg hn hs hf hne pl2 hi2 b0 b1 tb1 hy hW1 ll lc gB lc2 mlt mB hB LL
  go_enter Tryz.func30, Tryz.ntmps30
  go_wp2_with fail
  refine Calls.mono CF.out ?_
  rintro e w1 ⟨rfl, hw1⟩
  subst hw1
  clear CF
  go_wp2_with fail
  rw [hW1H.out]
  clear hW1H c0 e1 e2
  refine Calls.mono CC.out ?_
  rintro e w2 ⟨rfl, ct⟩
  obtain ⟨k3, z3, hl2, CL0⟩ := NX.out w2 ct
  have CL : Hid _ := CL0
  clear CL0 NX CC ct
  go_wp2_with fail
  refine Calls.mono (CL.out _ rfl) ?_
  rintro e w5 ⟨rfl, CM0⟩
  have CM : Hid _ := CM0
  clear CM0 CL k3 z3 hl2
  go_wp2_with fail
  refine Calls.mono CM.out ?_
  rintro e w6 ⟨rfl, c63, z63, c61, w8, r8, tb, op0⟩
  have op : Hid _ := op0
  clear op0 CM
  obtain ⟨a0, a1, b0, b1, t0, t1, tsz⟩ := tb
  go_wp2_with fail
  have p0 := World.cell?_setCell_same w8 ⟨w.heap.size, 0, none⟩ (.int .i64 y.1) a0
  have p1 := World.cell?_setCell_same (w8.setCell ⟨w.heap.size, 0, none⟩ (.int .i64 y.1)) ⟨w.heap.size, 1, none⟩ (.string y.2) (by rw [World.cell?_setCell_other _ _ _ _ (by intro e; injection e; omega)]; exact a1)
  simp [bodyPost, results, Tryz.results30, go_sem, p0, p1]
  exact op.out _ (two_set _ _ _ _)
set_option maxRecDepth 100000 in
set_option maxHeartbeats 8000000 in
theorem take_last {w : World} {B hp mb : Nat} {most : Bool} {v : Value} {f : ByteArray → Option Nat} {M : List Ent} {x : Ent} {mv : Int} (h : HS w B hp mb most v none f (M ++ [x]) mv) (s : ByteArray) (hs : s.size ≤ 9223372036854775807) (hne : x.2 = s) (hn : M.length + 1 ≤ 1099511627776) :
    Calls Tryz.prog 30 #[.pointer (some ⟨hp, 0, none⟩), .string s] w fun e w' => e = .returned (.tuple #[eV x, .nilIface]) ∧ OP w B hp mb most v M 0 w' := by
  have LL : (M ++ [x]).length = M.length + 1 := by simp
  obtain ⟨i, hie⟩ : ∃ i, i = M.length := ⟨_, rfl⟩
  have hi : i < (M ++ [x]).length := by omega
  have atx : atE (M ++ [x]) i = x := atE_get (by rw [hie]; simp)
  have hf : f s = some i := by have := h.pl.at hi; rw [atx, hne] at this; exact this
  have pl2 := h.pl.cutLast (by omega) (name := s) (by rw [atE_last]; exact hne)
  rw [List.dropLast_concat] at pl2
  obtain ⟨a, cap, rfl, hg⟩ := h.form
  obtain ⟨g, rfl⟩ := hg (by omega)
  have hl := h.hl
  have hB := (h.hw.sp g rfl).1
  have mB := (h.hw.sp g rfl).2
  have mlt : mb < w.heap.size := by obtain ⟨_, m, _⟩ := h.mp; exact m.lt
  obtain ⟨ll, lc, gB, gl, lc2⟩ := h.len
  have b0 : Below w.heap.size w (w.alloc (.cells #[.int .i64 0, .string ⟨#[]⟩] 30)) := (Below.refl _ w).alloc (Nat.le_refl _) _
  have CF : Hid _ := find_some (h.below b0) s hs i hf
  have c0 := h.c0
  obtain ⟨e1, e2⟩ := h.at hi
  obtain ⟨y, hy⟩ : ∃ y, y = x := ⟨_, rfl⟩
  rw [atx] at e1 e2
  rw [← hy] at e1 e2
  obtain ⟨W1, hW1⟩ : ∃ W1, W1 = (w.alloc (.cells #[.int .i64 0, .string ⟨#[]⟩] 30)).alloc (.cells #[.int .i64 y.1, .string y.2] 30) := ⟨_, rfl⟩
  have b1 : Below w.heap.size w W1 := by rw [hW1]; exact ((Below.refl _ w).alloc (Nat.le_refl _) _).alloc (by simp) _
  have tb1 : TB w y W1 := by rw [hW1]; exact TB.made w y
  have h1 := h.below b1
  rw [LL] at h1
  have CC : Hid (Calls Tryz.prog 62 #[.pointer (some ⟨hp, 0, none⟩)] W1 fun e w' => e = .returned (eV x) ∧ CT W1 B hp mb g cap M w') := cut_any h1 hn
  have NX : Hid (∀ w2, CT W1 B hp mb g cap M w2 → w2.cell? ⟨hp, 3, none⟩ = some (.int .i64 mv) ∧ w2.frozen? ⟨hp, 3, none⟩ = false ∧ hp < w2.heap.size ∧ w2.cell? ⟨hp, 1, none⟩ = some (.map (some mb)) ∧ ∃ w8, ((Builtin.delete_ #[51, 9] 0 #[.map (some mb), .string s]).run Tryz.prog ((w2.setCell ⟨hp, 3, none⟩ (.int .i64 0)).alloc (.cells #[.int .i64 x.1, .string x.2] 30)) = .ok (.tuple #[]) w8) ∧ TB w y w8 ∧ ∀ w9, w8.grownBy w9 (some w.heap.size) → OP w B hp mb most (.slice (some ⟨g, 0, none⟩) (M ++ [x]).length cap) M 0 w9) := fun w2 ct => by
    have k3 : w2.cell? ⟨hp, 3, none⟩ = some (.int .i64 mv) := by rw [ct.cs 3 (by omega)]; exact h1.c3
    have hl2 : hp < w2.heap.size := Nat.lt_of_lt_of_le h1.hl ct.size
    refine ⟨k3, by rw [ct.zs]; exact h1.z3, hl2, by rw [ct.cs 1 (by omega)]; exact h1.c1, ?_⟩
    obtain ⟨W4, hW4⟩ : ∃ W4, W4 = (w2.setCell ⟨hp, 3, none⟩ (.int .i64 0)).alloc (.cells #[.int .i64 x.1, .string x.2] 30) := ⟨_, rfl⟩
    rw [← hW4]
    obtain ⟨W3, hW3⟩ : ∃ W3, W3 = w2.setCell ⟨hp, 3, none⟩ (.int .i64 0) := ⟨_, rfl⟩
    rw [← hW3] at hW4
    have g3 : w2.grownBy W3 (some hp) := by rw [hW3]; exact ⟨rfl, rfl, rfl, by simp, fun k hk q => Below.heap_setCell _ _ _ _ (fun e => q (by rw [e]))⟩
    have b4 : Below W3.heap.size W3 W4 := by rw [hW4]; exact (Below.refl _ W3).alloc (Nat.le_refl _) _
    have hl3 : hp < W3.heap.size := Nat.lt_of_lt_of_le hl2 g3.size
    have c4 : ∀ o, o ≠ 3 → W4.cell? ⟨hp, o, none⟩ = w2.cell? ⟨hp, o, none⟩ := fun o ho => by rw [b4.cell (p := ⟨hp, o, none⟩) hl3, hW3, World.cell?_setCell_other _ _ _ _ (by intro e; injection e; omega)]
    have z4 : ∀ o, W4.frozen? ⟨hp, o, none⟩ = W1.frozen? ⟨hp, o, none⟩ := fun o => by rw [b4.frozen (p := ⟨hp, o, none⟩) hl3, hW3, World.frozen?_setCell, ct.zs]
    have d0 : W4.cell? ⟨hp, 0, none⟩ = some (.slice (some ⟨g, 0, none⟩) M.length cap) := by rw [c4 0 (by omega)]; exact ct.c0
    have d1 : W4.cell? ⟨hp, 1, none⟩ = some (.map (some mb)) := by rw [c4 1 (by omega), ct.cs 1 (by omega)]; exact h1.c1
    have d2 : W4.cell? ⟨hp, 2, none⟩ = some (.func (.func (fnM most)) #[] #[]) := by rw [c4 2 (by omega), ct.cs 2 (by omega)]; exact h1.c2
    have d3 : W4.cell? ⟨hp, 3, none⟩ = some (.int .i64 0) := by rw [b4.cell (p := ⟨hp, 3, none⟩) hl3, hW3]; exact World.cell?_setCell_same _ _ _ k3
    have row3 : W3.ownsRow B 30 2 (.slice (some ⟨g, 0, none⟩) M.length cap) M.length (encE M) := by rw [hW3]; exact ownsRow_setCell_ne ct.row _ (fun k e => by injection e with e; subst e; exact hB) _
    have row4 : W4.ownsRow B 30 2 (.slice (some ⟨g, 0, none⟩) M.length cap) M.length (encE M) := by rw [hW4]; exact row3.alloc _
    obtain ⟨c, mp1, hc⟩ := h1.mp
    have hc : c ≤ M.length + 1 := by have : c ≤ (M ++ [x]).length + 0 := hc; omega
    have m2 : w2.heap[mb]? = W1.heap[mb]? := ct.keep mb mp1.lt (fun e => h.hw.ne e.symm) (by omega)
    have mlt2 : mb < w2.heap.size := Nat.lt_of_lt_of_le mp1.lt ct.size
    have m3 : W3.heap[mb]? = w2.heap[mb]? := g3.block mb mlt2 (fun e => h.hw.ne (by injection e with e; exact e.symm))
    have mp4 : MP W4 mb f c := mp1.keep (by rw [b4.block mb (Nat.lt_of_lt_of_le mlt2 g3.size), m3, m2])
    have hx : x.2.size ≤ 9223372036854775807 := h.nm x (by simp)
    have fr14 : HF hp mb (some g) w W4 := (((HF.below b1).trans ct.hf).trans (HF.grown g3 (Or.inl rfl))).trans (HF.below b4)
    have h3 : ∀ k, (some g : Option Nat) = some k → k < w.heap.size := fun k e => by injection e with e; omega
    have tb4 : TB w y W4 := ((tb1.frame ct.hf hl mlt h3).frame (HF.grown (rb := some g) g3 (Or.inl rfl)) hl mlt h3).frame (HF.below (rb := some g) b4) hl mlt h3
    obtain ⟨w8, r8, h8, g8⟩ := HS.dropped d0 d1 d2 d3 (by rw [z4]; exact h1.z0) (by rw [z4]; exact h1.z3) row4 mp4 hc h.hw (fun e he => h.nm e (List.mem_append_left _ he)) (Nat.lt_of_lt_of_le hl3 b4.size) s hs (by rw [hf]; rfl) pl2 0
    have fr8 : HF hp mb (some g) W4 w8 := HF.grown g8 (Or.inr (Or.inl rfl))
    refine ⟨w8, r8, tb4.frame fr8 hl mlt h3, fun w9 g9 => ?_⟩
    exact OP.out (v := .slice (some ⟨g, 0, none⟩) (M ++ [x]).length cap) h8 rfl (fr14.trans fr8) g9 hl mlt h3
  have i0 : (0 : Int) ≤ (i : Int) := Int.natCast_nonneg i
  have iI : (i : Int) < ((M ++ [x]).length : Int) := Int.ofNat_lt.2 hi
  have hW1H : Hid ((w.alloc (.cells #[.int .i64 0, .string ⟨#[]⟩] 30)).alloc (.cells #[.int .i64 y.1, .string y.2] 30) = W1) := hW1.symm
  have hneB : (x.2.toList == s.toList) = true := by rw [hne]; simp
  unfold eV at CC NX ⊢
  generalize (M ++ [x]).length = n at *
  subst hy
  clear h h1 hg hn hs hf hne pl2 hie atx b0 b1 tb1 hW1 ll lc gB lc2 mlt mB hB LL
  go_enter Tryz.func30, Tryz.ntmps30
  go_wp2_with fail
  refine Calls.mono CF.out ?_
  rintro e w1 ⟨rfl, hw1⟩
  subst hw1
  clear CF
  go_wp2_with fail
  rw [hW1H.out]
  clear hW1H c0 e1 e2
  refine Calls.mono CC.out ?_
  rintro e w2 ⟨rfl, ct⟩
  obtain ⟨k3, z3, hl2, c21, w8, r8, tb, op0⟩ := NX.out w2 ct
  have op : Hid _ := op0
  clear op0 NX CC ct
  obtain ⟨a0, a1, b0, b1, t0, t1, tsz⟩ := tb
  go_wp2_with fail
  have p0 := World.cell?_setCell_same w8 ⟨w.heap.size, 0, none⟩ (.int .i64 y.1) a0
  have p1 := World.cell?_setCell_same (w8.setCell ⟨w.heap.size, 0, none⟩ (.int .i64 y.1)) ⟨w.heap.size, 1, none⟩ (.string y.2) (by rw [World.cell?_setCell_other _ _ _ _ (by intro e; injection e; omega)]; exact a1)
  simp [bodyPost, results, Tryz.results30, go_sem, p0, p1]
  exact op.out _ (two_set _ _ _ _)
end Go.Proofs.YtboacnpbicedfaaGreatDoor.Hp

namespace Go.Proofs.YtboacnpbicedfaaGreatDoor.Hp
open Go.RowKit Go.Maps
set_option linter.unusedVariables false
set_option linter.unusedSimpArgs false
set_option maxRecDepth 100000
/-- the moves are few for how many there are. -/
def few (L : List Ent) (mv : Int) : Prop := ∃ m : Nat, mv = (m : Int) ∧ (0 < L.length → 2 ^ m ≤ L.length) ∧ (L.length = 0 → m = 0)
/-- behind a call that may change a heap. -/
def CH (w : World) (B hp mb : Nat) (most : Bool) (v : Value) (L : List Ent) (mv : Int) (w' : World) : Prop := ∃ L' mv', OP w B hp mb most v L' mv' w' ∧ (few L mv → few L' mv') ∧ L'.length ≤ L.length + 1
theorem CH.same {w w' : World} {B hp mb : Nat} {most : Bool} {v : Value} {f : ByteArray → Option Nat} {L : List Ent} {mv : Int} (h : HS w B hp mb most v none f L mv) (hb : Below w.heap.size w w') : CH w B hp mb most v L mv w' :=
  ⟨L, mv, ⟨⟨v, f, h.below hb, Or.inl rfl⟩, HF.below hb⟩, fun q => q, by omega⟩
theorem put_any {w : World} {B hp mb : Nat} {most : Bool} {v : Value} {f : ByteArray → Option Nat} {L : List Ent} {mv : Int} (h : HS w B hp mb most v none f L mv) (hBw : B ≤ w.heap.size) (x : Ent) (hx : x.2.size ≤ 9223372036854775807) (hn : L.length + 1 ≤ 1099511627776) :
    Calls Tryz.prog 28 #[.pointer (some ⟨hp, 0, none⟩), eV x] w fun e w' => (∃ r, e = .returned r) ∧ CH w B hp mb most v L mv w' := by
  by_cases hf : f x.2 = none
  · refine (put_ok h hBw x hx hf hn).mono fun e w' hh => ⟨⟨_, hh.1⟩, _, _, hh.2, fun _ => ⟨_, rfl, fun _ => ?_, fun q => ?_⟩, ?_⟩
    · have := upL_few (ahd most) L.length (L ++ [x]) L.length (Nat.le_refl _)
      have e := upL_len (ahd most) L.length (L ++ [x]) L.length (Nat.le_refl _)
      rw [e]; simpa using this
    · have e := upL_len (ahd most) L.length (L ++ [x]) L.length (Nat.le_refl _)
      rw [e] at q; simp at q
    · have e := upL_len (ahd most) L.length (L ++ [x]) L.length (Nat.le_refl _)
      rw [e]; simp
  · exact (put_known h x hx hf).mono fun e w' hh => ⟨⟨_, hh.1⟩, CH.same h hh.2⟩
theorem turn_any {w : World} {B hp mb : Nat} {most : Bool} {v : Value} {f : ByteArray → Option Nat} {L : List Ent} {mv : Int} (h : HS w B hp mb most v none f L mv) (s : ByteArray) (hs : s.size ≤ 9223372036854775807) (r : Int) (hn : L.length ≤ 1099511627776) :
    Calls Tryz.prog 32 #[.pointer (some ⟨hp, 0, none⟩), .string s, .int .i64 r] w fun e w' => (∃ r, e = .returned r) ∧ CH w B hp mb most v L mv w' := by
  cases hf : f s with
  | none => exact (turn_none h s hs r hf).mono fun e w' hh => ⟨⟨_, hh.1⟩, by rw [hh.2]; exact CH.same h (Below.refl _ _)⟩
  | some i =>
    obtain ⟨hi, _⟩ := h.pl.lt (by simp) hf
    refine (turn_ok h s hs r i hf hn).mono fun e w' hh => ⟨⟨_, hh.1⟩, _, _, hh.2, fun _ => ⟨_, rfl, fun _ => ?_, fun q => ?_⟩, ?_⟩
    · have := mendL_few (ahd most) (L.set i (r, s)) i (by simpa using hi)
      rw [mendL_len]; exact this
    · rw [mendL_len] at q; simp at q; rw [q] at hi; simp at hi
    · rw [mendL_len]; simp
theorem take_any {w : World} {B hp mb : Nat} {most : Bool} {v : Value} {f : ByteArray → Option Nat} {L : List Ent} {mv : Int} (h : HS w B hp mb most v none f L mv) (s : ByteArray) (hs : s.size ≤ 9223372036854775807) (hn : L.length ≤ 1099511627776) :
    Calls Tryz.prog 30 #[.pointer (some ⟨hp, 0, none⟩), .string s] w fun e w' => (∃ (y : Ent) (r : Value), e = .returned (.tuple #[eV y, r])) ∧ CH w B hp mb most v L mv w' := by
  cases hf : f s with
  | none => exact (take_none h s hs hf).mono fun e w' hh => ⟨⟨_, _, hh.1⟩, CH.same h hh.2⟩
  | some i =>
    obtain ⟨hi, hnm⟩ := h.pl.lt (by simp) hf
    obtain ⟨M, x, rfl⟩ := cut_form (L := L) (by omega)
    have LL : (M ++ [x]).length = M.length + 1 := by simp
    by_cases hne : x.2 = s
    · refine (take_last h s hs hne (by omega)).mono fun e w' hh => ⟨⟨_, _, hh.1⟩, _, _, hh.2, fun _ => ⟨0, rfl, fun q => ?_, fun _ => rfl⟩, by omega⟩
      rw [Nat.pow_zero]; exact q
    · obtain ⟨hi2, _⟩ := h.pl.cutOver hf (by rw [atE_last]; exact hne)
      refine (take_over h s hs i hf hne (by omega)).mono fun e w' hh => ⟨⟨_, _, hh.1⟩, _, _, hh.2, fun _ => ⟨_, rfl, fun _ => ?_, fun q => ?_⟩, ?_⟩
      · have := mendL_few (ahd most) (M.set i x) i (by simp; omega)
        rw [mendL_len]; exact this
      · rw [mendL_len] at q; simp at q; rw [q] at hi2; simp at hi2
      · rw [mendL_len]; simp; omega
theorem OP.over {w w1 w' w'' : World} {B hp mb K : Nat} {most : Bool} {v : Value} {L : List Ent} {mv : Int} (b : Below w.heap.size w w1) (o : OP w1 B hp mb most v L mv w') (g : w'.grownBy w'' (some K)) (k1 : w.heap.size ≤ K) (k2 : K < w1.heap.size) (h1 : hp < w.heap.size) (h2 : mb < w.heap.size) (h3 : ∀ k, v.ownBlock = some k → k < w.heap.size) : OP w B hp mb most v L mv w'' := by
  obtain ⟨v', f, hs, ho⟩ := o.hs
  have := b.size
  refine ⟨⟨v', f, hs.far g (by omega) (by omega) (fun e => ?_), ?_⟩, ((HF.below b).trans o.fr).step (HF.grown (hp := hp) (mb := mb) (rb := some K) g (Or.inr (Or.inr rfl))) (Or.inr ⟨_, rfl, k1⟩)⟩
  · rcases ho with q | ⟨k, q, hk⟩
    · have := h3 K (by rw [← q]; exact e); omega
    · rw [q] at e; injection e with e; omega
  · rcases ho with q | ⟨k, q, hk⟩
    · exact Or.inl q
    · exact Or.inr ⟨k, q, by omega⟩
theorem CH.over {w w1 w' w'' : World} {B hp mb K : Nat} {most : Bool} {v : Value} {L : List Ent} {mv : Int} (b : Below w.heap.size w w1) (o : CH w1 B hp mb most v L mv w') (g : w'.grownBy w'' (some K)) (k1 : w.heap.size ≤ K) (k2 : K < w1.heap.size) (h1 : hp < w.heap.size) (h2 : mb < w.heap.size) (h3 : ∀ k, v.ownBlock = some k → k < w.heap.size) : CH w B hp mb most v L mv w'' := by
  obtain ⟨L', mv', op, q⟩ := o
  exact ⟨L', mv', op.over b g k1 k2 h1 h2 h3, q⟩
theorem top_any {w : World} {B hp mb : Nat} {most : Bool} {v : Value} {f : ByteArray → Option Nat} {L : List Ent} {mv : Int} (h : HS w B hp mb most v none f L mv) :
    Calls Tryz.prog 36 #[.pointer (some ⟨hp, 0, none⟩)] w fun e w' => (∃ (y : Ent) (t : Bool), e = .returned (.tuple #[eV y, .bool t]) ∧ y.2.size ≤ 9223372036854775807) ∧ Below w.heap.size w w' := by
  by_cases hL : 0 < L.length
  · exact (top_some h hL).mono fun e w' hh => ⟨⟨_, _, hh.1, h.nm _ (List.mem_of_getElem? (atE_some hL))⟩, hh.2⟩
  · obtain rfl : L = [] := List.eq_nil_of_length_eq_zero (by omega)
    exact (top_none h).mono fun e w' hh => ⟨⟨_, _, hh.1, by decide⟩, hh.2⟩
set_option maxRecDepth 100000 in
set_option maxHeartbeats 4000000 in
theorem pop_any {w : World} {B hp mb : Nat} {most : Bool} {v : Value} {f : ByteArray → Option Nat} {L : List Ent} {mv : Int} (h : HS w B hp mb most v none f L mv) (hn : L.length ≤ 1099511627776) :
    Calls Tryz.prog 34 #[.pointer (some ⟨hp, 0, none⟩)] w fun e w' => (∃ r, e = .returned r) ∧ CH w B hp mb most v L mv w' := by
  have hl := h.hl
  have mlt : mb < w.heap.size := by obtain ⟨_, m, _⟩ := h.mp; exact m.lt
  have rb : ∀ k, v.ownBlock = some k → k < w.heap.size := fun k e => (World.ownsRow.lt h.row k e).2
  obtain ⟨W0, hW0⟩ : ∃ W0, W0 = w.alloc (.cells #[.int .i64 0, .string ⟨#[]⟩] 30) := ⟨_, rfl⟩
  have b0 : Below w.heap.size w W0 := by rw [hW0]; exact (Below.refl _ w).alloc (Nat.le_refl _) _
  have s0 : W0.heap.size = w.heap.size + 1 := by rw [hW0]; simp
  have p0 : W0.cell? ⟨w.heap.size, 0, none⟩ = some (.int .i64 0) ∧ W0.cell? ⟨w.heap.size, 1, none⟩ = some (.string ⟨#[]⟩) ∧ W0.frozen? ⟨w.heap.size, 0, none⟩ = false ∧ W0.frozen? ⟨w.heap.size, 1, none⟩ = false := by rw [hW0]; refine ⟨?_, ?_, ?_, ?_⟩ <;> simp [go_sem]
  have CT0 : Hid _ := top_any (h.below b0)
  have NX : Hid (∀ w1 (y : Ent), Below W0.heap.size W0 w1 → y.2.size ≤ 9223372036854775807 → Calls Tryz.prog 30 #[.pointer (some ⟨hp, 0, none⟩), .string y.2] (w1.alloc (.cells #[.int .i64 y.1, .string y.2] 30)) fun e w2 => (∃ (y : Ent) (r : Value), e = .returned (.tuple #[eV y, r])) ∧ (w2.cell? ⟨w.heap.size, 0, none⟩ = some (.int .i64 0) ∧ w2.cell? ⟨w.heap.size, 1, none⟩ = some (.string ⟨#[]⟩) ∧ w2.frozen? ⟨w.heap.size, 0, none⟩ = false ∧ w2.frozen? ⟨w.heap.size, 1, none⟩ = false) ∧ ∀ w3, w2.grownBy w3 (some w.heap.size) → CH w B hp mb most v L mv w3) := fun w1 y b1 hy => by
    obtain ⟨W2, hW2⟩ : ∃ W2, W2 = w1.alloc (.cells #[.int .i64 y.1, .string y.2] 30) := ⟨_, rfl⟩
    rw [← hW2]
    have b12 : Below w1.heap.size w1 W2 := by rw [hW2]; exact (Below.refl _ w1).alloc (Nat.le_refl _) _
    have b2 : Below W0.heap.size W0 W2 := ⟨b12.os.trans b1.os, b12.tape.trans b1.tape, b12.output.trans b1.output, Nat.le_trans b1.size b12.size, fun k hk => (b12.block k (Nat.lt_of_lt_of_le hk b1.size)).trans (b1.block k hk)⟩
    have bb : Below w.heap.size w W2 := ⟨b2.os.trans b0.os, b2.tape.trans b0.tape, b2.output.trans b0.output, Nat.le_trans b0.size b2.size, fun k hk => (b2.block k (Nat.lt_of_lt_of_le hk b0.size)).trans (b0.block k hk)⟩
    refine (take_any (h.below bb) y.2 hy hn).mono fun e w2 hh => ⟨hh.1, ?_, fun w3 g3 => ?_⟩
    · obtain ⟨L', mv', op, _⟩ := hh.2
      have kK : w2.heap[w.heap.size]? = W2.heap[w.heap.size]? := op.fr.keep _ (by have := b2.size; omega) (by omega) (by omega) (fun e => by have := rb _ e.symm; omega)
      have kK0 : w2.heap[w.heap.size]? = W0.heap[w.heap.size]? := kK.trans (b2.block _ (by omega))
      exact ⟨by rw [World.cell?_of_block (w := W0) (a := ⟨w.heap.size, 0, none⟩) kK0]; exact p0.1, by rw [World.cell?_of_block (w := W0) (a := ⟨w.heap.size, 1, none⟩) kK0]; exact p0.2.1, by have := p0.2.2.1; simp only [World.frozen?, kK0] at *; exact this, by have := p0.2.2.2; simp only [World.frozen?, kK0] at *; exact this⟩
    · exact hh.2.over bb g3 (Nat.le_refl _) (by have := b2.size; omega) hl mlt rb
  unfold eV at CT0 NX
  have hW0H : Hid (w.alloc (.cells #[.int .i64 0, .string ⟨#[]⟩] 30) = W0) := hW0.symm
  clear h hW0 b0 s0 p0
  go_enter Tryz.func34, Tryz.ntmps34
  go_wp2_with fail
  rw [hW0H.out]
  refine Calls.mono CT0.out ?_
  rintro e w1 ⟨⟨y, t, rfl, hy⟩, b1⟩
  have CK : Hid _ := NX.out w1 y b1 hy
  clear NX CT0 b1 hy hW0H
  go_wp2_with fail
  refine Calls.mono CK.out ?_
  rintro e w2 ⟨⟨z, r, rfl⟩, ⟨q0, q1, q2, q3⟩, op0⟩
  have op : Hid _ := op0
  clear op0 CK
  go_wp2_with fail
  have p0 := World.cell?_setCell_same w2 ⟨w.heap.size, 0, none⟩ (.int .i64 z.1) q0
  have p1 := World.cell?_setCell_same (w2.setCell ⟨w.heap.size, 0, none⟩ (.int .i64 z.1)) ⟨w.heap.size, 1, none⟩ (.string z.2) (by rw [World.cell?_setCell_other _ _ _ _ (by intro e; injection e; omega)]; exact q1)
  simp [bodyPost, results, Tryz.results34, go_sem, p0, p1]
  exact op.out _ (two_set _ _ _ _)
end Go.Proofs.YtboacnpbicedfaaGreatDoor.Hp
