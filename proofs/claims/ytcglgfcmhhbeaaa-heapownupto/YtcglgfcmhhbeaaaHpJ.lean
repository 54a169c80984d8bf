
import Derived.Test.YtcglgfcmhhbeaaaHpI
namespace Go.Proofs.Ytcglgfcmhhbeaaa.Hp
open Go.RowKit Go.Maps
set_option linter.unusedVariables false
set_option linter.unusedSimpArgs false
set_option maxRecDepth 100000
theorem ba_eq {P T : ByteArray} (h : P.data.toList = T.data.toList) : P = T := by
  cases P; cases T; exact congrArg ByteArray.mk (Array.ext' h)
theorem ba_ne {P T : ByteArray} (h : P ≠ T) : (P.toList == T.toList) = false := by
  rw [beq_eq_false_iff_ne, ByteArray.toList_eq, ByteArray.toList_eq]
  exact fun e => h (ba_eq e)
theorem cut_form {L : List Ent} (h : 0 < L.length) : ∃ M x, L = M ++ [x] := ⟨L.dropLast, L.getLast (by intro e; rw [e] at h; simp at h), (List.dropLast_concat_getLast _).symm⟩
theorem atE_last (M : List Ent) (x : Ent) : atE (M ++ [x]) ((M ++ [x]).length - 1) = x := atE_get (by simp)
/-- a name out of the map: the heap is whole again. -/
theorem HS.dropped {w : World} {B hp mb : Nat} {most : Bool} {v : Value} {f : ByteArray → Option Nat} {L : List Ent} {mv : Int} {c : Nat} (c0 : w.cell? ⟨hp, 0, none⟩ = some v) (c1 : w.cell? ⟨hp, 1, none⟩ = some (.map (some mb))) (c2 : w.cell? ⟨hp, 2, none⟩ = some (.func (.func (fnM most)) #[] #[])) (c3 : w.cell? ⟨hp, 3, none⟩ = some (.int .i64 mv)) (z0 : w.frozen? ⟨hp, 0, none⟩ = false) (z3 : w.frozen? ⟨hp, 3, none⟩ = false) (row : w.ownsRow B 24 2 v L.length (encE L)) (mp : MP w mb f c) (hc : c ≤ L.length + 1) (hw : HW v.ownBlock hp mb) (nm : ∀ e ∈ L, e.2.size ≤ 9223372036854775807) (hl : hp < w.heap.size)
    (s : ByteArray) (hs : s.size ≤ 9223372036854775807) (hf : (f s).isSome = true) (hp2 : PL none (upd f s none) L) (ty : TypeId) :
    ∃ w', (Builtin.delete_ #[77, 9] ty #[.map (some mb), .string s]).run Try.prog w = .ok (.tuple #[]) w' ∧ HS w' B hp mb most v none (upd f s none) L mv ∧ w.grownBy w' (some mb) := by
  obtain ⟨w', r, m, g, z⟩ := mp.del s hs ty
  rw [hf] at m
  have kh : w'.heap[hp]? = w.heap[hp]? := g.block hp hl (fun e => hw.ne (by injection e))
  have co : ∀ o, w'.cell? ⟨hp, o, none⟩ = w.cell? ⟨hp, o, none⟩ := fun o => World.cell?_of_block (w := w) (a := ⟨hp, o, none⟩) kh
  refine ⟨w', r, ⟨by rw [co]; exact c0, by rw [co]; exact c1, by rw [co]; exact c2, by rw [co]; exact c3, by rw [z]; exact z0, by rw [z]; exact z3, ?_, ⟨_, m, ?_⟩, hp2, hw, nm, Nat.lt_of_lt_of_le hl g.size, fun s hs => by cases hs⟩, g⟩
  · exact World.ownsRow.kept row g (Or.inr fun q => (hw.sp mb q).2 rfl)
  · show c - 1 ≤ L.length + 0
    omega
theorem HS.far {w w' : World} {B hp mb K : Nat} {most : Bool} {v : Value} {ex : Option ByteArray} {f : ByteArray → Option Nat} {L : List Ent} {mv : Int} (h : HS w B hp mb most v ex f L mv) (g : w.grownBy w' (some K)) (h1 : K ≠ hp) (h2 : K ≠ mb) (h3 : v.ownBlock ≠ some K) : HS w' B hp mb most v ex f L mv := by
  have kh : w'.heap[hp]? = w.heap[hp]? := g.block hp h.hl (fun e => h1 (by injection e with e; exact e.symm))
  have co : ∀ o, w'.cell? ⟨hp, o, none⟩ = w.cell? ⟨hp, o, none⟩ := fun o => World.cell?_of_block (w := w) (a := ⟨hp, o, none⟩) kh
  have zo : ∀ o, w'.frozen? ⟨hp, o, none⟩ = w.frozen? ⟨hp, o, none⟩ := fun o => by simp [World.frozen?, kh]
  obtain ⟨c, mp, hc⟩ := h.mp
  exact ⟨by rw [co]; exact h.c0, by rw [co]; exact h.c1, by rw [co]; exact h.c2, by rw [co]; exact h.c3, by rw [zo]; exact h.z0, by rw [zo]; exact h.z3, World.ownsRow.kept h.row g (Or.inr h3), ⟨c, mp.keep (g.block mb mp.lt (fun e => h2 (by injection e with e; exact e.symm))), hc⟩, h.pl, h.hw, h.nm, Nat.lt_of_lt_of_le h.hl g.size, h.exs⟩
theorem two_set (w : World) (K : Nat) (u t : Value) : w.grownBy ((w.setCell ⟨K, 0, none⟩ u).setCell ⟨K, 1, none⟩ t) (some K) :=
  ⟨rfl, rfl, rfl, by simp, fun k hk q => by rw [Below.heap_setCell _ _ _ _ (fun e => q (by rw [e])), Below.heap_setCell _ _ _ _ (fun e => q (by rw [e]))]⟩
/-- the two boxes that Take makes: its result's, and what was at the place. -/
structure TB (w : World) (y : Ent) (W : World) : Prop where
  a0 : W.cell? ⟨w.heap.size, 0, none⟩ = some (.int .i64 0)
  a1 : W.cell? ⟨w.heap.size, 1, none⟩ = some (.string ⟨#[]⟩)
  b0 : W.cell? ⟨w.heap.size + 1, 0, none⟩ = some (.int .i64 y.1)
  b1 : W.cell? ⟨w.heap.size + 1, 1, none⟩ = some (.string y.2)
  z0 : W.frozen? ⟨w.heap.size, 0, none⟩ = false
  z1 : W.frozen? ⟨w.heap.size, 1, none⟩ = false
  sz : w.heap.size + 2 ≤ W.heap.size
theorem TB.keep {w W W' : World} {y : Ent} (h : TB w y W) (k0 : W'.heap[w.heap.size]? = W.heap[w.heap.size]?) (k1 : W'.heap[w.heap.size + 1]? = W.heap[w.heap.size + 1]?) (hs : W.heap.size ≤ W'.heap.size) : TB w y W' :=
  ⟨by rw [World.cell?_of_block (w := W) (a := ⟨w.heap.size, 0, none⟩) k0]; exact h.a0, by rw [World.cell?_of_block (w := W) (a := ⟨w.heap.size, 1, none⟩) k0]; exact h.a1, by rw [World.cell?_of_block (w := W) (a := ⟨w.heap.size + 1, 0, none⟩) k1]; exact h.b0, by rw [World.cell?_of_block (w := W) (a := ⟨w.heap.size + 1, 1, none⟩) k1]; exact h.b1, by have := h.z0; simp only [World.frozen?, k0] at *; exact this, by have := h.z1; simp only [World.frozen?, k0] at *; exact this, Nat.le_trans h.sz hs⟩
theorem TB.made (w : World) (y : Ent) : TB w y ((w.alloc (.cells #[.int .i64 0, .string ⟨#[]⟩] 24)).alloc (.cells #[.int .i64 y.1, .string y.2] 24)) := by
  refine ⟨?_, ?_, ?_, ?_, ?_, ?_, ?_⟩ <;> simp [go_sem]
theorem TB.frame {w W W' : World} {y : Ent} {hp mb : Nat} {rb : Option Nat} (h : TB w y W) (f : HF hp mb rb W W') (h1 : hp < w.heap.size) (h2 : mb < w.heap.size) (h3 : ∀ k, rb = some k → k < w.heap.size) : TB w y W' := by
  have := h.sz
  exact h.keep (f.keep _ (by omega) (by omega) (by omega) (fun e => by have := h3 _ e.symm; omega)) (f.keep _ (by omega) (by omega) (by omega) (fun e => by have := h3 _ e.symm; omega)) f.size
theorem CT.hf {w w' : World} {B hp mb g cap : Nat} {L : List Ent} (h : CT w B hp mb g cap L w') : HF hp mb (some g) w w' := ⟨h.size, fun k hk a b d => h.keep k hk a (fun e => d (by rw [e])), h.same⟩
theorem OP.out {w W W' : World} {B hp mb : Nat} {most : Bool} {v : Value} {f : ByteArray → Option Nat} {L : List Ent} {mv : Int} {v' : Value} (h : HS W B hp mb most v' none f L mv) (hv : v'.ownBlock = v.ownBlock) (fr : HF hp mb v.ownBlock w W) (g : W.grownBy W' (some w.heap.size)) (h1 : hp < w.heap.size) (h2 : mb < w.heap.size) (h3 : ∀ k, v.ownBlock = some k → k < w.heap.size) : OP w B hp mb most v L mv W' :=
  ⟨⟨v', f, h.far g (by omega) (by omega) (fun e => by rw [hv] at e; have := h3 _ e; omega), Or.inl hv⟩, fr.step (HF.grown (hp := hp) (mb := mb) (rb := some w.heap.size) g (Or.inr (Or.inr rfl))) (Or.inr ⟨_, rfl, Nat.le_refl _⟩)⟩
set_option maxRecDepth 100000 in
set_option maxHeartbeats 8000000 in
theorem take_over {w : World} {B hp mb : Nat} {most : Bool} {v : Value} {f : ByteArray → Option Nat} {M : List Ent} {x : Ent} {mv : Int} (h : HS w B hp mb most v none f (M ++ [x]) mv) (s : ByteArray) (hs : s.size ≤ 9223372036854775807) (i : Nat) (hf : f s = some i) (hne : x.2 ≠ s) (hn : M.length + 1 ≤ 1099511627776) :
    Calls Try.prog 16 #[.pointer (some ⟨hp, 0, none⟩), .string s] w fun e w' => e = .returned (.tuple #[eV (atE (M ++ [x]) i), .nilIface]) ∧ OP w B hp mb most v (mendL (ahd most) (M.set i x) i).1 ((mendL (ahd most) (M.set i x) i).2 : Nat) w' := by
  have LL : (M ++ [x]).length = M.length + 1 := by simp
  obtain ⟨hi, hnm⟩ := h.pl.lt (by simp) hf
  clear hnm
  obtain ⟨hi2, pl2⟩ := h.pl.cutOver hf (by rw [atE_last]; exact hne)
  rw [atE_last, List.dropLast_concat] at pl2
  obtain ⟨a, cap, rfl, hg⟩ := h.form
  obtain ⟨g, rfl⟩ := hg (by omega)
  have hl := h.hl
  have hB := (h.hw.sp g rfl).1
  have mB := (h.hw.sp g rfl).2
  have mlt : mb < w.heap.size := by obtain ⟨_, m, _⟩ := h.mp; exact m.lt
  obtain ⟨ll, lc, gB, gl, lc2⟩ := h.len
  have b0 : Below w.heap.size w (w.alloc (.cells #[.int .i64 0, .string ⟨#[]⟩] 24)) := (Below.refl _ w).alloc (Nat.le_refl _) _
  have CF : Hid _ := find_some (h.below b0) s hs i hf
  have c0 := h.c0
  obtain ⟨e1, e2⟩ := h.at hi
  obtain ⟨y, hy⟩ : ∃ y, y = atE (M ++ [x]) i := ⟨_, rfl⟩
  rw [← hy] at e1 e2 ⊢
  obtain ⟨W1, hW1⟩ : ∃ W1, W1 = (w.alloc (.cells #[.int .i64 0, .string ⟨#[]⟩] 24)).alloc (.cells #[.int .i64 y.1, .string y.2] 24) := ⟨_, rfl⟩
  have b1 : Below w.heap.size w W1 := by rw [hW1]; exact ((Below.refl _ w).alloc (Nat.le_refl _) _).alloc (by simp) _
  have tb1 : TB w y W1 := by rw [hW1]; exact TB.made w y
  have h1 := h.below b1
  rw [LL] at h1
  have CC : Hid (Calls Try.prog 61 #[.pointer (some ⟨hp, 0, none⟩)] W1 fun e w' => e = .returned (eV x) ∧ CT W1 B hp mb g cap M w') := cut_any h1 hn
  have NX : Hid (∀ w2, CT W1 B hp mb g cap M w2 → w2.cell? ⟨hp, 3, none⟩ = some (.int .i64 mv) ∧ w2.frozen? ⟨hp, 3, none⟩ = false ∧ hp < w2.heap.size ∧ ∀ W4, W4 = (w2.setCell ⟨hp, 3, none⟩ (.int .i64 0)).alloc (.cells #[.int .i64 x.1, .string x.2] 24) → Calls Try.prog 62 #[.pointer (some ⟨hp, 0, none⟩), .int .i64 (i : Int), eV x] W4 fun e w5 => e = .returned undef ∧ Calls Try.prog 63 #[.pointer (some ⟨hp, 0, none⟩), .int .i64 (i : Int)] w5 fun e w6 => e = .returned (.int .i64 (((mendL (ahd most) (M.set i x) i).2 : Nat) : Int)) ∧ w6.cell? ⟨hp, 3, none⟩ = some (.int .i64 0) ∧ w6.frozen? ⟨hp, 3, none⟩ = false ∧ w6.cell? ⟨hp, 1, none⟩ = some (.map (some mb)) ∧ ∃ w8, ((Builtin.delete_ #[77, 9] 0 #[.map (some mb), .string s]).run Try.prog (w6.setCell ⟨hp, 3, none⟩ (.int .i64 (((mendL (ahd most) (M.set i x) i).2 : Nat) : Int))) = .ok (.tuple #[]) w8) ∧ TB w y w8 ∧ ∀ w9, w8.grownBy w9 (some w.heap.size) → OP w B hp mb most (.slice (some ⟨g, 0, none⟩) (M ++ [x]).length cap) (mendL (ahd most) (M.set i x) i).1 ((mendL (ahd most) (M.set i x) i).2 : Nat) w9) := fun w2 ct => by
    have k3 : w2.cell? ⟨hp, 3, none⟩ = some (.int .i64 mv) := by rw [ct.cs 3 (by omega)]; exact h1.c3
    have hl2 : hp < w2.heap.size := Nat.lt_of_lt_of_le h1.hl ct.size
    refine ⟨k3, by rw [ct.zs]; exact h1.z3, hl2, fun W4 hW4 => ?_⟩
    obtain ⟨W3, hW3⟩ : ∃ W3, W3 = w2.setCell ⟨hp, 3, none⟩ (.int .i64 0) := ⟨_, rfl⟩
    rw [← hW3] at hW4
    have g3 : w2.grownBy W3 (some hp) := by rw [hW3]; exact ⟨rfl, rfl, rfl, by simp, fun k hk q => Below.heap_setCell _ _ _ _ (fun e => q (by rw [e]))⟩
    have b4 : Below W3.heap.size W3 W4 := by rw [hW4]; exact (Below.refl _ W3).alloc (Nat.le_refl _) _
    have hl3 : hp < W3.heap.size := Nat.lt_of_lt_of_le hl2 g3.size
    have c4 : ∀ o, o ≠ 3 → W4.cell? ⟨hp, o, none⟩ = w2.cell? ⟨hp, o, none⟩ := fun o ho => by rw [b4.cell (p := ⟨hp, o, none⟩) hl3, hW3, World.cell?_setCell_other _ _ _ _ (by intro e; injection e; omega)]
    have z4 : ∀ o, W4.frozen? ⟨hp, o, none⟩ = W1.frozen? ⟨hp, o, none⟩ := fun o => by rw [b4.frozen (p := ⟨hp, o, none⟩) hl3, hW3, World.frozen?_setCell, ct.zs]
    have d0 : W4.cell? ⟨hp, 0, none⟩ = some (.slice (some ⟨g, 0, none⟩) M.length cap) := by rw [c4 0 (by omega)]; exact ct.c0
    have d1 : W4.cell? ⟨hp, 1, none⟩ = some (.map (some mb)) := by rw [c4 1 (by omega), ct.cs 1 (by omega)]; exact h1.c1
    have d2 : W4.cell? ⟨hp, 2, none⟩ = some (.func (.func (fnM most)) #[] #[]) := by rw [c4 2 (by omega), ct.cs 2 (by omega)]; exact h1.c2
    have d3 : W4.cell? ⟨hp, 3, none⟩ = some (.int .i64 0) := by rw [b4.cell (p := ⟨hp, 3, none⟩) hl3, hW3]; exact World.cell?_setCell_same _ _ _ k3
    have row3 : W3.ownsRow B 24 2 (.slice (some ⟨g, 0, none⟩) M.length cap) M.length (encE M) := by rw [hW3]; exact ownsRow_setCell_ne ct.row _ (fun k e => by injection e with e; subst e; exact hB) _
    have row4 : W4.ownsRow B 24 2 (.slice (some ⟨g, 0, none⟩) M.length cap) M.length (encE M) := by rw [hW4]; exact row3.alloc _
    obtain ⟨c, mp1, hc⟩ := h1.mp
    have hc : c ≤ M.length + 1 := by have : c ≤ (M ++ [x]).length + 0 := hc; omega
    have m2 : w2.heap[mb]? = W1.heap[mb]? := ct.keep mb mp1.lt (fun e => h.hw.ne e.symm) (by omega)
    have mlt2 : mb < w2.heap.size := Nat.lt_of_lt_of_le mp1.lt ct.size
    have m3 : W3.heap[mb]? = w2.heap[mb]? := g3.block mb mlt2 (fun e => h.hw.ne (by injection e with e; exact e.symm))
    have mp4 : MP W4 mb f c := mp1.keep (by rw [b4.block mb (Nat.lt_of_lt_of_le mlt2 g3.size), m3, m2])
    have hx : x.2.size ≤ 9223372036854775807 := h.nm x (by simp)
    have fx : f x.2 = some M.length := by
      have := h.pl.at (i := M.length) (by omega)
      rwa [show atE (M ++ [x]) M.length = x from atE_get (by simp)] at this
    have fr14 : HF hp mb (some g) w W4 := (((HF.below b1).trans ct.hf).trans (HF.grown g3 (Or.inl rfl))).trans (HF.below b4)
    have h3 : ∀ k, (some g : Option Nat) = some k → k < w.heap.size := fun k e => by injection e with e; omega
    have tb4 : TB w y W4 := ((tb1.frame ct.hf hl mlt h3).frame (HF.grown (rb := some g) g3 (Or.inl rfl)) hl mlt h3).frame (HF.below (rb := some g) b4) hl mlt h3
    have hiM : i < M.length := by omega
    refine (lay_any (cm := M.length + 1) h.hw (Nat.lt_of_lt_of_le hl3 b4.size) d0 d1 row4 mp4 i hiM (by omega) x hx (by rw [fx]; exact hc) (by omega)).mono fun e w5 hh => ?_
    obtain ⟨rfl, ly⟩ := hh
    refine ⟨rfl, ?_⟩
    have h5 : HS w5 B hp mb most (.slice (some ⟨g, 0, none⟩) M.length cap) (some s) (upd f x.2 (some i)) (M.set i x) 0 := by
      refine ⟨by rw [(ly.cs 0).1]; exact d0, by rw [(ly.cs 1).1]; exact d1, by rw [(ly.cs 2).1]; exact d2, by rw [(ly.cs 3).1]; exact d3, by rw [(ly.cs 0).2, z4]; exact h1.z0, by rw [(ly.cs 3).2, z4]; exact h1.z3, ly.row, by rw [List.length_set]; exact ly.mp, pl2, h.hw, fun e he => ?_, Nat.lt_of_lt_of_le (Nat.lt_of_lt_of_le hl3 b4.size) ly.fr.size, fun t ht => ?_⟩
      · rcases List.mem_or_eq_of_mem_set he with q | q
        · exact h.nm e (List.mem_append_left _ q)
        · rw [q]; exact hx
      · injection ht with ht
        subst ht
        exact upd_some (by rw [hf]; rfl)
    have ud : UD w5 B hp mb most (.slice (some ⟨g, 0, none⟩) M.length cap) (some s) M.length (M.set i x) 0 w5 := ⟨⟨_, h5⟩, HF.refl _ _ _ _, by simp⟩
    refine (mend_any ud i hiM (by omega)).mono fun e w6 hh => ?_
    obtain ⟨rfl, u6⟩ := hh
    obtain ⟨f6, h6⟩ := u6.hs
    obtain ⟨h7, m7⟩ := h6.setMoves (((mendL (ahd most) (M.set i x) i).2 : Nat) : Int)
    obtain ⟨c7, mp7, hc7⟩ := h7.mp
    obtain ⟨w8, r8, h8, g8⟩ := HS.dropped h7.c0 h7.c1 h7.c2 h7.c3 h7.z0 h7.z3 h7.row mp7 hc7 h7.hw h7.nm h7.hl s hs (h7.exs s rfl) h7.pl.drop 0
    have fr8 : HF hp mb (some g) w5 w8 := (HF.trans u6.fr (m7 _)).trans (HF.grown g8 (Or.inr (Or.inl rfl)))
    refine ⟨rfl, h6.c3, h6.z3, h6.c1, w8, r8, (tb4.frame ly.fr hl mlt h3).frame fr8 hl mlt h3, fun w9 g9 => ?_⟩
    exact OP.out (v := .slice (some ⟨g, 0, none⟩) (M ++ [x]).length cap) h8 rfl ((fr14.trans ly.fr).trans fr8) g9 hl mlt h3
  have i0 : (0 : Int) ≤ (i : Int) := Int.natCast_nonneg i
  have iI : (i : Int) < ((M ++ [x]).length : Int) := Int.ofNat_lt.2 hi
  have hW1H : Hid ((w.alloc (.cells #[.int .i64 0, .string ⟨#[]⟩] 24)).alloc (.cells #[.int .i64 y.1, .string y.2] 24) = W1) := hW1.symm
  generalize mendL (ahd most) (M.set i x) i = R at *
  have hneB : (x.2.toList == s.toList) = false := ba_ne hne
  unfold eV at CC NX ⊢
  generalize (M ++ [x]).length = n at *
  clear h h1 hg hn hs hf hne pl2 hi2 b0 b1 tb1 hy hW1 ll lc gB lc2 mlt mB hB LL
  go_enter Try.func16, Try.ntmps16
  go_wp2_with fail
  refine Calls.mono CF.out ?_
  rintro e w1 ⟨rfl, hw1⟩
  subst hw1
  clear CF
  go_wp2_with fail
  rw [hW1H.out]
  clear hW1H c0 e1 e2
  refine Calls.mono CC.out ?_
  rintro e w2 ⟨rfl, ct⟩
  obtain ⟨k3, z3, hl2, CL0⟩ := NX.out w2 ct
  have CL : Hid _ := CL0
  clear CL0 NX CC ct
  go_wp2_with fail
  refine Calls.mono (CL.out _ rfl) ?_
  rintro e w5 ⟨rfl, CM0⟩
  have CM : Hid _ := CM0
  clear CM0 CL k3 z3 hl2
  go_wp2_with fail
  refine Calls.mono CM.out ?_
  rintro e w6 ⟨rfl, c63, z63, c61, w8, r8, tb, op0⟩
  have op : Hid _ := op0
  clear op0 CM
  obtain ⟨a0, a1, b0, b1, t0, t1, tsz⟩ := tb
  go_wp2_with fail
  have p0 := World.cell?_setCell_same w8 ⟨w.heap.size, 0, none⟩ (.int .i64 y.1) a0
  have p1 := World.cell?_setCell_same (w8.setCell ⟨w.heap.size, 0, none⟩ (.int .i64 y.1)) ⟨w.heap.size, 1, none⟩ (.string y.2) (by rw [World.cell?_setCell_other _ _ _ _ (by intro e; injection e; omega)]; exact a1)
  simp [bodyPost, results, Try.results16, go_sem, p0, p1]
  exact op.out _ (two_set _ _ _ _)
set_option maxRecDepth 100000 in
set_option maxHeartbeats 8000000 in
theorem take_last {w : World} {B hp mb : Nat} {most : Bool} {v : Value} {f : ByteArray → Option Nat} {M : List Ent} {x : Ent} {mv : Int} (h : HS w B hp mb most v none f (M ++ [x]) mv) (s : ByteArray) (hs : s.size ≤ 9223372036854775807) (hne : x.2 = s) (hn : M.length + 1 ≤ 1099511627776) :
    Calls Try.prog 16 #[.pointer (some ⟨hp, 0, none⟩), .string s] w fun e w' => e = .returned (.tuple #[eV x, .nilIface]) ∧ OP w B hp mb most v M 0 w' := by
  have LL : (M ++ [x]).length = M.length + 1 := by simp
  obtain ⟨i, hie⟩ : ∃ i, i = M.length := ⟨_, rfl⟩
  have hi : i < (M ++ [x]).length := by omega
  have atx : atE (M ++ [x]) i = x := atE_get (by rw [hie]; simp)
  have hf : f s = some i := by have := h.pl.at hi; rw [atx, hne] at this; exact this
  have pl2 := h.pl.cutLast (by omega) (name := s) (by rw [atE_last]; exact hne)
  rw [List.dropLast_concat] at pl2
  obtain ⟨a, cap, rfl, hg⟩ := h.form
  obtain ⟨g, rfl⟩ := hg (by omega)
  have hl := h.hl
  have hB := (h.hw.sp g rfl).1
  have mB := (h.hw.sp g rfl).2
  have mlt : mb < w.heap.size := by obtain ⟨_, m, _⟩ := h.mp; exact m.lt
  obtain ⟨ll, lc, gB, gl, lc2⟩ := h.len
  have b0 : Below w.heap.size w (w.alloc (.cells #[.int .i64 0, .string ⟨#[]⟩] 24)) := (Below.refl _ w).alloc (Nat.le_refl _) _
  have CF : Hid _ := find_some (h.below b0) s hs i hf
  have c0 := h.c0
  obtain ⟨e1, e2⟩ := h.at hi
  obtain ⟨y, hy⟩ : ∃ y, y = x := ⟨_, rfl⟩
  rw [atx] at e1 e2
  rw [← hy] at e1 e2
  obtain ⟨W1, hW1⟩ : ∃ W1, W1 = (w.alloc (.cells #[.int .i64 0, .string ⟨#[]⟩] 24)).alloc (.cells #[.int .i64 y.1, .string y.2] 24) := ⟨_, rfl⟩
  have b1 : Below w.heap.size w W1 := by rw [hW1]; exact ((Below.refl _ w).alloc (Nat.le_refl _) _).alloc (by simp) _
  have tb1 : TB w y W1 := by rw [hW1]; exact TB.made w y
  have h1 := h.below b1
  rw [LL] at h1
  have CC : Hid (Calls Try.prog 61 #[.pointer (some ⟨hp, 0, none⟩)] W1 fun e w' => e = .returned (eV x) ∧ CT W1 B hp mb g cap M w') := cut_any h1 hn
  have NX : Hid (∀ w2, CT W1 B hp mb g cap M w2 → w2.cell? ⟨hp, 3, none⟩ = some (.int .i64 mv) ∧ w2.frozen? ⟨hp, 3, none⟩ = false ∧ hp < w2.heap.size ∧ w2.cell? ⟨hp, 1, none⟩ = some (.map (some mb)) ∧ ∃ w8, ((Builtin.delete_ #[77, 9] 0 #[.map (some mb), .string s]).run Try.prog ((w2.setCell ⟨hp, 3, none⟩ (.int .i64 0)).alloc (.cells #[.int .i64 x.1, .string x.2] 24)) = .ok (.tuple #[]) w8) ∧ TB w y w8 ∧ ∀ w9, w8.grownBy w9 (some w.heap.size) → OP w B hp mb most (.slice (some ⟨g, 0, none⟩) (M ++ [x]).length cap) M 0 w9) := fun w2 ct => by
    have k3 : w2.cell? ⟨hp, 3, none⟩ = some (.int .i64 mv) := by rw [ct.cs 3 (by omega)]; exact h1.c3
    have hl2 : hp < w2.heap.size := Nat.lt_of_lt_of_le h1.hl ct.size
    refine ⟨k3, by rw [ct.zs]; exact h1.z3, hl2, by rw [ct.cs 1 (by omega)]; exact h1.c1, ?_⟩
    obtain ⟨W4, hW4⟩ : ∃ W4, W4 = (w2.setCell ⟨hp, 3, none⟩ (.int .i64 0)).alloc (.cells #[.int .i64 x.1, .string x.2] 24) := ⟨_, rfl⟩
    rw [← hW4]
    obtain ⟨W3, hW3⟩ : ∃ W3, W3 = w2.setCell ⟨hp, 3, none⟩ (.int .i64 0) := ⟨_, rfl⟩
    rw [← hW3] at hW4
    have g3 : w2.grownBy W3 (some hp) := by rw [hW3]; exact ⟨rfl, rfl, rfl, by simp, fun k hk q => Below.heap_setCell _ _ _ _ (fun e => q (by rw [e]))⟩
    have b4 : Below W3.heap.size W3 W4 := by rw [hW4]; exact (Below.refl _ W3).alloc (Nat.le_refl _) _
    have hl3 : hp < W3.heap.size := Nat.lt_of_lt_of_le hl2 g3.size
    have c4 : ∀ o, o ≠ 3 → W4.cell? ⟨hp, o, none⟩ = w2.cell? ⟨hp, o, none⟩ := fun o ho => by rw [b4.cell (p := ⟨hp, o, none⟩) hl3, hW3, World.cell?_setCell_other _ _ _ _ (by intro e; injection e; omega)]
    have z4 : ∀ o, W4.frozen? ⟨hp, o, none⟩ = W1.frozen? ⟨hp, o, none⟩ := fun o => by rw [b4.frozen (p := ⟨hp, o, none⟩) hl3, hW3, World.frozen?_setCell, ct.zs]
    have d0 : W4.cell? ⟨hp, 0, none⟩ = some (.slice (some ⟨g, 0, none⟩) M.length cap) := by rw [c4 0 (by omega)]; exact ct.c0
    have d1 : W4.cell? ⟨hp, 1, none⟩ = some (.map (some mb)) := by rw [c4 1 (by omega), ct.cs 1 (by omega)]; exact h1.c1
    have d2 : W4.cell? ⟨hp, 2, none⟩ = some (.func (.func (fnM most)) #[] #[]) := by rw [c4 2 (by omega), ct.cs 2 (by omega)]; exact h1.c2
    have d3 : W4.cell? ⟨hp, 3, none⟩ = some (.int .i64 0) := by rw [b4.cell (p := ⟨hp, 3, none⟩) hl3, hW3]; exact World.cell?_setCell_same _ _ _ k3
    have row3 : W3.ownsRow B 24 2 (.slice (some ⟨g, 0, none⟩) M.length cap) M.length (encE M) := by rw [hW3]; exact ownsRow_setCell_ne ct.row _ (fun k e => by injection e with e; subst e; exact hB) _
    have row4 : W4.ownsRow B 24 2 (.slice (some ⟨g, 0, none⟩) M.length cap) M.length (encE M) := by rw [hW4]; exact row3.alloc _
    obtain ⟨c, mp1, hc⟩ := h1.mp
    have hc : c ≤ M.length + 1 := by have : c ≤ (M ++ [x]).length + 0 := hc; omega
    have m2 : w2.heap[mb]? = W1.heap[mb]? := ct.keep mb mp1.lt (fun e => h.hw.ne e.symm) (by omega)
    have mlt2 : mb < w2.heap.size := Nat.lt_of_lt_of_le mp1.lt ct.size
    have m3 : W3.heap[mb]? = w2.heap[mb]? := g3.block mb mlt2 (fun e => h.hw.ne (by injection e with e; exact e.symm))
    have mp4 : MP W4 mb f c := mp1.keep (by rw [b4.block mb (Nat.lt_of_lt_of_le mlt2 g3.size), m3, m2])
    have hx : x.2.size ≤ 9223372036854775807 := h.nm x (by simp)
    have fr14 : HF hp mb (some g) w W4 := (((HF.below b1).trans ct.hf).trans (HF.grown g3 (Or.inl rfl))).trans (HF.below b4)
    have h3 : ∀ k, (some g : Option Nat) = some k → k < w.heap.size := fun k e => by injection e with e; omega
    have tb4 : TB w y W4 := ((tb1.frame ct.hf hl mlt h3).frame (HF.grown (rb := some g) g3 (Or.inl rfl)) hl mlt h3).frame (HF.below (rb := some g) b4) hl mlt h3
    obtain ⟨w8, r8, h8, g8⟩ := HS.dropped d0 d1 d2 d3 (by rw [z4]; exact h1.z0) (by rw [z4]; exact h1.z3) row4 mp4 hc h.hw (fun e he => h.nm e (List.mem_append_left _ he)) (Nat.lt_of_lt_of_le hl3 b4.size) s hs (by rw [hf]; rfl) pl2 0
    have fr8 : HF hp mb (some g) W4 w8 := HF.grown g8 (Or.inr (Or.inl rfl))
    refine ⟨w8, r8, tb4.frame fr8 hl mlt h3, fun w9 g9 => ?_⟩
    exact OP.out (v := .slice (some ⟨g, 0, none⟩) (M ++ [x]).length cap) h8 rfl (fr14.trans fr8) g9 hl mlt h3
  have i0 : (0 : Int) ≤ (i : Int) := Int.natCast_nonneg i
  have iI : (i : Int) < ((M ++ [x]).length : Int) := Int.ofNat_lt.2 hi
  have hW1H : Hid ((w.alloc (.cells #[.int .i64 0, .string ⟨#[]⟩] 24)).alloc (.cells #[.int .i64 y.1, .string y.2] 24) = W1) := hW1.symm
  have hneB : (x.2.toList == s.toList) = true := by rw [hne]; simp
  unfold eV at CC NX ⊢
  generalize (M ++ [x]).length = n at *
  subst hy
  clear h h1 hg hn hs hf hne pl2 hie atx b0 b1 tb1 hW1 ll lc gB lc2 mlt mB hB LL
  go_enter Try.func16, Try.ntmps16
  go_wp2_with fail
  refine Calls.mono CF.out ?_
  rintro e w1 ⟨rfl, hw1⟩
  subst hw1
  clear CF
  go_wp2_with fail
  rw [hW1H.out]
  clear hW1H c0 e1 e2
  refine Calls.mono CC.out ?_
  rintro e w2 ⟨rfl, ct⟩
  obtain ⟨k3, z3, hl2, c21, w8, r8, tb, op0⟩ := NX.out w2 ct
  have op : Hid _ := op0
  clear op0 NX CC ct
  obtain ⟨a0, a1, b0, b1, t0, t1, tsz⟩ := tb
  go_wp2_with fail
  have p0 := World.cell?_setCell_same w8 ⟨w.heap.size, 0, none⟩ (.int .i64 y.1) a0
  have p1 := World.cell?_setCell_same (w8.setCell ⟨w.heap.size, 0, none⟩ (.int .i64 y.1)) ⟨w.heap.size, 1, none⟩ (.string y.2) (by rw [World.cell?_setCell_other _ _ _ _ (by intro e; injection e; omega)]; exact a1)
  simp [bodyPost, results, Try.results16, go_sem, p0, p1]
  exact op.out _ (two_set _ _ _ _)
end Go.Proofs.Ytcglgfcmhhbeaaa.Hp
