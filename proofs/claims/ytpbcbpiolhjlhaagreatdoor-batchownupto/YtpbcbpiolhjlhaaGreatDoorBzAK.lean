
import Derived.Test.YtpbcbpiolhjlhaaGreatDoorBzAH
import Derived.Test.YtpbcbpiolhjlhaaGreatDoorBzAJ
import Derived.Test.YtpbcbpiolhjlhaaGreatDoorBzAE
import Derived.BigQuiet

namespace Go.Proofs.YtpbcbpiolhjlhaaGreatDoor
open Go.RowKit _root_.Go.Proofs.YtpbcbpiolhjlhaaGreatDoor.So
set_option linter.unusedVariables false
set_option linter.unusedSimpArgs false
theorem TgIn.grownW {w w' : World} {a : Option Addr} {l : List TagP} {row : Option Nat} (h : TgIn w a l) (hg : w.grownBy w' row) (hne : l ≠ [] → ∀ ad, a = some ad → row ≠ some ad.block) : TgIn w' a l := by
  by_cases e : l = []
  · exact Or.inl e
  · rcases h with h | ⟨b, off, ha, hb, hc⟩
    · exact absurd h e
    · have hk : w'.heap[b]? = w.heap[b]? := hg.block b hb (fun q => hne e _ ha q.symm)
      refine Or.inr ⟨b, off, ha, Nat.lt_of_lt_of_le hb hg.size, fun i t ht => ?_⟩
      obtain ⟨k1, k2⟩ := hc i t ht
      exact ⟨by rw [World.cell?_of_block (w := w) (a := ⟨b, off + i * 2, none⟩) hk]; exact k1, by rw [World.cell?_of_block (w := w) (a := ⟨b, off + i * 2 + 1, none⟩) hk]; exact k2⟩
/-- and no tags lie in the row's own block. -/
def OW2 (w : World) (B : Nat) (v : Value) (L : List WrA) : Prop := OW w B v L ∧ ∀ t ∈ L, t.1.s.t ≠ [] → ∀ ad, t.2.1 = some ad → v.ownBlock ≠ some ad.block
theorem OW2.nil (w : World) (B : Nat) : OW2 w B (.slice none 0 0) [] := ⟨OW.nil w B, fun t h => by cases h⟩
theorem OW2.below {w w' : World} {B : Nat} {v : Value} {L : List WrA} (h : OW2 w B v L) (hb : Below w.heap.size w w') : OW2 w' B v L := ⟨h.1.below hb, h.2⟩
theorem app2W (W : World) (B : Nat) (v : Value) (L : List WrA) (h : OW2 W B v L) (hB : B ≤ W.heap.size) (t : WrA) (ht : SerIn W t.2.1 t.1.s) (htb : t.1.s.t ≠ [] → ∀ ad, t.2.1 = some ad → v.ownBlock ≠ some ad.block) (hn : L.length + 1 ≤ 1099511627776) :
    ∃ a c w', (Builtin.append_ #[23, 23] 23 #[v, .slice (some ⟨W.heap.size, 0, none⟩) 1 1]).run Tryz.prog (W.alloc (.cells #[.string t.1.s.m, .slice t.2.1 t.1.s.t.length t.2.2, .string t.1.s.f, .int .i64 t.1.tm, .int .u8 (t.1.kd : Int), .int .i64 t.1.n] 76)) = .ok (.slice a (L.length + 1) c) w' ∧ OW2 w' B (.slice a (L.length + 1) c) (L ++ [t]) ∧ Below B W w' := by
  have b1 : Below W.heap.size W (W.alloc (.cells #[.string t.1.s.m, .slice t.2.1 t.1.s.t.length t.2.2, .string t.1.s.f, .int .i64 t.1.tm, .int .u8 (t.1.kd : Int), .int .i64 t.1.n] 76)) := (Below.refl _ W).alloc (Nat.le_refl _) _
  have ho2 := (h.1.below b1).1
  obtain ⟨i, i1, i0⟩ := Option.map_eq_some_iff.1 wr_info
  have i2 : i.zero = some (.agg #[.string ⟨#[]⟩, .slice none 0 0, .string ⟨#[]⟩, .int .i64 0, .int .u8 0, .int .i64 0]) := congrArg (·.1) i0
  have i3 : i.bytes = 80 := congrArg (·.2.1) i0
  have i4 : i.size = 6 := congrArg (·.2.2) i0
  have hml : maxLen = 9223372036854775807 := by decide
  have hB2 := Nat.le_trans hB b1.size
  obtain ⟨g, cap, w', hr, own, gr, hat, hlt⟩ := run_append_lies (P := Tryz.prog) _ 23 23 B 76 i (.agg #[.string ⟨#[]⟩, .slice none 0 0, .string ⟨#[]⟩, .int .i64 0, .int .u8 0, .int .i64 0]) 6 80 Tryz.underlying23 i1 i2 i4 i3 rfl (by omega) v L.length (encW L) ho2 ⟨W.heap.size, 0, none⟩ 1 1 (encW [t]) rfl (fun j u hj => by
    rcases j with _ | _ | _ | _ | _ | _ | j <;> simp [encW] at hj <;> (try (subst hj; simp [go_sem]))) (encW_one _) (by omega) (by omega) (by omega) hB2 _ rfl
  have gW : W.grownBy w' v.ownBlock := ⟨gr.os, gr.tape, gr.output, Nat.le_trans b1.size gr.size, fun k hk hne => by rw [gr.block k (Nat.lt_of_lt_of_le hk b1.size) hne]; exact b1.block k hk⟩
  have all : ∀ u ∈ L ++ [t], SerIn W u.2.1 u.1.s ∧ (u.1.s.t ≠ [] → ∀ ad, u.2.1 = some ad → v.ownBlock ≠ some ad.block) := fun u hu => by
    rcases List.mem_append.1 hu with q | q
    · exact ⟨h.1.2 u q, h.2 u q⟩
    · rw [List.mem_singleton.1 q]; exact ⟨ht, htb⟩
  refine ⟨some ⟨g, 0, none⟩, cap, w', hr, ⟨⟨?_, fun u hu => ⟨(all u hu).1.1.grownW gW (all u hu).2, (all u hu).1.2⟩⟩, fun u hu he ad had => ?_⟩, (b1.mono hB).trans ((Below.refl B _).grown gr hB2 (fun k e => (World.ownsRow.lt ho2 k e).1))⟩
  · rw [List.length_append, List.length_singleton, encW_append]; exact own
  · rcases hat with e | e
    · intro q
      exact (all u hu).2 he ad had (e.trans q)
    · intro q
      have q1 : g = ad.block := by simpa [Value.ownBlock] using q
      rcases (all u hu).1.1 with q2 | ⟨b, off, q3, q4, _⟩
      · exact he q2
      · rw [had] at q3
        injection q3 with q3
        rw [q3] at q1
        have : (W.alloc (.cells #[.string t.1.s.m, .slice t.2.1 t.1.s.t.length t.2.2, .string t.1.s.f, .int .i64 t.1.tm, .int .u8 (t.1.kd : Int), .int .i64 t.1.n] 76)).heap.size = W.heap.size + 1 := by simp
        rw [this] at e
        simp only at q1
        omega
theorem make_n (n : Nat) (h : n ≤ 1099511627776) (w : World) : (Instr.makeSlice 86 (.int .i64 (n : Int)) (.int .i64 (n : Int))).run Tryz.prog w = .ok (.slice (some ⟨w.heap.size, 0, none⟩) n n) (w.alloc (.cells (madeCells #[.int .i64 0] n) 3)) := by
  obtain ⟨i, i1, i0⟩ := Option.map_eq_some_iff.1 int_info
  have i2 : i.zero = some (.int .i64 0) := congrArg (·.1) i0
  have i3 : i.bytes = 8 := congrArg (·.2.1) i0
  have i4 : i.size = 1 := congrArg (·.2.2) i0
  have := run_make (P := Tryz.prog) w 86 3 i (.int .i64 0) Tryz.underlying86 i1 i2 .i64 .i64 (n : Int) (n : Int) (by omega) (by omega) (by rw [i3]; omega) (by omega)
  rw [i4] at this
  simpa [Value.cells] using this
/-- places as they are filled in: k of n. -/
structure FP (w : World) (b0 n k : Nat) (wr : World) : Prop where
  c : ∀ j : Nat, j < n → wr.cell? ⟨b0, j, none⟩ = some (.int .i64 (if j < k then (j : Int) else 0))
  f : ∀ j : Nat, j < n → wr.frozen? ⟨b0, j, none⟩ = false
  b : Below w.heap.size w wr
  l : b0 < wr.heap.size
theorem FP.more {w : World} {b0 n k : Nat} {wr : World} (h : FP w b0 n k wr) (hk : k < n) (hb : w.heap.size ≤ b0) : FP w b0 n (k + 1) (wr.setCell ⟨b0, k, none⟩ (.int .i64 (k : Int))) := by
  refine ⟨fun j hj => ?_, fun j hj => by rw [World.frozen?_setCell]; exact h.f j hj, h.b.setCell (p := ⟨b0, k, none⟩) hb _, by simpa using h.l⟩
  by_cases e : j = k
  · subst e; rw [World.cell?_setCell_same _ _ _ (h.c j hj), if_pos (by omega)]
  · rw [World.cell?_setCell_other _ _ _ _ (by intro q; injection q; omega), h.c j hj]
    by_cases q : j < k
    · rw [if_pos q, if_pos (by omega)]
    · rw [if_neg q, if_neg (by omega)]
theorem FP.start (w : World) (n : Nat) : FP w w.heap.size n 0 (w.alloc (.cells (madeCells #[.int .i64 0] n) 3)) := by
  have hz : ∀ j, j < n → (madeCells #[Value.int .i64 0] n)[j]? = some (.int .i64 0) := fun j hj => by
    rw [← Array.getElem?_toList, toList_madeCells_one]; simp [hj]
  refine ⟨fun j hj => ?_, fun j hj => frozen_of_row _ w.heap.size j _ 3 (heap_alloc_new w _), (Below.refl _ w).alloc (Nat.le_refl _) _, by simp⟩
  rw [cell_of_row _ w.heap.size j _ 3 (0, 0) (heap_alloc_new w _), if_neg (by omega)]; exact hz j hj
theorem FP.done {w : World} {b0 n : Nat} {wr : World} (h : FP w b0 n n wr) : PW wr b0 n := ⟨h.l, fun j hj => by rw [h.c j hj, if_pos hj]⟩
/-- what stands while the samples are told. -/
structure OD1 (w3 : World) (l : List WrP) (out : List Nat) (k : Nat) (v : Value) (L : List WrA) (wr : World) : Prop where
  row : OW2 wr w3.heap.size v L
  is : L.map (·.1) = ordL l out k
  bl : Below w3.heap.size w3 wr
theorem OD1.below {w3 : World} {l : List WrP} {out : List Nat} {k : Nat} {v : Value} {L : List WrA} {wr wx : World} (s : OD1 w3 l out k v L wr) (hB : Below wr.heap.size wr wx) : OD1 w3 l out k v L wx := ⟨s.row.below hB, s.is, s.bl.trans (hB.mono s.bl.size)⟩
theorem ordL_skip {l : List WrP} {out : List Nat} {k q p : Nat} (hk : 0 < k) (hq : out[k - 1]? = some q) (hp : out[k]? = some p) (h : wC (atW l q) (atW l p) = 0) : ordL l out (k + 1) = ordL l out k := by
  conv => lhs; unfold ordL
  rw [if_neg, List.append_nil]
  rw [List.getD_eq_getElem?_getD, List.getD_eq_getElem?_getD, hq, hp]
  rintro (e | e)
  · omega
  · exact e h
theorem ordL_new {l : List WrP} {out : List Nat} {k p : Nat} (hp : out[k]? = some p) (h : k = 0 ∨ ∃ q, out[k - 1]? = some q ∧ wC (atW l q) (atW l p) ≠ 0) : ordL l out (k + 1) = ordL l out k ++ [atW l p] := by
  conv => lhs; unfold ordL
  rw [if_pos]
  · rw [List.getD_eq_getElem?_getD, hp]; rfl
  · rcases h with e | ⟨q, hq, e⟩
    · exact Or.inl e
    · right; rw [List.getD_eq_getElem?_getD, List.getD_eq_getElem?_getD, hq, hp]; exact e
/-- slices.Clone of tags, whatever they are: in a block of their own. -/
theorem cloneW_any (a : Option Addr) (c : Nat) (l : List TagP) (w : World) (h : TgIn w a l) (hn : l.length ≤ 4398046511104) :
    Calls Tryz.prog 21 #[.slice a l.length c] w fun e w' => ∃ a' c', e = .returned (.slice a' l.length c') ∧ TgIn w' a' l ∧ (∀ ad, a' = some ad → w.heap.size ≤ ad.block) ∧ Below w.heap.size w w' := by
  cases a with
  | none =>
    obtain rfl : l = [] := by
      rcases h with e | ⟨b, off, e, _⟩
      · exact e
      · cases e
    exact (cloneT_nil c w).mono fun e w' hh => ⟨none, 0, hh.1, Or.inl rfl, (fun ad q => by cases q), by rw [hh.2]; exact Below.refl _ _⟩
  | some ad =>
    refine (cloneT_any ad c l w h hn).mono fun e w' hh => ?_
    obtain ⟨g, cap, h1, h2, h3, h4, h5⟩ := hh
    exact ⟨some ⟨g, 0, none⟩, cap, h1, by have := (OT.tr h4).tin; rw [atT_map] at this; exact this, (fun ad q => by cases q; exact h2), h5⟩
end Go.Proofs.YtpbcbpiolhjlhaaGreatDoor


namespace Go.Proofs.YtpbcbpiolhjlhaaGreatDoor
open Go.RowKit _root_.Go.Proofs.YtpbcbpiolhjlhaaGreatDoor.So
set_option linter.unusedVariables false
set_option linter.unusedSimpArgs false
set_option maxRecDepth 100000 in
set_option maxHeartbeats 4000000 in
theorem rpcompare_any (x y : WrP) (a b : Option Addr) (c1 c2 : Nat) (w : World) (ha : SerIn w a x.s) (hb : SerIn w b y.s) :
    Calls Tryz.prog 82 #[wV x a c1, wV y b c2] w fun e w' => e = .returned (.int .i64 (wC x y)) ∧ Below w.heap.size w w' := by
  obtain ⟨⟨xm, xt, xf⟩, xtm, xk, xn⟩ := x
  obtain ⟨⟨ym, yt, yf⟩, ytm, yk, yn⟩ := y
  unfold wV wC wK kC pairC
  simp only at ha hb ⊢
  have B2 : ∀ o1 o2, Below w.heap.size w ((w.alloc o1).alloc o2) := fun o1 o2 => ((Below.refl _ w).alloc (Nat.le_refl _) o1).alloc (by simp) o2
  have C1 : Hid (∀ W, Below w.heap.size w W → Calls Tryz.prog 98 #[.agg #[.string xm, .slice a xt.length c1, .string xf], .agg #[.string ym, .slice b yt.length c2, .string yf]] W fun e w' => e = .returned (.int .i64 (serC ⟨xm, xt, xf⟩ ⟨ym, yt, yf⟩)) ∧ Below W.heap.size W w') := fun W hW => rcompare_any a b c1 c2 ⟨xm, xt, xf⟩ ⟨ym, yt, yf⟩ W ⟨ha.1.below hW, ha.2⟩ ⟨hb.1.below hW, hb.2⟩
  generalize serC ⟨xm, xt, xf⟩ ⟨ym, yt, yf⟩ = r at C1 ⊢
  generalize xt.length = lx at *
  generalize yt.length = ly at *
  clear ha hb
  have b2 := B2 (.cells #[.string xm, .slice a lx c1, .string xf, .int .i64 xtm, .int .u8 (xk : Int), .int .i64 xn] 76) (.cells #[.string ym, .slice b ly c2, .string yf, .int .i64 ytm, .int .u8 (yk : Int), .int .i64 yn] 76)
  have s2 : w.heap.size + 2 = ((w.alloc (.cells #[.string xm, .slice a lx c1, .string xf, .int .i64 xtm, .int .u8 (xk : Int), .int .i64 xn] 76)).alloc (.cells #[.string ym, .slice b ly c2, .string yf, .int .i64 ytm, .int .u8 (yk : Int), .int .i64 yn] 76)).heap.size := by simp
  have C1' : Hid (Calls Tryz.prog 98 #[.agg #[.string xm, .slice a lx c1, .string xf], .agg #[.string ym, .slice b ly c2, .string yf]] ((w.alloc (.cells #[.string xm, .slice a lx c1, .string xf, .int .i64 xtm, .int .u8 (xk : Int), .int .i64 xn] 76)).alloc (.cells #[.string ym, .slice b ly c2, .string yf, .int .i64 ytm, .int .u8 (yk : Int), .int .i64 yn] 76)) fun e w' => e = .returned (.int .i64 r) ∧ Below w.heap.size w w' ∧ w'.cell? ⟨w.heap.size, 3, none⟩ = some (.int .i64 xtm) ∧ w'.cell? ⟨w.heap.size + 1, 3, none⟩ = some (.int .i64 ytm)) := (C1.out _ b2).mono fun e w' hh => ⟨hh.1, b2.trans (hh.2.mono b2.size), by rw [hh.2.cell (p := ⟨w.heap.size, 3, none⟩) (by rw [← s2]; show w.heap.size < _; omega)]; simp [go_sem], by rw [hh.2.cell (p := ⟨w.heap.size + 1, 3, none⟩) (by rw [← s2]; show w.heap.size + 1 < _; omega)]; simp [go_sem]⟩
  obtain ⟨RES, hRES⟩ : ∃ R, (if r = 0 then tmC xtm ytm else r) = R := ⟨_, rfl⟩
  rw [hRES]
  have hRH : Hid ((if r = 0 then tmC xtm ytm else r) = RES) := hRES
  clear B2 C1 b2 s2 hRES
  go_enter Tryz.func82, Tryz.ntmps82
  go_wp2_with fail
  refine Calls.mono C1'.out ?_
  rintro e w1 ⟨rfl, b1, x1, y1⟩
  have b1H : Hid (Below w.heap.size w w1) := b1
  clear b1 C1'
  by_cases hr : r = 0
  · have hq : Hid (tmC xtm ytm = RES) := by have := hRH.out; rw [if_pos hr] at this; exact this
    have hrb : (r == 0) = true := by simpa using hr
    clear hRH
    subst hr
    by_cases t1 : xtm < ytm
    · have e : tmC xtm ytm = -1 := by unfold tmC; rw [if_pos t1]
      rw [e] at hq
      clear e
      go_wp2_with fail
      go_ret
      exact ⟨by rw [← hq.out]; rfl, b1H.out⟩
    · by_cases t2 : ytm < xtm
      · have e : tmC xtm ytm = 1 := by unfold tmC; rw [if_neg t1, if_pos t2]
        rw [e] at hq
        clear e
        go_wp2_with fail
        go_ret
        exact ⟨by rw [← hq.out]; rfl, b1H.out⟩
      · have e : tmC xtm ytm = 0 := by unfold tmC; rw [if_neg t1, if_neg t2]
        rw [e] at hq
        clear e
        go_wp2_with fail
        go_ret
        exact ⟨by rw [← hq.out]; rfl, b1H.out⟩
  · have hq : Hid (r = RES) := by have := hRH.out; rw [if_neg hr] at this; exact this
    have hrb : (r == 0) = false := by simpa using hr
    clear hr hRH
    go_wp2_with fail
    go_ret
    exact ⟨by rw [← hq.out]; rfl, b1H.out⟩
end Go.Proofs.YtpbcbpiolhjlhaaGreatDoor


namespace Go.Proofs.YtpbcbpiolhjlhaaGreatDoor
open Go.RowKit _root_.Go.Proofs.YtpbcbpiolhjlhaaGreatDoor.So
set_option linter.unusedVariables false
set_option linter.unusedSimpArgs false
end Go.Proofs.YtpbcbpiolhjlhaaGreatDoor


namespace Go.Proofs.YtpbcbpiolhjlhaaGreatDoor
open Go.RowKit _root_.Go.Proofs.YtpbcbpiolhjlhaaGreatDoor.So
set_option linter.unusedVariables false
set_option linter.unusedSimpArgs false
set_option maxRecDepth 100000 in
set_option maxHeartbeats 8000000 in
/-- CopySeries: the tags in a row of one's own. -/
theorem copySeries_any (a : Option Addr) (c : Nat) (s : SerP) (w : World) (hs : SerIn w a s) (hn : s.t.length ≤ 4398046511104) :
    Calls Tryz.prog 14 #[.agg #[.string s.m, .slice a s.t.length c, .string s.f]] w fun e w' => ∃ a' c', e = .returned (.agg #[.string s.m, .slice a' s.t.length c', .string s.f]) ∧ TgIn w' a' s.t ∧ (∀ ad, a' = some ad → w.heap.size ≤ ad.block) ∧ Below w.heap.size w w' := by
  obtain ⟨sm, st, sf⟩ := s
  simp only at hs hn ⊢
  obtain ⟨hs, _⟩ := hs
  simp only at hs
  obtain ⟨w3, hw3⟩ : ∃ w3, w3 = ((w.alloc (.cells #[.string sm, .slice a st.length c, .string sf] 68)).alloc (.cells #[.string ⟨#[]⟩, .slice none 0 0, .string ⟨#[]⟩] 68)).alloc (.cells #[.string sm, .slice none 0 0, .string sf] 68) := ⟨_, rfl⟩
  have b3 : Below w.heap.size w w3 := by
    rw [hw3]
    exact (((Below.refl _ w).alloc (Nat.le_refl _) _).alloc (by simp) _).alloc (by simp; omega) _
  have s3 : w3.heap.size = w.heap.size + 3 := by rw [hw3]; simp
  have f3 : ∀ p, w3.frozen? ⟨w.heap.size + 1 + 1, p, none⟩ = false ∧ w3.frozen? ⟨w.heap.size + 1, p, none⟩ = false := fun p => by rw [hw3]; simp [go_sem]
  have x3 : (w3.cell? ⟨w.heap.size + 1 + 1, 0, none⟩ = some (.string sm) ∧ w3.cell? ⟨w.heap.size + 1 + 1, 1, none⟩ = some (.slice none 0 0) ∧ w3.cell? ⟨w.heap.size + 1 + 1, 2, none⟩ = some (.string sf)) ∧ w3.cell? ⟨w.heap.size + 1, 0, none⟩ = some (.string ⟨#[]⟩) ∧ w3.cell? ⟨w.heap.size + 1, 1, none⟩ = some (.slice none 0 0) ∧ w3.cell? ⟨w.heap.size + 1, 2, none⟩ = some (.string ⟨#[]⟩) := by
    rw [hw3]
    refine ⟨⟨?_, ?_, ?_⟩, ?_, ?_, ?_⟩ <;> simp [go_sem]
  obtain ⟨v1, w4, hr, ho, hg, hv⟩ := appT w3 w3.heap.size (.slice none 0 0) [] st (OT.nil _ _) (Nat.le_refl _) a c (hs.below b3) (by simpa using hn)
  rw [List.nil_append] at ho
  have b4 : Below w3.heap.size w3 w4 := grown_below (OT.nil w3 w3.heap.size) (Nat.le_refl _) hg
  obtain ⟨a1, c1, e1, _, ht⟩ := ho.tin
  subst e1
  have fr : ∀ ad, a1 = some ad → w.heap.size + 3 ≤ ad.block := fun ad e => by
    subst e
    have := (World.ownsRow.lt ho ad.block rfl).1
    omega
  obtain ⟨⟨x1, x2, x3⟩, y1, y2, y3⟩ := x3
  have lt2 : w.heap.size + 1 + 1 < w3.heap.size := by omega
  have lt1 : w.heap.size + 1 < w3.heap.size := by omega
  have g2 : ∀ p, w4.frozen? ⟨w.heap.size + 1 + 1, p, none⟩ = false := fun p => by rw [b4.frozen (p := ⟨w.heap.size + 1 + 1, p, none⟩) lt2]; exact (f3 p).1
  have g1 : ∀ p, w4.frozen? ⟨w.heap.size + 1, p, none⟩ = false := fun p => by rw [b4.frozen (p := ⟨w.heap.size + 1, p, none⟩) lt1]; exact (f3 p).2
  have p0 : w4.cell? ⟨w.heap.size + 1 + 1, 0, none⟩ = some (.string sm) := by rw [b4.cell (p := ⟨w.heap.size + 1 + 1, 0, none⟩) lt2]; exact x1
  have p1 : w4.cell? ⟨w.heap.size + 1 + 1, 1, none⟩ = some (.slice none 0 0) := by rw [b4.cell (p := ⟨w.heap.size + 1 + 1, 1, none⟩) lt2]; exact x2
  have p2 : w4.cell? ⟨w.heap.size + 1 + 1, 2, none⟩ = some (.string sf) := by rw [b4.cell (p := ⟨w.heap.size + 1 + 1, 2, none⟩) lt2]; exact x3
  have q0 : w4.cell? ⟨w.heap.size + 1, 0, none⟩ = some (.string ⟨#[]⟩) := by rw [b4.cell (p := ⟨w.heap.size + 1, 0, none⟩) lt1]; exact y1
  have q1 : w4.cell? ⟨w.heap.size + 1, 1, none⟩ = some (.slice none 0 0) := by rw [b4.cell (p := ⟨w.heap.size + 1, 1, none⟩) lt1]; exact y2
  have q2 : w4.cell? ⟨w.heap.size + 1, 2, none⟩ = some (.string ⟨#[]⟩) := by rw [b4.cell (p := ⟨w.heap.size + 1, 2, none⟩) lt1]; exact y3
  have B4 : Below w.heap.size w w4 := b3.trans (b4.mono (by omega))
  have fin : Hid (∀ u0 u1 u2 u3, TgIn ((((w4.setCell ⟨w.heap.size + 1 + 1, 1, none⟩ u0).setCell ⟨w.heap.size + 1, 0, none⟩ u1).setCell ⟨w.heap.size + 1, 1, none⟩ u2).setCell ⟨w.heap.size + 1, 2, none⟩ u3) a1 st ∧ (∀ ad, a1 = some ad → w.heap.size ≤ ad.block) ∧ Below w.heap.size w ((((w4.setCell ⟨w.heap.size + 1 + 1, 1, none⟩ u0).setCell ⟨w.heap.size + 1, 0, none⟩ u1).setCell ⟨w.heap.size + 1, 1, none⟩ u2).setCell ⟨w.heap.size + 1, 2, none⟩ u3)) := fun u0 u1 u2 u3 => by
    refine ⟨?_, fun ad e => by have := fr ad e; omega, (((B4.setCell (p := ⟨w.heap.size + 1 + 1, 1, none⟩) (by show w.heap.size ≤ w.heap.size + 1 + 1; omega) _).setCell (p := ⟨w.heap.size + 1, 0, none⟩) (by simp) _).setCell (p := ⟨w.heap.size + 1, 1, none⟩) (by simp) _).setCell (p := ⟨w.heap.size + 1, 2, none⟩) (by simp) _⟩
    rcases ht with h | ⟨b, off, e, hb, hc⟩
    · exact Or.inl h
    · have hb3 := fr _ e
      simp only at hb3
      refine Or.inr ⟨b, off, e, by simpa using hb, fun i t ht => ?_⟩
      obtain ⟨k1, k2⟩ := hc i t ht
      refine ⟨?_, ?_⟩
      · rw [World.cell?_setCell_other _ _ _ _ (by intro q; injection q; omega), World.cell?_setCell_other _ _ _ _ (by intro q; injection q; omega), World.cell?_setCell_other _ _ _ _ (by intro q; injection q; omega), World.cell?_setCell_other _ _ _ _ (by intro q; injection q; omega)]; exact k1
      · rw [World.cell?_setCell_other _ _ _ _ (by intro q; injection q; omega), World.cell?_setCell_other _ _ _ _ (by intro q; injection q; omega), World.cell?_setCell_other _ _ _ _ (by intro q; injection q; omega), World.cell?_setCell_other _ _ _ _ (by intro q; injection q; omega)]; exact k2
  have rH : Hid (∀ W, W = w3 → (Builtin.append_ #[66, 66] 66 #[.slice none 0 0, .slice a st.length c]).run Tryz.prog W = .ok (.slice a1 st.length c1) w4) := fun W e => by subst e; exact hr
  subst hw3
  have ga := g2 0
  have gb := g2 1
  have gc := g2 2
  have gd := g1 0
  have ge := g1 1
  have gf := g1 2
  clear hs hr ho hg hv b4 ht b3 s3 f3 x1 x2 x3 y1 y2 y3 lt1 lt2 B4 fr g1 g2
  generalize st.length = n at *
  go_enter Tryz.func14, Tryz.ntmps14
  go_wp2_with (at_builtin; refine wpList_append_runB (by rfl) _ _ _ (by rfl) _ _ _ _ (by rfl) (by rfl) (rH.out _ (by first | rfl | simp)) ?_)
  simp [bodyPost, results, Tryz.results14, go_sem, p0, p1, p2, q0, q1, q2]
  exact fin.out _ _ _ _
end Go.Proofs.YtpbcbpiolhjlhaaGreatDoor


namespace Go.Proofs.YtpbcbpiolhjlhaaGreatDoor
open Go.RowKit _root_.Go.Proofs.YtpbcbpiolhjlhaaGreatDoor.So
set_option linter.unusedVariables false
set_option linter.unusedSimpArgs false
theorem OW2.slice {w : World} {B : Nat} {v : Value} {L : List WrA} (h : OW2 w B v L) : ∃ a cap, v = .slice a L.length cap ∧ L.length ≤ cap ∧ WIn w a (L.map (·.1)) := by
  obtain ⟨a, cap, e, hw⟩ := h.1.win
  refine ⟨a, cap, e, ?_, hw⟩
  rcases h.1.1.2 with ⟨e1, e2⟩ | ⟨g, cap', cur, e1, _, _, hc, _⟩
  · rw [e2]; exact Nat.zero_le _
  · rw [e] at e1
    injection e1 with _ _ e3
    omega
theorem WIn.cut {w : World} {b off n : Nat} {l : List WrP} (h : WIn w (some ⟨b, off, none⟩) l) (k : Nat) : WIn w (some ⟨b, off, none⟩) (l.take k) ∧ WIn w (some ⟨b, off + k * 6, none⟩) (l.drop k) := by
  rcases h with h | ⟨b', off', e, hb, hc⟩
  · subst h; exact ⟨Or.inl (by simp), Or.inl (by simp)⟩
  · injection e with e
    injection e with e1 e2
    subst e1 e2
    refine ⟨Or.inr ⟨b, off, rfl, hb, fun i x hx => hc i x ?_⟩, Or.inr ⟨b, off + k * 6, rfl, hb, fun i x hx => ?_⟩⟩
    · rw [List.getElem?_take] at hx
      split at hx
      · exact hx
      · cases hx
    · rw [List.getElem?_drop] at hx
      obtain ⟨ta, tc, h1, h2⟩ := hc (k + i) x hx
      rw [show off + (k + i) * 6 = off + k * 6 + i * 6 by omega] at h1
      exact ⟨ta, tc, h1, h2⟩
end Go.Proofs.YtpbcbpiolhjlhaaGreatDoor


namespace Go.Proofs.YtpbcbpiolhjlhaaGreatDoor
open Go.RowKit _root_.Go.Proofs.YtpbcbpiolhjlhaaGreatDoor.So
set_option linter.unusedVariables false
set_option linter.unusedSimpArgs false
end Go.Proofs.YtpbcbpiolhjlhaaGreatDoor


namespace Go.Proofs.YtpbcbpiolhjlhaaGreatDoor
open Go.RowKit _root_.Go.Proofs.YtpbcbpiolhjlhaaGreatDoor.So
set_option linter.unusedVariables false
set_option linter.unusedSimpArgs false
end Go.Proofs.YtpbcbpiolhjlhaaGreatDoor


namespace Go.Proofs.YtpbcbpiolhjlhaaGreatDoor
open Go.RowKit _root_.Go.Proofs.YtpbcbpiolhjlhaaGreatDoor.So
set_option linter.unusedVariables false
set_option linter.unusedSimpArgs false
end Go.Proofs.YtpbcbpiolhjlhaaGreatDoor


namespace Go.Proofs.YtpbcbpiolhjlhaaGreatDoor
open Go.RowKit _root_.Go.Proofs.YtpbcbpiolhjlhaaGreatDoor.So
set_option linter.unusedVariables false
set_option linter.unusedSimpArgs false
theorem odD_sw (l : List WrP) : SW (odD l) := (odD_ok _ l (Nat.le_refl _)).1
end Go.Proofs.YtpbcbpiolhjlhaaGreatDoor


namespace Go.Proofs.YtpbcbpiolhjlhaaGreatDoor
open Go.RowKit _root_.Go.Proofs.YtpbcbpiolhjlhaaGreatDoor.So
set_option linter.unusedVariables false
set_option linter.unusedSimpArgs false
/-- the point to which a sample belongs. -/
def pkO (x : WrP) : SerP × Int := (⟨x.s.m, x.s.t, ⟨#[]⟩⟩, x.tm)
def enO (x : WrP) : (SerP × Int) × ByteArray × Int := (pkO x, x.s.f, x.n)
/-- the numbers among samples. -/
def intW (l : List WrP) : List WrP := l.filter fun x => decide (x.kd = 0)
/-- samples by their points, then by their fields. -/
def lessP (x y : WrP) : Prop := kC (pkO x) (pkO y) < 0 ∨ (kC (pkO x) (pkO y) = 0 ∧ strC x.s.f y.s.f < 0)
theorem lessP_key {x y : WrP} (h : lessP x y) (e : pkO x = pkO y) : strC x.s.f y.s.f < 0 := by
  rcases h with h | h
  · rw [(kC_is.zero _ _).2 e] at h; omega
  · exact h.2
theorem sw_key {x y : WrP} (h : wC x y < 0) (e : pkO x = pkO y) : strC x.s.f y.s.f < 0 := by
  unfold pkO at e
  injection e with e1 e2
  injection e1 with em et _
  unfold wC kC wK pairC at h
  simp only at h
  have z : tmC x.tm y.tm = 0 := (tmC_is.zero _ _).2 e2
  have z1 : strC x.s.m y.s.m = 0 := (strC_is.zero _ _).2 em
  have z2 : tagsC x.s.t y.s.t = 0 := (tagsC_is.zero _ _).2 et
  split at h
  · omega
  · unfold serC pairC at h
    simp only [z1, z2, if_true] at h
    exact h
theorem en_rows {l : List WrP} (h : SW l) : ((intW l).map enO).Pairwise fun x y => x.1 = y.1 → strC x.2.1 y.2.1 < 0 := by
  refine List.pairwise_map.2 ?_
  have h1 : (intW l).Pairwise fun x y => wC x y < 0 := List.Pairwise.sublist List.filter_sublist h
  exact h1.imp fun h e => sw_key h e
theorem less_rows {S : List WrP} (h : S.Pairwise lessP) : (S.map enO).Pairwise fun x y => x.1 = y.1 → strC x.2.1 y.2.1 < 0 :=
  List.pairwise_map.2 (h.imp fun h e => lessP_key h e)
/-- the points of a row of samples. -/
def grD (l : List WrP) : Gr (SerP × Int) ByteArray := (l.map enO).foldl (fun R e => stepR kC e R) []
theorem grD_same {l S : List WrP} (hl : SW l) (hS : S.Pairwise lessP) (hm : ∀ x, x ∈ S ↔ x ∈ intW l) : grD S = grD (intW l) := by
  unfold grD
  refine points_same kC_is strC_is _ _ (less_rows hS) (en_rows hl) fun e => ?_
  simp only [List.mem_map]
  exact ⟨fun ⟨x, h1, h2⟩ => ⟨x, (hm x).1 h1, h2⟩, fun ⟨x, h1, h2⟩ => ⟨x, (hm x).2 h1, h2⟩⟩
theorem grD_take {l : List WrP} {i : Nat} {x : WrP} (h : l[i]? = some x) : grD (l.take (i + 1)) = stepR kC (enO x) (grD (l.take i)) := by
  unfold grD
  rw [List.take_add_one, h, List.map_append, List.foldl_append]
  rfl
/-- the last point's key, and all others ahead of it. -/
def LastK (R : Gr (SerP × Int) ByteArray) (k : SerP × Int) : Prop := ∃ R0 fs, R = R0 ++ [(k, fs)] ∧ ∀ g ∈ R0, kC g.1 k < 0
theorem LastK.same {R : Gr (SerP × Int) ByteArray} {k : SerP × Int} {R0 : Gr (SerP × Int) ByteArray} {fs : List (ByteArray × Int)} (e : R = R0 ++ [(k, fs)]) (h : ∀ g ∈ R0, kC g.1 k < 0) {x : WrP} (hx : kC k (pkO x) = 0) : stepR kC (enO x) R = R0 ++ [(k, fs ++ [(x.s.f, x.n)])] := by
  have ek : k = pkO x := (kC_is.zero _ _).1 hx
  rw [e, stepR_last (enO x) R0 _ (fun g hg => by rw [ek] at h; exact h g hg)]
  unfold stepR
  rw [if_neg (by show ¬ kC k (pkO x) < 0; omega), if_pos (show kC (k, fs).fst (enO x).fst = 0 from hx)]
  rfl
theorem LastK.new {R : Gr (SerP × Int) ByteArray} {k : SerP × Int} (h : LastK R k) {x : WrP} (hx : kC k (pkO x) < 0) : stepR kC (enO x) R = R ++ [(pkO x, [(x.s.f, x.n)])] := by
  obtain ⟨R0, fs, e, h0⟩ := h
  have all : ∀ g ∈ R, kC g.1 (pkO x) < 0 := fun g hg => by
    rw [e] at hg
    rcases List.mem_append.1 hg with w | w
    · exact kC_is.lt (h0 g w) (by omega)
    · rw [List.mem_singleton.1 w]; exact hx
  have := stepR_last (c := kC) (enO x) R [] all
  rw [List.append_nil] at this
  rw [this]
  rfl
theorem LastK.step {R : Gr (SerP × Int) ByteArray} {k : SerP × Int} (h : LastK R k) {x : WrP} (hx : kC k (pkO x) ≤ 0) : LastK (stepR kC (enO x) R) (pkO x) := by
  by_cases e : kC k (pkO x) = 0
  · obtain ⟨R0, fs, e1, h0⟩ := h
    have ek : k = pkO x := (kC_is.zero _ _).1 e
    rw [LastK.same e1 h0 e]
    rw [ek] at h0
    exact ⟨R0, _, by rw [ek], h0⟩
  · have lt : kC k (pkO x) < 0 := by omega
    have h2 := h
    rw [h.new lt]
    obtain ⟨R0, fs, e1, h0⟩ := h2
    refine ⟨R, _, rfl, fun g hg => ?_⟩
    rw [e1] at hg
    rcases List.mem_append.1 hg with w | w
    · exact kC_is.lt (h0 g w) (by omega)
    · rw [List.mem_singleton.1 w]; exact lt
/-- while a row in order is gone through, the last point is the last sample's. -/
theorem grD_last {S : List WrP} (hS : S.Pairwise lessP) : ∀ (i : Nat) (x : WrP), S[i]? = some x → LastK (grD (S.take (i + 1))) (pkO x)
  | 0, x, h => by
    rw [grD_take h]
    exact ⟨[], [(x.s.f, x.n)], rfl, fun g hg => by cases hg⟩
  | i + 1, x, h => by
    rw [grD_take h]
    have hl := (List.getElem?_eq_some_iff.1 h).1
    obtain ⟨y, hy⟩ : ∃ y, S[i]? = some y := ⟨_, List.getElem?_eq_getElem (by omega)⟩
    refine (grD_last hS i y hy).step ?_
    have h1 := List.pairwise_iff_getElem.1 hS i (i + 1) (by omega) hl (by omega)
    have e1 := (List.getElem?_eq_some_iff.1 hy).2
    have e2 := (List.getElem?_eq_some_iff.1 h).2
    rw [e1, e2] at h1
    rcases h1 with q | q <;> omega
end Go.Proofs.YtpbcbpiolhjlhaaGreatDoor


namespace Go.Proofs.YtpbcbpiolhjlhaaGreatDoor.So.Wr
open Go.RowKit
set_option linter.unusedVariables false
set_option linter.unusedSimpArgs false
/-- a sample without its field's name. -/
def pkW (x : WrP) : WrP := ⟨⟨x.s.m, x.s.t, ⟨#[]⟩⟩, x.tm, x.kd, x.n⟩
set_option maxRecDepth 100000 in
set_option maxHeartbeats 4000000 in
theorem comparePoints_any (x y : WrP) (a b : Option Addr) (c1 c2 : Nat) (w : World) (ha : SerIn w a x.s) (hb : SerIn w b y.s) :
    Calls Tryz.prog 28 #[wV x a c1, wV y b c2] w fun e w' => e = .returned (.int .i64 (kC (pkO x) (pkO y))) ∧ Below w.heap.size w w' := by
  have CH : Hid (∀ W, Below w.heap.size w W → Calls Tryz.prog 20 #[wV (pkW x) a c1, wV (pkW y) b c2] W fun e w' => e = .returned (.int .i64 (kC (pkO x) (pkO y))) ∧ Below W.heap.size W w') := fun W hW => bcompare_any (pkW x) (pkW y) a b c1 c2 W (ha.belowW hW) (hb.belowW hW)
  generalize kC (pkO x) (pkO y) = cv at CH ⊢
  have e1 : (pkW x).s.t.length = x.s.t.length := rfl
  have e2 : (pkW y).s.t.length = y.s.t.length := rfl
  unfold wV at CH ⊢
  rw [e1, e2] at CH
  unfold pkW at CH
  simp only at CH
  generalize x.s.t.length = nx at CH ⊢
  generalize y.s.t.length = ny at CH ⊢
  clear ha hb e1 e2
  have B1 : Hid (Below w.heap.size w ((w.alloc (.cells #[.string x.s.m, .slice a nx c1, .string ⟨#[]⟩, .int .i64 x.tm, .int .u8 (x.kd : Int), .int .i64 x.n] 76)).alloc (.cells #[.string y.s.m, .slice b ny c2, .string ⟨#[]⟩, .int .i64 y.tm, .int .u8 (y.kd : Int), .int .i64 y.n] 76))) := ((Below.refl _ w).alloc (Nat.le_refl _) _).alloc (by simp) _
  go_enter Tryz.func28, Tryz.ntmps28
  go_wp2_with fail
  refine Calls.mono (CH.out _ B1.out) ?_
  rintro e w' ⟨rfl, BB⟩
  have fin : Hid (Below w.heap.size w w') := B1.out.trans (BB.mono B1.out.size)
  clear BB B1 CH
  go_wp2_with fail
  go_ret
  exact ⟨rfl, fin.out⟩
def lessB (x y : WrP) : Bool := decide (kC (pkO x) (pkO y) < 0) || (decide (kC (pkO x) (pkO y) = 0) && decide (strC x.s.f y.s.f < 0))
theorem lessB_iff (x y : WrP) : lessB x y = true ↔ lessP x y := by unfold lessB lessP; simp
set_option maxRecDepth 100000 in
set_option maxHeartbeats 4000000 in
theorem less_any (x y : WrP) (a b : Option Addr) (c1 c2 : Nat) (w : World) (ha : SerIn w a x.s) (hb : SerIn w b y.s) :
    Calls Tryz.prog 27 #[wV x a c1, wV y b c2] w fun e w' => e = .returned (.bool (lessB x y)) ∧ Below w.heap.size w w' := by
  have CH : Hid (∀ W, Below w.heap.size w W → Calls Tryz.prog 28 #[wV x a c1, wV y b c2] W fun e w' => e = .returned (.int .i64 (kC (pkO x) (pkO y))) ∧ Below W.heap.size W w') := fun W hW => comparePoints_any x y a b c1 c2 W (ha.belowW hW) (hb.belowW hW)
  have RES : Hid (lessB x y = (decide (kC (pkO x) (pkO y) < 0) || (decide (kC (pkO x) (pkO y) = 0) && decide (strC x.s.f y.s.f < 0)))) := rfl
  generalize lessB x y = bv at RES ⊢
  generalize kC (pkO x) (pkO y) = cv at CH RES
  have hs := less_str x.s.f y.s.f
  unfold wV at CH ⊢
  generalize x.s.t.length = nx at CH ⊢
  generalize y.s.t.length = ny at CH ⊢
  generalize hsv : decide (strC x.s.f y.s.f < 0) = sv at RES hs
  clear ha hb hsv
  obtain ⟨W1, hW1⟩ : ∃ W1, W1 = (w.alloc (.cells #[.string x.s.m, .slice a nx c1, .string x.s.f, .int .i64 x.tm, .int .u8 (x.kd : Int), .int .i64 x.n] 76)).alloc (.cells #[.string y.s.m, .slice b ny c2, .string y.s.f, .int .i64 y.tm, .int .u8 (y.kd : Int), .int .i64 y.n] 76) := ⟨_, rfl⟩
  have B1 : Hid (Below w.heap.size w W1) := by rw [hW1]; exact ((Below.refl _ w).alloc (Nat.le_refl _) _).alloc (by simp) _
  have s1 : Hid (w.heap.size + 1 < W1.heap.size) := by show w.heap.size + 1 < W1.heap.size; rw [hW1]; simp
  have k1 : W1.cell? ⟨w.heap.size, 2, none⟩ = some (.string x.s.f) := by rw [hW1]; simp [go_sem]
  have k2 : W1.cell? ⟨w.heap.size + 1, 2, none⟩ = some (.string y.s.f) := by rw [hW1]; simp [go_sem]
  go_enter Tryz.func27, Tryz.ntmps27
  go_wp2_with fail
  rw [← hW1]
  clear hW1
  refine Calls.mono (CH.out _ B1.out) ?_
  rintro e w' ⟨rfl, BB⟩
  have fin : Hid (Below w.heap.size w w') := B1.out.trans (BB.mono (by have := s1.out; omega))
  have m1 : w'.cell? ⟨w.heap.size, 2, none⟩ = some (.string x.s.f) := by rw [BB.cell (p := ⟨w.heap.size, 2, none⟩) (by have := s1.out; show w.heap.size < _; omega)]; exact k1
  have m2 : w'.cell? ⟨w.heap.size + 1, 2, none⟩ = some (.string y.s.f) := by rw [BB.cell (p := ⟨w.heap.size + 1, 2, none⟩) s1.out]; exact k2
  clear BB B1 CH k1 k2 s1
  by_cases h1 : cv < 0
  · have h1d : decide (cv < 0) = true := decide_eq_true h1
    have r : Hid (bv = true) := by have := RES.out; rw [h1d] at this; show bv = true; simpa using this
    clear RES hs
    go_wp2_with fail
    go_ret
    exact ⟨by rw [r.out]; rfl, fin.out⟩
  · have h1d : decide (cv < 0) = false := decide_eq_false h1
    by_cases h2 : cv = 0
    · have r : Hid (bv = sv) := by have := RES.out; rw [h1d, decide_eq_true h2] at this; show bv = sv; simpa using this
      clear RES
      subst h2
      cases sv with
      | true =>
        go_wp2_with fail
        go_ret
        exact ⟨by rw [r.out]; rfl, fin.out⟩
      | false =>
        go_wp2_with fail
        go_ret
        exact ⟨by rw [r.out]; rfl, fin.out⟩
    · have h2b : (cv == 0) = false := by simpa using h2
      have r : Hid (bv = false) := by have := RES.out; rw [h1d, decide_eq_false h2] at this; show bv = false; simpa using this
      clear RES h2 hs
      go_wp2_with fail
      go_ret
      exact ⟨by rw [r.out]; rfl, fin.out⟩
def ahP (X : Nat → WrA) (i j : Nat) : Bool := lessB (X i).1 (X j).1
theorem ahP_any (w : World) (n : Nat) (X : Nat → WrA) (hX : ∀ i, i < n → SerIn w (X i).2.1 (X i).1.s) : AhA w 27 n X (ahP X) := fun a b W ha hb hW => less_any _ _ _ _ _ _ W ((hX a ha).belowW hW) ((hX b hb).belowW hW)
theorem lessP_tr {x y z : WrP} (h1 : lessP x y) (h2 : lessP y z) : lessP x z := by
  unfold lessP at *
  rcases h1 with a | ⟨a, a'⟩ <;> rcases h2 with b | ⟨b, b'⟩
  · exact Or.inl (kC_is.lt a (by omega))
  · exact Or.inl (kC_is.lt a (by omega))
  · exact Or.inl (kC_is.lt2 (by omega) b)
  · refine Or.inr ⟨?_, strC_is.lt a' (by omega)⟩
    exact (kC_is.zero _ _).2 (((kC_is.zero _ _).1 a).trans ((kC_is.zero _ _).1 b))
theorem lessP_irr (x : WrP) : ¬ lessP x x := by
  unfold lessP
  rintro (h | ⟨_, h⟩)
  · rw [kC_is.self] at h; omega
  · rw [strC_is.self] at h; omega
theorem lessP_tot {x y : WrP} (h : wC x y ≠ 0) : lessP x y ∨ lessP y x := by
  unfold lessP
  have f1 := kC_is.flip (pkO x) (pkO y)
  have f2 := strC_is.flip x.s.f y.s.f
  by_cases e : kC (pkO x) (pkO y) = 0
  · by_cases e2 : strC x.s.f y.s.f = 0
    · exfalso
      apply h
      have q := (kC_is.zero _ _).1 e
      unfold pkO at q
      injection q with q1 q2
      injection q1 with qm qt _
      have qf := (strC_is.zero _ _).1 e2
      refine (kC_is.zero _ _).2 ?_
      unfold wK
      obtain ⟨⟨xm, xt, xf⟩, xtm, xk, xn⟩ := x
      obtain ⟨⟨ym, yt, yf⟩, ytm, yk, yn⟩ := y
      simp only at qm qt qf q2
      subst qm qt qf q2
      rfl
    · omega
  · omega
/-- samples in order: no two of one series and time. -/
theorem ahP_ao (n : Nat) (X : Nat → WrA) (h : ∀ i j, i < n → j < n → i ≠ j → wC (X i).1 (X j).1 ≠ 0) : AO (ahP X) n where
  irr := fun i _ => by
    cases q : ahP X i i with
    | false => rfl
    | true => exact absurd ((lessB_iff _ _).1 q) (lessP_irr _)
  tr := fun i j k h1 h2 => (lessB_iff _ _).2 (lessP_tr ((lessB_iff _ _).1 h1) ((lessB_iff _ _).1 h2))
  tot := fun i j hi hj hne => by
    rcases lessP_tot (h i j hi hj hne) with q | q
    · exact Or.inl ((lessB_iff _ _).2 q)
    · exact Or.inr ((lessB_iff _ _).2 q)
end Go.Proofs.YtpbcbpiolhjlhaaGreatDoor.So.Wr


namespace Go.Proofs.YtpbcbpiolhjlhaaGreatDoor.De
open Go.RowKit _root_.Go.Proofs.YtpbcbpiolhjlhaaGreatDoor.So
set_option linter.unusedVariables false
set_option linter.unusedSimpArgs false
/-- the tags of a write. -/
def tV (t : WrA) : Value := .slice t.2.1 t.1.s.t.length t.2.2
theorem OT.keep {w w' : World} {B : Nat} {v : Value} {l : List TagP} (h : OT w B v l) (k : ∀ q, v.ownBlock = some q → w'.heap[q]? = w.heap[q]?) : OT w' B v l := by
  refine ⟨h.1, ?_⟩
  rcases h.2 with h2 | ⟨g, cap, cur, e1, e2, e3, e4⟩
  · exact Or.inl h2
  · exact Or.inr ⟨g, cap, cur, e1, e2, by rw [k g (by rw [e1]; rfl)]; exact e3, e4⟩
theorem OT.mono {w : World} {B B' : Nat} {v : Value} {l : List TagP} (h : OT w B v l) (hB : B' ≤ B) : OT w B' v l := by
  refine ⟨h.1, ?_⟩
  rcases h.2 with h2 | ⟨g, cap, cur, e1, e2, e3⟩
  · exact Or.inl h2
  · exact Or.inr ⟨g, cap, cur, e1, Nat.le_trans hB e2, e3⟩
/-- a row of writes, each one's tags in a block of their own. -/
structure DW (w : World) (B : Nat) (v : Value) (L : List WrA) : Prop where
  row : w.ownsRow B 76 6 v L.length (encW L)
  tg : ∀ t ∈ L, OT w B (tV t) t.1.s.t
  ln : ∀ t ∈ L, t.1.s.t.length ≤ 9223372036854775807
  dv : ∀ t ∈ L, ∀ q, (tV t).ownBlock = some q → v.ownBlock ≠ some q
  pw : L.Pairwise fun t u => ∀ q, (tV t).ownBlock = some q → (tV u).ownBlock ≠ some q
theorem DW.nil (w : World) (B : Nat) : DW w B (.slice none 0 0) [] := ⟨⟨rfl, Or.inl ⟨rfl, rfl⟩⟩, (fun t h => by cases h), (fun t h => by cases h), (fun t h => by cases h), List.Pairwise.nil⟩
theorem DW.below {w w' : World} {B : Nat} {v : Value} {L : List WrA} (h : DW w B v L) (hb : Below w.heap.size w w') : DW w' B v L := by
  refine ⟨⟨h.row.1, ?_⟩, fun t ht => (h.tg t ht).below hb (Nat.le_refl _), h.ln, h.dv, h.pw⟩
  rcases h.row.2 with h2 | ⟨g, cap, cur, e1, e2, e3, e4⟩
  · exact Or.inl h2
  · exact Or.inr ⟨g, cap, cur, e1, e2, by rw [hb.block g (Array.getElem?_eq_some_iff.1 e3).1]; exact e3, e4⟩
theorem DW.mono {w : World} {B B' : Nat} {v : Value} {L : List WrA} (h : DW w B v L) (hB : B' ≤ B) : DW w B' v L := by
  refine ⟨⟨h.row.1, ?_⟩, fun t ht => OT.mono (h.tg t ht) hB, h.ln, h.dv, h.pw⟩
  rcases h.row.2 with h2 | ⟨g, cap, cur, e1, e2, e3⟩
  · exact Or.inl h2
  · exact Or.inr ⟨g, cap, cur, e1, Nat.le_trans hB e2, e3⟩
theorem DW.ser {w : World} {B : Nat} {v : Value} {L : List WrA} (h : DW w B v L) {t : WrA} (ht : t ∈ L) : SerIn w t.2.1 t.1.s := by
  obtain ⟨a, cap, e, _, ti⟩ := (h.tg t ht).tin
  injection e with e1 _ _
  rw [e1]
  exact ⟨ti, h.ln t ht⟩
theorem DW.ow {w : World} {B : Nat} {v : Value} {L : List WrA} (h : DW w B v L) : OW w B v L := ⟨h.row, fun t ht => h.ser ht⟩
theorem DW.ow2 {w : World} {B : Nat} {v : Value} {L : List WrA} (h : DW w B v L) : _root_.Go.Proofs.YtpbcbpiolhjlhaaGreatDoor.OW2 w B v L := ⟨h.ow, fun t ht _ ad e => fun c => h.dv t ht ad.block (by unfold tV; rw [e]; rfl) c⟩
theorem appD (W : World) (B : Nat) (v : Value) (L : List WrA) (h : DW W B v L) (hB : B ≤ W.heap.size) (t : WrA) (ht : OT W B (tV t) t.1.s.t) (hln : t.1.s.t.length ≤ 9223372036854775807) (hfr : ∀ q, (tV t).ownBlock = some q → v.ownBlock ≠ some q ∧ ∀ u ∈ L, (tV u).ownBlock ≠ some q) (hn : L.length + 1 ≤ 1099511627776) :
    ∃ a c w', (Builtin.append_ #[23, 23] 23 #[v, .slice (some ⟨W.heap.size, 0, none⟩) 1 1]).run Tryz.prog (W.alloc (.cells #[.string t.1.s.m, .slice t.2.1 t.1.s.t.length t.2.2, .string t.1.s.f, .int .i64 t.1.tm, .int .u8 (t.1.kd : Int), .int .i64 t.1.n] 76)) = .ok (.slice a (L.length + 1) c) w' ∧ DW w' B (.slice a (L.length + 1) c) (L ++ [t]) ∧ Below B W w' := by
  have b1 : Below W.heap.size W (W.alloc (.cells #[.string t.1.s.m, .slice t.2.1 t.1.s.t.length t.2.2, .string t.1.s.f, .int .i64 t.1.tm, .int .u8 (t.1.kd : Int), .int .i64 t.1.n] 76)) := (Below.refl _ W).alloc (Nat.le_refl _) _
  have ho2 := (h.below b1).row
  obtain ⟨i, i1, i0⟩ := Option.map_eq_some_iff.1 wr_info
  have i2 : i.zero = some (.agg #[.string ⟨#[]⟩, .slice none 0 0, .string ⟨#[]⟩, .int .i64 0, .int .u8 0, .int .i64 0]) := congrArg (·.1) i0
  have i3 : i.bytes = 80 := congrArg (·.2.1) i0
  have i4 : i.size = 6 := congrArg (·.2.2) i0
  have hml : maxLen = 9223372036854775807 := by decide
  have hB2 := Nat.le_trans hB b1.size
  obtain ⟨g, cap, w', hr, own, gr, hat, hlt⟩ := run_append_lies (P := Tryz.prog) _ 23 23 B 76 i (.agg #[.string ⟨#[]⟩, .slice none 0 0, .string ⟨#[]⟩, .int .i64 0, .int .u8 0, .int .i64 0]) 6 80 Tryz.underlying23 i1 i2 i4 i3 rfl (by omega) v L.length (encW L) ho2 ⟨W.heap.size, 0, none⟩ 1 1 (encW [t]) rfl (fun j u hj => by
    rcases j with _ | _ | _ | _ | _ | _ | j <;> simp [encW] at hj <;> (try (subst hj; simp [go_sem]))) (encW_one _) (by omega) (by omega) (by omega) hB2 _ rfl
  have gW : W.grownBy w' v.ownBlock := ⟨gr.os, gr.tape, gr.output, Nat.le_trans b1.size gr.size, fun k hk hne => by rw [gr.block k (Nat.lt_of_lt_of_le hk b1.size) hne]; exact b1.block k hk⟩
  have all : ∀ u ∈ L ++ [t], OT W B (tV u) u.1.s.t ∧ u.1.s.t.length ≤ 9223372036854775807 ∧ ∀ q, (tV u).ownBlock = some q → v.ownBlock ≠ some q := fun u hu => by
    rcases List.mem_append.1 hu with q | q
    · exact ⟨h.tg u q, h.ln u q, h.dv u q⟩
    · rw [List.mem_singleton.1 q]; exact ⟨ht, hln, fun q e => (hfr q e).1⟩
  have ng : ∀ u ∈ L ++ [t], ∀ q, (tV u).ownBlock = some q → g ≠ q := fun u hu q e c => by
    subst c
    rcases hat with e2 | e2
    · exact (all u hu).2.2 _ e e2
    · have h1 := ((all u hu).1.bound e).2
      have h2 : (W.alloc (.cells #[.string t.1.s.m, .slice t.2.1 t.1.s.t.length t.2.2, .string t.1.s.f, .int .i64 t.1.tm, .int .u8 (t.1.kd : Int), .int .i64 t.1.n] 76)).heap.size = W.heap.size + 1 := by simp
      omega
  refine ⟨some ⟨g, 0, none⟩, cap, w', hr, ⟨by rw [List.length_append, List.length_singleton, encW_append]; exact own, fun u hu => OT.keep (all u hu).1 (fun q e => gW.block q ((all u hu).1.bound e).2 (fun c => (all u hu).2.2 q e c.symm)), fun u hu => (all u hu).2.1, fun u hu q e c => ng u hu q e (by simpa [Value.ownBlock] using c), ?_⟩, (b1.mono hB).trans ((Below.refl B _).grown gr hB2 (fun k e => (World.ownsRow.lt ho2 k e).1))⟩
  rw [List.pairwise_append]
  refine ⟨h.pw, List.pairwise_singleton _ _, fun u hu y hy q e c => ?_⟩
  rw [List.mem_singleton.1 hy] at c
  exact (hfr q c).2 u hu e
theorem cloneO_any (a : Option Addr) (c : Nat) (l : List TagP) (w : World) (h : TgIn w a l) (hn : l.length ≤ 4398046511104) :
    Calls Tryz.prog 21 #[.slice a l.length c] w fun e w' => ∃ a' c', e = .returned (.slice a' l.length c') ∧ OT w' w.heap.size (.slice a' l.length c') l ∧ Below w.heap.size w w' := by
  cases a with
  | none =>
    obtain rfl : l = [] := by
      rcases h with e | ⟨b, off, e, _⟩
      · exact e
      · cases e
    exact (cloneT_nil c w).mono fun e w' hh => ⟨none, 0, hh.1, OT.nil _ _, by rw [hh.2]; exact Below.refl _ _⟩
  | some ad =>
    refine (cloneT_any ad c l w h hn).mono fun e w' hh => ?_
    obtain ⟨g, cap, h1, h2, h3, h4, h5⟩ := hh
    exact ⟨some ⟨g, 0, none⟩, cap, h1, h4, h5⟩
structure OD1 (w3 : World) (l : List WrP) (out : List Nat) (k : Nat) (v : Value) (L : List WrA) (wr : World) : Prop where
  row : DW wr w3.heap.size v L
  is : L.map (·.1) = ordL l out k
  bl : Below w3.heap.size w3 wr
theorem OD1.below {w3 : World} {l : List WrP} {out : List Nat} {k : Nat} {v : Value} {L : List WrA} {wr wx : World} (s : OD1 w3 l out k v L wr) (hB : Below wr.heap.size wr wx) : OD1 w3 l out k v L wx := ⟨s.row.below hB, s.is, s.bl.trans (hB.mono s.bl.size)⟩
end Go.Proofs.YtpbcbpiolhjlhaaGreatDoor.De
