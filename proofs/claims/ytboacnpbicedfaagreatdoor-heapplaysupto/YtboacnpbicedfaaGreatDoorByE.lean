
import Derived.Test.YtboacnpbicedfaaGreatDoorByB
import Derived.Test.YtboacnpbicedfaaGreatDoorByQ
import Derived.Shelf.SlSortCmp.QuietGrown
import Derived.Test.YtboacnpbicedfaaGreatDoorHpLq
import Derived.BigQuiet
namespace Go.Proofs.YtboacnpbicedfaaGreatDoor.Hp
open Go.RowKit Go.Maps
set_option linter.unusedVariables false
set_option linter.unusedSimpArgs false
set_option maxRecDepth 100000
/-- behind draws and new blocks only. -/
def GR (W w' : World) : Prop := ∃ q os, w' = Sort.grow (W.drewN q) os
theorem GR.refl (W : World) : GR W W := ⟨0, #[], by rw [Sort.grow_empty]; rfl⟩
theorem GR.trans {W w1 w2 : World} (h : GR W w1) (k : GR w1 w2) : GR W w2 := by
  obtain ⟨q, os, rfl⟩ := h
  obtain ⟨p, os', rfl⟩ := k
  exact ⟨q + p, os ++ os', by show Sort.grow (Sort.grow ((W.drewN q).drewN p) os) os' = _; rw [Sort.grow_grow, World.drewN_drewN]⟩
theorem GR.alloc {W w1 : World} (h : GR W w1) (o : Obj) : GR W (w1.alloc o) := h.trans ⟨0, #[o], by rw [Sort.alloc_eq_grow]; rfl⟩
theorem GR.below {W w' : World} (h : GR W w') : Below W.heap.size W w' := by
  obtain ⟨q, os, rfl⟩ := h
  refine ⟨rfl, rfl, rfl, by simp [Sort.grow, World.drewN], fun k hk => ?_⟩
  show (W.heap ++ os)[k]? = W.heap[k]?
  rw [Array.getElem?_append_left hk]
def FnG (fn : Nat) (ah : Ent → Ent → Bool) : Prop := ∀ (a b : Ent) (W : World), Calls Tryz.prog fn #[eV a, eV b] W fun e w' => e = .returned (.bool (ah a b)) ∧ GR W w'
set_option maxRecDepth 100000 in
set_option maxHeartbeats 4000000 in
theorem lower_gr : FnG 15 (ahd false) := by
  intro a b W
  have RES : Hid (ahd false a b = if a.1 = b.1 then decide (strC a.2 b.2 < 0) else decide (a.1 < b.1)) := rfl
  generalize ahd false a b = bv at RES ⊢
  have hs := less_str a.2 b.2
  generalize hsv : decide (strC a.2 b.2 < 0) = sv at RES hs
  unfold eV
  have fin : Hid (GR W ((W.alloc (.cells #[.int .i64 a.1, .string a.2] 30)).alloc (.cells #[.int .i64 b.1, .string b.2] 30))) := ((GR.refl W).alloc _).alloc _
  clear hsv
  by_cases h : a.1 = b.1
  · have r : Hid (bv = sv) := by have := RES.out; rw [if_pos h] at this; exact this
    have hb : (a.1 == b.1) = true := by simpa using h
    clear RES
    rw [h] at fin ⊢
    clear h hb
    cases sv with
    | true =>
      go_enter Tryz.func15, Tryz.ntmps15
      go_wp2_with fail
      go_ret
      exact ⟨by rw [r.out]; rfl, fin.out⟩
    | false =>
      go_enter Tryz.func15, Tryz.ntmps15
      go_wp2_with fail
      go_ret
      exact ⟨by rw [r.out]; rfl, fin.out⟩
  · have r : Hid (bv = decide (a.1 < b.1)) := by have := RES.out; rw [if_neg h] at this; exact this
    have hb : (a.1 == b.1) = false := by simpa using h
    clear RES hs
    by_cases h2 : a.1 < b.1
    · have r2 : Hid (bv = true) := by have := r.out; rw [decide_eq_true h2] at this; exact this
      clear r h
      go_enter Tryz.func15, Tryz.ntmps15
      go_wp2_with fail
      go_ret
      exact ⟨by rw [r2.out]; rfl, fin.out⟩
    · have r2 : Hid (bv = false) := by have := r.out; rw [decide_eq_false h2] at this; exact this
      clear r h
      go_enter Tryz.func15, Tryz.ntmps15
      go_wp2_with fail
      go_ret
      exact ⟨by rw [r2.out]; rfl, fin.out⟩
set_option maxRecDepth 100000 in
theorem greater_gr : FnG 16 (ahd true) := by
  intro a b W
  have CH : Hid (∀ W, Calls Tryz.prog 15 #[eV b, eV a] W fun e w' => e = .returned (.bool (ahd true a b)) ∧ GR W w') := fun W => lower_gr b a W
  generalize ahd true a b = bv at CH ⊢
  unfold eV at CH ⊢
  have fin : Hid (GR W ((W.alloc (.cells #[.int .i64 a.1, .string a.2] 30)).alloc (.cells #[.int .i64 b.1, .string b.2] 30))) := ((GR.refl W).alloc _).alloc _
  go_enter Tryz.func16, Tryz.ntmps16
  go_wp2_with fail
  refine Calls.mono (CH.out _) ?_
  rintro e w' ⟨rfl, BB⟩
  have fin2 : Hid (GR W w') := by
    first
      | exact BB
      | exact fin.out.trans BB
  clear BB CH
  go_wp2_with fail
  go_ret
  exact ⟨rfl, fin2.out⟩
/-- what the closure of Sorted tells. -/
def cfE (most : Bool) (x y : Ent) : Int := if ahd most x y then -1 else if ahd most y x then 1 else 0
set_option maxRecDepth 100000 in
set_option maxHeartbeats 8000000 in
theorem sorted1_any (most : Bool) (x y : Ent) (hb hp : Nat) (W : World) (h1 : W.cell? ⟨hb, 0, none⟩ = some (.pointer (some ⟨hp, 0, none⟩))) (h2 : W.cell? ⟨hp, 2, none⟩ = some (.func (.func (fnM most)) #[] #[])) (l1 : hb < W.heap.size) (l2 : hp < W.heap.size) :
    Calls Tryz.prog 66 #[eV x, eV y, .pointer (some ⟨hb, 0, none⟩)] W fun e w' => e = .returned (.int .i64 (cfE most x y)) ∧ GR W w' := by
  have CA : Hid (∀ W, Calls Tryz.prog (fnM most) #[eV x, eV y] W fun e w' => e = .returned (.bool (ahd most x y)) ∧ ∃ q os', w' = Sort.grow (W.drewN q) os') := fun W => by
    cases most with
    | true => exact greater_gr _ _ W
    | false => exact lower_gr _ _ W
  have CB : Hid (∀ W, Calls Tryz.prog (fnM most) #[eV y, eV x] W fun e w' => e = .returned (.bool (ahd most y x)) ∧ ∃ q os', w' = Sort.grow (W.drewN q) os') := fun W => by
    cases most with
    | true => exact greater_gr _ _ W
    | false => exact lower_gr _ _ W
  have RES : Hid (cfE most x y = if ahd most x y then -1 else if ahd most y x then 1 else 0) := rfl
  generalize cfE most x y = r at RES ⊢
  generalize ahd most x y = b1 at CA RES
  generalize ahd most y x = b2 at CB RES
  unfold eV at CA CB ⊢
  obtain ⟨W2, hW2⟩ : ∃ W2, W2 = (W.alloc (.cells #[.int .i64 x.1, .string x.2] 30)).alloc (.cells #[.int .i64 y.1, .string y.2] 30) := ⟨_, rfl⟩
  have s2 : W2.heap.size = W.heap.size + 2 := by rw [hW2]; simp
  have g2 : Hid (GR W W2) := by rw [hW2]; exact ((GR.refl W).alloc _).alloc _
  have c0 : W2.cell? ⟨hb, 0, none⟩ = some (.pointer (some ⟨hp, 0, none⟩)) := by rw [g2.out.below.cell (p := ⟨hb, 0, none⟩) l1]; exact h1
  have c2 : W2.cell? ⟨hp, 2, none⟩ = some (.func (.func (fnM most)) #[] #[]) := by rw [g2.out.below.cell (p := ⟨hp, 2, none⟩) l2]; exact h2
  have x0 : W2.cell? ⟨W.heap.size, 0, none⟩ = some (.int .i64 x.1) := by rw [hW2]; simp [go_sem]
  have x1 : W2.cell? ⟨W.heap.size, 1, none⟩ = some (.string x.2) := by rw [hW2]; simp [go_sem]
  have y0 : W2.cell? ⟨W.heap.size + 1, 0, none⟩ = some (.int .i64 y.1) := by rw [hW2]; simp [go_sem]
  have y1 : W2.cell? ⟨W.heap.size + 1, 1, none⟩ = some (.string y.2) := by rw [hW2]; simp [go_sem]
  have facts : ∀ V, GR W2 V → (∀ n os, (Sort.grow (V.drewN n) os).cell? ⟨hb, 0, none⟩ = some (.pointer (some ⟨hp, 0, none⟩))) ∧ (∀ n os, (Sort.grow (V.drewN n) os).cell? ⟨hp, 2, none⟩ = some (.func (.func (fnM most)) #[] #[])) ∧ (∀ n os, (Sort.grow (V.drewN n) os).cell? ⟨W.heap.size, 0, none⟩ = some (.int .i64 x.1)) ∧ (∀ n os, (Sort.grow (V.drewN n) os).cell? ⟨W.heap.size, 1, none⟩ = some (.string x.2)) ∧ (∀ n os, (Sort.grow (V.drewN n) os).cell? ⟨W.heap.size + 1, 0, none⟩ = some (.int .i64 y.1)) ∧ (∀ n os, (Sort.grow (V.drewN n) os).cell? ⟨W.heap.size + 1, 1, none⟩ = some (.string y.2)) := fun V hV => by
    have hB : ∀ n os, Below W2.heap.size W2 (Sort.grow (V.drewN n) os) := fun n os => (hV.trans ⟨n, os, rfl⟩).below
    refine ⟨fun n os => ?_, fun n os => ?_, fun n os => ?_, fun n os => ?_, fun n os => ?_, fun n os => ?_⟩
    · rw [(hB n os).cell (p := ⟨hb, 0, none⟩) (by show hb < _; omega)]; exact c0
    · rw [(hB n os).cell (p := ⟨hp, 2, none⟩) (by show hp < _; omega)]; exact c2
    · rw [(hB n os).cell (p := ⟨W.heap.size, 0, none⟩) (by show W.heap.size < _; omega)]; exact x0
    · rw [(hB n os).cell (p := ⟨W.heap.size, 1, none⟩) (by show W.heap.size < _; omega)]; exact x1
    · rw [(hB n os).cell (p := ⟨W.heap.size + 1, 0, none⟩) (by show W.heap.size + 1 < _; omega)]; exact y0
    · rw [(hB n os).cell (p := ⟨W.heap.size + 1, 1, none⟩) (by show W.heap.size + 1 < _; omega)]; exact y1
  have factsH : Hid _ := facts
  have hW2H : Hid ((W.alloc (.cells #[.int .i64 x.1, .string x.2] 30)).alloc (.cells #[.int .i64 y.1, .string y.2] 30) = W2) := hW2.symm
  clear facts hW2 c0 c2 x0 x1 y0 y1 s2 h1 h2
  cases most with
  | true =>
    unfold fnM at CA CB factsH
    simp only [if_true] at CA CB factsH
    go_enter Tryz.func66, Tryz.ntmps66
    go_wp2_with fail
    rw [hW2H.out]
    have mixed : Tryz.prog.follows .mixedOrders = true := by kernel_rfl
    have eg : ∀ args w, (callFunc 16 args).run Tryz.prog w = .ok (.enter 16 args) w := enters_of Tryz.func16 (by kernel_rfl) rfl
    obtain ⟨k1, k2, k3, k4, k5, k6⟩ := factsH.out W2 (GR.refl W2)
    go_quiet_grown (first | (go_at_fn 16; refine Calls.grown_of (CA.out _)))
    clear k1 k2 k3 k4 k5 k6
    have g3 : Hid (GR W2 (Sort.grow (W2.drewN nq) osq)) := ⟨nq, osq, rfl⟩
    generalize Sort.grow (W2.drewN nq) osq = W3 at *
    cases b1 with
    | true =>
      go_wp2_with fail
      go_ret
      exact ⟨by rw [RES.out]; rfl, g2.out.trans g3.out⟩
    | false =>
      go_wp2_with fail
      obtain ⟨k1, k2, k3, k4, k5, k6⟩ := factsH.out W3 g3.out
      go_quiet_grown (first | (go_at_fn 16; refine Calls.grown_of (CB.out _)))
      clear k1 k2 k3 k4 k5 k6
      have g4 : Hid (GR W2 (Sort.grow (W3.drewN nq) osq)) := g3.out.trans ⟨nq, osq, rfl⟩
      generalize Sort.grow (W3.drewN nq) osq = W4 at *
      cases b2 with
      | true =>
        go_wp2_with fail
        go_ret
        exact ⟨by rw [RES.out]; rfl, g2.out.trans g4.out⟩
      | false =>
        go_wp2_with fail
        go_ret
        exact ⟨by rw [RES.out]; rfl, g2.out.trans g4.out⟩
  | false =>
    unfold fnM at CA CB factsH
    simp only [if_false, Bool.false_eq_true] at CA CB factsH
    go_enter Tryz.func66, Tryz.ntmps66
    go_wp2_with fail
    rw [hW2H.out]
    have mixed : Tryz.prog.follows .mixedOrders = true := by kernel_rfl
    have eg : ∀ args w, (callFunc 15 args).run Tryz.prog w = .ok (.enter 15 args) w := enters_of Tryz.func15 (by kernel_rfl) rfl
    obtain ⟨k1, k2, k3, k4, k5, k6⟩ := factsH.out W2 (GR.refl W2)
    go_quiet_grown (first | (go_at_fn 15; refine Calls.grown_of (CA.out _)))
    clear k1 k2 k3 k4 k5 k6
    have g3 : Hid (GR W2 (Sort.grow (W2.drewN nq) osq)) := ⟨nq, osq, rfl⟩
    generalize Sort.grow (W2.drewN nq) osq = W3 at *
    cases b1 with
    | true =>
      go_wp2_with fail
      go_ret
      exact ⟨by rw [RES.out]; rfl, g2.out.trans g3.out⟩
    | false =>
      go_wp2_with fail
      obtain ⟨k1, k2, k3, k4, k5, k6⟩ := factsH.out W3 g3.out
      go_quiet_grown (first | (go_at_fn 15; refine Calls.grown_of (CB.out _)))
      clear k1 k2 k3 k4 k5 k6
      have g4 : Hid (GR W2 (Sort.grow (W3.drewN nq) osq)) := g3.out.trans ⟨nq, osq, rfl⟩
      generalize Sort.grow (W3.drewN nq) osq = W4 at *
      cases b2 with
      | true =>
        go_wp2_with fail
        go_ret
        exact ⟨by rw [RES.out]; rfl, g2.out.trans g4.out⟩
      | false =>
        go_wp2_with fail
        go_ret
        exact ⟨by rw [RES.out]; rfl, g2.out.trans g4.out⟩
end Go.Proofs.YtboacnpbicedfaaGreatDoor.Hp

namespace Go.Proofs.YtboacnpbicedfaaGreatDoor.Hp
open Go.RowKit Go.Maps
set_option linter.unusedVariables false
set_option linter.unusedSimpArgs false
set_option maxRecDepth 100000
/-! ### a row of entries of one's own -/
def OE (w : World) (B : Nat) (v : Value) (l : List Ent) : Prop := w.ownsRow B 30 2 v l.length (encE l)
theorem OE.ein {w : World} {B : Nat} {v : Value} {l : List Ent} (h : OE w B v l) : ∃ a cap, v = .slice a l.length cap ∧ l.length ≤ cap ∧ EnIn w a l := by
  rcases h.2 with ⟨e, e0⟩ | ⟨g, cap, cur, e1, _, hg, hc, _⟩
  · exact ⟨none, 0, by rw [e, e0], by omega, Or.inl (List.eq_nil_of_length_eq_zero e0)⟩
  · subst e1
    have hcs := World.ownsRow.cells h (g := g) rfl
    refine ⟨some ⟨g, 0, none⟩, cap, rfl, hc, Or.inr ⟨g, 0, rfl, (World.ownsRow.lt h g rfl).2, fun i s hs => ?_⟩⟩
    obtain ⟨e1, e2⟩ := encE_get l i s hs
    have k1 := hcs _ _ e1
    have k2 := hcs _ _ e2
    rw [add_lt0, Nat.zero_add] at k1 k2
    rw [Nat.zero_add]
    exact ⟨k1, k2⟩
theorem OE.nil (w : World) (B : Nat) : OE w B (.slice none 0 0) [] := ⟨rfl, Or.inl ⟨rfl, rfl⟩⟩
theorem OE.below {w w' : World} {B C : Nat} {v : Value} {l : List Ent} (h : OE w B v l) (hb : Below C w w') (hC : w.heap.size ≤ C) : OE w' B v l := by
  refine ⟨h.1, ?_⟩
  rcases h.2 with h2 | ⟨g, cap, cur, e1, e2, e3, e4⟩
  · exact Or.inl h2
  · exact Or.inr ⟨g, cap, cur, e1, e2, by rw [hb.block g (Nat.lt_of_lt_of_le (Array.getElem?_eq_some_iff.1 e3).1 hC)]; exact e3, e4⟩
theorem OE.bound {w : World} {B : Nat} {v : Value} {l : List Ent} (h : OE w B v l) {k : Nat} (e : v.ownBlock = some k) : B ≤ k ∧ k < w.heap.size := by
  rcases h.2 with ⟨e1, e0⟩ | ⟨g, cap, cur, e1, _, hg, hc, _⟩
  · rw [e1] at e; cases e
  · subst e1
    have : g = k := by simpa [Value.ownBlock] using e
    subst this
    exact World.ownsRow.lt h g rfl
theorem EnIn.news {w : World} {ad : Addr} {l : List Ent} (h : EnIn w (some ad) l) : (∀ j u, (encE l)[j]? = some u → w.cell? (ad.add j) = some u) := by
  rcases h with e | ⟨b, off, e, hb, hc⟩
  · subst e; simp [encE]
  · cases e
    intro j u hj
    have hj2 : j < l.length * 2 := by rw [← encE_len]; exact (List.getElem?_eq_some_iff.1 hj).1
    obtain ⟨s, hs⟩ : ∃ s, l[j / 2]? = some s := ⟨_, List.getElem?_eq_getElem (by omega)⟩
    obtain ⟨e1, e2⟩ := encE_get l _ s hs
    obtain ⟨c1, c2⟩ := hc _ s hs
    rw [add_lt0]
    rcases (by omega : j % 2 = 0 ∨ j % 2 = 1) with q | q
    · rw [show j = j / 2 * 2 by omega] at hj ⊢
      rw [e1] at hj
      rw [c1, ← hj]
    · rw [show j = j / 2 * 2 + 1 by omega] at hj ⊢
      rw [e2] at hj
      rw [← Nat.add_assoc, c2, ← hj]
theorem app_noE (W : World) (a ad : Option Addr) (n cap c : Nat) (h : n ≤ cap) : (Builtin.append_ #[31, 31] 31 #[.slice a n cap, .slice ad 0 c]).run Tryz.prog W = .ok (.slice a n cap) W := by
  obtain ⟨i, i1, i0⟩ := Option.map_eq_some_iff.1 en_info
  cases a <;> cases ad <;> simp [Builtin.append_, run_underlying Tryz.underlying31, sizeOf, typeInfo, i1, Builtin.lenOf, Builtin.firstCells, storeCells, loadCells, loadCellsFrom, h]
/-- entries appended, or none. -/
theorem appE (W : World) (B : Nat) (v : Value) (l f : List Ent) (h : OE W B v l) (hB : B ≤ W.heap.size) (a : Option Addr) (c : Nat) (hf : EnIn W a f) (hn : l.length + f.length ≤ 4398046511104) :
    ∃ v' w', (Builtin.append_ #[31, 31] 31 #[v, .slice a f.length c]).run Tryz.prog W = .ok v' w' ∧ OE w' B v' (l ++ f) ∧ W.grownBy w' v.ownBlock ∧ (v'.ownBlock = v.ownBlock ∨ v'.ownBlock = some W.heap.size) := by
  rcases Nat.eq_zero_or_pos f.length with h0 | h0
  · have e := List.eq_nil_of_length_eq_zero h0
    subst e
    obtain ⟨a1, c1, e1, hc1, _⟩ := h.ein
    exact ⟨v, W, by rw [e1]; exact app_noE _ _ _ _ _ _ hc1, by rw [List.append_nil]; exact h, ⟨rfl, rfl, rfl, Nat.le_refl _, fun k hk hne => rfl⟩, Or.inl rfl⟩
  · have hf' := hf
    rcases hf with e | ⟨b, off, e, hb, hc⟩
    · rw [e] at h0; simp at h0
    · subst e
      obtain ⟨i, i1, i0⟩ := Option.map_eq_some_iff.1 en_info
      have i2 : i.zero = some (.agg #[.int .i64 0, .string ⟨#[]⟩]) := congrArg (·.1) i0
      have i3 : i.bytes = 24 := congrArg (·.2.1) i0
      have i4 : i.size = 2 := congrArg (·.2.2) i0
      have hml : maxLen = 9223372036854775807 := by decide
      obtain ⟨g, cap, w', hr, own, gr, hat, hlt⟩ := run_append_lies (P := Tryz.prog) W 31 31 B 30 i (.agg #[.int .i64 0, .string ⟨#[]⟩]) 2 24 Tryz.underlying31 i1 i2 i4 i3 rfl (by omega) v l.length (encE l) h ⟨b, off, none⟩ f.length c (encE f) (encE_len _) hf'.news (encE_one _) h0 (by omega) (by omega) hB _ rfl
      refine ⟨_, w', hr, ?_, gr, ?_⟩
      · unfold OE; rw [List.length_append, encE_append]; exact own
      · rcases hat with e | e
        · exact Or.inl e.symm
        · subst e; exact Or.inr rfl
theorem grown_belowE {W w' : World} {B : Nat} {v : Value} {l : List Ent} (h : OE W B v l) (hB : B ≤ W.heap.size) (gr : W.grownBy w' v.ownBlock) : Below B W w' := (Below.refl B W).grown gr hB (fun k e => (h.bound e).1)
theorem wpList_append_runE {P : Program} {ops : Array Oper} {rest : List Oper} {o : Oper} {a : Act} {Q : Exit → Act → World → Prop} {w : World} (hgd : o.guard = none) (s x : Operand) (t : TypeId)
    (ho : o.op = .call { callee := .builtin .append, args := #[s, x], argTypes := #[t, t] }) (v y v' : Value) (w' : World) (hs : a.eval s = v) (hx : a.eval x = y) (hr : (Builtin.append_ #[t, t] o.type #[v, y]).run P w = .ok v' w')
    (h : wpList P ops Q rest (a.put o.dst v') w') : wpList P ops Q (o :: rest) a w := by
  refine wpList_plain hgd fun K hK => ?_
  unfold Oper.wp execOp
  simp only [ho, resolve, invoke, builtin, Sem.run_bind, Sem.run_pure, Result.andThen_ok, List.map_toArray, List.map_cons, List.map_nil, hs, hx, hr]
  exact hK _ _ h
set_option maxHeartbeats 4000000 in
/-- slices.Clone of entries: in a block of their own, or nil. -/
theorem cloneE_any (a : Option Addr) (c : Nat) (l : List Ent) (w : World) (h : EnIn w a l) (ha : a = none → l = []) (hn : l.length ≤ 4398046511104) :
    Calls Tryz.prog 17 #[.slice a l.length c] w fun e w' => ∃ v, e = .returned v ∧ OE w' w.heap.size v l ∧ Below w.heap.size w w' := by
  have q29 : ∀ (w : World) (a : Option Addr) (n c n' c' : Nat), (binOp .eql 31 (.slice a n c) (.slice none n' c')).run Tryz.prog w = .ok (.bool a.isNone) w := fun w a n c n' c' => Lib.run_eql_slice_nil w _ _ a n c n' c' Tryz.underlying31
  cases a with
  | none =>
    have e := ha rfl
    subst e
    have fin : Hid (OE w w.heap.size (.slice none 0 0) [] ∧ Below w.heap.size w w) := ⟨OE.nil _ _, Below.refl _ _⟩
    clear h ha hn
    go_enter Tryz.func17, Tryz.ntmps17
    go_wp2_with fail
    go_ret
    exact ⟨_, rfl, fin.out⟩
  | some ad =>
    have hB0 : Below w.heap.size w (w.alloc (.cells #[] 30)) := (Below.refl _ w).alloc (Nat.le_refl _) _
    have own0 : OE (w.alloc (.cells #[] 30)) w.heap.size (.slice (some ⟨w.heap.size, 0, none⟩) 0 0) [] := by
      have := World.ownsRow_made (e := 30) (size := 2) (base := w.heap.size) w #[] 0 (by simp) (by simp [maxLen]) rfl
      simpa [OE, encE] using this
    obtain ⟨v', w', hr, ho, hg, hat⟩ := appE _ w.heap.size _ [] l own0 (by simp) (some ad) c (h.below hB0) (by simp; omega)
    rw [List.nil_append] at ho
    have hb : Below w.heap.size w w' := hB0.trans (grown_belowE own0 (by simp) hg)
    have fin : Hid (OE w' w.heap.size v' l ∧ Below w.heap.size w w') := ⟨ho, hb⟩
    have hrH : Hid (∀ W, W = w.alloc (.cells #[] 30) → (Builtin.append_ #[31, 31] 31 #[.slice (some ⟨w.heap.size, 0, none⟩) 0 0, .slice (some ad) l.length c]).run Tryz.prog W = .ok v' w') := fun W e => by subst e; exact hr
    clear hr ho hg hat hb own0 hB0 h hn ha
    generalize l.length = n at *
    go_enter Tryz.func17, Tryz.ntmps17
    go_wp2_with (at_builtin; refine wpList_append_runE (by rfl) _ _ _ (by rfl) _ _ _ _ (by rfl) (by rfl) (hrH.out _ rfl) ?_)
    go_ret
    exact ⟨_, rfl, fin.out⟩
theorem HS.oe {w : World} {B hp mb : Nat} {most : Bool} {v : Value} {ex : Option ByteArray} {f : ByteArray → Option Nat} {L : List Ent} {mv : Int} (h : HS w B hp mb most v ex f L mv) : OE w B v L := h.row
set_option maxHeartbeats 4000000 in
/-- the entries as they lie. -/
theorem list_any {w : World} {B hp mb : Nat} {most : Bool} {v : Value} {ex : Option ByteArray} {f : ByteArray → Option Nat} {L : List Ent} {mv : Int} (h : HS w B hp mb most v ex f L mv) (hn : L.length ≤ 4398046511104) :
    Calls Tryz.prog 43 #[.pointer (some ⟨hp, 0, none⟩)] w fun e w' => ∃ v, e = .returned v ∧ OE w' w.heap.size v L ∧ Below w.heap.size w w' := by
  obtain ⟨a, cap, e1, _, ei⟩ := h.oe.ein
  have ha : a = none → L = [] := fun q => by
    rcases ei with e | ⟨b, off, e, _⟩
    · exact e
    · rw [q] at e; cases e
  have CC : Hid _ := cloneE_any a cap L w ei ha hn
  subst e1
  have c0 := h.c0
  clear h ei ha hn
  go_enter Tryz.func43, Tryz.ntmps43
  go_wp2_with fail
  refine Calls.mono CC.out ?_
  rintro e w1 ⟨v, rfl, fin⟩
  have finH : Hid _ := fin
  clear fin CC
  go_wp2_with fail
  go_ret
  exact ⟨v, rfl, finH.out⟩
end Go.Proofs.YtboacnpbicedfaaGreatDoor.Hp

namespace Go.Proofs.YtboacnpbicedfaaGreatDoor.Hp
open Go.RowKit Go.Maps
set_option linter.unusedVariables false
set_option linter.unusedSimpArgs false
set_option maxRecDepth 100000
theorem ba_toList {a b : ByteArray} (h : a.toList = b.toList) : a = b := by
  have e : ∀ s : ByteArray, s.toList = s.data.toList := fun s => by first | exact ByteArray.toList_eq s | exact Lib.toList_data s | simp
  rw [e, e] at h
  exact ByteArray.ext (Array.toList_inj.1 h)
set_option maxHeartbeats 4000000 in
/-- the document's order. -/
theorem rahead_gr (most : Bool) (a b : Ent) (W : World) : Calls Tryz.prog 53 #[.bool most, eV a, eV b] W fun e w' => e = .returned (.bool (ahd most a b)) ∧ GR W w' := by
  have fin : Hid (GR W ((W.alloc (.cells #[.int .i64 a.1, .string a.2] 30)).alloc (.cells #[.int .i64 b.1, .string b.2] 30))) := ((GR.refl W).alloc _).alloc _
  have hs := less_str a.2 b.2
  have LE := lowB_eq a b
  have ZR := strC_is.zero a.2 b.2
  have FL := strC_is.flip a.2 b.2
  have LE2 := lowB_eq b a
  unfold eV
  by_cases c1 : a.1 < b.1
  · have r : Hid (ahd most a b = !most) := by
      have e1 : lowB a b = true := LE.2 (Or.inl c1)
      cases most
      · exact e1
      · exact swo_asym lowB_swo e1
    generalize ahd most a b = bv at r ⊢
    clear hs LE ZR FL LE2
    cases most with
    | false =>
      go_enter Tryz.func53, Tryz.ntmps53
      go_wp2_with fail
      go_ret
      exact ⟨by rw [r.out]; rfl, fin.out⟩
    | true =>
      go_enter Tryz.func53, Tryz.ntmps53
      go_wp2_with fail
      go_ret
      exact ⟨by rw [r.out]; rfl, fin.out⟩
  · by_cases c2 : a.1 = b.1
    · generalize hq : decide (strC a.2 b.2 < 0) = q at hs
      cases q with
      | true =>
        have e1 : lowB a b = true := LE.2 (Or.inr ⟨c2, of_decide_eq_true hq⟩)
        have r : Hid (ahd most a b = !most) := by
          cases most
          · exact e1
          · exact swo_asym lowB_swo e1
        generalize ahd most a b = bv at r ⊢
        rw [c2] at fin ⊢
        clear LE ZR FL LE2 e1 hq c1 c2
        cases most with
        | false =>
          go_enter Tryz.func53, Tryz.ntmps53
          go_wp2_with fail
          go_ret
          exact ⟨by rw [r.out]; rfl, fin.out⟩
        | true =>
          go_enter Tryz.func53, Tryz.ntmps53
          go_wp2_with fail
          go_ret
          exact ⟨by rw [r.out]; rfl, fin.out⟩
      | false =>
        have hge : ¬ strC a.2 b.2 < 0 := of_decide_eq_false hq
        have e1 : lowB a b = false := by
          cases h : lowB a b with
          | false => rfl
          | true => have := LE.1 h; omega
        by_cases c3 : a.2 = b.2
        · have r : Hid (ahd most a b = false) := by
            cases most
            · exact e1
            · show lowB b a = false
              have : a = b := Prod.ext c2 c3
              rw [this]; exact lowB_swo.irrefl b
          generalize ahd most a b = bv at r ⊢
          obtain ⟨a1, a2⟩ := a
          obtain ⟨b1, b2⟩ := b
          simp only at c2 c3
          subst c2 c3
          simp only at hs fin ⊢
          clear LE ZR FL LE2 e1 hq c1 hge
          cases most with
          | false =>
            go_enter Tryz.func53, Tryz.ntmps53
            go_wp2_with fail
            go_ret
            exact ⟨by rw [r.out]; rfl, fin.out⟩
          | true =>
            go_enter Tryz.func53, Tryz.ntmps53
            go_wp2_with fail
            go_ret
            exact ⟨by rw [r.out]; rfl, fin.out⟩
        · have r : Hid (ahd most a b = most) := by
            cases most
            · exact e1
            · show lowB b a = true
              refine LE2.2 (Or.inr ⟨c2.symm, ?_⟩)
              have : strC a.2 b.2 ≠ 0 := fun q => c3 (ZR.1 q)
              omega
          have hb : ¬ a.2.toList = b.2.toList := fun q => c3 (ba_toList q)
          generalize ahd most a b = bv at r ⊢
          rw [c2] at fin ⊢
          clear LE ZR FL LE2 e1 hq c1 c2 hge
          cases most with
          | false =>
            go_enter Tryz.func53, Tryz.ntmps53
            go_wp2_with fail
            go_ret
            exact ⟨by rw [r.out]; rfl, fin.out⟩
          | true =>
            go_enter Tryz.func53, Tryz.ntmps53
            go_wp2_with fail
            go_ret
            exact ⟨by rw [r.out]; rfl, fin.out⟩
    · have r : Hid (ahd most a b = most) := by
        cases most
        · show lowB a b = false
          cases h : lowB a b with
          | false => rfl
          | true => have := LE.1 h; omega
        · exact LE2.2 (Or.inl (by omega))
      have hb : (a.1 == b.1) = false := by simpa using c2
      generalize ahd most a b = bv at r ⊢
      clear LE ZR FL LE2 hs
      cases most with
      | false =>
        go_enter Tryz.func53, Tryz.ntmps53
        go_wp2_with fail
        go_ret
        exact ⟨by rw [r.out]; rfl, fin.out⟩
      | true =>
        go_enter Tryz.func53, Tryz.ntmps53
        go_wp2_with fail
        go_ret
        exact ⟨by rw [r.out]; rfl, fin.out⟩
end Go.Proofs.YtboacnpbicedfaaGreatDoor.Hp

namespace Go.Proofs.YtboacnpbicedfaaGreatDoor.Hp
open Go.RowKit Go.Maps
set_option linter.unusedVariables false
set_option linter.unusedSimpArgs false
set_option maxRecDepth 100000
theorem OE.form {w : World} {B : Nat} {v : Value} {l : List Ent} (h : OE w B v l) : ∃ a c, v = .slice a l.length c ∧ l.length ≤ c ∧ (0 < l.length → ∃ g, a = some ⟨g, 0, none⟩) := by
  rcases h.2 with ⟨e, e0⟩ | ⟨g, cap, cur, e1, _, _, hc, _⟩
  · exact ⟨none, 0, by rw [e, e0], by omega, fun q => by omega⟩
  · exact ⟨_, cap, e1, hc, fun _ => ⟨g, rfl⟩⟩
theorem OE.at {w : World} {B g n cap : Nat} {l : List Ent} (h : OE w B (.slice (some ⟨g, 0, none⟩) n cap) l) {i : Nat} (hi : i < l.length) : w.cell? ⟨g, i * 2, none⟩ = some (.int .i64 (atE l i).1) ∧ w.cell? ⟨g, i * 2 + 1, none⟩ = some (.string (atE l i).2) := by
  have hcs := World.ownsRow.cells h (g := g) rfl
  obtain ⟨e1, e2⟩ := encE_get l i _ (atE_some hi)
  have k1 := hcs _ _ e1
  have k2 := hcs _ _ e2
  rw [add_lt0, Nat.zero_add] at k1 k2
  exact ⟨k1, k2⟩
theorem OE.fz {w : World} {B g n cap : Nat} {l : List Ent} (h : OE w B (.slice (some ⟨g, 0, none⟩) n cap) l) (o : Nat) : w.frozen? ⟨g, o, none⟩ = false := by
  obtain ⟨_, _, e1, _⟩ := h.form
  injection e1 with _ e2 _
  subst e2
  exact World.ownsRow.frozenAt h o
/-- an entry laid over another. -/
theorem OE.put {w : World} {B g n cap : Nat} {l : List Ent} (h : OE w B (.slice (some ⟨g, 0, none⟩) n cap) l) {i : Nat} (hi : i < l.length) (x : Ent) (hB : B ≤ w.heap.size) :
    OE ((w.setCell ⟨g, i * 2, none⟩ (.int .i64 x.1)).setCell ⟨g, i * 2 + 1, none⟩ (.string x.2)) B (.slice (some ⟨g, 0, none⟩) n cap) (l.set i x) ∧ Below B w ((w.setCell ⟨g, i * 2, none⟩ (.int .i64 x.1)).setCell ⟨g, i * 2 + 1, none⟩ (.string x.2)) := by
  obtain ⟨_, _, e1, _⟩ := h.form
  injection e1 with _ e2 _
  subst e2
  have t1 := World.ownsRow.stored h (i * 2) (.int .i64 x.1)
  have t2 := World.ownsRow.stored t1.1 (i * 2 + 1) (.string x.2)
  rw [encE_put l i x hi] at t2
  have b1 : Below B w (w.setCell ⟨g, i * 2, none⟩ (.int .i64 x.1)) := (Below.refl B w).grown t1.2 hB (fun k e => (h.bound e).1)
  have b2 := (Below.refl B (w.setCell ⟨g, i * 2, none⟩ (.int .i64 x.1))).grown t2.2 (Nat.le_trans hB b1.size) (fun k e => (h.bound e).1)
  refine ⟨?_, below_trans b1 b2⟩
  unfold OE
  rw [List.length_set]
  exact t2.1
theorem nums_i (i n : Nat) (h : i < n) (hn : n ≤ 4398046511104) : (0 : Int) ≤ (i : Int) ∧ (i : Int) < (n : Int) ∧ IntKind.i64.wrap ((i : Int) + 1) = ((i + 1 : Nat) : Int) := ⟨by omega, by omega, IntWalk.i64_in _ (by omega)⟩
theorem nums_bR (n : Nat) (hn : n ≤ 4398046511104) : IntKind.i64.wrap (((n + 1 : Nat) : Int) - 1) = (n : Int) := by
  rw [show ((n + 1 : Nat) : Int) - 1 = (n : Int) by omega]; exact IntWalk.i64_in _ (by omega)
theorem nums_kR (k : Nat) (h0 : 0 < k) (hn : k ≤ 4398046511104) : IntKind.i64.wrap ((k : Int) - 1) = ((k - 1 : Nat) : Int) := by
  rw [show (k : Int) - 1 = ((k - 1 : Nat) : Int) by omega]; exact IntWalk.i64_in _ (by omega)
theorem enIn_one (x : Ent) (W : World) : EnIn (W.alloc (.cells #[.int .i64 x.1, .string x.2] 30)) (some ⟨W.heap.size, 0, none⟩) [x] := Or.inr ⟨_, _, rfl, by simp, fun j t ht => by
  have hj : j < 1 := (List.getElem?_eq_some_iff.1 ht).1
  have : j = 0 := by omega
  subst this
  injection ht with ht
  subst ht
  constructor <;> simp [go_sem]⟩
/-- one entry appended. -/
theorem app1E {W : World} {B : Nat} {v : Value} {l : List Ent} (h : OE W B v l) (hB : B ≤ W.heap.size) (x : Ent) (hn : l.length + 1 ≤ 4398046511104) :
    ∃ g cap w', (Builtin.append_ #[31, 31] 31 #[v, .slice (some ⟨W.heap.size, 0, none⟩) 1 1]).run Tryz.prog (W.alloc (.cells #[.int .i64 x.1, .string x.2] 30)) = .ok (.slice (some ⟨g, 0, none⟩) (l.length + 1) cap) w' ∧ OE w' B (.slice (some ⟨g, 0, none⟩) (l.length + 1) cap) (l ++ [x]) ∧ Below B W w' := by
  have b1 : Below W.heap.size W (W.alloc (.cells #[.int .i64 x.1, .string x.2] 30)) := (Below.refl _ W).alloc (Nat.le_refl _) _
  have h1 := h.below b1 (Nat.le_refl _)
  obtain ⟨v', w', hr, ho, hg, _⟩ := appE _ B v l [x] h1 (Nat.le_trans hB b1.size) (some ⟨W.heap.size, 0, none⟩) 1 (enIn_one x W) (by simpa using hn)
  obtain ⟨a, c, e, _, hf⟩ := ho.form
  obtain ⟨g, rfl⟩ := hf (by simp)
  have e2 : (l ++ [x]).length = l.length + 1 := by simp
  rw [e2] at e
  subst e
  exact ⟨g, c, w', hr, ho, below_trans (below_less b1 hB) (grown_belowE h1 (Nat.le_trans hB b1.size) hg)⟩
/-- where the document's Sorted stands. -/
def RS (w : World) (most : Bool) (l : List Ent) (i : Nat) (v : Value) (wr : World) : Prop := OE wr w.heap.size v (rsN most l i) ∧ Below w.heap.size w wr
set_option maxHeartbeats 16000000 in
theorem rsorted_any (most : Bool) (a : Option Addr) (c : Nat) (l : List Ent) (w : World) (h : EnIn w a l) (hn : l.length ≤ 1099511627776) :
    Calls Tryz.prog 67 #[.bool most, .slice a l.length c] w fun e w' => ∃ v, e = .returned v ∧ OE w' w.heap.size v (srtL most l) ∧ Below w.heap.size w w' := by
  have hH : Hid (EnIn w a l) := h
  have mixed : Tryz.prog.follows .mixedOrders = true := by kernel_rfl
  have eg : ∀ args w, (callFunc 53 args).run Tryz.prog w = .ok (.enter 53 args) w := enters_of Tryz.func53 (by kernel_rfl) rfl
  clear h
  go_enter Tryz.func67, Tryz.ntmps67
  go_wp2_with fail
  go_loopw [5, 6] (fun v5 v6 wr => ∃ (i : Nat), v6 = .int .i64 (i : Int) ∧ i ≤ l.length ∧ Hid (RS w most l i v5 wr)) (fun _ v6 _ => l.length - (intOf v6).toNat)
  case atStart => exact ⟨0, rfl, Nat.zero_le _, OE.nil _ _, Below.refl _ _⟩
  case round =>
    obtain ⟨i, rfl, hil, hR⟩ := hrel
    by_cases hi : i < l.length
    · obtain ⟨i0, iI, iw⟩ := nums_i i l.length hi (by omega)
      obtain ⟨o1, bw⟩ := hR.out
      obtain ⟨av, cv, rfl, hcv, hgv⟩ := o1.form
      obtain ⟨b, off, rfl, hbl, hcs⟩ : ∃ b off, a = some ⟨b, off, none⟩ ∧ b < w.heap.size ∧ ∀ i t, l[i]? = some t → w.cell? ⟨b, off + i * 2, none⟩ = some (.int .i64 t.1) ∧ w.cell? ⟨b, off + i * 2 + 1, none⟩ = some (.string t.2) := by
        rcases hH.out with q | q
        · rw [q] at hi; simp at hi
        · exact q
      obtain ⟨p1, p2⟩ := hcs i _ (atE_some hi)
      have rl := rsN_len most l i
      have stp : rsN most l (i + 1) = insP most (rsN most l i) (atE l i) := rfl
      have stpH : Hid _ := stp
      clear stp hcs
      generalize rsN most l i = out at *
      generalize atE l i = x at *
      have inF : Hid (∀ W, Below w.heap.size w W → W.cell? ⟨b, off + i * 2, none⟩ = some (.int .i64 x.1) ∧ W.cell? ⟨b, off + i * 2 + 1, none⟩ = some (.string x.2)) := fun W hW => ⟨by rw [hW.cell (p := ⟨b, off + i * 2, none⟩) hbl]; exact p1, by rw [hW.cell (p := ⟨b, off + i * 2 + 1, none⟩) hbl]; exact p2⟩
      have o1H : Hid (OE wr w.heap.size (.slice av out.length cv) out) := o1
      have bwH : Hid (Below w.heap.size w wr) := bw
      clear p1 p2 o1 bw hR
      have szw := bwH.out.size
      generalize wr = wo at *
      have CA : Hid (∀ t W, Calls Tryz.prog 53 #[.bool most, .agg #[.int .i64 (atE out t).1, .string (atE out t).2], .agg #[.int .i64 x.1, .string x.2]] W fun e w' => e = .returned (.bool (ahd most (atE out t) x)) ∧ ∃ q os', w' = Sort.grow (W.drewN q) os') := fun t W => rahead_gr most (atE out t) x W
      have cle := cnt_le most x out
      have hout : out.length ≤ 1099511627776 := by omega
      clear rl
      go_wp2_with fail
      go_loopw [7] (fun v7 w2 => ∃ (t : Nat), v7 = .int .i64 (t : Int) ∧ t ≤ cnt most x out ∧ Hid (GR wo w2)) (fun v7 _ => cnt most x out - (intOf v7).toNat)
      case atStart => exact ⟨0, rfl, Nat.zero_le _, GR.refl _⟩
      case round =>
        obtain ⟨t, rfl, htl, hG⟩ := hrel
        have EXIT : Hid (∀ w3, GR wo w3 → t = cnt most x out → OE w3 w.heap.size (.slice av out.length cv) out ∧ Below w.heap.size w w3) := fun w3 g3 _ => ⟨o1H.out.below g3.below (Nat.le_refl _), below_trans bwH.out (below_less g3.below szw)⟩
        by_cases htn : t < out.length
        · obtain ⟨t0, tI, tw⟩ := nums_i t out.length htn (by omega)
          obtain ⟨g, rfl⟩ := hgv (by omega)
          obtain ⟨y0, y1⟩ := o1H.out.at htn
          obtain ⟨q0, q1⟩ := inF.out wo bwH.out
          have gl : g < wo.heap.size := (World.ownsRow.lt o1H.out g rfl).2
          have bl : b < wo.heap.size := by omega
          have k1 : ∀ n os, (Sort.grow (wr.drewN n) os).cell? ⟨g, t * 2, none⟩ = some (.int .i64 (atE out t).1) := fun n os => by rw [(hG.out.trans ⟨n, os, rfl⟩).below.cell (p := ⟨g, t * 2, none⟩) gl]; exact y0
          have k2 : ∀ n os, (Sort.grow (wr.drewN n) os).cell? ⟨g, t * 2 + 1, none⟩ = some (.string (atE out t).2) := fun n os => by rw [(hG.out.trans ⟨n, os, rfl⟩).below.cell (p := ⟨g, t * 2 + 1, none⟩) gl]; exact y1
          have k3 : ∀ n os, (Sort.grow (wr.drewN n) os).cell? ⟨b, off + i * 2, none⟩ = some (.int .i64 x.1) := fun n os => by rw [(hG.out.trans ⟨n, os, rfl⟩).below.cell (p := ⟨b, off + i * 2, none⟩) bl]; exact q0
          have k4 : ∀ n os, (Sort.grow (wr.drewN n) os).cell? ⟨b, off + i * 2 + 1, none⟩ = some (.string x.2) := fun n os => by rw [(hG.out.trans ⟨n, os, rfl⟩).below.cell (p := ⟨b, off + i * 2 + 1, none⟩) bl]; exact q1
          have C1 : Hid _ := fun W => CA.out t W
          have A1 : Hid (t < cnt most x out → ahd most (atE out t) x = true) := fun q => cnt_lt most x out t q
          have A2 : Hid (t = cnt most x out → ahd most (atE out t) x = false) := fun q => by have := cnt_end most x out (by omega); rw [← q] at this; exact this
          generalize ahd most (atE out t) x = bv at C1 A1 A2
          generalize atE out t = y at *
          clear y0 y1 q0 q1 CA
          go_wp2_with fail
          go_quiet_grown (first | (go_at_fn 53; refine Calls.grown_of (C1.out _)))
          have hG2 : Hid (GR wo (Sort.grow (wr.drewN nq) osq)) := hG.out.trans ⟨nq, osq, rfl⟩
          clear k1 k2 k3 k4 C1 hG
          generalize Sort.grow (wr.drewN nq) osq = w3 at *
          by_cases hc : t < cnt most x out
          · have e := A1.out hc
            subst e
            clear A1 A2
            go_wp2_with fail
            exact ⟨⟨t + 1, rfl, hc, hG2⟩, by first | (simp [intOf]; done) | (simp [intOf]; omega)⟩
          · have hte : t = cnt most x out := by omega
            have e := A2.out hte
            subst e
            obtain ⟨o3, b3⟩ := EXIT.out w3 hG2.out hte
            obtain ⟨g4, c4, w4, hr4, o4, b4⟩ := app1E (x := nE) o3 b3.size (by omega)
            have hrH : Hid (∀ W, W = w3.alloc (.cells #[.int .i64 0, .string ⟨#[]⟩] 30) → (Builtin.append_ #[31, 31] 31 #[.slice (some ⟨g, 0, none⟩) out.length cv, .slice (some ⟨w3.heap.size, 0, none⟩) 1 1]).run Tryz.prog W = .ok (.slice (some ⟨g4, 0, none⟩) (out.length + 1) c4) w4) := fun W e => by subst e; exact hr4
            have o4H : Hid (OE w4 w.heap.size (.slice (some ⟨g4, 0, none⟩) (out.length + 1) c4) (out ++ [nE]) ∧ Below w.heap.size w w4) := ⟨o4, below_trans b3 b4⟩
            have nb := nums_bR out.length (by omega)
            clear hr4 o4 b4 o3 b3 o1H bwH szw EXIT A1 A2 hG2 tw tI t0
            go_wp2_with (at_builtin; refine wpList_append_runE (by rfl) _ _ _ (by rfl) _ _ _ _ (by rfl) (by rfl) (hrH.out _ rfl) ?_)
            clear hrH
            go_loopw [8] (fun v8 w5 => ∃ (k : Nat) (R : List Ent), v8 = .int .i64 (k : Int) ∧ cnt most x out ≤ k ∧ k ≤ out.length ∧ Hid (OE w5 w.heap.size (.slice (some ⟨g4, 0, none⟩) (out.length + 1) c4) R ∧ Below w.heap.size w w5 ∧ SH out k R)) (fun v8 _ => (intOf v8).toNat)
            case atStart => exact ⟨out.length, _, by first | rfl | (rw [nb]), cle, Nat.le_refl _, o4H.out.1, o4H.out.2, SH.start out nE⟩
            case round =>
              clear o4H
              obtain ⟨k, R, rfl, hk1, hk2, hS⟩ := hrel
              obtain ⟨o5, b5, sh⟩ := hS.out
              have hRl := sh.len
              by_cases hk : cnt most x out < k
              · have kw := nums_kR k (by omega) (by omega)
                obtain ⟨c0, c1⟩ := o5.at (i := k - 1) (by omega)
                have z0 := o5.fz (k * 2)
                have z1 := o5.fz (k * 2 + 1)
                obtain ⟨d0, d1⟩ := o5.at (i := k) (by omega)
                have PUT := o5.put (i := k) (by omega) (atE R (k - 1)) b5.size
                have NEXT : Hid (∀ W, W = (wr.setCell ⟨g4, k * 2, none⟩ (.int .i64 (atE R (k - 1)).1)).setCell ⟨g4, k * 2 + 1, none⟩ (.string (atE R (k - 1)).2) → OE W w.heap.size (.slice (some ⟨g4, 0, none⟩) (out.length + 1) c4) (R.set k (atE R (k - 1))) ∧ Below w.heap.size w W ∧ SH out (k - 1) (R.set k (atE R (k - 1)))) := fun W e => by subst e; exact ⟨PUT.1, below_trans b5 PUT.2, sh.step (by omega) hk2⟩
                have i1 : (0 : Int) ≤ (k : Int) := by omega
                have i2 : (k : Int) < ((out.length + 1 : Nat) : Int) := by omega
                have i3 : (0 : Int) ≤ ((k - 1 : Nat) : Int) := by omega
                have i4 : ((k - 1 : Nat) : Int) < ((out.length + 1 : Nat) : Int) := by omega
                have i5 : (k : Int) > ((cnt most x out : Nat) : Int) := by omega
                have hkz : 0 < k := by omega
                clear PUT hS sh o5 b5
                generalize atE R (k - 1) = y at *
                generalize atE R k = y2 at *
                go_wp2_with fail
                exact ⟨⟨k - 1, _, by first | rfl | (rw [kw]), by omega, by omega, NEXT.out _ rfl⟩, by first | (simp [intOf]; done) | (simp [intOf]; omega)⟩
              · have hke : k = cnt most x out := by omega
                subst hke
                obtain ⟨p0, p1⟩ := inF.out wr b5
                have z0 := o5.fz (cnt most x out * 2)
                have z1 := o5.fz (cnt most x out * 2 + 1)
                obtain ⟨d0, d1⟩ := o5.at (i := cnt most x out) (by omega)
                have PUT := o5.put (i := cnt most x out) (by omega) x b5.size
                have e1 : R.set (cnt most x out) x = insP most out x := sh.ends hk2
                have NEXT : Hid (∀ W, W = (wr.setCell ⟨g4, cnt most x out * 2, none⟩ (.int .i64 x.1)).setCell ⟨g4, cnt most x out * 2 + 1, none⟩ (.string x.2) → RS w most l (i + 1) (.slice (some ⟨g4, 0, none⟩) (out.length + 1) c4) W) := fun W e => by
                  subst e
                  refine ⟨?_, below_trans b5 PUT.2⟩
                  have := PUT.1
                  rw [e1, ← stpH.out] at this
                  exact this
                have i1 : (0 : Int) ≤ ((cnt most x out : Nat) : Int) := by omega
                have i2 : ((cnt most x out : Nat) : Int) < ((out.length + 1 : Nat) : Int) := by omega
                have i5 : cnt most x out ≤ out.length := hk2
                clear PUT hS sh o5 b5 e1 stpH inF hk hk1 hk2 hRl htl cle i5
                generalize atE R (cnt most x out) = y2 at *
                generalize cnt most x out = ct at *
                go_wp2_with fail
                exact ⟨⟨i + 1, rfl, hi, NEXT.out _ rfl⟩, by first | (simp [intOf]; done) | (simp [intOf]; omega)⟩
        · have hlt : ¬ (t : Int) < (out.length : Int) := by omega
          have hdr : Hid (∀ nq, GR wo (wr.drewN nq)) := fun nq => hG.out.trans ⟨nq, #[], by rw [Sort.grow_empty]⟩
          clear hG CA
          go_wp2_with fail
          go_quiet (fail)
          have hG2 : Hid (GR wo (wr.drewN nq)) := hdr.out nq
          clear hdr
          generalize wr.drewN nq = w3 at *
          have hte : t = cnt most x out := by omega
          obtain ⟨o3, b3⟩ := EXIT.out w3 hG2.out hte
          clear htn hlt
          obtain ⟨g4, c4, w4, hr4, o4, b4⟩ := app1E (x := nE) o3 b3.size (by omega)
          have hrH : Hid (∀ W, W = w3.alloc (.cells #[.int .i64 0, .string ⟨#[]⟩] 30) → (Builtin.append_ #[31, 31] 31 #[.slice av out.length cv, .slice (some ⟨w3.heap.size, 0, none⟩) 1 1]).run Tryz.prog W = .ok (.slice (some ⟨g4, 0, none⟩) (out.length + 1) c4) w4) := fun W e => by subst e; exact hr4
          have o4H : Hid (OE w4 w.heap.size (.slice (some ⟨g4, 0, none⟩) (out.length + 1) c4) (out ++ [nE]) ∧ Below w.heap.size w w4) := ⟨o4, below_trans b3 b4⟩
          have nb := nums_bR out.length (by omega)
          clear hr4 o4 b4 o3 b3 hgv o1H bwH szw EXIT hG2
          go_wp2_with (at_builtin; refine wpList_append_runE (by rfl) _ _ _ (by rfl) _ _ _ _ (by rfl) (by rfl) (hrH.out _ rfl) ?_)
          clear hrH
          go_loopw [8] (fun v8 w5 => ∃ (k : Nat) (R : List Ent), v8 = .int .i64 (k : Int) ∧ cnt most x out ≤ k ∧ k ≤ out.length ∧ Hid (OE w5 w.heap.size (.slice (some ⟨g4, 0, none⟩) (out.length + 1) c4) R ∧ Below w.heap.size w w5 ∧ SH out k R)) (fun v8 _ => (intOf v8).toNat)
          case atStart => exact ⟨out.length, _, by first | rfl | (rw [nb]), cle, Nat.le_refl _, o4H.out.1, o4H.out.2, SH.start out nE⟩
          case round =>
            clear o4H
            obtain ⟨k, R, rfl, hk1, hk2, hS⟩ := hrel
            obtain ⟨o5, b5, sh⟩ := hS.out
            have hRl := sh.len
            by_cases hk : cnt most x out < k
            · have kw := nums_kR k (by omega) (by omega)
              obtain ⟨c0, c1⟩ := o5.at (i := k - 1) (by omega)
              have z0 := o5.fz (k * 2)
              have z1 := o5.fz (k * 2 + 1)
              obtain ⟨d0, d1⟩ := o5.at (i := k) (by omega)
              have PUT := o5.put (i := k) (by omega) (atE R (k - 1)) b5.size
              have NEXT : Hid (∀ W, W = (wr.setCell ⟨g4, k * 2, none⟩ (.int .i64 (atE R (k - 1)).1)).setCell ⟨g4, k * 2 + 1, none⟩ (.string (atE R (k - 1)).2) → OE W w.heap.size (.slice (some ⟨g4, 0, none⟩) (out.length + 1) c4) (R.set k (atE R (k - 1))) ∧ Below w.heap.size w W ∧ SH out (k - 1) (R.set k (atE R (k - 1)))) := fun W e => by subst e; exact ⟨PUT.1, below_trans b5 PUT.2, sh.step (by omega) hk2⟩
              have i1 : (0 : Int) ≤ (k : Int) := by omega
              have i2 : (k : Int) < ((out.length + 1 : Nat) : Int) := by omega
              have i3 : (0 : Int) ≤ ((k - 1 : Nat) : Int) := by omega
              have i4 : ((k - 1 : Nat) : Int) < ((out.length + 1 : Nat) : Int) := by omega
              have i5 : (k : Int) > ((cnt most x out : Nat) : Int) := by omega
              have hkz : 0 < k := by omega
              clear PUT hS sh o5 b5
              generalize atE R (k - 1) = y at *
              generalize atE R k = y2 at *
              go_wp2_with fail
              exact ⟨⟨k - 1, _, by first | rfl | (rw [kw]), by omega, by omega, NEXT.out _ rfl⟩, by first | (simp [intOf]; done) | (simp [intOf]; omega)⟩
            · have hke : k = cnt most x out := by omega
              subst hke
              obtain ⟨p0, p1⟩ := inF.out wr b5
              have z0 := o5.fz (cnt most x out * 2)
              have z1 := o5.fz (cnt most x out * 2 + 1)
              obtain ⟨d0, d1⟩ := o5.at (i := cnt most x out) (by omega)
              have PUT := o5.put (i := cnt most x out) (by omega) x b5.size
              have e1 : R.set (cnt most x out) x = insP most out x := sh.ends hk2
              have NEXT : Hid (∀ W, W = (wr.setCell ⟨g4, cnt most x out * 2, none⟩ (.int .i64 x.1)).setCell ⟨g4, cnt most x out * 2 + 1, none⟩ (.string x.2) → RS w most l (i + 1) (.slice (some ⟨g4, 0, none⟩) (out.length + 1) c4) W) := fun W e => by
                subst e
                refine ⟨?_, below_trans b5 PUT.2⟩
                have := PUT.1
                rw [e1, ← stpH.out] at this
                exact this
              have i1 : (0 : Int) ≤ ((cnt most x out : Nat) : Int) := by omega
              have i2 : ((cnt most x out : Nat) : Int) < ((out.length + 1 : Nat) : Int) := by omega
              have i5 : cnt most x out ≤ out.length := hk2
              clear PUT hS sh o5 b5 e1 stpH inF hk hk1 hk2 hRl htl cle i5
              generalize atE R (cnt most x out) = y2 at *
              generalize cnt most x out = ct at *
              go_wp2_with fail
              exact ⟨⟨i + 1, rfl, hi, NEXT.out _ rfl⟩, by first | (simp [intOf]; done) | (simp [intOf]; omega)⟩
    · have hlt : ¬ (i : Int) < (l.length : Int) := by omega
      have e : i = l.length := by omega
      obtain ⟨o1, bw⟩ := hR.out
      rw [e, rsN_srt] at o1
      obtain ⟨av, cv, rfl, _, _⟩ := o1.form
      have fin : Hid (OE wr w.heap.size (.slice av (srtL most l).length cv) (srtL most l) ∧ Below w.heap.size w wr) := ⟨o1, bw⟩
      clear o1 bw hR e
      go_wp2_with fail
      go_ret
      exact ⟨_, rfl, fin.out⟩
end Go.Proofs.YtboacnpbicedfaaGreatDoor.Hp
