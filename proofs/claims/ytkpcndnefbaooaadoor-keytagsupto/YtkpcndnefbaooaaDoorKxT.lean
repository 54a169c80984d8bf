
import Derived.Test.YtkpcndnefbaooaaDoorSoP
import Derived.Laws.MakeOwn
import Derived.Test.YtkpcndnefbaooaaDoorKyN
import Derived.Test.YtkpcndnefbaooaaDoorKqA
import Derived.Test.YtkpcndnefbaooaaDoorKzD
import Derived.Test.YtkpcndnefbaooaaDoorKxC
namespace Go.Proofs.YtkpcndnefbaooaaDoor
open Go.RowKit _root_.Go.Proofs.YtkpcndnefbaooaaDoor.So
set_option linter.unusedVariables false
set_option linter.unusedSimpArgs false
/-- texts that lie in memory. -/
def StIn (w : World) (a : Option Addr) (l : List ByteArray) : Prop := l = [] ∨ ∃ b off, a = some ⟨b, off, none⟩ ∧ b < w.heap.size ∧ ∀ i t, l[i]? = some t → w.cell? ⟨b, off + i, none⟩ = some (.string t)
theorem StIn.below {w w' : World} {a : Option Addr} {l : List ByteArray} (h : StIn w a l) (hB : Below w.heap.size w w') : StIn w' a l := by
  rcases h with h | ⟨b, off, ha, hb, hc⟩
  · exact Or.inl h
  · refine Or.inr ⟨b, off, ha, by have := hB.size; omega, fun i t ht => ?_⟩
    rw [hB.cell (p := ⟨b, off + i, none⟩) hb]
    exact hc i t ht
theorem StIn.at {w wr : World} {a : Option Addr} {l : List ByteArray} (h : StIn w a l) (hB : Below w.heap.size w wr) {k : Nat} {t : ByteArray} (ht : l[k]? = some t) : ∃ b off, a = some ⟨b, off, none⟩ ∧ b < w.heap.size ∧ wr.cell? ⟨b, off + k, none⟩ = some (.string t) := by
  rcases h with h0 | ⟨b, off, e, hb, hc⟩
  · rw [h0] at ht; simp at ht
  · exact ⟨b, off, e, hb, by rw [hB.cell (p := ⟨b, off + k, none⟩) hb]; exact hc k t ht⟩
/-- a tag's value. -/
def valT : List TagP → ByteArray → ByteArray
  | [], _ => ⟨#[]⟩
  | t :: r, s => if t.1 = s then t.2 else valT r s
theorem valT_step {l : List TagP} {k : Nat} {t : TagP} (h : l[k]? = some t) (s : ByteArray) : valT (l.drop k) s = if t.1 = s then t.2 else valT (l.drop (k + 1)) s := by
  obtain ⟨h1, rfl⟩ := List.getElem?_eq_some_iff.1 h
  rw [List.drop_eq_getElem_cons h1]; rfl
def grpT (l : List TagP) (names : List ByteArray) : List ByteArray := names.map (valT l)
set_option maxRecDepth 100000 in
set_option maxHeartbeats 4000000 in
theorem value_any (a : Option Addr) (c : Nat) (l : List TagP) (s : ByteArray) (w : World) (hl : l.length ≤ 9223372036854775807) (ha : TgIn w a l) :
    Calls Tryd.prog 6 #[.slice a l.length c, .string s] w fun e w' => e = .returned (.string (valT l s)) ∧ Below w.heap.size w w' := by
  have hA : Hid (TgIn w a l) := ha
  clear ha
  obtain ⟨R, hR⟩ : ∃ R, valT l s = R := ⟨_, rfl⟩
  have hR0 : Hid (valT (l.drop 0) s = R) := hR
  rw [hR]
  clear hR
  obtain ⟨n, hn⟩ : ∃ n, l.length = n := ⟨_, rfl⟩
  have hN : Hid (l.length = n) := hn
  rw [hn] at hl ⊢
  clear hn
  go_enter Tryd.func6, Tryd.ntmps6
  go_wp2_with fail
  go_loopw [9] (fun i wr => ∃ k : Nat, i = .int .i64 (k : Int) ∧ k ≤ n ∧ Hid (valT (l.drop k) s = R) ∧ Below w.heap.size w wr) (fun i _ => n - (intOf i).toNat)
  case atStart => exact ⟨0, rfl, by omega, hR0, Below.refl _ _⟩
  case round =>
    obtain ⟨k, rfl, hkn, hI, hB⟩ := hrel
    by_cases hk : k < n
    · have hkI : (k : Int) < (n : Int) := by omega
      obtain ⟨t, ht⟩ : ∃ t, l[k]? = some t := ⟨_, List.getElem?_eq_getElem (by have := hN.out; omega)⟩
      obtain ⟨b1, o1, rfl, hb1, t1, t2⟩ := hA.out.at hB ht
      have hst := valT_step ht s
      rw [hI.out] at hst
      obtain ⟨tk, tv⟩ := t
      simp only at t1 t2 hst
      have hBB : ∀ o, Below w.heap.size w (wr.alloc o) := fun o => hB.alloc hB.size o
      have hBH : Hid (∀ o, Below w.heap.size w (wr.alloc o)) := hBB
      clear hBB hB
      by_cases he : tk = s
      · rw [if_pos he] at hst
        have hz : Hid (tv = R) := hst.symm
        have hq : (tk.toList == s.toList) = true := by rw [he]; simp
        clear hst he
        go_wp2_with fail
        go_ret
        exact ⟨by rw [← hz.out]; rfl, hBH.out _⟩
      · rw [if_neg he] at hst
        have hz : Hid (valT (l.drop (k + 1)) s = R) := hst.symm
        have hq : (tk.toList == s.toList) = false := by rw [ba_dec]; exact decide_eq_false he
        clear hst he
        go_wp2_with fail
        go_round
        case measure => simp only [intOf]; omega
        case rel => exact ⟨k + 1, by simp, by omega, hz, hBH.out _⟩
    · have hkI : ¬ (k : Int) < (n : Int) := by omega
      have hE : Hid (R = ⟨#[]⟩) := by
        have := hI.out
        rw [List.drop_eq_nil_of_le (by have := hN.out; omega)] at this
        exact this.symm
      go_wp2_with fail
      go_ret
      exact ⟨by rw [hE.out]; rfl, hB⟩
set_option maxRecDepth 100000 in
set_option maxHeartbeats 4000000 in
theorem sameTexts_any (a b : Option Addr) (l : List ByteArray) (c1 c2 : Nat) (w : World) (hl : l.length ≤ 4611686018427387904) (ha : StIn w a l) (hb : StIn w b l) :
    Calls Tryd.prog 12 #[.slice a l.length c1, .slice b l.length c2] w fun e w' => e = .returned (.bool true) ∧ Below w.heap.size w w' := by
  have hA : Hid (StIn w a l) := ha
  have hBb : Hid (StIn w b l) := hb
  clear ha hb
  obtain ⟨n, hn⟩ : ∃ n, l.length = n := ⟨_, rfl⟩
  have hN : Hid (l.length = n) := hn
  rw [hn] at hl ⊢
  clear hn
  have hnn : ((n : Int) == (n : Int)) = true := by simp
  go_enter Tryd.func12, Tryd.ntmps12
  go_wp2_with fail
  go_loopw [5] (fun i wr => ∃ k : Nat, i = .int .i64 (k : Int) ∧ k ≤ n ∧ Below w.heap.size w wr) (fun i _ => n - (intOf i).toNat)
  case atStart => exact ⟨0, rfl, by omega, Below.refl _ _⟩
  case round =>
    obtain ⟨k, rfl, hkn, hB⟩ := hrel
    have kw : IntKind.i64.wrap ((k : Int) + 1) = ((k + 1 : Nat) : Int) := IntWalk.i64_in _ (by omega)
    by_cases hk : k < n
    · have hkI : (k : Int) < (n : Int) := by omega
      have k0 : (0 : Int) ≤ (k : Int) := by omega
      obtain ⟨t, ht⟩ : ∃ t, l[k]? = some t := ⟨_, List.getElem?_eq_getElem (by have := hN.out; omega)⟩
      obtain ⟨b1, o1, rfl, hb1, t1⟩ := hA.out.at hB ht
      obtain ⟨b2, o2, rfl, hb2, t2⟩ := hBb.out.at hB ht
      have hBH : Hid (Below w.heap.size w wr.drew) := hB.drew
      clear hB ht
      go_wp2_with fail
      go_quiet (fail)
      go_wp2_with fail
      go_round
      case measure => simp only [intOf]; omega
      case rel => exact ⟨k + 1, by simp, by omega, ⟨hBH.out.os, hBH.out.tape, hBH.out.output, hBH.out.size, hBH.out.block⟩⟩
    · have hkI : ¬ (k : Int) < (n : Int) := by omega
      go_wp2_with fail
      go_ret
      exact ⟨rfl, hB⟩
end Go.Proofs.YtkpcndnefbaooaaDoor

namespace Go.Proofs.YtkpcndnefbaooaaDoor
open Go.RowKit _root_.Go.Proofs.YtkpcndnefbaooaaDoor.So
set_option linter.unusedVariables false
set_option linter.unusedSimpArgs false
theorem step_append_runS {P : Program} {ops : Array Oper} {o : Oper} {a : Act} {w : World} {K : Act → World → Prop} {Q : Exit → Act → World → Prop} {E : Prop}
    (hg : o.guard = none) (s x : Operand) (t : TypeId) (hop : o.op = Op.call { callee := Callee.builtin Builtin.append, args := #[s, x], argTypes := #[t, t] })
    (v y v' : Value) (w' : World) (hs : a.eval s = v) (hx : a.eval x = y) (hr : (Builtin.append_ #[t, t] o.type #[v, y]).run P w = .ok v' w') (hK : K (a.put o.dst v') w') :
    if Region.wanted o (yielded ops a.tmps) = true then Oper.wp P o a w K Q else E := by
  have hw : Region.wanted o (yielded ops a.tmps) = true := by simp [Region.wanted, hg]
  rw [if_pos hw]
  unfold Oper.wp execOp
  simp only [hop, resolve, invoke, builtin, Sem.run_bind, Sem.run_pure, Result.andThen_ok, List.map_toArray, List.map_cons, List.map_nil, hs, hx, hr]
  exact hK
theorem app1T (W : World) (B : Nat) (v : Value) (l : List TagP) (h : OT W B v l) (hB : B ≤ W.heap.size) (x y : ByteArray) (hn : l.length + 1 ≤ 4398046511104) :
    ∃ v' w', (Builtin.append_ #[22, 22] 22 #[v, .slice (some ⟨W.heap.size, 0, none⟩) 1 1]).run Tryd.prog (W.alloc (.cells #[.string x, .string y] 34)).drew = .ok v' w' ∧ OT w' B v' (l ++ [(x, y)]) ∧ Below B W w' := by
  have b1 : Below W.heap.size W (W.alloc (.cells #[.string x, .string y] 34)).drew := ((Below.refl _ W).alloc (Nat.le_refl _) _).drew
  have ho2 := h.below b1 (Nat.le_refl _)
  obtain ⟨v', w', hr, ho, hg, _⟩ := appT _ B v l [(x, y)] ho2 (Nat.le_trans hB b1.size) (some ⟨W.heap.size, 0, none⟩) 1 (Or.inr ⟨W.heap.size, 0, rfl, by show W.heap.size < (W.alloc _).heap.size; simp, fun i t ht => by
    cases i with
    | zero =>
      simp at ht; subst ht
      exact ⟨by show (W.alloc _).cell? _ = _; simp [go_sem], by show (W.alloc _).cell? _ = _; simp [go_sem]⟩
    | succ i => simp at ht⟩) (by simp; omega)
  exact ⟨v', w', hr, ho, (b1.mono hB).trans (grown_below ho2 (Nat.le_trans hB b1.size) hg)⟩
/-- the tags of the first k names and values, those without a value left out. -/
def joinP (ns vs : List ByteArray) : Nat → List TagP
  | 0 => []
  | k + 1 => joinP ns vs k ++ (if vs.getD k ⟨#[]⟩ = ⟨#[]⟩ then [] else [(ns.getD k ⟨#[]⟩, vs.getD k ⟨#[]⟩)])
theorem joinP_step {ns vs : List ByteArray} {k : Nat} {x y : ByteArray} (hx : ns[k]? = some x) (hy : vs[k]? = some y) : joinP ns vs (k + 1) = joinP ns vs k ++ (if y = ⟨#[]⟩ then [] else [(x, y)]) := by
  conv => lhs; unfold joinP
  rw [List.getD_eq_getElem?_getD, List.getD_eq_getElem?_getD, hx, hy]; rfl
theorem joinP_le (ns vs : List ByteArray) {k m : Nat} (h : k ≤ m) : (joinP ns vs k).length ≤ (joinP ns vs m).length := by
  induction m with
  | zero => obtain rfl : k = 0 := by omega
            exact Nat.le_refl _
  | succ m ih =>
    rcases Nat.lt_or_ge k (m + 1) with c | c
    · refine Nat.le_trans (ih (by omega)) ?_
      conv => rhs; unfold joinP
      rw [List.length_append]; omega
    · obtain rfl : k = m + 1 := by omega
      exact Nat.le_refl _
theorem So.SortedR.wide {w0 w w' : World} {e : Ending} {l : List TagP} (h : SortedR w w' e l) (hw : w0.heap.size ≤ w.heap.size) : SortedR w0 w' e l := by
  rcases h with h | ⟨g, m, cap, G, h1, h2, h3⟩
  · exact Or.inl h
  · exact Or.inr ⟨g, m, cap, G, h1, by omega, h3⟩
theorem So.SortedR.ret {w w' : World} {e : Ending} {l : List TagP} (h : SortedR w w' e l) : ∃ v, e = .returned v := by
  rcases h with ⟨_, h⟩ | ⟨g, m, cap, G, h1, _⟩
  · exact ⟨_, h⟩
  · exact ⟨_, h1⟩
theorem make_str (n : Nat) (h : n ≤ 8796093022208) (w : World) : (Instr.makeSlice 23 (.int .i64 (n : Int)) (.int .i64 (n : Int))).run Tryd.prog w = .ok (.slice (some ⟨w.heap.size, 0, none⟩) n n) (w.alloc (.cells (madeCells #[.string ⟨#[]⟩] n) 9)) := by
  have hi : (Tryd.prog.info? 9).map (fun i => (i.zero, i.bytes, i.size)) = some (some (.string ⟨#[]⟩), 16, 1) := by kernel_rfl
  obtain ⟨i, i1, i0⟩ := Option.map_eq_some_iff.1 hi
  have i2 : i.zero = some (.string ⟨#[]⟩) := congrArg (·.1) i0
  have i3 : i.bytes = 16 := congrArg (·.2.1) i0
  have i4 : i.size = 1 := congrArg (·.2.2) i0
  have := run_make (P := Tryd.prog) w 23 9 i (.string ⟨#[]⟩) Tryd.underlying23 i1 i2 .i64 .i64 (n : Int) (n : Int) (by omega) (by omega) (by rw [i3]; omega) (by omega)
  rw [i4] at this
  simpa [Value.cells] using this
/-- what stands while values are laid: k of n are there. -/
structure GS (w : World) (g n k : Nat) (V : List ByteArray) (wx : World) : Prop where
  c : ∀ j, j < n → wx.cell? ⟨g, j, none⟩ = some (.string (if j < k then V.getD j ⟨#[]⟩ else ⟨#[]⟩))
  f : ∀ j, j < n → wx.frozen? ⟨g, j, none⟩ = false
  b : Below w.heap.size w wx
  l1 : w.heap.size ≤ g
  l2 : g < wx.heap.size
theorem GS.start (w : World) (n : Nat) (V : List ByteArray) : GS w w.heap.size n 0 V (w.alloc (.cells (madeCells #[.string ⟨#[]⟩] n) 9)) := by
  have hz : ∀ j, j < n → (madeCells #[Value.string ⟨#[]⟩] n)[j]? = some (.string ⟨#[]⟩) := fun j hj => by
    rw [← Array.getElem?_toList, toList_madeCells_one]; simp [hj]
  refine ⟨fun j hj => ?_, fun j hj => frozen_of_row _ w.heap.size j _ 9 (heap_alloc_new w _), (Below.refl _ w).alloc (Nat.le_refl _) _, Nat.le_refl _, by simp⟩
  rw [cell_of_row _ w.heap.size j _ 9 (0, 0) (heap_alloc_new w _), if_neg (by omega)]; exact hz j hj
theorem GS.below {w : World} {g n k : Nat} {V : List ByteArray} {wx wy : World} (h : GS w g n k V wx) (hb : Below wx.heap.size wx wy) : GS w g n k V wy :=
  ⟨fun j hj => by rw [hb.cell (p := ⟨g, j, none⟩) h.l2]; exact h.c j hj, fun j hj => by rw [hb.frozen (p := ⟨g, j, none⟩) h.l2]; exact h.f j hj, h.b.trans (hb.mono h.b.size), h.l1, Nat.lt_of_lt_of_le h.l2 hb.size⟩
theorem GS.more {w : World} {g n k : Nat} {V : List ByteArray} {wx : World} (h : GS w g n k V wx) (hk : k < n) (v : ByteArray) (hv : V.getD k ⟨#[]⟩ = v) : GS w g n (k + 1) V (wx.setCell ⟨g, k, none⟩ (.string v)) := by
  refine ⟨fun j hj => ?_, fun j hj => by rw [World.frozen?_setCell]; exact h.f j hj, h.b.setCell (p := ⟨g, k, none⟩) h.l1 _, h.l1, by simpa using h.l2⟩
  by_cases e : j = k
  · subst e
    rw [World.cell?_setCell_same _ _ _ (h.c j hj), if_pos (by omega), hv]
  · rw [World.cell?_setCell_other _ _ _ _ (by intro q; injection q; omega), h.c j hj]
    by_cases q : j < k
    · rw [if_pos q, if_pos (by omega)]
    · rw [if_neg q, if_neg (by omega)]
theorem GS.fin {w : World} {g n : Nat} {V : List ByteArray} {wx : World} (h : GS w g n n V wx) (hn : V.length = n) : StIn wx (some ⟨g, 0, none⟩) V := by
  refine Or.inr ⟨g, 0, rfl, h.l2, fun i t ht => ?_⟩
  have hi := (List.getElem?_eq_some_iff.1 ht).1
  rw [Nat.zero_add, h.c i (by omega), if_pos (by omega), List.getD_eq_getElem?_getD, ht]; rfl
set_option maxRecDepth 100000 in
set_option maxHeartbeats 4000000 in
theorem group_any (a b : Option Addr) (c1 c2 : Nat) (l : List TagP) (ns : List ByteArray) (w : World) (hl : l.length ≤ 9223372036854775807) (hn : ns.length ≤ 8796093022208) (ha : TgIn w a l) (hb : StIn w b ns) :
    Calls Tryd.prog 13 #[.slice a l.length c1, .slice b ns.length c2] w fun e w' => ∃ g, e = .returned (.slice (some ⟨g, 0, none⟩) ns.length ns.length) ∧ GS w g ns.length ns.length (grpT l ns) w' := by
  have hV : Hid (∀ (s : ByteArray) (W : World), Below w.heap.size w W → Calls Tryd.prog 6 #[.slice a l.length c1, .string s] W fun e w' => e = .returned (.string (valT l s)) ∧ Below W.heap.size W w') := fun s W hW => value_any a c1 l s W hl (ha.below hW)
  have hBb : Hid (StIn w b ns) := hb
  have hmk := make_str ns.length hn
  have hG : Hid (∀ k s, ns[k]? = some s → (grpT l ns).getD k ⟨#[]⟩ = valT l s) := fun k s h => by simp [grpT, List.getD_eq_getElem?_getD, h]
  generalize grpT l ns = V at *
  clear ha hb
  obtain ⟨n, hnl⟩ : ∃ n, ns.length = n := ⟨_, rfl⟩
  have hN : Hid (ns.length = n) := hnl
  rw [hnl] at hn hmk ⊢
  clear hnl
  generalize l.length = q at *
  have hS0 : Hid (GS w w.heap.size n 0 V (w.alloc (.cells (madeCells #[.string ⟨#[]⟩] n) 9))) := GS.start w n V
  go_enter Tryd.func13, Tryd.ntmps13
  go_wp2_with fail
  obtain ⟨g, hg⟩ : ∃ g, g = w.heap.size := ⟨_, rfl⟩
  rw [← hg] at hS0 ⊢
  have hgw : Hid (g = w.heap.size) := hg
  clear hg hmk
  generalize w.alloc (.cells (madeCells #[.string ⟨#[]⟩] n) 9) = w0 at *
  go_loopw [13] (fun vi wr => ∃ k : Nat, vi = .int .i64 (k : Int) ∧ k ≤ n ∧ Hid (GS w g n k V wr)) (fun vi _ => n - (intOf vi).toNat)
  case atStart => exact ⟨0, rfl, by omega, hS0⟩
  case round =>
    clear hS0
    obtain ⟨k, rfl, hkn, hS⟩ := hrel
    have kw : IntKind.i64.wrap ((k : Int) + 1) = ((k + 1 : Nat) : Int) := IntWalk.i64_in _ (by omega)
    by_cases hk : k < n
    · have hkI : (k : Int) < (n : Int) := by omega
      have k0 : (0 : Int) ≤ (k : Int) := by omega
      obtain ⟨s, hs⟩ : ∃ t, ns[k]? = some t := ⟨_, List.getElem?_eq_getElem (by have := hN.out; omega)⟩
      obtain ⟨b1, o1, rfl, hb1, t1⟩ := hBb.out.at hS.out.b hs
      have C : Hid (Calls Tryd.prog 6 #[.slice a q c1, .string s] wr fun e w' => e = .returned (.string (valT l s)) ∧ Below wr.heap.size wr w') := hV.out s wr hS.out.b
      have hGk : Hid (V.getD k ⟨#[]⟩ = valT l s) := hG.out k s hs
      generalize valT l s = v at C hGk
      go_wp2_with fail
      refine Calls.mono C.out ?_
      rintro e w2 ⟨rfl, hb2⟩
      have S2 := hS.out.below hb2
      have c0 := S2.c k hk
      have f0 := S2.f k hk
      have S3 : Hid (GS w g n (k + 1) V (w2.setCell ⟨g, k, none⟩ (.string v))) := S2.more hk v hGk.out
      clear S2 hS C hb2 t1 hs
      go_wp2_with fail
      go_round
      case measure => simp only [intOf]; omega
      case rel => exact ⟨k + 1, by simp, by omega, S3⟩
    · have hkI : ¬ (k : Int) < (n : Int) := by omega
      obtain rfl : k = n := by omega
      go_wp2_with fail
      go_ret
      exact ⟨g, rfl, hS.out⟩
set_option maxRecDepth 100000 in
set_option maxHeartbeats 4000000 in
theorem join_any (a b : Option Addr) (c1 c2 : Nat) (ns vs : List ByteArray) (w : World) (hn : ns.length ≤ 4611686018427387904) (hv : vs.length ≤ 4611686018427387904) (ha : StIn w a ns) (hb : StIn w b vs) (hj : (joinP ns vs (min ns.length vs.length)).length ≤ 4398046511104)
    (hS : ∀ (a' : Option Addr) (c' : Nat) (W : World), w.heap.size ≤ W.heap.size → TgIn W a' (joinP ns vs (min ns.length vs.length)) → Calls Tryd.prog 10 #[.slice a' (joinP ns vs (min ns.length vs.length)).length c'] W fun e w' => SortedR W w' e (joinP ns vs (min ns.length vs.length)) ∧ Below W.heap.size W w') :
    Calls Tryd.prog 15 #[.slice a ns.length c1, .slice b vs.length c2] w fun e w' => SortedR w w' e (joinP ns vs (min ns.length vs.length)) ∧ Below w.heap.size w w' := by
  have hA : Hid (StIn w a ns) := ha
  have hBb : Hid (StIn w b vs) := hb
  have hSH : Hid _ := hS
  clear ha hb hS
  obtain ⟨p, hp⟩ : ∃ p, ns.length = p := ⟨_, rfl⟩
  obtain ⟨q, hq⟩ : ∃ q, vs.length = q := ⟨_, rfl⟩
  have hP : Hid (ns.length = p) := hp
  have hQ : Hid (vs.length = q) := hq
  rw [hp, hq] at hj hSH ⊢
  rw [hp] at hn
  rw [hq] at hv
  clear hp hq
  obtain ⟨m, hm⟩ : ∃ m, min p q = m := ⟨_, rfl⟩
  have hM : Hid (m ≤ p ∧ m ≤ q ∧ (m = p ∨ m = q)) := by show m ≤ p ∧ m ≤ q ∧ (m = p ∨ m = q); omega
  have hmI : min (p : Int) (q : Int) = (m : Int) := by omega
  rw [hm] at hj hSH ⊢
  clear hm
  obtain ⟨L, hL⟩ : ∃ L, joinP ns vs m = L := ⟨_, rfl⟩
  rw [hL] at hj hSH ⊢
  have hLH : Hid (joinP ns vs m = L) := hL
  clear hL
  go_enter Tryd.func15, Tryd.ntmps15
  go_wp2_with fail
  go_loopw [5, 12] (fun vl vi wr => ∃ (k : Nat) (a3 : Option Addr) (z c3 : Nat), vl = .slice a3 z c3 ∧ vi = .int .i64 (k : Int) ∧ k ≤ m ∧ Hid (OT wr w.heap.size (.slice a3 z c3) (joinP ns vs k)) ∧ Below w.heap.size w wr) (fun _ vi _ => m - (intOf vi).toNat)
  case atStart => exact ⟨0, none, 0, 0, rfl, rfl, by omega, OT.nil _ _, Below.refl _ _⟩
  case round =>
    obtain ⟨k, a3, z, c3, rfl, rfl, hkm, hO, hB⟩ := hrel
    have kw : IntKind.i64.wrap ((k : Int) + 1) = ((k + 1 : Nat) : Int) := IntWalk.i64_in _ (by have := hM.out; omega)
    by_cases hk : k < m
    · have hkI : (k : Int) < (m : Int) := by omega
      have hkp : (k : Int) < (p : Int) := by have := hM.out; omega
      have hkq : (k : Int) < (q : Int) := by have := hM.out; omega
      have k0 : (0 : Int) ≤ (k : Int) := by omega

      obtain ⟨x, hx⟩ : ∃ t, ns[k]? = some t := ⟨_, List.getElem?_eq_getElem (by have := hP.out; have := hM.out; omega)⟩
      obtain ⟨y, hy⟩ : ∃ t, vs[k]? = some t := ⟨_, List.getElem?_eq_getElem (by have := hQ.out; have := hM.out; omega)⟩
      obtain ⟨b1, o1, rfl, hb1, t1⟩ := hA.out.at hB hx
      obtain ⟨b2, o2, rfl, hb2, t2⟩ := hBb.out.at hB hy
      have hst := joinP_step hx hy
      by_cases he : y = ⟨#[]⟩
      · rw [if_pos he, List.append_nil] at hst
        have hO2 : Hid (OT wr w.heap.size (.slice a3 z c3) (joinP ns vs (k + 1))) := by rw [hst]; exact hO
        have hq2 : (y.toList == []) = true := by rw [he, ByteArray.toList_eq]; rfl
        have hBH : Hid (Below w.heap.size w wr) := hB
        clear hst he hB hO
        go_wp2_with fail
        go_round
        case measure => simp only [intOf]; omega
        case rel => exact ⟨k + 1, a3, z, c3, rfl, by simp, by omega, hO2, hBH.out⟩
      · rw [if_neg he] at hst
        have hq2 : (y.toList == []) = false := by
          rw [beq_eq_false_iff_ne]
          intro e
          rw [ByteArray.toList_eq] at e
          exact he (ByteArray.ext (Array.ext' e))
        obtain ⟨v1, w1, hr1, ho1, hb1'⟩ := app1T wr w.heap.size (.slice a3 z c3) (joinP ns vs k) hO.out hB.size x y (by
          have h1 : (joinP ns vs (k + 1)).length ≤ (joinP ns vs m).length := joinP_le ns vs (by omega)
          rw [hst, hLH.out, List.length_append, List.length_singleton] at h1
          omega)
        rw [← hst] at ho1
        obtain ⟨a4, c4, e4, _, _⟩ := ho1.tin
        subst e4
        generalize (joinP ns vs (k + 1)).length = z4 at *
        have hb1w : b1 < wr.heap.size := Nat.lt_of_lt_of_le hb1 hB.size
        have hb2w : b2 < wr.heap.size := Nat.lt_of_lt_of_le hb2 hB.size
        have hBn : Below w.heap.size w w1 := hB.trans hb1'
        have hSW : wr.cell? ⟨b1, o1 + k, none⟩ = some (.string x) ∧ wr.cell? ⟨b2, o2 + k, none⟩ = some (.string y) := ⟨t1, t2⟩
        have hSA : (wr.alloc (.cells #[.string x, .string y] 34)).drew.cell? ⟨b1, o1 + k, none⟩ = some (.string x) ∧ (wr.alloc (.cells #[.string x, .string y] 34)).drew.cell? ⟨b2, o2 + k, none⟩ = some (.string y) := by
          have hBa := (((Below.refl wr.heap.size wr).alloc (Nat.le_refl _) (.cells #[.string x, .string y] 34)).drew)
          exact ⟨by rw [hBa.cell (p := ⟨b1, o1 + k, none⟩) hb1w]; exact t1, by rw [hBa.cell (p := ⟨b2, o2 + k, none⟩) hb2w]; exact t2⟩
        have hS1 : w1.cell? ⟨b1, o1 + k, none⟩ = some (.string x) ∧ w1.cell? ⟨b2, o2 + k, none⟩ = some (.string y) := ⟨by rw [hb1'.cell (p := ⟨b1, o1 + k, none⟩) hb1]; exact t1, by rw [hb1'.cell (p := ⟨b2, o2 + k, none⟩) hb2]; exact t2⟩
        have hrH : Hid _ := hr1
        have hoH : Hid (OT w1 w.heap.size (.slice a4 z4 c4) (joinP ns vs (k + 1))) := ho1
        have hBH : Hid (Below w.heap.size w w1) := hBn
        clear hst he hr1 ho1 hb1' hO hB hBn hx hy
        go_wp2_with fail
        go_region_held3 (fun w' => w'.cell? ⟨b1, o1 + k, none⟩ = some (.string x) ∧ w'.cell? ⟨b2, o2 + k, none⟩ = some (.string y)) (first | assumption | exact ⟨by assumption, by assumption⟩)
          (first | (refine step_append_runS rfl (.tmp 20) (.tmp 30) 22 rfl _ _ _ _ rfl rfl hrH.out ?_))
        all_goals
          clear hSW hSA hS1 hrH t1 t2
          go_wp2_with fail
          go_roundw
          case rel => first | exact ⟨k + 1, a4, z4, c4, rfl, by simp, by omega, hoH, hBH.out⟩ | trace_state
          case measure => simp only [intOf]; omega
    · have hkI : ¬ (k : Int) < (m : Int) := by omega

      obtain rfl : k = m := by omega
      obtain ⟨a5, c5, e5, hc3, ht3⟩ := hO.out.tin
      injection e5 with e6 e7 e8
      subst e6 e8
      rw [hLH.out] at ht3 e7
      subst e7
      have C : Hid (Calls Tryd.prog 10 #[.slice a3 L.length c3] wr fun e w' => SortedR wr w' e L ∧ Below wr.heap.size wr w') := hSH.out a3 c3 wr hB.size ht3
      have hBH : Hid (Below w.heap.size w wr) := hB
      clear ht3 hO hB hSH hLH hj
      generalize hz : L.length = z at *
      clear hz
      go_wp2_with fail
      refine Calls.mono C.out ?_
      rintro e w2 ⟨hR, hb2⟩
      have hRH : Hid (SortedR w w2 e L ∧ Below w.heap.size w w2) := ⟨hR.wide hBH.out.size, hBH.out.trans (hb2.mono hBH.out.size)⟩
      clear hR hb2 C
      obtain ⟨v, rfl⟩ : ∃ v, e = .returned v := SortedR.ret hRH.out.1
      go_wp2_with fail
      go_ret
      exact hRH.out
end Go.Proofs.YtkpcndnefbaooaaDoor

namespace Go.Proofs.YtkpcndnefbaooaaDoor
open Go.RowKit _root_.Go.Proofs.YtkpcndnefbaooaaDoor.So
set_option linter.unusedVariables false
set_option linter.unusedSimpArgs false
/-! ### plain: what was grouped by unlike names is joined to tags that tell the same of them -/
theorem valT_none {s : ByteArray} : ∀ {L : List TagP}, (∀ t ∈ L, t.1 ≠ s) → valT L s = ⟨#[]⟩
  | [], _ => rfl
  | t :: r, h => by
    unfold valT
    rw [if_neg (h t List.mem_cons_self)]
    exact valT_none fun u hu => h u (List.mem_cons_of_mem _ hu)
theorem valT_mem {s v : ByteArray} : ∀ {L : List TagP}, SK kl L → (s, v) ∈ L → valT L s = v
  | [], _, h => by cases h
  | t :: r, hs, h => by
    obtain ⟨hx, hr⟩ := List.pairwise_cons.1 hs
    unfold valT
    rcases List.mem_cons.1 h with e | e
    · rw [← e, if_pos rfl]
    · have := hx _ e
      rw [if_neg (fun c => by rw [c, kl_ko.irr] at this; cases this)]
      exact valT_mem hr e
theorem valT_key {s : ByteArray} : ∀ {L : List TagP}, valT L s ≠ ⟨#[]⟩ → ∃ t ∈ L, t.1 = s
  | [], h => absurd rfl h
  | t :: r, h => by
    unfold valT at h
    by_cases c : t.1 = s
    · exact ⟨t, List.mem_cons_self, c⟩
    · rw [if_neg c] at h
      obtain ⟨u, hu, hs⟩ := valT_key h
      exact ⟨u, List.mem_cons_of_mem _ hu, hs⟩
theorem sortT_sk (l : List TagP) : SK kl (sortT l) := by
  have := (srtD_is kl_ko (atT l) l.length).1
  rw [atT_map] at this; exact this
theorem sortT_mem (l : List TagP) (e : TagP) : e ∈ sortT l ↔ ∃ k, k < l.length ∧ atT l k = e ∧ ∀ j, k < j → j < l.length → (atT l j).1 ≠ (atT l k).1 := by
  have := (srtD_is kl_ko (atT l) l.length).2 e
  rw [atT_map] at this; exact this
theorem atT_get (l : List TagP) {k : Nat} (h : k < l.length) : atT l k = l[k] := by simp [atT, List.getD_eq_getElem?_getD, List.getElem?_eq_getElem h]
theorem sortT_in {l : List TagP} {e : TagP} (h : e ∈ sortT l) : e ∈ l := by
  obtain ⟨k, hk, rfl, _⟩ := (sortT_mem l e).1 h
  rw [atT_get l hk]; exact List.getElem_mem hk
theorem sortT_all {l : List TagP} (hn : (l.map (·.1)).Nodup) {e : TagP} (h : e ∈ l) : e ∈ sortT l := by
  obtain ⟨k, hk, rfl⟩ := List.getElem_of_mem h
  refine (sortT_mem l _).2 ⟨k, hk, atT_get l hk, fun j h1 h2 he => ?_⟩
  rw [atT_get l h2, atT_get l hk] at he
  have h3 : (l.map (·.1))[j]'(by simpa using h2) = (l.map (·.1))[k]'(by simpa using hk) := by simpa using he
  have := (List.getElem_inj hn).1 h3
  omega
theorem joinP_mem (ns vs : List ByteArray) (t : TagP) : ∀ m, t ∈ joinP ns vs m ↔ ∃ k, k < m ∧ vs.getD k ⟨#[]⟩ ≠ ⟨#[]⟩ ∧ t = (ns.getD k ⟨#[]⟩, vs.getD k ⟨#[]⟩)
  | 0 => by simp [joinP]
  | m + 1 => by
    unfold joinP
    rw [List.mem_append, joinP_mem ns vs t m]
    constructor
    · rintro (⟨k, h1, h2, h3⟩ | h)
      · exact ⟨k, by omega, h2, h3⟩
      · split at h
        · cases h
        · rename_i c
          exact ⟨m, by omega, c, List.mem_singleton.1 h⟩
    · rintro ⟨k, h1, h2, h3⟩
      rcases Nat.lt_or_ge k m with c | c
      · exact Or.inl ⟨k, c, h2, h3⟩
      · obtain rfl : k = m := by omega
        right; rw [if_neg h2]; exact List.mem_singleton.2 h3
theorem getD_get (l : List ByteArray) {k : Nat} (h : k < l.length) : l.getD k ⟨#[]⟩ = l[k] := by simp [List.getD_eq_getElem?_getD, List.getElem?_eq_getElem h]
theorem names_inj {ns : List ByteArray} (hn : ns.Nodup) {i j : Nat} (hi : i < ns.length) (hj : j < ns.length) (h : ns.getD i ⟨#[]⟩ = ns.getD j ⟨#[]⟩) : i = j := by
  rw [getD_get ns hi, getD_get ns hj] at h
  exact (List.getElem_inj hn).1 h
theorem joinP_keys {ns : List ByteArray} (hn : ns.Nodup) (vs : List ByteArray) : ∀ m, m ≤ ns.length → ((joinP ns vs m).map (·.1)).Nodup
  | 0, _ => by simp [joinP]
  | m + 1, h => by
    unfold joinP
    rw [List.map_append, List.nodup_append]
    refine ⟨joinP_keys hn vs m (by omega), by split <;> simp, fun a ha b hb e => ?_⟩
    subst e
    obtain ⟨t, ht, rfl⟩ := List.mem_map.1 ha
    obtain ⟨k, h1, h2, rfl⟩ := (joinP_mem ns vs t m).1 ht
    split at hb
    · cases hb
    · have := names_inj hn (show k < ns.length by omega) (show m < ns.length by omega) (by simpa using hb)
      omega
theorem nodup_le {α : Type} [DecidableEq α] : ∀ (a b : List α), a.Nodup → (∀ x ∈ a, x ∈ b) → a.length ≤ b.length
  | [], b, _, _ => Nat.zero_le _
  | x :: r, b, h, hs => by
    obtain ⟨h1, h2⟩ := List.nodup_cons.1 h
    have hx := hs x List.mem_cons_self
    have := nodup_le r (b.erase x) h2 fun y hy => (List.mem_erase_of_ne (fun e => h1 (by rw [← e]; exact hy))).2 (hs y (List.mem_cons_of_mem _ hy))
    rw [List.length_erase_of_mem hx] at this
    have hp : 0 < b.length := List.length_pos_of_mem hx
    rw [List.length_cons]; omega
theorem joinP_few {l : List TagP} {ns : List ByteArray} (hn : ns.Nodup) : (joinP ns (grpT l ns) ns.length).length ≤ l.length := by
  have := nodup_le ((joinP ns (grpT l ns) ns.length).map (·.1)) (l.map (·.1)) (joinP_keys hn _ _ (Nat.le_refl _)) fun x hx => by
    obtain ⟨t, ht, rfl⟩ := List.mem_map.1 hx
    obtain ⟨k, h1, h2, rfl⟩ := (joinP_mem _ _ t _).1 ht
    have e : (grpT l ns).getD k ⟨#[]⟩ = valT l (ns.getD k ⟨#[]⟩) := by simp [grpT, List.getD_eq_getElem?_getD, List.getElem?_eq_getElem h1]
    rw [e] at h2
    obtain ⟨u, hu, hs⟩ := valT_key h2
    exact List.mem_map.2 ⟨u, hu, hs⟩
  simpa using this
theorem join_group {ns g : List ByteArray} (hn : ns.Nodup) (hg : g.length = ns.length) : grpT (sortT (joinP ns g ns.length)) ns = g := by
  apply List.ext_getElem
  · simp [grpT, hg]
  · intro i h1 h2
    have hi : i < ns.length := by omega
    simp only [grpT, List.getElem_map]
    by_cases c : g[i] = ⟨#[]⟩
    · rw [c]
      refine valT_none fun t ht he => ?_
      obtain ⟨k, k1, k2, rfl⟩ := (joinP_mem ns g t _).1 (sortT_in ht)
      have := names_inj hn k1 hi (by rw [getD_get ns hi]; exact he)
      subst this
      rw [getD_get g h2] at k2
      exact k2 c
    · refine valT_mem (sortT_sk _) (sortT_all (joinP_keys hn _ _ (Nat.le_refl _)) ((joinP_mem ns g _ _).2 ⟨i, hi, by rw [getD_get g h2]; exact c, by rw [getD_get ns hi, getD_get g h2]⟩))
theorem So.SortedR.tin {w w' : World} {e : Ending} {l : List TagP} (h : SortedR w w' e l) : ∃ a c, e = .returned (.slice a (sortT l).length c) ∧ TgIn w' a (sortT l) := by
  rcases h with ⟨rfl, h⟩ | ⟨g, m, cap, G, h1, h2, h3, h4, h5⟩
  · exact ⟨none, 0, h, Or.inl rfl⟩
  · refine ⟨some ⟨g, 0, none⟩, cap, ?_, by rw [← h5]; exact h4.tin⟩
    rw [h1, ← h5]; simp
def Unl (ns : List ByteArray) (i : Nat) : Prop := ∀ a b x y, a < b → b < i → ns[a]? = some x → ns[b]? = some y → y ≠ x
theorem Unl.nodup {ns : List ByteArray} (h : Unl ns ns.length) : ns.Nodup := by
  rw [List.nodup_iff_pairwise_ne, List.pairwise_iff_getElem]
  intro i j hi hj hij e
  exact h i j _ _ hij hj (List.getElem?_eq_getElem hi) (List.getElem?_eq_getElem hj) e.symm
set_option maxRecDepth 100000 in
set_option maxHeartbeats 4000000 in
theorem keyJoins_walk (a b : Option Addr) (c1 c2 : Nat) (l : List TagP) (ns : List ByteArray) (w : World) (ha : TgIn w a l) (hb : StIn w b ns) (hl : l.length ≤ 4398046511104) (hn : ns.length ≤ 8796093022208) (hT : UT w) (hg : ET w) :
    Calls Tryd.prog 4 #[.slice a l.length c1, .slice b ns.length c2] w fun e w' => e = .returned (.bool true) ∧ Below w.heap.size w w' := by
  have CL : Hid (∀ W, Below w.heap.size w W → Calls Tryd.prog 8 #[] W fun e w' => e = .returned (.bool true) ∧ Below W.heap.size W w') := fun W hW => live_any W (hT.below hW (Nat.le_refl _)) (ET_below hg hW)
  have CG : Hid (∀ W, Below w.heap.size w W → Calls Tryd.prog 13 #[.slice a l.length c1, .slice b ns.length c2] W fun e w' => ∃ g, e = .returned (.slice (some ⟨g, 0, none⟩) ns.length ns.length) ∧ GS W g ns.length ns.length (grpT l ns) w') := fun W hW => group_any a b c1 c2 l ns W (by omega) hn (ha.below hW) (hb.below hW)
  have CF : Hid (ns.Nodup → ∀ g1 W, Below w.heap.size w W → StIn W (some ⟨g1, 0, none⟩) (grpT l ns) → Calls Tryd.prog 15 #[.slice b ns.length c2, .slice (some ⟨g1, 0, none⟩) ns.length ns.length] W fun e w' => ∃ aj zj cj, e = .returned (.slice aj zj cj) ∧ Below W.heap.size W w' ∧ ∀ W2, Below w'.heap.size w' W2 → Calls Tryd.prog 13 #[.slice aj zj cj, .slice b ns.length c2] W2 fun e w3 => ∃ g, e = .returned (.slice (some ⟨g, 0, none⟩) ns.length ns.length) ∧ Below W2.heap.size W2 w3 ∧ Calls Tryd.prog 12 #[.slice (some ⟨g, 0, none⟩) ns.length ns.length, .slice (some ⟨g1, 0, none⟩) ns.length ns.length] w3 fun e w4 => e = .returned (.bool true) ∧ Below w3.heap.size w3 w4) := by
    intro hnd g1 W hW hS1
    have hlen : (grpT l ns).length = ns.length := by simp [grpT]
    have hmin : min ns.length (grpT l ns).length = ns.length := by omega
    have hfew := joinP_few (l := l) hnd
    have hj := join_any b (some ⟨g1, 0, none⟩) c2 ns.length ns (grpT l ns) W (by omega) (by omega) (hb.below hW) hS1 (by rw [hmin]; omega) (fun a' c' W' _ h' => sort_any a' c' _ W' h' (by rw [hmin]; omega))
    rw [hmin, hlen] at hj
    refine hj.mono fun e w1 h1 => ?_
    obtain ⟨h1, h2⟩ := h1
    obtain ⟨aj, cj, e1, ht⟩ := h1.tin
    have hslen : (sortT (joinP ns (grpT l ns) ns.length)).length ≤ 9223372036854775807 := by
      have h1 : (sortT (joinP ns (grpT l ns) ns.length)).length ≤ (joinP ns (grpT l ns) ns.length).length := by
        have := nodup_le ((sortT (joinP ns (grpT l ns) ns.length)).map (·.1)) ((joinP ns (grpT l ns) ns.length).map (·.1)) ?_ ?_
        · simpa using this
        · rw [List.nodup_iff_pairwise_ne, List.pairwise_map]
          exact (sortT_sk _).imp fun hab e => by rw [e, kl_ko.irr] at hab; cases hab
        · intro x hx
          obtain ⟨t, ht, rfl⟩ := List.mem_map.1 hx
          exact List.mem_map.2 ⟨t, sortT_in ht, rfl⟩
      omega
    refine ⟨aj, _, cj, e1, h2, fun W2 hW2 => ?_⟩
    have hW2w : Below w.heap.size w W2 := (hW.trans (h2.mono hW.size)).trans (hW2.mono (Nat.le_trans hW.size h2.size))
    refine (group_any aj b cj c2 _ ns W2 hslen hn (ht.below hW2) (hb.below hW2w)).mono fun e w3 h3 => ?_
    obtain ⟨g, e3, h4⟩ := h3
    rw [join_group hnd hlen] at h4
    refine ⟨g, e3, h4.b, ?_⟩
    have hS3 := h4.fin hlen
    have hB3 : Below W.heap.size W w3 := (h2.trans (hW2.mono h2.size)).trans (h4.b.mono (Nat.le_trans h2.size hW2.size))
    have := sameTexts_any (some ⟨g, 0, none⟩) (some ⟨g1, 0, none⟩) (grpT l ns) ns.length ns.length w3 (by omega) hS3 (hS1.below hB3)
    rw [hlen] at this
    exact this
  have hBb : Hid (StIn w b ns) := hb
  have CV : Hid (∀ g W w1, GS W g ns.length ns.length (grpT l ns) w1 → StIn w1 (some ⟨g, 0, none⟩) (grpT l ns)) := fun g W w1 h => h.fin (by simp [grpT])
  clear ha hb hT hg hl
  obtain ⟨n, hnl⟩ : ∃ n, ns.length = n := ⟨_, rfl⟩
  have hN : Hid (ns.length = n) := hnl
  rw [hnl] at hn CG CF CV ⊢
  clear hnl
  generalize l.length = q at *
  generalize grpT l ns = V at *
  have hnn : ((n : Int) == (n : Int)) = true := by simp
  go_enter Tryd.func4, Tryd.ntmps4
  go_wp2_with fail
  go_loopw [5] (fun vi wr => ∃ i : Nat, vi = .int .i64 (i : Int) ∧ i ≤ n ∧ Hid (Unl ns i) ∧ Below w.heap.size w wr) (fun vi _ => n - (intOf vi).toNat)
  case atStart => exact ⟨0, rfl, by omega, fun a b x y h1 h2 => by omega, Below.refl _ _⟩
  case round =>
    obtain ⟨i, rfl, hin, hU, hB⟩ := hrel
    have iw : IntKind.i64.wrap ((i : Int) + 1) = ((i + 1 : Nat) : Int) := IntWalk.i64_in _ (by omega)
    by_cases hi : i < n
    · have hiI : (i : Int) < (n : Int) := by omega
      have i0 : (0 : Int) ≤ (i : Int) := by omega
      have hBH : Hid (Below w.heap.size w wr) := hB
      clear hB
      go_wp2_with fail
      go_loopw [6] (fun vk wq => ∃ k : Nat, vk = .int .i64 (k : Int) ∧ k ≤ i ∧ Hid (∀ a x y, a < k → ns[a]? = some x → ns[i]? = some y → y ≠ x) ∧ Below w.heap.size w wq) (fun vk _ => i - (intOf vk).toNat)
      case atStart => exact ⟨0, rfl, by omega, fun a x y h => by omega, hBH.out⟩
      case round =>
        clear hBH
        obtain ⟨k, rfl, hki, hV, hB⟩ := hrel
        have kw : IntKind.i64.wrap ((k : Int) + 1) = ((k + 1 : Nat) : Int) := IntWalk.i64_in _ (by omega)
        by_cases hk : k < i
        · have hkI : (k : Int) < (i : Int) := by omega
          have k0 : (0 : Int) ≤ (k : Int) := by omega
          have kn : (k : Int) < (n : Int) := by omega
          obtain ⟨x, hx⟩ : ∃ t, ns[i]? = some t := ⟨_, List.getElem?_eq_getElem (by have := hN.out; omega)⟩
          obtain ⟨y, hy⟩ : ∃ t, ns[k]? = some t := ⟨_, List.getElem?_eq_getElem (by have := hN.out; omega)⟩
          obtain ⟨b1, o1, rfl, hb1, t1⟩ := hBb.out.at hB hx
          obtain ⟨b2, o2, e2, hb2, t2⟩ := hBb.out.at hB hy
          injection e2 with e2
          injection e2 with e3 e4
          subst e3 e4
          have hBH : Hid (Below w.heap.size w wr.drew) := hB.drew
          clear hB
          by_cases he : x = y
          · have hq : (x.toList == y.toList) = true := by rw [he]; simp
            have hBw : Below w.heap.size w wr := ⟨hBH.out.os, hBH.out.tape, hBH.out.output, hBH.out.size, hBH.out.block⟩
            have C : Hid (∀ q, Calls Tryd.prog 8 #[] (wr.drewN q) fun e w' => e = .returned (.bool true) ∧ Below w.heap.size w w') := fun q => (CL.out (wr.drewN q) (bdrewN hBw q)).mono fun e w' h => ⟨h.1, (bdrewN hBw q).trans (h.2.mono (bdrewN hBw q).size)⟩
            clear hBw
            clear he hx hy
            go_wp2_with fail
            go_quiet (fail)
            go_wp2_with fail
            refine Calls.mono (C.out _) ?_
            rintro e w2 ⟨rfl, hb3⟩
            go_wp2_with fail
            go_ret
            exact ⟨rfl, hb3⟩
          · have hq : (x.toList == y.toList) = false := by rw [ba_dec]; exact decide_eq_false he
            have nx : Hid (∀ a x y, a < k + 1 → ns[a]? = some x → ns[i]? = some y → y ≠ x) := fun a x' y' h1 h2 h3 => by
              by_cases c : a < k
              · exact hV.out a x' y' c h2 h3
              · obtain rfl : a = k := by omega
                rw [hx] at h3
                rw [hy] at h2
                cases h2; cases h3
                exact he
            clear he hx hy hV
            go_wp2_with fail
            go_quiet (fail)
            go_wp2_with fail
            go_round
            case measure => simp only [intOf]; omega
            case rel => exact ⟨k + 1, by simp, by omega, nx, ⟨hBH.out.os, hBH.out.tape, hBH.out.output, hBH.out.size, hBH.out.block⟩⟩
        · have hkI : ¬ (k : Int) < (i : Int) := by omega
          obtain rfl : k = i := by omega
          have nx : Hid (Unl ns (k + 1)) := fun a b x y h1 h2 h3 h4 => by
            by_cases c : b < k
            · exact hU.out a b x y h1 c h3 h4
            · obtain rfl : b = k := by omega
              exact hV.out a x y h1 h3 h4
          have hBH : Hid (Below w.heap.size w wr) := hB
          clear hU hV hB
          go_wp2_with fail
          go_round
          case measure => simp only [intOf]; omega
          case rel => exact ⟨k + 1, by simp, by omega, nx, hBH.out⟩
    · have hiI : ¬ (i : Int) < (n : Int) := by omega
      obtain rfl : i = n := by omega
      have hnd : Hid ns.Nodup := by
        have := hU.out
        rw [← hN.out] at this
        exact this.nodup
      have C1 : Hid _ := CG.out wr hB
      clear hU CG
      go_wp2_with fail
      refine Calls.mono C1.out ?_
      rintro e w1 ⟨g1, rfl, G1⟩
      have S1 := CV.out g1 wr w1 G1
      have B1 : Below w.heap.size w w1 := hB.trans (G1.b.mono hB.size)
      have C2 : Hid _ := CL.out w1 B1
      have S1H : Hid (StIn w1 (some ⟨g1, 0, none⟩) V) := S1
      have B1H : Hid (Below w.heap.size w w1) := B1
      clear C1 G1 S1 hB B1
      go_wp2_with fail
      refine Calls.mono C2.out ?_
      rintro e w2 ⟨rfl, b2⟩
      have C3 : Hid _ := CF.out hnd.out g1 w2 (B1H.out.trans (b2.mono B1H.out.size)) (S1H.out.below b2)
      have B2H : Hid (Below w.heap.size w w2) := B1H.out.trans (b2.mono B1H.out.size)
      clear C2 b2 B1H S1H
      go_wp2_with fail
      refine Calls.mono C3.out ?_
      rintro e w3 ⟨aj, zj, cj, rfl, b3, k3⟩
      have C4 : Hid _ := k3 w3 (Below.refl _ _)
      have B3H : Hid (Below w.heap.size w w3) := B2H.out.trans (b3.mono B2H.out.size)
      clear C3 b3 k3 B2H
      go_wp2_with fail
      refine Calls.mono C4.out ?_
      rintro e w4 ⟨g2, rfl, b4, k4⟩
      have C5 : Hid _ := k4
      have B4H : Hid (Below w.heap.size w w4) := B3H.out.trans (b4.mono B3H.out.size)
      clear C4 b4 k4 B3H
      go_wp2_with fail
      refine Calls.mono C5.out ?_
      rintro e w5 ⟨rfl, b5⟩
      have B5H : Hid (Below w.heap.size w w5) := B4H.out.trans (b5.mono B4H.out.size)
      clear C5 b5 B4H
      go_wp2_with fail
      go_ret
      exact ⟨rfl, B5H.out⟩
end Go.Proofs.YtkpcndnefbaooaaDoor

namespace Go.Proofs.YtkpcndnefbaooaaDoor
open Go.RowKit _root_.Go.Proofs.YtkpcndnefbaooaaDoor.So
set_option linter.unusedVariables false
set_option linter.unusedSimpArgs false
set_option maxRecDepth 100000 in
set_option maxHeartbeats 4000000 in
theorem rvalue_any (a : Option Addr) (c : Nat) (l : List TagP) (s : ByteArray) (w : World) (hl : l.length ≤ 4611686018427387904) (ha : TgIn w a l) :
    Calls Tryd.prog 7 #[.slice a l.length c, .string s] w fun e w' => e = .returned (.string (valT l s)) ∧ w' = w := by
  have hA : Hid (TgIn w a l) := ha
  clear ha
  obtain ⟨R, hR⟩ : ∃ R, valT l s = R := ⟨_, rfl⟩
  have hR0 : Hid (valT (l.drop 0) s = R) := hR
  rw [hR]
  clear hR
  obtain ⟨n, hn⟩ : ∃ n, l.length = n := ⟨_, rfl⟩
  have hN : Hid (l.length = n) := hn
  rw [hn] at hl ⊢
  clear hn
  go_enter Tryd.func7, Tryd.ntmps7
  go_wp2_with fail
  go_loopw [5] (fun i wr => ∃ k : Nat, i = .int .i64 (k : Int) ∧ k ≤ n ∧ Hid (valT (l.drop k) s = R) ∧ wr = w) (fun i _ => n - (intOf i).toNat)
  case atStart => exact ⟨0, rfl, by omega, hR0, rfl⟩
  case round =>
    obtain ⟨k, rfl, hkn, hI, hw⟩ := hrel
    subst hw
    have kw : IntKind.i64.wrap ((k : Int) + 1) = ((k + 1 : Nat) : Int) := IntWalk.i64_in _ (by omega)
    by_cases hk : k < n
    · have hkI : (k : Int) < (n : Int) := by omega
      have k0 : (0 : Int) ≤ (k : Int) := by omega
      obtain ⟨t, ht⟩ : ∃ t, l[k]? = some t := ⟨_, List.getElem?_eq_getElem (by have := hN.out; omega)⟩
      obtain ⟨b1, o1, rfl, hb1, t1, t2⟩ := hA.out.at (Below.refl _ _) ht
      have hst := valT_step ht s
      rw [hI.out] at hst
      obtain ⟨tk, tv⟩ := t
      simp only at t1 t2 hst
      by_cases he : tk = s
      · rw [if_pos he] at hst
        have hz : Hid (tv = R) := hst.symm
        have hq : (tk.toList == s.toList) = true := by rw [he]; simp
        clear hst he
        go_wp2_with fail
        go_ret
        exact ⟨by rw [← hz.out]; rfl, rfl⟩
      · rw [if_neg he] at hst
        have hz : Hid (valT (l.drop (k + 1)) s = R) := hst.symm
        have hq : (tk.toList == s.toList) = false := by rw [ba_dec]; exact decide_eq_false he
        clear hst he
        go_wp2_with fail
        go_round
        case measure => simp only [intOf]; omega
        case rel => exact ⟨k + 1, by simp, by omega, hz, trivial⟩
    · have hkI : ¬ (k : Int) < (n : Int) := by omega
      have hE : Hid (R = ⟨#[]⟩) := by
        have := hI.out
        rw [List.drop_eq_nil_of_le (by have := hN.out; omega)] at this
        exact this.symm
      go_wp2_with fail
      go_ret
      exact ⟨by rw [hE.out]; rfl, rfl⟩
/-! ### texts appended -/
def encX (l : List ByteArray) : List Value := l.map .string
theorem encX_len (l : List ByteArray) : (encX l).length = l.length * 1 := by simp [encX]
theorem str_info : (Tryd.prog.info? 9).map (fun i => (i.zero, i.bytes, i.size)) = some (some (.string ⟨#[]⟩), 16, 1) := by kernel_rfl
def OX (w : World) (B : Nat) (v : Value) (l : List ByteArray) : Prop := w.ownsRow B 9 1 v l.length (encX l)
theorem OX.nil (w : World) (B : Nat) : OX w B (.slice none 0 0) [] := ⟨rfl, Or.inl ⟨rfl, rfl⟩⟩
theorem OX.below {w w' : World} {B C : Nat} {v : Value} {l : List ByteArray} (h : OX w B v l) (hb : Below C w w') (hC : w.heap.size ≤ C) : OX w' B v l := by
  refine ⟨h.1, ?_⟩
  rcases h.2 with h2 | ⟨g, cap, cur, e1, e2, e3, e4⟩
  · exact Or.inl h2
  · exact Or.inr ⟨g, cap, cur, e1, e2, by rw [hb.block g (Nat.lt_of_lt_of_le (Array.getElem?_eq_some_iff.1 e3).1 hC)]; exact e3, e4⟩
theorem OX.sin {w : World} {B : Nat} {v : Value} {l : List ByteArray} (h : OX w B v l) : ∃ a cap, v = .slice a l.length cap ∧ l.length ≤ cap ∧ StIn w a l := by
  rcases h.2 with ⟨e, e0⟩ | ⟨g, cap, cur, e1, _, hg, hc, _⟩
  · exact ⟨none, 0, by rw [e, e0], by omega, Or.inl (List.eq_nil_of_length_eq_zero e0)⟩
  · subst e1
    have hcs := World.ownsRow.cells h (g := g) rfl
    refine ⟨some ⟨g, 0, none⟩, cap, rfl, hc, Or.inr ⟨g, 0, rfl, (World.ownsRow.lt h g rfl).2, fun i s hs => ?_⟩⟩
    have k1 := hcs i (.string s) (by simp [encX, hs])
    rw [tag_add, Nat.zero_add] at k1
    rw [Nat.zero_add]; exact k1
theorem app1X (W : World) (B : Nat) (v : Value) (l : List ByteArray) (h : OX W B v l) (hB : B ≤ W.heap.size) (x : ByteArray) (hn : l.length + 1 ≤ 8796093022208) :
    ∃ v' w', (Builtin.append_ #[23, 23] 23 #[v, .slice (some ⟨W.heap.size, 0, none⟩) 1 1]).run Tryd.prog (W.alloc (.cells #[.string x] 9)) = .ok v' w' ∧ OX w' B v' (l ++ [x]) ∧ Below B W w' := by
  have b1 : Below W.heap.size W (W.alloc (.cells #[.string x] 9)) := (Below.refl _ W).alloc (Nat.le_refl _) _
  have ho2 := h.below b1 (Nat.le_refl _)
  obtain ⟨i, i1, i0⟩ := Option.map_eq_some_iff.1 str_info
  have i2 : i.zero = some (.string ⟨#[]⟩) := congrArg (·.1) i0
  have i3 : i.bytes = 16 := congrArg (·.2.1) i0
  have i4 : i.size = 1 := congrArg (·.2.2) i0
  have hml : maxLen = 9223372036854775807 := by decide
  have hB2 := Nat.le_trans hB b1.size
  obtain ⟨g, cap, w', hr, own, gr, hat, hlt⟩ := run_append_lies (P := Tryd.prog) _ 23 23 B 9 i (.string ⟨#[]⟩) 1 16 Tryd.underlying23 i1 i2 i4 i3 rfl (by omega) v l.length (encX l) ho2 ⟨W.heap.size, 0, none⟩ 1 1 [.string x] rfl (fun j u hj => by
    cases j with
    | zero => simp at hj; subst hj; simp [go_sem]
    | succ j => simp at hj) (by simp; rfl) (by omega) (by omega) (by omega) hB2 _ rfl
  refine ⟨_, w', hr, ?_, (b1.mono hB).trans ((Below.refl B _).grown gr hB2 (fun k e => (World.ownsRow.lt ho2 k e).1))⟩
  unfold OX
  rw [List.length_append, List.length_singleton]
  have : encX (l ++ [x]) = encX l ++ [.string x] := by simp [encX]
  rw [this]; exact own
set_option maxRecDepth 100000 in
set_option maxHeartbeats 4000000 in
theorem rgroup_any (a b : Option Addr) (c1 c2 : Nat) (l : List TagP) (ns : List ByteArray) (w : World) (hl : l.length ≤ 4611686018427387904) (hn : ns.length ≤ 8796093022208) (ha : TgIn w a l) (hb : StIn w b ns) :
    Calls Tryd.prog 14 #[.slice a l.length c1, .slice b ns.length c2] w fun e w' => ∃ a' c', e = .returned (.slice a' (grpT l ns).length c') ∧ StIn w' a' (grpT l ns) ∧ Below w.heap.size w w' := by
  have hV : Hid (∀ (s : ByteArray) (W : World), Below w.heap.size w W → Calls Tryd.prog 7 #[.slice a l.length c1, .string s] W fun e w' => e = .returned (.string (valT l s)) ∧ w' = W) := fun s W hW => rvalue_any a c1 l s W hl (ha.below hW)
  have hBb : Hid (StIn w b ns) := hb
  have hG : Hid (∀ k s, ns[k]? = some s → grpT l (ns.take (k + 1)) = grpT l (ns.take k) ++ [valT l s]) := fun k s h => by
    obtain ⟨h1, rfl⟩ := List.getElem?_eq_some_iff.1 h
    rw [List.take_succ_eq_append_getElem h1, grpT, List.map_append]; rfl
  have hE : Hid (grpT l (ns.take ns.length) = grpT l ns) := by rw [List.take_length]; exact rfl
  clear ha hb
  obtain ⟨n, hnl⟩ : ∃ n, ns.length = n := ⟨_, rfl⟩
  have hN : Hid (ns.length = n) := hnl
  rw [hnl] at hn hE ⊢
  clear hnl
  generalize l.length = q at *
  go_enter Tryd.func14, Tryd.ntmps14
  go_wp2_with fail
  go_loopw [5, 6] (fun vl vi wr => ∃ (k : Nat) (a3 : Option Addr) (z c3 : Nat), vl = .slice a3 z c3 ∧ vi = .int .i64 (k : Int) ∧ k ≤ n ∧ Hid (OX wr w.heap.size (.slice a3 z c3) (grpT l (ns.take k))) ∧ Below w.heap.size w wr) (fun _ vi _ => n - (intOf vi).toNat)
  case atStart => exact ⟨0, none, 0, 0, rfl, rfl, by omega, OX.nil _ _, Below.refl _ _⟩
  case round =>
    obtain ⟨k, a3, z, c3, rfl, rfl, hkn, hO, hB⟩ := hrel
    have kw : IntKind.i64.wrap ((k : Int) + 1) = ((k + 1 : Nat) : Int) := IntWalk.i64_in _ (by omega)
    by_cases hk : k < n
    · have hkI : (k : Int) < (n : Int) := by omega
      have k0 : (0 : Int) ≤ (k : Int) := by omega
      obtain ⟨s, hs⟩ : ∃ t, ns[k]? = some t := ⟨_, List.getElem?_eq_getElem (by have := hN.out; omega)⟩
      obtain ⟨b1, o1, rfl, hb1, t1⟩ := hBb.out.at hB hs
      have C : Hid (Calls Tryd.prog 7 #[.slice a q c1, .string s] wr fun e w' => e = .returned (.string (valT l s)) ∧ w' = wr) := hV.out s wr hB
      have hGk := hG.out k s hs
      generalize valT l s = v at C hGk
      obtain ⟨v1, w1, hr1, ho1, hb1'⟩ := app1X wr w.heap.size (.slice a3 z c3) _ hO.out hB.size v (by simp [grpT]; omega)
      rw [← hGk] at ho1
      obtain ⟨a4, c4, e4, _, _⟩ := ho1.sin
      subst e4
      generalize (grpT l (ns.take (k + 1))).length = z4 at *
      have hrH : Hid (∀ W, W = wr.alloc (.cells #[.string v] 9) → (Builtin.append_ #[23, 23] 23 #[.slice a3 z c3, .slice (some ⟨wr.heap.size, 0, none⟩) 1 1]).run Tryd.prog W = .ok (.slice a4 z4 c4) w1) := fun W e => by subst e; exact hr1
      have hoH : Hid (OX w1 w.heap.size (.slice a4 z4 c4) (grpT l (ns.take (k + 1)))) := ho1
      have hBH : Hid (Below w.heap.size w w1) := hB.trans hb1'
      clear hr1 ho1 hb1' hO hB hs hGk
      go_wp2_with fail
      refine Calls.mono C.out ?_
      rintro e w2 ⟨rfl, hw⟩
      subst hw
      clear C
      go_wp2_with (at_builtin; refine wpList_append_runS (by rfl) _ _ _ (by rfl) _ _ _ _ (by rfl) (by rfl) (hrH.out _ rfl) ?_)
      go_round
      case measure => simp only [intOf]; omega
      case rel => exact ⟨k + 1, a4, z4, c4, rfl, by simp, by omega, hoH, hBH.out⟩
    · have hkI : ¬ (k : Int) < (n : Int) := by omega
      obtain rfl : k = n := by omega
      obtain ⟨a5, c5, e5, hc3, ht3⟩ := hO.out.sin
      injection e5 with e6 e7 e8
      subst e6 e8
      rw [hE.out] at ht3 e7
      have fin : Hid (StIn wr a3 (grpT l ns)) := ht3
      subst e7
      clear hO ht3 hG hE
      go_wp2_with fail
      go_ret
      exact ⟨a3, ⟨c3, rfl⟩, fin.out, hB⟩
/-! ### the document's Sort, plain: where a tag goes -/
theorem ins_same (t u : TagP) : ∀ (s : List TagP) (k : Nat), (∀ j v, j < k → s[j]? = some v → kl v.1 t.1 = true) → s[k]? = some u → u.1 = t.1 → insD kl t s = s.set k (u.1, t.2)
  | [], k, _, h, _ => by simp at h
  | x :: r, 0, _, h, e => by
    simp at h; subst h
    unfold insD
    rw [if_neg (by rw [e, kl_ko.irr]; simp), if_pos e]; rfl
  | x :: r, k + 1, hl, h, e => by
    unfold insD
    rw [if_pos (hl 0 x (by omega) rfl), ins_same t u r k (fun j v a b => hl (j + 1) v (by omega) (by simpa using b)) (by simpa using h) e]; rfl
theorem ins_new (t : TagP) : ∀ (s : List TagP) (k : Nat), (∀ j v, j < k → s[j]? = some v → kl v.1 t.1 = true) → k ≤ s.length → (∀ u, s[k]? = some u → kl u.1 t.1 = false ∧ u.1 ≠ t.1) → insD kl t s = s.take k ++ t :: s.drop k
  | [], k, _, hk, _ => by
    obtain rfl : k = 0 := by simpa using hk
    rfl
  | x :: r, 0, _, _, h => by
    obtain ⟨h1, h2⟩ := h x rfl
    unfold insD
    rw [if_neg (by rw [h1]; simp), if_neg h2]; rfl
  | x :: r, k + 1, hl, hk, h => by
    unfold insD
    rw [if_pos (hl 0 x (by omega) rfl), ins_new t r k (fun j v a b => hl (j + 1) v (by omega) (by simpa using b)) (by simpa using hk) (fun u hu => h u (by simpa using hu))]; rfl
/-- the row while one is let in: a hole at k. -/
def Mv (s : List TagP) (k : Nat) : List TagP := s.take k ++ s.getD k noT :: s.drop k
theorem Mv_start (s : List TagP) : s ++ [noT] = Mv s s.length := by simp [Mv]
theorem Mv_len {s : List TagP} {k : Nat} (h : k ≤ s.length) : (Mv s k).length = s.length + 1 := by simp [Mv]; omega
theorem Mv_at {s : List TagP} {k : Nat} (h : k ≤ s.length) (j : Nat) : (Mv s k)[j]? = if j < k then s[j]? else if j = k then some (s.getD k noT) else s[j - 1]? := by
  unfold Mv
  rw [List.getElem?_append]
  have hl : (s.take k).length = k := by simp; omega
  rw [hl]
  split
  · rename_i c
    rw [List.getElem?_take, if_pos c]
  · rename_i c
    split
    · rename_i e
      subst e; simp
    · rename_i e
      rw [show j - k = (j - k - 1) + 1 by omega, List.getElem?_cons_succ, List.getElem?_drop]
      congr 1; omega
theorem Mv_get {s : List TagP} {k : Nat} {x : TagP} (h : 0 < k) (hx : s[k - 1]? = some x) : (Mv s k)[k - 1]? = some x := by
  have := (List.getElem?_eq_some_iff.1 hx).1
  rw [Mv_at (by omega), if_pos (by omega), hx]
theorem Mv_step {s : List TagP} {k : Nat} {x : TagP} (h : 0 < k) (hk : k ≤ s.length) (hx : s[k - 1]? = some x) : (Mv s k).set k (x.1, x.2) = Mv s (k - 1) := by
  apply List.ext_getElem?
  intro j
  have hl := Mv_len hk
  rw [List.getElem?_set, Mv_at hk, Mv_at (show k - 1 ≤ s.length by omega)]
  have hg : s.getD (k - 1) noT = x := by rw [List.getD_eq_getElem?_getD, hx]; rfl
  by_cases c : k = j
  · subst c
    rw [if_pos rfl, if_pos (by omega), if_neg (by omega), if_neg (by omega), hx]
  · rw [if_neg c]
    by_cases d : j < k
    · rw [if_pos d]
      by_cases e : j < k - 1
      · rw [if_pos e]
      · obtain rfl : j = k - 1 := by omega
        rw [if_neg (by omega), if_pos rfl, hg, hx]
    · rw [if_neg d, if_neg (by omega), if_neg (by omega), if_neg (by omega)]
theorem Mv_end {s : List TagP} {k : Nat} {t : TagP} (hk : k ≤ s.length) : (Mv s k).set k t = s.take k ++ t :: s.drop k := by
  unfold Mv
  have hl : (s.take k).length = k := by simp; omega
  rw [List.set_append_right _ _ (by omega), hl, Nat.sub_self]; rfl
theorem encT_set (x y : ByteArray) : ∀ (l : List TagP) (k : Nat), k < l.length → encT (l.set k (x, y)) = ((encT l).set (k * 2) (.string x)).set (k * 2 + 1) (.string y)
  | [], k, h => by simp at h
  | t :: r, 0, _ => rfl
  | t :: r, k + 1, h => by
    rw [List.set_cons_succ]
    simp only [encT]
    rw [encT_set x y r k (by simpa using h), show (k + 1) * 2 = k * 2 + 2 by omega]
    rfl
theorem encT_setV (y : ByteArray) : ∀ (l : List TagP) (k : Nat) (u : TagP), l[k]? = some u → encT (l.set k (u.1, y)) = (encT l).set (k * 2 + 1) (.string y)
  | [], k, u, h => by simp at h
  | t :: r, 0, u, h => by simp at h; subst h; rfl
  | t :: r, k + 1, u, h => by
    rw [List.set_cons_succ]
    simp only [encT]
    rw [encT_setV y r k u (by simpa using h), show (k + 1) * 2 + 1 = k * 2 + 1 + 2 by omega]
    rfl
theorem sortT_len (l : List TagP) : (sortT l).length ≤ l.length := by
  have := nodup_le (sortT l) l ?_ (fun x hx => sortT_in hx)
  · exact this
  · rw [List.nodup_iff_pairwise_ne]
    exact (sortT_sk l).imp fun hab e => by rw [e, kl_ko.irr] at hab; cases hab
theorem sortT_nil {l : List TagP} (h : sortT l = []) : l = [] := by
  rcases Nat.eq_zero_or_pos l.length with e | e
  · exact List.eq_nil_of_length_eq_zero e
  · have := (sortT_mem l (atT l (l.length - 1))).2 ⟨l.length - 1, by omega, rfl, fun j a b => by omega⟩
    rw [h] at this; cases this
/-- what stands while the document sorts: a row of its own. -/
def RSt (w : World) (v : Value) (S : List TagP) (W : World) : Prop := OT W w.heap.size v S ∧ Below w.heap.size w W
theorem RSt.drewN {w W : World} {v : Value} {S : List TagP} (h : RSt w v S W) (q : Nat) : RSt w v S (W.drewN q) := ⟨h.1.below (bdrewN (Below.refl W.heap.size W) q) (Nat.le_refl _), bdrewN h.2 q⟩
theorem RSt.len {w W : World} {a : Option Addr} {z c : Nat} {S : List TagP} (h : RSt w (.slice a z c) S W) : S.length = z := by
  obtain ⟨a', c', e, _⟩ := h.1.tin
  injection e with _ e _
  exact e.symm
theorem RSt.at {w W : World} {a : Option Addr} {z c k : Nat} {S : List TagP} {u : TagP} (h : RSt w (.slice a z c) S W) (hu : S[k]? = some u) :
    ∃ g, a = some ⟨g, 0, none⟩ ∧ w.heap.size ≤ g ∧ W.cell? ⟨g, k * 2, none⟩ = some (.string u.1) ∧ W.cell? ⟨g, k * 2 + 1, none⟩ = some (.string u.2) ∧ W.frozen? ⟨g, k * 2, none⟩ = false ∧ W.frozen? ⟨g, k * 2 + 1, none⟩ = false := by
  have hl := h.len
  have hk := (List.getElem?_eq_some_iff.1 hu).1
  rcases World.ownsRow.form h.1 (by omega) with ⟨g, cap, e, hB, _⟩
  injection e with e1 e2 e3
  subst e1
  obtain ⟨h1, h2⟩ := encT_get S k u hu
  have hcs := World.ownsRow.cells h.1 (g := g) rfl
  have k1 := hcs _ _ h1
  have k2 := hcs _ _ h2
  rw [tag_add, Nat.zero_add] at k1 k2
  have h3 := h.1
  unfold OT at h3
  rw [← hl] at h3
  exact ⟨g, rfl, hB, k1, k2, World.ownsRow.frozenAt h3 _, World.ownsRow.frozenAt h3 _⟩
theorem RSt.set {w W : World} {g z c k : Nat} {S : List TagP} (h : RSt w (.slice (some ⟨g, 0, none⟩) z c) S W) (hg : w.heap.size ≤ g) {x y : ByteArray} (hk : k < S.length) : RSt w (.slice (some ⟨g, 0, none⟩) z c) (S.set k (x, y)) ((W.setCell ⟨g, k * 2, none⟩ (.string x)).setCell ⟨g, k * 2 + 1, none⟩ (.string y)) := by
  have hl := h.len
  subst hl
  have s1 := (World.ownsRow.stored h.1 (k * 2) (.string x)).1
  have s2 := (World.ownsRow.stored s1 (k * 2 + 1) (.string y)).1
  refine ⟨?_, (h.2.setCell (p := ⟨g, k * 2, none⟩) hg _).setCell (p := ⟨g, k * 2 + 1, none⟩) hg _⟩
  unfold OT
  rw [List.length_set, encT_set x y S k hk]
  exact s2
theorem RSt.setV {w W : World} {g z c k : Nat} {S : List TagP} {u : TagP} (h : RSt w (.slice (some ⟨g, 0, none⟩) z c) S W) (hg : w.heap.size ≤ g) {y : ByteArray} (hu : S[k]? = some u) : RSt w (.slice (some ⟨g, 0, none⟩) z c) (S.set k (u.1, y)) (W.setCell ⟨g, k * 2 + 1, none⟩ (.string y)) := by
  have hl := h.len
  subst hl
  have s1 := (World.ownsRow.stored h.1 (k * 2 + 1) (.string y)).1
  refine ⟨?_, h.2.setCell (p := ⟨g, k * 2 + 1, none⟩) hg _⟩
  unfold OT
  rw [List.length_set, encT_setV y S k u hu]
  exact s1
theorem RSt.sorted {w W : World} {v : Value} {l : List TagP} (h : RSt w v (sortT l) W) : SortedR w W (.returned v) l := by
  rcases h.1.2 with ⟨e, e0⟩ | ⟨g, cap, cur, e1, hB, _, hc, _⟩
  · exact Or.inl ⟨sortT_nil (List.eq_nil_of_length_eq_zero e0), by rw [e]⟩
  · subst e1
    exact Or.inr ⟨g, _, cap, atT (sortT l), rfl, hB, hc, OT.tr h.1, atT_map _⟩
theorem app1Tn (W : World) (B : Nat) (v : Value) (l : List TagP) (h : OT W B v l) (hB : B ≤ W.heap.size) (x y : ByteArray) (hn : l.length + 1 ≤ 4398046511104) :
    ∃ v' w', (Builtin.append_ #[22, 22] 22 #[v, .slice (some ⟨W.heap.size, 0, none⟩) 1 1]).run Tryd.prog (W.alloc (.cells #[.string x, .string y] 34)) = .ok v' w' ∧ OT w' B v' (l ++ [(x, y)]) ∧ Below B W w' := by
  have b1 : Below W.heap.size W (W.alloc (.cells #[.string x, .string y] 34)) := (Below.refl _ W).alloc (Nat.le_refl _) _
  have ho2 := h.below b1 (Nat.le_refl _)
  obtain ⟨v', w', hr, ho, hg, _⟩ := appT _ B v l [(x, y)] ho2 (Nat.le_trans hB b1.size) (some ⟨W.heap.size, 0, none⟩) 1 (Or.inr ⟨W.heap.size, 0, rfl, by simp, fun i t ht => by
    cases i with
    | zero => simp at ht; subst ht; exact ⟨by simp [go_sem], by simp [go_sem]⟩
    | succ i => simp at ht⟩) (by simp; omega)
  exact ⟨v', w', hr, ho, (b1.mono hB).trans (grown_below ho2 (Nat.le_trans hB b1.size) hg)⟩
theorem kl_less (a b : ByteArray) : Op.bytesLess a.toList b.toList = kl a b := by rw [less_str]; rfl
set_option maxRecDepth 100000 in
set_option maxHeartbeats 8000000 in
theorem rsort_any (a : Option Addr) (c : Nat) (l : List TagP) (w : World) (h : TgIn w a l) (hn : l.length ≤ 4398046511103) :
    Calls Tryd.prog 11 #[.slice a l.length c] w fun e w' => SortedR w w' e l ∧ Below w.heap.size w w' := by
  have hA : Hid (TgIn w a l) := h
  clear h
  obtain ⟨n, hnl⟩ : ∃ n, l.length = n := ⟨_, rfl⟩
  have hN : Hid (l.length = n) := hnl
  rw [hnl] at hn ⊢
  clear hnl
  go_enter Tryd.func11, Tryd.ntmps11
  go_wp2_with fail
  go_loopw [3, 4] (fun vo vi wr => ∃ (i : Nat) (a3 : Option Addr) (z c3 : Nat), vo = .slice a3 z c3 ∧ vi = .int .i64 (i : Int) ∧ i ≤ n ∧ Hid (RSt w (.slice a3 z c3) (sortT (l.take i)) wr)) (fun _ vi _ => n - (intOf vi).toNat)
  case atStart => exact ⟨0, none, 0, 0, rfl, rfl, by omega, ⟨OT.nil _ _, Below.refl _ _⟩⟩
  case round =>
    obtain ⟨i, a3, z, c3, rfl, rfl, hin, hR⟩ := hrel
    have iw : IntKind.i64.wrap ((i : Int) + 1) = ((i + 1 : Nat) : Int) := IntWalk.i64_in _ (by omega)
    by_cases hi : i < n
    · have hiI : (i : Int) < (n : Int) := by omega
      have i0 : (0 : Int) ≤ (i : Int) := by omega
      obtain ⟨t, ht⟩ : ∃ t, l[i]? = some t := ⟨_, List.getElem?_eq_getElem (by have := hN.out; omega)⟩
      obtain ⟨b1, o1, rfl, hb1, _, _⟩ := hA.out.at (Below.refl _ _) ht
      have hcl : Hid (∀ W, Below w.heap.size w W → W.cell? ⟨b1, o1 + i * 2, none⟩ = some (.string t.1) ∧ W.cell? ⟨b1, o1 + i * 2 + 1, none⟩ = some (.string t.2)) := fun W hW => by
        obtain ⟨_, _, e, _, x1, x2⟩ := hA.out.at hW ht
        cases e
        exact ⟨x1, x2⟩
      have hnx : Hid (sortT (l.take (i + 1)) = insD kl t (sortT (l.take i))) := by
        obtain ⟨h1, rfl⟩ := List.getElem?_eq_some_iff.1 ht
        show _ = _
        rw [List.take_succ_eq_append_getElem h1, sortT, srtD_more]; rfl
      have hlen : (sortT (l.take i)).length ≤ i := Nat.le_trans (sortT_len _) (by simp; omega)
      generalize sortT (l.take i) = S at hR hnx hlen
      have hz : Hid (S.length = z) := hR.out.len
      have hzi : z ≤ i := by have := hz.out; omega
      clear hlen ht
      obtain ⟨tk, tv⟩ := t
      have hcl : Hid (∀ W, Below w.heap.size w W → W.cell? ⟨b1, o1 + i * 2, none⟩ = some (.string tk) ∧ W.cell? ⟨b1, o1 + i * 2 + 1, none⟩ = some (.string tv)) := hcl
      go_wp2_with fail
      go_loopw [5] (fun vk wx => ∃ k : Nat, vk = .int .i64 (k : Int) ∧ k ≤ z ∧ Hid (∀ j u, j < k → S[j]? = some u → kl u.1 tk = true) ∧ Hid (RSt w (.slice a3 z c3) S wx)) (fun vk _ => z - (intOf vk).toNat)
      case atStart => exact ⟨0, rfl, by omega, fun j u h => by omega, hR⟩
      case round =>
        clear hR
        obtain ⟨k, rfl, hkz, hlo, hR⟩ := hrel
        have kw : IntKind.i64.wrap ((k : Int) + 1) = ((k + 1 : Nat) : Int) := IntWalk.i64_in _ (by omega)
        have k0 : (0 : Int) ≤ (k : Int) := by omega
        by_cases hk : k < z
        · have hkI : (k : Int) < (z : Int) := by omega
          have hkd : decide ((k : Int) < (z : Int)) = true := decide_eq_true hkI
          have hkz1 : (k : Int) < (z : Int) + 1 := by omega
          obtain ⟨u, hu⟩ : ∃ u, S[k]? = some u := ⟨_, List.getElem?_eq_getElem (by have := hz.out; omega)⟩
          obtain ⟨g, rfl, hg, _, _, _, _⟩ := hR.out.at hu
          obtain ⟨uk, uv⟩ := u
          have huH : Hid (S[k]? = some (uk, uv)) := hu
          obtain ⟨c1, c2⟩ := hcl.out wr hR.out.2
          obtain ⟨_, e1, _, d1, d2, f1, f2⟩ := hR.out.at hu
          cases e1
          simp only at d1 d2
          clear hu
          cases hlt : kl uk tk with
          | true =>
            have hq : Op.bytesLess uk.toList tk.toList = true := by rw [kl_less]; exact hlt
            have nx : Hid (∀ j u, j < k + 1 → S[j]? = some u → kl u.1 tk = true) := fun j u h1 h2 => by
              by_cases c : j < k
              · exact hlo.out j u c h2
              · obtain rfl : j = k := by omega
                rw [huH.out] at h2
                cases h2; exact hlt
            clear hlt hlo huH
            go_wp2_with fail
            go_quiet (fail)
            go_wp2_with fail
            go_round
            case measure => simp only [intOf]; omega
            case rel => exact ⟨k + 1, by simp, by omega, nx, hR.out.drewN _⟩
          | false =>
            have hq : Op.bytesLess uk.toList tk.toList = false := by rw [kl_less]; exact hlt
            by_cases he : uk = tk
            · have hqe : (uk.toList == tk.toList) = true := by rw [he]; simp
              have hfin : Hid (insD kl (tk, tv) S = S.set k (uk, tv)) := ins_same (tk, tv) (uk, uv) S k (fun j v a b => hlo.out j v a b) huH.out he
              clear hlo he hlt
              go_wp2_with fail
              go_quiet (fail)
              generalize hwq : World.drewN wr _ = wq
              have R2 : RSt w (.slice (some ⟨g, 0, none⟩) z c3) S wq := hwq ▸ hR.out.drewN _
              clear hR c1 c2 d1 d2 f1 f2 hwq
              obtain ⟨c1, c2⟩ := hcl.out wq R2.2
              obtain ⟨_, e1, _, d1, d2, f1, f2⟩ := R2.at huH.out
              cases e1
              simp only at d1 d2
              have R2H : Hid (RSt w (.slice (some ⟨g, 0, none⟩) z c3) S wq) := R2
              clear R2
              go_wp2_with fail
              go_quiet (fail)
              generalize hwq : World.drewN wq _ = w3
              have R3 : RSt w (.slice (some ⟨g, 0, none⟩) z c3) S w3 := hwq ▸ R2H.out.drewN _
              clear R2H c1 c2 d1 d2 f1 f2 hwq
              obtain ⟨c1, c2⟩ := hcl.out w3 R3.2
              obtain ⟨_, e1, _, d1, d2, f1, f2⟩ := R3.at huH.out
              cases e1
              simp only at d1 d2
              have R4 : Hid (RSt w (.slice (some ⟨g, 0, none⟩) z c3) (sortT (l.take (i + 1))) (w3.setCell ⟨g, k * 2 + 1, none⟩ (.string tv))) := by
                show RSt _ _ _ _
                rw [hnx.out, hfin.out]; exact R3.setV hg huH.out
              clear R3 hfin hnx huH
              go_wp2_with fail
              exact ⟨⟨i + 1, some ⟨g, 0, none⟩, z, c3, rfl, by first | rfl | simp, by omega, R4⟩, by simp [intOf]; omega⟩
            · have hqe : (uk.toList == tk.toList) = false := by rw [ba_dec]; exact decide_eq_false he
              have hnew : Hid (∀ u, S[k]? = some u → kl u.1 (tk, tv).1 = false ∧ u.1 ≠ (tk, tv).1) := fun u h => by
                rw [huH.out] at h
                cases h; exact ⟨hlt, he⟩
              clear he hlt
              go_wp2_with fail
              go_quiet (fail)
              generalize hwq : World.drewN wr _ = wq
              have R2 : RSt w (.slice (some ⟨g, 0, none⟩) z c3) S wq := hwq ▸ hR.out.drewN _
              clear hR c1 c2 d1 d2 f1 f2 hwq
              obtain ⟨c1, c2⟩ := hcl.out wq R2.2
              obtain ⟨_, e1, _, d1, d2, f1, f2⟩ := R2.at huH.out
              cases e1
              simp only at d1 d2
              have R2H : Hid (RSt w (.slice (some ⟨g, 0, none⟩) z c3) S wq) := R2
              clear R2
              go_wp2_with fail
              go_quiet (fail)
              generalize hwq : World.drewN wq _ = w3
              have R2 : RSt w (.slice (some ⟨g, 0, none⟩) z c3) S w3 := hwq ▸ R2H.out.drewN _
              clear R2H c1 c2 d1 d2 f1 f2 hwq huH
              obtain ⟨v1, w1, hr1, ho1, hb1'⟩ := app1Tn w3 w.heap.size (.slice (some ⟨g, 0, none⟩) z c3) S R2.1 R2.2.size ⟨#[]⟩ ⟨#[]⟩ (by have := hz.out; omega)
              have ho1 : OT w1 w.heap.size v1 (Mv S z) := by rw [← hz.out, ← Mv_start]; exact ho1
              have hmz : (Mv S z).length = z + 1 := by have := hz.out; rw [Mv_len (by omega)]; omega
              have e3 : ∃ g4 c4, v1 = .slice (some ⟨g4, 0, none⟩) (z + 1) c4 := by
                rcases World.ownsRow.form ho1 (by omega) with ⟨g4, c4, e, _⟩
                exact ⟨g4, c4, by rw [e, hmz]⟩
              obtain ⟨g4, c4, rfl⟩ := e3
              have hrH : Hid (∀ W, W = w3.alloc (.cells #[.string ⟨#[]⟩, .string ⟨#[]⟩] 34) → (Builtin.append_ #[22, 22] 22 #[.slice (some ⟨g, 0, none⟩) z c3, .slice (some ⟨w3.heap.size, 0, none⟩) 1 1]).run Tryd.prog W = .ok (.slice (some ⟨g4, 0, none⟩) (z + 1) c4) w1) := fun W e => by subst e; exact hr1
              have R3 : Hid (RSt w (.slice (some ⟨g4, 0, none⟩) (z + 1) c4) (Mv S z) w1) := ⟨ho1, R2.2.trans hb1'⟩
              have hfin : Hid (insD kl (tk, tv) S = S.take k ++ (tk, tv) :: S.drop k) := ins_new (tk, tv) S k (fun j u h1 h2 => hlo.out j u h1 h2) (by have := hz.out; omega) hnew.out
              have zw : IntKind.i64.wrap ((z : Int) + 1 - 1) = (z : Int) := by rw [show (z : Int) + 1 - 1 = (z : Int) by omega]; exact IntWalk.i64_in _ (by omega)
              clear hr1 ho1 hb1' R2 hmz hlo hnew
              go_wp2_with (at_builtin; refine wpList_append_runS (by rfl) _ _ _ (by rfl) _ _ _ _ (by rfl) (by rfl) (hrH.out _ rfl) ?_)
              clear hrH
              go_loopw [6] (fun vj wx => ∃ j : Nat, vj = .int .i64 (j : Int) ∧ k ≤ j ∧ j ≤ z ∧ Hid (RSt w (.slice (some ⟨g4, 0, none⟩) (z + 1) c4) (Mv S j) wx)) (fun vj _ => (intOf vj).toNat)
              case atStart => exact ⟨z, by first | rfl | (congr 1; omega), hkz, Nat.le_refl _, R3⟩
              case round =>
                clear R3 zw
                obtain ⟨j, rfl, hkj, hjz, hR⟩ := hrel
                have jz1 : (j : Int) < (z : Int) + 1 := by omega
                have j0 : (0 : Int) ≤ (j : Int) := by omega
                by_cases hj : k < j
                · have hjI : (k : Int) < (j : Int) := by omega
                  have jw : IntKind.i64.wrap ((j : Int) - 1) = (j : Int) - 1 := IntWalk.i64_in _ (by omega)
                  have j1 : (0 : Int) ≤ (j : Int) - 1 := by omega
                  have j2 : (j : Int) - 1 < (z : Int) + 1 := by omega
                  have j3 : (1 : Int) ≤ (j : Int) := by omega
                  obtain ⟨x, hx⟩ : ∃ x, S[j - 1]? = some x := ⟨_, List.getElem?_eq_getElem (by have := hz.out; omega)⟩
                  obtain ⟨_, e1, hg4, d1, d2, _, _⟩ := hR.out.at (Mv_get (by omega) hx)
                  cases e1
                  obtain ⟨y, hy⟩ : ∃ y, (Mv S j)[j]? = some y := ⟨_, List.getElem?_eq_getElem (by rw [Mv_len (by have := hz.out; omega)]; have := hz.out; omega)⟩
                  obtain ⟨_, e1, _, d3, d4, f3, f4⟩ := hR.out.at hy
                  cases e1
                  have R4 : Hid (RSt w (.slice (some ⟨g4, 0, none⟩) (z + 1) c4) (Mv S (j - 1)) ((wr.setCell ⟨g4, j * 2, none⟩ (.string x.1)).setCell ⟨g4, j * 2 + 1, none⟩ (.string x.2))) := by
                    have := hR.out.set hg4 (k := j) (x := x.1) (y := x.2) (by rw [Mv_len (by have := hz.out; omega)]; have := hz.out; omega)
                    rw [Mv_step (by omega) (by have := hz.out; omega) hx] at this
                    exact this
                  obtain ⟨xk, xv⟩ := x
                  obtain ⟨yk, yv⟩ := y
                  simp only at d1 d2 d3 d4 R4
                  clear hR hx hy
                  go_wp2_with fail
                  first | (exfalso; omega) | exact ⟨⟨j - 1, by congr 1; omega, by omega, by omega, R4⟩, by simp [intOf]; omega⟩
                · have hjI : ¬ (k : Int) < (j : Int) := by omega
                  obtain rfl : j = k := by omega
                  obtain ⟨x1, x2⟩ := hcl.out wr hR.out.2
                  obtain ⟨y, hy⟩ : ∃ y, (Mv S j)[j]? = some y := ⟨_, List.getElem?_eq_getElem (by rw [Mv_len (by have := hz.out; omega)]; have := hz.out; omega)⟩
                  obtain ⟨_, e1, hg4, d3, d4, f3, f4⟩ := hR.out.at hy
                  cases e1
                  have R4 : Hid (RSt w (.slice (some ⟨g4, 0, none⟩) (z + 1) c4) (sortT (l.take (i + 1))) ((wr.setCell ⟨g4, j * 2, none⟩ (.string tk)).setCell ⟨g4, j * 2 + 1, none⟩ (.string tv))) := by
                    have := hR.out.set hg4 (k := j) (x := tk) (y := tv) (by rw [Mv_len (by have := hz.out; omega)]; have := hz.out; omega)
                    rw [Mv_end (by have := hz.out; omega)] at this
                    rw [hnx.out, hfin.out]; exact this
                  obtain ⟨yk, yv⟩ := y
                  simp only at d3 d4
                  clear hR hy hfin
                  go_wp2_with fail
                  exact ⟨⟨i + 1, some ⟨g4, 0, none⟩, z + 1, c4, rfl, by first | rfl | simp, by omega, R4⟩, by simp [intOf]; omega⟩
        · have hkI : ¬ (k : Int) < (z : Int) := by omega
          have hkd : decide ((k : Int) < (z : Int)) = false := decide_eq_false hkI
          have hkz1 : (k : Int) < (z : Int) + 1 := by omega
          have hnew : Hid (∀ u, S[k]? = some u → kl u.1 (tk, tv).1 = false ∧ u.1 ≠ (tk, tv).1) := fun u h => by
            have := (List.getElem?_eq_some_iff.1 h).1
            have := hz.out
            omega
          go_wp2_with fail
          go_quiet (fail)
          generalize hwq : World.drewN wr _ = wq
          have R2 : RSt w (.slice a3 z c3) S wq := hwq ▸ hR.out.drewN _
          clear hR hwq
          have R2H : Hid (RSt w (.slice a3 z c3) S wq) := R2
          clear R2
          go_wp2_with fail
          go_quiet (fail)
          generalize hwq : World.drewN wq _ = w3
          have R2 : RSt w (.slice a3 z c3) S w3 := hwq ▸ R2H.out.drewN _
          clear R2H hwq
          obtain ⟨v1, w1, hr1, ho1, hb1'⟩ := app1Tn w3 w.heap.size (.slice a3 z c3) S R2.1 R2.2.size ⟨#[]⟩ ⟨#[]⟩ (by have := hz.out; omega)
          have ho1 : OT w1 w.heap.size v1 (Mv S z) := by rw [← hz.out, ← Mv_start]; exact ho1
          have hmz : (Mv S z).length = z + 1 := by have := hz.out; rw [Mv_len (by omega)]; omega
          have e3 : ∃ g4 c4, v1 = .slice (some ⟨g4, 0, none⟩) (z + 1) c4 := by
            rcases World.ownsRow.form ho1 (by omega) with ⟨g4, c4, e, _⟩
            exact ⟨g4, c4, by rw [e, hmz]⟩
          obtain ⟨g4, c4, rfl⟩ := e3
          have hrH : Hid (∀ W, W = w3.alloc (.cells #[.string ⟨#[]⟩, .string ⟨#[]⟩] 34) → (Builtin.append_ #[22, 22] 22 #[.slice a3 z c3, .slice (some ⟨w3.heap.size, 0, none⟩) 1 1]).run Tryd.prog W = .ok (.slice (some ⟨g4, 0, none⟩) (z + 1) c4) w1) := fun W e => by subst e; exact hr1
          have R3 : Hid (RSt w (.slice (some ⟨g4, 0, none⟩) (z + 1) c4) (Mv S z) w1) := ⟨ho1, R2.2.trans hb1'⟩
          have hfin : Hid (insD kl (tk, tv) S = S.take k ++ (tk, tv) :: S.drop k) := ins_new (tk, tv) S k (fun j u h1 h2 => hlo.out j u h1 h2) (by have := hz.out; omega) hnew.out
          have zw : IntKind.i64.wrap ((z : Int) + 1 - 1) = (z : Int) := by rw [show (z : Int) + 1 - 1 = (z : Int) by omega]; exact IntWalk.i64_in _ (by omega)
          clear hr1 ho1 hb1' R2 hmz hlo hnew
          go_wp2_with (at_builtin; refine wpList_append_runS (by rfl) _ _ _ (by rfl) _ _ _ _ (by rfl) (by rfl) (hrH.out _ rfl) ?_)
          clear hrH
          go_loopw [6] (fun vj wx => ∃ j : Nat, vj = .int .i64 (j : Int) ∧ k ≤ j ∧ j ≤ z ∧ Hid (RSt w (.slice (some ⟨g4, 0, none⟩) (z + 1) c4) (Mv S j) wx)) (fun vj _ => (intOf vj).toNat)
          case atStart => exact ⟨z, by first | rfl | (congr 1; omega), hkz, Nat.le_refl _, R3⟩
          case round =>
            clear R3 zw
            obtain ⟨j, rfl, hkj, hjz, hR⟩ := hrel
            have jz1 : (j : Int) < (z : Int) + 1 := by omega
            have j0 : (0 : Int) ≤ (j : Int) := by omega
            by_cases hj : k < j
            · have hjI : (k : Int) < (j : Int) := by omega
              have jw : IntKind.i64.wrap ((j : Int) - 1) = (j : Int) - 1 := IntWalk.i64_in _ (by omega)
              have j1 : (0 : Int) ≤ (j : Int) - 1 := by omega
              have j2 : (j : Int) - 1 < (z : Int) + 1 := by omega
              have j3 : (1 : Int) ≤ (j : Int) := by omega
              obtain ⟨x, hx⟩ : ∃ x, S[j - 1]? = some x := ⟨_, List.getElem?_eq_getElem (by have := hz.out; omega)⟩
              obtain ⟨_, e1, hg4, d1, d2, _, _⟩ := hR.out.at (Mv_get (by omega) hx)
              cases e1
              obtain ⟨y, hy⟩ : ∃ y, (Mv S j)[j]? = some y := ⟨_, List.getElem?_eq_getElem (by rw [Mv_len (by have := hz.out; omega)]; have := hz.out; omega)⟩
              obtain ⟨_, e1, _, d3, d4, f3, f4⟩ := hR.out.at hy
              cases e1
              have R4 : Hid (RSt w (.slice (some ⟨g4, 0, none⟩) (z + 1) c4) (Mv S (j - 1)) ((wr.setCell ⟨g4, j * 2, none⟩ (.string x.1)).setCell ⟨g4, j * 2 + 1, none⟩ (.string x.2))) := by
                have := hR.out.set hg4 (k := j) (x := x.1) (y := x.2) (by rw [Mv_len (by have := hz.out; omega)]; have := hz.out; omega)
                rw [Mv_step (by omega) (by have := hz.out; omega) hx] at this
                exact this
              obtain ⟨xk, xv⟩ := x
              obtain ⟨yk, yv⟩ := y
              simp only at d1 d2 d3 d4 R4
              clear hR hx hy
              go_wp2_with fail
              first | (exfalso; omega) | exact ⟨⟨j - 1, by congr 1; omega, by omega, by omega, R4⟩, by simp [intOf]; omega⟩
            · have hjI : ¬ (k : Int) < (j : Int) := by omega
              obtain rfl : j = k := by omega
              obtain ⟨x1, x2⟩ := hcl.out wr hR.out.2
              obtain ⟨y, hy⟩ : ∃ y, (Mv S j)[j]? = some y := ⟨_, List.getElem?_eq_getElem (by rw [Mv_len (by have := hz.out; omega)]; have := hz.out; omega)⟩
              obtain ⟨_, e1, hg4, d3, d4, f3, f4⟩ := hR.out.at hy
              cases e1
              have R4 : Hid (RSt w (.slice (some ⟨g4, 0, none⟩) (z + 1) c4) (sortT (l.take (i + 1))) ((wr.setCell ⟨g4, j * 2, none⟩ (.string tk)).setCell ⟨g4, j * 2 + 1, none⟩ (.string tv))) := by
                have := hR.out.set hg4 (k := j) (x := tk) (y := tv) (by rw [Mv_len (by have := hz.out; omega)]; have := hz.out; omega)
                rw [Mv_end (by have := hz.out; omega)] at this
                rw [hnx.out, hfin.out]; exact this
              obtain ⟨yk, yv⟩ := y
              simp only at d3 d4
              clear hR hy hfin
              go_wp2_with fail
              exact ⟨⟨i + 1, some ⟨g4, 0, none⟩, z + 1, c4, rfl, by first | rfl | simp, by omega, R4⟩, by simp [intOf]; omega⟩
    · have hiI : ¬ (i : Int) < (n : Int) := by omega
      obtain rfl : i = n := by omega
      have fin : Hid (SortedR w wr (.returned (.slice a3 z c3)) l ∧ Below w.heap.size w wr) := by
        have := hR.out
        rw [← hN.out, List.take_length] at this
        exact ⟨this.sorted, this.2⟩
      clear hR
      go_wp2_with fail
      go_ret
      exact fin.out
set_option maxRecDepth 100000 in
set_option maxHeartbeats 4000000 in
theorem rjoin_any (a b : Option Addr) (c1 c2 : Nat) (ns vs : List ByteArray) (w : World) (hn : ns.length ≤ 4611686018427387904) (hv : vs.length ≤ 4611686018427387904) (ha : StIn w a ns) (hb : StIn w b vs) (hj : (joinP ns vs (min ns.length vs.length)).length ≤ 4398046511104)
    (hS : ∀ (a' : Option Addr) (c' : Nat) (W : World), w.heap.size ≤ W.heap.size → TgIn W a' (joinP ns vs (min ns.length vs.length)) → Calls Tryd.prog 11 #[.slice a' (joinP ns vs (min ns.length vs.length)).length c'] W fun e w' => SortedR W w' e (joinP ns vs (min ns.length vs.length)) ∧ Below W.heap.size W w') :
    Calls Tryd.prog 16 #[.slice a ns.length c1, .slice b vs.length c2] w fun e w' => SortedR w w' e (joinP ns vs (min ns.length vs.length)) ∧ Below w.heap.size w w' := by
  have hA : Hid (StIn w a ns) := ha
  have hBb : Hid (StIn w b vs) := hb
  have hSH : Hid _ := hS
  clear ha hb hS
  obtain ⟨p, hp⟩ : ∃ p, ns.length = p := ⟨_, rfl⟩
  obtain ⟨q, hq⟩ : ∃ q, vs.length = q := ⟨_, rfl⟩
  have hP : Hid (ns.length = p) := hp
  have hQ : Hid (vs.length = q) := hq
  rw [hp, hq] at hj hSH ⊢
  rw [hp] at hn
  rw [hq] at hv
  clear hp hq
  obtain ⟨m, hm⟩ : ∃ m, min p q = m := ⟨_, rfl⟩
  have hM : Hid (m ≤ p ∧ m ≤ q ∧ (m = p ∨ m = q)) := by show m ≤ p ∧ m ≤ q ∧ (m = p ∨ m = q); omega
  have hmI : min (p : Int) (q : Int) = (m : Int) := by omega
  rw [hm] at hj hSH ⊢
  clear hm
  obtain ⟨L, hL⟩ : ∃ L, joinP ns vs m = L := ⟨_, rfl⟩
  rw [hL] at hj hSH ⊢
  have hLH : Hid (joinP ns vs m = L) := hL
  clear hL
  go_enter Tryd.func16, Tryd.ntmps16
  go_wp2_with fail
  go_loopw [5, 6] (fun vl vi wr => ∃ (k : Nat) (a3 : Option Addr) (z c3 : Nat), vl = .slice a3 z c3 ∧ vi = .int .i64 (k : Int) ∧ k ≤ m ∧ Hid (OT wr w.heap.size (.slice a3 z c3) (joinP ns vs k)) ∧ Below w.heap.size w wr) (fun _ vi _ => m - (intOf vi).toNat)
  case atStart => exact ⟨0, none, 0, 0, rfl, rfl, by omega, OT.nil _ _, Below.refl _ _⟩
  case round =>
    obtain ⟨k, a3, z, c3, rfl, rfl, hkm, hO, hB⟩ := hrel
    have kw : IntKind.i64.wrap ((k : Int) + 1) = ((k + 1 : Nat) : Int) := IntWalk.i64_in _ (by have := hM.out; omega)
    by_cases hk : k < m
    · have hkI : (k : Int) < (m : Int) := by omega
      have hkp : (k : Int) < (p : Int) := by have := hM.out; omega
      have hkq : (k : Int) < (q : Int) := by have := hM.out; omega
      have k0 : (0 : Int) ≤ (k : Int) := by omega

      obtain ⟨x, hx⟩ : ∃ t, ns[k]? = some t := ⟨_, List.getElem?_eq_getElem (by have := hP.out; have := hM.out; omega)⟩
      obtain ⟨y, hy⟩ : ∃ t, vs[k]? = some t := ⟨_, List.getElem?_eq_getElem (by have := hQ.out; have := hM.out; omega)⟩
      obtain ⟨b1, o1, rfl, hb1, t1⟩ := hA.out.at hB hx
      obtain ⟨b2, o2, rfl, hb2, t2⟩ := hBb.out.at hB hy
      have hst := joinP_step hx hy
      by_cases he : y = ⟨#[]⟩
      · rw [if_pos he, List.append_nil] at hst
        have hO2 : Hid (OT wr w.heap.size (.slice a3 z c3) (joinP ns vs (k + 1))) := by rw [hst]; exact hO
        have hq2 : (y.toList == []) = true := by rw [he, ByteArray.toList_eq]; rfl
        have hBH : Hid (Below w.heap.size w wr) := hB
        clear hst he hB hO
        go_wp2_with fail
        go_round
        case measure => simp only [intOf]; omega
        case rel => exact ⟨k + 1, a3, z, c3, rfl, by simp, by omega, hO2, hBH.out⟩
      · rw [if_neg he] at hst
        have hq2 : (y.toList == []) = false := by
          rw [beq_eq_false_iff_ne]
          intro e
          rw [ByteArray.toList_eq] at e
          exact he (ByteArray.ext (Array.ext' e))
        obtain ⟨v1, w1, hr1, ho1, hb1'⟩ := app1T wr w.heap.size (.slice a3 z c3) (joinP ns vs k) hO.out hB.size x y (by
          have h1 : (joinP ns vs (k + 1)).length ≤ (joinP ns vs m).length := joinP_le ns vs (by omega)
          rw [hst, hLH.out, List.length_append, List.length_singleton] at h1
          omega)
        rw [← hst] at ho1
        obtain ⟨a4, c4, e4, _, _⟩ := ho1.tin
        subst e4
        generalize (joinP ns vs (k + 1)).length = z4 at *
        have hb1w : b1 < wr.heap.size := Nat.lt_of_lt_of_le hb1 hB.size
        have hb2w : b2 < wr.heap.size := Nat.lt_of_lt_of_le hb2 hB.size
        have hBn : Below w.heap.size w w1 := hB.trans hb1'
        have hSW : wr.cell? ⟨b1, o1 + k, none⟩ = some (.string x) ∧ wr.cell? ⟨b2, o2 + k, none⟩ = some (.string y) := ⟨t1, t2⟩
        have hSA : (wr.alloc (.cells #[.string x, .string y] 34)).drew.cell? ⟨b1, o1 + k, none⟩ = some (.string x) ∧ (wr.alloc (.cells #[.string x, .string y] 34)).drew.cell? ⟨b2, o2 + k, none⟩ = some (.string y) := by
          have hBa := (((Below.refl wr.heap.size wr).alloc (Nat.le_refl _) (.cells #[.string x, .string y] 34)).drew)
          exact ⟨by rw [hBa.cell (p := ⟨b1, o1 + k, none⟩) hb1w]; exact t1, by rw [hBa.cell (p := ⟨b2, o2 + k, none⟩) hb2w]; exact t2⟩
        have hS1 : w1.cell? ⟨b1, o1 + k, none⟩ = some (.string x) ∧ w1.cell? ⟨b2, o2 + k, none⟩ = some (.string y) := ⟨by rw [hb1'.cell (p := ⟨b1, o1 + k, none⟩) hb1]; exact t1, by rw [hb1'.cell (p := ⟨b2, o2 + k, none⟩) hb2]; exact t2⟩
        have hrH : Hid _ := hr1
        have hoH : Hid (OT w1 w.heap.size (.slice a4 z4 c4) (joinP ns vs (k + 1))) := ho1
        have hBH : Hid (Below w.heap.size w w1) := hBn
        clear hst he hr1 ho1 hb1' hO hB hBn hx hy
        go_wp2_with fail
        go_region_held3 (fun w' => w'.cell? ⟨b1, o1 + k, none⟩ = some (.string x) ∧ w'.cell? ⟨b2, o2 + k, none⟩ = some (.string y)) (first | assumption | exact ⟨by assumption, by assumption⟩)
          (first | (refine step_append_runS rfl (.tmp 24) (.tmp 34) 22 rfl _ _ _ _ rfl rfl hrH.out ?_))
        all_goals
          clear hSW hSA hS1 hrH t1 t2
          go_wp2_with fail
          go_roundw
          case rel => first | exact ⟨k + 1, a4, z4, c4, rfl, by simp, by omega, hoH, hBH.out⟩ | trace_state
          case measure => simp only [intOf]; omega
    · have hkI : ¬ (k : Int) < (m : Int) := by omega

      obtain rfl : k = m := by omega
      have hd : k = p ∨ (k < p ∧ k = q) := by have := hM.out; omega
      rcases hd with hd | ⟨hd1, hd⟩
      · have x1 : ¬ (k : Int) < (p : Int) := by omega
        clear hd
        obtain ⟨a5, c5, e5, hc3, ht3⟩ := hO.out.tin
        injection e5 with e6 e7 e8
        subst e6 e8
        rw [hLH.out] at ht3 e7
        subst e7
        have C : Hid (Calls Tryd.prog 11 #[.slice a3 L.length c3] wr fun e w' => SortedR wr w' e L ∧ Below wr.heap.size wr w') := hSH.out a3 c3 wr hB.size ht3
        have hBH : Hid (Below w.heap.size w wr) := hB
        clear ht3 hO hB hSH hLH hj
        generalize hz : L.length = z at *
        clear hz
        go_wp2_with fail
        refine Calls.mono C.out ?_
        rintro e w2 ⟨hR, hb2⟩
        have hRH : Hid (SortedR w w2 e L ∧ Below w.heap.size w w2) := ⟨hR.wide hBH.out.size, hBH.out.trans (hb2.mono hBH.out.size)⟩
        clear hR hb2 C
        obtain ⟨v, rfl⟩ : ∃ v, e = .returned v := SortedR.ret hRH.out.1
        go_wp2_with fail
        go_ret
        exact hRH.out
      · have x1 : (k : Int) < (p : Int) := by omega
        have x2 : ¬ (k : Int) < (q : Int) := by omega
        clear hd hd1
        obtain ⟨a5, c5, e5, hc3, ht3⟩ := hO.out.tin
        injection e5 with e6 e7 e8
        subst e6 e8
        rw [hLH.out] at ht3 e7
        subst e7
        have C : Hid (Calls Tryd.prog 11 #[.slice a3 L.length c3] wr fun e w' => SortedR wr w' e L ∧ Below wr.heap.size wr w') := hSH.out a3 c3 wr hB.size ht3
        have hBH : Hid (Below w.heap.size w wr) := hB
        clear ht3 hO hB hSH hLH hj
        generalize hz : L.length = z at *
        clear hz
        go_wp2_with fail
        refine Calls.mono C.out ?_
        rintro e w2 ⟨hR, hb2⟩
        have hRH : Hid (SortedR w w2 e L ∧ Below w.heap.size w w2) := ⟨hR.wide hBH.out.size, hBH.out.trans (hb2.mono hBH.out.size)⟩
        clear hR hb2 C
        obtain ⟨v, rfl⟩ : ∃ v, e = .returned v := SortedR.ret hRH.out.1
        go_wp2_with fail
        go_ret
        exact hRH.out
end Go.Proofs.YtkpcndnefbaooaaDoor

namespace Go.Proofs.YtkpcndnefbaooaaDoor
open Go.RowKit Go.Shelf
attribute [local go_sem] Oper.semAt_some
set_option linter.unusedVariables false
set_option linter.unusedSimpArgs false
theorem wpList_append_run {P : Program} {ops : Array Oper} {rest : List Oper} {o : Oper} {a : Act} {Q : Exit → Act → World → Prop} {w : World} (hgd : o.guard = none) (s x : Operand) (t : TypeId)
    (ho : o.op = .call { callee := .builtin .append, args := #[s, x], argTypes := #[t, t] }) (v y v' : Value) (w' : World) (hs : a.eval s = v) (hx : a.eval x = y) (hr : (Builtin.append_ #[t, t] o.type #[v, y]).run P w = .ok v' w')
    (h : wpList P ops Q rest (a.put o.dst v') w') : wpList P ops Q (o :: rest) a w := by
  refine wpList_plain hgd fun K hK => ?_
  unfold Oper.wp execOp
  simp only [ho, resolve, invoke, builtin, Sem.run_bind, Sem.run_pure, Result.andThen_ok, List.map_toArray, List.map_cons, List.map_nil, hs, hx, hr]
  exact hK _ _ h
def mkT : TagP := (⟨#[109, 97, 114, 107]⟩, ⟨#[]⟩)
set_option maxRecDepth 100000 in
set_option maxHeartbeats 4000000 in
theorem lent_any (a : Option Addr) (l : List TagP) (c : Nat) (w : World) (hl : l.length ≤ 4398046511000) (ha : TgIn w a l) :
    Calls Tryd.prog 5 #[.slice a l.length c] w fun e w' => ∃ g q, e = .returned (.slice (some ⟨g, 0, none⟩) l.length q) ∧ w.heap.size ≤ g ∧ l.length + 1 ≤ q ∧ TgIn w' (some ⟨g, 0, none⟩) (l ++ [mkT]) ∧ Below w.heap.size w w' := by
  obtain ⟨v1, w1, hr1, ho1, hg1, hv1⟩ := appT w w.heap.size (.slice none 0 0) [] l (OT.nil _ _) (Nat.le_refl _) a c ha (by simp; omega)
  rw [List.nil_append] at ho1
  have b1 : Below w.heap.size w w1 := grown_below (OT.nil w w.heap.size) (Nat.le_refl _) hg1
  have ho2 : OT (w1.alloc (.cells #[.string ⟨#[109, 97, 114, 107]⟩, .string ⟨#[]⟩] 34)) w.heap.size v1 l := ho1.below ((Below.refl _ w1).alloc (Nat.le_refl _) _) (Nat.le_refl _)
  obtain ⟨v2, w2, hr2, ho3, hg2, hv2⟩ := appT _ w.heap.size v1 l [mkT] ho2 (by have := b1.size; simp; omega) (some ⟨w1.heap.size, 0, none⟩) 1 (Or.inr ⟨w1.heap.size, 0, rfl, by simp, fun i t ht => by
    cases i with
    | zero => simp at ht; subst ht; exact ⟨by simp [go_sem, mkT], by simp [go_sem, mkT]⟩
    | succ i => simp at ht⟩) (by simp; omega)
  have b2 : Below w.heap.size w w2 := (b1.alloc b1.size _).trans (grown_below ho2 (by have := b1.size; simp; omega) hg2)
  obtain ⟨a1, c1, e1, _, _⟩ := ho1.tin
  obtain ⟨a2, c2, e2, hc2, ht2⟩ := ho3.tin
  have e3 : ∃ g, a2 = some ⟨g, 0, none⟩ ∧ w.heap.size ≤ g := by
    rcases World.ownsRow.form ho3 (by simp) with ⟨g, cap, e, hB, _⟩
    rw [e2] at e
    injection e with e
    exact ⟨g, e, hB⟩
  obtain ⟨g, rfl, hgB⟩ := e3
  subst e1 e2
  rw [List.length_append, List.length_singleton] at hr2 hc2
  have hr1H : Hid (∀ W, W = w → (Builtin.append_ #[22, 22] 22 #[.slice none 0 0, .slice a l.length c]).run Tryd.prog W = .ok (.slice a1 l.length c1) w1) := fun W e => by subst e; exact hr1
  have hr2H : Hid (∀ W, W = w1.alloc (.cells #[.string ⟨#[109, 97, 114, 107]⟩, .string ⟨#[]⟩] 34) → (Builtin.append_ #[22, 22] 22 #[.slice a1 l.length c1, .slice (some ⟨w1.heap.size, 0, none⟩) 1 1]).run Tryd.prog W = .ok (.slice (some ⟨g, 0, none⟩) (l.length + 1) c2) w2) := fun W e => by subst e; exact hr2
  have hfin : Hid (w.heap.size ≤ g ∧ l.length + 1 ≤ c2 ∧ TgIn w2 (some ⟨g, 0, none⟩) (l ++ [mkT]) ∧ Below w.heap.size w w2) := ⟨hgB, hc2, ht2, b2⟩
  have hlI : (l.length : Int) ≤ (c2 : Int) := by omega
  have hl0 : (0 : Int) ≤ (l.length : Int) := by omega
  clear hgB hr1 hr2 ho1 ho2 ho3 hg1 hg2 hv1 hv2 b1 b2 hc2 ht2 ha hl
  generalize l.length = n at *
  go_enter Tryd.func5, Tryd.ntmps5
  go_wp2_with (first | (at_builtin; refine wpList_append_run (by rfl) _ _ _ (by rfl) _ _ _ _ (by rfl) (by rfl) (hr1H.out _ rfl) ?_) | (at_builtin; refine wpList_append_run (by rfl) _ _ _ (by rfl) _ _ _ _ (by rfl) (by rfl) (hr2H.out _ rfl) ?_))
  go_ret
  exact ⟨g, c2, rfl, hfin.out⟩
set_option maxRecDepth 100000 in
theorem sameTags_any (a b : Option Addr) (l : List TagP) (c1 c2 : Nat) (w : World) (hl : l.length ≤ 9223372036854775807) (ha : TgIn w a l) (hb : TgIn w b l) :
    Calls Tryd.prog 9 #[.slice a l.length c1, .slice b l.length c2] w fun e w' => e = .returned (.bool true) ∧ Below w.heap.size w w' := by
  have c := ctags_any a b l l c1 c2 w hl hl ha hb
  rw [show tagsC l l = 0 from (tagsC_is.zero l l).2 rfl] at c
  have cH : Hid (Calls Tryd.prog 21 #[.slice a l.length c1, .slice b l.length c2] w fun e w' => e = .returned (.int .i64 0) ∧ Below w.heap.size w w') := c
  clear c ha hb hl
  generalize l.length = n at *
  go_enter Tryd.func9, Tryd.ntmps9
  go_wp2_with fail
  refine Calls.mono cH.out ?_
  rintro e w1 ⟨rfl, hb1⟩
  go_wp2_with fail
  go_ret
  exact ⟨rfl, hb1⟩
theorem TgIn.pre {w : World} {a : Option Addr} {l m : List TagP} (h : TgIn w a (l ++ m)) : TgIn w a l := by
  rcases h with h | ⟨b, off, e, hb, hc⟩
  · exact Or.inl (List.append_eq_nil_iff.1 h).1
  · refine Or.inr ⟨b, off, e, hb, fun i t ht => hc i t ?_⟩
    rw [List.getElem?_append_left (List.getElem?_eq_some_iff.1 ht).1]; exact ht
set_option maxRecDepth 100000 in
set_option maxHeartbeats 4000000 in
theorem kept_any (g q : Nat) (b : Option Addr) (l : List TagP) (c : Nat) (w : World) (hl : l.length ≤ 4398046511000) (hq : l.length + 1 ≤ q) (ha : TgIn w (some ⟨g, 0, none⟩) (l ++ [mkT])) (hb : TgIn w b l) :
    Calls Tryd.prog 17 #[.slice (some ⟨g, 0, none⟩) l.length q, .slice b l.length c] w fun e w' => e = .returned (.bool true) ∧ Below w.heap.size w w' := by
  have cS : Hid (Calls Tryd.prog 9 #[.slice (some ⟨g, 0, none⟩) l.length q, .slice b l.length c] w fun e w' => e = .returned (.bool true) ∧ Below w.heap.size w w') := sameTags_any _ b l q c w (by omega) ha.pre hb
  have hm : g < w.heap.size ∧ w.cell? ⟨g, l.length * 2, none⟩ = some (.string ⟨#[109, 97, 114, 107]⟩) ∧ w.cell? ⟨g, l.length * 2 + 1, none⟩ = some (.string ⟨#[]⟩) := by
    rcases ha with h | ⟨b', off, e, hb', hc⟩
    · simp at h
    · injection e with e
      injection e with e1 e2 e3
      subst e1 e2
      obtain ⟨k1, k2⟩ := hc l.length mkT (by simp)
      rw [Nat.zero_add] at k1 k2
      exact ⟨hb', k1, k2⟩
  have hmH : Hid (∀ w1, Below w.heap.size w w1 → w1.cell? ⟨g, l.length * 2, none⟩ = some (.string ⟨#[109, 97, 114, 107]⟩) ∧ w1.cell? ⟨g, l.length * 2 + 1, none⟩ = some (.string ⟨#[]⟩)) := fun w1 h => ⟨by rw [h.cell (p := ⟨g, l.length * 2, none⟩) hm.1]; exact hm.2.1, by rw [h.cell (p := ⟨g, l.length * 2 + 1, none⟩) hm.1]; exact hm.2.2⟩
  have k1 : (l.length : Int) + 1 ≤ (q : Int) := by omega
  have k2 : (0 : Int) ≤ (l.length : Int) + 1 := by omega
  have k3 : -9223372036854775808 ≤ (l.length : Int) + 1 ∧ (l.length : Int) + 1 ≤ 9223372036854775807 := by omega
  have k4 : (l.length : Int) < (l.length : Int) + 1 := by omega
  have k5 : (0 : Int) ≤ (l.length : Int) := by omega
  have wk : wrap64 ((l.length : Int) + 1) = (l.length : Int) + 1 := IntWalk.wrap64_in _ k3
  have wi : IntKind.i64.wrap ((l.length : Int) + 1) = (l.length : Int) + 1 := IntWalk.i64_in _ k3
  clear hm ha hb hl k3
  generalize l.length = n at *
  go_enter Tryd.func17, Tryd.ntmps17
  go_wp2_with fail
  refine Calls.mono cS.out ?_
  rintro e w1 ⟨rfl, b1⟩
  obtain ⟨m1, m2⟩ := hmH.out w1 b1
  go_wp2_with fail
  go_ret
  exact ⟨rfl, b1⟩
theorem erV_erN (b : Bool) (n : Int) (hn : n ≠ 0) : erV b n = erN (if b then 0 else n) := by
  cases b
  · simp [erV, erN, hn]
  · simp [erV, erN]
end Go.Proofs.YtkpcndnefbaooaaDoor

namespace Go.Proofs.YtkpcndnefbaooaaDoor
open Go.RowKit _root_.Go.Proofs.YtkpcndnefbaooaaDoor.So
set_option linter.unusedVariables false
set_option linter.unusedSimpArgs false
theorem joinP_most (ns vs : List ByteArray) : ∀ m, (joinP ns vs m).length ≤ m
  | 0 => by simp [joinP]
  | m + 1 => by
    have := joinP_most ns vs m
    unfold joinP
    rw [List.length_append]
    split <;> simp <;> omega
set_option maxRecDepth 100000 in
set_option maxHeartbeats 8000000 in
theorem keyTags_walk (a b d : Option Addr) (c1 c2 c3 : Nat) (l : List TagP) (ns vs : List ByteArray) (w : World) (ha : TgIn w a l) (hb : StIn w b ns) (hd : StIn w d vs) (hl : l.length ≤ 4398046510000) (hn : ns.length ≤ 4398046510000) (hv : vs.length ≤ 4398046510000) (hT : UT w) (hg : ET w) :
    Calls Tryd.prog 3 #[.slice a l.length c1, .slice b ns.length c2, .slice d vs.length c3] w fun e w' => e = .returned (.bool true) ∧ Below w.heap.size w w' := by
  have CE : Hid _ := lent_any a l c1 w (by omega) ha
  have K : Hid (∀ g q w1, w.heap.size ≤ g → l.length + 1 ≤ q → TgIn w1 (some ⟨g, 0, none⟩) (l ++ [mkT]) → Below w.heap.size w w1 →
      (∀ s W, Below w1.heap.size w1 W → Calls Tryd.prog 6 #[.slice (some ⟨g, 0, none⟩) l.length q, .string s] W fun e w' => e = .returned (.string (valT l s)) ∧ Below W.heap.size W w') ∧
      (∀ s W, Below w1.heap.size w1 W → Calls Tryd.prog 7 #[.slice a l.length c1, .string s] W fun e w' => e = .returned (.string (valT l s)) ∧ Below W.heap.size W w') ∧
      (∀ W, Below w1.heap.size w1 W → Calls Tryd.prog 8 #[] W fun e w' => e = .returned (.bool true) ∧ Below W.heap.size W w') ∧
      (∀ W, Below w1.heap.size w1 W → Calls Tryd.prog 10 #[.slice (some ⟨g, 0, none⟩) l.length q] W fun e w' => ∃ a' z' c', e = .returned (.slice a' z' c') ∧ Below W.heap.size W w' ∧
        (∀ W2, Below w'.heap.size w' W2 → Calls Tryd.prog 11 #[.slice a l.length c1] W2 fun e w3 => ∃ a2 z2 c2', e = .returned (.slice a2 z2 c2') ∧ Below W2.heap.size W2 w3 ∧
          Calls Tryd.prog 9 #[.slice a' z' c', .slice a2 z2 c2'] w3 fun e w4 => e = .returned (.bool true) ∧ Below w3.heap.size w3 w4)) ∧
      (∀ W, Below w1.heap.size w1 W → Calls Tryd.prog 13 #[.slice (some ⟨g, 0, none⟩) l.length q, .slice b ns.length c2] W fun e w' => ∃ a' z' c', e = .returned (.slice a' z' c') ∧ Below W.heap.size W w' ∧
        (∀ W2, Below w'.heap.size w' W2 → Calls Tryd.prog 14 #[.slice a l.length c1, .slice b ns.length c2] W2 fun e w3 => ∃ a2 z2 c2', e = .returned (.slice a2 z2 c2') ∧ Below W2.heap.size W2 w3 ∧
          Calls Tryd.prog 12 #[.slice a' z' c', .slice a2 z2 c2'] w3 fun e w4 => e = .returned (.bool true) ∧ Below w3.heap.size w3 w4)) ∧
      (∀ W, Below w1.heap.size w1 W → Calls Tryd.prog 15 #[.slice b ns.length c2, .slice d vs.length c3] W fun e w' => ∃ a' z' c', e = .returned (.slice a' z' c') ∧ Below W.heap.size W w' ∧
        (∀ W2, Below w'.heap.size w' W2 → Calls Tryd.prog 16 #[.slice b ns.length c2, .slice d vs.length c3] W2 fun e w3 => ∃ a2 z2 c2', e = .returned (.slice a2 z2 c2') ∧ Below W2.heap.size W2 w3 ∧
          Calls Tryd.prog 9 #[.slice a' z' c', .slice a2 z2 c2'] w3 fun e w4 => e = .returned (.bool true) ∧ Below w3.heap.size w3 w4)) ∧
      (∀ W, Below w1.heap.size w1 W → Calls Tryd.prog 17 #[.slice (some ⟨g, 0, none⟩) l.length q, .slice a l.length c1] W fun e w' => e = .returned (.bool true) ∧ Below W.heap.size W w')) := by
    intro g q w1 hgl hq hti hB1
    have up : ∀ {W}, Below w1.heap.size w1 W → Below w.heap.size w W := fun hW => hB1.trans (hW.mono hB1.size)
    have hjl : (joinP ns vs (min ns.length vs.length)).length ≤ 4398046510000 := Nat.le_trans (joinP_most _ _ _) (by omega)
    have step : ∀ {A B C : World}, Below A.heap.size A B → Below B.heap.size B C → Below A.heap.size A C := fun h1 h2 => h1.trans (h2.mono h1.size)
    have hsl : ∀ x : List TagP, x.length ≤ 4398046510000 → (sortT x).length ≤ 9223372036854775807 := fun x hx => by have := sortT_len x; omega
    refine ⟨fun s W hW => value_any _ _ l s W (by omega) (hti.below hW).pre, fun s W hW => (rvalue_any a c1 l s W (by omega) (ha.below (up hW))).mono fun e w' h => ⟨h.1, by rw [h.2]; exact Below.refl _ _⟩, fun W hW => live_any W (hT.below (up hW) (Nat.le_refl _)) (ET_below hg (up hW)), fun W hW => ?_, fun W hW => ?_, fun W hW => ?_, fun W hW => kept_any g q a l c1 W (by omega) hq (hti.below hW) (ha.below (up hW))⟩
    · refine (sort_any _ q l W (hti.below hW).pre (by omega)).mono fun e w' h => ?_
      obtain ⟨a', c', e1, t1⟩ := h.1.tin
      refine ⟨a', _, c', e1, h.2, fun W2 hW2 => ?_⟩
      refine (rsort_any a c1 l W2 (ha.below (up (step (step hW h.2) hW2))) (by omega)).mono fun e w3 h3 => ?_
      obtain ⟨a2, c2', e2, t2⟩ := h3.1.tin
      exact ⟨a2, _, c2', e2, h3.2, sameTags_any a' a2 (sortT l) c' c2' w3 (hsl l hl) (t1.below (step hW2 h3.2)) t2⟩
    · refine (group_any _ b q c2 l ns W (by omega) (by omega) (hti.below hW).pre (hb.below (up hW))).mono fun e w' h => ?_
      obtain ⟨g', e1, G1⟩ := h
      have hlen : (grpT l ns).length = ns.length := by simp [grpT]
      have t1 := G1.fin hlen
      refine ⟨some ⟨g', 0, none⟩, _, ns.length, e1, G1.b, fun W2 hW2 => ?_⟩
      refine (rgroup_any a b c1 c2 l ns W2 (by omega) (by omega) (ha.below (up (step (step hW G1.b) hW2))) (hb.below (up (step (step hW G1.b) hW2)))).mono fun e w3 h3 => ?_
      obtain ⟨a2, c2', e2, t2, b2⟩ := h3
      refine ⟨a2, _, c2', e2, b2, ?_⟩
      have := sameTexts_any (some ⟨g', 0, none⟩) a2 (grpT l ns) ns.length c2' w3 (by omega) (t1.below (step hW2 b2)) t2
      rw [hlen] at this ⊢
      exact this
    · refine (join_any b d c2 c3 ns vs W (by omega) (by omega) (hb.below (up hW)) (hd.below (up hW)) (by omega) (fun a' c' W' _ h' => sort_any a' c' _ W' h' (by omega))).mono fun e w' h => ?_
      obtain ⟨a', c', e1, t1⟩ := h.1.tin
      refine ⟨a', _, c', e1, h.2, fun W2 hW2 => ?_⟩
      refine (rjoin_any b d c2 c3 ns vs W2 (by omega) (by omega) (hb.below (up (step (step hW h.2) hW2))) (hd.below (up (step (step hW h.2) hW2))) (by omega) (fun a' c' W' _ h' => rsort_any a' c' _ W' h' (by omega))).mono fun e w3 h3 => ?_
      obtain ⟨a2, c2', e2, t2⟩ := h3.1.tin
      exact ⟨a2, _, c2', e2, h3.2, sameTags_any a' a2 _ c' c2' w3 (hsl _ hjl) (t1.below (step hW2 h3.2)) t2⟩
  have hBb : Hid (StIn w b ns) := hb
  clear ha hb hd hT hg hl hv
  obtain ⟨n, hnl⟩ : ∃ n, ns.length = n := ⟨_, rfl⟩
  have hN : Hid (ns.length = n) := hnl
  rw [hnl] at hn K ⊢
  clear hnl
  generalize l.length = m at *
  generalize vs.length = p at *
  go_enter Tryd.func3, Tryd.ntmps3
  go_wp2_with fail
  refine Calls.mono CE.out ?_
  rintro e w1 ⟨g, q, rfl, hgl, hq, hti, hB1⟩
  obtain ⟨kV, kU, kL, kS, kG, kJ, kK⟩ := K.out g q w1 hgl hq hti hB1
  have kVH : Hid _ := kV
  have kUH : Hid _ := kU
  have kLH : Hid _ := kL
  have kSH : Hid _ := kS
  have kGH : Hid _ := kG
  have kJH : Hid _ := kJ
  have kKH : Hid _ := kK
  have hB1H : Hid (Below w.heap.size w w1) := hB1
  clear kV kU kL kS kG kJ kK K CE hti hgl hq hB1
  go_wp2_with fail
  go_loopw [8] (fun vi wr => ∃ i : Nat, vi = .int .i64 (i : Int) ∧ i ≤ n ∧ Below w1.heap.size w1 wr) (fun vi _ => n - (intOf vi).toNat)
  case atStart => exact ⟨0, rfl, by omega, Below.refl _ _⟩
  case round =>
    obtain ⟨i, rfl, hin, hB⟩ := hrel
    have iw : IntKind.i64.wrap ((i : Int) + 1) = ((i + 1 : Nat) : Int) := IntWalk.i64_in _ (by omega)
    by_cases hi : i < n
    · have hiI : (i : Int) < (n : Int) := by omega
      have i0 : (0 : Int) ≤ (i : Int) := by omega
      obtain ⟨s, hs⟩ : ∃ t, ns[i]? = some t := ⟨_, List.getElem?_eq_getElem (by have := hN.out; omega)⟩
      have hBw : Below w.heap.size w wr := hB1H.out.trans (hB.mono hB1H.out.size)
      obtain ⟨b1, o1, rfl, hb1, t1⟩ := hBb.out.at hBw hs
      have hK : Hid (∀ W W2, Below w1.heap.size w1 W ∧ W.cell? ⟨b1, o1 + i, none⟩ = some (.string s) → Below W.heap.size W W2 → Below w1.heap.size w1 W2 ∧ W2.cell? ⟨b1, o1 + i, none⟩ = some (.string s)) := fun W W2 h h2 => ⟨h.1.trans (h2.mono h.1.size), by
        rw [h2.cell (p := ⟨b1, o1 + i, none⟩) (by show b1 < W.heap.size; have := hB1H.out.size; have := h.1.size; omega)]; exact h.2⟩
      have hSW : Below w1.heap.size w1 wr ∧ wr.cell? ⟨b1, o1 + i, none⟩ = some (.string s) := ⟨hB, t1⟩
      have hSD : Below w1.heap.size w1 wr.drew ∧ wr.drew.cell? ⟨b1, o1 + i, none⟩ = some (.string s) := ⟨hB.drew, t1⟩
      have cV : Hid (∀ W, Below w1.heap.size w1 W ∧ W.cell? ⟨b1, o1 + i, none⟩ = some (.string s) → Calls Tryd.prog 6 #[.slice (some ⟨g, 0, none⟩) m q, .string s] W fun e w' => e = .returned (.string (valT l s)) ∧ Below W.heap.size W w') := fun W h => kVH.out s W h.1
      have cU : Hid (∀ W, Below w1.heap.size w1 W ∧ W.cell? ⟨b1, o1 + i, none⟩ = some (.string s) → Calls Tryd.prog 7 #[.slice a m c1, .string s] W fun e w' => e = .returned (.string (valT l s)) ∧ Below W.heap.size W w') := fun W h => kUH.out s W h.1
      generalize valT l s = v at cV cU
      clear hBw hs hb1 t1 hB
      go_wp2_with fail
      go_region_held3 (fun W => Below w1.heap.size w1 W ∧ W.cell? ⟨b1, o1 + i, none⟩ = some (.string s)) (first | assumption)
        (first
          | (go_at_call 6; (with_reducible refine Calls.mono (cV.out _ (by assumption)) ?_); rintro e w' ⟨rfl, BB⟩; have SS := hK.out _ _ (by assumption) BB)
          | (go_at_call 7; (with_reducible refine Calls.mono (cU.out _ (by assumption)) ?_); rintro e w' ⟨rfl, BB⟩; have SS := hK.out _ _ (by assumption) BB))
      all_goals
        have fin : Hid (Below w1.heap.size w1 _) := SS.1
        clear SS cV cU hK hSW hSD
        go_wp2_with fail
        go_round
        case measure => simp only [intOf]; omega
        case rel => exact ⟨i + 1, by simp, by omega, fin.out⟩
    · have hiI : ¬ (i : Int) < (n : Int) := by omega
      have C1 : Hid _ := kLH.out wr hB
      have BH : Hid (Below w1.heap.size w1 wr) := hB
      clear hB
      go_wp2_with fail
      refine Calls.mono C1.out ?_
      rintro e w2 ⟨rfl, b2⟩
      have B2 : Hid (Below w1.heap.size w1 w2) := BH.out.trans (b2.mono BH.out.size)
      have C2 : Hid _ := kSH.out w2 B2.out
      clear C1 b2 BH kLH kSH
      go_wp2_with fail
      refine Calls.mono C2.out ?_
      rintro e w3 ⟨a3, z3, d3, rfl, b3, k3⟩
      have B3 : Hid (Below w1.heap.size w1 w3) := B2.out.trans (b3.mono B2.out.size)
      have C3 : Hid _ := k3 w3 (Below.refl _ _)
      clear C2 b3 k3 B2
      go_wp2_with fail
      refine Calls.mono C3.out ?_
      rintro e w4 ⟨a4, z4, d4, rfl, b4, k4⟩
      have B4 : Hid (Below w1.heap.size w1 w4) := B3.out.trans (b4.mono B3.out.size)
      have C4 : Hid _ := k4
      clear C3 b4 k4 B3
      go_wp2_with fail
      refine Calls.mono C4.out ?_
      rintro e w5 ⟨rfl, b5⟩
      have B5 : Hid (Below w1.heap.size w1 w5) := B4.out.trans (b5.mono B4.out.size)
      have C5 : Hid _ := kGH.out w5 B5.out
      clear C4 b5 B4 kGH
      go_wp2_with fail
      refine Calls.mono C5.out ?_
      rintro e w6 ⟨a6, z6, d6, rfl, b6, k6⟩
      have B6 : Hid (Below w1.heap.size w1 w6) := B5.out.trans (b6.mono B5.out.size)
      have C6 : Hid _ := k6 w6 (Below.refl _ _)
      clear C5 b6 k6 B5
      go_wp2_with fail
      refine Calls.mono C6.out ?_
      rintro e w7 ⟨a7, z7, d7, rfl, b7, k7⟩
      have B7 : Hid (Below w1.heap.size w1 w7) := B6.out.trans (b7.mono B6.out.size)
      have C7 : Hid _ := k7
      clear C6 b7 k7 B6
      go_wp2_with fail
      refine Calls.mono C7.out ?_
      rintro e w8 ⟨rfl, b8⟩
      have B8 : Hid (Below w1.heap.size w1 w8) := B7.out.trans (b8.mono B7.out.size)
      have C8 : Hid _ := kJH.out w8 B8.out
      clear C7 b8 B7 kJH
      go_wp2_with fail
      refine Calls.mono C8.out ?_
      rintro e w9 ⟨a9, z9, d9, rfl, b9, k9⟩
      have B9 : Hid (Below w1.heap.size w1 w9) := B8.out.trans (b9.mono B8.out.size)
      have C9 : Hid _ := k9 w9 (Below.refl _ _)
      clear C8 b9 k9 B8
      go_wp2_with fail
      refine Calls.mono C9.out ?_
      rintro e wA ⟨aA, zA, dA, rfl, bA, kA⟩
      have BA : Hid (Below w1.heap.size w1 wA) := B9.out.trans (bA.mono B9.out.size)
      have CA : Hid _ := kA
      clear C9 bA kA B9
      go_wp2_with fail
      refine Calls.mono CA.out ?_
      rintro e wB ⟨rfl, bB⟩
      have BB : Hid (Below w1.heap.size w1 wB) := BA.out.trans (bB.mono BA.out.size)
      have CB : Hid _ := kKH.out wB BB.out
      clear CA bB BA kKH
      go_wp2_with fail
      refine Calls.mono CB.out ?_
      rintro e wC ⟨rfl, bC⟩
      have BC : Hid (Below w.heap.size w wC) := hB1H.out.trans ((BB.out.trans (bC.mono BB.out.size)).mono hB1H.out.size)
      clear CB bC BB
      go_wp2_with fail
      go_ret
      exact ⟨rfl, BC.out⟩
end Go.Proofs.YtkpcndnefbaooaaDoor
