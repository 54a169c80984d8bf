
import Derived.Test.YtkpcndnefbaooaaDoorKtA
import Derived.Laws.MakeOwn
namespace Go.Proofs.YtkpcndnefbaooaaDoor
open Go.RowKit _root_.Go.Proofs.YtkpcndnefbaooaaDoor.So
set_option linter.unusedVariables false
set_option linter.unusedSimpArgs false
theorem step_append_runS {P : Program} {ops : Array Oper} {o : Oper} {a : Act} {w : World} {K : Act → World → Prop} {Q : Exit → Act → World → Prop} {E : Prop}
    (hg : o.guard = none) (s x : Operand) (t : TypeId) (hop : o.op = Op.call { callee := Callee.builtin Builtin.append, args := #[s, x], argTypes := #[t, t] })
    (v y v' : Value) (w' : World) (hs : a.eval s = v) (hx : a.eval x = y) (hr : (Builtin.append_ #[t, t] o.type #[v, y]).run P w = .ok v' w') (hK : K (a.put o.dst v') w') :
    if Region.wanted o (yielded ops a.tmps) = true then Oper.wp P o a w K Q else E := by
  have hw : Region.wanted o (yielded ops a.tmps) = true := by simp [Region.wanted, hg]
  rw [if_pos hw]
  unfold Oper.wp execOp
  simp only [hop, resolve, invoke, builtin, Sem.run_bind, Sem.run_pure, Result.andThen_ok, List.map_toArray, List.map_cons, List.map_nil, hs, hx, hr]
  exact hK
theorem app1T (W : World) (B : Nat) (v : Value) (l : List TagP) (h : OT W B v l) (hB : B ≤ W.heap.size) (x y : ByteArray) (hn : l.length + 1 ≤ 4398046511104) :
    ∃ v' w', (Builtin.append_ #[22, 22] 22 #[v, .slice (some ⟨W.heap.size, 0, none⟩) 1 1]).run Tryd.prog (W.alloc (.cells #[.string x, .string y] 34)).drew = .ok v' w' ∧ OT w' B v' (l ++ [(x, y)]) ∧ Below B W w' := by
  have b1 : Below W.heap.size W (W.alloc (.cells #[.string x, .string y] 34)).drew := ((Below.refl _ W).alloc (Nat.le_refl _) _).drew
  have ho2 := h.below b1 (Nat.le_refl _)
  obtain ⟨v', w', hr, ho, hg, _⟩ := appT _ B v l [(x, y)] ho2 (Nat.le_trans hB b1.size) (some ⟨W.heap.size, 0, none⟩) 1 (Or.inr ⟨W.heap.size, 0, rfl, by show W.heap.size < (W.alloc _).heap.size; simp, fun i t ht => by
    cases i with
    | zero =>
      simp at ht; subst ht
      exact ⟨by show (W.alloc _).cell? _ = _; simp [go_sem], by show (W.alloc _).cell? _ = _; simp [go_sem]⟩
    | succ i => simp at ht⟩) (by simp; omega)
  exact ⟨v', w', hr, ho, (b1.mono hB).trans (grown_below ho2 (Nat.le_trans hB b1.size) hg)⟩
/-- the tags of the first k names and values, those without a value left out. -/
def joinP (ns vs : List ByteArray) : Nat → List TagP
  | 0 => []
  | k + 1 => joinP ns vs k ++ (if vs.getD k ⟨#[]⟩ = ⟨#[]⟩ then [] else [(ns.getD k ⟨#[]⟩, vs.getD k ⟨#[]⟩)])
theorem joinP_step {ns vs : List ByteArray} {k : Nat} {x y : ByteArray} (hx : ns[k]? = some x) (hy : vs[k]? = some y) : joinP ns vs (k + 1) = joinP ns vs k ++ (if y = ⟨#[]⟩ then [] else [(x, y)]) := by
  conv => lhs; unfold joinP
  rw [List.getD_eq_getElem?_getD, List.getD_eq_getElem?_getD, hx, hy]; rfl
theorem joinP_le (ns vs : List ByteArray) {k m : Nat} (h : k ≤ m) : (joinP ns vs k).length ≤ (joinP ns vs m).length := by
  induction m with
  | zero => obtain rfl : k = 0 := by omega
            exact Nat.le_refl _
  | succ m ih =>
    rcases Nat.lt_or_ge k (m + 1) with c | c
    · refine Nat.le_trans (ih (by omega)) ?_
      conv => rhs; unfold joinP
      rw [List.length_append]; omega
    · obtain rfl : k = m + 1 := by omega
      exact Nat.le_refl _
theorem So.SortedR.wide {w0 w w' : World} {e : Ending} {l : List TagP} (h : SortedR w w' e l) (hw : w0.heap.size ≤ w.heap.size) : SortedR w0 w' e l := by
  rcases h with h | ⟨g, m, cap, G, h1, h2, h3⟩
  · exact Or.inl h
  · exact Or.inr ⟨g, m, cap, G, h1, by omega, h3⟩
theorem So.SortedR.ret {w w' : World} {e : Ending} {l : List TagP} (h : SortedR w w' e l) : ∃ v, e = .returned v := by
  rcases h with ⟨_, h⟩ | ⟨g, m, cap, G, h1, _⟩
  · exact ⟨_, h⟩
  · exact ⟨_, h1⟩
theorem make_str (n : Nat) (h : n ≤ 8796093022208) (w : World) : (Instr.makeSlice 23 (.int .i64 (n : Int)) (.int .i64 (n : Int))).run Tryd.prog w = .ok (.slice (some ⟨w.heap.size, 0, none⟩) n n) (w.alloc (.cells (madeCells #[.string ⟨#[]⟩] n) 9)) := by
  have hi : (Tryd.prog.info? 9).map (fun i => (i.zero, i.bytes, i.size)) = some (some (.string ⟨#[]⟩), 16, 1) := by kernel_rfl
  obtain ⟨i, i1, i0⟩ := Option.map_eq_some_iff.1 hi
  have i2 : i.zero = some (.string ⟨#[]⟩) := congrArg (·.1) i0
  have i3 : i.bytes = 16 := congrArg (·.2.1) i0
  have i4 : i.size = 1 := congrArg (·.2.2) i0
  have := run_make (P := Tryd.prog) w 23 9 i (.string ⟨#[]⟩) Tryd.underlying23 i1 i2 .i64 .i64 (n : Int) (n : Int) (by omega) (by omega) (by rw [i3]; omega) (by omega)
  rw [i4] at this
  simpa [Value.cells] using this
/-- what stands while values are laid: k of n are there. -/
structure GS (w : World) (g n k : Nat) (V : List ByteArray) (wx : World) : Prop where
  c : ∀ j, j < n → wx.cell? ⟨g, j, none⟩ = some (.string (if j < k then V.getD j ⟨#[]⟩ else ⟨#[]⟩))
  f : ∀ j, j < n → wx.frozen? ⟨g, j, none⟩ = false
  b : Below w.heap.size w wx
  l1 : w.heap.size ≤ g
  l2 : g < wx.heap.size
theorem GS.start (w : World) (n : Nat) (V : List ByteArray) : GS w w.heap.size n 0 V (w.alloc (.cells (madeCells #[.string ⟨#[]⟩] n) 9)) := by
  have hz : ∀ j, j < n → (madeCells #[Value.string ⟨#[]⟩] n)[j]? = some (.string ⟨#[]⟩) := fun j hj => by
    rw [← Array.getElem?_toList, toList_madeCells_one]; simp [hj]
  refine ⟨fun j hj => ?_, fun j hj => frozen_of_row _ w.heap.size j _ 9 (heap_alloc_new w _), (Below.refl _ w).alloc (Nat.le_refl _) _, Nat.le_refl _, by simp⟩
  rw [cell_of_row _ w.heap.size j _ 9 (0, 0) (heap_alloc_new w _), if_neg (by omega)]; exact hz j hj
theorem GS.below {w : World} {g n k : Nat} {V : List ByteArray} {wx wy : World} (h : GS w g n k V wx) (hb : Below wx.heap.size wx wy) : GS w g n k V wy :=
  ⟨fun j hj => by rw [hb.cell (p := ⟨g, j, none⟩) h.l2]; exact h.c j hj, fun j hj => by rw [hb.frozen (p := ⟨g, j, none⟩) h.l2]; exact h.f j hj, h.b.trans (hb.mono h.b.size), h.l1, Nat.lt_of_lt_of_le h.l2 hb.size⟩
theorem GS.more {w : World} {g n k : Nat} {V : List ByteArray} {wx : World} (h : GS w g n k V wx) (hk : k < n) (v : ByteArray) (hv : V.getD k ⟨#[]⟩ = v) : GS w g n (k + 1) V (wx.setCell ⟨g, k, none⟩ (.string v)) := by
  refine ⟨fun j hj => ?_, fun j hj => by rw [World.frozen?_setCell]; exact h.f j hj, h.b.setCell (p := ⟨g, k, none⟩) h.l1 _, h.l1, by simpa using h.l2⟩
  by_cases e : j = k
  · subst e
    rw [World.cell?_setCell_same _ _ _ (h.c j hj), if_pos (by omega), hv]
  · rw [World.cell?_setCell_other _ _ _ _ (by intro q; injection q; omega), h.c j hj]
    by_cases q : j < k
    · rw [if_pos q, if_pos (by omega)]
    · rw [if_neg q, if_neg (by omega)]
theorem GS.fin {w : World} {g n : Nat} {V : List ByteArray} {wx : World} (h : GS w g n n V wx) (hn : V.length = n) : StIn wx (some ⟨g, 0, none⟩) V := by
  refine Or.inr ⟨g, 0, rfl, h.l2, fun i t ht => ?_⟩
  have hi := (List.getElem?_eq_some_iff.1 ht).1
  rw [Nat.zero_add, h.c i (by omega), if_pos (by omega), List.getD_eq_getElem?_getD, ht]; rfl
set_option maxRecDepth 100000 in
set_option maxHeartbeats 4000000 in
theorem group_any (a b : Option Addr) (c1 c2 : Nat) (l : List TagP) (ns : List ByteArray) (w : World) (hl : l.length ≤ 9223372036854775807) (hn : ns.length ≤ 8796093022208) (ha : TgIn w a l) (hb : StIn w b ns) :
    Calls Tryd.prog 13 #[.slice a l.length c1, .slice b ns.length c2] w fun e w' => ∃ g, e = .returned (.slice (some ⟨g, 0, none⟩) ns.length ns.length) ∧ GS w g ns.length ns.length (grpT l ns) w' := by
  have hV : Hid (∀ (s : ByteArray) (W : World), Below w.heap.size w W → Calls Tryd.prog 6 #[.slice a l.length c1, .string s] W fun e w' => e = .returned (.string (valT l s)) ∧ Below W.heap.size W w') := fun s W hW => value_any a c1 l s W hl (ha.below hW)
  have hBb : Hid (StIn w b ns) := hb
  have hmk := make_str ns.length hn
  have hG : Hid (∀ k s, ns[k]? = some s → (grpT l ns).getD k ⟨#[]⟩ = valT l s) := fun k s h => by simp [grpT, List.getD_eq_getElem?_getD, h]
  generalize grpT l ns = V at *
  clear ha hb
  obtain ⟨n, hnl⟩ : ∃ n, ns.length = n := ⟨_, rfl⟩
  have hN : Hid (ns.length = n) := hnl
  rw [hnl] at hn hmk ⊢
  clear hnl
  generalize l.length = q at *
  have hS0 : Hid (GS w w.heap.size n 0 V (w.alloc (.cells (madeCells #[.string ⟨#[]⟩] n) 9))) := GS.start w n V
  go_enter Tryd.func13, Tryd.ntmps13
  go_wp2_with fail
  obtain ⟨g, hg⟩ : ∃ g, g = w.heap.size := ⟨_, rfl⟩
  rw [← hg] at hS0 ⊢
  have hgw : Hid (g = w.heap.size) := hg
  clear hg hmk
  generalize w.alloc (.cells (madeCells #[.string ⟨#[]⟩] n) 9) = w0 at *
  go_loopw [13] (fun vi wr => ∃ k : Nat, vi = .int .i64 (k : Int) ∧ k ≤ n ∧ Hid (GS w g n k V wr)) (fun vi _ => n - (intOf vi).toNat)
  case atStart => exact ⟨0, rfl, by omega, hS0⟩
  case round =>
    clear hS0
    obtain ⟨k, rfl, hkn, hS⟩ := hrel
    have kw : IntKind.i64.wrap ((k : Int) + 1) = ((k + 1 : Nat) : Int) := IntWalk.i64_in _ (by omega)
    by_cases hk : k < n
    · have hkI : (k : Int) < (n : Int) := by omega
      have k0 : (0 : Int) ≤ (k : Int) := by omega
      obtain ⟨s, hs⟩ : ∃ t, ns[k]? = some t := ⟨_, List.getElem?_eq_getElem (by have := hN.out; omega)⟩
      obtain ⟨b1, o1, rfl, hb1, t1⟩ := hBb.out.at hS.out.b hs
      have C : Hid (Calls Tryd.prog 6 #[.slice a q c1, .string s] wr fun e w' => e = .returned (.string (valT l s)) ∧ Below wr.heap.size wr w') := hV.out s wr hS.out.b
      have hGk : Hid (V.getD k ⟨#[]⟩ = valT l s) := hG.out k s hs
      generalize valT l s = v at C hGk
      go_wp2_with fail
      refine Calls.mono C.out ?_
      rintro e w2 ⟨rfl, hb2⟩
      have S2 := hS.out.below hb2
      have c0 := S2.c k hk
      have f0 := S2.f k hk
      have S3 : Hid (GS w g n (k + 1) V (w2.setCell ⟨g, k, none⟩ (.string v))) := S2.more hk v hGk.out
      clear S2 hS C hb2 t1 hs
      go_wp2_with fail
      go_round
      case measure => simp only [intOf]; omega
      case rel => exact ⟨k + 1, by simp, by omega, S3⟩
    · have hkI : ¬ (k : Int) < (n : Int) := by omega
      obtain rfl : k = n := by omega
      go_wp2_with fail
      go_ret
      exact ⟨g, rfl, hS.out⟩
set_option maxRecDepth 100000 in
set_option maxHeartbeats 4000000 in
theorem join_any (a b : Option Addr) (c1 c2 : Nat) (ns vs : List ByteArray) (w : World) (hn : ns.length ≤ 4611686018427387904) (hv : vs.length ≤ 4611686018427387904) (ha : StIn w a ns) (hb : StIn w b vs) (hj : (joinP ns vs (min ns.length vs.length)).length ≤ 4398046511104)
    (hS : ∀ (a' : Option Addr) (c' : Nat) (W : World), w.heap.size ≤ W.heap.size → TgIn W a' (joinP ns vs (min ns.length vs.length)) → Calls Tryd.prog 10 #[.slice a' (joinP ns vs (min ns.length vs.length)).length c'] W fun e w' => SortedR W w' e (joinP ns vs (min ns.length vs.length)) ∧ Below W.heap.size W w') :
    Calls Tryd.prog 15 #[.slice a ns.length c1, .slice b vs.length c2] w fun e w' => SortedR w w' e (joinP ns vs (min ns.length vs.length)) ∧ Below w.heap.size w w' := by
  have hA : Hid (StIn w a ns) := ha
  have hBb : Hid (StIn w b vs) := hb
  have hSH : Hid _ := hS
  clear ha hb hS
  obtain ⟨p, hp⟩ : ∃ p, ns.length = p := ⟨_, rfl⟩
  obtain ⟨q, hq⟩ : ∃ q, vs.length = q := ⟨_, rfl⟩
  have hP : Hid (ns.length = p) := hp
  have hQ : Hid (vs.length = q) := hq
  rw [hp, hq] at hj hSH ⊢
  rw [hp] at hn
  rw [hq] at hv
  clear hp hq
  obtain ⟨m, hm⟩ : ∃ m, min p q = m := ⟨_, rfl⟩
  have hM : Hid (m ≤ p ∧ m ≤ q ∧ (m = p ∨ m = q)) := by show m ≤ p ∧ m ≤ q ∧ (m = p ∨ m = q); omega
  have hmI : min (p : Int) (q : Int) = (m : Int) := by omega
  rw [hm] at hj hSH ⊢
  clear hm
  obtain ⟨L, hL⟩ : ∃ L, joinP ns vs m = L := ⟨_, rfl⟩
  rw [hL] at hj hSH ⊢
  have hLH : Hid (joinP ns vs m = L) := hL
  clear hL
  go_enter Tryd.func15, Tryd.ntmps15
  go_wp2_with fail
  go_loopw [5, 12] (fun vl vi wr => ∃ (k : Nat) (a3 : Option Addr) (z c3 : Nat), vl = .slice a3 z c3 ∧ vi = .int .i64 (k : Int) ∧ k ≤ m ∧ Hid (OT wr w.heap.size (.slice a3 z c3) (joinP ns vs k)) ∧ Below w.heap.size w wr) (fun _ vi _ => m - (intOf vi).toNat)
  case atStart => exact ⟨0, none, 0, 0, rfl, rfl, by omega, OT.nil _ _, Below.refl _ _⟩
  case round =>
    obtain ⟨k, a3, z, c3, rfl, rfl, hkm, hO, hB⟩ := hrel
    have kw : IntKind.i64.wrap ((k : Int) + 1) = ((k + 1 : Nat) : Int) := IntWalk.i64_in _ (by have := hM.out; omega)
    by_cases hk : k < m
    · have hkI : (k : Int) < (m : Int) := by omega
      have hkp : (k : Int) < (p : Int) := by have := hM.out; omega
      have hkq : (k : Int) < (q : Int) := by have := hM.out; omega
      have k0 : (0 : Int) ≤ (k : Int) := by omega

      obtain ⟨x, hx⟩ : ∃ t, ns[k]? = some t := ⟨_, List.getElem?_eq_getElem (by have := hP.out; have := hM.out; omega)⟩
      obtain ⟨y, hy⟩ : ∃ t, vs[k]? = some t := ⟨_, List.getElem?_eq_getElem (by have := hQ.out; have := hM.out; omega)⟩
      obtain ⟨b1, o1, rfl, hb1, t1⟩ := hA.out.at hB hx
      obtain ⟨b2, o2, rfl, hb2, t2⟩ := hBb.out.at hB hy
      have hst := joinP_step hx hy
      by_cases he : y = ⟨#[]⟩
      · rw [if_pos he, List.append_nil] at hst
        have hO2 : Hid (OT wr w.heap.size (.slice a3 z c3) (joinP ns vs (k + 1))) := by rw [hst]; exact hO
        have hq2 : (y.toList == []) = true := by rw [he, ByteArray.toList_eq]; rfl
        have hBH : Hid (Below w.heap.size w wr) := hB
        clear hst he hB hO
        go_wp2_with fail
        go_round
        case measure => simp only [intOf]; omega
        case rel => exact ⟨k + 1, a3, z, c3, rfl, by simp, by omega, hO2, hBH.out⟩
      · rw [if_neg he] at hst
        have hq2 : (y.toList == []) = false := by
          rw [beq_eq_false_iff_ne]
          intro e
          rw [ByteArray.toList_eq] at e
          exact he (ByteArray.ext (Array.ext' e))
        obtain ⟨v1, w1, hr1, ho1, hb1'⟩ := app1T wr w.heap.size (.slice a3 z c3) (joinP ns vs k) hO.out hB.size x y (by
          have h1 : (joinP ns vs (k + 1)).length ≤ (joinP ns vs m).length := joinP_le ns vs (by omega)
          rw [hst, hLH.out, List.length_append, List.length_singleton] at h1
          omega)
        rw [← hst] at ho1
        obtain ⟨a4, c4, e4, _, _⟩ := ho1.tin
        subst e4
        generalize (joinP ns vs (k + 1)).length = z4 at *
        have hb1w : b1 < wr.heap.size := Nat.lt_of_lt_of_le hb1 hB.size
        have hb2w : b2 < wr.heap.size := Nat.lt_of_lt_of_le hb2 hB.size
        have hBn : Below w.heap.size w w1 := hB.trans hb1'
        have hSW : wr.cell? ⟨b1, o1 + k, none⟩ = some (.string x) ∧ wr.cell? ⟨b2, o2 + k, none⟩ = some (.string y) := ⟨t1, t2⟩
        have hSA : (wr.alloc (.cells #[.string x, .string y] 34)).drew.cell? ⟨b1, o1 + k, none⟩ = some (.string x) ∧ (wr.alloc (.cells #[.string x, .string y] 34)).drew.cell? ⟨b2, o2 + k, none⟩ = some (.string y) := by
          have hBa := (((Below.refl wr.heap.size wr).alloc (Nat.le_refl _) (.cells #[.string x, .string y] 34)).drew)
          exact ⟨by rw [hBa.cell (p := ⟨b1, o1 + k, none⟩) hb1w]; exact t1, by rw [hBa.cell (p := ⟨b2, o2 + k, none⟩) hb2w]; exact t2⟩
        have hS1 : w1.cell? ⟨b1, o1 + k, none⟩ = some (.string x) ∧ w1.cell? ⟨b2, o2 + k, none⟩ = some (.string y) := ⟨by rw [hb1'.cell (p := ⟨b1, o1 + k, none⟩) hb1]; exact t1, by rw [hb1'.cell (p := ⟨b2, o2 + k, none⟩) hb2]; exact t2⟩
        have hrH : Hid _ := hr1
        have hoH : Hid (OT w1 w.heap.size (.slice a4 z4 c4) (joinP ns vs (k + 1))) := ho1
        have hBH : Hid (Below w.heap.size w w1) := hBn
        clear hst he hr1 ho1 hb1' hO hB hBn hx hy
        go_wp2_with fail
        go_region_held3 (fun w' => w'.cell? ⟨b1, o1 + k, none⟩ = some (.string x) ∧ w'.cell? ⟨b2, o2 + k, none⟩ = some (.string y)) (first | assumption | exact ⟨by assumption, by assumption⟩)
          (first | (refine step_append_runS rfl (.tmp 20) (.tmp 30) 22 rfl _ _ _ _ rfl rfl hrH.out ?_))
        all_goals
          clear hSW hSA hS1 hrH t1 t2
          go_wp2_with fail
          go_roundw
          case rel => first | exact ⟨k + 1, a4, z4, c4, rfl, by simp, by omega, hoH, hBH.out⟩ | trace_state
          case measure => simp only [intOf]; omega
    · have hkI : ¬ (k : Int) < (m : Int) := by omega

      obtain rfl : k = m := by omega
      obtain ⟨a5, c5, e5, hc3, ht3⟩ := hO.out.tin
      injection e5 with e6 e7 e8
      subst e6 e8
      rw [hLH.out] at ht3 e7
      subst e7
      have C : Hid (Calls Tryd.prog 10 #[.slice a3 L.length c3] wr fun e w' => SortedR wr w' e L ∧ Below wr.heap.size wr w') := hSH.out a3 c3 wr hB.size ht3
      have hBH : Hid (Below w.heap.size w wr) := hB
      clear ht3 hO hB hSH hLH hj
      generalize hz : L.length = z at *
      clear hz
      go_wp2_with fail
      refine Calls.mono C.out ?_
      rintro e w2 ⟨hR, hb2⟩
      have hRH : Hid (SortedR w w2 e L ∧ Below w.heap.size w w2) := ⟨hR.wide hBH.out.size, hBH.out.trans (hb2.mono hBH.out.size)⟩
      clear hR hb2 C
      obtain ⟨v, rfl⟩ : ∃ v, e = .returned v := SortedR.ret hRH.out.1
      go_wp2_with fail
      go_ret
      exact hRH.out
end Go.Proofs.YtkpcndnefbaooaaDoor
