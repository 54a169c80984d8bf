
import Derived.Test.YticgapplpfaigaaGreatWkD
namespace Go.Proofs.YticgapplpfaigaaGreat
open Go.RowKit
set_option linter.unusedVariables false
set_option linter.unusedSimpArgs false
/-- the sample ahead of a number. -/
def preS (X : List Smp) (k : Nat) : Smp := (numV X ((k : Int) - 1)).1
theorem numV_pre {X : List Smp} {k : Nat} (h : k ≤ X.length) : numV X ((k : Int) - 1) = (preS X k, decide (0 < k)) := by
  refine Prod.ext rfl ?_
  cases k with
  | zero => rw [show ((0 : Nat) : Int) - 1 = -1 from rfl, numV_neg]; rfl
  | succ j =>
    rw [show ((j + 1 : Nat) : Int) - 1 = (j : Int) by omega, numV_nat]
    simp; omega
theorem preS_succ (X : List Smp) (j : Nat) : preS X (j + 1) = nthS X j := by
  unfold preS
  rw [show ((j + 1 : Nat) : Int) - 1 = (j : Int) by omega, numV_nat]
theorem last_pre (N B : Nat) (v : Value) (X : List Smp) (w : World) (h : SS N B v X w) (m : Nat) (hm : m = X.length) : Calls Tryz.prog 70 #[.pointer (some ⟨N, 0, none⟩)] w fun e w' => e = .returned (.tuple #[.agg #[.int .i64 (preS X m).t, .int .u8 ((preS X m).k : Int), .int .i64 (preS X m).x], .bool (decide (0 < m))]) ∧ Below w.heap.size w w' := by
  have := last_any N B v X w h
  rw [← hm, numV_pre (by omega)] at this
  exact this
theorem before_pre (N B : Nat) (v : Value) (X : List Smp) (w : World) (h : SS N B v X w) (j : Nat) (hj : j < X.length) : Calls Tryz.prog 73 #[.pointer (some ⟨N, 0, none⟩), .int .i64 (nthS X j).t] w fun e w' => e = .returned (.tuple #[.agg #[.int .i64 (preS X j).t, .int .u8 ((preS X j).k : Int), .int .i64 (preS X j).x], .bool (decide (0 < j))]) ∧ Below w.heap.size w w' := by
  have := before_any N B v X (nthS X j).t w h
  rw [ahd_at h.hr (nthS_some hj), numV_pre (by omega)] at this
  exact this
theorem WkS.lay0 {T xb : Nat} {X : List Smp} {wT w : World} {v : Value} {k : Nat} {s : Smp} (h : WkS T xb X wT w v k) (hc : XC xb s w) (s1 : Smp) :
    WkS T xb X wT (((w.setCell ⟨xb, 0, none⟩ (.int .i64 s1.t)).setCell ⟨xb, 1, none⟩ (.int .u8 (s1.k : Int))).setCell ⟨xb, 2, none⟩ (.int .i64 s1.x)) v k ∧ XC xb s1 (((w.setCell ⟨xb, 0, none⟩ (.int .i64 s1.t)).setCell ⟨xb, 1, none⟩ (.int .u8 (s1.k : Int))).setCell ⟨xb, 2, none⟩ (.int .i64 s1.x)) := by
  have hl := h.hl
  have hx := h.hx
  have hT : T ≠ xb := by omega
  have hS := ((h.s2.other (p := ⟨xb, 0, none⟩) hT h.ne (.int .i64 s1.t)).other (p := ⟨xb, 1, none⟩) hT h.ne (.int .u8 (s1.k : Int))).other (p := ⟨xb, 2, none⟩) hT h.ne (.int .i64 s1.x)
  have hB := ((h.b.setCell (p := ⟨xb, 0, none⟩) (by simpa using Nat.le_of_lt hx) (.int .i64 s1.t)).setCell (p := ⟨xb, 1, none⟩) (by simpa using Nat.le_of_lt hx) (.int .u8 (s1.k : Int))).setCell (p := ⟨xb, 2, none⟩) (by simpa using Nat.le_of_lt hx) (.int .i64 s1.x)
  exact ⟨⟨hS, h.ne, hB, hx, by simpa using hl⟩, hc.lay s1⟩
theorem rises_eq : ∀ {a b : List Int}, a.Pairwise (· < ·) → b.Pairwise (· < ·) → (∀ x, x ∈ a ↔ x ∈ b) → a = b
  | [], [], _, _, _ => rfl
  | [], y :: b, _, _, h => by have := (h y).2 (by simp); cases this
  | x :: a, [], _, _, h => by have := (h x).1 (by simp); cases this
  | x :: a, y :: b, ha, hb, h => by
    have ha1 := (List.pairwise_cons.1 ha).1
    have hb1 := (List.pairwise_cons.1 hb).1
    have e : x = y := by
      have h1 := (h x).1 (by simp)
      have h2 := (h y).2 (by simp)
      rcases List.mem_cons.1 h1 with e | h1
      · exact e
      · rcases List.mem_cons.1 h2 with e | h2
        · exact e.symm
        · have := hb1 x h1; have := ha1 y h2; omega
    subst e
    congr 1
    refine rises_eq (List.pairwise_cons.1 ha).2 (List.pairwise_cons.1 hb).2 (fun z => ⟨fun hz => ?_, fun hz => ?_⟩)
    · rcases List.mem_cons.1 ((h z).1 (by simp [hz])) with e | h1
      · subst e; have := ha1 z hz; omega
      · exact h1
    · rcases List.mem_cons.1 ((h z).2 (by simp [hz])) with e | h1
      · subst e; have := hb1 z hz; omega
      · exact h1
theorem range_lin (N B : Nat) (v : Value) (X : List Smp) (w : World) (h : SS N B v X w) (f t : Int) : Calls Tryz.prog 14 #[.pointer (some ⟨N, 0, none⟩), .int .i64 f, .int .i64 t] w fun e w' => ∃ a c, e = .returned (.slice a (rangeL X f t).length c) ∧ LIn w' a (rangeL X f t) ∧ Below w.heap.size w w' := by
  refine Calls.mono (range_any N B v X w h f t) ?_
  rintro e w' ⟨v', rfl, own, hB⟩
  obtain ⟨a, c, rfl, _, hL⟩ := OR.lin (Or.inl own) (fun s hs => h.hk s ((rangeL_mem h.hr f t s).1 hs).1)
  exact ⟨a, c, rfl, hL, hB⟩
theorem rangeL_len (X : List Smp) (f t : Int) : (rangeL X f t).length ≤ X.length := by
  unfold rangeL; rw [List.length_take, List.length_drop]; omega
theorem load_again (N B : Nat) (v : Value) (X l : List Smp) (a : Option Addr) (cap : Nat) (w : World) (h : SS N B v X w) (hL : LIn w a l) (hn : X.length + l.length ≤ 1000000000000) (K : List Int) (hK : K.Pairwise (· < ·) ∧ ∀ t, t ∈ K ↔ (valOf l t).isSome = true) (hag : dlL (fun t => (valOf l t).getD (0, 0)) X K = []) :
    Calls Tryz.prog 11 #[.pointer (some ⟨N, 0, none⟩), .slice a l.length cap] w fun e w' => ∃ a' c', e = .returned (.slice a' 0 c') ∧ Below B w w' := by
  refine Calls.mono (load_any N B v X l a cap w h hL hn) ?_
  rintro e w' ⟨r, v', K', rfl, hr, hm, _, hF, hD, _, _⟩
  have e : K' = K := rises_eq hr hK.1 (fun t => (hm t).trans (hK.2 t).symm)
  subst e
  rw [hag] at hD
  rcases hD.2 with ⟨e1, e0⟩ | ⟨g, c, cur, e1, _⟩
  · exact ⟨none, 0, by rw [e1], hF.below h⟩
  · exact ⟨_, c, by rw [e1]; rfl, hF.below h⟩
theorem wpList_append_open {P : Program} {ops : Array Oper} {rest : List Oper} {o : Oper} {a : Act} {Q : Exit → Act → World → Prop} {w : World} (hgd : Region.wanted o (yielded ops a.tmps) = true) (s x : Operand) (t : TypeId)
    (ho : o.op = .call { callee := .builtin .append, args := #[s, x], argTypes := #[t, t] }) (v y v' : Value) (w' : World) (hs : a.eval s = v) (hx : a.eval x = y) (hr : (Builtin.append_ #[t, t] o.type #[v, y]).run P w = .ok v' w')
    (h : wpList P ops Q rest (a.put o.dst v') w') : wpList P ops Q (o :: rest) a w := by
  refine wpList_step fun K hK => ?_
  rw [if_pos hgd]
  unfold Oper.wp execOp
  simp only [ho, resolve, invoke, builtin, Sem.run_bind, Sem.run_pure, Result.andThen_ok, List.map_toArray, List.map_cons, List.map_nil, hs, hx, hr]
  exact hK _ _ h
end Go.Proofs.YticgapplpfaigaaGreat
