
import Derived.Test.YtnfpommplokemaaTSA
import Derived.Laws.AppendOwnNone
namespace Go.Proofs.Ytnfpommplokemaa
open Go.RowKit Go.Shelf
set_option linter.unusedVariables false
set_option linter.unusedSimpArgs false
theorem i64_info : (Try.prog.info? 2).map (fun i => (i.zero, i.bytes, i.size)) = some (some (.int .i64 0), 8, 1) := by kernel_rfl
def encI (z : Nat → Int) (n : Nat) : List Value := (List.range n).map fun i => .int .i64 (z i)
theorem encI_len (z : Nat → Int) (n : Nat) : (encI z n).length = n := by simp [encI]
theorem encI_get (z : Nat → Int) (n j : Nat) (h : j < n) : (encI z n)[j]? = some (.int .i64 (z j)) := by simp [encI, h]
theorem encI_one (z : Nat → Int) (n : Nat) : ∀ u ∈ encI z n, u.oneCell' = true := by intro u hu; simp [encI] at hu; obtain ⟨x, _, rfl⟩ := hu; rfl
theorem add_none (b o j : Nat) : ((⟨b, o, none⟩ : Addr).add j) = ⟨b, o + j, none⟩ := by
  unfold Addr.add
  split
  · next h => subst h; rfl
  · rfl
theorem copy_ints (hi lo : Int) (w : World) (a : Option Addr) (len cap : Nat) (z : Nat → Int)
    (h : len = 0 ∨ ∃ b off, a = some ⟨b, off, none⟩ ∧ b < w.heap.size ∧ ∀ i, i < len → w.cell? ⟨b, off + i, none⟩ = some (.int .i64 (z i))) (hsz : len * 8 ≤ 140737488355328) :
    ∃ g c w', (Builtin.append_ #[25, 25] 25 #[.slice (some ⟨w.heap.size + 1, 0, none⟩) 0 0, .slice a len cap]).run Try.prog ((w.alloc (.cells #[.int .i64 hi, .int .u64 lo] 24)).alloc (.cells #[] 2)) = .ok (.slice (some ⟨g, 0, none⟩) len c) w' ∧ TM w g len hi lo z w' := by
  obtain ⟨W, hW⟩ : ∃ W, W = ((w.alloc (.cells #[.int .i64 hi, .int .u64 lo] 24)).alloc (.cells #[] 2)) := ⟨_, rfl⟩
  have hz : W.heap.size = w.heap.size + 1 + 1 := by rw [hW]; simp
  have hB : Below w.heap.size w W := by rw [hW]; exact below_new (below_new (Below.refl _ _) _) _
  have s0 : W.cell? ⟨w.heap.size, 0, none⟩ = some (.int .i64 hi) := by rw [hW]; simp [go_sem]
  have s1 : W.cell? ⟨w.heap.size, 1, none⟩ = some (.int .u64 lo) := by rw [hW]; simp [go_sem]
  have own : W.ownsRow (w.heap.size + 1) 2 1 (.slice (some ⟨w.heap.size + 1, 0, none⟩) 0 0) 0 [] := by
    have := World.ownsRow_made (e := 2) (size := 1) (base := w.heap.size + 1) (w.alloc (.cells #[.int .i64 hi, .int .u64 lo] 24)) #[] 0 (by simp) (by simp [maxLen]) rfl
    rw [← hW] at this
    simpa using this
  rw [← hW]
  obtain ⟨i, i1, i0⟩ := Option.map_eq_some_iff.1 i64_info
  have i2 : i.zero = some (.int .i64 0) := congrArg (·.1) i0
  have i3 : i.bytes = 8 := congrArg (·.2.1) i0
  have i4 : i.size = 1 := congrArg (·.2.2) i0
  cases a with
  | none =>
    obtain rfl : len = 0 := by
      rcases h with h | ⟨b, off, h, _⟩
      · exact h
      · cases h
    refine ⟨w.heap.size + 1, 0, W, ?_, s0, s1, fun j hj => by omega, fun j hj => by omega, hB, by omega, by omega⟩
    simp [Builtin.append_, run_underlying Try.underlying25, sizeOf, typeInfo, i1, Builtin.lenOf, run_firstCells_none, storeCells]
  | some ad =>
    have hnews : ∀ j u, (encI z len)[j]? = some u → W.cell? (ad.add j) = some u := fun j u hu => by
      have hj : j < len := by
        rcases Nat.lt_or_ge j len with h | h
        · exact h
        · rw [List.getElem?_eq_none (by rw [encI_len]; exact h)] at hu; cases hu
      rw [encI_get z len j hj] at hu
      obtain rfl := Option.some.inj hu
      rcases h with h | ⟨b, off, ha, hb, hc⟩
      · omega
      · obtain rfl := Option.some.inj ha
        rw [add_none, hB.cell (p := ⟨b, off + j, none⟩) hb]; exact hc j hj
    obtain ⟨v', w', hr, ho', hg, hnil, _⟩ := run_append_own_at (P := Try.prog) W (w.heap.size + 1) 25 25 2 i (.int .i64 0) 1 8 Try.underlying25 i1 i2 i4 i3 rfl (by omega) _ 0 [] own ad len cap (encI z len) (by rw [encI_len]; omega) hnews (encI_one _ _) (by simp [maxLen]; omega) (by omega) (by omega)
    rw [Nat.zero_add, List.nil_append] at ho'
    have hB2 : Below (w.heap.size + 1) W w' := (Below.refl _ W).grown hg (by omega) (fun k e => by simp [Value.ownBlock] at e; omega)
    rcases ho'.2 with ⟨hq, _⟩ | ⟨g, c, cur, hq, hbg, hgr, _⟩
    · have := hnil.1 hq; simp at this
    · subst hq
      have hcs := ho'.cells (g := g) rfl
      have hlt := (ho'.lt g rfl).2
      refine ⟨g, c, w', hr, ?_, ?_, fun j hj => ?_, fun j hj => frozen_of_row _ g j _ _ hgr, hB.trans (hB2.mono (by omega)), by omega, hlt⟩
      · rw [hB2.cell (p := ⟨w.heap.size, 0, none⟩) (by simp)]; exact s0
      · rw [hB2.cell (p := ⟨w.heap.size, 1, none⟩) (by simp)]; exact s1
      · have := hcs j _ (encI_get z len j hj)
        rw [add_none, Nat.zero_add] at this; exact this
theorem ts_append_run {P : Program} {ops : Array Oper} {rest : List Oper} {o : Oper} {a : Act} {Q : Exit → Act → World → Prop} {w : World} (hgd : o.guard = none) (s x : Operand) (t : TypeId)
    (ho : o.op = .call { callee := .builtin .append, args := #[s, x], argTypes := #[t, t] }) (v y v' : Value) (w' : World) (hs : a.eval s = v) (hx : a.eval x = y) (hr : (Builtin.append_ #[t, t] o.type #[v, y]).run P w = .ok v' w')
    (h : wpList P ops Q rest (a.put o.dst v') w') : wpList P ops Q (o :: rest) a w := by
  refine wpList_plain hgd fun K hK => ?_
  unfold Oper.wp execOp
  simp only [ho, resolve, invoke, builtin, Sem.run_bind, Sem.run_pure, Result.andThen_ok, List.map_toArray, List.map_cons, List.map_nil, hs, hx, hr]
  exact hK _ _ h
end Go.Proofs.Ytnfpommplokemaa
