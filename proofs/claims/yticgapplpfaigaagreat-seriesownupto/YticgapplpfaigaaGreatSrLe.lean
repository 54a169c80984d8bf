
import Derived.Test.YticgapplpfaigaaGreatSrM
namespace Go.Proofs.YticgapplpfaigaaGreat
open Go.RowKit Go.Maps Go.Sort Go.Shelf
set_option linter.unusedVariables false
set_option linter.unusedSimpArgs false
theorem wpList_mapUpdate_run {P : Program} {ops : Array Oper} {rest : List Oper} {o : Oper} {a : Act} {Q : Exit → Act → World → Prop} {w : World} (hg : o.guard = none) (m x v : Operand) (t : TypeId) (hop : o.op = Op.mapUpdate t m x v)
    (mv key val : Value) (w' : World) (hm : a.eval m = mv) (hx : a.eval x = key) (hv : a.eval v = val) (hr : (Instr.mapUpdate t mv key val).run P w = .ok () w') (h : wpList P ops Q rest (a.put o.dst undef) w') : wpList P ops Q (o :: rest) a w := by
  refine wpList_plain hg fun K' hK' => ?_
  unfold Oper.wp
  simp [execOp, hop, hm, hx, hv, hr, Result.andThen]
  exact hK' _ _ h
/-- a delta's cells. -/
def Dlt.enc (d : Dlt) : List Value := [.string ⟨#[]⟩, .slice none 0 0, .string ⟨#[]⟩, .int .i64 d.t, .bool d.had, .bool true, .int .u8 (d.ok : Int), .int .i64 d.ox, .int .u8 (d.nk : Int), .int .i64 d.nx]
def encD : List Dlt → List Value
  | [] => []
  | d :: r => d.enc ++ encD r
theorem encD_append (a b : List Dlt) : encD (a ++ b) = encD a ++ encD b := by
  induction a with
  | nil => rfl
  | cons s r ih => simp [encD, ih]
theorem encD_len (l : List Dlt) : (encD l).length = l.length * 10 := by
  induction l with
  | nil => rfl
  | cons s r ih => simp only [encD, List.length_append, ih, Dlt.enc, List.length_cons, List.length_nil]; omega
/-- while keys are gone through. -/
structure LdS (N B : Nat) (v : Value) (l : List Smp) (nv : Int → Nat × Int) (K : List Int) (w2 wr : World) (dv fv : Value) (i : Nat) : Prop where
  ss : SS N B v (chgL nv l (K.take i)) wr
  fr : SFr N v v w2 wr
  fo : wr.ownsRow w2.heap.size 89 3 fv (frL nv l (K.take i)).length (encL (frL nv l (K.take i)))
  dO : wr.ownsRow w2.heap.size 95 10 dv (dlL nv l (K.take i)).length (encD (dlL nv l (K.take i)))
  ne : ∀ k, fv.ownBlock = some k → dv.ownBlock ≠ some k
theorem dlt_info : (Tryz.prog.info? 95).map (fun i => (i.zero, i.bytes, i.size)) = some (some (.agg #[.string ⟨#[]⟩, .slice none 0 0, .string ⟨#[]⟩, .int .i64 0, .bool false, .bool false, .int .u8 0, .int .i64 0, .int .u8 0, .int .i64 0]), 104, 10) := by kernel_rfl
theorem app1D (W : World) (B : Nat) (v : Value) (l : List Dlt) (own : W.ownsRow B 95 10 v l.length (encD l)) (hB : B ≤ W.heap.size) (d : Dlt) (hbig : l.length + 1 ≤ 1099511627776) :
    ∃ v' w', (Builtin.append_ #[68, 68] 68 #[v, .slice (some ⟨W.heap.size, 0, none⟩) 1 1]).run Tryz.prog (W.alloc (.cells #[.string ⟨#[]⟩, .slice none 0 0, .string ⟨#[]⟩, .int .i64 d.t, .bool d.had, .bool true, .int .u8 (d.ok : Int), .int .i64 d.ox, .int .u8 (d.nk : Int), .int .i64 d.nx] 95)) = .ok v' w' ∧ w'.ownsRow B 95 10 v' (l ++ [d]).length (encD (l ++ [d])) ∧ (W.alloc (.cells #[.string ⟨#[]⟩, .slice none 0 0, .string ⟨#[]⟩, .int .i64 d.t, .bool d.had, .bool true, .int .u8 (d.ok : Int), .int .i64 d.ox, .int .u8 (d.nk : Int), .int .i64 d.nx] 95)).grownBy w' v.ownBlock ∧ (v'.ownBlock = v.ownBlock ∨ ∃ k, v'.ownBlock = some k ∧ W.heap.size < k) := by
  obtain ⟨i, i1, i0⟩ := Option.map_eq_some_iff.1 dlt_info
  have i2 : i.zero = some (.agg #[.string ⟨#[]⟩, .slice none 0 0, .string ⟨#[]⟩, .int .i64 0, .bool false, .bool false, .int .u8 0, .int .i64 0, .int .u8 0, .int .i64 0]) := congrArg (·.1) i0
  have i3 : i.bytes = 104 := congrArg (·.2.1) i0
  have i4 : i.size = 10 := congrArg (·.2.2) i0
  have hml : maxLen = 9223372036854775807 := by decide
  have own' := World.ownsRow.alloc own (.cells #[.string ⟨#[]⟩, .slice none 0 0, .string ⟨#[]⟩, .int .i64 d.t, .bool d.had, .bool true, .int .u8 (d.ok : Int), .int .i64 d.ox, .int .u8 (d.nk : Int), .int .i64 d.nx] 95)
  obtain ⟨v', w', hr, ho', hg, hnil, hwh⟩ := run_append_own_at (P := Tryz.prog) (W.alloc (.cells #[.string ⟨#[]⟩, .slice none 0 0, .string ⟨#[]⟩, .int .i64 d.t, .bool d.had, .bool true, .int .u8 (d.ok : Int), .int .i64 d.ox, .int .u8 (d.nk : Int), .int .i64 d.nx] 95)) B 68 68 95 i _ 10 104 Tryz.underlying68 i1 i2 i4 i3 rfl (by omega) _ l.length (encD l) own' ⟨W.heap.size, 0, none⟩ 1 1 d.enc rfl (fun j u hu => by
    rw [smp_add, Nat.zero_add]
    have hj : j < 10 := (List.getElem?_eq_some_iff.1 hu).1
    rw [cell_of_row _ W.heap.size j _ 95 (0, 0) (heap_alloc_new W _)]
    rw [← hu, ← Array.getElem?_toList]; rfl) (by intro u hu; simp [Dlt.enc] at hu; rcases hu with rfl | rfl | rfl | rfl | rfl | rfl | rfl | rfl | rfl | rfl <;> rfl) (by omega) (by omega) (by simp; omega)
  refine ⟨v', w', hr, ?_, hg, ?_⟩
  · rw [List.length_append, List.length_singleton, encD_append]
    have : encD [d] = d.enc := by simp [encD]
    rw [this]; exact ho'
  · rcases hwh with e | e
    · exact Or.inl e
    · exact Or.inr ⟨_, e, by simp⟩
end Go.Proofs.YticgapplpfaigaaGreat
