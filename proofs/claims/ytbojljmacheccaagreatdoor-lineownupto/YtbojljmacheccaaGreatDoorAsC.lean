
import Derived.Test.YtbojljmacheccaaGreatDoorAsF
namespace Go.Proofs.YtbojljmacheccaaGreatDoor
open Go.RowKit Go.Extern.Stop Go.Stop Go.Extern

theorem valueOfE (c : Int) (w : World) : (ReflectliteValue.unpack (.iface 33 (.int .i64 c))).run Tryz.prog w
    = .ok (.agg #[.pointer (some ⟨9, 33, none⟩), .pointer (some ⟨w.heap.size, 0, none⟩), .int .u64 130]) (w.alloc (.cells #[.int .i64 c] 33)) := by kernel_rfl
/-- what (Value).Set does where the types are one: behind the two looks at the values it loads and stores. -/
theorem rls (v x : Value) (P : Program) (W : World) (dst src : TypeId) (a b : Addr) (fl f2 : Nat) (h1 : (ReflectliteValue.parts v).run P W = .ok (some (dst, a, fl)) W) (h2 : (ReflectliteValue.parts x).run P W = .ok (some (src, b, f2)) W) (hfl : (fl / ReflectliteValue.flagAddr % 2 == 0) = false) (val : Value) (hl : (loadVar src b).run P W = .ok val W) (hd : (Rtype.directlyAssignable dst src).run P W = .ok true W) :
    (ReflectliteValue.set #[v, x]).run P W = ((storeVar dst a val).run P W).andThen fun _ w' => .ok (.tuple #[]) w' := by
  refine Eq.trans (b := Sem.run P (ReflectliteValue.parts v >>= fun p => ReflectliteValue.parts x >>= _) W) rfl ?_
  simp only [Sem.run_bind, h1, h2, Result.andThen, hfl, Bool.false_eq_true, if_false, hl, hd, if_true]
  cases Sem.run P (storeVar dst a val) W <;> rfl
theorem setE (ta b : Addr) (c : Int) (old : Value) (W : World) (hb : W.cell? b = some (.int .i64 c)) (ht : W.cell? ta = some old) (hf : W.frozen? ta = false) :
    (ReflectliteValue.set #[.agg #[.pointer (some ⟨9, 33, none⟩), .pointer (some ta), .int .u64 386], .agg #[.pointer (some ⟨9, 33, none⟩), .pointer (some b), .int .u64 130]]).run Tryz.prog W
      = .ok (.tuple #[]) (W.setCell ta (.int .i64 c)) := by
  rw [rls _ _ Tryz.prog W 33 33 ta b 386 130 (partsAE ta W) (partsE b W) (by decide) (.int .i64 c) (by simp [loadVar, isAgg, underlying, Tryz.underlying33, hb, Result.andThen]) (directE W)]
  simp [storeVar, Value.cells, storeCells, Addr.add, Result.andThen]
  rw [run_store Tryz.prog W ta _ _ (by rfl)]
  simp [ht, hf]
theorem ext_valueOf : ∀ (args : Array Value) (w : World), Sem.run Tryz.prog (callFunc 105 args) w = (Sem.run Tryz.prog (((fun args => ReflectliteValue.unpack (args.getD 0 (.tuple #[])))) args) w).andThen fun v w' => Result.ok (Next.value v) w' :=
  run_callFunc_extern Tryz.func105 (by kernel_rfl) (by kernel_rfl) (by kernel_rfl) (by kernel_rfl)
theorem ext_type : ∀ (args : Array Value) (w : World), Sem.run Tryz.prog (callFunc 106 args) w = (Sem.run Tryz.prog (((ReflectliteValue.methodAny (ReflectliteValue.valueError "reflectlite.Value.Type" 0) (fun t _ _ _ => ReflectliteType.toType t))) args) w).andThen fun v w' => Result.ok (Next.value v) w' :=
  run_callFunc_extern Tryz.func106 (by kernel_rfl) (by kernel_rfl) (by kernel_rfl) (by kernel_rfl)
theorem ext_isNil : ∀ (args : Array Value) (w : World), Sem.run Tryz.prog (callFunc 107 args) w = (Sem.run Tryz.prog (((ReflectliteValue.method (ReflectliteValue.valueError "reflectlite.Value.IsNil" 0) ReflectliteValue.isNil)) args) w).andThen fun v w' => Result.ok (Next.value v) w' :=
  run_callFunc_extern Tryz.func107 (by kernel_rfl) (by kernel_rfl) (by kernel_rfl) (by kernel_rfl)
theorem ext_kind : ∀ (args : Array Value) (w : World), Sem.run Tryz.prog (callFunc 230 args) w = (Sem.run Tryz.prog (((ReflectliteType.abiMethod fun t => do pure (.int .u8 (← Rtype.kind t)))) args) w).andThen fun v w' => Result.ok (Next.value v) w' :=
  run_callFunc_extern Tryz.func230 (by kernel_rfl) (by kernel_rfl) (by kernel_rfl) (by kernel_rfl)
theorem ext_telem : ∀ (args : Array Value) (w : World), Sem.run Tryz.prog (callFunc 245 args) w = (Sem.run Tryz.prog (((ReflectliteType.method ReflectliteType.elem)) args) w).andThen fun v w' => Result.ok (Next.value v) w' :=
  run_callFunc_extern Tryz.func245 (by kernel_rfl) (by kernel_rfl) (by kernel_rfl) (by kernel_rfl)
theorem ext_implements : ∀ (args : Array Value) (w : World), Sem.run Tryz.prog (callFunc 246 args) w = (Sem.run Tryz.prog (((ReflectliteType.relation "Implements" ReflectliteType.implements_)) args) w).andThen fun v w' => Result.ok (Next.value v) w' :=
  run_callFunc_extern Tryz.func246 (by kernel_rfl) (by kernel_rfl) (by kernel_rfl) (by kernel_rfl)
theorem ext_typeOf : ∀ (args : Array Value) (w : World), Sem.run Tryz.prog (callFunc 145 args) w = (Sem.run Tryz.prog ((ReflectliteType.typeOf) args) w).andThen fun v w' => Result.ok (Next.value v) w' :=
  run_callFunc_extern Tryz.func145 (by kernel_rfl) (by kernel_rfl) (by kernel_rfl) (by kernel_rfl)
theorem ext_assignable : ∀ (args : Array Value) (w : World), Sem.run Tryz.prog (callFunc 243 args) w = (Sem.run Tryz.prog (((ReflectliteType.relation "AssignableTo" ReflectliteType.assignableTo)) args) w).andThen fun v w' => Result.ok (Next.value v) w' :=
  run_callFunc_extern Tryz.func243 (by kernel_rfl) (by kernel_rfl) (by kernel_rfl) (by kernel_rfl)
theorem ext_velem : ∀ (args : Array Value) (w : World), Sem.run Tryz.prog (callFunc 146 args) w = (Sem.run Tryz.prog (((ReflectliteValue.method (ReflectliteValue.valueError "reflectlite.Value.Elem" 0) ReflectliteValue.elem)) args) w).andThen fun v w' => Result.ok (Next.value v) w' :=
  run_callFunc_extern Tryz.func146 (by kernel_rfl) (by kernel_rfl) (by kernel_rfl) (by kernel_rfl)
theorem ext_set : ∀ (args : Array Value) (w : World), Sem.run Tryz.prog (callFunc 147 args) w = (Sem.run Tryz.prog ((ReflectliteValue.set) args) w).andThen fun v w' => Result.ok (Next.value v) w' :=
  run_callFunc_extern Tryz.func147 (by kernel_rfl) (by kernel_rfl) (by kernel_rfl) (by kernel_rfl)

set_option maxHeartbeats 4000000 in
/-- errors.As(an Errno, &e): it is found. -/
theorem as_EE (c : Int) (t : Addr) (old : Value) (w : World) (hg : ET w) (ht0 : w.cell? t = some old) (hf0 : w.frozen? t = false) :
    Calls Tryz.prog 37 #[.iface 33 (.int .i64 c), .iface 109 (.pointer (some t))] w fun ev w' => ev = .returned (.bool true) ∧ w' = ((((w.alloc (.cells #[.pointer (some t)] 109)).alloc (.cells #[.pointer (some ⟨9, 109, none⟩), .pointer (some ⟨w.heap.size, 0, none⟩), .int .u64 150] 151)).alloc (.cells #[.pointer (some ⟨9, 109, none⟩), .pointer (some ⟨w.heap.size, 0, none⟩), .int .u64 150] 151)).alloc (.cells #[.int .i64 c] 33)).setCell t (.int .i64 c) := by
  unfold ET at hg
  have h1 := ext_valueOf; have h2 := ext_type; have h3 := ext_isNil; have h4 := ext_kind; have h5 := ext_telem; have h6 := ext_implements; have h7 := ext_typeOf; have h8 := ext_assignable; have h9 := ext_velem; have h10 := ext_set
  have tO := typeOfE
  have mA := methodAssignableTo
  have a25 := assignableE
  have v25 := valueOfE
  have f6 := valueOfPE
  have f7 := typePE
  have mK := methodKind
  have mE := methodElem
  have mI := methodImplements
  have k27 := kindPE
  have k25 := kindE
  have e27 := elemPE
  have i25 := implementsE
  have n8 := isNilPE ⟨w.heap.size, 0, none⟩ t ((w.alloc (.cells #[.pointer (some t)] 109)).alloc (.cells #[.pointer (some ⟨9, 109, none⟩), .pointer (some ⟨w.heap.size, 0, none⟩), .int .u64 150] 151)) (by simp)
  have hlt : 0 < w.heap.size := by
    rcases Nat.lt_or_ge 0 w.heap.size with h | h
    · exact h
    · simp [World.cell?, Array.getElem?_eq_none h] at hg
  have hg2 : ((w.alloc (.cells #[.pointer (some t)] 109)).alloc (.cells #[.pointer (some ⟨9, 109, none⟩), .pointer (some ⟨w.heap.size, 0, none⟩), .int .u64 150] 151)).cell? ⟨0, 0, none⟩ = some (.iface 260 (.agg #[.pointer (some ⟨9, 26, none⟩)])) := by
    rw [World.cell?_alloc_lt _ _ ⟨0, 0, none⟩ (by simp <;> omega), World.cell?_alloc_lt _ _ ⟨0, 0, none⟩ hlt]; exact hg
  have htl : t.block < w.heap.size := by
    rcases Nat.lt_or_ge t.block w.heap.size with h | h
    · exact h
    · simp [World.cell?, Array.getElem?_eq_none h] at ht0
  have el := elemVE ⟨w.heap.size, 0, none⟩ t (((w.alloc (.cells #[.pointer (some t)] 109)).alloc (.cells #[.pointer (some ⟨9, 109, none⟩), .pointer (some ⟨w.heap.size, 0, none⟩), .int .u64 150] 151)).alloc (.cells #[.pointer (some ⟨9, 109, none⟩), .pointer (some ⟨w.heap.size, 0, none⟩), .int .u64 150] 151)) (by rw [World.cell?_alloc_lt _ _ ⟨w.heap.size, 0, none⟩ (by simp; omega)]; simp)
  have st := setE t ⟨w.heap.size + 1 + 1 + 1, 0, none⟩ c old ((((w.alloc (.cells #[.pointer (some t)] 109)).alloc (.cells #[.pointer (some ⟨9, 109, none⟩), .pointer (some ⟨w.heap.size, 0, none⟩), .int .u64 150] 151)).alloc (.cells #[.pointer (some ⟨9, 109, none⟩), .pointer (some ⟨w.heap.size, 0, none⟩), .int .u64 150] 151)).alloc (.cells #[.int .i64 c] 33))
    (by rw [World.cell?_alloc_at _ _ _ _ (by simp)]; rfl)
    (by rw [World.cell?_alloc_lt _ _ t (by simp; omega), World.cell?_alloc_lt _ _ t (by simp; omega), World.cell?_alloc_lt _ _ t (by simp; omega), World.cell?_alloc_lt _ _ t htl]; exact ht0)
    (by rw [World.frozen?_alloc_old _ _ t (by simp; omega), World.frozen?_alloc_old _ _ t (by simp; omega), World.frozen?_alloc_old _ _ t (by simp; omega), World.frozen?_alloc_old _ _ t (Nat.ne_of_lt htl)]; exact hf0)
  go_enter Tryz.func37, Tryz.ntmps37
  go_wp2
  refine wp_loop_rounds 1 ?_
  rw [rounds_succ]
  go_wp2
  go_ret
  exact ⟨rfl, rfl⟩
end Go.Proofs.YtbojljmacheccaaGreatDoor
