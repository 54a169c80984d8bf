
import Derived.Test.YtbojljmacheccaaGreatDoorAsF
namespace Go.Proofs.YtbojljmacheccaaGreatDoor
open Go.RowKit Go.Extern.Stop Go.Stop Go.Extern

/-- what (Value).Set does where the types are one: behind the two looks at the values it loads and stores. -/
theorem rls (v x : Value) (P : Program) (W : World) (dst src : TypeId) (a b : Addr) (fl f2 : Nat) (h1 : (ReflectliteValue.parts v).run P W = .ok (some (dst, a, fl)) W) (h2 : (ReflectliteValue.parts x).run P W = .ok (some (src, b, f2)) W) (hfl : (fl / ReflectliteValue.flagAddr % 2 == 0) = false) (val : Value) (hl : (loadVar src b).run P W = .ok val W) (hd : (Rtype.directlyAssignable dst src).run P W = .ok true W) :
    (ReflectliteValue.set #[v, x]).run P W = ((storeVar dst a val).run P W).andThen fun _ w' => .ok (.tuple #[]) w' := by
  refine Eq.trans (b := Sem.run P (ReflectliteValue.parts v >>= fun p => ReflectliteValue.parts x >>= _) W) rfl ?_
  simp only [Sem.run_bind, h1, h2, Result.andThen, hfl, Bool.false_eq_true, if_false, hl, hd, if_true]
  cases Sem.run P (storeVar dst a val) W <;> rfl
theorem setE (ta b : Addr) (c : Int) (old : Value) (W : World) (hb : W.cell? b = some (.int .i64 c)) (ht : W.cell? ta = some old) (hf : W.frozen? ta = false) :
    (ReflectliteValue.set #[.agg #[.pointer (some ⟨9, 33, none⟩), .pointer (some ta), .int .u64 386], .agg #[.pointer (some ⟨9, 33, none⟩), .pointer (some b), .int .u64 130]]).run Tryz.prog W
      = .ok (.tuple #[]) (W.setCell ta (.int .i64 c)) := by
  rw [rls _ _ Tryz.prog W 33 33 ta b 386 130 (partsAE ta W) (partsE b W) (by decide) (.int .i64 c) (by simp [loadVar, isAgg, underlying, Tryz.underlying33, hb, Result.andThen]) (directE W)]
  simp [storeVar, Value.cells, storeCells, Addr.add, Result.andThen]
  rw [run_store Tryz.prog W ta _ _ (by rfl)]
  simp [ht, hf]
theorem ext_valueOf : ∀ (args : Array Value) (w : World), Sem.run Tryz.prog (callFunc 105 args) w = (Sem.run Tryz.prog (((fun args => ReflectliteValue.unpack (args.getD 0 (.tuple #[])))) args) w).andThen fun v w' => Result.ok (Next.value v) w' :=
  run_callFunc_extern Tryz.func105 (by kernel_rfl) (by kernel_rfl) (by kernel_rfl) (by kernel_rfl)
theorem ext_type : ∀ (args : Array Value) (w : World), Sem.run Tryz.prog (callFunc 106 args) w = (Sem.run Tryz.prog (((ReflectliteValue.methodAny (ReflectliteValue.valueError "reflectlite.Value.Type" 0) (fun t _ _ _ => ReflectliteType.toType t))) args) w).andThen fun v w' => Result.ok (Next.value v) w' :=
  run_callFunc_extern Tryz.func106 (by kernel_rfl) (by kernel_rfl) (by kernel_rfl) (by kernel_rfl)
theorem ext_isNil : ∀ (args : Array Value) (w : World), Sem.run Tryz.prog (callFunc 107 args) w = (Sem.run Tryz.prog (((ReflectliteValue.method (ReflectliteValue.valueError "reflectlite.Value.IsNil" 0) ReflectliteValue.isNil)) args) w).andThen fun v w' => Result.ok (Next.value v) w' :=
  run_callFunc_extern Tryz.func107 (by kernel_rfl) (by kernel_rfl) (by kernel_rfl) (by kernel_rfl)
theorem ext_kind : ∀ (args : Array Value) (w : World), Sem.run Tryz.prog (callFunc 230 args) w = (Sem.run Tryz.prog (((ReflectliteType.abiMethod fun t => do pure (.int .u8 (← Rtype.kind t)))) args) w).andThen fun v w' => Result.ok (Next.value v) w' :=
  run_callFunc_extern Tryz.func230 (by kernel_rfl) (by kernel_rfl) (by kernel_rfl) (by kernel_rfl)
theorem ext_telem : ∀ (args : Array Value) (w : World), Sem.run Tryz.prog (callFunc 245 args) w = (Sem.run Tryz.prog (((ReflectliteType.method ReflectliteType.elem)) args) w).andThen fun v w' => Result.ok (Next.value v) w' :=
  run_callFunc_extern Tryz.func245 (by kernel_rfl) (by kernel_rfl) (by kernel_rfl) (by kernel_rfl)
theorem ext_implements : ∀ (args : Array Value) (w : World), Sem.run Tryz.prog (callFunc 246 args) w = (Sem.run Tryz.prog (((ReflectliteType.relation "Implements" ReflectliteType.implements_)) args) w).andThen fun v w' => Result.ok (Next.value v) w' :=
  run_callFunc_extern Tryz.func246 (by kernel_rfl) (by kernel_rfl) (by kernel_rfl) (by kernel_rfl)
theorem ext_typeOf : ∀ (args : Array Value) (w : World), Sem.run Tryz.prog (callFunc 145 args) w = (Sem.run Tryz.prog ((ReflectliteType.typeOf) args) w).andThen fun v w' => Result.ok (Next.value v) w' :=
  run_callFunc_extern Tryz.func145 (by kernel_rfl) (by kernel_rfl) (by kernel_rfl) (by kernel_rfl)
theorem ext_assignable : ∀ (args : Array Value) (w : World), Sem.run Tryz.prog (callFunc 243 args) w = (Sem.run Tryz.prog (((ReflectliteType.relation "AssignableTo" ReflectliteType.assignableTo)) args) w).andThen fun v w' => Result.ok (Next.value v) w' :=
  run_callFunc_extern Tryz.func243 (by kernel_rfl) (by kernel_rfl) (by kernel_rfl) (by kernel_rfl)
theorem ext_velem : ∀ (args : Array Value) (w : World), Sem.run Tryz.prog (callFunc 146 args) w = (Sem.run Tryz.prog (((ReflectliteValue.method (ReflectliteValue.valueError "reflectlite.Value.Elem" 0) ReflectliteValue.elem)) args) w).andThen fun v w' => Result.ok (Next.value v) w' :=
  run_callFunc_extern Tryz.func146 (by kernel_rfl) (by kernel_rfl) (by kernel_rfl) (by kernel_rfl)
theorem ext_set : ∀ (args : Array Value) (w : World), Sem.run Tryz.prog (callFunc 147 args) w = (Sem.run Tryz.prog ((ReflectliteValue.set) args) w).andThen fun v w' => Result.ok (Next.value v) w' :=
  run_callFunc_extern Tryz.func147 (by kernel_rfl) (by kernel_rfl) (by kernel_rfl) (by kernel_rfl)

end Go.Proofs.YtbojljmacheccaaGreatDoor
