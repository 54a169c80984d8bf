
import Derived.Test.YtfijagdbdbbbpaaDoorAsFq
namespace Go.Proofs.YtfijagdbdbbbpaaDoor
open Go.RowKit Go.Extern.Stop Go.Stop Go.Extern

theorem valueOfE (c : Int) (w : World) : (ReflectliteValue.unpack (.iface 77 (.int .i64 c))).run Tryd.prog w
    = .ok (.agg #[.pointer (some ⟨1, 77, none⟩), .pointer (some ⟨w.heap.size, 0, none⟩), .int .u64 130]) (w.alloc (.cells #[.int .i64 c] 77)) := by kernel_rfl
/-- what (Value).Set does where the types are one: behind the two looks at the values it loads and stores. -/
theorem rls (v x : Value) (P : Program) (W : World) (dst src : TypeId) (a b : Addr) (fl f2 : Nat) (h1 : (ReflectliteValue.parts v).run P W = .ok (some (dst, a, fl)) W) (h2 : (ReflectliteValue.parts x).run P W = .ok (some (src, b, f2)) W) (hfl : (fl / ReflectliteValue.flagAddr % 2 == 0) = false) (val : Value) (hl : (loadVar src b).run P W = .ok val W) (hd : (Rtype.directlyAssignable dst src).run P W = .ok true W) :
    (ReflectliteValue.set #[v, x]).run P W = ((storeVar dst a val).run P W).andThen fun _ w' => .ok (.tuple #[]) w' := by
  refine Eq.trans (b := Sem.run P (ReflectliteValue.parts v >>= fun p => ReflectliteValue.parts x >>= _) W) rfl ?_
  simp only [Sem.run_bind, h1, h2, Result.andThen, hfl, Bool.false_eq_true, if_false, hl, hd, if_true]
  cases Sem.run P (storeVar dst a val) W <;> rfl
theorem setE (ta b : Addr) (c : Int) (old : Value) (W : World) (hb : W.cell? b = some (.int .i64 c)) (ht : W.cell? ta = some old) (hf : W.frozen? ta = false) :
    (ReflectliteValue.set #[.agg #[.pointer (some ⟨1, 77, none⟩), .pointer (some ta), .int .u64 386], .agg #[.pointer (some ⟨1, 77, none⟩), .pointer (some b), .int .u64 130]]).run Tryd.prog W
      = .ok (.tuple #[]) (W.setCell ta (.int .i64 c)) := by
  rw [rls _ _ Tryd.prog W 77 77 ta b 386 130 (partsAE ta W) (partsE b W) (by decide) (.int .i64 c) (by simp [loadVar, isAgg, underlying, Tryd.underlying77, hb, Result.andThen]) (directE W)]
  simp [storeVar, Value.cells, storeCells, Addr.add, Result.andThen]
  rw [run_store Tryd.prog W ta _ _ (by rfl)]
  simp [ht, hf]
end Go.Proofs.YtfijagdbdbbbpaaDoor
