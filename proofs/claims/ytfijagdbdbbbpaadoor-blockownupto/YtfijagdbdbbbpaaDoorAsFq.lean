
import Derived.Test.YtfijagdbdbbbpaaDoorProg
import Derived.WalkKit
import Derived.LaidEql
import Derived.Stop.Asserts
import Derived.RowKitTokens
import Derived.Below
import Derived.WalkLawsBesides
namespace Go.Proofs.YtfijagdbdbbbpaaDoor
open Go.RowKit Go.Extern.Stop Go.Stop Go.Extern

theorem rlm (z : Sem Value) (f : TypeId → Addr → Nat → Nat → Sem Value) (v : Value) : ReflectliteValue.method z f #[v] = (ReflectliteValue.parts v >>= fun o => Option.elim o z (fun p => f p.1 p.2.1 p.2.2 (p.2.2 % 32))) := by
  refine Eq.trans (b := ReflectliteValue.parts v >>= _) rfl ?_
  congr 1; funext o; rcases o with _ | ⟨t, a, fl⟩ <;> rfl
theorem kindE (w : World) : ((ReflectliteType.abiMethod fun t => (fun a : Nat => Value.int IntKind.u8 (a : Int)) <$> Rtype.kind t) #[.pointer (some ⟨1, 77, none⟩)]).run Tryd.prog w = .ok (.int .u8 2) w := by kernel_rfl
theorem mkE (p : Addr) (w : World) : (ReflectliteValue.mk 77 p ReflectliteValue.flagAddr).run Tryd.prog w = .ok (.agg #[.pointer (some ⟨1, 77, none⟩), .pointer (some p), .int .u64 386]) w := by kernel_rfl
theorem partsAE (a : Addr) (w : World) : (ReflectliteValue.parts (.agg #[.pointer (some ⟨1, 77, none⟩), .pointer (some a), .int .u64 386])).run Tryd.prog w = .ok (some (77, a, 386)) w := by kernel_rfl
theorem partsE (a : Addr) (w : World) : (ReflectliteValue.parts (.agg #[.pointer (some ⟨1, 77, none⟩), .pointer (some a), .int .u64 130])).run Tryd.prog w = .ok (some (77, a, 130)) w := by kernel_rfl
theorem directE (w : World) : (Rtype.directlyAssignable 77 77).run Tryd.prog w = .ok true w := by kernel_rfl
theorem kindA (w : World) : ((ReflectliteType.abiMethod fun t => (fun a : Nat => Value.int IntKind.u8 (a : Int)) <$> Rtype.kind t) #[.pointer (some ⟨1, 204, none⟩)]).run Tryd.prog w = .ok (.int .u8 25) w := by kernel_rfl
theorem mkA (p : Addr) (w : World) : (ReflectliteValue.mk 204 p ReflectliteValue.flagAddr).run Tryd.prog w = .ok (.agg #[.pointer (some ⟨1, 204, none⟩), .pointer (some p), .int .u64 409]) w := by kernel_rfl
theorem partsAA (a : Addr) (w : World) : (ReflectliteValue.parts (.agg #[.pointer (some ⟨1, 204, none⟩), .pointer (some a), .int .u64 409])).run Tryd.prog w = .ok (some (204, a, 409)) w := by kernel_rfl
theorem partsA (a : Addr) (w : World) : (ReflectliteValue.parts (.agg #[.pointer (some ⟨1, 204, none⟩), .pointer (some a), .int .u64 153])).run Tryd.prog w = .ok (some (204, a, 153)) w := by kernel_rfl
theorem directA (w : World) : (Rtype.directlyAssignable 204 204).run Tryd.prog w = .ok true w := by kernel_rfl
end Go.Proofs.YtfijagdbdbbbpaaDoor

