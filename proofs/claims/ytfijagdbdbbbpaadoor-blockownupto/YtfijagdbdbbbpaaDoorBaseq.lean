
import Derived.Test.YtfijagdbdbbbpaaDoorBuB
import Derived.Test.YtfijagdbdbbbpaaDoorBuA
namespace Go.Proofs.YtfijagdbdbbbpaaDoor
open Go.RowKit
theorem bcell {W w1 : World} (hb : Below W.heap.size W w1) : (∀ b o, b < W.heap.size → w1.cell? ⟨b, o, none⟩ = W.cell? ⟨b, o, none⟩) ∧ (∀ b o, b < W.heap.size → w1.frozen? ⟨b, o, none⟩ = W.frozen? ⟨b, o, none⟩) :=
  ⟨fun b o h => hb.cell (p := ⟨b, o, none⟩) h, fun b o h => hb.frozen (p := ⟨b, o, none⟩) h⟩
theorem new_any (c : Int) (h : (c == 0) = false) (w : World) : Calls Tryd.prog 14 #[.int .i64 c] w fun e w' => e = .returned (.iface 77 (.int .i64 c)) ∧ w' = w := by
  go_enter Tryd.func14, Tryd.ntmps14
  go_wp2
  go_ret
  exact ⟨rfl, rfl⟩
end Go.Proofs.YtfijagdbdbbbpaaDoor
