
import Derived.Test.YtnfpommplokemaaDoorParC
import Derived.Test.YtnfpommplokemaaDoorSame
namespace Go.Proofs.YtnfpommplokemaaDoor
open Go.RowKit
set_option linter.unusedVariables false
set_option linter.unusedSimpArgs false
theorem decS_inj (v u : Int) (hv : S128 v) (hu : S128 u) (h : decS v = decS u) : v = u := by
  have e1 := doc_val v hv
  have e2 := doc_val u hu
  rw [h] at e1
  rw [← e1, e2]
theorem rparse_yes (v : Int) (hv : S128 v) (w : World) : Calls Tryd.prog 6 #[.string (decS v)] w fun e w' => e = .returned (.tuple #[.agg #[.int .i64 (sH v), .int .u64 (sL v)], .agg #[.int .i64 0, .int .i64 0, .int .i64 0, .bool false, .bool false]]) ∧ Below w.heap.size w w' := by
  refine (rparse_any (decS v) w).mono ?_
  rintro e w' ⟨hp, hb⟩
  refine ⟨?_, hb⟩
  rcases hp with ⟨u, hu, hT, rfl⟩ | ⟨hno, _⟩
  · rw [decS_inj u v hu hv hT]
  · exact absurd rfl (hno v hv)
theorem rparse_no (T : ByteArray) (hno : ∀ v, S128 v → decS v ≠ T) (w : World) : Calls Tryd.prog 6 #[.string T] w fun e w' => e = .returned (.tuple #[.agg #[.int .i64 0, .int .u64 0], .agg #[.int .i64 31, .int .i64 0, .int .i64 0, .bool false, .bool false]]) ∧ Below w.heap.size w w' := by
  refine (rparse_any T w).mono ?_
  rintro e w' ⟨hp, hb⟩
  refine ⟨?_, hb⟩
  rcases hp with ⟨u, hu, hT, rfl⟩ | ⟨_, rfl⟩
  · exact absurd hT (hno u hu)
  · rfl
/-- both tell the same of a text: the sum, and what is wrong with it. -/
theorem both_parse (T : ByteArray) : ∃ (h l : Int) (E : Value) (c : Int),
    (∀ w, Calls Tryd.prog 5 #[.string T] w fun e w' => e = .returned (.tuple #[.agg #[.int .i64 h, .int .u64 l], E]) ∧ Below w.heap.size w w') ∧
    (∀ w, Calls Tryd.prog 6 #[.string T] w fun e w' => e = .returned (.tuple #[.agg #[.int .i64 h, .int .u64 l], .agg #[.int .i64 c, .int .i64 0, .int .i64 0, .bool false, .bool false]]) ∧ Below w.heap.size w w') ∧
    (∀ w, ET w → Calls Tryd.prog 7 #[E, .agg #[.int .i64 c, .int .i64 0, .int .i64 0, .bool false, .bool false]] w fun e w' => e = .returned (.bool true) ∧ Below w.heap.size w w') := by
  by_cases hD : ∃ v, S128 v ∧ decS v = T
  · obtain ⟨v, hv, rfl⟩ := hD
    exact ⟨_, _, _, _, fun w => parse_dec v hv w, fun w => rparse_yes v hv w, fun w _ => same_nil w⟩
  · have hno : ∀ v, S128 v → decS v ≠ T := fun v hv hT => hD ⟨v, hv, hT⟩
    exact ⟨_, _, _, _, fun w => parse_none T hno w, fun w => rparse_no T hno w, fun w hg => same_err 31 rfl w hg⟩
set_option maxRecDepth 100000 in
theorem numParses_walk (T : ByteArray) (w : World) (hg : ET w) :
    Calls Tryd.prog 3 #[.string T] w fun e w' => e = .returned (.bool true) ∧ Below w.heap.size w w' := by
  obtain ⟨h, l, E, c, hpa, hrp, hsm⟩ := both_parse T
  have hpaH : Hid _ := hpa
  have hrpH : Hid _ := hrp
  have hsmH : Hid _ := hsm
  clear hpa hrp hsm
  go_enter Tryd.func3, Tryd.ntmps3
  go_wp2_with fail
  refine (live_any _ hg).mono ?_
  rintro e w1 ⟨rfl, B1⟩
  go_wp2_with fail
  refine (hpaH.out _).mono ?_
  rintro e w2 ⟨rfl, B2⟩
  have P2 := below_then B1 B2
  go_wp2_with fail
  refine (hrpH.out _).mono ?_
  rintro e w3 ⟨rfl, B3⟩
  have P2a : Below w.heap.size w (w2.alloc (.cells #[.int .i64 h, .int .u64 l] 25)) := below_new P2 _
  have P3 := below_then P2a B3
  have z3 := B3.size
  have a0 : w3.cell? ⟨w2.heap.size, 0, none⟩ = some (.int .i64 h) := by rw [B3.cell (by simp)]; simp
  have a1 : w3.cell? ⟨w2.heap.size, 1, none⟩ = some (.int .u64 l) := by rw [B3.cell (by simp)]; simp
  have z4 : w2.heap.size < w3.heap.size := by simp at z3; omega
  clear B1 B2 B3
  have P4 : ∀ o1 o2, Below w.heap.size w ((w3.alloc o1).alloc o2) := fun o1 o2 => below_new (below_new P3 _) _
  go_wp2_with fail
  refine (hsmH.out _ (ET_below hg (P4 _ _))).mono ?_
  rintro e w5 ⟨rfl, B5⟩
  have P5 := below_then (P4 _ _) B5
  go_wp2_with fail
  go_ret
  exact ⟨rfl, P5⟩
end Go.Proofs.YtnfpommplokemaaDoor
