
import Derived.Test.YtoldpjndcohgaaaDoorFnJ
namespace Go.Proofs.YtoldpjndcohgaaaDoor
open Go.RowKit
set_option linter.unusedVariables false
set_option linter.unusedSimpArgs false
/-- both tell the same of a name. -/
theorem both_find (T : ByteArray) (hsz : T.size ≤ 281474976710656) : ∃ (n : Int) (E : Value) (c : Int),
    (∀ w, EV w → Calls Tryd.prog 6 #[.string T] w fun e w' => e = .returned (.tuple #[.int .i64 n, E]) ∧ Below w.heap.size w w') ∧
    (∀ w, EV w → Calls Tryd.prog 9 #[.string T] w fun e w' => e = .returned (.tuple #[.int .i64 n, .agg #[.int .i64 c, .int .i64 0, .int .i64 0, .bool false, .bool false]]) ∧ Below w.heap.size w w') ∧
    (∀ w, ET w → Calls Tryd.prog 10 #[E, .agg #[.int .i64 c, .int .i64 0, .int .i64 0, .bool false, .bool false]] w fun e w' => e = .returned (.bool true) ∧ Below w.heap.size w w') := by
  by_cases hD : ∃ n, I64' n ∧ nameS n = T
  · obtain ⟨n, hn, hT⟩ := hD
    refine ⟨n, .nilIface, 0, fun w hE => ?_, fun w hE => ?_, fun w _ => same_nil w⟩
    · refine (find_any T hsz w hE).mono ?_
      rintro e w' ⟨hf, hb⟩
      refine ⟨?_, hb⟩
      rcases hf with ⟨m, hm, hT2, rfl⟩ | ⟨hno, _⟩
      · rw [nameS_inj hm hn (by rw [hT2, hT])]
      · exact absurd hT (hno n hn)
    · refine (rfind_any T hsz w hE).mono ?_
      rintro e w' ⟨hf, hb⟩
      refine ⟨?_, hb⟩
      rcases hf with ⟨m, hm, hT2, rfl⟩ | ⟨hno, _⟩
      · rw [nameS_inj hm hn (by rw [hT2, hT])]
      · exact absurd hT (hno n hn)
  · have hno : ∀ n, I64' n → nameS n ≠ T := fun n hn hT => hD ⟨n, hn, hT⟩
    refine ⟨0, .iface 22 (.int .i64 4), 4, fun w hE => ?_, fun w hE => ?_, fun w hg => sameC_miss_miss [] 4 rfl rfl rfl w hg⟩
    · refine (find_any T hsz w hE).mono ?_
      rintro e w' ⟨hf, hb⟩
      refine ⟨?_, hb⟩
      rcases hf with ⟨m, hm, hT2, rfl⟩ | ⟨_, rfl⟩
      · exact absurd hT2 (hno m hm)
      · rfl
    · refine (rfind_any T hsz w hE).mono ?_
      rintro e w' ⟨hf, hb⟩
      refine ⟨?_, hb⟩
      rcases hf with ⟨m, hm, hT2, rfl⟩ | ⟨_, rfl⟩
      · exact absurd hT2 (hno m hm)
      · rfl
set_option maxRecDepth 100000 in
theorem faultFinds_walk (T : ByteArray) (hsz : T.size ≤ 281474976710656) (w : World) (hE : EV w) (hg : ET w) :
    Calls Tryd.prog 4 #[.string T] w fun ev w' => ev = .returned (.bool true) ∧ Below w.heap.size w w' := by
  obtain ⟨n, E, c, hpa, hrp, hsm⟩ := both_find T hsz
  have hpaH : Hid _ := hpa
  have hrpH : Hid _ := hrp
  have hsmH : Hid _ := hsm
  have hEH : Hid (EV w) := hE
  have hgH : Hid (ET w) := hg
  clear hpa hrp hsm hE hg
  go_enter Tryd.func4, Tryd.ntmps4
  go_wp2_with fail
  refine (hpaH.out _ hEH.out).mono ?_
  rintro e1 w1 ⟨rfl, B1⟩
  go_wp2_with fail
  refine (hrpH.out _ (hEH.out.below B1)).mono ?_
  rintro e2 w2 ⟨rfl, B2⟩
  have P2 := bthen B1 B2
  have P2a : Below w.heap.size w (w2.alloc (.cells #[.int .i64 c, .int .i64 0, .int .i64 0, .bool false, .bool false] 31)) := bnew P2 _
  go_wp2_with fail
  refine (live1_any _ (ET_below hgH.out P2a)).mono ?_
  rintro e3 w3 ⟨rfl, B3⟩
  have P3 := bthen P2a B3
  have z3 := B3.size
  have q : ∀ j, w3.cell? ⟨w2.heap.size, j, none⟩ = (w2.alloc (.cells #[.int .i64 c, .int .i64 0, .int .i64 0, .bool false, .bool false] 31)).cell? ⟨w2.heap.size, j, none⟩ := fun j => B3.cell (by simp)
  have q0 : w3.cell? ⟨w2.heap.size, 0, none⟩ = some (.int .i64 c) := by rw [q]; simp [go_sem]
  have q1 : w3.cell? ⟨w2.heap.size, 1, none⟩ = some (.int .i64 0) := by rw [q]; simp [go_sem]
  have q2 : w3.cell? ⟨w2.heap.size, 2, none⟩ = some (.int .i64 0) := by rw [q]; simp [go_sem]
  have q3 : w3.cell? ⟨w2.heap.size, 3, none⟩ = some (.bool false) := by rw [q]; simp [go_sem]
  have q4 : w3.cell? ⟨w2.heap.size, 4, none⟩ = some (.bool false) := by rw [q]; simp [go_sem]
  clear q B1 B2 B3
  go_wp2_with fail
  refine (hsmH.out _ (ET_below hgH.out P3)).mono ?_
  rintro e4 w4 ⟨rfl, B4⟩
  have P4 := bthen P3 B4
  go_wp2_with fail
  go_ret
  exact ⟨rfl, P4⟩
end Go.Proofs.YtoldpjndcohgaaaDoor
