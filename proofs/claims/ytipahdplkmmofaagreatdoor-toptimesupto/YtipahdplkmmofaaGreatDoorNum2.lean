
import Derived.Test.YtipahdplkmmofaaGreatDoorNum1
import Derived.BigQuiet
import Derived.Deep.QuietTactic
import Derived.Deep.RegionHeld3
import Derived.Deep.RegionWith
namespace Go.Proofs.YtipahdplkmmofaaGreatDoor
open Go.RowKit Go.Shelf

theorem new_any (c : Int) (h : (c == 0) = false) (w : World) : Calls Tryz.prog 27 #[.int .i64 c] w fun e w' => e = .returned (.iface 27 (.int .i64 c)) ∧ w' = w := by
  go_enter Tryz.func27, Tryz.ntmps27
  go_wp2
  go_ret
  exact ⟨rfl, rfl⟩

/-- num.wide. -/
theorem wide_any (n : Int) (hn : I64 n) (w : World) :
    Calls Tryz.prog 89 #[.int .i64 n] w fun e w' => e = .returned (.agg #[.int .i64 (sH n), .int .u64 (sL n)]) ∧ ∃ c1 : Array Value, w' = w.alloc (.cells c1 62) := by
  have H1 : Hid (n / 9223372036854775808 = sH n) := sH_I64 n hn
  go_enter Tryz.func89, Tryz.ntmps89
  go_wp2
  simp [bodyPost, results, Tryz.results89, go_sem]
  exact ⟨⟨H1.out, u64_wrap n⟩, _, rfl⟩

/-- num.less. -/
theorem less_any (ah al bh bl : Int) (h2 : U64 al) (h4 : U64 bl) (w : World) :
    Calls Tryz.prog 115 #[.agg #[.int .i64 ah, .int .u64 al], .agg #[.int .i64 bh, .int .u64 bl]] w fun e w' => e = .returned (.agg #[.int .i64 (sH (wr (sv ah al - sv bh bl))), .int .u64 (sL (wr (sv ah al - sv bh bl)))]) ∧ ∃ c1 c2 c3 : Array Value, w' = ((w.alloc (.cells c1 62)).alloc (.cells c2 62)).alloc (.cells c3 62) := by
  have H1 : Hid _ := less_lo ah al bh bl h2 h4
  have H2 : Hid _ := less_hi ah al bh bl h2 h4
  go_enter Tryz.func115, Tryz.ntmps115
  go_wp2_with (simp only [sub64_0 al bl h2.1 h4.1 h4.2])
  simp [bodyPost, results, Tryz.results115, go_sem]
  exact ⟨⟨H2.out, H1.out⟩, _, _, _, rfl⟩

/-- num.Plus. -/
theorem plus_any (hi lo n : Int) (h2 : U64 lo) (hn : I64 n) (w : World) :
    Calls Tryz.prog 112 #[.agg #[.int .i64 hi, .int .u64 lo], .int .i64 n] w fun e w' => e = .returned (.agg #[.int .i64 (sH (wr (sv hi lo + n))), .int .u64 (sL (wr (sv hi lo + n)))]) ∧ ∃ c1 c2 c3 c4 : Array Value, w' = (((w.alloc (.cells c1 62)).alloc (.cells c2 62)).alloc (.cells c3 62)).alloc (.cells c4 62) := by
  have H1 : Hid _ := plus_lo hi lo n
  have H2 : Hid _ := plus_hi hi lo n
  go_enter Tryz.func112, Tryz.ntmps112
  go_wp2_with (first | (go_at_call 89; refine (wide_any n hn _).mono ?_; rintro e w' ⟨rfl, o1, rfl⟩) | simp only [add64_0 lo (sL n) h2.1 (U64_sL n).1])
  simp [bodyPost, results, Tryz.results112, go_sem]
  exact ⟨⟨H2.out, H1.out⟩, _, _, _, _, rfl⟩

theorem below_new {w w' : World} (h : Below w.heap.size w w') (o : Obj) : Below w.heap.size w (w'.alloc o) := h.alloc h.size o
/-- num.Minus. -/
theorem minus_any (hi lo n : Int) (h2 : U64 lo) (hn : I64 n) (w : World) :
    Calls Tryz.prog 116 #[.agg #[.int .i64 hi, .int .u64 lo], .int .i64 n] w fun e w' => e = .returned (.agg #[.int .i64 (sH (wr (sv hi lo - n))), .int .u64 (sL (wr (sv hi lo - n)))]) ∧ Below w.heap.size w w' := by
  have H := sv_H_L n
  go_enter Tryz.func116, Tryz.ntmps116
  go_wp2
  go_region_with (first | (go_at_call 89; refine (wide_any n hn _).mono ?_; rintro e w' ⟨rfl, o1, rfl⟩) | (go_at_call 115; refine (less_any hi lo _ _ h2 (U64_sL n) _).mono ?_; rintro e w' ⟨rfl, o2, o3, o4, rfl⟩))
  all_goals
    go_wp2
    simp [bodyPost, results, Tryz.results116, go_sem]
    exact Below.drew (below_new (below_new (below_new (below_new (below_new (below_new (Below.refl _ _) _) _) _) _) _) _)

/-- num.Small, of a sum that is an int64. -/
theorem small_yes (hi lo : Int) (h2 : U64 lo) (hv : I64 (sv hi lo)) (w : World) :
    Calls Tryz.prog 110 #[.agg #[.int .i64 hi, .int .u64 lo]] w fun e w' => e = .returned (.tuple #[.int .i64 (sv hi lo), .nilIface]) ∧ Below w.heap.size w w' := by
  have H : wrap64 lo = sv hi lo := by unfold I64 sv at hv; unfold U64 at h2; unfold wrap64 sv; omega
  have e1 := sH_sv hi lo h2
  have e2 := sL_sv hi lo h2
  go_enter Tryz.func110, Tryz.ntmps110
  go_wp2
  go_region_held3 (fun w' => w'.cell? ⟨w.heap.size, 0, none⟩ = some (.int .i64 hi) ∧ w'.cell? ⟨w.heap.size, 1, none⟩ = some (.int .u64 lo)) (simp [go_sem, World.cell?_alloc_past])
    (first | (go_at_call 89; refine (wide_any _ hv _).mono ?_; rintro e w' ⟨rfl, o1, rfl⟩))
  go_wp2
  go_ret2
  exact ⟨rfl, Below.drew (below_new (below_new (Below.refl _ _) _) _)⟩

theorem small_ne (hi lo : Int) (h2 : U64 lo) (hv : ¬ I64 (sv hi lo)) : (sH (wrap64 lo) == hi) = false := by
  rw [beq_eq_false_iff_ne]; unfold I64 sv at hv; unfold U64 at h2; unfold wrap64 sH; omega
theorem small_lo (lo : Int) (h2 : U64 lo) : sL (wrap64 lo) = lo := by
  unfold U64 at h2; unfold wrap64 sL; omega
theorem I64_wrap64 (x : Int) : I64 (wrap64 x) := by unfold I64 wrap64; omega
/-- num.Small, of another. -/
theorem small_no (hi lo : Int) (h2 : U64 lo) (hv : ¬ I64 (sv hi lo)) (w : World) :
    Calls Tryz.prog 110 #[.agg #[.int .i64 hi, .int .u64 lo]] w fun e w' => e = .returned (.tuple #[.int .i64 0, .iface 27 (.int .i64 20)]) ∧ Below w.heap.size w w' := by
  have e1 := small_ne hi lo h2 hv
  have e2 := small_lo lo h2
  go_enter Tryz.func110, Tryz.ntmps110
  go_wp2
  go_region_held3 (fun w' => w'.cell? ⟨w.heap.size, 0, none⟩ = some (.int .i64 hi) ∧ w'.cell? ⟨w.heap.size, 1, none⟩ = some (.int .u64 lo)) (simp [go_sem, World.cell?_alloc_past])
    (first | (go_at_call 89; refine (wide_any _ (I64_wrap64 lo) _).mono ?_; rintro e w' ⟨rfl, o1, rfl⟩))
  go_wp2_with (go_at_call 27; refine (new_any 20 rfl _).mono ?_; rintro e w' ⟨rfl, rfl⟩)
  go_ret2
  exact ⟨rfl, Below.drew (below_new (below_new (Below.refl _ _) _) _)⟩

/-- num.size. -/
theorem size_pos (hi lo : Int) (h : ¬ hi < 0) (w : World) :
    Calls Tryz.prog 113 #[.agg #[.int .i64 hi, .int .u64 lo]] w fun e w' => e = .returned (.agg #[.int .i64 hi, .int .u64 lo]) ∧ Below w.heap.size w w' := by
  go_enter Tryz.func113, Tryz.ntmps113
  go_wp2
  simp [bodyPost, results, Tryz.results113, go_sem]
  exact below_new (below_new (Below.refl _ _) _) _
theorem size_neg (hi lo : Int) (h : hi < 0) (h2 : U64 lo) (w : World) :
    Calls Tryz.prog 113 #[.agg #[.int .i64 hi, .int .u64 lo]] w fun e w' => e = .returned (.agg #[.int .i64 (sH (wr (- sv hi lo))), .int .u64 (sL (wr (- sv hi lo)))]) ∧ Below w.heap.size w w' := by
  have H : sv 0 0 - sv hi lo = - sv hi lo := by unfold sv; omega
  go_enter Tryz.func113, Tryz.ntmps113
  go_wp2_with (go_at_call 115; refine (less_any 0 0 hi lo ⟨by omega, by omega⟩ h2 _).mono ?_; rintro e w' ⟨rfl, o2, o3, o4, rfl⟩)
  simp [bodyPost, results, Tryz.results113, go_sem]
  exact below_new (below_new (below_new (below_new (below_new (Below.refl _ _) _) _) _) _) _

/-- as a whole: the sign of the difference. -/
def cmpI (a b : Int) : Int := if a < b then -1 else if b < a then 1 else 0
end Go.Proofs.YtipahdplkmmofaaGreatDoor
