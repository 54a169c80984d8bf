
import Derived.Test.YtjiiafmbneehhaaDoorNum1
import Derived.BigQuiet
import Derived.Deep.QuietTactic
import Derived.Deep.RegionHeld3
import Derived.Deep.RegionWith
namespace Go.Proofs.YtjiiafmbneehhaaDoor
open Go.RowKit Go.Shelf

theorem new_any (c : Int) (h : (c == 0) = false) (w : World) : Calls Tryd.prog 7 #[.int .i64 c] w fun e w' => e = .returned (.iface 33 (.int .i64 c)) ∧ w' = w := by
  go_enter Tryd.func7, Tryd.ntmps7
  go_wp2
  go_ret
  exact ⟨rfl, rfl⟩

/-- num.wide. -/
theorem wide_any (n : Int) (hn : I64 n) (w : World) :
    Calls Tryd.prog 53 #[.int .i64 n] w fun e w' => e = .returned (.agg #[.int .i64 (sH n), .int .u64 (sL n)]) ∧ ∃ c1 : Array Value, w' = w.alloc (.cells c1 88) := by
  have H1 : Hid (n / 9223372036854775808 = sH n) := sH_I64 n hn
  go_enter Tryd.func53, Tryd.ntmps53
  go_wp2
  simp [bodyPost, results, Tryd.results53, go_sem]
  exact ⟨⟨H1.out, u64_wrap n⟩, _, rfl⟩

/-- num.Plus. -/
theorem plus_any (hi lo n : Int) (h2 : U64 lo) (hn : I64 n) (w : World) :
    Calls Tryd.prog 52 #[.agg #[.int .i64 hi, .int .u64 lo], .int .i64 n] w fun e w' => e = .returned (.agg #[.int .i64 (sH (wr (sv hi lo + n))), .int .u64 (sL (wr (sv hi lo + n)))]) ∧ ∃ c1 c2 c3 c4 : Array Value, w' = (((w.alloc (.cells c1 88)).alloc (.cells c2 88)).alloc (.cells c3 88)).alloc (.cells c4 88) := by
  have H1 : Hid _ := plus_lo hi lo n
  have H2 : Hid _ := plus_hi hi lo n
  go_enter Tryd.func52, Tryd.ntmps52
  go_wp2_with (first | (go_at_call 53; refine (wide_any n hn _).mono ?_; rintro e w' ⟨rfl, o1, rfl⟩) | simp only [add64_0 lo (sL n) h2.1 (U64_sL n).1])
  simp [bodyPost, results, Tryd.results52, go_sem]
  exact ⟨⟨H2.out, H1.out⟩, _, _, _, _, rfl⟩

theorem below_new {w w' : World} (h : Below w.heap.size w w') (o : Obj) : Below w.heap.size w (w'.alloc o) := h.alloc h.size o
/-- num.Small, of a sum that is an int64. -/
theorem small_yes (hi lo : Int) (h2 : U64 lo) (hv : I64 (sv hi lo)) (w : World) :
    Calls Tryd.prog 50 #[.agg #[.int .i64 hi, .int .u64 lo]] w fun e w' => e = .returned (.tuple #[.int .i64 (sv hi lo), .nilIface]) ∧ Below w.heap.size w w' := by
  have H : wrap64 lo = sv hi lo := by unfold I64 sv at hv; unfold U64 at h2; unfold wrap64 sv; omega
  have e1 := sH_sv hi lo h2
  have e2 := sL_sv hi lo h2
  go_enter Tryd.func50, Tryd.ntmps50
  go_wp2
  go_region_held3 (fun w' => w'.cell? ⟨w.heap.size, 0, none⟩ = some (.int .i64 hi) ∧ w'.cell? ⟨w.heap.size, 1, none⟩ = some (.int .u64 lo)) (simp [go_sem, World.cell?_alloc_past])
    (first | (go_at_call 53; refine (wide_any _ hv _).mono ?_; rintro e w' ⟨rfl, o1, rfl⟩))
  go_wp2
  go_ret2
  exact ⟨rfl, Below.drew (below_new (below_new (Below.refl _ _) _) _)⟩

theorem small_ne (hi lo : Int) (h2 : U64 lo) (hv : ¬ I64 (sv hi lo)) : (sH (wrap64 lo) == hi) = false := by
  rw [beq_eq_false_iff_ne]; unfold I64 sv at hv; unfold U64 at h2; unfold wrap64 sH; omega
theorem small_lo (lo : Int) (h2 : U64 lo) : sL (wrap64 lo) = lo := by
  unfold U64 at h2; unfold wrap64 sL; omega
theorem I64_wrap64 (x : Int) : I64 (wrap64 x) := by unfold I64 wrap64; omega
/-- num.Small, of another. -/
theorem small_no (hi lo : Int) (h2 : U64 lo) (hv : ¬ I64 (sv hi lo)) (w : World) :
    Calls Tryd.prog 50 #[.agg #[.int .i64 hi, .int .u64 lo]] w fun e w' => e = .returned (.tuple #[.int .i64 0, .iface 33 (.int .i64 20)]) ∧ Below w.heap.size w w' := by
  have e1 := small_ne hi lo h2 hv
  have e2 := small_lo lo h2
  go_enter Tryd.func50, Tryd.ntmps50
  go_wp2
  go_region_held3 (fun w' => w'.cell? ⟨w.heap.size, 0, none⟩ = some (.int .i64 hi) ∧ w'.cell? ⟨w.heap.size, 1, none⟩ = some (.int .u64 lo)) (simp [go_sem, World.cell?_alloc_past])
    (first | (go_at_call 53; refine (wide_any _ (I64_wrap64 lo) _).mono ?_; rintro e w' ⟨rfl, o1, rfl⟩))
  go_wp2_with (go_at_call 7; refine (new_any 20 rfl _).mono ?_; rintro e w' ⟨rfl, rfl⟩)
  go_ret2
  exact ⟨rfl, Below.drew (below_new (below_new (Below.refl _ _) _) _)⟩

/-- as a whole: the sign of the difference. -/
def cmpI (a b : Int) : Int := if a < b then -1 else if b < a then 1 else 0
end Go.Proofs.YtjiiafmbneehhaaDoor
