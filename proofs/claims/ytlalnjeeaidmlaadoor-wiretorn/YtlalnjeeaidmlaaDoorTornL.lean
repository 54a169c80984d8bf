
import Derived.Test.YtlalnjeeaidmlaaDoorTornW
namespace Go.Proofs.YtlalnjeeaidmlaaDoor
open Go.RowKit
set_option linter.unusedVariables false
set_option linter.unusedSimpArgs false
set_option maxRecDepth 100000 in
set_option maxHeartbeats 2000000 in
theorem wireTorn_long (number : Int) (a : Option Addr) (len cap : Nat) (At By : Int) (s1 : Option Addr) (s2 s3 : Nat) (w : World) (hlen : 67108864 < len) (hm : len ≤ 140737488355327) :
    Calls Tryd.prog 3 #[.slice a len cap, .int .u64 number, .agg #[.int .i64 At, .int .u8 By, .slice s1 s2 s3]] w fun e w' => e = .returned (.bool true) ∧ Below w.heap.size w w' := by
  have hI : (67108864 : Int) < (len : Int) := by omega
  have hB0 : Below w.heap.size w (w.alloc (.cells #[.int .i64 At, .int .u8 By, .slice s1 s2 s3] 25)) := (Below.refl _ _).alloc (Nat.le_refl _) _
  go_enter Tryd.func3, Tryd.ntmps3
  go_wp2_with fail
  refine (seal_long 2 number a len cap _ hlen).mono ?_
  rintro e w1 ⟨rfl, rfl⟩
  go_wp2_with fail
  go_ret
  exact ⟨rfl, hB0⟩
theorem wireTorn_walk (number : Int) (hn : 0 ≤ number ∧ number < 18446744073709551616) (a : Option Addr) (len cap : Nat) (bs : Nat → Nat) (At : Int) (hAt : -9223372036854775808 ≤ At ∧ At ≤ 9223372036854775807) (By : Int) (hBy : 0 ≤ By ∧ By < 256) (a2 : Option Addr) (l2 c2 : Nat) (bs2 : Nat → Nat) (w : World) (hs : ST w)
    (h : BytesIn w a len bs) (h2 : BytesIn w a2 l2 bs2) :
    Calls Tryd.prog 3 #[.slice a len cap, .int .u64 number, .agg #[.int .i64 At, .int .u8 By, .slice a2 l2 c2]] w fun e w' => e = .returned (.bool true) ∧ Below w.heap.size w w' := by
  by_cases hl : len ≤ 67108864
  · obtain ⟨n, rfl⟩ := Int.eq_ofNat_of_zero_le hn.1
    obtain ⟨b, rfl⟩ := Int.eq_ofNat_of_zero_le hBy.1
    have hn' : n < 18446744073709551616 := by omega
    have hb' : b < 256 := by omega
    exact wireTorn_short n hn' a len cap bs At hAt b hb' a2 l2 c2 bs2 w hs h h2 hl
  · exact wireTorn_long number a len cap At By a2 l2 c2 w (by omega) h.1
end Go.Proofs.YtlalnjeeaidmlaaDoor
