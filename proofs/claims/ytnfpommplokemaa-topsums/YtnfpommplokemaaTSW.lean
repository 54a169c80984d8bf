
import Derived.Test.YtnfpommplokemaaTSB
import Derived.Deep.CutRange
import Derived.BigQuiet
import Derived.Deep.RegionHeld3
namespace Go.Proofs.Ytnfpommplokemaa
open Go.RowKit Go.Shelf
set_option linter.unusedVariables false
set_option linter.unusedSimpArgs false
theorem plus_x (v n : Int) (hv : S128 (v + n)) (hn : I64 n) (w : World) :
    Calls Try.prog 5 #[.agg #[.int .i64 (sH v), .int .u64 (sL v)], .int .i64 n] w fun e w' => e = .returned (.agg #[.int .i64 (sH (v + n)), .int .u64 (sL (v + n))]) ∧ Below w.heap.size w w' := by
  refine (plus_any (sH v) (sL v) n (U64_sL _) hn w).mono ?_
  rintro e w1 ⟨rfl, o1, o2, o3, o4, rfl⟩
  rw [sv_H_L, wr_of _ hv]
  exact ⟨rfl, below_new (below_new (below_new (below_new (Below.refl _ _) _) _) _) _⟩
theorem plus_0 (hi lo : Int) (h1 : I64 hi) (h2 : U64 lo) (w : World) :
    Calls Try.prog 5 #[.agg #[.int .i64 hi, .int .u64 lo], .int .i64 0] w fun e w' => e = .returned (.agg #[.int .i64 hi, .int .u64 lo]) ∧ Below w.heap.size w w' := by
  refine (plus_any hi lo 0 h2 (by unfold I64; omega) w).mono ?_
  rintro e w1 ⟨rfl, o1, o2, o3, o4, rfl⟩
  rw [Int.add_zero, wr_of _ (S128_sv hi lo h1 h2), sH_sv hi lo h2, sL_sv hi lo h2]
  exact ⟨rfl, below_new (below_new (below_new (below_new (Below.refl _ _) _) _) _) _⟩
theorem cmp_0 (hi lo : Int) (h2 : U64 lo) (w : World) :
    Calls Try.prog 7 #[.agg #[.int .i64 hi, .int .u64 lo], .agg #[.int .i64 hi, .int .u64 lo]] w fun e w' => e = .returned (.int .i64 0) ∧ Below w.heap.size w w' := by
  have h := cmp_any hi lo hi lo h2 h2 w
  rw [show cmpI (sv hi lo) (sv hi lo) = 0 by unfold cmpI; rw [if_neg (by omega), if_neg (by omega)]] at h
  exact h
theorem dec_7 : decS (sv 0 7) = ⟨#[55]⟩ := by decide +kernel
theorem print_7 (w : World) : Calls Try.prog 8 #[.agg #[.int .i64 0, .int .u64 7]] w fun e w' => e = .returned (.string ⟨#[55]⟩) ∧ Below w.heap.size w w' := by
  have h := print_any 0 7 (by unfold I64; omega) (by unfold U64; omega) w
  rw [dec_7] at h; exact h
theorem keepS {w0 w w' : World} {N A : Nat} {u v u' v' : Value} (hN : N < w0.heap.size) (hA : A < w0.heap.size) (hb : Below w.heap.size w w') (h : Below w0.heap.size w0 w ∧ w.cell? ⟨A, 0, none⟩ = some u ∧ w.cell? ⟨A, 1, none⟩ = some v ∧ w.cell? ⟨N, 0, none⟩ = some u' ∧ w.cell? ⟨N, 1, none⟩ = some v') :
    Below w0.heap.size w0 w' ∧ w'.cell? ⟨A, 0, none⟩ = some u ∧ w'.cell? ⟨A, 1, none⟩ = some v ∧ w'.cell? ⟨N, 0, none⟩ = some u' ∧ w'.cell? ⟨N, 1, none⟩ = some v' := by
  obtain ⟨b, c0, c1, d0, d1⟩ := h
  have hs := b.size
  refine ⟨below_then b hb, ?_, ?_, ?_, ?_⟩
  · rw [hb.cell (by simp; omega)]; exact c0
  · rw [hb.cell (by simp; omega)]; exact c1
  · rw [hb.cell (by simp; omega)]; exact d0
  · rw [hb.cell (by simp; omega)]; exact d1
theorem three_new (w : World) (o1 o2 o3 : Obj) : Below w.heap.size w (((w.alloc o1).alloc o2).alloc o3) := below_new (below_new (below_new (Below.refl _ _) _) _) _
set_option maxRecDepth 100000 in
set_option maxHeartbeats 8000000 in
theorem topSums_walk (hi lo : Int) (h1 : I64 hi) (h2 : U64 lo) (a : Option Addr) (len cap : Nat) (z : Nat → Int) (ap : Option Addr) (lp cp : Nat) (y : Nat → Int) (w : World)
    (hz : ∀ i, I64 (z i)) (hl : len = 0 ∨ ∃ b off, a = some ⟨b, off, none⟩ ∧ b < w.heap.size ∧ ∀ i, i < len → w.cell? ⟨b, off + i, none⟩ = some (.int .i64 (z i))) (hsz : len * 8 ≤ 140737488355328)
    (hp : lp = 0 ∨ ∃ b off, ap = some ⟨b, off, none⟩ ∧ b < w.heap.size ∧ ∀ i, i < lp → w.cell? ⟨b, off + i, none⟩ = some (.int .i64 (y i))) (hlp : lp ≤ 9223372036854775807) :
    Calls Try.prog 3 #[.agg #[.int .i64 hi, .int .u64 lo], .slice a len cap, .slice ap lp cp] w fun e w' => e = .returned (.bool true) ∧ Below w.heap.size w w' := by
  obtain ⟨g, c, W0, hr, hT0⟩ := copy_ints hi lo w a len cap z hl hsz
  have hrH : Hid _ := hr
  have hpH : Hid _ := hp
  have hlH : Hid _ := hl
  clear hr hp hl
  go_enter Try.func3, Try.ntmps3
  go_wp2_with (at_builtin; refine ts_append_run (by rfl) _ _ _ (by rfl) _ _ _ _ (by rfl) (by rfl) hrH.out ?_)
  clear hrH
  go_loopw [8] (fun i wx => ∃ (m : Nat) (y' : Nat → Int), i = .int .i64 (m : Int) ∧ m ≤ lp ∧ (∀ j, I64 (y' j)) ∧ sumTo y' len = sumTo z len ∧ TM w g len hi lo y' wx) (fun i _ => lp - (intOf i).toNat)
  case atStart => exact ⟨0, z, rfl, Nat.zero_le _, hz, rfl, hT0⟩
  case round =>
    clear hT0
    obtain ⟨m, y', rfl, hm, hyI, hyS, hT⟩ := hrel
    go_upto_region 3 with fail
    go_cut [31] from 23 to 52 (fun s wx => s = .bool (decide (m < lp ∧ 0 < len)) ∧ wr = wx)
    case first =>
      by_cases c1 : m < lp
      · have c1I : (m : Int) < (lp : Int) := by omega
        by_cases c2 : 0 < len
        · have c2I : (0 : Int) < (len : Int) := by omega
          go_wp2_with fail
          go_meet
          exact ⟨by simp [c1, c2], rfl⟩
        · have c2I : ¬ (0 : Int) < (len : Int) := by omega
          go_wp2_with fail
          go_meet
          exact ⟨by simp [c2], rfl⟩
      · have c1I : ¬ (m : Int) < (lp : Int) := by omega
        go_wp2_with fail
        go_meet
        exact ⟨by simp [c1], rfl⟩
    case rest =>
      obtain ⟨rfl, rfl⟩ := hcut
      by_cases hgo : m < lp ∧ 0 < len
      · rw [show decide (m < lp ∧ 0 < len) = true from decide_eq_true hgo]
        obtain ⟨hml, hl0⟩ := hgo
        rcases hpH.out with h0 | ⟨pb, po, rfl, hpb, hpc⟩
        · omega
        have t0 : wr.cell? ⟨pb, po + m, none⟩ = some (.int .i64 (y m)) := by rw [hT.b.cell (p := ⟨pb, po + m, none⟩) hpb]; exact hpc m hml
        have m0 : (0 : Int) ≤ (m : Int) := by omega
        have mI : (m : Int) < (lp : Int) := by omega
        have lI : (0 : Int) < (len : Int) := by omega
        clear hpH hpc
        have hTH : Hid _ := hT
        have hySH : Hid _ := hyS
        clear hT hyS
        go_wp2_with fail
        refine (which_any (y m) len hl0 (by omega) _).mono ?_
        rintro e w1 ⟨⟨r, hr, rfl⟩, rfl⟩
        have a0 := hTH.out.m 0 hl0
        have a1 := hTH.out.m r hr
        have f0 := hTH.out.fm 0 hl0
        have f1 := hTH.out.fm r hr
        have rI : (r : Int) < (len : Int) := by omega
        have r0 : (0 : Int) ≤ (r : Int) := by omega
        have gz := hTH.out.sz
        have T1 := hTH.out.up 0 hl0 (y' r)
        have T1d := hTH.out.drew.up 0 hl0 (y' r)
        have b0 := T1.m r hr
        have b1 := T1.fm r hr
        have b2 := T1d.m r hr
        have b3 := T1d.fm r hr
        have T1H : Hid _ := T1
        clear T1 T1d
        go_wp2_with fail
        go_region
        go_wp2_with fail
        go_roundw
        case rel =>
          refine ⟨m + 1, swp y' r, by go_num, by omega, swp_I64 _ _ hyI, by rw [sumTo_swp _ _ _ hr]; exact hySH.out, ?_⟩
          exact (T1H.out.up r hr (y' 0)).drew
        case measure => simp [intOf]; omega
      · rw [show decide (m < lp ∧ 0 < len) = false from decide_eq_false hgo]
        clear hgo hpH hm
        have s0 := hT.s0
        have s1 := hT.s1
        have gz := hT.sz
        have gz1 := hT.g1
        go_upto_region 7 with fail
        go_cut [10, 11, 12] from 53 (fun a b c wx => ∃ A B C, a = .pointer (some ⟨A, 0, none⟩) ∧ b = .pointer (some ⟨B, 0, none⟩) ∧ c = .pointer (some ⟨C, 0, none⟩) ∧ TA w g len hi lo y' A B C (sv hi lo) (sv hi lo) 0 wx)
        case first =>
          have zl : w.heap.size < wr.heap.size := by omega
          have q1 : ∀ o j, (wr.alloc o).cell? ⟨w.heap.size, j, none⟩ = wr.cell? ⟨w.heap.size, j, none⟩ := fun o j => World.cell?_alloc_lt _ _ ⟨w.heap.size, j, none⟩ (by simp; omega)
          have q2 : ∀ o1 o2 j, ((wr.alloc o1).alloc o2).cell? ⟨w.heap.size, j, none⟩ = wr.cell? ⟨w.heap.size, j, none⟩ := fun o1 o2 j => by rw [World.cell?_alloc_lt _ _ ⟨w.heap.size, j, none⟩ (by simp; omega)]; exact q1 o1 j
          have q3 : ∀ o1 o2 o3 j, (((wr.alloc o1).alloc o2).alloc o3).cell? ⟨w.heap.size, j, none⟩ = wr.cell? ⟨w.heap.size, j, none⟩ := fun o1 o2 o3 j => by rw [World.cell?_alloc_lt _ _ ⟨w.heap.size, j, none⟩ (by simp; omega)]; exact q2 o1 o2 j
          have q10 : ∀ o, (wr.alloc o).cell? ⟨w.heap.size, 0, none⟩ = some (.int .i64 hi) := fun o => (q1 o 0).trans s0
          have q11 : ∀ o, (wr.alloc o).cell? ⟨w.heap.size, 1, none⟩ = some (.int .u64 lo) := fun o => (q1 o 1).trans s1
          have q20 : ∀ o1 o2, ((wr.alloc o1).alloc o2).cell? ⟨w.heap.size, 0, none⟩ = some (.int .i64 hi) := fun o1 o2 => (q2 o1 o2 0).trans s0
          have q21 : ∀ o1 o2, ((wr.alloc o1).alloc o2).cell? ⟨w.heap.size, 1, none⟩ = some (.int .u64 lo) := fun o1 o2 => (q2 o1 o2 1).trans s1
          have q30 : ∀ o1 o2 o3, (((wr.alloc o1).alloc o2).alloc o3).cell? ⟨w.heap.size, 0, none⟩ = some (.int .i64 hi) := fun o1 o2 o3 => (q3 o1 o2 o3 0).trans s0
          have q31 : ∀ o1 o2 o3, (((wr.alloc o1).alloc o2).alloc o3).cell? ⟨w.heap.size, 1, none⟩ = some (.int .u64 lo) := fun o1 o2 o3 => (q3 o1 o2 o3 1).trans s1
          clear q1 q2 q3
          have hTH : Hid _ := hT
          have eH : Hid (sH (sv hi lo) = hi ∧ sL (sv hi lo) = lo) := ⟨sH_sv hi lo h2, sL_sv hi lo h2⟩
          clear hT
          go_region
          all_goals
            clear q10 q11 q20 q21 q30 q31
            go_wp2_with fail
            go_meet
            refine ⟨_, _, _, rfl, rfl, rfl, (hTH.out.below (three_new wr _ _ _)).drew, ?_, ?_, ?_, ?_, ?_, ?_, fun o => ⟨by simp [go_sem], by simp [go_sem], by simp [go_sem]⟩, by omega, by omega, by simp; omega⟩
            · rw [eH.out.1]; simp [go_sem]
            · rw [eH.out.2]; simp [go_sem]
            · rw [eH.out.1]; simp [go_sem]
            · rw [eH.out.2]; simp [go_sem]
            · rw [show sH 0 = 0 by decide]; simp [go_sem]
            · rw [show sL 0 = 0 by decide]; simp [go_sem]
        case rest =>
          obtain ⟨A, B, C, rfl, rfl, rfl, hA⟩ := hcut
          clear s0 s1 gz gz1 hT
          have hS128 : Hid (S128 (sv hi lo)) := S128_sv hi lo h1 h2
          have hyH : Hid (∀ j, I64 (y' j)) := hyI
          have hzH : Hid (∀ j, I64 (z j)) := hz
          have hySH : Hid (sumTo y' len = sumTo z len) := hyS
          clear hyI hz hyS
          go_wp2_with fail
          go_loopw [13] (fun i wx => ∃ k : Nat, i = .int .i64 (k : Int) ∧ k ≤ len ∧ TA w g len hi lo y' A B C (Go.Proofs.Ytnfpommplokemaa.wr (sv hi lo + sumTo z k)) (Go.Proofs.Ytnfpommplokemaa.wr (sv hi lo + sumTo y' k)) (sumTo z k) wx) (fun i _ => len - (intOf i).toNat)
          case atStart => exact ⟨0, rfl, Nat.zero_le _, by simp only [sumTo, Int.add_zero]; rw [wr_of _ hS128.out]; exact hA⟩
          case round =>
            clear hA
            obtain ⟨k, rfl, hk, hT⟩ := hrel
            by_cases hkl : k < len
            · rcases hlH.out with h0 | ⟨b, off, rfl, hbk, hc⟩
              · omega
              have kI : (k : Int) < (len : Int) := by omega
              have k0 : (0 : Int) ≤ (k : Int) := by omega
              have zkH : Hid (∀ wy, Below w.heap.size w wy → wy.cell? ⟨b, off + k, none⟩ = some (.int .i64 (z k))) := fun wy hB => by rw [hB.cell (p := ⟨b, off + k, none⟩) hbk]; exact hc k hkl
              have ea : Hid (sv hi lo + sumTo z k + z k = sv hi lo + sumTo z (k + 1)) := by show _ = _; simp only [sumTo]; omega
              have eb : Hid (sv hi lo + sumTo y' k + y' k = sv hi lo + sumTo y' (k + 1)) := by show _ = _; simp only [sumTo]; omega
              have ec : Hid (sumTo z k + z k = sumTo z (k + 1)) := rfl
              have hcS : Hid (S128 (sumTo z k + z k)) := sumTo_S128 z hzH.out (k + 1) (by omega)
              clear hlH hc
              go_upto_region 11 with fail
              go_cut [] from 56 to 79 (fun wx => TA w g len hi lo y' A B C (Go.Proofs.Ytnfpommplokemaa.wr (sv hi lo + sumTo z (k + 1))) (Go.Proofs.Ytnfpommplokemaa.wr (sv hi lo + sumTo y' k)) (sumTo z k) wx)
              case first =>
                have a0 := hT.a0
                have a1 := hT.a1
                have zk := zkH.out _ hT.tm.b
                have hTH : Hid _ := hT
                clear hT
                go_region_with (first | (go_at_call 5; (with_reducible refine Calls.mono (plus_w (sv hi lo + sumTo z k) (z k) (hzH.out k) _) ?_); rintro e w2 ⟨rfl, B2⟩; have T2 := hTH.out.drew.below B2; have x0 := T2.a0; have x1 := T2.a1; have x2 := (T2.fr 0).1; have x3 := (T2.fr 1).1; have x4 := T2.lt.1))
                all_goals
                  go_wp2_with fail
                  go_meet
                  have hq := T2.setA (Go.Proofs.Ytnfpommplokemaa.wr (sv hi lo + sumTo z k + z k))
                  rw [ea.out] at hq
                  rw [ea.out]
                  first | exact hq | exact hq.drew
              case rest =>
                clear hT
                have hc1 : Hid _ := hcut
                clear hcut
                go_upto_region 12 with fail
                go_cut [] from 56 to 79 (fun wx => TA w g len hi lo y' A B C (Go.Proofs.Ytnfpommplokemaa.wr (sv hi lo + sumTo z (k + 1))) (Go.Proofs.Ytnfpommplokemaa.wr (sv hi lo + sumTo y' (k + 1))) (sumTo z k) wx)
                case first =>
                  have a0 := hc1.out.b0
                  have a1 := hc1.out.b1
                  have zk := hc1.out.tm.m k hkl
                  go_region_with (first | (go_at_call 5; (with_reducible refine Calls.mono (plus_w (sv hi lo + sumTo y' k) (y' k) (hyH.out k) _) ?_); rintro e w2 ⟨rfl, B2⟩; have T2 := hc1.out.drew.below B2; have x0 := T2.b0; have x1 := T2.b1; have x2 := (T2.fr 0).2.1; have x3 := (T2.fr 1).2.1; have x4 := T2.lt.2.1))
                  all_goals
                    go_wp2_with fail
                    go_meet
                    have hq := T2.setB (Go.Proofs.Ytnfpommplokemaa.wr (sv hi lo + sumTo y' k + y' k))
                    rw [eb.out] at hq
                    rw [eb.out]
                    first | exact hq | exact hq.drew
                case rest =>
                  clear hc1
                  have hc2 : Hid _ := hcut
                  clear hcut
                  have a0 := hc2.out.c0
                  have a1 := hc2.out.c1
                  have zk := zkH.out _ hc2.out.tm.b
                  go_wp2_with fail
                  go_region_with (first | (go_at_call 5; (with_reducible refine Calls.mono (plus_x (sumTo z k) (z k) hcS.out (hzH.out k) _) ?_); rintro e w2 ⟨rfl, B2⟩; have T2 := hc2.out.drew.below B2; have x0 := T2.c0; have x1 := T2.c1; have x2 := (T2.fr 0).2.2; have x3 := (T2.fr 1).2.2; have x4 := T2.lt.2.2))
                  all_goals
                    go_wp2_with fail
                    go_roundw
                    case rel =>
                      have hq := T2.setC (sumTo z k + z k)
                      rw [ec.out] at hq
                      rw [ec.out]
                      refine ⟨k + 1, by go_num, by omega, ?_⟩
                      first | exact hq | exact hq.drew
                    case measure => simp [intOf]; omega
            · obtain rfl : k = len := by omega
              clear hkl hk
              have eX : Hid (Go.Proofs.Ytnfpommplokemaa.wr (sv hi lo + sumTo y' k) = Go.Proofs.Ytnfpommplokemaa.wr (sv hi lo + sumTo z k)) := by show _ = _; rw [hySH.out]
              rw [eX.out] at hT
              have a0 := hT.a0
              have a1 := hT.a1
              have b0 := hT.b0
              have b1 := hT.b1
              have hTH : Hid _ := hT
              clear hT eX
              go_wp2_with fail
              clear a0 a1 b0 b1
              have hm0 : Hid (Go.Proofs.Ytnfpommplokemaa.wr (sv hi lo + sumTo z k) = Go.Proofs.Ytnfpommplokemaa.wr (sv hi lo + sumTo z k - sumTo y' 0)) := by show _ = _; simp only [sumTo, Int.sub_zero]
              go_loopw [14] (fun i wx => ∃ j : Nat, i = .int .i64 (j : Int) ∧ j ≤ k ∧ TA w g k hi lo y' A B C (Go.Proofs.Ytnfpommplokemaa.wr (sv hi lo + sumTo z k - sumTo y' j)) (Go.Proofs.Ytnfpommplokemaa.wr (sv hi lo + sumTo z k)) (sumTo z k) wx) (fun i _ => k - (intOf i).toNat)
              case atStart => exact ⟨0, rfl, Nat.zero_le _, by rw [← hm0.out]; exact hTH.out⟩
              case round =>
                clear hTH hm0
                obtain ⟨j, rfl, hj, hT⟩ := hrel
                by_cases hjk : j < k
                · have kI : (j : Int) < (k : Int) := by omega
                  have k0 : (0 : Int) ≤ (j : Int) := by omega
                  have ea : Hid (sv hi lo + sumTo z k - sumTo y' j - y' j = sv hi lo + sumTo z k - sumTo y' (j + 1)) := by show _ = _; simp only [sumTo]; omega
                  have a0 := hT.a0
                  have a1 := hT.a1
                  have zk := hT.tm.m j hjk
                  have hTH : Hid _ := hT
                  clear hT
                  go_wp2_with fail
                  go_region_with (first | (go_at_call 6; (with_reducible refine Calls.mono (minus_w (sv hi lo + sumTo z k - sumTo y' j) (y' j) (hyH.out j) _) ?_); rintro e w2 ⟨rfl, B2⟩; have T2 := hTH.out.drew.below B2; have x0 := T2.a0; have x1 := T2.a1; have x2 := (T2.fr 0).1; have x3 := (T2.fr 1).1; have x4 := T2.lt.1))
                  all_goals
                    go_wp2_with fail
                    go_roundw
                    case rel =>
                      have hq := T2.setA (Go.Proofs.Ytnfpommplokemaa.wr (sv hi lo + sumTo z k - sumTo y' j - y' j))
                      rw [ea.out] at hq
                      rw [ea.out]
                      refine ⟨j + 1, by go_num, by omega, ?_⟩
                      first | exact hq | exact hq.drew
                    case measure => simp [intOf]; omega
                · obtain rfl : j = k := by omega
                  have eS : Hid (Go.Proofs.Ytnfpommplokemaa.wr (sv hi lo + sumTo z j - sumTo y' j) = sv hi lo) := by
                    show _ = _
                    rw [hySH.out, show sv hi lo + sumTo z j - sumTo z j = sv hi lo by omega]; exact wr_of _ hS128.out
                  rw [eS.out] at hT
                  have a0 := hT.a0
                  have a1 := hT.a1
                  rw [sH_sv hi lo h2] at a0
                  rw [sL_sv hi lo h2] at a1
                  have s0 := hT.tm.s0
                  have s1 := hT.tm.s1
                  have hTH : Hid _ := hT
                  clear hT eS hj hjk
                  by_cases hl0 : j = 0
                  · subst hl0
                    have hBf : Hid (Below w.heap.size w wr) := hTH.out.tm.b
                    have hlt := hTH.out.tm.g1
                    have hlt2 := hTH.out.tm.sz
                    have hlt3 := hTH.out.lt.1
                    have hlt4 := hTH.out.gt.1
                    have hS4 : w.heap.size < wr.heap.size ∧ A < wr.heap.size := ⟨by omega, hlt3⟩
                    clear hTH
                    go_upto_region 21 with fail
                    have S0 : Below wr.heap.size wr wr.drew ∧ wr.drew.cell? ⟨A, 0, none⟩ = some (.int .i64 hi) ∧ wr.drew.cell? ⟨A, 1, none⟩ = some (.int .u64 lo) ∧ wr.drew.cell? ⟨w.heap.size, 0, none⟩ = some (.int .i64 hi) ∧ wr.drew.cell? ⟨w.heap.size, 1, none⟩ = some (.int .u64 lo) := ⟨(Below.refl _ wr).drew, a0, a1, s0, s1⟩
                    go_region_held3 (fun w' => Below wr.heap.size wr w' ∧ w'.cell? ⟨A, 0, none⟩ = some (.int .i64 hi) ∧ w'.cell? ⟨A, 1, none⟩ = some (.int .u64 lo) ∧ w'.cell? ⟨w.heap.size, 0, none⟩ = some (.int .i64 hi) ∧ w'.cell? ⟨w.heap.size, 1, none⟩ = some (.int .u64 lo)) (first | assumption)
                      (first
                        | (go_at_call 5; (with_reducible refine Calls.mono (plus_0 hi lo h1 h2 _) ?_); rintro e w' ⟨rfl, BB⟩; have SS := keepS hS4.1 hS4.2 BB (by assumption))
                        | (go_at_call 7; (with_reducible refine Calls.mono (cmp_0 hi lo h2 _) ?_); rintro e w' ⟨rfl, BB⟩; have SS := keepS hS4.1 hS4.2 BB (by assumption))
                        | (go_at_call 8; (with_reducible refine Calls.mono (print_7 _) ?_); rintro e w' ⟨rfl, BB⟩; have SS := keepS hS4.1 hS4.2 BB (by assumption)))
                    all_goals
                      go_wp2_with fail
                      go_ret
                      exact ⟨rfl, below_then hBf.out SS.1⟩
                  · have hl1 : ((j : Int) == 0) = false := by rw [beq_eq_false_iff_ne]; omega
                    rcases hlH.out with h0 | ⟨b, off, rfl, hbk, hc⟩
                    · exact absurd h0 hl0
                    have hj9 : j ≤ 9223372036854775807 := by omega
                    have hjp : (0 : Int) < (j : Int) := by omega
                    have hbd := sumTo_between z (-9223372036854775808) 9223372036854775807 j (fun i _ => by have := hzH.out i; unfold I64 at this; omega)
                    obtain ⟨q1, q2⟩ := quo_between (sumTo z j) (-9223372036854775808) 9223372036854775807 (j : Int) hjp hbd.1 hbd.2
                    have hq : I64 (quoI (sumTo z j) (j : Int)) := by unfold I64; omega
                    have hrat := ratio_full (sH (sumTo z j)) (sL (sumTo z j)) (j : Int) (I64_sH _ (sumTo_S128 z hzH.out j hj9)) (U64_sL _) ⟨by omega, by omega⟩ (by omega)
                    rw [sv_H_L, sm0_yes hq, sm1_yes hq] at hrat
                    have hQ : Hid (∀ lo' hi', (∀ i, i < j → lo' ≤ z i ∧ z i ≤ hi') → lo' ≤ quoI (sumTo z j) (j : Int) ∧ quoI (sumTo z j) (j : Int) ≤ hi') := fun lo' hi' hb => by
                      have hb2 := sumTo_between z lo' hi' j hb
                      exact quo_between (sumTo z j) lo' hi' (j : Int) hjp hb2.1 hb2.2
                    obtain ⟨Q, hQe⟩ : ∃ Q, Q = quoI (sumTo z j) (j : Int) := ⟨_, rfl⟩
                    rw [← hQe] at hrat hQ
                    have hrH : Hid _ := hrat
                    have hBf : Hid (Below w.heap.size w wr) := hTH.out.tm.b
                    have c0 := hTH.out.c0
                    have c1 := hTH.out.c1
                    have hcH : Hid (∀ wy, Below w.heap.size w wy → ∀ i, i < j → wy.cell? ⟨b, off + i, none⟩ = some (.int .i64 (z i))) := fun wy hB i hi => by rw [hB.cell (p := ⟨b, off + i, none⟩) hbk]; exact hc i hi
                    clear hrat hQe hq q1 q2 hbd hTH hlH hc
                    go_wp2_with fail
                    refine (hrH.out _).mono ?_
                    rintro e w3 ⟨rfl, B3⟩
                    have P3 := below_then hBf.out B3
                    have z0 : w3.cell? ⟨b, off, none⟩ = some (.int .i64 (z 0)) := hcH.out _ P3 0 (by omega)
                    have P3H : Hid _ := P3
                    clear P3 B3 hBf a0 a1 s0 s1 c0 c1 hrH
                    go_wp2_with fail
                    go_region
                    go_wp2_with fail
                    have hzz := hzH.out 0
                    go_loopw [17, 18, 19] (fun l h i wx => ∃ (k : Nat) (lo' hi' : Int), k ≤ j ∧ l = .int .i64 lo' ∧ h = .int .i64 hi' ∧ i = .int .i64 (k : Int) ∧ (∀ i, i < k → lo' ≤ z i ∧ z i ≤ hi') ∧ Below w.heap.size w wx) (fun _ _ i _ => j - (intOf i).toNat)
                    case atStart => exact ⟨0, z 0, z 0, Nat.zero_le _, rfl, rfl, rfl, fun i hi => by omega, P3H.out.drew⟩
                    case round =>
                      clear P3H
                      obtain ⟨k, lo', hi', hk, rfl, rfl, rfl, hbd, hB⟩ := hrel
                      have hBH : Hid _ := hB
                      have hbdH : Hid _ := hbd
                      by_cases hkl : k < j
                      · have kI : (k : Int) < (j : Int) := by omega
                        have k0 : (0 : Int) ≤ (k : Int) := by omega
                        have zk := hcH.out _ hB k hkl
                        clear hB hbd z0
                        go_wp2_with fail
                        refine ⟨⟨k + 1, min lo' (z k), max hi' (z k), by omega, rfl, rfl, by go_num, fun i hi => ?_, hBH.out⟩, by simp [intOf]; omega⟩
                        rcases Nat.lt_or_ge i k with h | h
                        · have := hbdH.out i h; omega
                        · obtain rfl : i = k := by omega
                          omega
                      · obtain rfl : k = j := by omega
                        obtain ⟨g1, g2⟩ := hQ.out lo' hi' hbd
                        clear hB hbd z0 hkl
                        go_wp2_with fail
                        go_ret
                        exact ⟨rfl, hBH.out⟩
end Go.Proofs.Ytnfpommplokemaa
