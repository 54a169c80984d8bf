import Derived.Test.YtncddkgdkooigacDoorInts
namespace Go.Proofs.YtncddkgdkooigacDoor
open Go.RowKit Go.Shelf
set_option linter.unusedVariables false

theorem between_none (a : Option Addr) (cap : Nat) (w : World) (hg : ET w) :
    Calls Tryd.prog 7 #[.slice a 0 cap] w fun e w' => e = .returned (.bool true) ∧ Below w.heap.size w w' := by
  go_enter Tryd.func7, Tryd.ntmps7
  go_wp2_with fail
  refine (live_any _ hg).mono ?_
  rintro e w1 ⟨rfl, hb1⟩
  go_wp2_with fail
  refine (ratio_zero 0 0 _).mono ?_
  rintro e w2 ⟨rfl, hb2⟩
  have hb12 := below_then hb1 hb2
  go_wp2_with fail
  refine (is_any 21 21 rfl _ (ET_below hg hb12)).mono ?_
  rintro e w3 ⟨rfl, hb3⟩
  go_wp2
  go_ret
  exact ⟨rfl, below_then hb12 hb3⟩

set_option maxRecDepth 100000 in
set_option maxHeartbeats 4000000 in
theorem between_some (b off len cap : Nat) (z : Nat → Int) (w : World) (hlen : 0 < len) (hmax : len ≤ 9223372036854775807) (hz : ∀ i, I64 (z i)) (hbk : b < w.heap.size)
    (hcell : ∀ i, i < len → w.cell? ⟨b, off + i, none⟩ = some (.int .i64 (z i))) (hg : ET w) :
    Calls Tryd.prog 7 #[.slice (some ⟨b, off, none⟩) len cap] w fun e w' => e = .returned (.bool true) ∧ Below w.heap.size w w' := by
  have c0 : ((len : Int) == 0) = false := by rw [beq_eq_false_iff_ne]; omega
  have hl0 : (0 : Int) < (len : Int) := by omega
  have hl1 : (len : Int) ≤ 9223372036854775807 := by omega
  go_enter Tryd.func7, Tryd.ntmps7
  go_wp2_with fail
  refine (live_any _ hg).mono ?_
  rintro e w1 ⟨rfl, hb1⟩
  have hz0 : ∀ o, (w1.alloc o).cell? ⟨b, off, none⟩ = some (.int .i64 (z 0)) := fun o => by
    rw [World.cell?_alloc_lt _ _ ⟨b, off, none⟩ (by have := hb1.size; simp; omega), hb1.cell (p := ⟨b, off, none⟩) hbk]; exact hcell 0 hlen
  go_wp2_with fail
  clear hz0
  go_loopw [6, 7, 8] (fun l h i wr => ∃ (k : Nat) (lo hi : Int), k ≤ len ∧ l = .int .i64 lo ∧ h = .int .i64 hi ∧ i = .int .i64 k ∧ Acc w1.heap.size w1 (sumTo z k) wr ∧ I64 lo ∧ I64 hi ∧ (∀ i, i < k → lo ≤ z i ∧ z i ≤ hi)) (fun _ _ i _ => len - (intOf i).toNat)
  case atStart =>
    exact ⟨0, z 0, z 0, Nat.zero_le _, rfl, rfl, rfl, ⟨by simp [sumTo, sH], by simp [sumTo, sL], by simp, by simp, (Below.refl _ _).alloc (Nat.le_refl _) _, by simp⟩, hz 0, hz 0, fun i hi => by omega⟩
  case round =>
    obtain ⟨k, lo, hi, hk, rfl, rfl, rfl, hI, lo6, hi6, bd⟩ := hrel
    have HI := hI
    obtain ⟨s0, s1, f0, f1, hB, sz⟩ := hI
    by_cases hlt : k < len
    · have hbl : b < w1.heap.size := by have := hb1.size; omega
      have hzk : wr.cell? ⟨b, off + k, none⟩ = some (.int .i64 (z k)) := by
        rw [hB.cell (p := ⟨b, off + k, none⟩) hbl, hb1.cell (p := ⟨b, off + k, none⟩) hbk]; exact hcell k hlt
      have hltI : (k : Int) < (len : Int) := by omega
      have eS := sumTo_step z hz k (by omega)
      have m0 : ∀ o1 o2 o3 o4, ((((wr.alloc o1).alloc o2).alloc o3).alloc o4).cell? ⟨w1.heap.size, 0, none⟩ = some (.int .i64 (sH (sumTo z k))) := fun o1 o2 o3 o4 => by rw [cell4 (p := ⟨w1.heap.size, 0, none⟩) sz]; exact s0
      have m1 : ∀ o1 o2 o3 o4, ((((wr.alloc o1).alloc o2).alloc o3).alloc o4).cell? ⟨w1.heap.size, 1, none⟩ = some (.int .u64 (sL (sumTo z k))) := fun o1 o2 o3 o4 => by rw [cell4 (p := ⟨w1.heap.size, 1, none⟩) sz]; exact s1
      have m2 : ∀ o1 o2 o3 o4, ((((wr.alloc o1).alloc o2).alloc o3).alloc o4).frozen? ⟨w1.heap.size, 0, none⟩ = false := fun o1 o2 o3 o4 => by rw [frozen4 (p := ⟨w1.heap.size, 0, none⟩) sz]; exact f0
      have m3 : ∀ o1 o2 o3 o4, ((((wr.alloc o1).alloc o2).alloc o3).alloc o4).frozen? ⟨w1.heap.size, 1, none⟩ = false := fun o1 o2 o3 o4 => by rw [frozen4 (p := ⟨w1.heap.size, 1, none⟩) sz]; exact f1
      have m4 : ∀ o1 o2 o3 o4 u v, ((((((wr.alloc o1).alloc o2).alloc o3).alloc o4).setCell ⟨w1.heap.size, 0, none⟩ u).setCell ⟨w1.heap.size, 1, none⟩ v).cell? ⟨b, off + k, none⟩ = some (.int .i64 (z k)) := fun o1 o2 o3 o4 u v => by rw [acc_other sz _ _ _ _ _ _ _ hbl]; exact hzk
      have hzk6 := hz k
      by_cases c1 : z k < lo <;> by_cases c2 : hi < z k
      all_goals
        go_wp2_with fail
        go_region_with (first | (go_at_call 15; refine (plus_any _ _ (z k) (U64_sL _) (hz k) _).mono ?_; rintro e w' ⟨rfl, o1, o2, o3, o4, rfl⟩))
        all_goals
          go_wp2_with fail
          go_roundw
          case rel =>
            refine ⟨k + 1, _, _, by omega, rfl, rfl, by go_num, acc_next HI _ _ _ _ _, by first | exact lo6 | exact hzk6, by first | exact hi6 | exact hzk6, fun i hi' => ?_⟩
            rcases Nat.lt_or_ge i k with h | h
            · have := bd i h; omega
            · obtain rfl : i = k := by omega
              omega
          case measure => simp [intOf]; omega
    · have hk' : k = len := by omega
      subst hk'
      clear hlt hcell
      obtain ⟨b1, b2⟩ := sumTo_between z lo hi k bd
      obtain ⟨q1, q2⟩ := quo_between (sumTo z k) lo hi (k : Int) hl0 b1 b2
      have eV := sv_H_L (sumTo z k)
      have hq : I64 (quoI (sumTo z k) (k : Int)) := by unfold I64 at lo6 hi6 ⊢; omega
      have e1 := sm0_yes hq
      have e2 := sm1_yes hq
      go_wp2_with fail
      refine (ratio_full _ _ (k : Int) (I64_sH _ (sumTo_S128 z hz k hmax)) (U64_sL _) ⟨by omega, by omega⟩ (by omega) _).mono ?_
      rintro e w2 ⟨rfl, hb2⟩
      go_wp2_with fail
      go_ret
      exact ⟨rfl, below_then (hb1.trans (hB.mono hb1.size)) hb2⟩
theorem numBetween_walk (a : Option Addr) (len cap : Nat) (z : Nat → Int) (w : World) (hg : ET w) (h : IntsAt w a len z) :
    Calls Tryd.prog 7 #[.slice a len cap] w fun e w' => e = .returned (.bool true) ∧ Below w.heap.size w w' := by
  obtain ⟨hm, hz, h⟩ := h
  rcases Nat.eq_zero_or_pos len with h0 | h0
  · subst h0; exact between_none a cap w hg
  · rcases h with h | ⟨b, off, rfl, hb, hc⟩
    · omega
    · exact between_some b off len cap z w h0 hm hz hb hc hg
end Go.Proofs.YtncddkgdkooigacDoor
