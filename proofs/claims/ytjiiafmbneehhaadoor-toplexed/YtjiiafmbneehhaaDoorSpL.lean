
import Derived.Test.YtjiiafmbneehhaaDoorSpJ
import Derived.Test.YtjiiafmbneehhaaDoorSpK
import Derived.Deep.RegionHeld3
namespace Go.Proofs.YtjiiafmbneehhaaDoor
open Go.RowKit Go.Shelf
set_option linter.unusedVariables false
set_option linter.unusedSimpArgs false
theorem ex2_list (s : ByteArray) (k d : Nat) : (s.extract k (k + d)).data.toList = (s.data.toList.drop k).take d := by
  simp [ByteArray.data_extract, Array.toList_extract, List.extract_eq_take_drop]
theorem ex2_size (s : ByteArray) (k d : Nat) : (s.extract k (k + d)).size ≤ s.size := by
  simp [ByteArray.size_extract]; omega
def rdE (v : Int) (k : Nat) : Ending := .returned (.tuple #[.int .i64 (sm0 v), .int .i64 (k : Int), sm1 v])
theorem rd_end {f : Nat} {l : List UInt8} {last v : Int} {k : Nat} (hf : 8 ≤ (f : Int) + last) (hl : last ≤ 7) (h : parU l ≤ last) : rd f l last v k = (v, k) := by
  cases f with
  | zero => exfalso; omega
  | succ f => rw [rd, if_pos h]
theorem rd_next {f : Nat} {l : List UInt8} {last v : Int} {k : Nat} (hf : 8 ≤ (f : Int) + last) (hl : last ≤ 7) (h : ¬ parU l ≤ last) : ∃ f' : Nat, 8 ≤ (f' : Int) + parU l ∧ rd f l last v k = rd f' (l.drop (cnt l + unl (parU l))) (parU l) (v + valF 0 (l.take (cnt l)) * usz (parU l)) (k + (cnt l + unl (parU l))) := by
  cases f with
  | zero => exfalso; omega
  | succ f => exact ⟨f, by omega, by rw [rd, if_neg h]⟩
theorem part_at (s : ByteArray) (hs : s.size ≤ 9223372036854775807) (k d : Nat) (u : Int) (hd : cnt (s.data.toList.drop k) = d) (hu : parU (s.data.toList.drop k) = u) (W : World) (hU : UT W) : Calls Tryd.prog 39 #[.string (s.extract k s.size)] W fun e w' => e = .returned (.tuple #[.int .i64 (d : Int), .int .i64 u]) ∧ Below W.heap.size W w' := by
  have H := part_any (s.extract k s.size) (by rw [ex_size]; omega) W hU
  rw [ex_list, hd, hu] at H; exact H
theorem more_at (n z : Int) (s : ByteArray) (k d : Nat) (V : Int) (hn0 : 0 ≤ n) (hn1 : n < 9223372036854775808) (hz0 : 1 ≤ z) (hz1 : z ≤ 604800000000000) (hd : cnt (s.data.toList.drop k) = d) (hV : valF 0 ((s.data.toList.drop k).take d) = V) (hs : s.size ≤ 9223372036854775807) (W : World) :
    Calls Tryd.prog 40 #[.int .i64 n, .string (s.extract k ((k : Int) + (d : Int)).toNat), .int .i64 z] W fun e w' => e = .returned (.tuple #[.int .i64 (sm0 (n + V * z)), sm1 (n + V * z)]) ∧ Below W.heap.size W w' := by
  rw [show ((k : Int) + (d : Int)).toNat = k + d by omega]
  have H := more_any n z (s.extract k (k + d)) hn0 hn1 hz0 hz1 (by rw [ex2_list, ← hd]; exact allD_cnt _) (by have := ex2_size s k d; omega) W
  rw [ex2_list, hV] at H; exact H
theorem keepU {w W w2 : World} {p q : Addr} {a b : Value} (h : Below w.heap.size w W ∧ W.cell? p = some a ∧ W.cell? q = some b) (hb : Below W.heap.size W w2) : Below w.heap.size w w2 ∧ w2.cell? p = some a ∧ w2.cell? q = some b :=
  ⟨below_then h.1 hb, by rw [hb.cell (World.block_lt_of_cell? _ _ h.2.1)]; exact h.2.1, by rw [hb.cell (World.block_lt_of_cell? _ _ h.2.2)]; exact h.2.2⟩
theorem sm_stay {v t : Int} (h : ¬ I64 v) (hv : 0 ≤ v) (ht : 0 ≤ t) : ¬ I64 (v + t) := by unfold I64 at *; omega
set_option maxRecDepth 100000 in
set_option maxHeartbeats 8000000 in
theorem read_any (s : ByteArray) (hs : s.size ≤ 9223372036854775807) (w : World) (hU : UT w) : Calls Tryd.prog 31 #[.string s] w fun e w' => e = rdE (rdAll s.data.toList).1 (rdAll s.data.toList).2 ∧ Below w.heap.size w w' := by
  have HL : Hid (s.data.toList.length = s.size) := sz_list s
  go_enter Tryd.func31, Tryd.ntmps31
  go_wp2
  go_loopw [2, 3, 4, 5] (fun n i e la wr => ∃ (last v : Int) (k f : Nat), -1 ≤ last ∧ last ≤ 7 ∧ 8 ≤ (f : Int) + last ∧ 0 ≤ v ∧ k ≤ s.size ∧ Hid (rd f (s.data.toList.drop k) last v k = rdAll s.data.toList) ∧ n = .int .i64 (sm0 v) ∧ i = .int .i64 k ∧ e = sm1 v ∧ la = .int .i64 last ∧ Below w.heap.size w wr) (fun _ _ _ la _ => (8 - intOf la).toNat)
  case atStart => exact ⟨-1, 0, 0, 9, by omega, by omega, by omega, by omega, by omega, rfl, rfl, rfl, rfl, rfl, Below.refl _ _⟩
  case round =>
    obtain ⟨last, v, k, f, l1, l2, hf, v0, hk, hR, rfl, rfl, rfl, rfl, hB⟩ := hrel
    have hU2 := hU.below hB
    obtain ⟨d, hd⟩ : ∃ d, cnt (s.data.toList.drop k) = d := ⟨_, rfl⟩
    obtain ⟨u, hu⟩ : ∃ u, parU (s.data.toList.drop k) = u := ⟨_, rfl⟩
    have dl : k + d ≤ s.size := by
      have := cnt_le (s.data.toList.drop k)
      rw [List.length_drop, HL.out, hd] at this; omega
    have ub := parU_bd (s.data.toList.drop k)
    rw [hu] at ub
    obtain ⟨ub1, ub2⟩ := ub
    have P := fun W hW => part_at s hs k d u hd hu W hW
    have kb : ¬ (s.size : Int) < k := by omega
    by_cases hle : u ≤ last
    · have HE : Hid (rdAll s.data.toList = (v, k)) := by
        show _ = _
        rw [← hR.out]; exact rd_end hf l2 (by rw [hu]; exact hle)
      clear hR hd hu
      by_cases hv : I64 v
      all_goals
        first
          | rw [sm0_yes hv, sm1_yes hv]
          | rw [sm0_no hv, sm1_no hv]
        go_wp2_with (go_at_call 39; refine (P _ hU2).mono ?_; rintro e w1 ⟨rfl, B1⟩)
        first
          | exact bodyPost_ret (v := .tuple #[.int .i64 v, .int .i64 (k : Int), .nilIface]) (by simp [results, Tryd.results31, go_sem]) rfl ⟨by rw [HE.out]; unfold rdE; rw [sm0_yes hv, sm1_yes hv], below_then hB B1⟩
          | exact bodyPost_ret (v := .tuple #[.int .i64 0, .int .i64 (k : Int), .iface 33 (.int .i64 20)]) (by simp [results, Tryd.results31, go_sem]) rfl ⟨by rw [HE.out]; unfold rdE; rw [sm0_no hv, sm1_no hv], below_then hB B1⟩
    have hN := rd_next (v := v) (k := k) hf l2 (by rw [hu]; exact hle)
    rw [hd, hu] at hN
    obtain ⟨f', hf', hN⟩ := hN
    have dl2 := parU_len (s.data.toList.drop k) (by rw [hu]; omega)
    rw [List.length_drop, HL.out, hd, hu] at dl2
    obtain ⟨V, hV⟩ : ∃ V, valF 0 ((s.data.toList.drop k).take d) = V := ⟨_, rfl⟩
    have V0 : 0 ≤ V := by rw [← hV, ← hd]; exact valF_nonneg (allD_cnt _)
    rw [hV] at hN
    have HN : Hid (rd f' (s.data.toList.drop (k + (d + unl u))) u (v + V * usz u) (k + (d + unl u)) = rdAll s.data.toList) := by
      show _ = _
      rw [← hR.out, hN, List.drop_drop]
    have dl3 : k + (d + unl u) ≤ s.size := by have := unl_pos u; omega
    have ug : 0 ≤ u := by omega
    have M := fun (z n : Int) (hz0 : 1 ≤ z) (hz1 : z ≤ 604800000000000) (hn0 : 0 ≤ n) (hn1 : n < 9223372036854775808) W => more_at n z s k d V hn0 hn1 hz0 hz1 hd hV hs W
    have HP : Hid (∀ W, UT W → Calls Tryd.prog 39 #[.string (s.extract k s.size)] W fun e w' => e = .returned (.tuple #[.int .i64 (d : Int), .int .i64 u]) ∧ Below W.heap.size W w') := P
    clear hR hd hu hN hV P hU
    have hc : u = 0 ∨ u = 1 ∨ u = 2 ∨ u = 3 ∨ u = 4 ∨ u = 5 ∨ u = 6 ∨ u = 7 := by omega
    rcases hc with e | e | e | e | e | e | e | e <;> subst e
    · rw [show unl 0 = 1 from rfl] at HN dl2 dl3
      rw [show usz 0 = 604800000000000 from rfl] at HN
      have hle' : ¬ (0 : Int) ≤ last := hle
      have Mz := M 604800000000000 v (by omega) (by omega) v0
      clear M ub1 ub2 ug
      by_cases hv : I64 v
      · rw [sm0_yes hv, sm1_yes hv]
        have MH : Hid (∀ W, Calls Tryd.prog 40 #[.int .i64 v, .string (s.extract k ((k : Int) + (d : Int)).toNat), .int .i64 604800000000000] W fun e w' => e = .returned (.tuple #[.int .i64 (sm0 (v + V * 604800000000000)), sm1 (v + V * 604800000000000)]) ∧ Below W.heap.size W w') := Mz hv.2
        clear Mz
        have vt : 0 ≤ v + V * 604800000000000 := by omega
        obtain ⟨v', hv'⟩ : ∃ v', v + V * 604800000000000 = v' := ⟨_, rfl⟩
        rw [hv'] at MH HN vt
        clear hv'
        go_wp2_with (go_at_call 39; refine (HP.out _ hU2).mono ?_; rintro e w1 ⟨rfl, B1⟩; have hU3 := hU2.below B1)
        have hBd : Below w.heap.size w w1.drew := (below_then hB B1).drew
        have SS : Below w.heap.size w w1.drew ∧ w1.drew.cell? ⟨0, 0, none⟩ = some (.string ⟨#[119]⟩) ∧ w1.drew.cell? ⟨0, 1, none⟩ = some (.int .i64 604800000000000) := ⟨hBd, hU3.n0, hU3.z0⟩
        have sb0 : (0 : Int) ≤ (k : Int) := by omega
        have sb1 : (k : Int) + (d : Int) ≤ (s.size : Int) := by omega
        have sb2 : (k : Int) ≤ (k : Int) + (d : Int) := by omega
        have sb4 : (0 : Int) ≤ (k : Int) + (d : Int) := by omega
        have sb3 : IntKind.i64.wrap ((k : Int) + (d : Int)) = (k : Int) + (d : Int) := IntWalk.i64_in _ (by omega)
        go_region_held3 (fun W => Below w.heap.size w W ∧ W.cell? ⟨0, 0, none⟩ = some (.string ⟨#[119]⟩) ∧ W.cell? ⟨0, 1, none⟩ = some (.int .i64 604800000000000)) (first | assumption)
          (first | (go_at_call 40; (with_reducible refine Calls.mono (MH.out _) ?_); rintro e w2 ⟨rfl, B2⟩; have SS2 := keepU (by assumption) B2))
        all_goals
          obtain ⟨B3, n3, z3⟩ := SS2
          go_wp2
          go_roundw
          case rel => exact ⟨0, v', k + (d + 1), f', by omega, by omega, hf', vt, dl3, HN, rfl, by go_num, rfl, rfl, B3⟩
          case measure => simp [intOf]; omega
      · rw [sm0_no hv, sm1_no hv]
        clear Mz
        have hst := sm_stay (t := V * 604800000000000) hv v0 (by omega)
        have vt : 0 ≤ v + V * 604800000000000 := by omega
        obtain ⟨v', hv'⟩ : ∃ v', v + V * 604800000000000 = v' := ⟨_, rfl⟩
        rw [hv'] at HN vt hst
        have e0 : Hid (Value.int .i64 0 = .int .i64 (sm0 v') ∧ Value.iface 33 (.int .i64 20) = sm1 v') := by
          show _ ∧ _
          rw [sm0_no hst, sm1_no hst]; exact ⟨rfl, rfl⟩
        clear hv' hst
        go_wp2_with (go_at_call 39; refine (HP.out _ hU2).mono ?_; rintro e w1 ⟨rfl, B1⟩; have hU3 := hU2.below B1; have n3 := hU3.n0)
        go_roundw
        case rel => exact ⟨0, v', k + (d + 1), f', by omega, by omega, hf', vt, dl3, HN, e0.out.1, by go_num, e0.out.2, rfl, below_then hB B1⟩
        case measure => simp [intOf]; omega
    · rw [show unl 1 = 1 from rfl] at HN dl2 dl3
      rw [show usz 1 = 86400000000000 from rfl] at HN
      have hle' : ¬ (1 : Int) ≤ last := hle
      have Mz := M 86400000000000 v (by omega) (by omega) v0
      clear M ub1 ub2 ug
      by_cases hv : I64 v
      · rw [sm0_yes hv, sm1_yes hv]
        have MH : Hid (∀ W, Calls Tryd.prog 40 #[.int .i64 v, .string (s.extract k ((k : Int) + (d : Int)).toNat), .int .i64 86400000000000] W fun e w' => e = .returned (.tuple #[.int .i64 (sm0 (v + V * 86400000000000)), sm1 (v + V * 86400000000000)]) ∧ Below W.heap.size W w') := Mz hv.2
        clear Mz
        have vt : 0 ≤ v + V * 86400000000000 := by omega
        obtain ⟨v', hv'⟩ : ∃ v', v + V * 86400000000000 = v' := ⟨_, rfl⟩
        rw [hv'] at MH HN vt
        clear hv'
        go_wp2_with (go_at_call 39; refine (HP.out _ hU2).mono ?_; rintro e w1 ⟨rfl, B1⟩; have hU3 := hU2.below B1)
        have hBd : Below w.heap.size w w1.drew := (below_then hB B1).drew
        have SS : Below w.heap.size w w1.drew ∧ w1.drew.cell? ⟨0, 2, none⟩ = some (.string ⟨#[100]⟩) ∧ w1.drew.cell? ⟨0, 3, none⟩ = some (.int .i64 86400000000000) := ⟨hBd, hU3.n1, hU3.z1⟩
        have sb0 : (0 : Int) ≤ (k : Int) := by omega
        have sb1 : (k : Int) + (d : Int) ≤ (s.size : Int) := by omega
        have sb2 : (k : Int) ≤ (k : Int) + (d : Int) := by omega
        have sb4 : (0 : Int) ≤ (k : Int) + (d : Int) := by omega
        have sb3 : IntKind.i64.wrap ((k : Int) + (d : Int)) = (k : Int) + (d : Int) := IntWalk.i64_in _ (by omega)
        go_region_held3 (fun W => Below w.heap.size w W ∧ W.cell? ⟨0, 2, none⟩ = some (.string ⟨#[100]⟩) ∧ W.cell? ⟨0, 3, none⟩ = some (.int .i64 86400000000000)) (first | assumption)
          (first | (go_at_call 40; (with_reducible refine Calls.mono (MH.out _) ?_); rintro e w2 ⟨rfl, B2⟩; have SS2 := keepU (by assumption) B2))
        all_goals
          obtain ⟨B3, n3, z3⟩ := SS2
          go_wp2
          go_roundw
          case rel => exact ⟨1, v', k + (d + 1), f', by omega, by omega, hf', vt, dl3, HN, rfl, by go_num, rfl, rfl, B3⟩
          case measure => simp [intOf]; omega
      · rw [sm0_no hv, sm1_no hv]
        clear Mz
        have hst := sm_stay (t := V * 86400000000000) hv v0 (by omega)
        have vt : 0 ≤ v + V * 86400000000000 := by omega
        obtain ⟨v', hv'⟩ : ∃ v', v + V * 86400000000000 = v' := ⟨_, rfl⟩
        rw [hv'] at HN vt hst
        have e0 : Hid (Value.int .i64 0 = .int .i64 (sm0 v') ∧ Value.iface 33 (.int .i64 20) = sm1 v') := by
          show _ ∧ _
          rw [sm0_no hst, sm1_no hst]; exact ⟨rfl, rfl⟩
        clear hv' hst
        go_wp2_with (go_at_call 39; refine (HP.out _ hU2).mono ?_; rintro e w1 ⟨rfl, B1⟩; have hU3 := hU2.below B1; have n3 := hU3.n1)
        go_roundw
        case rel => exact ⟨1, v', k + (d + 1), f', by omega, by omega, hf', vt, dl3, HN, e0.out.1, by go_num, e0.out.2, rfl, below_then hB B1⟩
        case measure => simp [intOf]; omega
    · rw [show unl 2 = 1 from rfl] at HN dl2 dl3
      rw [show usz 2 = 3600000000000 from rfl] at HN
      have hle' : ¬ (2 : Int) ≤ last := hle
      have Mz := M 3600000000000 v (by omega) (by omega) v0
      clear M ub1 ub2 ug
      by_cases hv : I64 v
      · rw [sm0_yes hv, sm1_yes hv]
        have MH : Hid (∀ W, Calls Tryd.prog 40 #[.int .i64 v, .string (s.extract k ((k : Int) + (d : Int)).toNat), .int .i64 3600000000000] W fun e w' => e = .returned (.tuple #[.int .i64 (sm0 (v + V * 3600000000000)), sm1 (v + V * 3600000000000)]) ∧ Below W.heap.size W w') := Mz hv.2
        clear Mz
        have vt : 0 ≤ v + V * 3600000000000 := by omega
        obtain ⟨v', hv'⟩ : ∃ v', v + V * 3600000000000 = v' := ⟨_, rfl⟩
        rw [hv'] at MH HN vt
        clear hv'
        go_wp2_with (go_at_call 39; refine (HP.out _ hU2).mono ?_; rintro e w1 ⟨rfl, B1⟩; have hU3 := hU2.below B1)
        have hBd : Below w.heap.size w w1.drew := (below_then hB B1).drew
        have SS : Below w.heap.size w w1.drew ∧ w1.drew.cell? ⟨0, 4, none⟩ = some (.string ⟨#[104]⟩) ∧ w1.drew.cell? ⟨0, 5, none⟩ = some (.int .i64 3600000000000) := ⟨hBd, hU3.n2, hU3.z2⟩
        have sb0 : (0 : Int) ≤ (k : Int) := by omega
        have sb1 : (k : Int) + (d : Int) ≤ (s.size : Int) := by omega
        have sb2 : (k : Int) ≤ (k : Int) + (d : Int) := by omega
        have sb4 : (0 : Int) ≤ (k : Int) + (d : Int) := by omega
        have sb3 : IntKind.i64.wrap ((k : Int) + (d : Int)) = (k : Int) + (d : Int) := IntWalk.i64_in _ (by omega)
        go_region_held3 (fun W => Below w.heap.size w W ∧ W.cell? ⟨0, 4, none⟩ = some (.string ⟨#[104]⟩) ∧ W.cell? ⟨0, 5, none⟩ = some (.int .i64 3600000000000)) (first | assumption)
          (first | (go_at_call 40; (with_reducible refine Calls.mono (MH.out _) ?_); rintro e w2 ⟨rfl, B2⟩; have SS2 := keepU (by assumption) B2))
        all_goals
          obtain ⟨B3, n3, z3⟩ := SS2
          go_wp2
          go_roundw
          case rel => exact ⟨2, v', k + (d + 1), f', by omega, by omega, hf', vt, dl3, HN, rfl, by go_num, rfl, rfl, B3⟩
          case measure => simp [intOf]; omega
      · rw [sm0_no hv, sm1_no hv]
        clear Mz
        have hst := sm_stay (t := V * 3600000000000) hv v0 (by omega)
        have vt : 0 ≤ v + V * 3600000000000 := by omega
        obtain ⟨v', hv'⟩ : ∃ v', v + V * 3600000000000 = v' := ⟨_, rfl⟩
        rw [hv'] at HN vt hst
        have e0 : Hid (Value.int .i64 0 = .int .i64 (sm0 v') ∧ Value.iface 33 (.int .i64 20) = sm1 v') := by
          show _ ∧ _
          rw [sm0_no hst, sm1_no hst]; exact ⟨rfl, rfl⟩
        clear hv' hst
        go_wp2_with (go_at_call 39; refine (HP.out _ hU2).mono ?_; rintro e w1 ⟨rfl, B1⟩; have hU3 := hU2.below B1; have n3 := hU3.n2)
        go_roundw
        case rel => exact ⟨2, v', k + (d + 1), f', by omega, by omega, hf', vt, dl3, HN, e0.out.1, by go_num, e0.out.2, rfl, below_then hB B1⟩
        case measure => simp [intOf]; omega
    · rw [show unl 3 = 1 from rfl] at HN dl2 dl3
      rw [show usz 3 = 60000000000 from rfl] at HN
      have hle' : ¬ (3 : Int) ≤ last := hle
      have Mz := M 60000000000 v (by omega) (by omega) v0
      clear M ub1 ub2 ug
      by_cases hv : I64 v
      · rw [sm0_yes hv, sm1_yes hv]
        have MH : Hid (∀ W, Calls Tryd.prog 40 #[.int .i64 v, .string (s.extract k ((k : Int) + (d : Int)).toNat), .int .i64 60000000000] W fun e w' => e = .returned (.tuple #[.int .i64 (sm0 (v + V * 60000000000)), sm1 (v + V * 60000000000)]) ∧ Below W.heap.size W w') := Mz hv.2
        clear Mz
        have vt : 0 ≤ v + V * 60000000000 := by omega
        obtain ⟨v', hv'⟩ : ∃ v', v + V * 60000000000 = v' := ⟨_, rfl⟩
        rw [hv'] at MH HN vt
        clear hv'
        go_wp2_with (go_at_call 39; refine (HP.out _ hU2).mono ?_; rintro e w1 ⟨rfl, B1⟩; have hU3 := hU2.below B1)
        have hBd : Below w.heap.size w w1.drew := (below_then hB B1).drew
        have SS : Below w.heap.size w w1.drew ∧ w1.drew.cell? ⟨0, 6, none⟩ = some (.string ⟨#[109]⟩) ∧ w1.drew.cell? ⟨0, 7, none⟩ = some (.int .i64 60000000000) := ⟨hBd, hU3.n3, hU3.z3⟩
        have sb0 : (0 : Int) ≤ (k : Int) := by omega
        have sb1 : (k : Int) + (d : Int) ≤ (s.size : Int) := by omega
        have sb2 : (k : Int) ≤ (k : Int) + (d : Int) := by omega
        have sb4 : (0 : Int) ≤ (k : Int) + (d : Int) := by omega
        have sb3 : IntKind.i64.wrap ((k : Int) + (d : Int)) = (k : Int) + (d : Int) := IntWalk.i64_in _ (by omega)
        go_region_held3 (fun W => Below w.heap.size w W ∧ W.cell? ⟨0, 6, none⟩ = some (.string ⟨#[109]⟩) ∧ W.cell? ⟨0, 7, none⟩ = some (.int .i64 60000000000)) (first | assumption)
          (first | (go_at_call 40; (with_reducible refine Calls.mono (MH.out _) ?_); rintro e w2 ⟨rfl, B2⟩; have SS2 := keepU (by assumption) B2))
        all_goals
          obtain ⟨B3, n3, z3⟩ := SS2
          go_wp2
          go_roundw
          case rel => exact ⟨3, v', k + (d + 1), f', by omega, by omega, hf', vt, dl3, HN, rfl, by go_num, rfl, rfl, B3⟩
          case measure => simp [intOf]; omega
      · rw [sm0_no hv, sm1_no hv]
        clear Mz
        have hst := sm_stay (t := V * 60000000000) hv v0 (by omega)
        have vt : 0 ≤ v + V * 60000000000 := by omega
        obtain ⟨v', hv'⟩ : ∃ v', v + V * 60000000000 = v' := ⟨_, rfl⟩
        rw [hv'] at HN vt hst
        have e0 : Hid (Value.int .i64 0 = .int .i64 (sm0 v') ∧ Value.iface 33 (.int .i64 20) = sm1 v') := by
          show _ ∧ _
          rw [sm0_no hst, sm1_no hst]; exact ⟨rfl, rfl⟩
        clear hv' hst
        go_wp2_with (go_at_call 39; refine (HP.out _ hU2).mono ?_; rintro e w1 ⟨rfl, B1⟩; have hU3 := hU2.below B1; have n3 := hU3.n3)
        go_roundw
        case rel => exact ⟨3, v', k + (d + 1), f', by omega, by omega, hf', vt, dl3, HN, e0.out.1, by go_num, e0.out.2, rfl, below_then hB B1⟩
        case measure => simp [intOf]; omega
    · rw [show unl 4 = 1 from rfl] at HN dl2 dl3
      rw [show usz 4 = 1000000000 from rfl] at HN
      have hle' : ¬ (4 : Int) ≤ last := hle
      have Mz := M 1000000000 v (by omega) (by omega) v0
      clear M ub1 ub2 ug
      by_cases hv : I64 v
      · rw [sm0_yes hv, sm1_yes hv]
        have MH : Hid (∀ W, Calls Tryd.prog 40 #[.int .i64 v, .string (s.extract k ((k : Int) + (d : Int)).toNat), .int .i64 1000000000] W fun e w' => e = .returned (.tuple #[.int .i64 (sm0 (v + V * 1000000000)), sm1 (v + V * 1000000000)]) ∧ Below W.heap.size W w') := Mz hv.2
        clear Mz
        have vt : 0 ≤ v + V * 1000000000 := by omega
        obtain ⟨v', hv'⟩ : ∃ v', v + V * 1000000000 = v' := ⟨_, rfl⟩
        rw [hv'] at MH HN vt
        clear hv'
        go_wp2_with (go_at_call 39; refine (HP.out _ hU2).mono ?_; rintro e w1 ⟨rfl, B1⟩; have hU3 := hU2.below B1)
        have hBd : Below w.heap.size w w1.drew := (below_then hB B1).drew
        have SS : Below w.heap.size w w1.drew ∧ w1.drew.cell? ⟨0, 8, none⟩ = some (.string ⟨#[115]⟩) ∧ w1.drew.cell? ⟨0, 9, none⟩ = some (.int .i64 1000000000) := ⟨hBd, hU3.n4, hU3.z4⟩
        have sb0 : (0 : Int) ≤ (k : Int) := by omega
        have sb1 : (k : Int) + (d : Int) ≤ (s.size : Int) := by omega
        have sb2 : (k : Int) ≤ (k : Int) + (d : Int) := by omega
        have sb4 : (0 : Int) ≤ (k : Int) + (d : Int) := by omega
        have sb3 : IntKind.i64.wrap ((k : Int) + (d : Int)) = (k : Int) + (d : Int) := IntWalk.i64_in _ (by omega)
        go_region_held3 (fun W => Below w.heap.size w W ∧ W.cell? ⟨0, 8, none⟩ = some (.string ⟨#[115]⟩) ∧ W.cell? ⟨0, 9, none⟩ = some (.int .i64 1000000000)) (first | assumption)
          (first | (go_at_call 40; (with_reducible refine Calls.mono (MH.out _) ?_); rintro e w2 ⟨rfl, B2⟩; have SS2 := keepU (by assumption) B2))
        all_goals
          obtain ⟨B3, n3, z3⟩ := SS2
          go_wp2
          go_roundw
          case rel => exact ⟨4, v', k + (d + 1), f', by omega, by omega, hf', vt, dl3, HN, rfl, by go_num, rfl, rfl, B3⟩
          case measure => simp [intOf]; omega
      · rw [sm0_no hv, sm1_no hv]
        clear Mz
        have hst := sm_stay (t := V * 1000000000) hv v0 (by omega)
        have vt : 0 ≤ v + V * 1000000000 := by omega
        obtain ⟨v', hv'⟩ : ∃ v', v + V * 1000000000 = v' := ⟨_, rfl⟩
        rw [hv'] at HN vt hst
        have e0 : Hid (Value.int .i64 0 = .int .i64 (sm0 v') ∧ Value.iface 33 (.int .i64 20) = sm1 v') := by
          show _ ∧ _
          rw [sm0_no hst, sm1_no hst]; exact ⟨rfl, rfl⟩
        clear hv' hst
        go_wp2_with (go_at_call 39; refine (HP.out _ hU2).mono ?_; rintro e w1 ⟨rfl, B1⟩; have hU3 := hU2.below B1; have n3 := hU3.n4)
        go_roundw
        case rel => exact ⟨4, v', k + (d + 1), f', by omega, by omega, hf', vt, dl3, HN, e0.out.1, by go_num, e0.out.2, rfl, below_then hB B1⟩
        case measure => simp [intOf]; omega
    · rw [show unl 5 = 2 from rfl] at HN dl2 dl3
      rw [show usz 5 = 1000000 from rfl] at HN
      have hle' : ¬ (5 : Int) ≤ last := hle
      have Mz := M 1000000 v (by omega) (by omega) v0
      clear M ub1 ub2 ug
      by_cases hv : I64 v
      · rw [sm0_yes hv, sm1_yes hv]
        have MH : Hid (∀ W, Calls Tryd.prog 40 #[.int .i64 v, .string (s.extract k ((k : Int) + (d : Int)).toNat), .int .i64 1000000] W fun e w' => e = .returned (.tuple #[.int .i64 (sm0 (v + V * 1000000)), sm1 (v + V * 1000000)]) ∧ Below W.heap.size W w') := Mz hv.2
        clear Mz
        have vt : 0 ≤ v + V * 1000000 := by omega
        obtain ⟨v', hv'⟩ : ∃ v', v + V * 1000000 = v' := ⟨_, rfl⟩
        rw [hv'] at MH HN vt
        clear hv'
        go_wp2_with (go_at_call 39; refine (HP.out _ hU2).mono ?_; rintro e w1 ⟨rfl, B1⟩; have hU3 := hU2.below B1)
        have hBd : Below w.heap.size w w1.drew := (below_then hB B1).drew
        have SS : Below w.heap.size w w1.drew ∧ w1.drew.cell? ⟨0, 10, none⟩ = some (.string ⟨#[109, 115]⟩) ∧ w1.drew.cell? ⟨0, 11, none⟩ = some (.int .i64 1000000) := ⟨hBd, hU3.n5, hU3.z5⟩
        have sb0 : (0 : Int) ≤ (k : Int) := by omega
        have sb1 : (k : Int) + (d : Int) ≤ (s.size : Int) := by omega
        have sb2 : (k : Int) ≤ (k : Int) + (d : Int) := by omega
        have sb4 : (0 : Int) ≤ (k : Int) + (d : Int) := by omega
        have sb3 : IntKind.i64.wrap ((k : Int) + (d : Int)) = (k : Int) + (d : Int) := IntWalk.i64_in _ (by omega)
        go_region_held3 (fun W => Below w.heap.size w W ∧ W.cell? ⟨0, 10, none⟩ = some (.string ⟨#[109, 115]⟩) ∧ W.cell? ⟨0, 11, none⟩ = some (.int .i64 1000000)) (first | assumption)
          (first | (go_at_call 40; (with_reducible refine Calls.mono (MH.out _) ?_); rintro e w2 ⟨rfl, B2⟩; have SS2 := keepU (by assumption) B2))
        all_goals
          obtain ⟨B3, n3, z3⟩ := SS2
          go_wp2
          go_roundw
          case rel => exact ⟨5, v', k + (d + 2), f', by omega, by omega, hf', vt, dl3, HN, rfl, by go_num, rfl, rfl, B3⟩
          case measure => simp [intOf]; omega
      · rw [sm0_no hv, sm1_no hv]
        clear Mz
        have hst := sm_stay (t := V * 1000000) hv v0 (by omega)
        have vt : 0 ≤ v + V * 1000000 := by omega
        obtain ⟨v', hv'⟩ : ∃ v', v + V * 1000000 = v' := ⟨_, rfl⟩
        rw [hv'] at HN vt hst
        have e0 : Hid (Value.int .i64 0 = .int .i64 (sm0 v') ∧ Value.iface 33 (.int .i64 20) = sm1 v') := by
          show _ ∧ _
          rw [sm0_no hst, sm1_no hst]; exact ⟨rfl, rfl⟩
        clear hv' hst
        go_wp2_with (go_at_call 39; refine (HP.out _ hU2).mono ?_; rintro e w1 ⟨rfl, B1⟩; have hU3 := hU2.below B1; have n3 := hU3.n5)
        go_roundw
        case rel => exact ⟨5, v', k + (d + 2), f', by omega, by omega, hf', vt, dl3, HN, e0.out.1, by go_num, e0.out.2, rfl, below_then hB B1⟩
        case measure => simp [intOf]; omega
    · rw [show unl 6 = 2 from rfl] at HN dl2 dl3
      rw [show usz 6 = 1000 from rfl] at HN
      have hle' : ¬ (6 : Int) ≤ last := hle
      have Mz := M 1000 v (by omega) (by omega) v0
      clear M ub1 ub2 ug
      by_cases hv : I64 v
      · rw [sm0_yes hv, sm1_yes hv]
        have MH : Hid (∀ W, Calls Tryd.prog 40 #[.int .i64 v, .string (s.extract k ((k : Int) + (d : Int)).toNat), .int .i64 1000] W fun e w' => e = .returned (.tuple #[.int .i64 (sm0 (v + V * 1000)), sm1 (v + V * 1000)]) ∧ Below W.heap.size W w') := Mz hv.2
        clear Mz
        have vt : 0 ≤ v + V * 1000 := by omega
        obtain ⟨v', hv'⟩ : ∃ v', v + V * 1000 = v' := ⟨_, rfl⟩
        rw [hv'] at MH HN vt
        clear hv'
        go_wp2_with (go_at_call 39; refine (HP.out _ hU2).mono ?_; rintro e w1 ⟨rfl, B1⟩; have hU3 := hU2.below B1)
        have hBd : Below w.heap.size w w1.drew := (below_then hB B1).drew
        have SS : Below w.heap.size w w1.drew ∧ w1.drew.cell? ⟨0, 12, none⟩ = some (.string ⟨#[117, 115]⟩) ∧ w1.drew.cell? ⟨0, 13, none⟩ = some (.int .i64 1000) := ⟨hBd, hU3.n6, hU3.z6⟩
        have sb0 : (0 : Int) ≤ (k : Int) := by omega
        have sb1 : (k : Int) + (d : Int) ≤ (s.size : Int) := by omega
        have sb2 : (k : Int) ≤ (k : Int) + (d : Int) := by omega
        have sb4 : (0 : Int) ≤ (k : Int) + (d : Int) := by omega
        have sb3 : IntKind.i64.wrap ((k : Int) + (d : Int)) = (k : Int) + (d : Int) := IntWalk.i64_in _ (by omega)
        go_region_held3 (fun W => Below w.heap.size w W ∧ W.cell? ⟨0, 12, none⟩ = some (.string ⟨#[117, 115]⟩) ∧ W.cell? ⟨0, 13, none⟩ = some (.int .i64 1000)) (first | assumption)
          (first | (go_at_call 40; (with_reducible refine Calls.mono (MH.out _) ?_); rintro e w2 ⟨rfl, B2⟩; have SS2 := keepU (by assumption) B2))
        all_goals
          obtain ⟨B3, n3, z3⟩ := SS2
          go_wp2
          go_roundw
          case rel => exact ⟨6, v', k + (d + 2), f', by omega, by omega, hf', vt, dl3, HN, rfl, by go_num, rfl, rfl, B3⟩
          case measure => simp [intOf]; omega
      · rw [sm0_no hv, sm1_no hv]
        clear Mz
        have hst := sm_stay (t := V * 1000) hv v0 (by omega)
        have vt : 0 ≤ v + V * 1000 := by omega
        obtain ⟨v', hv'⟩ : ∃ v', v + V * 1000 = v' := ⟨_, rfl⟩
        rw [hv'] at HN vt hst
        have e0 : Hid (Value.int .i64 0 = .int .i64 (sm0 v') ∧ Value.iface 33 (.int .i64 20) = sm1 v') := by
          show _ ∧ _
          rw [sm0_no hst, sm1_no hst]; exact ⟨rfl, rfl⟩
        clear hv' hst
        go_wp2_with (go_at_call 39; refine (HP.out _ hU2).mono ?_; rintro e w1 ⟨rfl, B1⟩; have hU3 := hU2.below B1; have n3 := hU3.n6)
        go_roundw
        case rel => exact ⟨6, v', k + (d + 2), f', by omega, by omega, hf', vt, dl3, HN, e0.out.1, by go_num, e0.out.2, rfl, below_then hB B1⟩
        case measure => simp [intOf]; omega
    · rw [show unl 7 = 2 from rfl] at HN dl2 dl3
      rw [show usz 7 = 1 from rfl] at HN
      have hle' : ¬ (7 : Int) ≤ last := hle
      have Mz := M 1 v (by omega) (by omega) v0
      clear M ub1 ub2 ug
      by_cases hv : I64 v
      · rw [sm0_yes hv, sm1_yes hv]
        have MH : Hid (∀ W, Calls Tryd.prog 40 #[.int .i64 v, .string (s.extract k ((k : Int) + (d : Int)).toNat), .int .i64 1] W fun e w' => e = .returned (.tuple #[.int .i64 (sm0 (v + V * 1)), sm1 (v + V * 1)]) ∧ Below W.heap.size W w') := Mz hv.2
        clear Mz
        have vt : 0 ≤ v + V * 1 := by omega
        obtain ⟨v', hv'⟩ : ∃ v', v + V * 1 = v' := ⟨_, rfl⟩
        rw [hv'] at MH HN vt
        clear hv'
        go_wp2_with (go_at_call 39; refine (HP.out _ hU2).mono ?_; rintro e w1 ⟨rfl, B1⟩; have hU3 := hU2.below B1)
        have hBd : Below w.heap.size w w1.drew := (below_then hB B1).drew
        have SS : Below w.heap.size w w1.drew ∧ w1.drew.cell? ⟨0, 14, none⟩ = some (.string ⟨#[110, 115]⟩) ∧ w1.drew.cell? ⟨0, 15, none⟩ = some (.int .i64 1) := ⟨hBd, hU3.n7, hU3.z7⟩
        have sb0 : (0 : Int) ≤ (k : Int) := by omega
        have sb1 : (k : Int) + (d : Int) ≤ (s.size : Int) := by omega
        have sb2 : (k : Int) ≤ (k : Int) + (d : Int) := by omega
        have sb4 : (0 : Int) ≤ (k : Int) + (d : Int) := by omega
        have sb3 : IntKind.i64.wrap ((k : Int) + (d : Int)) = (k : Int) + (d : Int) := IntWalk.i64_in _ (by omega)
        go_region_held3 (fun W => Below w.heap.size w W ∧ W.cell? ⟨0, 14, none⟩ = some (.string ⟨#[110, 115]⟩) ∧ W.cell? ⟨0, 15, none⟩ = some (.int .i64 1)) (first | assumption)
          (first | (go_at_call 40; (with_reducible refine Calls.mono (MH.out _) ?_); rintro e w2 ⟨rfl, B2⟩; have SS2 := keepU (by assumption) B2))
        all_goals
          obtain ⟨B3, n3, z3⟩ := SS2
          go_wp2
          go_roundw
          case rel => exact ⟨7, v', k + (d + 2), f', by omega, by omega, hf', vt, dl3, HN, rfl, by go_num, rfl, rfl, B3⟩
          case measure => simp [intOf]; omega
      · rw [sm0_no hv, sm1_no hv]
        clear Mz
        have hst := sm_stay (t := V * 1) hv v0 (by omega)
        have vt : 0 ≤ v + V * 1 := by omega
        obtain ⟨v', hv'⟩ : ∃ v', v + V * 1 = v' := ⟨_, rfl⟩
        rw [hv'] at HN vt hst
        have e0 : Hid (Value.int .i64 0 = .int .i64 (sm0 v') ∧ Value.iface 33 (.int .i64 20) = sm1 v') := by
          show _ ∧ _
          rw [sm0_no hst, sm1_no hst]; exact ⟨rfl, rfl⟩
        clear hv' hst
        go_wp2_with (go_at_call 39; refine (HP.out _ hU2).mono ?_; rintro e w1 ⟨rfl, B1⟩; have hU3 := hU2.below B1; have n3 := hU3.n7)
        go_roundw
        case rel => exact ⟨7, v', k + (d + 2), f', by omega, by omega, hf', vt, dl3, HN, e0.out.1, by go_num, e0.out.2, rfl, below_then hB B1⟩
        case measure => simp [intOf]; omega
end Go.Proofs.YtjiiafmbneehhaaDoor
