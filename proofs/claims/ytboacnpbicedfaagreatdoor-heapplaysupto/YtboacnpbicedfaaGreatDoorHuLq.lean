
import Derived.Test.YtboacnpbicedfaaGreatDoorByH
namespace Go.Proofs.YtboacnpbicedfaaGreatDoor.Hp
open Go.RowKit Go.Maps
set_option linter.unusedVariables false
set_option linter.unusedSimpArgs false
set_option maxRecDepth 100000
set_option maxHeartbeats 8000000 in
theorem build_x (most : Bool) (a : Option Addr) (cap : Nat) (l : List Ent) (w : World) (hin : EnIn w a l) (hnm : ∀ e ∈ l, e.2.size ≤ 9223372036854775807) (o : Option Nat) (ho : KN l o) (hn : l.length ≤ 1099511627775) :
    Calls Tryz.prog 9 #[.bool most, .slice a l.length cap] w fun e w' => (∀ j, o = some j → e = .returned (.tuple #[.pointer none, .iface 71 (.agg #[.int .i64 (j : Int), .iface 41 (.int .i64 5)])]) ∧ Below w.heap.size w w') ∧ (o = none → e = .returned (.tuple #[.pointer (some ⟨w.heap.size + 1, 0, none⟩), .nilIface]) ∧ GB w (w.heap.size + 1) w.heap.size most (bldL (ahd most) (l.length / 2) (l, 0)).1 ((bldL (ahd most) (l.length / 2) (l, 0)).2 : Nat) w') := by
  obtain ⟨QQ, hQQ⟩ : ∃ QQ : Ending → World → Prop, QQ = fun e w' => (∀ j, o = some j → e = .returned (.tuple #[.pointer none, .iface 71 (.agg #[.int .i64 (j : Int), .iface 41 (.int .i64 5)])]) ∧ Below w.heap.size w w') ∧ (o = none → e = .returned (.tuple #[.pointer (some ⟨w.heap.size + 1, 0, none⟩), .nilIface]) ∧ GB w (w.heap.size + 1) w.heap.size most (bldL (ahd most) (l.length / 2) (l, 0)).1 ((bldL (ahd most) (l.length / 2) (l, 0)).2 : Nat) w') := ⟨_, rfl⟩
  rw [← hQQ]
  obtain ⟨hp, hhp⟩ : ∃ hp, hp = w.heap.size + 1 := ⟨_, rfl⟩
  obtain ⟨mb, hmb⟩ : ∃ mb, mb = w.heap.size := ⟨_, rfl⟩
  have CN : Hid (Calls Tryz.prog 4 #[.bool most] w fun e w' => e = .returned (.pointer (some ⟨hp, 0, none⟩)) ∧ GB w hp mb most (l.take 0) 0 w') := by
    refine (hnew_any most w).mono fun e w' hh => ?_
    obtain ⟨h1, h2, h3⟩ := hh
    refine ⟨by rw [h1, hhp], ⟨_, _, by rw [hhp, hmb]; exact h2⟩, h3, ?_, hhp, hmb⟩
    have := h2.hl
    omega
  obtain ⟨n, hln⟩ : ∃ n, n = l.length := ⟨_, rfl⟩
  have hinH : Hid (EnIn w a l) := hin
  have hnmH : Hid (∀ e ∈ l, e.2.size ≤ 9223372036854775807) := hnm
  have hlnH : Hid (n = l.length) := hln
  have RES2 : Hid (∀ (w' : World), (∀ i, i < n → kn (l.take i) (atE l i).2 = false) → GB w hp mb most (bldL (ahd most) (n / 2) (l, 0)).1 ((bldL (ahd most) (n / 2) (l, 0)).2 : Nat) w' → QQ (.returned (.tuple #[.pointer (some ⟨hp, 0, none⟩), .nilIface])) w') := fun w' h1 h2 => by
    have e : o = none := by
      cases o with
      | none => rfl
      | some j => have := h1 j (by rw [hln]; exact ho.1); rw [ho.2.1] at this; cases this
    rw [hQQ]
    subst hln
    subst hhp hmb
    exact ⟨fun j hj => by (rw [e] at hj; cases hj), fun _ => ⟨rfl, h2⟩⟩
  have RER2 : Hid (∀ (w' : World) (k : Nat), k < n → kn (l.take k) (atE l k).2 = true → (∀ i, i < k → kn (l.take i) (atE l i).2 = false) → Below w.heap.size w w' → QQ (.returned (.tuple #[.pointer none, .iface 71 (.agg #[.int .i64 (k : Int), .iface 41 (.int .i64 5)])])) w') := fun w' k hk h1 h2 hb => by
    have e : o = some k := by
      cases o with
      | none => have := ho k (by omega); rw [h1] at this; cases this
      | some j =>
        rcases Nat.lt_trichotomy j k with q | q | q
        · have := h2 j q; rw [ho.2.1] at this; cases this
        · rw [q]
        · have := ho.2.2 k q; rw [h1] at this; cases this
    rw [hQQ]
    refine ⟨fun j hj => ?_, fun h => by (rw [e] at h; cases h)⟩
    rw [e] at hj
    injection hj with hj
    rw [← hj]
    exact ⟨rfl, hb⟩
  have hn2 : n ≤ 1099511627775 := by omega
  rw [← hln]
  obtain ⟨nb1, nb2⟩ := nums_b n (by omega)
  clear hQQ hin hnm hn hln hhp hmb ho
  go_enter Tryz.func9, Tryz.ntmps9
  go_wp2_with fail
  refine Calls.mono CN.out ?_
  rintro e w1 ⟨rfl, gb1⟩
  have G0 : Hid (GB w hp mb most (l.take 0) 0 w1) := gb1
  clear gb1 CN
  go_wp2_with fail
  go_loopw [16] (fun v16 wr => ∃ (j : Nat), v16 = .int .i64 (j : Int) ∧ j ≤ n ∧ Hid (∀ i, i < j → kn (l.take i) (atE l i).2 = false) ∧ Hid (GB w hp mb most (l.take j) 0 wr)) (fun v16 _ => n - (intOf v16).toNat)
  case atStart => exact ⟨0, rfl, Nat.zero_le _, fun i hi => by omega, G0⟩
  case round =>
    clear G0
    obtain ⟨j, rfl, hjn, hKK, hG⟩ := hrel
    by_cases hj : j < n
    · obtain ⟨j0, jI, jw, _⟩ := nums_j j n hj (by omega)
      obtain ⟨x, hx⟩ : ∃ x, x = atE l j := ⟨_, rfl⟩
      have hjl : j < l.length := by rw [← hlnH.out]; exact hj
      have hxj : l[j]? = some x := by rw [hx]; exact atE_some hjl
      have hin2 := hinH.out.below hG.out.bl
      obtain ⟨b, off, rfl, hbl, hcs⟩ : ∃ b off, a = some ⟨b, off, none⟩ ∧ b < wr.heap.size ∧ ∀ i t, l[i]? = some t → wr.cell? ⟨b, off + i * 2, none⟩ = some (.int .i64 t.1) ∧ wr.cell? ⟨b, off + i * 2 + 1, none⟩ = some (.string t.2) := by
        rcases hin2 with q | q
        · rw [q] at hjl; simp at hjl
        · exact q
      obtain ⟨e1, e2⟩ := hcs j x hxj
      have hxs : x.2.size ≤ 9223372036854775807 := hnmH.out x (List.mem_of_getElem? hxj)
      obtain ⟨K, hK⟩ : ∃ K, K = wr.heap.size := ⟨_, rfl⟩
      obtain ⟨W1, hW1⟩ : ∃ W1, W1 = wr.alloc (.cells #[.int .i64 x.1, .string x.2] 30) := ⟨_, rfl⟩
      have b1 : Below wr.heap.size wr W1.drew := by rw [hW1]; exact ((Below.refl _ wr).alloc (Nat.le_refl _) _).drew
      have x1 : W1.drew.cell? ⟨K, 0, none⟩ = some (.int .i64 x.1) := by rw [hW1, hK]; simp [go_sem]
      have x2 : W1.drew.cell? ⟨K, 1, none⟩ = some (.string x.2) := by rw [hW1, hK]; simp [go_sem]
      have G1 := hG.out.below b1
      have c1 := G1.cells.1
      obtain ⟨y, r⟩ := G1.look x.2 hxs
      have bW : Hid (Below w.heap.size w W1.drew) := G1.bl
      have hW1H : Hid (wr.alloc (.cells #[.int .i64 x.1, .string x.2] 30) = W1 ∧ wr.heap.size = K) := ⟨hW1.symm, hK.symm⟩
      obtain ⟨bv, hbv⟩ : ∃ bv, kn (l.take j) x.2 = bv := ⟨_, rfl⟩
      rw [hbv] at r
      cases bv with
      | true =>
        have sS : Hid (W1.drew.cell? ⟨hp, 1, none⟩ = some (.map (some mb)) ∧ W1.drew.cell? ⟨K, 1, none⟩ = some (.string x.2) ∧ (Instr.lookup 51 (.map (some mb)) (.string x.2) true).run Tryz.prog W1.drew = .ok (.tuple #[.int .i64 y, .bool true]) W1.drew) := ⟨c1, x2, r⟩
        have kN : Hid (∀ W, Calls Tryz.prog 20 #[.int .i64 5] W fun e w' => e = .returned (.iface 41 (.int .i64 5)) ∧ w' = W) := fnew_any 5 (by decide)
        have kI : Hid (∀ W, Calls Tryz.prog 19 #[.int .i64 (j : Int), .iface 41 (.int .i64 5)] W fun e w' => e = .returned (.iface 71 (.agg #[.int .i64 (j : Int), .iface 41 (.int .i64 5)])) ∧ w' = W) := fin_any j 5
        have fin : Hid (QQ (.returned (.tuple #[.pointer none, .iface 71 (.agg #[.int .i64 (j : Int), .iface 41 (.int .i64 5)])])) W1.drew) := RER2.out _ j hj (by rw [← hx]; exact hbv) hKK.out bW.out
        clear G1 c1 r x1 x2 b1 hbv hxs hcs hin2 hxj hjl hx hG RES2 RER2 bW hK hW1
        go_wp2_with fail
        rw [hW1H.out.1, hW1H.out.2]
        clear hW1H e1 e2
        refine wp_region_noPanic ?_
        refine wp_region_held_drew (S := fun W => W.cell? ⟨hp, 1, none⟩ = some (.map (some mb)) ∧ W.cell? ⟨K, 1, none⟩ = some (.string x.2) ∧ (Instr.lookup 51 (.map (some mb)) (.string x.2) true).run Tryz.prog W = .ok (.tuple #[.int .i64 y, .bool true]) W) (by kernel_rfl) sS.out (fun hHeld => ?_)
        refine wpAnyH_take (i := 0) (oi := _) (v := ?_) rfl (by kernel_rfl) (by kernel_rfl) (by kernel_rfl) (fun _ _ _ h => h) (Or.inl ⟨by rfl, ?_⟩) (by assumption) ?_
        rotate_left 1
        · (intro w0 hSw; (try dsimp only at hSw); obtain ⟨s1, s2, s3⟩ := hSw; go_simp; try with_reducible rfl)
        (try simp only [List.getElem_toArray, List.getElem_cons_succ, List.getElem_cons_zero]); (try simp only [Act.put, List.setIfInBounds_toArray, List.set_cons_zero, List.set_cons_succ])
        refine wpAnyH_take (i := 1) (oi := _) (v := ?_) rfl (by kernel_rfl) (by kernel_rfl) (by kernel_rfl) (fun _ _ _ h => h) (Or.inl ⟨by rfl, ?_⟩) (by assumption) ?_
        rotate_left 1
        · (intro w0 hSw; (try dsimp only at hSw); obtain ⟨s1, s2, s3⟩ := hSw; go_simp; try with_reducible rfl)
        (try simp only [List.getElem_toArray, List.getElem_cons_succ, List.getElem_cons_zero]); (try simp only [Act.put, List.setIfInBounds_toArray, List.set_cons_zero, List.set_cons_succ])
        refine wpAnyH_take (i := 2) (oi := _) (v := ?_) rfl (by kernel_rfl) (by kernel_rfl) (by kernel_rfl) (fun _ _ _ h => h) (Or.inl ⟨by rfl, ?_⟩) (by assumption) ?_
        rotate_left 1
        · (intro w0 hSw; (try dsimp only at hSw); obtain ⟨s1, s2, s3⟩ := hSw; go_simp; try with_reducible rfl)
        (try simp only [List.getElem_toArray, List.getElem_cons_succ, List.getElem_cons_zero]); (try simp only [Act.put, List.setIfInBounds_toArray, List.set_cons_zero, List.set_cons_succ])
        refine wpAnyH_take (i := 3) (oi := _) (v := ?_) rfl (by kernel_rfl) (by kernel_rfl) (by kernel_rfl) (fun _ _ _ h => h) (Or.inl ⟨by rfl, ?_⟩) (by assumption) ?_
        rotate_left 1
        · (intro w0 hSw; (try dsimp only at hSw); obtain ⟨s1, s2, s3⟩ := hSw; go_simp; try with_reducible rfl)
        (try simp only [List.getElem_toArray, List.getElem_cons_succ, List.getElem_cons_zero]); (try simp only [Act.put, List.setIfInBounds_toArray, List.set_cons_zero, List.set_cons_succ])
        refine wpAnyH_take (i := 4) (oi := _) (v := ?_) rfl (by kernel_rfl) (by kernel_rfl) (by kernel_rfl) (fun _ _ _ h => h) (Or.inl ⟨by rfl, ?_⟩) (by assumption) ?_
        rotate_left 1
        · (intro w0 hSw; (try dsimp only at hSw); obtain ⟨s1, s2, s3⟩ := hSw; go_simp; try with_reducible rfl)
        (try simp only [List.getElem_toArray, List.getElem_cons_succ, List.getElem_cons_zero]); (try simp only [Act.put, List.setIfInBounds_toArray, List.set_cons_zero, List.set_cons_succ])
        refine wpAnyH_take (i := 5) (oi := _) (v := ?_) rfl (by kernel_rfl) (by kernel_rfl) (by kernel_rfl) (fun _ _ _ h => h) (Or.inl ⟨by rfl, ?_⟩) (by assumption) ?_
        rotate_left 1
        · (intro w0 hSw; (try dsimp only at hSw); obtain ⟨s1, s2, s3⟩ := hSw; go_simp; try with_reducible rfl)
        (try simp only [List.getElem_toArray, List.getElem_cons_succ, List.getElem_cons_zero]); (try simp only [Act.put, List.setIfInBounds_toArray, List.set_cons_zero, List.set_cons_succ])
        refine wpAnyH_take (i := 6) (oi := _) (v := ?_) rfl (by kernel_rfl) (by kernel_rfl) (by kernel_rfl) (fun _ _ _ h => h) (Or.inl ⟨by rfl, ?_⟩) (by assumption) ?_
        rotate_left 1
        · (intro w0 hSw; (try dsimp only at hSw); obtain ⟨s1, s2, s3⟩ := hSw; go_simp; try with_reducible rfl)
        (try simp only [List.getElem_toArray, List.getElem_cons_succ, List.getElem_cons_zero]); (try simp only [Act.put, List.setIfInBounds_toArray, List.set_cons_zero, List.set_cons_succ])
        refine wpAnyH_take (i := 7) (oi := _) (v := ?_) rfl (by kernel_rfl) (by kernel_rfl) (by kernel_rfl) (fun _ _ _ h => h) (Or.inl ⟨by rfl, ?_⟩) (by assumption) ?_
        rotate_left 1
        · (intro w0 hSw; (try dsimp only at hSw); obtain ⟨s1, s2, s3⟩ := hSw; go_simp; try with_reducible rfl)
        (try simp only [List.getElem_toArray, List.getElem_cons_succ, List.getElem_cons_zero]); (try simp only [Act.put, List.setIfInBounds_toArray, List.set_cons_zero, List.set_cons_succ])
        refine wpAnyH_take (i := 8) (oi := _) (v := ?_) rfl (by kernel_rfl) (by kernel_rfl) (by kernel_rfl) (fun _ _ _ h => h) (Or.inl ⟨by rfl, ?_⟩) (by assumption) ?_
        rotate_left 1
        · (intro w0 hSw; (try dsimp only at hSw); obtain ⟨s1, s2, s3⟩ := hSw; go_simp; try with_reducible rfl)
        (try simp only [List.getElem_toArray, List.getElem_cons_succ, List.getElem_cons_zero]); (try simp only [Act.put, List.setIfInBounds_toArray, List.set_cons_zero, List.set_cons_succ])
        refine wpAnyH_take (i := 9) (oi := _) (v := ?_) rfl (by kernel_rfl) (by kernel_rfl) (by kernel_rfl) (fun _ _ _ h => h) (Or.inl ⟨by rfl, ?_⟩) (by assumption) ?_
        rotate_left 1
        · (intro w0 hSw; (try dsimp only at hSw); obtain ⟨s1, s2, s3⟩ := hSw; go_simp; try with_reducible rfl)
        (try simp only [List.getElem_toArray, List.getElem_cons_succ, List.getElem_cons_zero]); (try simp only [Act.put, List.setIfInBounds_toArray, List.set_cons_zero, List.set_cons_succ])
        refine wpAnyH_take (i := 10) (oi := _) (v := ?_) rfl (by kernel_rfl) (by kernel_rfl) (by kernel_rfl) (fun _ _ _ h => h) (Or.inl ⟨by rfl, ?_⟩) (by assumption) ?_
        rotate_left 1
        · (intro w0 hSw; (try dsimp only at hSw); obtain ⟨s1, s2, s3⟩ := hSw; go_simp; try with_reducible rfl)
        (try simp only [List.getElem_toArray, List.getElem_cons_succ, List.getElem_cons_zero]); (try simp only [Act.put, List.setIfInBounds_toArray, List.set_cons_zero, List.set_cons_succ])
        refine wpAnyH_take (i := 11) (oi := _) (v := ?_) rfl (by kernel_rfl) (by kernel_rfl) (by kernel_rfl) (fun _ _ _ h => h) (Or.inl ⟨by rfl, ?_⟩) (by assumption) ?_
        rotate_left 1
        · (intro w0 hSw; (try dsimp only at hSw); obtain ⟨s1, s2, s3⟩ := hSw; go_simp; try with_reducible rfl)
        (try simp only [List.getElem_toArray, List.getElem_cons_succ, List.getElem_cons_zero]); (try simp only [Act.put, List.setIfInBounds_toArray, List.set_cons_zero, List.set_cons_succ])
        refine wpAnyH_done (by kernel_rfl) ?_ _
        refine NoPanic.normal ?_
        clear sS hHeld
        go_wp2_with fail
        refine Calls.mono (kN.out _) ?_
        rintro e w2 ⟨rfl, hw2⟩
        subst hw2
        go_wp2_with fail
        refine Calls.mono (kI.out _) ?_
        rintro e w2 ⟨rfl, hw2⟩
        subst hw2
        go_wp2_with fail
        simp [bodyPost, results, Tryz.results9, go_sem]
        exact fin.out
      | false =>
        have sS : Hid (W1.drew.cell? ⟨hp, 1, none⟩ = some (.map (some mb)) ∧ W1.drew.cell? ⟨K, 1, none⟩ = some (.string x.2) ∧ (Instr.lookup 51 (.map (some mb)) (.string x.2) true).run Tryz.prog W1.drew = .ok (.tuple #[.int .i64 y, .bool false]) W1.drew) := ⟨c1, x2, r⟩
        have NX : Hid (∀ i, i < j + 1 → kn (l.take i) (atE l i).2 = false) := fun i hi => by
          by_cases e : i = j
          · rw [e, ← hx]; exact hbv
          · exact hKK.out i (by omega)
        have CP : Hid (Calls Tryz.prog 21 #[.pointer (some ⟨hp, 0, none⟩), eV x] W1.drew fun e w' => e = .returned undef ∧ GB w hp mb most (l.take (j + 1)) 0 w') := by
          have := G1.push x hxs hbv (by rw [List.length_take]; omega)
          rw [show l.take j ++ [x] = l.take (j + 1) by rw [List.take_add_one, hxj]; rfl] at this
          exact this
        unfold eV at CP
        clear G1 c1 r b1 hbv hxs hcs hin2 hxj hjl hx hG RES2 RER2 bW hK hW1
        go_wp2_with fail
        rw [hW1H.out.1, hW1H.out.2]
        clear hW1H e1 e2
        refine wp_region_noPanic ?_
        refine wp_region_held_drew (S := fun W => W.cell? ⟨hp, 1, none⟩ = some (.map (some mb)) ∧ W.cell? ⟨K, 1, none⟩ = some (.string x.2) ∧ (Instr.lookup 51 (.map (some mb)) (.string x.2) true).run Tryz.prog W = .ok (.tuple #[.int .i64 y, .bool false]) W) (by kernel_rfl) sS.out (fun hHeld => ?_)
        refine wpAnyH_take (i := 0) (oi := _) (v := ?_) rfl (by kernel_rfl) (by kernel_rfl) (by kernel_rfl) (fun _ _ _ h => h) (Or.inl ⟨by rfl, ?_⟩) (by assumption) ?_
        rotate_left 1
        · (intro w0 hSw; (try dsimp only at hSw); obtain ⟨s1, s2, s3⟩ := hSw; go_simp; try with_reducible rfl)
        (try simp only [List.getElem_toArray, List.getElem_cons_succ, List.getElem_cons_zero]); (try simp only [Act.put, List.setIfInBounds_toArray, List.set_cons_zero, List.set_cons_succ])
        refine wpAnyH_take (i := 1) (oi := _) (v := ?_) rfl (by kernel_rfl) (by kernel_rfl) (by kernel_rfl) (fun _ _ _ h => h) (Or.inl ⟨by rfl, ?_⟩) (by assumption) ?_
        rotate_left 1
        · (intro w0 hSw; (try dsimp only at hSw); obtain ⟨s1, s2, s3⟩ := hSw; go_simp; try with_reducible rfl)
        (try simp only [List.getElem_toArray, List.getElem_cons_succ, List.getElem_cons_zero]); (try simp only [Act.put, List.setIfInBounds_toArray, List.set_cons_zero, List.set_cons_succ])
        refine wpAnyH_take (i := 2) (oi := _) (v := ?_) rfl (by kernel_rfl) (by kernel_rfl) (by kernel_rfl) (fun _ _ _ h => h) (Or.inl ⟨by rfl, ?_⟩) (by assumption) ?_
        rotate_left 1
        · (intro w0 hSw; (try dsimp only at hSw); obtain ⟨s1, s2, s3⟩ := hSw; go_simp; try with_reducible rfl)
        (try simp only [List.getElem_toArray, List.getElem_cons_succ, List.getElem_cons_zero]); (try simp only [Act.put, List.setIfInBounds_toArray, List.set_cons_zero, List.set_cons_succ])
        refine wpAnyH_take (i := 3) (oi := _) (v := ?_) rfl (by kernel_rfl) (by kernel_rfl) (by kernel_rfl) (fun _ _ _ h => h) (Or.inl ⟨by rfl, ?_⟩) (by assumption) ?_
        rotate_left 1
        · (intro w0 hSw; (try dsimp only at hSw); obtain ⟨s1, s2, s3⟩ := hSw; go_simp; try with_reducible rfl)
        (try simp only [List.getElem_toArray, List.getElem_cons_succ, List.getElem_cons_zero]); (try simp only [Act.put, List.setIfInBounds_toArray, List.set_cons_zero, List.set_cons_succ])
        refine wpAnyH_take (i := 4) (oi := _) (v := ?_) rfl (by kernel_rfl) (by kernel_rfl) (by kernel_rfl) (fun _ _ _ h => h) (Or.inl ⟨by rfl, ?_⟩) (by assumption) ?_
        rotate_left 1
        · (intro w0 hSw; (try dsimp only at hSw); obtain ⟨s1, s2, s3⟩ := hSw; go_simp; try with_reducible rfl)
        (try simp only [List.getElem_toArray, List.getElem_cons_succ, List.getElem_cons_zero]); (try simp only [Act.put, List.setIfInBounds_toArray, List.set_cons_zero, List.set_cons_succ])
        refine wpAnyH_take (i := 5) (oi := _) (v := ?_) rfl (by kernel_rfl) (by kernel_rfl) (by kernel_rfl) (fun _ _ _ h => h) (Or.inl ⟨by rfl, ?_⟩) (by assumption) ?_
        rotate_left 1
        · (intro w0 hSw; (try dsimp only at hSw); obtain ⟨s1, s2, s3⟩ := hSw; go_simp; try with_reducible rfl)
        (try simp only [List.getElem_toArray, List.getElem_cons_succ, List.getElem_cons_zero]); (try simp only [Act.put, List.setIfInBounds_toArray, List.set_cons_zero, List.set_cons_succ])
        refine wpAnyH_take (i := 6) (oi := _) (v := ?_) rfl (by kernel_rfl) (by kernel_rfl) (by kernel_rfl) (fun _ _ _ h => h) (Or.inl ⟨by rfl, ?_⟩) (by assumption) ?_
        rotate_left 1
        · (intro w0 hSw; (try dsimp only at hSw); obtain ⟨s1, s2, s3⟩ := hSw; go_simp; try with_reducible rfl)
        (try simp only [List.getElem_toArray, List.getElem_cons_succ, List.getElem_cons_zero]); (try simp only [Act.put, List.setIfInBounds_toArray, List.set_cons_zero, List.set_cons_succ])
        refine wpAnyH_take (i := 7) (oi := _) (v := ?_) rfl (by kernel_rfl) (by kernel_rfl) (by kernel_rfl) (fun _ _ _ h => h) (Or.inl ⟨by rfl, ?_⟩) (by assumption) ?_
        rotate_left 1
        · (intro w0 hSw; (try dsimp only at hSw); obtain ⟨s1, s2, s3⟩ := hSw; go_simp; try with_reducible rfl)
        (try simp only [List.getElem_toArray, List.getElem_cons_succ, List.getElem_cons_zero]); (try simp only [Act.put, List.setIfInBounds_toArray, List.set_cons_zero, List.set_cons_succ])
        refine wpAnyH_take (i := 8) (oi := _) (v := ?_) rfl (by kernel_rfl) (by kernel_rfl) (by kernel_rfl) (fun _ _ _ h => h) (Or.inl ⟨by rfl, ?_⟩) (by assumption) ?_
        rotate_left 1
        · (intro w0 hSw; (try dsimp only at hSw); obtain ⟨s1, s2, s3⟩ := hSw; go_simp; try with_reducible rfl)
        (try simp only [List.getElem_toArray, List.getElem_cons_succ, List.getElem_cons_zero]); (try simp only [Act.put, List.setIfInBounds_toArray, List.set_cons_zero, List.set_cons_succ])
        refine wpAnyH_take (i := 9) (oi := _) (v := ?_) rfl (by kernel_rfl) (by kernel_rfl) (by kernel_rfl) (fun _ _ _ h => h) (Or.inl ⟨by rfl, ?_⟩) (by assumption) ?_
        rotate_left 1
        · (intro w0 hSw; (try dsimp only at hSw); obtain ⟨s1, s2, s3⟩ := hSw; go_simp; try with_reducible rfl)
        (try simp only [List.getElem_toArray, List.getElem_cons_succ, List.getElem_cons_zero]); (try simp only [Act.put, List.setIfInBounds_toArray, List.set_cons_zero, List.set_cons_succ])
        refine wpAnyH_take (i := 10) (oi := _) (v := ?_) rfl (by kernel_rfl) (by kernel_rfl) (by kernel_rfl) (fun _ _ _ h => h) (Or.inl ⟨by rfl, ?_⟩) (by assumption) ?_
        rotate_left 1
        · (intro w0 hSw; (try dsimp only at hSw); obtain ⟨s1, s2, s3⟩ := hSw; go_simp; try with_reducible rfl)
        (try simp only [List.getElem_toArray, List.getElem_cons_succ, List.getElem_cons_zero]); (try simp only [Act.put, List.setIfInBounds_toArray, List.set_cons_zero, List.set_cons_succ])
        refine wpAnyH_take (i := 11) (oi := _) (v := ?_) rfl (by kernel_rfl) (by kernel_rfl) (by kernel_rfl) (fun _ _ _ h => h) (Or.inl ⟨by rfl, ?_⟩) (by assumption) ?_
        rotate_left 1
        · (intro w0 hSw; (try dsimp only at hSw); obtain ⟨s1, s2, s3⟩ := hSw; go_simp; try with_reducible rfl)
        (try simp only [List.getElem_toArray, List.getElem_cons_succ, List.getElem_cons_zero]); (try simp only [Act.put, List.setIfInBounds_toArray, List.set_cons_zero, List.set_cons_succ])
        refine wpAnyH_done (by kernel_rfl) ?_ _
        refine NoPanic.normal ?_
        clear sS hHeld
        go_wp2_with fail
        refine Calls.mono CP.out ?_
        rintro e w2 ⟨rfl, gb⟩
        have G2 : Hid (GB w hp mb most (l.take (j + 1)) 0 w2) := gb
        clear gb CP x1 x2
        go_wp2_with fail
        exact ⟨⟨j + 1, rfl, hj, NX, G2⟩, by simp [intOf]; omega⟩
    · obtain rfl : j = n := by omega
      have jI : ¬ (j : Int) < (j : Int) := Int.lt_irrefl _
      have G2 : Hid (GB w hp mb most l 0 wr) := by have := hG.out; rw [hlnH.out, List.take_length] at this; exact this
      clear hG hj
      go_wp2_with fail
      go_loopw [11] (fun v11 wr => ∃ (k m1 : Nat) (L1 : List Ent), v11 = .int .i64 ((k : Int) - 1) ∧ k ≤ j / 2 ∧ L1.length = j ∧ Hid (bldL (ahd most) (j / 2) (l, 0) = bldL (ahd most) k (L1, m1)) ∧ Hid (GB w hp mb most L1 m1 wr)) (fun v11 _ => (intOf v11 + 1).toNat)
      case atStart => exact ⟨j / 2, 0, l, rfl, Nat.le_refl _, hlnH.out.symm, rfl, G2⟩
      case round =>
        clear G2
        obtain ⟨k, m1, L1, rfl, hkj, hL1, hE, hG⟩ := hrel
        cases k with
        | zero =>
          have fin : Hid (QQ (.returned (.tuple #[.pointer (some ⟨hp, 0, none⟩), .nilIface])) wr) := RES2.out wr hKK.out (by rw [hE.out]; exact hG.out)
          clear hE hG RES2 RER2
          go_wp2_with fail
          exact fin.out
        | succ k =>
          have tot : m1 + (downL (ahd most) L1 k).2 ≤ 1099511627775 := by
            have h1 := bldL_ge (ahd most) k ((downL (ahd most) L1 k).1, m1 + (downL (ahd most) L1 k).2)
            have h2 := (bldL_few (ahd most) (j / 2) (l, 0) (by show j / 2 ≤ l.length; rw [← hlnH.out]; omega)).2
            have h3 := dbl_le l.length l.length (Nat.le_refl _)
            have h4 := hlnH.out
            rw [hE.out] at h2
            simp only [bldL] at h1 h2
            rw [h4] at h2
            omega
          have LE : (downL (ahd most) L1 k).1.length = j := by rw [downL_len (ahd most) _ L1 k (Nat.le_refl _)]; exact hL1
          have E2 : Hid (bldL (ahd most) (j / 2) (l, 0) = bldL (ahd most) k ((downL (ahd most) L1 k).1, m1 + (downL (ahd most) L1 k).2)) := hE.out
          have CD : Hid _ := (hG.out.below ((Below.refl _ wr).drew)).down k (by omega) (by omega)
          have c3 := hG.out.cells.2.1
          obtain ⟨d, hd⟩ : ∃ d, d = (downL (ahd most) L1 k).2 := ⟨_, rfl⟩
          obtain ⟨L2, hL2⟩ : ∃ L2, L2 = (downL (ahd most) L1 k).1 := ⟨_, rfl⟩
          rw [← hd] at tot E2 CD
          rw [← hL2] at LE E2 CD
          have kp : Hid (∀ w', GB w hp mb most L2 m1 w' → w'.cell? ⟨hp, 1, none⟩ = some (.map (some mb)) ∧ w'.cell? ⟨hp, 3, none⟩ = some (.int .i64 (m1 : Int)) ∧ w'.frozen? ⟨hp, 3, none⟩ = false) := fun w' g => g.cells
          have GM : Hid (∀ w', GB w hp mb most L2 m1 w' → GB w hp mb most L2 ((m1 + d : Nat) : Int) (w'.setCell ⟨hp, 3, none⟩ (.int .i64 ((m1 : Int) + (d : Int))))) := fun w' g => by
            rw [show (m1 : Int) + (d : Int) = ((m1 + d : Nat) : Int) by omega]
            exact g.moved _
          obtain ⟨ka, kb, kc, kd, ke, kf⟩ := nums_k k m1 d (by omega) (by omega)
          clear hE hG hd hL2 RES2 RER2 hL1 tot
          go_wp2_with fail
          refine wp_region_noPanic ?_
          refine wp_region_held_drew (S := fun W => True) (by kernel_rfl) trivial (fun hHeld => ?_)
          refine wpAnyH_take (i := 0) (oi := _) (v := ?_) rfl (by kernel_rfl) (by kernel_rfl) (by kernel_rfl) (fun _ _ _ h => h) (Or.inl ⟨by rfl, ?_⟩) (by assumption) ?_
          rotate_left 1
          · (intro w0 hSw; (try dsimp only at hSw); obtain _ := hSw; go_simp; try with_reducible rfl)
          (try simp only [List.getElem_toArray, List.getElem_cons_succ, List.getElem_cons_zero]); (try simp only [Act.put, List.setIfInBounds_toArray, List.set_cons_zero, List.set_cons_succ])
          refine wpAnyH_take (i := 1) (oi := _) (v := ?_) rfl (by kernel_rfl) (by kernel_rfl) (by kernel_rfl) (fun _ _ _ h => h) (Or.inl ⟨by rfl, ?_⟩) (by assumption) ?_
          rotate_left 1
          · (intro w0 hSw; (try dsimp only at hSw); obtain _ := hSw; go_simp; try with_reducible rfl)
          (try simp only [List.getElem_toArray, List.getElem_cons_succ, List.getElem_cons_zero]); (try simp only [Act.put, List.setIfInBounds_toArray, List.set_cons_zero, List.set_cons_succ])
          refine wpAnyH_take (i := 2) (oi := _) (v := ?_) rfl (by kernel_rfl) (by kernel_rfl) (by kernel_rfl) (fun _ _ _ h => h) (Or.inl ⟨by rfl, ?_⟩) (by assumption) ?_
          rotate_left 1
          · (intro w0 hSw; (try dsimp only at hSw); obtain _ := hSw; go_simp; try with_reducible rfl)
          (try simp only [List.getElem_toArray, List.getElem_cons_succ, List.getElem_cons_zero]); (try simp only [Act.put, List.setIfInBounds_toArray, List.set_cons_zero, List.set_cons_succ])
          refine wpAnyH_take (i := 4) (oi := _) (v := ?_) rfl (by kernel_rfl) (by kernel_rfl) (by kernel_rfl) (fun _ _ _ h => h) (Or.inl ⟨by rfl, ?_⟩) (by assumption) ?_
          rotate_left 1
          · (intro w0 hSw; (try dsimp only at hSw); obtain _ := hSw; go_simp; try with_reducible rfl)
          (try simp only [List.getElem_toArray, List.getElem_cons_succ, List.getElem_cons_zero]); (try simp only [Act.put, List.setIfInBounds_toArray, List.set_cons_zero, List.set_cons_succ])
          refine wpAnyH_take (i := 5) (oi := _) (v := ?_) rfl (by kernel_rfl) (by kernel_rfl) (by kernel_rfl) (fun _ _ _ h => h) (Or.inl ⟨by rfl, ?_⟩) (by assumption) ?_
          rotate_left 1
          · (intro w0 hSw; (try dsimp only at hSw); obtain _ := hSw; go_simp; try with_reducible rfl)
          (try simp only [List.getElem_toArray, List.getElem_cons_succ, List.getElem_cons_zero]); (try simp only [Act.put, List.setIfInBounds_toArray, List.set_cons_zero, List.set_cons_succ])
          refine wpAnyH_ready (rs := [3, 6]) (by kernel_rfl) (by simp) ?_
          refine AllReadyH.cons (o := _) rfl (fun K1 hK => ?_) ?_
          · go_simp
            try dsimp only
            refine hK _ _ trivial (fun hHeld => ?_)
            clear hK K1
            (try simp only [List.getElem_toArray, List.getElem_cons_succ, List.getElem_cons_zero]); (try simp only [Act.put, List.setIfInBounds_toArray, List.set_cons_zero, List.set_cons_succ])
            refine wpAnyH_ready (rs := [6]) (by kernel_rfl) (by simp) ?_
            refine AllReadyH.cons (o := _) rfl (fun K1 hK => ?_) AllReadyH.nil
            go_simp
            refine Calls.mono CD.out ?_
            rintro e w' ⟨rfl, BB⟩
            obtain ⟨d1, d3, dz⟩ := kp.out w' BB
            have G4 : Hid _ := GM.out w' BB
            clear BB
            try dsimp only
            refine hK _ _ trivial (fun hHeld => ?_)
            clear hK K1
            (try simp only [List.getElem_toArray, List.getElem_cons_succ, List.getElem_cons_zero]); (try simp only [Act.put, List.setIfInBounds_toArray, List.set_cons_zero, List.set_cons_succ])
            refine wpAnyH_take (i := 7) (oi := _) (v := ?_) rfl (by kernel_rfl) (by kernel_rfl) (by kernel_rfl) (fun _ _ _ h => h) (Or.inl ⟨by rfl, ?_⟩) (by assumption) ?_
            rotate_left 1
            · (intro w0 hSw; (try dsimp only at hSw); obtain _ := hSw; go_simp; try with_reducible rfl)
            (try simp only [List.getElem_toArray, List.getElem_cons_succ, List.getElem_cons_zero]); (try simp only [Act.put, List.setIfInBounds_toArray, List.set_cons_zero, List.set_cons_succ])
            refine wpAnyH_take (i := 8) (oi := _) (v := ?_) rfl (by kernel_rfl) (by kernel_rfl) (by kernel_rfl) (fun _ _ _ h => h) (Or.inl ⟨by rfl, ?_⟩) (by assumption) ?_
            rotate_left 1
            · (intro w0 hSw; (try dsimp only at hSw); obtain _ := hSw; go_simp; try with_reducible rfl)
            (try simp only [List.getElem_toArray, List.getElem_cons_succ, List.getElem_cons_zero]); (try simp only [Act.put, List.setIfInBounds_toArray, List.set_cons_zero, List.set_cons_succ])
            refine wpAnyH_take (i := 9) (oi := _) (v := ?_) rfl (by kernel_rfl) (by kernel_rfl) (by kernel_rfl) (fun _ _ _ h => h) (Or.inl ⟨by rfl, ?_⟩) (by assumption) ?_
            rotate_left 1
            · (intro w0 hSw; (try dsimp only at hSw); obtain _ := hSw; go_simp; try with_reducible rfl)
            (try simp only [List.getElem_toArray, List.getElem_cons_succ, List.getElem_cons_zero]); (try simp only [Act.put, List.setIfInBounds_toArray, List.set_cons_zero, List.set_cons_succ])
            refine wpAnyH_ready (rs := [10]) (by kernel_rfl) (by simp) ?_
            refine AllReadyH.cons (o := _) rfl (fun K1 hK => ?_) AllReadyH.nil
            go_simp
            try dsimp only
            refine hK _ _ trivial (fun hHeld => ?_)
            clear hK K1
            (try simp only [List.getElem_toArray, List.getElem_cons_succ, List.getElem_cons_zero]); (try simp only [Act.put, List.setIfInBounds_toArray, List.set_cons_zero, List.set_cons_succ])
            refine wpAnyH_done (by kernel_rfl) ?_ _
            refine NoPanic.normal ?_
            clear CD kp GM c3 d1 d3 dz hHeld
            go_wp2_with fail
            exact ⟨⟨k, m1 + d, L2, by rfl, by omega, LE, E2, G4⟩, by first | (simp [intOf]; done) | (simp [intOf]; omega)⟩
          refine AllReadyH.cons (o := _) rfl (fun K1 hK => ?_) AllReadyH.nil
          go_simp
          refine Calls.mono CD.out ?_
          rintro e w' ⟨rfl, BB⟩
          obtain ⟨d1, d3, dz⟩ := kp.out w' BB
          have G4 : Hid _ := GM.out w' BB
          clear BB
          try dsimp only
          refine hK _ _ trivial (fun hHeld => ?_)
          clear hK K1
          (try simp only [List.getElem_toArray, List.getElem_cons_succ, List.getElem_cons_zero]); (try simp only [Act.put, List.setIfInBounds_toArray, List.set_cons_zero, List.set_cons_succ])
          refine wpAnyH_ready (rs := [3]) (by kernel_rfl) (by simp) ?_
          refine AllReadyH.cons (o := _) rfl (fun K1 hK => ?_) AllReadyH.nil
          go_simp
          try dsimp only
          refine hK _ _ trivial (fun hHeld => ?_)
          clear hK K1
          (try simp only [List.getElem_toArray, List.getElem_cons_succ, List.getElem_cons_zero]); (try simp only [Act.put, List.setIfInBounds_toArray, List.set_cons_zero, List.set_cons_succ])
          refine wpAnyH_take (i := 7) (oi := _) (v := ?_) rfl (by kernel_rfl) (by kernel_rfl) (by kernel_rfl) (fun _ _ _ h => h) (Or.inl ⟨by rfl, ?_⟩) (by assumption) ?_
          rotate_left 1
          · (intro w0 hSw; (try dsimp only at hSw); obtain _ := hSw; go_simp; try with_reducible rfl)
          (try simp only [List.getElem_toArray, List.getElem_cons_succ, List.getElem_cons_zero]); (try simp only [Act.put, List.setIfInBounds_toArray, List.set_cons_zero, List.set_cons_succ])
          refine wpAnyH_take (i := 8) (oi := _) (v := ?_) rfl (by kernel_rfl) (by kernel_rfl) (by kernel_rfl) (fun _ _ _ h => h) (Or.inl ⟨by rfl, ?_⟩) (by assumption) ?_
          rotate_left 1
          · (intro w0 hSw; (try dsimp only at hSw); obtain _ := hSw; go_simp; try with_reducible rfl)
          (try simp only [List.getElem_toArray, List.getElem_cons_succ, List.getElem_cons_zero]); (try simp only [Act.put, List.setIfInBounds_toArray, List.set_cons_zero, List.set_cons_succ])
          refine wpAnyH_take (i := 9) (oi := _) (v := ?_) rfl (by kernel_rfl) (by kernel_rfl) (by kernel_rfl) (fun _ _ _ h => h) (Or.inl ⟨by rfl, ?_⟩) (by assumption) ?_
          rotate_left 1
          · (intro w0 hSw; (try dsimp only at hSw); obtain _ := hSw; go_simp; try with_reducible rfl)
          (try simp only [List.getElem_toArray, List.getElem_cons_succ, List.getElem_cons_zero]); (try simp only [Act.put, List.setIfInBounds_toArray, List.set_cons_zero, List.set_cons_succ])
          refine wpAnyH_ready (rs := [10]) (by kernel_rfl) (by simp) ?_
          refine AllReadyH.cons (o := _) rfl (fun K1 hK => ?_) AllReadyH.nil
          go_simp
          try dsimp only
          refine hK _ _ trivial (fun hHeld => ?_)
          clear hK K1
          (try simp only [List.getElem_toArray, List.getElem_cons_succ, List.getElem_cons_zero]); (try simp only [Act.put, List.setIfInBounds_toArray, List.set_cons_zero, List.set_cons_succ])
          refine wpAnyH_done (by kernel_rfl) ?_ _
          refine NoPanic.normal ?_
          clear CD kp GM c3 d1 d3 dz hHeld
          go_wp2_with fail
          exact ⟨⟨k, m1 + d, L2, by rfl, by omega, LE, E2, G4⟩, by first | (simp [intOf]; done) | (simp [intOf]; omega)⟩
end Go.Proofs.YtboacnpbicedfaaGreatDoor.Hp
