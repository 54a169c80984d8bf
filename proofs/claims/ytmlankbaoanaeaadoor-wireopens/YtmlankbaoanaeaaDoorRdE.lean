
import Derived.Test.YtmlankbaoanaeaaDoorRdC
namespace Go.Proofs.YtmlankbaoanaeaaDoor
open Go.RowKit
set_option linter.unusedVariables false
set_option linter.unusedSimpArgs false
theorem RO_err (bs : Nat → Nat) (len c : Nat) (hc : 0 < c) (h : openE bs len = c) (W : World) : RO bs len (.returned (.tuple #[.int .u8 0, .int .u64 0, .slice none 0 0, .int .i64 0, .agg #[.int .i64 (c : Nat), .int .i64 0, .int .i64 0, .bool false, .bool false]])) W := by
  unfold RO; rw [h, if_neg (by omega)]
set_option maxRecDepth 100000 in
set_option maxHeartbeats 4000000 in
theorem ropen_sum (b off len cap : Nat) (bs : Nat → Nat) (w : World) (hb : BytesAt w b off len bs) (hbk : b < w.heap.size) (h17 : 17 ≤ len) (hlen : len ≤ 140737488355327) (hlc : len ≤ cap) (hfitY : Hid (fitB bs 13 = false)) :
    Calls Tryd.prog 43 #[.slice (some ⟨b, off, none⟩) len cap] w fun e w' => RO bs len e w' ∧ Below w.heap.size w w' := by
  have hbs : ∀ i, i < len → bs i < 256 := fun i hi => (hb i hi).2
  have z1 := u32At_lt bs 1 (fun i hi => hbs i (by omega))
  have z5 := u32At_lt bs 5 (fun i hi => hbs i (by omega))
  have z9 := u32At_lt bs 9 (fun i hi => hbs i (by omega))
  have hI : ¬ (len : Int) < 17 := by omega
  have hwb : Hid _ := bad_start w
  have hbA : Hid (∀ wx, Below (w.heap.size + 1) (w.alloc (.cells #[.int .i64 0, .int .i64 0, .int .i64 0, .bool false, .bool false] 51)) wx → BytesAt wx b off len bs) := fun wx hx => (hb.below ((Below.refl _ w).alloc (Nat.le_refl _) (.cells #[.int .i64 0, .int .i64 0, .int .i64 0, .bool false, .bool false] 51)) hbk).below hx (by omega)
  have hb0 : BytesAt (w.alloc (.cells #[.int .i64 0, .int .i64 0, .int .i64 0, .bool false, .bool false] 51)) b off len bs := hb.below ((Below.refl _ w).alloc (Nat.le_refl _) (.cells #[.int .i64 0, .int .i64 0, .int .i64 0, .bool false, .bool false] 51)) hbk
  go_enter Tryd.func43, Tryd.ntmps43
  go_wp2_with fail
  refine (rdNew_any b off len cap bs _ hb0 (by simp; omega) (by omega) (by omega)).mono ?_
  rintro e w1 ⟨rfl, g, rcap, h1'⟩
  have h1 : RS (w.heap.size + 1) (w.alloc (.cells #[.int .i64 0, .int .i64 0, .int .i64 0, .bool false, .bool false] 51)) g len rcap 0 bs w1 := by simpa using h1'
  clear h1' hb0 hb hbk hI
  go_wp2_with fail
  refine (rdByte_any (w.heap.size + 1) _ g len rcap 0 bs _ h1 (by omega) (by omega)).mono ?_
  rintro e w2 ⟨rfl, h2⟩
  clear h1
  go_wp2_with fail
  refine (rdFix_any (w.heap.size + 1) _ g len rcap 1 bs _ h2 (by omega) (by omega)).mono ?_
  rintro e w3 ⟨rfl, h3⟩
  clear h2
  generalize hn1 : u32At bs 1 = size at *
  have hn1' : Hid _ := hn1
  clear hn1
  go_wp2_with fail
  refine (rdFix_any (w.heap.size + 1) _ g len rcap 5 bs _ h3 (by omega) (by omega)).mono ?_
  rintro e w4 ⟨rfl, h4⟩
  clear h3
  generalize hn5 : u32At bs 5 = n5 at *
  have hn5' : Hid _ := hn5
  clear hn5
  go_wp2_with fail
  refine (rdFix_any (w.heap.size + 1) _ g len rcap 9 bs _ h4 (by omega) (by omega)).mono ?_
  rintro e w5 ⟨rfl, h5⟩
  clear h4
  generalize hn9 : u32At bs 9 = n9 at *
  have hn9' : Hid _ := hn9
  clear hn9
  have wr1 : ((n5 : Int) * 4294967296 + (n9 : Int)) % 18446744073709551616 = (n5 : Int) * 4294967296 + (n9 : Int) := by omega
  obtain ⟨k13, hk13⟩ : ∃ k, k = crcTo bs 13 ^^^ 4294967295 := ⟨_, rfl⟩
  obtain ⟨s13, hs13⟩ : ∃ k, k = u32At bs 13 := ⟨_, rfl⟩
  have hc13 : Hid (∀ wx, BytesAt wx b off len bs → Calls Tryd.prog 39 #[.slice (some ⟨b, off, none⟩) 13 cap] wx fun e w' => e = .returned (.int .u32 (k13 : Int)) ∧ w' = wx) := fun wx hx => by rw [hk13]; exact crc_ref b off 13 cap bs wx (by omega) (fun i hi => hx i (by omega))
  have hf13 : Hid (∀ wx, RS (w.heap.size + 1) (w.alloc (.cells #[.int .i64 0, .int .i64 0, .int .i64 0, .bool false, .bool false] 51)) g len rcap 13 bs wx → Calls Tryd.prog 60 #[.pointer (some ⟨w.heap.size + 1, 0, none⟩)] wx fun e w' => e = .returned (.int .u32 (s13 : Int)) ∧ RS (w.heap.size + 1) (w.alloc (.cells #[.int .i64 0, .int .i64 0, .int .i64 0, .bool false, .bool false] 51)) g len rcap 17 bs w') := fun wx hx => by rw [hs13]; exact rdFix_any _ _ g len rcap 13 bs wx hx (by omega) (by omega)
  have hfit : Hid (fitB bs 13 = ((s13 : Int) == (k13 : Int))) := by unfold Hid fitB; rw [hk13, hs13]
  clear hk13 hs13
  have l13 : (13 : Int) ≤ (cap : Int) := by omega
  clear hbs
  have hc1' : ¬ len < 17 := by omega
  have hc1 : Hid _ := hc1'
  clear hc1'
  have c2b : ((s13 : Int) == (k13 : Int)) = false := hfit.out.symm.trans hfitY.out
  have c2I : ¬ (s13 : Int) = (k13 : Int) := beq_eq_false_iff_ne.1 c2b
  clear hfit
  go_wp2_with fail
  go_region_with (first
    | (go_at_call 60; refine Calls.mono (hf13.out _ h5.drew) ?_; rintro e w6 ⟨rfl, h6⟩)
    | (go_at_call 39; refine Calls.mono (hc13.out _ (hbA.out _ (by first | exact h6.b | exact h5.drew.b))) ?_; rintro e w7 ⟨rfl, hw7⟩))
  all_goals
    have hw8 := hw7.symm
    subst hw8
    have s6 := h6.sz
    clear hf13 hc13 h5
    go_wp2_with fail
    refine (rnew_any 32 _).mono ?_
    rintro e x1 ⟨rfl, hx1⟩
    have hx2 : Below (w.heap.size + 1) (w.alloc (.cells #[.int .i64 0, .int .i64 0, .int .i64 0, .bool false, .bool false] 51)) x1 := (h6.b).trans (hx1.mono (by first | omega | (simp; omega)))
    have hBB : Below w.heap.size w x1 := (below_new (Below.refl _ w) _).trans (hx2.mono (by omega))
    obtain ⟨z0, z1, z2, z3, z4, y0, y1, y2, y3, y4⟩ := hwb.out.below hx2
    have hRO : Hid (∀ W, RO bs len (.returned (.tuple #[.int .u8 0, .int .u64 0, .slice none 0 0, .int .i64 0, .agg #[.int .i64 32, .int .i64 0, .int .i64 0, .bool false, .bool false]])) W) := fun W => RO_err bs len 32 (by omega) (by unfold openE; rw [if_neg hc1.out, if_pos hfitY.out]) W
    go_wp2_with fail
    simp [bodyPost, results, Tryd.results43, go_sem, z0, z1, z2, z3, z4, y0, y1, y2, y3, y4]
    exact ⟨hRO.out _, bad_set hBB _ _ _ _ _⟩
set_option maxRecDepth 100000 in
set_option maxHeartbeats 4000000 in
theorem ropen_big (b off len cap : Nat) (bs : Nat → Nat) (w : World) (hb : BytesAt w b off len bs) (hbk : b < w.heap.size) (h17 : 17 ≤ len) (hlen : len ≤ 140737488355327) (hlc : len ≤ cap) (hfitY : Hid (fitB bs 13 = true)) (hcc3 : Hid (67108864 < u32At bs 1)) :
    Calls Tryd.prog 43 #[.slice (some ⟨b, off, none⟩) len cap] w fun e w' => RO bs len e w' ∧ Below w.heap.size w w' := by
  have hbs : ∀ i, i < len → bs i < 256 := fun i hi => (hb i hi).2
  have z1 := u32At_lt bs 1 (fun i hi => hbs i (by omega))
  have z5 := u32At_lt bs 5 (fun i hi => hbs i (by omega))
  have z9 := u32At_lt bs 9 (fun i hi => hbs i (by omega))
  have hI : ¬ (len : Int) < 17 := by omega
  have hwb : Hid _ := bad_start w
  have hbA : Hid (∀ wx, Below (w.heap.size + 1) (w.alloc (.cells #[.int .i64 0, .int .i64 0, .int .i64 0, .bool false, .bool false] 51)) wx → BytesAt wx b off len bs) := fun wx hx => (hb.below ((Below.refl _ w).alloc (Nat.le_refl _) (.cells #[.int .i64 0, .int .i64 0, .int .i64 0, .bool false, .bool false] 51)) hbk).below hx (by omega)
  have hb0 : BytesAt (w.alloc (.cells #[.int .i64 0, .int .i64 0, .int .i64 0, .bool false, .bool false] 51)) b off len bs := hb.below ((Below.refl _ w).alloc (Nat.le_refl _) (.cells #[.int .i64 0, .int .i64 0, .int .i64 0, .bool false, .bool false] 51)) hbk
  go_enter Tryd.func43, Tryd.ntmps43
  go_wp2_with fail
  refine (rdNew_any b off len cap bs _ hb0 (by simp; omega) (by omega) (by omega)).mono ?_
  rintro e w1 ⟨rfl, g, rcap, h1'⟩
  have h1 : RS (w.heap.size + 1) (w.alloc (.cells #[.int .i64 0, .int .i64 0, .int .i64 0, .bool false, .bool false] 51)) g len rcap 0 bs w1 := by simpa using h1'
  clear h1' hb0 hb hbk hI
  go_wp2_with fail
  refine (rdByte_any (w.heap.size + 1) _ g len rcap 0 bs _ h1 (by omega) (by omega)).mono ?_
  rintro e w2 ⟨rfl, h2⟩
  clear h1
  go_wp2_with fail
  refine (rdFix_any (w.heap.size + 1) _ g len rcap 1 bs _ h2 (by omega) (by omega)).mono ?_
  rintro e w3 ⟨rfl, h3⟩
  clear h2
  generalize hn1 : u32At bs 1 = size at *
  have hn1' : Hid _ := hn1
  clear hn1
  have c3 := hcc3.out
  clear hcc3
  go_wp2_with fail
  refine (rdFix_any (w.heap.size + 1) _ g len rcap 5 bs _ h3 (by omega) (by omega)).mono ?_
  rintro e w4 ⟨rfl, h4⟩
  clear h3
  generalize hn5 : u32At bs 5 = n5 at *
  have hn5' : Hid _ := hn5
  clear hn5
  go_wp2_with fail
  refine (rdFix_any (w.heap.size + 1) _ g len rcap 9 bs _ h4 (by omega) (by omega)).mono ?_
  rintro e w5 ⟨rfl, h5⟩
  clear h4
  generalize hn9 : u32At bs 9 = n9 at *
  have hn9' : Hid _ := hn9
  clear hn9
  have wr1 : ((n5 : Int) * 4294967296 + (n9 : Int)) % 18446744073709551616 = (n5 : Int) * 4294967296 + (n9 : Int) := by omega
  obtain ⟨k13, hk13⟩ : ∃ k, k = crcTo bs 13 ^^^ 4294967295 := ⟨_, rfl⟩
  obtain ⟨s13, hs13⟩ : ∃ k, k = u32At bs 13 := ⟨_, rfl⟩
  have hc13 : Hid (∀ wx, BytesAt wx b off len bs → Calls Tryd.prog 39 #[.slice (some ⟨b, off, none⟩) 13 cap] wx fun e w' => e = .returned (.int .u32 (k13 : Int)) ∧ w' = wx) := fun wx hx => by rw [hk13]; exact crc_ref b off 13 cap bs wx (by omega) (fun i hi => hx i (by omega))
  have hf13 : Hid (∀ wx, RS (w.heap.size + 1) (w.alloc (.cells #[.int .i64 0, .int .i64 0, .int .i64 0, .bool false, .bool false] 51)) g len rcap 13 bs wx → Calls Tryd.prog 60 #[.pointer (some ⟨w.heap.size + 1, 0, none⟩)] wx fun e w' => e = .returned (.int .u32 (s13 : Int)) ∧ RS (w.heap.size + 1) (w.alloc (.cells #[.int .i64 0, .int .i64 0, .int .i64 0, .bool false, .bool false] 51)) g len rcap 17 bs w') := fun wx hx => by rw [hs13]; exact rdFix_any _ _ g len rcap 13 bs wx hx (by omega) (by omega)
  have hfit : Hid (fitB bs 13 = ((s13 : Int) == (k13 : Int))) := by unfold Hid fitB; rw [hk13, hs13]
  clear hk13 hs13
  have l13 : (13 : Int) ≤ (cap : Int) := by omega
  clear hbs
  have hc1' : ¬ len < 17 := by omega
  have hc1 : Hid _ := hc1'
  clear hc1'
  have c2' : ((s13 : Int) == (k13 : Int)) = true := hfit.out.symm.trans hfitY.out
  have c2 : s13 = k13 := by have := eq_of_beq c2'; omega
  clear c2' hfit
  subst c2
  go_wp2_with fail
  go_region_with (first
    | (go_at_call 60; refine Calls.mono (hf13.out _ h5.drew) ?_; rintro e w6 ⟨rfl, h6⟩)
    | (go_at_call 39; refine Calls.mono (hc13.out _ (hbA.out _ (by first | exact h6.b | exact h5.drew.b))) ?_; rintro e w7 ⟨rfl, hw7⟩))
  all_goals
    have hw8 := hw7.symm
    subst hw8
    have s6 := h6.sz
    clear hf13 hc13 h5
    have c3I : (67108864 : Int) < (size : Int) := by omega
    go_wp2_with fail
    refine (rnew_any 6 _).mono ?_
    rintro e x1 ⟨rfl, hx1⟩
    have hx2 : Below (w.heap.size + 1) (w.alloc (.cells #[.int .i64 0, .int .i64 0, .int .i64 0, .bool false, .bool false] 51)) x1 := (h6.b).trans (hx1.mono (by first | omega | (simp; omega)))
    have hBB : Below w.heap.size w x1 := (below_new (Below.refl _ w) _).trans (hx2.mono (by omega))
    obtain ⟨z0, z1, z2, z3, z4, y0, y1, y2, y3, y4⟩ := hwb.out.below hx2
    have hRO : Hid (∀ W, RO bs len (.returned (.tuple #[.int .u8 0, .int .u64 0, .slice none 0 0, .int .i64 0, .agg #[.int .i64 6, .int .i64 0, .int .i64 0, .bool false, .bool false]])) W) := fun W => RO_err bs len 6 (by omega) (by unfold openE; rw [if_neg hc1.out, if_neg (by rw [hfitY.out]; decide), hn1'.out, if_pos c3]) W
    go_wp2_with fail
    simp [bodyPost, results, Tryd.results43, go_sem, z0, z1, z2, z3, z4, y0, y1, y2, y3, y4]
    exact ⟨hRO.out _, bad_set hBB _ _ _ _ _⟩
set_option maxRecDepth 100000 in
set_option maxHeartbeats 4000000 in
theorem ropen_cut (b off len cap : Nat) (bs : Nat → Nat) (w : World) (hb : BytesAt w b off len bs) (hbk : b < w.heap.size) (h17 : 17 ≤ len) (hlen : len ≤ 140737488355327) (hlc : len ≤ cap) (hfitY : Hid (fitB bs 13 = true)) (hcc3 : Hid (¬ 67108864 < u32At bs 1)) (hcc4 : Hid (len < 21 + u32At bs 1)) :
    Calls Tryd.prog 43 #[.slice (some ⟨b, off, none⟩) len cap] w fun e w' => RO bs len e w' ∧ Below w.heap.size w w' := by
  have hbs : ∀ i, i < len → bs i < 256 := fun i hi => (hb i hi).2
  have z1 := u32At_lt bs 1 (fun i hi => hbs i (by omega))
  have z5 := u32At_lt bs 5 (fun i hi => hbs i (by omega))
  have z9 := u32At_lt bs 9 (fun i hi => hbs i (by omega))
  have hI : ¬ (len : Int) < 17 := by omega
  have hwb : Hid _ := bad_start w
  have hbA : Hid (∀ wx, Below (w.heap.size + 1) (w.alloc (.cells #[.int .i64 0, .int .i64 0, .int .i64 0, .bool false, .bool false] 51)) wx → BytesAt wx b off len bs) := fun wx hx => (hb.below ((Below.refl _ w).alloc (Nat.le_refl _) (.cells #[.int .i64 0, .int .i64 0, .int .i64 0, .bool false, .bool false] 51)) hbk).below hx (by omega)
  have hb0 : BytesAt (w.alloc (.cells #[.int .i64 0, .int .i64 0, .int .i64 0, .bool false, .bool false] 51)) b off len bs := hb.below ((Below.refl _ w).alloc (Nat.le_refl _) (.cells #[.int .i64 0, .int .i64 0, .int .i64 0, .bool false, .bool false] 51)) hbk
  go_enter Tryd.func43, Tryd.ntmps43
  go_wp2_with fail
  refine (rdNew_any b off len cap bs _ hb0 (by simp; omega) (by omega) (by omega)).mono ?_
  rintro e w1 ⟨rfl, g, rcap, h1'⟩
  have h1 : RS (w.heap.size + 1) (w.alloc (.cells #[.int .i64 0, .int .i64 0, .int .i64 0, .bool false, .bool false] 51)) g len rcap 0 bs w1 := by simpa using h1'
  clear h1' hb0 hb hbk hI
  go_wp2_with fail
  refine (rdByte_any (w.heap.size + 1) _ g len rcap 0 bs _ h1 (by omega) (by omega)).mono ?_
  rintro e w2 ⟨rfl, h2⟩
  clear h1
  go_wp2_with fail
  refine (rdFix_any (w.heap.size + 1) _ g len rcap 1 bs _ h2 (by omega) (by omega)).mono ?_
  rintro e w3 ⟨rfl, h3⟩
  clear h2
  generalize hn1 : u32At bs 1 = size at *
  have hn1' : Hid _ := hn1
  clear hn1
  have c3 := hcc3.out
  have c4 := hcc4.out
  clear hcc3 hcc4
  go_wp2_with fail
  refine (rdFix_any (w.heap.size + 1) _ g len rcap 5 bs _ h3 (by omega) (by omega)).mono ?_
  rintro e w4 ⟨rfl, h4⟩
  clear h3
  generalize hn5 : u32At bs 5 = n5 at *
  have hn5' : Hid _ := hn5
  clear hn5
  go_wp2_with fail
  refine (rdFix_any (w.heap.size + 1) _ g len rcap 9 bs _ h4 (by omega) (by omega)).mono ?_
  rintro e w5 ⟨rfl, h5⟩
  clear h4
  generalize hn9 : u32At bs 9 = n9 at *
  have hn9' : Hid _ := hn9
  clear hn9
  have wr1 : ((n5 : Int) * 4294967296 + (n9 : Int)) % 18446744073709551616 = (n5 : Int) * 4294967296 + (n9 : Int) := by omega
  obtain ⟨k13, hk13⟩ : ∃ k, k = crcTo bs 13 ^^^ 4294967295 := ⟨_, rfl⟩
  obtain ⟨s13, hs13⟩ : ∃ k, k = u32At bs 13 := ⟨_, rfl⟩
  have hc13 : Hid (∀ wx, BytesAt wx b off len bs → Calls Tryd.prog 39 #[.slice (some ⟨b, off, none⟩) 13 cap] wx fun e w' => e = .returned (.int .u32 (k13 : Int)) ∧ w' = wx) := fun wx hx => by rw [hk13]; exact crc_ref b off 13 cap bs wx (by omega) (fun i hi => hx i (by omega))
  have hf13 : Hid (∀ wx, RS (w.heap.size + 1) (w.alloc (.cells #[.int .i64 0, .int .i64 0, .int .i64 0, .bool false, .bool false] 51)) g len rcap 13 bs wx → Calls Tryd.prog 60 #[.pointer (some ⟨w.heap.size + 1, 0, none⟩)] wx fun e w' => e = .returned (.int .u32 (s13 : Int)) ∧ RS (w.heap.size + 1) (w.alloc (.cells #[.int .i64 0, .int .i64 0, .int .i64 0, .bool false, .bool false] 51)) g len rcap 17 bs w') := fun wx hx => by rw [hs13]; exact rdFix_any _ _ g len rcap 13 bs wx hx (by omega) (by omega)
  have hfit : Hid (fitB bs 13 = ((s13 : Int) == (k13 : Int))) := by unfold Hid fitB; rw [hk13, hs13]
  clear hk13 hs13
  have l13 : (13 : Int) ≤ (cap : Int) := by omega
  clear hbs
  have hc1' : ¬ len < 17 := by omega
  have hc1 : Hid _ := hc1'
  clear hc1'
  have c2' : ((s13 : Int) == (k13 : Int)) = true := hfit.out.symm.trans hfitY.out
  have c2 : s13 = k13 := by have := eq_of_beq c2'; omega
  clear c2' hfit
  subst c2
  go_wp2_with fail
  go_region_with (first
    | (go_at_call 60; refine Calls.mono (hf13.out _ h5.drew) ?_; rintro e w6 ⟨rfl, h6⟩)
    | (go_at_call 39; refine Calls.mono (hc13.out _ (hbA.out _ (by first | exact h6.b | exact h5.drew.b))) ?_; rintro e w7 ⟨rfl, hw7⟩))
  all_goals
    have hw8 := hw7.symm
    subst hw8
    have s6 := h6.sz
    clear hf13 hc13 h5
    have c3I : ¬ (67108864 : Int) < (size : Int) := by omega
    have c4I : (len : Int) - 21 < (size : Int) := by omega
    go_wp2_with fail
    refine (rnew_any 30 _).mono ?_
    rintro e x1 ⟨rfl, hx1⟩
    have hx2 : Below (w.heap.size + 1) (w.alloc (.cells #[.int .i64 0, .int .i64 0, .int .i64 0, .bool false, .bool false] 51)) x1 := (h6.b).trans (hx1.mono (by first | omega | (simp; omega)))
    have hBB : Below w.heap.size w x1 := (below_new (Below.refl _ w) _).trans (hx2.mono (by omega))
    obtain ⟨z0, z1, z2, z3, z4, y0, y1, y2, y3, y4⟩ := hwb.out.below hx2
    have hRO : Hid (∀ W, RO bs len (.returned (.tuple #[.int .u8 0, .int .u64 0, .slice none 0 0, .int .i64 0, .agg #[.int .i64 30, .int .i64 0, .int .i64 0, .bool false, .bool false]])) W) := fun W => RO_err bs len 30 (by omega) (by unfold openE; rw [if_neg hc1.out, if_neg (by rw [hfitY.out]; decide), hn1'.out, if_neg c3, if_pos c4]) W
    go_wp2_with fail
    simp [bodyPost, results, Tryd.results43, go_sem, z0, z1, z2, z3, z4, y0, y1, y2, y3, y4]
    exact ⟨hRO.out _, bad_set hBB _ _ _ _ _⟩
end Go.Proofs.YtmlankbaoanaeaaDoor
