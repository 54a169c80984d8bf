
import Derived.Test.YtmlankbaoanaeaaDoorRdE
namespace Go.Proofs.YtmlankbaoanaeaaDoor
open Go.RowKit
set_option linter.unusedVariables false
set_option linter.unusedSimpArgs false
theorem u32At_sub (bs : Nat → Nat) (n : Nat) : u32At (fun i => bs (n + i)) 0 = u32At bs n := by unfold u32At; simp only [Nat.add_zero, Nat.zero_add, Nat.add_assoc]
theorem rdFix_sub (N : Nat) (w1 : World) (g n cap m : Nat) (bs : Nat → Nat) (k : Nat) (hk : k = u32At bs m) (w : World) (h : RS N w1 g n cap 0 (fun i => bs (m + i)) w) (hm : 4 ≤ n) (hn : n ≤ 9223372036854775807) :
    Calls Tryd.prog 60 #[.pointer (some ⟨N, 0, none⟩)] w fun e w' => e = .returned (.int .u32 (k : Int)) ∧ RS N w1 g n cap 4 (fun i => bs (m + i)) w' := by
  have h0 := rdFix_any N w1 g n cap 0 (fun i => bs (m + i)) w h (by omega) hn
  rw [u32At_sub, ← hk] at h0
  exact h0
theorem crc_sub (b off len cap m : Nat) (bs : Nat → Nat) (k : Nat) (hk : k = crcTo bs m ^^^ 4294967295) (w : World) (h : BytesAt w b off len bs) (hm : m ≤ len) (hn : len ≤ 9223372036854775807) :
    Calls Tryd.prog 39 #[.slice (some ⟨b, off, none⟩) m cap] w fun e w' => e = .returned (.int .u32 (k : Int)) ∧ w' = w := by
  rw [hk]; exact crc_ref b off m cap bs w (by omega) (fun i hi => h i (by omega))
theorem ok_of (bs : Nat → Nat) (size k s : Nat) (hk : k = crcTo bs (17 + size) ^^^ 4294967295) (hs : s = u32At bs (17 + size)) : okB bs size = ((s : Int) == (k : Int)) := by unfold okB fitB; rw [hk, hs]
set_option maxRecDepth 100000 in
set_option maxHeartbeats 4000000 in
theorem ropen_torn (b off len cap : Nat) (bs : Nat → Nat) (w : World) (hb : BytesAt w b off len bs) (hbk : b < w.heap.size) (h17 : 17 ≤ len) (hlen : len ≤ 140737488355327) (hlc : len ≤ cap) (hfitY : Hid (fitB bs 13 = true)) (hcc3 : Hid (¬ 67108864 < u32At bs 1)) (hcc4 : Hid (¬ len < 21 + u32At bs 1)) (hokY : Hid (okB bs (u32At bs 1) = false)) :
    Calls Tryd.prog 43 #[.slice (some ⟨b, off, none⟩) len cap] w fun e w' => RO bs len e w' ∧ Below w.heap.size w w' := by
  have hbs : ∀ i, i < len → bs i < 256 := fun i hi => (hb i hi).2
  have z1 := u32At_lt bs 1 (fun i hi => hbs i (by omega))
  have z5 := u32At_lt bs 5 (fun i hi => hbs i (by omega))
  have z9 := u32At_lt bs 9 (fun i hi => hbs i (by omega))
  have hI : ¬ (len : Int) < 17 := by omega
  have hwb : Hid _ := bad_start w
  have hbA : Hid (∀ wx, Below (w.heap.size + 1) (w.alloc (.cells #[.int .i64 0, .int .i64 0, .int .i64 0, .bool false, .bool false] 51)) wx → BytesAt wx b off len bs) := fun wx hx => (hb.below ((Below.refl _ w).alloc (Nat.le_refl _) (.cells #[.int .i64 0, .int .i64 0, .int .i64 0, .bool false, .bool false] 51)) hbk).below hx (by omega)
  have hb0 : BytesAt (w.alloc (.cells #[.int .i64 0, .int .i64 0, .int .i64 0, .bool false, .bool false] 51)) b off len bs := hb.below ((Below.refl _ w).alloc (Nat.le_refl _) (.cells #[.int .i64 0, .int .i64 0, .int .i64 0, .bool false, .bool false] 51)) hbk
  go_enter Tryd.func43, Tryd.ntmps43
  go_wp2_with fail
  refine (rdNew_any b off len cap bs _ hb0 (by simp; omega) (by omega) (by omega)).mono ?_
  rintro e w1 ⟨rfl, g, rcap, h1'⟩
  have h1 : RS (w.heap.size + 1) (w.alloc (.cells #[.int .i64 0, .int .i64 0, .int .i64 0, .bool false, .bool false] 51)) g len rcap 0 bs w1 := by simpa using h1'
  clear h1' hb0 hb hbk hI
  go_wp2_with fail
  refine (rdByte_any (w.heap.size + 1) _ g len rcap 0 bs _ h1 (by omega) (by omega)).mono ?_
  rintro e w2 ⟨rfl, h2⟩
  clear h1
  go_wp2_with fail
  refine (rdFix_any (w.heap.size + 1) _ g len rcap 1 bs _ h2 (by omega) (by omega)).mono ?_
  rintro e w3 ⟨rfl, h3⟩
  clear h2
  generalize hn1 : u32At bs 1 = size at *
  have hn1' : Hid _ := hn1
  clear hn1
  have c3 := hcc3.out
  have c4 := hcc4.out
  have hok : Hid _ := hokY.out
  clear hcc3 hcc4 hokY
  go_wp2_with fail
  refine (rdFix_any (w.heap.size + 1) _ g len rcap 5 bs _ h3 (by omega) (by omega)).mono ?_
  rintro e w4 ⟨rfl, h4⟩
  clear h3
  generalize hn5 : u32At bs 5 = n5 at *
  have hn5' : Hid _ := hn5
  clear hn5
  go_wp2_with fail
  refine (rdFix_any (w.heap.size + 1) _ g len rcap 9 bs _ h4 (by omega) (by omega)).mono ?_
  rintro e w5 ⟨rfl, h5⟩
  clear h4
  generalize hn9 : u32At bs 9 = n9 at *
  have hn9' : Hid _ := hn9
  clear hn9
  have wr1 : ((n5 : Int) * 4294967296 + (n9 : Int)) % 18446744073709551616 = (n5 : Int) * 4294967296 + (n9 : Int) := by omega
  obtain ⟨k13, hk13⟩ : ∃ k, k = crcTo bs 13 ^^^ 4294967295 := ⟨_, rfl⟩
  obtain ⟨s13, hs13⟩ : ∃ k, k = u32At bs 13 := ⟨_, rfl⟩
  have hc13 : Hid (∀ wx, BytesAt wx b off len bs → Calls Tryd.prog 39 #[.slice (some ⟨b, off, none⟩) 13 cap] wx fun e w' => e = .returned (.int .u32 (k13 : Int)) ∧ w' = wx) := fun wx hx => by rw [hk13]; exact crc_ref b off 13 cap bs wx (by omega) (fun i hi => hx i (by omega))
  have hf13 : Hid (∀ wx, RS (w.heap.size + 1) (w.alloc (.cells #[.int .i64 0, .int .i64 0, .int .i64 0, .bool false, .bool false] 51)) g len rcap 13 bs wx → Calls Tryd.prog 60 #[.pointer (some ⟨w.heap.size + 1, 0, none⟩)] wx fun e w' => e = .returned (.int .u32 (s13 : Int)) ∧ RS (w.heap.size + 1) (w.alloc (.cells #[.int .i64 0, .int .i64 0, .int .i64 0, .bool false, .bool false] 51)) g len rcap 17 bs w') := fun wx hx => by rw [hs13]; exact rdFix_any _ _ g len rcap 13 bs wx hx (by omega) (by omega)
  have hfit : Hid (fitB bs 13 = ((s13 : Int) == (k13 : Int))) := by unfold Hid fitB; rw [hk13, hs13]
  clear hk13 hs13
  have l13 : (13 : Int) ≤ (cap : Int) := by omega
  clear hbs
  have hc1' : ¬ len < 17 := by omega
  have hc1 : Hid _ := hc1'
  clear hc1'
  have c2' : ((s13 : Int) == (k13 : Int)) = true := hfit.out.symm.trans hfitY.out
  have c2 : s13 = k13 := by have := eq_of_beq c2'; omega
  clear c2' hfit
  subst c2
  go_wp2_with fail
  go_region_with (first
    | (go_at_call 60; refine Calls.mono (hf13.out _ h5.drew) ?_; rintro e w6 ⟨rfl, h6⟩)
    | (go_at_call 39; refine Calls.mono (hc13.out _ (hbA.out _ (by first | exact h6.b | exact h5.drew.b))) ?_; rintro e w7 ⟨rfl, hw7⟩))
  all_goals
    have hw8 := hw7.symm
    subst hw8
    have s6 := h6.sz
    clear hf13 hc13 h5
    have c3I : ¬ (67108864 : Int) < (size : Int) := by omega
    have c4I : ¬ (len : Int) - 21 < (size : Int) := by omega
    have p1 : 17 + (size : Int) ≤ (len : Int) := by omega
    have p2 : 17 + (size : Int) ≤ (cap : Int) := by omega
    have p3 : (0 : Int) ≤ 17 + (size : Int) := by omega
    have p4 : (len : Int) ≤ (cap : Int) := by omega
    have hn17 : (17 + (size : Int)).toNat = 17 + size := by omega
    have hcn : ¬ cap = 17 + size := by omega
    have hw6 := h6.b
    have hby := hbA.out _ hw6
    have hbl := World.block_lt_of_cell? _ _ (hby 0 (by omega)).1
    have hb2 : BytesAt w6 b (off + (17 + size)) (len - (17 + size)) (fun i => bs (17 + size + i)) := fun i hi => by
      have := hby (17 + size + i) (by omega)
      rw [← Nat.add_assoc off] at this; exact this
    go_wp2_with fail
    refine (rdNew_any b (off + (17 + size)) (len - (17 + size)) (cap - (17 + size)) (fun i => bs (17 + size + i)) _ hb2 hbl (by omega) (by omega)).mono ?_
    rintro e w8 ⟨rfl, g8, c8, h8⟩
    obtain ⟨k2, hk2⟩ : ∃ k, k = crcTo bs (17 + size) ^^^ 4294967295 := ⟨_, rfl⟩
    obtain ⟨s2, hs2⟩ : ∃ k, k = u32At bs (17 + size) := ⟨_, rfl⟩
    have hcc : Hid (∀ wx, BytesAt wx b off len bs → Calls Tryd.prog 39 #[.slice (some ⟨b, off, none⟩) (17 + size) cap] wx fun e w' => e = .returned (.int .u32 (k2 : Int)) ∧ w' = wx) := fun wx hx => crc_sub b off len cap (17 + size) bs k2 hk2 wx hx (by omega) (by omega)
    have hff : Hid (∀ wx, RS w6.heap.size w6 g8 (len - (17 + size)) c8 0 (fun i => bs (17 + size + i)) wx → Calls Tryd.prog 60 #[.pointer (some ⟨w6.heap.size, 0, none⟩)] wx fun e w' => e = .returned (.int .u32 (s2 : Int)) ∧ RS w6.heap.size w6 g8 (len - (17 + size)) c8 4 (fun i => bs (17 + size + i)) w') := fun wx hx => rdFix_sub _ _ g8 (len - (17 + size)) c8 (17 + size) bs s2 hs2 wx hx (by omega) (by omega)
    have hfit2 : okB bs size = ((s2 : Int) == (k2 : Int)) := ok_of bs size k2 s2 hk2 hs2
    rw [hok.out] at hfit2
    clear hk2 hs2 hb2 hby hbl
    have m6 : w.heap.size + 1 ≤ w6.heap.size := by omega
    have c5I : ¬ (s2 : Int) = (k2 : Int) := beq_eq_false_iff_ne.1 hfit2.symm
    have c5b : ((s2 : Int) == (k2 : Int)) = false := hfit2.symm
    clear hfit2
    go_wp2_with fail
    have P2 : 17 + (size : Int) ≤ (cap : Int) := by omega
    have P3 : (0 : Int) ≤ 17 + (size : Int) := by omega
    have H17 : (17 + (size : Int)).toNat = 17 + size := by omega
    have wz : IntKind.i64.wrap (17 + (size : Int)) = 17 + (size : Int) := by rw [IntKind.wrap_i64]; omega
    go_region_with (first
      | (go_at_call 60; refine Calls.mono (hff.out _ h8.drew) ?_; rintro e x6 ⟨rfl, k6⟩)
      | (go_at_call 39; refine Calls.mono (hcc.out _ (hbA.out _ (by first | exact hw6.trans (k6.b.mono m6) | exact hw6.trans (h8.drew.b.mono m6)))) ?_; rintro e x7 ⟨rfl, hx7⟩))
    all_goals
      clear wz P2 P3 H17
      have hx8 := hx7.symm
      subst hx8
      have hxB := hw6.trans (k6.b.mono m6)
      have s9 := k6.sz
      clear hff hcc h8
      go_wp2_with fail
      refine (rnew_any 32 _).mono ?_
      rintro e x1 ⟨rfl, hx1⟩
      have hx2 : Below (w.heap.size + 1) (w.alloc (.cells #[.int .i64 0, .int .i64 0, .int .i64 0, .bool false, .bool false] 51)) x1 := (hxB).trans (hx1.mono (by first | omega | (simp; omega)))
      have hBB : Below w.heap.size w x1 := (below_new (Below.refl _ w) _).trans (hx2.mono (by omega))
      obtain ⟨z0, z1, z2, z3, z4, y0, y1, y2, y3, y4⟩ := hwb.out.below hx2
      have hRO : Hid (∀ W, RO bs len (.returned (.tuple #[.int .u8 0, .int .u64 0, .slice none 0 0, .int .i64 0, .agg #[.int .i64 32, .int .i64 0, .int .i64 0, .bool false, .bool false]])) W) := fun W => RO_err bs len 32 (by omega) (by unfold openE; rw [if_neg hc1.out, if_neg (by rw [hfitY.out]; decide), hn1'.out, if_neg c3, if_neg c4, if_pos hok.out]) W
      go_wp2_with fail
      simp [bodyPost, results, Tryd.results43, go_sem, z0, z1, z2, z3, z4, y0, y1, y2, y3, y4]
      exact ⟨hRO.out _, bad_set hBB _ _ _ _ _⟩
end Go.Proofs.YtmlankbaoanaeaaDoor
