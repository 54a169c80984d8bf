
import Derived.Test.YtfpfeecoideedaaGreatDoorKyI
import Derived.Test.YtfpfeecoideedaaGreatDoorKyC
import Derived.Lib.SpaceUEq
import Derived.Laws.RangeAny
import Derived.Laws.RangeString
import Derived.Laws.Runes
import Derived.WalkMore
namespace Go.Proofs.YtfpfeecoideedaaGreatDoor
open Go.RowKit Go.Shelf
set_option linter.unusedVariables false
set_option linter.unusedSimpArgs false
/-- a rune whose first byte is no ASCII: its number, how long it is. -/
theorem high_N (n b0 b1 b2 b3 : Nat) (h0 : 128 ≤ b0) (h : b0 < 256) (h1 : b1 < 256) (h2 : b2 < 256) (h3 : b3 < 256) (hn : 1 ≤ n) : 128 ≤ (Lib.decodeN n b0 b1 b2 b3).1 ∧ (Lib.decodeN n b0 b1 b2 b3).1 ≤ 1114111 ∧ 1 ≤ (Lib.decodeN n b0 b1 b2 b3).2 ∧ (Lib.decodeN n b0 b1 b2 b3).2 ≤ n ∧ ((Lib.decodeN n b0 b1 b2 b3).1 < 55296 ∨ 57344 ≤ (Lib.decodeN n b0 b1 b2 b3).1) := by
  unfold Lib.decodeN
  repeat' split
  all_goals (simp only; omega)
theorem high_decode (s : ByteArray) (i : Nat) (hi : i < s.size) (x : UInt8) (hx : s.data.toList[i]? = some x) (h128 : 128 ≤ x.toNat) :
    128 ≤ (Utf8.decode s i).1 ∧ (Utf8.decode s i).1 ≤ 1114111 ∧ ((Utf8.decode s i).1 < 55296 ∨ 57344 ≤ (Utf8.decode s i).1) ∧ 1 ≤ (Utf8.decode s i).2 ∧ i + (Utf8.decode s i).2 ≤ s.size ∧ ∀ j b, i ≤ j → j < i + (Utf8.decode s i).2 → s.data.toList[j]? = some b → 128 ≤ b.toNat := by
  have hget : ∀ j b, s.data.toList[j]? = some b → s.get! j = b := by
    intro j b hb
    rw [← Lib.getD_get!', List.getD, hb]; rfl
  have e0 := hget i x hx
  rw [Lib.decode_at]
  have hb : ∀ j, (s.get! j).toNat < 256 := fun j => UInt8.toNat_lt _
  have h := high_N (s.size - i) (s.get! i).toNat (s.get! (i + 1)).toNat (s.get! (i + 2)).toNat (s.get! (i + 3)).toNat (by rw [e0]; exact h128) (hb _) (hb _) (hb _) (hb _) (by omega)
  have hc := Lib.decodeN_conts (s.size - i) (s.get! i).toNat (s.get! (i + 1)).toNat (s.get! (i + 2)).toNat (s.get! (i + 3)).toNat
  refine ⟨h.1, h.2.1, h.2.2.2.2, h.2.2.1, by omega, ?_⟩
  intro j b hij hj hjb
  have ej := hget j b hjb
  obtain ⟨c1, c2, c3, c4⟩ := hc
  rcases Nat.eq_or_lt_of_le hij with h0 | h0
  · subst h0; rw [← ej, e0]; exact h128
  · rcases Nat.eq_or_lt_of_le h0 with h1 | h1
    · have := c1 (by omega); rw [← ej, ← h1]; have := this.1; simp only [Nat.succ_eq_add_one]; omega
    · rcases Nat.eq_or_lt_of_le h1 with h2 | h2
      · have := c2 (by omega); rw [← ej, ← h2]; have := this.1; simp only [Nat.succ_eq_add_one]; rw [show i + 1 + 1 = i + 2 by omega]; omega
      · rcases Nat.eq_or_lt_of_le h2 with h3 | h3
        · have := c3 (by omega); rw [← ej, ← h3]; have := this.1; simp only [Nat.succ_eq_add_one]; rw [show i + 1 + 1 + 1 = i + 3 by omega]; omega
        · simp only [Nat.succ_eq_add_one] at h3; omega
theorem ib_none : ∀ (l : List UInt8) (c : UInt8), (∀ b ∈ l, b ≠ c) → Lib.indexByte l c = -1
  | [], c, h => rfl
  | b :: r, c, h => by
    rw [Lib.indexByte, ib_none r c (fun x hx => h x (List.mem_cons_of_mem _ hx))]
    have := h b (by simp)
    simp [this]
set_option maxRecDepth 100000 in
set_option maxHeartbeats 4000000 in
theorem idxRune_high (r : Nat) (h : 128 ≤ r) (h2 : r ≤ 1114111) (hv : r < 55296 ∨ 57344 ≤ r) (hne : r ≠ 65533) (w : World) : Calls Tryz.prog 126 #[.string ⟨#[44, 32, 61, 92]⟩, .int .i32 (r : Int)] w fun e w' => e = .returned (.int .i64 (-1)) ∧ Below w.heap.size w w' := by
  have hI : ¬ (r : Int) < 128 := by omega
  have hI0 : (0 : Int) ≤ (r : Int) := by omega
  have hE : ((r : Int) == 65533) = false := by simp; omega
  have hval : Utf8.valid (r : Int) = true := by
    unfold Utf8.valid
    simp
    omega
  have cV : Hid (∀ W, Calls Tryz.prog 134 #[.int .i32 (r : Int)] W fun e w' => e = .returned (.bool true) ∧ w' = W) := by
    intro W
    have hvr : Lib.validRune (r : Int) = true := by
      unfold Lib.validRune
      simp
      omega
    have := Tryz.utf8_ValidRune (r : Int) W
    rw [hvr] at this
    exact this
  have hf := encode_facts (r : Int) hval (by omega)
  obtain ⟨rs, hrs⟩ : ∃ rs, Utf8.encode (r : Int) = rs := ⟨_, rfl⟩
  rw [hrs] at hf
  have hcv : ∀ W, (convert 21 9 (.int .i32 (r : Int))).run Tryz.prog W = .ok (.string rs) W := fun W => by rw [run_convert_int_string W 21 9 .i32 (r : Int) (by kernel_rfl) Tryz.underlying9, hrs]
  obtain ⟨f1, f2, f3⟩ := hf
  have hlt : rs.size - 1 < rs.size := by omega
  have f4 := f3 hlt
  obtain ⟨y, hy⟩ : ∃ y, rs[rs.size - 1]'hlt = y := ⟨_, rfl⟩
  rw [hy] at f4
  have cI : Hid (∀ (t : ByteArray) W, (∀ b ∈ t.data.toList, b.toNat < 128) → Calls Tryz.prog 133 #[.string t, .int .u8 (y.toNat : Int)] W fun e w' => e = .returned (.int .i64 (-1)) ∧ w' = W) := by
    intro t W ht
    have := Tryz.strings_IndexByte t (y.toNat : Int) W
    have e1 : ((y.toNat : Int)).toNat.toUInt8 = y := by simp
    rw [e1, ib_none _ _ (fun b hb e => by have := ht b hb; rw [e] at this; omega)] at this
    exact this
  clear hval hrs hne hv h2 f3
  have h4 : rs.size = 2 ∨ rs.size = 3 ∨ rs.size = 4 := by omega
  rcases h4 with hn | hn | hn
  · have hix : ∀ W, (Instr.index 9 (.string rs) (.int .i64 1)).run Tryz.prog W = .ok (.int .u8 (y.toNat : Int)) W := fun W => by
      rw [run_index_string W 9 rs .i64 (1 : Int) Tryz.underlying9, dif_pos ⟨by omega, by omega⟩, ← hy]
      congr 4
      all_goals (first | rfl | (congr 1; omega) | omega)
    have hi0 : ∀ W, (Instr.index 9 (.string ⟨#[44, 32, 61, 92]⟩) (.int .i64 1)).run Tryz.prog W = .ok (.int .u8 32) W := fun W => by kernel_rfl
    have hyb : ((32 : Int) == (y.toNat : Int)) = false := by simp; omega
    have cI2 : Hid (∀ W, Calls Tryz.prog 133 #[.string ((⟨#[44, 32, 61, 92]⟩ : ByteArray).extract 2 4), .int .u8 (y.toNat : Int)] W fun e w' => e = .returned (.int .i64 (-1)) ∧ w' = W) := fun W => cI.out _ W (by decide)
    clear hy
    go_enter Tryz.func126, Tryz.ntmps126
    go_wp2_with (go_at_call 134; (with_reducible refine Calls.mono (cV.out _) ?_); rintro e1 w1 ⟨rfl, rfl⟩)
    go_step3
    go_wp2_with fail
    refine wp_loop_rounds 1 ?_
    rw [rounds_succ]
    go_wp2_with fail
    go_step3
    go_wp2_with fail
    go_quiet (fail)
    go_wp2_with fail
    generalize hwq : World.drewN w1 _ = wq
    have hBq : Below w1.heap.size w1 wq := hwq ▸ bdrewN (Below.refl _ _) _
    clear hwq
    go_quiet ((go_at_call 133; exact Calls.quiet_of_same (cI2.out _)))
    go_wp2_with fail
    repeat (first | rw [Exit.noGoto_ret] | simp only [Exit.inBlock, Exit.then])
    go_ret
    exact ⟨rfl, bdrewN hBq _⟩
  · have hix : ∀ W, (Instr.index 9 (.string rs) (.int .i64 2)).run Tryz.prog W = .ok (.int .u8 (y.toNat : Int)) W := fun W => by
      rw [run_index_string W 9 rs .i64 (2 : Int) Tryz.underlying9, dif_pos ⟨by omega, by omega⟩, ← hy]
      congr 4
      all_goals (first | rfl | (congr 1; omega) | omega)
    have hi0 : ∀ W, (Instr.index 9 (.string ⟨#[44, 32, 61, 92]⟩) (.int .i64 2)).run Tryz.prog W = .ok (.int .u8 61) W := fun W => by kernel_rfl
    have hyb : ((61 : Int) == (y.toNat : Int)) = false := by simp; omega
    have cI2 : Hid (∀ W, Calls Tryz.prog 133 #[.string ((⟨#[44, 32, 61, 92]⟩ : ByteArray).extract 3 4), .int .u8 (y.toNat : Int)] W fun e w' => e = .returned (.int .i64 (-1)) ∧ w' = W) := fun W => cI.out _ W (by decide)
    clear hy
    go_enter Tryz.func126, Tryz.ntmps126
    go_wp2_with (go_at_call 134; (with_reducible refine Calls.mono (cV.out _) ?_); rintro e1 w1 ⟨rfl, rfl⟩)
    go_step3
    go_wp2_with fail
    refine wp_loop_rounds 1 ?_
    rw [rounds_succ]
    go_wp2_with fail
    go_step3
    go_wp2_with fail
    go_quiet (fail)
    go_wp2_with fail
    generalize hwq : World.drewN w1 _ = wq
    have hBq : Below w1.heap.size w1 wq := hwq ▸ bdrewN (Below.refl _ _) _
    clear hwq
    go_quiet ((go_at_call 133; exact Calls.quiet_of_same (cI2.out _)))
    go_wp2_with fail
    repeat (first | rw [Exit.noGoto_ret] | simp only [Exit.inBlock, Exit.then])
    go_ret
    exact ⟨rfl, bdrewN hBq _⟩
  · have hix : ∀ W, (Instr.index 9 (.string rs) (.int .i64 3)).run Tryz.prog W = .ok (.int .u8 (y.toNat : Int)) W := fun W => by
      rw [run_index_string W 9 rs .i64 (3 : Int) Tryz.underlying9, dif_pos ⟨by omega, by omega⟩, ← hy]
      congr 4
      all_goals (first | rfl | (congr 1; omega) | omega)
    have hi0 : ∀ W, (Instr.index 9 (.string ⟨#[44, 32, 61, 92]⟩) (.int .i64 3)).run Tryz.prog W = .ok (.int .u8 92) W := fun W => by kernel_rfl
    have hyb : ((92 : Int) == (y.toNat : Int)) = false := by simp; omega
    have cI2 : Hid (∀ W, Calls Tryz.prog 133 #[.string ((⟨#[44, 32, 61, 92]⟩ : ByteArray).extract 4 4), .int .u8 (y.toNat : Int)] W fun e w' => e = .returned (.int .i64 (-1)) ∧ w' = W) := fun W => cI.out _ W (by decide)
    clear hy
    go_enter Tryz.func126, Tryz.ntmps126
    go_wp2_with (go_at_call 134; (with_reducible refine Calls.mono (cV.out _) ?_); rintro e1 w1 ⟨rfl, rfl⟩)
    go_step3
    go_wp2_with fail
    refine wp_loop_rounds 1 ?_
    rw [rounds_succ]
    go_wp2_with fail
    go_step3
    go_wp2_with fail
    go_quiet (fail)
    go_wp2_with fail
    generalize hwq : World.drewN w1 _ = wq
    have hBq : Below w1.heap.size w1 wq := hwq ▸ bdrewN (Below.refl _ _) _
    clear hwq
    go_quiet ((go_at_call 133; exact Calls.quiet_of_same (cI2.out _)))
    go_wp2_with fail
    repeat (first | rw [Exit.noGoto_ret] | simp only [Exit.inBlock, Exit.then])
    go_ret
    exact ⟨rfl, bdrewN hBq _⟩
theorem mk_low4 : ∀ i : Fin 4, ((⟨#[44, 32, 61, 92]⟩ : ByteArray)[i.val]'i.isLt).toNat < 128 := by decide
set_option maxRecDepth 100000 in
set_option maxHeartbeats 4000000 in
theorem idxRune_err (w : World) : Calls Tryz.prog 126 #[.string ⟨#[44, 32, 61, 92]⟩, .int .i32 65533] w fun e w' => e = .returned (.int .i64 (-1)) ∧ Below w.heap.size w w' := by
  have hb : ∀ i, i < 4 → ∃ x : Nat, x < 128 ∧ ∀ ty W, (Instr.next (.pointer (some ⟨W.heap.size, 0, none⟩)) true ty).run Tryz.prog (World.iter W ⟨#[44, 32, 61, 92]⟩ i) = .ok (.tuple #[.bool true, .int .i64 (i : Int), .int .i32 (x : Int)]) (World.iter W ⟨#[44, 32, 61, 92]⟩ (i + 1)) := by
    intro i hi
    exact ⟨((⟨#[44, 32, 61, 92]⟩ : ByteArray)[i]'hi).toNat, mk_low4 ⟨i, hi⟩, fun ty W => run_next_ascii W ⟨#[44, 32, 61, 92]⟩ i ty hi (mk_low4 ⟨i, hi⟩)⟩
  have hbH : Hid (∀ i, i < 4 → ∃ x : Nat, x < 128 ∧ ∀ ty W, (Instr.next (.pointer (some ⟨W.heap.size, 0, none⟩)) true ty).run Tryz.prog (World.iter W ⟨#[44, 32, 61, 92]⟩ i) = .ok (.tuple #[.bool true, .int .i64 (i : Int), .int .i32 (x : Int)]) (World.iter W ⟨#[44, 32, 61, 92]⟩ (i + 1))) := hb
  clear hb
  go_enter Tryz.func126, Tryz.ntmps126
  go_wp2_with fail
  go_loopg [5, 6] 4 (fun g _ _ wx => ∃ i : Nat, i + g = 4 ∧ wx = w.iter ⟨#[44, 32, 61, 92]⟩ i)
  case atStart => exact ⟨0, by omega, rfl⟩
  case round =>
    obtain ⟨i, hig, rfl⟩ := hrel
    cases gk with
    | zero =>
      obtain rfl : i = 4 := by omega
      have hnx := run_next_end (P := Tryz.prog) w ⟨#[44, 32, 61, 92]⟩ 4
      go_wp2_with fail
      go_ret
      exact ⟨rfl, (Below.refl _ w).alloc (Nat.le_refl _) _⟩
    | succ g =>
      obtain ⟨x, hx, hnx⟩ := hbH.out i (by omega)
      have hne : ((x : Int) == 65533) = false := by simp; omega
      have hnx' := fun ty => hnx ty w
      clear hnx
      go_wp2_with fail
      go_roundg g
      case measure => omega
      case rel => exact ⟨i + 1, by omega, rfl⟩
theorem idxRune_any (r : Nat) (h : 128 ≤ r) (h2 : r ≤ 1114111) (hv : r < 55296 ∨ 57344 ≤ r) (w : World) : Calls Tryz.prog 126 #[.string ⟨#[44, 32, 61, 92]⟩, .int .i32 (r : Int)] w fun e w' => e = .returned (.int .i64 (-1)) ∧ Below w.heap.size w w' := by
  by_cases e : r = 65533
  · subst e; exact idxRune_err w
  · exact idxRune_high r h h2 hv e w
set_option maxRecDepth 100000 in
set_option maxHeartbeats 4000000 in
/-- strings.IndexAny of a short text, whatever its bytes. -/
theorem mk_short (s : ByteArray) (h8 : s.size ≤ 8) : MkOk s := by
  intro w
  have h8z : decide ((8 : Int) < (s.size : Int)) = false := decide_eq_false (by omega)
  have c226 : Hid (∀ W, Calls Tryz.prog 127 #[.int .i64 (s.size : Int)] W fun e w' => e = .returned (.bool false) ∧ w' = W) := fun W => by have := Tryz.strings_shouldUseASCIISet (s.size : Int) W; rw [h8z] at this; exact this
  clear h8z
  go_enter Tryz.func117, Tryz.ntmps117
  go_wp2_with (go_at_call 127; (with_reducible refine Calls.mono (c226.out _) ?_); rintro e1 w1 ⟨rfl, hw1⟩; subst hw1)
  go_loopg [9, 10] s.size (fun g _ _ wx => ∃ i : Nat, i ≤ s.size ∧ s.size - i ≤ g ∧ Hid (wx.heap[w1.heap.size]? = some (.stringIter s i)) ∧ Below w1.heap.size w1 wx ∧ Hid (Lib.NoAny s.data.toList mkL i))
  case atStart => exact ⟨0, by omega, by omega, World.alloc_heap_new w1 _, (Below.refl _ w1).alloc (Nat.le_refl _) _, Lib.NoAny.zero _ _⟩
  case round =>
    obtain ⟨i, hi, hig, hit, hB, hno⟩ := hrel
    by_cases hlt : i < s.size
    · obtain ⟨g, rfl⟩ : ∃ g, gk = g + 1 := ⟨gk - 1, by omega⟩
      obtain ⟨x, hx⟩ : ∃ x : UInt8, s.data.toList[i]? = some x := ⟨_, Lib.data_getElem? s i hlt⟩
      have hxx : s[i]'hlt = x := by have := Lib.data_getElem? s i hlt; rw [hx] at this; exact (Option.some.inj this).symm
      by_cases h128 : x.toNat < 128
      · have hnx := fun ty => Lib.run_next_ascii_at (P := Tryz.prog) wr w1.heap.size s i ty hit.out hlt (by rw [hxx]; exact h128)
        rw [hxx] at hnx
        have hcon := Lib.contains_iff_indexByte mkL x
        have cA : Hid (∀ W, Calls Tryz.prog 126 #[.string ⟨#[44, 32, 61, 92]⟩, .int .i32 (x.toNat : Int)] W fun e w' => e = .returned (.int .i64 (Lib.indexByte mkL x)) ∧ w' = W) := fun W => by
          have := Tryz.strings_IndexRune_ascii ⟨#[44, 32, 61, 92]⟩ (x.toNat : Int) W (by omega) (by omega)
          have hback : ((x.toNat : Int)).toNat.toUInt8 = x := by simp
          rw [hback] at this
          exact this
        have hxH : Hid (s.data.toList[i]? = some x) := hx
        clear hx hxx
        cases hin : mkL.contains x
        · rw [hin] at hcon
          have hltI : ¬ ((0 : Int) ≤ Lib.indexByte mkL x) := of_decide_eq_false hcon.symm
          have hinH : Hid (mkL.contains x = false) := hin
          clear hcon hin
          generalize Lib.indexByte mkL x = q at cA hltI
          go_wp2_with (go_at_call 126; (with_reducible refine Calls.mono (cA.out _) ?_); rintro e2 w2 ⟨rfl, hw2⟩; subst hw2)
          go_roundg g
          case measure => omega
          case rel => exact ⟨i + 1, by omega, by omega, Lib.iterAt_heap _ _ _ i _ hit.out, Lib.below_iterAt hB (Nat.le_refl _) _ _, hno.out.succ hxH.out hinH.out⟩
        · rw [hin] at hcon
          have hge : (0 : Int) ≤ Lib.indexByte mkL x := of_decide_eq_true hcon.symm
          have hinH : Hid (mkL.contains x = true) := hin
          clear hcon hin
          generalize Lib.indexByte mkL x = q at cA hge
          go_wp2_with (go_at_call 126; (with_reducible refine Calls.mono (cA.out _) ?_); rintro e2 w2 ⟨rfl, hw2⟩; subst hw2)
          go_ret
          exact ⟨by unfold idxM; rw [Lib.indexAny_hit hno.out hxH.out hinH.out]; rfl, Lib.below_iterAt hB (Nat.le_refl _) _ _⟩
      · obtain ⟨d1, d2, d3, d4, d5, d6⟩ := high_decode s i hlt x hx (by omega)
        have hnx := fun ty => Lib.run_next_any_at (P := Tryz.prog) wr w1.heap.size s i ty hit.out hlt
        have hno2 : Hid (Lib.NoAny s.data.toList mkL (i + (Utf8.decode s i).2)) := by
          intro j y hj hy
          rcases Nat.lt_or_ge j i with hji | hji
          · exact hno.out j y hji hy
          · have := d6 j y hji hj hy
            cases hm : mkL.contains y with
            | false => rfl
            | true =>
              have hmem : y ∈ mkL := by simpa using hm
              simp [mkL] at hmem
              rcases hmem with rfl | rfl | rfl | rfl <;> simp at this
        clear d6
        generalize (Utf8.decode s i).1 = r at *
        generalize (Utf8.decode s i).2 = k at *
        have cA : Hid (∀ W, Calls Tryz.prog 126 #[.string ⟨#[44, 32, 61, 92]⟩, .int .i32 (r : Int)] W fun e w' => e = .returned (.int .i64 (-1)) ∧ Below W.heap.size W w') := fun W => idxRune_any r d1 d2 d3 W
        clear hx hxx
        go_wp2_with (go_at_call 126; (with_reducible refine Calls.mono (cA.out _) ?_); rintro e2 w2 ⟨rfl, hb2⟩)
        go_roundg g
        case measure => omega
        case rel =>
          have hh := Lib.iterAt_heap _ _ _ i (i + k) hit.out
          exact ⟨i + k, by omega, by omega, (hb2.block _ (Array.getElem?_eq_some_iff.1 hh).1).trans hh, (Lib.below_iterAt hB (Nat.le_refl _) _ _).trans (hb2.mono (by rw [Lib.iterAt_size]; exact hB.size)), hno2⟩
    · obtain rfl : i = s.size := by omega
      have hnx := fun ty => Lib.run_next_end_at (P := Tryz.prog) wr w1.heap.size s s.size ty hit.out (by omega)
      go_wp2_with fail
      go_ret
      exact ⟨by unfold idxM; rw [Lib.indexAny_none (by rw [← Lib.size_eq]; exact hno.out)]; rfl, hB⟩
theorem mk_any (t : ByteArray) (h : t.size < 4294967281) : MkOk t := by
  by_cases h8 : t.size ≤ 8
  · exact mk_short t h8
  · intro W
    refine (Tryz.strings_IndexAny_long ((zero_of_info (n := 256) (by kernel_rfl)).1) t ⟨#[44, 32, 61, 92]⟩ W (by decide) (by omega) h (by decide) ?_).mono ?_
    · intro j b hb
      have : b ∈ mkL := List.mem_of_getElem? hb
      simp [mkL] at this
      rcases this with rfl | rfl | rfl | rfl <;> decide
    · rintro e w' ⟨rfl, rfl⟩
      exact ⟨rfl, ((Below.refl _ W).alloc (Nat.le_refl _) _).alloc (by simp) _⟩
theorem mk_extract (t : ByteArray) (h : t.size < 4294967281) (i j : Nat) : MkOk (t.extract i j) := mk_any _ (by
  have : (t.extract i j).size ≤ t.size := by rw [Lib.size_eq, Lib.extract_data, Lib.size_eq]; simp; omega
  omega)
end Go.Proofs.YtfpfeecoideedaaGreatDoor
