
import Derived.Test.YtipahdplkmmofaaGreatDoorWxJ
namespace Go.Proofs.YtipahdplkmmofaaGreatDoor
open Go.RowKit Go.Shelf
set_option linter.unusedVariables false
set_option linter.unusedSimpArgs false
/-- loop 1's state: k numbers written. -/
def L1 (w : World) (z : Nat → Int) (k : Nat) (W : World) : Prop := ∃ v, Wi.WS w.heap.size w 0 v (accT z k).length (Wi.enc (accT z k)) W
/-- between the two texts. -/
def L1a (w : World) (z : Nat → Int) (k : Nat) (W : World) : Prop := ∃ v, Wi.WS w.heap.size w 0 v (accT z k ++ encP (textP (z k))).length (Wi.enc (accT z k ++ encP (textP (z k)))) W
theorem L1.bel {w : World} {z : Nat → Int} {k : Nat} {W : World} (h : L1 w z k W) : Below w.heap.size w W := by obtain ⟨v, h⟩ := h; exact h.b
theorem L1a.bel {w : World} {z : Nat → Int} {k : Nat} {W : World} (h : L1a w z k W) : Below w.heap.size w W := by obtain ⟨v, h⟩ := h; exact h.b
theorem L1.below {w : World} {z : Nat → Int} {k : Nat} {W W' : World} (h : L1 w z k W) (hb : Below W.heap.size W W') : L1 w z k W' := by obtain ⟨v, h⟩ := h; exact ⟨v, h.below hb⟩
theorem L1a.below {w : World} {z : Nat → Int} {k : Nat} {W W' : World} (h : L1a w z k W) (hb : Below W.heap.size W W') : L1a w z k W' := by obtain ⟨v, h⟩ := h; exact ⟨v, h.below hb⟩
theorem L1.start (w : World) (z : Nat → Int) : L1 w z 0 (w.alloc (.cells #[.slice none 0 0, .int .i64 0] 42)) :=
  ⟨.slice none 0 0, by simp, by simp, by simp, by simp, World.ownsRow_nil _ _ _ _, (Below.refl _ _).alloc (Nat.le_refl _) _, by simp⟩
theorem L1.text {w : World} {z : Nat → Int} {k : Nat} {W : World} (hz : ∀ i, I64 (z i)) (hk : k ≤ 1048576) (h : L1 w z k W) :
    Calls Tryz.prog 14 #[.pointer (some ⟨w.heap.size, 0, none⟩), .string (B (textP (z k)))] W fun e w' => e = .returned undef ∧ L1a w z k w' := by
  obtain ⟨v, h⟩ := h
  have := accT_len z hz k
  exact wtx h (textP (z k)) (text_len2 _ (hz k)) (by omega)
theorem L1a.text {w : World} {z : Nat → Int} {k : Nat} {W : World} (hz : ∀ i, I64 (z i)) (hk : k ≤ 1048576) (h : L1a w z k W) :
    Calls Tryz.prog 14 #[.pointer (some ⟨w.heap.size, 0, none⟩), .string (B (prT (z k)))] W fun e w' => e = .returned undef ∧ L1 w z (k + 1) w' := by
  obtain ⟨v, h⟩ := h
  have h1 := accT_len z hz k
  have h2 := text_len2 (z k) (hz k)
  have H := wtx h (prT (z k)) (prT_len _ (hz k)) (by rw [List.length_append, encP_len]; omega)
  rw [List.append_assoc] at H
  exact H
/-- loop 2's state: k numbers read. -/
def L2 (N : Nat) (w1 : World) (a : Option Addr) (cap : Nat) (z : Nat → Int) (len k : Nat) (W : World) : Prop := Wi.RR N w1 a (accT z len).length cap (Wi.natsOf (accT z len)) (accT z k).length 0 none W
def L2a (N : Nat) (w1 : World) (a : Option Addr) (cap : Nat) (z : Nat → Int) (len k : Nat) (W : World) : Prop := Wi.RR N w1 a (accT z len).length cap (Wi.natsOf (accT z len)) (accT z k ++ encP (textP (z k))).length 0 none W
theorem L2.text {N : Nat} {w1 : World} {a : Option Addr} {cap : Nat} {z : Nat → Int} {len k : Nat} {W : World} (hz : ∀ i, I64 (z i)) (hk : k < len) (h : L2 N w1 a cap z len k W) :
    Calls Tryz.prog 22 #[.pointer (some ⟨N, 0, none⟩), .int .i64 64] W fun e w' => e = .returned (.string (B (textP (z k)))) ∧ L2a N w1 a cap z len k w' := by
  obtain ⟨r, hr⟩ := accT_at z k len hk
  exact rtx (accT z k) _ (textP (z k)) h hr (text_len2 _ (hz k))
theorem L2a.text {N : Nat} {w1 : World} {a : Option Addr} {cap : Nat} {z : Nat → Int} {len k : Nat} {W : World} (hz : ∀ i, I64 (z i)) (hk : k < len) (h : L2a N w1 a cap z len k W) :
    Calls Tryz.prog 22 #[.pointer (some ⟨N, 0, none⟩), .int .i64 64] W fun e w' => e = .returned (.string (B (prT (z k)))) ∧ L2 N w1 a cap z len (k + 1) w' := by
  obtain ⟨r, hr⟩ := accT_at z k len hk
  have H := rtx (accT z k ++ encP (textP (z k))) r (prT (z k)) h (by rw [hr]; simp [List.append_assoc]) (prT_len _ (hz k))
  rw [List.append_assoc] at H
  exact H
theorem L2.below {N : Nat} {w1 : World} {a : Option Addr} {cap : Nat} {z : Nat → Int} {len k : Nat} {W W' : World} (h : L2 N w1 a cap z len k W) (hb : Below W.heap.size W W') : L2 N w1 a cap z len k W' := Wi.RR.below h hb
theorem L2a.below {N : Nat} {w1 : World} {a : Option Addr} {cap : Nat} {z : Nat → Int} {len k : Nat} {W W' : World} (h : L2a N w1 a cap z len k W) (hb : Below W.heap.size W W') : L2a N w1 a cap z len k W' := Wi.RR.below h hb
set_option maxRecDepth 100000 in
set_option maxHeartbeats 4000000 in
theorem topTimes_walk (a : Option Addr) (len cap : Nat) (z : Nat → Int) (w : World) (hz : ∀ i, I64 (z i)) (hlen : len ≤ 1048576)
    (h : len = 0 ∨ ∃ b off, a = some ⟨b, off, none⟩ ∧ b < w.heap.size ∧ ∀ i, i < len → w.cell? ⟨b, off + i, none⟩ = some (.int .i64 (z i))) (hT : TW w) :
    Calls Tryz.prog 5 #[.slice a len cap] w fun e w' => e = .returned (.bool true) ∧ Below w.heap.size w w' := by
  have HZ : Hid (∀ i, I64 (z i)) := hz
  have HI : Hid _ := h
  have HT : Hid (∀ W, Below w.heap.size w W → TW W) := fun W hb => hT.below hb
  have HL0 := L1.start w z
  have HL0 : Hid (L1 w z 0 _) := HL0
  have hlenI : (len : Int) ≤ 1048576 := by omega
  clear h hT hz
  go_enter Tryz.func5, Tryz.ntmps5
  go_wp2_with fail
  go_loopw [4] (fun i wr => ∃ k : Nat, k ≤ len ∧ i = .int .i64 (k : Int) ∧ L1 w z k wr) (fun i _ => len - (intOf i).toNat)
  case atStart => exact ⟨0, Nat.zero_le _, rfl, HL0.out⟩
  case round =>
    clear HL0
    obtain ⟨k, hk, rfl, hL⟩ := hrel
    by_cases hkl : k < len
    · have hkI : (k : Int) < (len : Int) := by omega
      have k0 : (0 : Int) ≤ (k : Int) := by omega
      rcases HI.out with h0 | ⟨b, off, rfl, hbk, hc⟩
      · omega
      have hb0 := hL.bel
      have e0 : wr.cell? ⟨b, off + k, none⟩ = some (.int .i64 (z k)) := by rw [hb0.cell (p := ⟨b, off + k, none⟩) hbk]; exact hc k hkl
      have hLH : Hid (L1 w z k wr) := hL
      have hcH : Hid _ := hc
      have C1 : Hid (Calls Tryz.prog 15 #[.int .i64 (z k)] wr fun e w' => e = .returned (.string (B (textP (z k)))) ∧ Below wr.heap.size wr w') := text_any (z k) (HZ.out k) wr (HT.out _ hb0).p (HT.out _ hb0).m
      clear hL hc hb0
      go_wp2_with fail
      refine Calls.mono C1.out ?_
      rintro e w1 ⟨rfl, B1⟩
      clear C1 e0
      have C2 : Hid _ := L1.text HZ.out (show k ≤ 1048576 by omega) (L1.below hLH.out B1)
      clear B1
      go_wp2_with fail
      refine Calls.mono C2.out ?_
      rintro e w2 ⟨rfl, hL2⟩
      clear C2
      have hb2 := hL2.bel
      have e0 : w2.cell? ⟨b, off + k, none⟩ = some (.int .i64 (z k)) := by rw [hb2.cell (p := ⟨b, off + k, none⟩) hbk]; exact hcH.out k hkl
      have C1 : Hid (Calls Tryz.prog 16 #[.int .i64 (z k)] w2 fun e w' => e = .returned (.string (B (prT (z k)))) ∧ Below w2.heap.size w2 w') := print_any (z k) (HZ.out k) w2 (HT.out _ hb2).u (HT.out _ hb2).p
      have hL2H : Hid (L1a w z k w2) := hL2
      clear hL2 hb2
      go_wp2_with fail
      refine Calls.mono C1.out ?_
      rintro e w3 ⟨rfl, B3⟩
      clear C1 e0
      have C2 : Hid _ := L1a.text HZ.out (show k ≤ 1048576 by omega) (L1a.below hL2H.out B3)
      clear B3
      go_wp2_with fail
      refine Calls.mono C2.out ?_
      rintro e w4 ⟨rfl, hL4⟩
      have kw : IntKind.i64.wrap ((k : Int) + 1) = ((k + 1 : Nat) : Int) := IntWalk.i64_in _ (by omega)
      have hL4H : Hid (L1 w z (k + 1) w4) := hL4
      clear hL4
      go_wp2_with fail
      exact ⟨⟨k + 1, by omega, by first | rfl | simp, hL4H.out⟩, by simp [intOf]; omega⟩
    · have hke : k = len := by omega
      subst hke
      clear hkl
      have hn : ¬ (k : Int) < (k : Int) := by omega
      have hAl : (accT z k).length ≤ 67108864 := by have := accT_len z HZ.out k; omega
      have hAb := accT_lt z HZ.out k
      have hbb := hL.bel
      have C1 : Hid (∃ v, Wi.WS w.heap.size w 0 v (accT z k).length (Wi.enc (accT z k)) wr) := hL
      obtain ⟨L, hLL⟩ : ∃ L, L = accT z k := ⟨_, rfl⟩
      rw [← hLL] at hAl hAb C1
      have hAbH : Hid _ := hAb
      have hAlH : Hid _ := hAl
      have hLLH : Hid _ := hLL
      have C2 : Hid (Calls Tryz.prog 18 #[.pointer (some ⟨w.heap.size, 0, none⟩)] wr fun e w' => ∃ a c, e = .returned (.slice a L.length c) ∧ (L.length = 0 ∨ ∃ b off, a = some ⟨b, off, none⟩ ∧ b < w'.heap.size ∧ Wi.BytesAt w' b off L.length (Wi.natsOf L)) ∧ Below wr.heap.size wr w') := by
        obtain ⟨v, hv⟩ := C1.out
        exact wby hv hAb hAl
      clear C1 hAb hAl hLL hL
      go_wp2_with fail
      refine Calls.mono C2.out ?_
      rintro e w2 ⟨a2, c2, rfl, hB2, B2⟩
      have hb2 := Wi.below_then hbb B2
      have hB2H : Hid (Calls Tryz.prog 17 _ w2 _) := sl9 a2 c2 L w2 hAlH.out hB2 hAbH.out (HT.out _ hb2).s
      clear C2 hB2 hbb B2
      go_wp2_with fail
      refine Calls.mono hB2H.out ?_
      rintro e w3 ⟨g3, c3, rfl, hB3, hc3, hg3, B3⟩
      have hb3 := Wi.below_then hb2 B3
      have C3 : Hid (Calls Tryz.prog 20 _ w3 _) := op9 g3 c3 L w3 hAlH.out hAbH.out hB3 hc3 hg3 (HT.out _ hb3).s
      clear hB2H hB3 hc3 hg3 B3 hb2
      go_wp2_with fail
      refine Calls.mono C3.out ?_
      rintro e w4 ⟨g4, c4, rfl, hB4, B4⟩
      have hb4 := Wi.below_then hb3 B4
      have C4 : Hid (Calls Tryz.prog 21 _ w4 _) := Wi.new_ok g4 0 L.length c4 (Wi.natsOf L) w4 hB4
      clear C3 hB4 B4 hb3
      go_wp2_with fail
      refine Calls.mono C4.out ?_
      rintro e w5 ⟨N, a5, c5, rfl, hN, hR, B5⟩
      have hb5 := Wi.below_then hb4 B5
      have hNs : w.heap.size ≤ N := by have := hb4.size; omega
      have HR0 : Hid (L2 N w5 a5 c5 z k 0 w5) := by
        show L2 N w5 a5 c5 z k 0 w5
        unfold L2
        rw [← hLLH.out]; exact hR
      have HB5 : Hid (∀ W, Below N w5 W → Below w.heap.size w W) := fun W hb => hb5.trans (hb.mono hNs)
      clear C4 hN hR B5 hb4 hb5
      go_wp2_with fail
      go_loopw [12] (fun i wr => ∃ j : Nat, j ≤ k ∧ i = .int .i64 (j : Int) ∧ L2 N w5 a5 c5 z k j wr) (fun i _ => k - (intOf i).toNat)
      case atStart => exact ⟨0, Nat.zero_le _, rfl, HR0.out⟩
      case round =>
        clear HR0
        obtain ⟨j, hj, rfl, hL⟩ := hrel
        by_cases hjk : j < k
        · have hjI : (j : Int) < (k : Int) := by omega
          have j0 : (0 : Int) ≤ (j : Int) := by omega
          rcases HI.out with h0 | ⟨b, off, rfl, hbk, hc⟩
          · omega
          have C1 : Hid _ := L2.text HZ.out hjk hL
          clear hL
          go_wp2_with fail
          refine Calls.mono C1.out ?_
          rintro e w6 ⟨rfl, hL6⟩
          clear C1
          have hb6 := HB5.out _ (Wi.RR.b hL6)
          have hL6H : Hid (L2a N w5 a5 c5 z k j w6) := hL6
          have C2 : Hid (Calls Tryz.prog 12 #[.string (B (textP (z j)))] w6 fun e w' => e = .returned (.tuple #[.int .i64 (z j), .nilIface]) ∧ Below w6.heap.size w6 w') := by
            have H := time_any (B (textP (z j))) (by rw [B_size]; have := text_len2 (z j) (HZ.out j); omega) w6 (HT.out _ hb6).m
            rw [B_list, tm_text (z j) (HZ.out j)] at H; exact H
          clear hL6 hb6
          go_wp2_with fail
          refine Calls.mono C2.out ?_
          rintro e w7 ⟨rfl, B7⟩
          clear C2
          have C1 : Hid _ := L2a.text HZ.out hjk (L2a.below hL6H.out B7)
          clear B7
          go_wp2_with fail
          refine Calls.mono C1.out ?_
          rintro e w8 ⟨rfl, hL8⟩
          clear C1 hL6H
          have hb8 := HB5.out _ (Wi.RR.b hL8)
          have hL8H : Hid (L2 N w5 a5 c5 z k (j + 1) w8) := hL8
          have C2 : Hid (Calls Tryz.prog 7 #[.string (B (prT (z j)))] w8 fun e w' => e = .returned (.tuple #[.int .i64 (low (z j)), .nilIface]) ∧ Below w8.heap.size w8 w') := by
            have H := parse_any (B (prT (z j))) (by rw [B_size]; have := prT_len (z j) (HZ.out j); omega) w8 (HT.out _ hb8).u
            obtain ⟨h1, h2⟩ := prT_back (z j) (HZ.out j).1 (HZ.out j).2
            rw [B_list, h1, h2, erV_0] at H; exact H
          clear hL8
          have hcH : Hid _ := hc
          clear hc
          go_wp2_with fail
          refine Calls.mono C2.out ?_
          rintro e w9 ⟨rfl, B9⟩
          have hb9 := Wi.below_then hb8 B9
          have e0 : w9.cell? ⟨b, off + j, none⟩ = some (.int .i64 (z j)) := by rw [hb9.cell (p := ⟨b, off + j, none⟩) hbk]; exact hcH.out j hjk
          have hL9H : Hid (L2 N w5 a5 c5 z k (j + 1) w9) := L2.below hL8H.out B9
          have kw : IntKind.i64.wrap ((j : Int) + 1) = ((j + 1 : Nat) : Int) := IntWalk.i64_in _ (by omega)
          clear C2 hb8 hL8H B9 hb9
          by_cases hl : z j = -9223372036854775808
          · have e1 : low (z j) = -9223372036854775807 := by unfold low; rw [if_pos hl]
            rw [e1, hl]
            rw [hl] at e0
            clear e1 hl
            go_wp2_with fail
            exact ⟨⟨j + 1, by omega, by first | rfl | simp, hL9H.out⟩, by simp [intOf]; omega⟩
          · have e1 : low (z j) = z j := by unfold low; rw [if_neg hl]
            rw [e1]
            clear e1 hl
            go_wp2_with fail
            exact ⟨⟨j + 1, by omega, by first | rfl | simp, hL9H.out⟩, by simp [intOf]; omega⟩
        · have hke : j = k := by omega
          subst hke
          have C1 : Hid _ := Wi.done_ok (show Wi.RR _ _ _ _ _ _ (accT z j).length _ _ _ from hL) (by simp)
          clear hL
          go_wp2_with fail
          refine Calls.mono C1.out ?_
          rintro e w6 ⟨rfl, hR6, _⟩
          have hb6 := HB5.out _ hR6.b
          clear hR6 C1
          go_wp2_with fail
          go_ret
          exact ⟨rfl, hb6⟩
end Go.Proofs.YtipahdplkmmofaaGreatDoor
