
import Derived.Test.YtpicgjjbpiinfaaGreatDoorBuT
import Derived.Test.YtpicgjjbpiinfaaGreatDoorBuP
import Derived.Test.YtpicgjjbpiinfaaGreatDoorUvFq
import Derived.Test.YtpicgjjbpiinfaaGreatDoorBlFq
namespace Go.Proofs.YtpicgjjbpiinfaaGreatDoor
open Go.RowKit
set_option linter.unusedVariables false
set_option linter.unusedSimpArgs false
/-- a Reader and the row of times. -/
structure TQ (N : Nat) (w2 : World) (a : Option Addr) (n cap : Nat) (bs : Nat → Nat) (B : Nat) (s : PS) (L : List Int) (l : Value) (wr : World) : Prop where
  rb : QB N w2 a n cap bs s wr
  own : wr.ownsRow B 2 1 l L.length (encI (ttL L) L.length)
  hN : N < B
  hr : n = 0 ∨ ∀ b off, a = some ⟨b, off, none⟩ → b < B
  hB : B ≤ wr.heap.size
section
variable {N : Nat} {w2 : World} {a : Option Addr} {n cap : Nat} {bs : Nat → Nat} {B : Nat} {s : PS} {L : List Int} {l : Value} {wr : World}
theorem TQ.rd (h : TQ N w2 a n cap bs B s L l wr) {s' : PS} {w' : World} (hR : QB N w2 a n cap bs s' w') (hF : RF N wr w') : TQ N w2 a n cap bs B s' L l w' :=
  ⟨hR, own_RF h.own hF h.hN, h.hN, h.hr, Nat.le_trans h.hB hF.size⟩
theorem TQ.app (h : TQ N w2 a n cap bs B s L l wr) (hL : L.length < 1048576) (x : Int) : ∃ g c w', (Builtin.append_ #[24, 24] 24 #[l, .slice (some ⟨wr.heap.size, 0, none⟩) 1 1]).run Tryz.prog (wr.alloc (.cells #[.int .i64 x] 2)) = .ok (.slice (some ⟨g, 0, none⟩) (L.length + 1) c) w' ∧ TQ N w2 a n cap bs B s (L ++ [x]) (.slice (some ⟨g, 0, none⟩) (L.length + 1) c) w' := by
  obtain ⟨g, c, w', hr, ho, _, _, hB⟩ := app1I wr B l L.length _ h.own h.hB x (by omega)
  exact ⟨g, c, w', hr, h.rb.above hB h.hN h.hr, by rw [encI_L]; simpa using ho, h.hN, h.hr, Nat.le_trans h.hB hB.size⟩
theorem TQ.start {w1 w2 : World} (hR : QB N w1 a n cap bs s w2) : TQ N w1 a n cap bs w2.heap.size s [] (.slice none 0 0) w2 := by
  have hrow : n = 0 ∨ ∀ b off, a = some ⟨b, off, none⟩ → b < w2.heap.size := by
    rcases QR.row hR with h0 | ⟨b, off, e, hb, _⟩
    · exact Or.inl h0
    · exact Or.inr fun b' off' e' => by rw [e] at e'; injection e' with e'; injection e' with e1; omega
  exact ⟨hR, World.ownsRow_nil _ _ _ _, (QR.sz hR), hrow, Nat.le_refl _⟩
end
theorem TQ.below {N : Nat} {w2 : World} {a : Option Addr} {n cap : Nat} {bs : Nat → Nat} {B : Nat} {s : PS} {L : List Int} {l : Value} {wr w' : World} (h : TQ N w2 a n cap bs B s L l wr) (hB : Below wr.heap.size wr w') : TQ N w2 a n cap bs B s L l w' :=
  h.rd (QR.below h.rb hB) (RF.below hB)
theorem qb_int {N : Nat} {w1 : World} {a : Option Addr} {n cap : Nat} {bs : Nat → Nat} {s : PS} {w : World} (h : QB N w1 a n cap bs s w) : Calls Tryz.prog 28 #[.pointer (some ⟨N, 0, none⟩)] w fun e w' => e = .returned (.int .i64 (unfoldN (uintT bs n 18446744073709551615 s).2)) ∧ QB N w1 a n cap bs (uintT bs n 18446744073709551615 s).1 w' ∧ RF N w w' := by
  refine (dInt_gen h).mono ?_
  rintro e w' ⟨⟨p', r', fv', v, hG, rfl, hR⟩, hF⟩
  have hT := hG.toT
  rw [show (⟨s.p, s.r, s.fv⟩ : PS) = s from rfl] at hT
  rw [hT]
  exact ⟨rfl, hR, hF⟩
section
variable {N : Nat} {w1 : World} {a : Option Addr} {n cap : Nat} {bs : Nat → Nat} {s : PS} {w : World}
set_option maxRecDepth 100000 in
set_option maxHeartbeats 8000000 in
theorem dstep_any (h : QB N w1 a n cap bs s w) : Calls Tryz.prog 29 #[.pointer (some ⟨N, 0, none⟩)] w fun e w' => e = .returned (.int .u64 ((turnT bs n s).2 % 18446744073709551616)) ∧ QB N w1 a n cap bs (turnT bs n s).1 w' ∧ RF N w w' := by
  have hH : Hid (QB N w1 a n cap bs s w) := h
  clear h
  go_enter Tryz.func29, Tryz.ntmps29
  go_wp2_with fail
  go_loopw [3] (fun ld wr => ∃ k : Nat, k ≤ 4 ∧ ld = .int .i64 (k : Int) ∧ QB N w1 a n cap bs (ones bs n s k) wr ∧ RF N w wr ∧ ∀ j, j < k → (bitsT bs n 1 (ones bs n s j)).2 = 1) (fun ld _ => 4 - (intOf ld).toNat)
  case atStart => exact ⟨0, by omega, rfl, hH.out, RF.refl _ _, fun j hj => by omega⟩
  case round =>
    clear hH
    obtain ⟨k, hk, rfl, hR, hF, ho⟩ := hrel
    have hk5 : k = 0 ∨ k = 1 ∨ k = 2 ∨ k = 3 ∨ k = 4 := by omega
    rcases hk5 with rfl | rfl | rfl | rfl | rfl
    · simp only [show ((0 : Nat) : Int) = 0 from rfl]
      have hoH : Hid _ := ho
      have hFH : Hid _ := hF
      rcases qb_bit hR with ⟨s1, e1, hC⟩ | ⟨s1, e1, hC⟩
      · clear hR hF ho
        go_wp2_with fail
        refine Calls.mono hC.out ?_
        rintro e w5 ⟨rfl, hR5, hF5⟩
        have hT : Hid (turnT bs n s = (s1, 0)) := (by
          have e1' : bitsT bs n 1 s = (s1, 0) := e1
          unfold turnT; rw [if_pos (by rw [e1']), e1'] : turnT bs n s = (s1, 0))
        have hend : Hid (QB N w1 a n cap bs s1 w5 ∧ RF N w w5) := ⟨hR5, hFH.out.trans hF5⟩
        clear hC hR5 hF5 hFH hoH e1
        go_wp2_with fail
        go_ret
        rw [hT.out]
        exact ⟨rfl, hend.out⟩
      · have hfin : Hid (∀ w5, QB N w1 a n cap bs s1 w5 → RF N wr w5 → QB N w1 a n cap bs (ones bs n s (0 + 1)) w5 ∧ RF N w w5 ∧ ∀ j, j < 0 + 1 → (bitsT bs n 1 (ones bs n s j)).2 = 1) := (by
          intro w5 h5 f5
          have e2 : ones bs n s (0 + 1) = s1 := by show (bitsT bs n 1 (ones bs n s 0)).1 = s1; rw [e1]
          refine ⟨by rw [e2]; exact h5, hFH.out.trans f5, fun j hj => ?_⟩
          rcases Nat.lt_or_ge j 0 with h | h
          · exact hoH.out j h
          · obtain rfl : j = 0 := by omega
            rw [e1] : ∀ w5, QB N w1 a n cap bs s1 w5 → RF N wr w5 → QB N w1 a n cap bs (ones bs n s (0 + 1)) w5 ∧ RF N w w5 ∧ ∀ j, j < 0 + 1 → (bitsT bs n 1 (ones bs n s j)).2 = 1)
        clear hR hF hFH ho hoH e1
        go_wp2_with fail
        refine Calls.mono hC.out ?_
        rintro e w5 ⟨rfl, hR5, hF5⟩
        have hf5 := hfin.out w5 hR5 hF5
        have hf5H : Hid _ := hf5
        clear hC hR5 hF5 hf5 hfin
        go_wp2_with fail
        go_roundw
        case rel => exact ⟨0 + 1, by omega, by first | rfl | go_num, hf5H.out⟩
        case measure => simp [intOf]
    · simp only [show ((1 : Nat) : Int) = 1 from rfl]
      have hoH : Hid _ := ho
      have hFH : Hid _ := hF
      rcases qb_bit hR with ⟨s1, e1, hC⟩ | ⟨s1, e1, hC⟩
      · clear hR hF ho
        go_wp2_with fail
        refine Calls.mono hC.out ?_
        rintro e w5 ⟨rfl, hR5, hF5⟩
        obtain ⟨x, s2, ex, hx, hC2⟩ := qb_bitsL hR5 7 7 rfl (by omega)
        have hx' : x < 128 := hx
        have hT : Hid (turnT bs n s = (s2, (x : Int) - 63)) := (by
          have e1' : bitsT bs n 1 (bitsT bs n 1 s).1 = (s1, 0) := e1
          unfold turnT; rw [if_neg (by have := hoH.out 0 (by omega); simp only [ones] at this; omega)]; rw [if_pos (by rw [e1'])]
          simp only [e1', ex] : turnT bs n s = (s2, (x : Int) - 63))
        have hF5' : Hid _ := hFH.out.trans hF5
        clear hC hR5 hF5 hFH hoH e1 ex hx
        go_wp2_with fail
        refine Calls.mono hC2.out ?_
        rintro e w6 ⟨rfl, hR6, hF6⟩
        have hend : Hid (QB N w1 a n cap bs s2 w6 ∧ RF N w w6) := ⟨hR6, hF5'.out.trans hF6⟩
        have hw : IntKind.u64.wrap ((x : Int) - 63) = ((x : Int) - 63) % 18446744073709551616 := IntKind.wrap_u64 _
        clear hC2 hR6 hF6 hF5'
        go_wp2_with fail
        go_ret
        rw [hT.out]
        exact ⟨rfl, hend.out⟩
      · have hfin : Hid (∀ w5, QB N w1 a n cap bs s1 w5 → RF N wr w5 → QB N w1 a n cap bs (ones bs n s (1 + 1)) w5 ∧ RF N w w5 ∧ ∀ j, j < 1 + 1 → (bitsT bs n 1 (ones bs n s j)).2 = 1) := (by
          intro w5 h5 f5
          have e2 : ones bs n s (1 + 1) = s1 := by show (bitsT bs n 1 (ones bs n s 1)).1 = s1; rw [e1]
          refine ⟨by rw [e2]; exact h5, hFH.out.trans f5, fun j hj => ?_⟩
          rcases Nat.lt_or_ge j 1 with h | h
          · exact hoH.out j h
          · obtain rfl : j = 1 := by omega
            rw [e1] : ∀ w5, QB N w1 a n cap bs s1 w5 → RF N wr w5 → QB N w1 a n cap bs (ones bs n s (1 + 1)) w5 ∧ RF N w w5 ∧ ∀ j, j < 1 + 1 → (bitsT bs n 1 (ones bs n s j)).2 = 1)
        clear hR hF hFH ho hoH e1
        go_wp2_with fail
        refine Calls.mono hC.out ?_
        rintro e w5 ⟨rfl, hR5, hF5⟩
        have hf5 := hfin.out w5 hR5 hF5
        have hf5H : Hid _ := hf5
        clear hC hR5 hF5 hf5 hfin
        go_wp2_with fail
        go_roundw
        case rel => exact ⟨1 + 1, by omega, by first | rfl | go_num, hf5H.out⟩
        case measure => simp [intOf]
    · simp only [show ((2 : Nat) : Int) = 2 from rfl]
      have hoH : Hid _ := ho
      have hFH : Hid _ := hF
      rcases qb_bit hR with ⟨s1, e1, hC⟩ | ⟨s1, e1, hC⟩
      · clear hR hF ho
        go_wp2_with fail
        refine Calls.mono hC.out ?_
        rintro e w5 ⟨rfl, hR5, hF5⟩
        obtain ⟨x, s2, ex, hx, hC2⟩ := qb_bitsL hR5 9 9 rfl (by omega)
        have hx' : x < 512 := hx
        have hT : Hid (turnT bs n s = (s2, (x : Int) - 255)) := (by
          have e1' : bitsT bs n 1 (bitsT bs n 1 (bitsT bs n 1 s).1).1 = (s1, 0) := e1
          unfold turnT; rw [if_neg (by have := hoH.out 0 (by omega); simp only [ones] at this; omega)]; rw [if_neg (by have := hoH.out 1 (by omega); simp only [ones] at this; omega)]; rw [if_pos (by rw [e1'])]
          simp only [e1', ex] : turnT bs n s = (s2, (x : Int) - 255))
        have hF5' : Hid _ := hFH.out.trans hF5
        clear hC hR5 hF5 hFH hoH e1 ex hx
        go_wp2_with fail
        refine Calls.mono hC2.out ?_
        rintro e w6 ⟨rfl, hR6, hF6⟩
        have hend : Hid (QB N w1 a n cap bs s2 w6 ∧ RF N w w6) := ⟨hR6, hF5'.out.trans hF6⟩
        have hw : IntKind.u64.wrap ((x : Int) - 255) = ((x : Int) - 255) % 18446744073709551616 := IntKind.wrap_u64 _
        clear hC2 hR6 hF6 hF5'
        go_wp2_with fail
        go_ret
        rw [hT.out]
        exact ⟨rfl, hend.out⟩
      · have hfin : Hid (∀ w5, QB N w1 a n cap bs s1 w5 → RF N wr w5 → QB N w1 a n cap bs (ones bs n s (2 + 1)) w5 ∧ RF N w w5 ∧ ∀ j, j < 2 + 1 → (bitsT bs n 1 (ones bs n s j)).2 = 1) := (by
          intro w5 h5 f5
          have e2 : ones bs n s (2 + 1) = s1 := by show (bitsT bs n 1 (ones bs n s 2)).1 = s1; rw [e1]
          refine ⟨by rw [e2]; exact h5, hFH.out.trans f5, fun j hj => ?_⟩
          rcases Nat.lt_or_ge j 2 with h | h
          · exact hoH.out j h
          · obtain rfl : j = 2 := by omega
            rw [e1] : ∀ w5, QB N w1 a n cap bs s1 w5 → RF N wr w5 → QB N w1 a n cap bs (ones bs n s (2 + 1)) w5 ∧ RF N w w5 ∧ ∀ j, j < 2 + 1 → (bitsT bs n 1 (ones bs n s j)).2 = 1)
        clear hR hF hFH ho hoH e1
        go_wp2_with fail
        refine Calls.mono hC.out ?_
        rintro e w5 ⟨rfl, hR5, hF5⟩
        have hf5 := hfin.out w5 hR5 hF5
        have hf5H : Hid _ := hf5
        clear hC hR5 hF5 hf5 hfin
        go_wp2_with fail
        go_roundw
        case rel => exact ⟨2 + 1, by omega, by first | rfl | go_num, hf5H.out⟩
        case measure => simp [intOf]
    · simp only [show ((3 : Nat) : Int) = 3 from rfl]
      have hoH : Hid _ := ho
      have hFH : Hid _ := hF
      rcases qb_bit hR with ⟨s1, e1, hC⟩ | ⟨s1, e1, hC⟩
      · clear hR hF ho
        go_wp2_with fail
        refine Calls.mono hC.out ?_
        rintro e w5 ⟨rfl, hR5, hF5⟩
        obtain ⟨x, s2, ex, hx, hC2⟩ := qb_bitsL hR5 12 12 rfl (by omega)
        have hx' : x < 4096 := hx
        have hT : Hid (turnT bs n s = (s2, (x : Int) - 2047)) := (by
          have e1' : bitsT bs n 1 (bitsT bs n 1 (bitsT bs n 1 (bitsT bs n 1 s).1).1).1 = (s1, 0) := e1
          unfold turnT; rw [if_neg (by have := hoH.out 0 (by omega); simp only [ones] at this; omega)]; rw [if_neg (by have := hoH.out 1 (by omega); simp only [ones] at this; omega)]; rw [if_neg (by have := hoH.out 2 (by omega); simp only [ones] at this; omega)]; rw [if_pos (by rw [e1'])]
          simp only [e1', ex] : turnT bs n s = (s2, (x : Int) - 2047))
        have hF5' : Hid _ := hFH.out.trans hF5
        clear hC hR5 hF5 hFH hoH e1 ex hx
        go_wp2_with fail
        refine Calls.mono hC2.out ?_
        rintro e w6 ⟨rfl, hR6, hF6⟩
        have hend : Hid (QB N w1 a n cap bs s2 w6 ∧ RF N w w6) := ⟨hR6, hF5'.out.trans hF6⟩
        have hw : IntKind.u64.wrap ((x : Int) - 2047) = ((x : Int) - 2047) % 18446744073709551616 := IntKind.wrap_u64 _
        clear hC2 hR6 hF6 hF5'
        go_wp2_with fail
        go_ret
        rw [hT.out]
        exact ⟨rfl, hend.out⟩
      · have hfin : Hid (∀ w5, QB N w1 a n cap bs s1 w5 → RF N wr w5 → QB N w1 a n cap bs (ones bs n s (3 + 1)) w5 ∧ RF N w w5 ∧ ∀ j, j < 3 + 1 → (bitsT bs n 1 (ones bs n s j)).2 = 1) := (by
          intro w5 h5 f5
          have e2 : ones bs n s (3 + 1) = s1 := by show (bitsT bs n 1 (ones bs n s 3)).1 = s1; rw [e1]
          refine ⟨by rw [e2]; exact h5, hFH.out.trans f5, fun j hj => ?_⟩
          rcases Nat.lt_or_ge j 3 with h | h
          · exact hoH.out j h
          · obtain rfl : j = 3 := by omega
            rw [e1] : ∀ w5, QB N w1 a n cap bs s1 w5 → RF N wr w5 → QB N w1 a n cap bs (ones bs n s (3 + 1)) w5 ∧ RF N w w5 ∧ ∀ j, j < 3 + 1 → (bitsT bs n 1 (ones bs n s j)).2 = 1)
        clear hR hF hFH ho hoH e1
        go_wp2_with fail
        refine Calls.mono hC.out ?_
        rintro e w5 ⟨rfl, hR5, hF5⟩
        have hf5 := hfin.out w5 hR5 hF5
        have hf5H : Hid _ := hf5
        clear hC hR5 hF5 hf5 hfin
        go_wp2_with fail
        go_roundw
        case rel => exact ⟨3 + 1, by omega, by first | rfl | go_num, hf5H.out⟩
        case measure => simp [intOf]
    · have hkI : ¬ (4 : Int) < 4 := by omega
      simp only [show ((4 : Nat) : Int) = 4 from rfl]
      obtain ⟨x, s2, ex, hx, hC⟩ := qb_bitsL hR 64 64 rfl (by omega)
      have hx64 : x < 18446744073709551616 := hx
      have hT : Hid (turnT bs n s = (s2, wrap64 (x : Int))) := (by
        unfold turnT
        rw [if_neg (by have := ho 0 (by omega); simp only [ones] at this; omega), if_neg (by have := ho 1 (by omega); simp only [ones] at this; omega), if_neg (by have := ho 2 (by omega); simp only [ones] at this; omega), if_neg (by have := ho 3 (by omega); simp only [ones] at this; omega)]
        simp only [ones] at ex
        simp only [ex] : turnT bs n s = (s2, wrap64 (x : Int)))
      have hFH : Hid _ := hF
      clear hR hF ho ex hx
      go_wp2_with fail
      refine Calls.mono hC.out ?_
      rintro e w5 ⟨rfl, hR5, hF5⟩
      have hfin : Hid (QB N w1 a n cap bs s2 w5 ∧ RF N w w5) := ⟨hR5, hFH.out.trans hF5⟩
      clear hC hR5 hF5 hFH
      go_wp2_with fail
      go_ret
      rw [hT.out]
      refine ⟨?_, hfin.out⟩
      have e8 : wrap64 (x : Int) % 18446744073709551616 = (x : Int) := by unfold wrap64; omega
      show Ending.returned (.int .u64 (x : Int)) = Ending.returned (.int .u64 (wrap64 (x : Int) % 18446744073709551616))
      rw [e8]
end
end Go.Proofs.YtpicgjjbpiinfaaGreatDoor
