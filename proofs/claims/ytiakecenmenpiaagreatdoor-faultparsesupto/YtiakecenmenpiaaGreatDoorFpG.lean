
import Derived.Test.YtiakecenmenpiaaGreatDoorFpF
import Derived.Test.YtiakecenmenpiaaGreatDoorMakesA
namespace Go.Proofs.YtiakecenmenpiaaGreatDoor
open Go.RowKit
set_option linter.unusedVariables false
set_option linter.unusedSimpArgs false
theorem at_err (p c : Int) (h : (c == 0) = false) (w : World) : Calls Tryz.prog 15 #[.int .i64 p, .int .i64 c] w fun e w' => e = .returned (errV [(false, p)] c) ∧ w' = w := by
  go_enter Tryz.func15, Tryz.ntmps15
  go_wp2
  go_ret
  exact ⟨rfl, rfl⟩
/-- the layers of the error that was read. -/
def lk (a b : Int × Bool × List UInt8) : List (Bool × Int) := (if a.2.1 then [(true, a.1)] else []) ++ (if b.2.1 then [(false, b.1)] else [])
def RD (S : List UInt8) (e : Ending) : Prop :=
  (∃ c, I64' c ∧ c ≠ 0 ∧ nameL c = (unlabF atW (unlabF numW S).2.2).2.2 ∧ e = .returned (.tuple #[errV (lk (unlabF numW S) (unlabF atW (unlabF numW S).2.2)) c, .bool true])) ∨
  (nameL 0 = (unlabF atW (unlabF numW S).2.2).2.2 ∧ e = .returned (.tuple #[.nilIface, .bool true])) ∨
  ((∀ n, I64' n → nameL n ≠ (unlabF atW (unlabF numW S).2.2).2.2) ∧ e = .returned (.tuple #[.nilIface, .bool false]))
set_option maxRecDepth 100000 in
set_option maxHeartbeats 2000000 in
theorem read_any (S : List UInt8) (hs : S.length < 4294967281) (w : World) (hE : EV w) (hM : ML w) :
    Calls Tryz.prog 8 #[.string (B S)] w fun e w' => RD S e ∧ Below w.heap.size w w' := by
  have l1 := unlab_le numW S
  have l2 := unlab_le atW (unlabF numW S).2.2
  have k1 : Hid (∀ w, EV w → ML w → Calls Tryz.prog 19 #[.string (B S), .string ⟨#[110, 117, 109, 98, 101, 114, 32]⟩] w fun e w' => e = .returned (.tuple #[.int .i64 (unlabF numW S).1, .bool (unlabF numW S).2.1, .string (B (unlabF numW S).2.2)]) ∧ Below w.heap.size w w') := fun w h1 h2 => unlabel_any numW S hs w h1 h2
  have k2 : Hid (∀ w, EV w → ML w → Calls Tryz.prog 19 #[.string (B (unlabF numW S).2.2), .string ⟨#[97, 116, 32]⟩] w fun e w' => e = .returned (.tuple #[.int .i64 (unlabF atW (unlabF numW S).2.2).1, .bool (unlabF atW (unlabF numW S).2.2).2.1, .string (B (unlabF atW (unlabF numW S).2.2).2.2)]) ∧ Below w.heap.size w w') := fun w h1 h2 => unlabel_any atW _ (by omega) w h1 h2
  have k3 : Hid (∀ w, EV w → Calls Tryz.prog 20 #[.string (B (unlabF atW (unlabF numW S).2.2).2.2)] w fun e w' => FT (B (unlabF atW (unlabF numW S).2.2).2.2) e ∧ Below w.heap.size w w') := fun w h => find_any _ (by rw [B_size]; omega) w h
  have hRD : Hid (∀ e, ((∃ c, I64' c ∧ c ≠ 0 ∧ nameL c = (unlabF atW (unlabF numW S).2.2).2.2 ∧ e = .returned (.tuple #[errV (lk (unlabF numW S) (unlabF atW (unlabF numW S).2.2)) c, .bool true])) ∨ (nameL 0 = (unlabF atW (unlabF numW S).2.2).2.2 ∧ e = .returned (.tuple #[.nilIface, .bool true])) ∨ ((∀ n, I64' n → nameL n ≠ (unlabF atW (unlabF numW S).2.2).2.2) ∧ e = .returned (.tuple #[.nilIface, .bool false]))) → RD S e) := fun e h => h
  obtain ⟨a, ha⟩ : ∃ a, a = unlabF numW S := ⟨_, rfl⟩
  rw [← ha] at k1 k2 k3 hRD
  obtain ⟨b, hb⟩ : ∃ b, b = unlabF atW a.2.2 := ⟨_, rfl⟩
  rw [← hb] at k2 k3 hRD
  obtain ⟨a1, a2, a3⟩ := a
  obtain ⟨b1, b2, b3⟩ := b
  simp only at k1 k2 k3 hRD
  obtain ⟨SS, hSS⟩ : ∃ C, C = B S := ⟨_, rfl⟩
  obtain ⟨A3, hA3⟩ : ∃ C, C = B a3 := ⟨_, rfl⟩
  obtain ⟨B3, hB3⟩ : ∃ C, C = B b3 := ⟨_, rfl⟩
  rw [← hSS] at k1 ⊢
  rw [← hA3] at k1 k2
  rw [← hB3] at k2 k3
  have hB3H : Hid _ := hB3
  have hEH : Hid _ := hE
  have hMH : Hid _ := hM
  clear ha hb hSS hA3 hB3 hE hM l1 l2 hs
  go_enter Tryz.func8, Tryz.ntmps8
  go_wp2_with fail
  refine (k1.out _ hEH.out hMH.out).mono ?_
  rintro e1 w1 ⟨rfl, B1⟩
  go_wp2_with fail
  refine (k2.out _ (hEH.out.below B1) (ML.below hMH.out B1)).mono ?_
  rintro e2 w2 ⟨rfl, B2⟩
  have P2 := bthen B1 B2
  go_wp2_with fail
  refine (k3.out _ (hEH.out.below P2)).mono ?_
  rintro e3 w3 ⟨hf, BB3⟩
  have P3 := bthen P2 BB3
  clear B1 B2 BB3 P2
  rcases hf with ⟨c, hc, hT, rfl⟩ | ⟨hno, rfl⟩
  · have hnm : nameL c = b3 := by rw [← nameS_list, hT, hB3H.out, B_list]
    by_cases h0 : c = 0
    · subst h0
      have hR : Hid (∀ e, e = .returned (.tuple #[.nilIface, .bool true]) → RD S e) := fun e he => hRD.out e (Or.inr (Or.inl ⟨hnm, he⟩))
      clear hRD hnm hT hc
      go_wp2_with fail
      refine (new_zero _).mono ?_
      rintro e4 w4 ⟨rfl, rfl⟩
      cases a2 <;> cases b2
      · go_wp2_with fail
        go_ret2
        exact ⟨hR.out _ rfl, P3⟩
      · go_wp2_with fail
        refine (at_zero _ _).mono ?_
        rintro e5 w5 ⟨rfl, rfl⟩
        go_wp2_with fail
        go_ret2
        exact ⟨hR.out _ rfl, P3⟩
      · go_wp2_with fail
        refine (in_nil _ _).mono ?_
        rintro e5 w5 ⟨rfl, rfl⟩
        go_wp2_with fail
        go_ret2
        exact ⟨hR.out _ rfl, P3⟩
      · go_wp2_with fail
        refine (at_zero _ _).mono ?_
        rintro e5 w5 ⟨rfl, rfl⟩
        go_wp2_with fail
        refine (in_nil _ _).mono ?_
        rintro e5 w5 ⟨rfl, rfl⟩
        go_wp2_with fail
        go_ret2
        exact ⟨hR.out _ rfl, P3⟩
    · have hz : (c == 0) = false := by rw [beq_eq_false_iff_ne]; exact h0
      have hR : Hid (∀ e, e = .returned (.tuple #[errV (lk (a1, a2, a3) (b1, b2, b3)) c, .bool true]) → RD S e) := fun e he => hRD.out e (Or.inl ⟨c, hc, h0, hnm, he⟩)
      clear hRD hnm hT hc h0
      go_wp2_with fail
      refine (new_any c hz _).mono ?_
      rintro e4 w4 ⟨rfl, rfl⟩
      cases a2 <;> cases b2
      · go_wp2_with fail
        go_ret2
        exact ⟨hR.out _ rfl, P3⟩
      · go_wp2_with fail
        refine (at_err b1 c hz _).mono ?_
        rintro e5 w5 ⟨rfl, rfl⟩
        go_wp2_with fail
        go_ret2
        exact ⟨hR.out _ rfl, P3⟩
      · go_wp2_with fail
        refine (in_chain a1 [] c _).mono ?_
        rintro e5 w5 ⟨rfl, rfl⟩
        go_wp2_with fail
        go_ret2
        exact ⟨hR.out _ rfl, P3⟩
      · go_wp2_with fail
        refine (at_err b1 c hz _).mono ?_
        rintro e5 w5 ⟨rfl, rfl⟩
        go_wp2_with fail
        refine (in_chain a1 [(false, b1)] c _).mono ?_
        rintro e5 w5 ⟨rfl, rfl⟩
        go_wp2_with fail
        go_ret2
        exact ⟨hR.out _ rfl, P3⟩
  · have hR : Hid (∀ e, e = .returned (.tuple #[.nilIface, .bool false]) → RD S e) := fun e he => hRD.out e (Or.inr (Or.inr ⟨fun n hn h => hno n hn (by unfold nameS; rw [h, hB3H.out]; rfl), he⟩))
    clear hRD hno
    go_wp2_with fail
    go_ret2
    exact ⟨hR.out _ rfl, P3⟩
end Go.Proofs.YtiakecenmenpiaaGreatDoor
