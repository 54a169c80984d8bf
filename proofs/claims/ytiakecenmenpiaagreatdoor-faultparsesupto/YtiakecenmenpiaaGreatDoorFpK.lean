
import Derived.Test.YtiakecenmenpiaaGreatDoorFpB
import Derived.BigQuiet
namespace Go.Proofs.YtiakecenmenpiaaGreatDoor
open Go.RowKit
set_option linter.unusedVariables false
set_option linter.unusedSimpArgs false
/-- so many bytes of a number have been passed. -/
def dgI (L : List UInt8) (k : Nat) : Prop := k = 0 ∨ (1 ≤ k ∧ digF L = k + digs0 (L.drop k))
theorem drop_at (L : List UInt8) (k : Nat) (h : k < L.length) : L.drop k = L.getD k 0 :: L.drop (k + 1) := by
  rw [List.drop_eq_getElem_cons h, List.getD_eq_getElem?_getD, List.getElem?_eq_getElem h]; rfl
theorem dg_next {L : List UInt8} {k : Nat} (h : dgI L k) (hk : k < L.length) (hx : isD (L.getD k 0) = true ∨ (k = 0 ∧ L.getD k 0 = 45)) : dgI L (k + 1) := by
  right
  refine ⟨by omega, ?_⟩
  have hd := drop_at L k hk
  rcases h with rfl | ⟨h1, h2⟩
  · rw [List.drop_zero] at hd
    have : digF L = digs0 (L.drop 1) + 1 := by
      conv => lhs; rw [hd]
      simp only [digF]
      rw [if_pos]
      rcases hx with hx | ⟨_, hx⟩
      · rw [hx]; rfl
      · rw [hx]; decide
    rw [this]; simp only [Nat.zero_add]; omega
  · rcases hx with hx | ⟨hx, _⟩
    · rw [h2, hd]
      simp only [digs0]
      rw [if_pos hx]; omega
    · omega
theorem dg_end {L : List UInt8} {k : Nat} (h : dgI L k) (hx : k < L.length → isD (L.getD k 0) = false ∧ ¬ (k = 0 ∧ L.getD k 0 = 45)) (hk : k ≤ L.length) : digF L = k := by
  rcases Nat.lt_or_ge k L.length with hlt | hge
  · obtain ⟨x1, x2⟩ := hx hlt
    have hd := drop_at L k hlt
    rcases h with rfl | ⟨h1, h2⟩
    · rw [List.drop_zero] at hd
      conv => lhs; rw [hd]
      simp only [digF]
      rw [if_neg]
      rw [x1]
      simp only [Bool.false_or, beq_iff_eq]
      exact fun hq => x2 ⟨rfl, hq⟩
    · rw [h2, hd]
      simp only [digs0]
      rw [if_neg (by rw [x1]; decide)]; rfl
  · obtain rfl : k = L.length := by omega
    rcases h with h0 | ⟨h1, h2⟩
    · have : L = [] := List.eq_nil_of_length_eq_zero h0
      rw [this]; rfl
    · rw [h2, List.drop_length]; rfl
theorem get_nat (T : ByteArray) (k : Nat) (h : k < T.size) : (T.data.toList.getD k 0).toNat = (T[k]'h).toNat := by
  have h2 : k < T.data.toList.length := h
  rw [List.getD_eq_getElem?_getD, List.getElem?_eq_getElem h2]; rfl
theorem digF_le (L : List UInt8) : digF L ≤ L.length := by
  have h0 : ∀ l : List UInt8, digs0 l ≤ l.length := by
    intro l
    induction l with
    | nil => exact Nat.le_refl _
    | cons c l ih => simp only [digs0]; split; simp; exact ih; omega
  cases L with
  | nil => exact Nat.le_refl _
  | cons c l => simp only [digF]; have := h0 l; split; simp; exact this; omega
set_option maxRecDepth 100000 in
set_option maxHeartbeats 2000000 in
theorem digits_any (T : ByteArray) (hs : T.size ≤ 281474976710656) (w : World) : Calls Tryz.prog 26 #[.string T] w fun e w' => e = .returned (.int .i64 (digF T.data.toList : Int)) ∧ w' = w := by
  go_enter Tryz.func26, Tryz.ntmps26
  go_wp2_with fail
  go_loop [3] (fun i => ∃ k : Nat, i = .int .i64 (k : Int) ∧ k ≤ T.size ∧ dgI T.data.toList k) (fun i => T.size - (intOf i).toNat)
  case atStart => exact ⟨0, rfl, Nat.zero_le _, Or.inl rfl⟩
  case round =>
    obtain ⟨k, rfl, hk, hI⟩ := hrel
    have hTl : T.data.toList.length = T.size := rfl
    by_cases hlt : k < T.size
    · have kI : (k : Int) < (T.size : Int) := by omega
      have k0 : (0 : Int) ≤ (k : Int) := by omega
      have hg := get_nat T k hlt
      have hIH : Hid _ := hI
      have e45 : ((T[k]'hlt).toNat = 45) ↔ T.data.toList.getD k 0 = 45 := by
        rw [← hg]
        constructor
        · intro h; exact UInt8.toNat_inj.1 (by rw [h]; rfl)
        · intro h; rw [h]; rfl
      have hnx : Hid ((48 ≤ (T[k]'hlt).toNat ∧ (T[k]'hlt).toNat ≤ 57) ∨ (k = 0 ∧ (T[k]'hlt).toNat = 45) → dgI T.data.toList (k + 1)) := fun h => by
        refine dg_next hI (by omega) ?_
        rcases h with h | h
        · left; unfold isD; rw [hg]; exact decide_eq_true h
        · right; exact ⟨h.1, e45.1 h.2⟩
      have hen : Hid (¬ (48 ≤ (T[k]'hlt).toNat ∧ (T[k]'hlt).toNat ≤ 57) → ¬ (k = 0 ∧ (T[k]'hlt).toNat = 45) → digF T.data.toList = k) := fun h1 h2 => by
        refine dg_end hI (fun _ => ⟨?_, fun h => h2 ⟨h.1, e45.2 h.2⟩⟩) (by omega)
        unfold isD; rw [hg]; exact decide_eq_false h1
      clear hg hI e45
      by_cases d1 : 48 ≤ (T[k]'hlt).toNat
      · have d1I : (48 : Int) ≤ ((T[k]'hlt).toNat : Int) := by omega
        by_cases d2 : (T[k]'hlt).toNat ≤ 57
        · have d2I : ((T[k]'hlt).toNat : Int) ≤ 57 := by omega
          have hn : Hid _ := hnx.out (Or.inl ⟨d1, d2⟩)
          clear hnx hen d1 d2
          go_wp2_with fail
          go_round
          case rel => exact ⟨k + 1, by go_num, by omega, hn.out⟩
          case measure => simp [intOf]; omega
        · have d2I : ¬ ((T[k]'hlt).toNat : Int) ≤ 57 := by omega
          have d3 : (((T[k]'hlt).toNat : Int) == 45) = false := by rw [beq_eq_false_iff_ne]; omega
          have hn : Hid _ := hen.out (by omega) (by omega)
          by_cases kz : k = 0
          · subst kz
            clear hnx hen d1 d2
            go_wp2_with fail
            go_ret
            exact ⟨by rw [hn.out]; rfl, rfl⟩
          · have kzb : ((k : Int) == 0) = false := by rw [beq_eq_false_iff_ne]; omega
            clear hnx hen d1 d2
            go_wp2_with fail
            go_ret
            exact ⟨by rw [hn.out]; rfl, rfl⟩
      · have d1I : ¬ (48 : Int) ≤ ((T[k]'hlt).toNat : Int) := by omega
        by_cases kz : k = 0
        · by_cases d3 : (T[k]'hlt).toNat = 45
          · have d3b : (((T[k]'hlt).toNat : Int) == 45) = true := by rw [beq_iff_eq]; omega
            have hn : Hid _ := hnx.out (Or.inr ⟨kz, d3⟩)
            subst kz
            clear hnx hen d1 d3
            go_wp2_with fail
            go_round
            case rel => exact ⟨0 + 1, by go_num, by omega, hn.out⟩
            case measure => simp [intOf]; omega
          · have d3b : (((T[k]'hlt).toNat : Int) == 45) = false := by rw [beq_eq_false_iff_ne]; omega
            have hn : Hid _ := hen.out (by omega) (by omega)
            subst kz
            clear hnx hen d1 d3
            go_wp2_with fail
            go_ret
            exact ⟨by rw [hn.out]; rfl, rfl⟩
        · have kzb : ((k : Int) == 0) = false := by rw [beq_eq_false_iff_ne]; omega
          have hn : Hid _ := hen.out (by omega) (by omega)
          clear hnx hen d1
          go_wp2_with fail
          go_ret
          exact ⟨by rw [hn.out]; rfl, rfl⟩
    · have kI : ¬ (k : Int) < (T.size : Int) := by omega
      have hn : Hid (digF T.data.toList = k) := dg_end hI (fun h => absurd h (by omega)) (by omega)
      clear hI
      go_wp2_with fail
      go_ret
      exact ⟨by rw [hn.out]; rfl, rfl⟩
end Go.Proofs.YtiakecenmenpiaaGreatDoor
