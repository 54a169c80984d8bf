
import Derived.Test.YtepgcgphnjlcoaaDoorWwFq
namespace Go.Proofs.YtepgcgphnjlcoaaDoor
open Go.RowKit
set_option linter.unusedVariables false
set_option linter.unusedSimpArgs false
/-- the bit number q of bytes. -/
def bt (L : List Nat) (q : Nat) : Bool := (L.getD (q / 8) 0).testBit (7 - q % 8)
/-- how many bits were written. -/
def nbits (s : List Nat × Nat) : Nat := 8 * s.1.length - (8 - s.2) % 8
/-- L goes on from what s has. -/
def PRE (s : List Nat × Nat) (L : List Nat) : Prop := s.1.length ≤ L.length ∧ ∀ q, q < nbits s → bt L q = bt s.1 q
theorem getD_left (l r : List Nat) (i : Nat) (h : i < l.length) : (l ++ r).getD i 0 = l.getD i 0 := by
  simp [List.getD_eq_getElem?_getD, List.getElem?_append_left h]
theorem getD_right (l r : List Nat) (j : Nat) : (l ++ r).getD (l.length + j) 0 = r.getD j 0 := by
  simp [List.getD_eq_getElem?_getD, List.getElem?_append_right (Nat.le_add_right _ _)]
theorem bt_left (l r : List Nat) (q : Nat) (h : q < 8 * l.length) : bt (l ++ r) q = bt l q := by
  unfold bt; rw [getD_left l r _ (by omega)]
theorem CL.pos {l : List Nat} {b : Nat} (h : CL l b) (hb : b ≠ 0) : 0 < l.length := by
  obtain ⟨L, a, rfl, _⟩ := h.2.2 hb; simp
/-- one bit more. -/
theorem bitOn_bt {l : List Nat} {b bit : Nat} (h : CL l b) (hbit : bit < 2) :
    CL (bitOn bit (l, b)).1 (bitOn bit (l, b)).2 ∧ nbits (bitOn bit (l, b)) = nbits (l, b) + 1 ∧ l.length ≤ (bitOn bit (l, b)).1.length ∧ (∀ q, q < nbits (l, b) → bt (bitOn bit (l, b)).1 q = bt l q) ∧ bt (bitOn bit (l, b)).1 (nbits (l, b)) = decide (bit = 1) := by
  have h8 := h.1
  by_cases hb : b = 0
  · subst hb
    rw [bitOn_new bit hbit]
    have e : bit = 0 ∨ bit = 1 := by omega
    refine ⟨⟨by omega, fun y hy => ?_, fun _ => ⟨l, bit * 128, rfl, show bit * 128 % 2 ^ 7 = 0 by rcases e with rfl | rfl <;> decide⟩⟩, by simp [nbits]; omega, by simp, fun q hq => bt_left l _ q (by simp [nbits] at hq; omega), ?_⟩
    · rcases List.mem_append.1 hy with hy | hy
      · exact h.2.1 y hy
      · rw [List.mem_singleton.1 hy]; omega
    · have e1 : nbits (l, 0) = 8 * l.length := by simp [nbits]
      unfold bt
      rw [e1, show 8 * l.length / 8 = l.length + 0 by omega, getD_right, show 8 * l.length % 8 = 0 by omega]
      rcases e with rfl | rfl <;> decide
  · obtain ⟨L, a, rfl, hz⟩ := h.2.2 hb
    have ha : a < 256 := h.2.1 a (by simp)
    rw [bitOn_in bit hbit L a b (by omega) h8 ha hz]
    have en : nbits (L ++ [a], b) = 8 * L.length + b := by simp [nbits]; omega
    obtain ⟨k, hk⟩ := Nat.dvd_of_mod_eq_zero hz
    have e : bit = 0 ∨ bit = 1 := by omega
    have hp : 2 ^ (8 - b) = 2 ^ (7 - b) * 2 := by rw [← Nat.pow_succ]; congr 1; omega
    have hlt2 : 2 ^ (7 - b) < 2 ^ (8 - b) := Nat.pow_lt_pow_right (by omega) (by omega)
    have hsum : a + bit * 2 ^ (7 - b) = a ||| (bit * 2 ^ (7 - b)) := by
      have := Nat.two_pow_add_eq_or_of_lt (i := 8 - b) (b := bit * 2 ^ (7 - b)) (by rcases e with rfl | rfl <;> simp <;> omega) k
      rw [← hk] at this; exact this
    have hlt : a + bit * 2 ^ (7 - b) < 256 := by
      have : b = 1 ∨ b = 2 ∨ b = 3 ∨ b = 4 ∨ b = 5 ∨ b = 6 ∨ b = 7 := by omega
      rcases this with rfl | rfl | rfl | rfl | rfl | rfl | rfl <;> rcases e with rfl | rfl <;> simp at hz ⊢ <;> omega
    have hz2 : (a + bit * 2 ^ (7 - b)) % 2 ^ (7 - b) = 0 := by
      rw [hk, hp, Nat.mul_assoc, Nat.add_mod, Nat.mul_mod_right, Nat.mul_mod_left]; simp
    have tb : ∀ j, 7 - b ≤ j → (a + bit * 2 ^ (7 - b)).testBit j = if j = 7 - b then decide (bit = 1) else a.testBit j := by
      intro j hj
      have haz : a.testBit (7 - b) = false := by
        rw [hk, Nat.testBit_two_pow_mul]; simp; omega
      rw [hsum, Nat.testBit_or]
      rcases e with rfl | rfl
      · by_cases hj2 : j = 7 - b
        · subst hj2; simp [haz]
        · simp [hj2]
      · rw [Nat.one_mul, Nat.testBit_two_pow]
        by_cases hj2 : j = 7 - b
        · subst hj2; simp
        · have : ¬ 7 - b = j := fun e => hj2 e.symm
          simp [hj2, this]
    refine ⟨⟨by omega, fun y hy => ?_, fun hb2 => ⟨L, _, rfl, ?_⟩⟩, ?_, by simp, fun q hq => ?_, ?_⟩
    · rcases List.mem_append.1 hy with hy | hy
      · exact h.2.1 y (by simp [hy])
      · rw [List.mem_singleton.1 hy]; exact hlt
    · have : (b + 1) % 8 = b + 1 := by omega
      rw [this, show 8 - (b + 1) = 7 - b by omega]; exact hz2
    · rw [en]; simp only [nbits, List.length_append, List.length_singleton]; omega
    · rw [en] at hq
      unfold bt
      rcases Nat.lt_or_ge q (8 * L.length) with h1 | h1
      · rw [getD_left _ _ _ (by omega), getD_left _ _ _ (by omega)]
      · have e1 : q / 8 = L.length + 0 := by omega
        rw [e1, getD_right, getD_right]
        show (a + bit * 2 ^ (7 - b)).testBit (7 - q % 8) = a.testBit (7 - q % 8)
        rw [tb _ (by omega), if_neg (by omega)]
    · rw [en]
      unfold bt
      rw [show (8 * L.length + b) / 8 = L.length + 0 by omega, getD_right, show (8 * L.length + b) % 8 = b by omega]
      show (a + bit * 2 ^ (7 - b)).testBit (7 - b) = _
      rw [tb _ (by omega), if_pos rfl]
theorem bitsOn_bt (x : Nat) : ∀ (c : Nat) (l : List Nat) (b : Nat), CL l b →
    CL (bitsOn x c (l, b)).1 (bitsOn x c (l, b)).2 ∧ nbits (bitsOn x c (l, b)) = nbits (l, b) + c ∧ l.length ≤ (bitsOn x c (l, b)).1.length ∧ (∀ q, q < nbits (l, b) → bt (bitsOn x c (l, b)).1 q = bt l q) ∧ ∀ j, j < c → bt (bitsOn x c (l, b)).1 (nbits (l, b) + j) = decide (x / 2 ^ (c - 1 - j) % 2 = 1) := by
  intro c
  induction c with
  | zero => intro l b h; exact ⟨h, rfl, Nat.le_refl _, fun q hq => rfl, fun j hj => by omega⟩
  | succ c ih =>
    intro l b h
    obtain ⟨h1, h2, h3, h4, h5⟩ := bitOn_bt (bit := x / 2 ^ c % 2) h (Nat.mod_lt _ (by omega))
    obtain ⟨g1, g2, g3, g4, g5⟩ := ih _ _ h1
    have hp : bitsOn x (c + 1) (l, b) = bitsOn x c ((bitOn (x / 2 ^ c % 2) (l, b)).1, (bitOn (x / 2 ^ c % 2) (l, b)).2) := rfl
    rw [hp]
    have h2' : nbits ((bitOn (x / 2 ^ c % 2) (l, b)).1, (bitOn (x / 2 ^ c % 2) (l, b)).2) = nbits (l, b) + 1 := h2
    rw [h2'] at g2 g4 g5
    refine ⟨g1, by omega, Nat.le_trans h3 g3, fun q hq => by rw [g4 q (by omega)]; exact h4 q hq, fun j hj => ?_⟩
    rcases j with _ | j
    · rw [Nat.add_zero, g4 _ (by omega), h5, show c + 1 - 1 - 0 = c by omega]
    · have := g5 j (by omega)
      rw [show nbits (l, b) + (j + 1) = nbits (l, b) + 1 + j by omega, this, show c + 1 - 1 - (j + 1) = c - 1 - j by omega]
theorem PRE.trans {s t : List Nat × Nat} {L : List Nat} (h : PRE s t.1) (hn : nbits s ≤ nbits t) (k : PRE t L) : PRE s L :=
  ⟨Nat.le_trans h.1 k.1, fun q hq => by rw [k.2 q (by omega)]; exact h.2 q hq⟩
theorem nbits_le (l : List Nat) (b : Nat) : nbits (l, b) ≤ 8 * l.length := by unfold nbits; simp only; omega
theorem PRE.app {l : List Nat} {b : Nat} (r : List Nat) : PRE (l, b) (l ++ r) ∧ nbits (l, b) ≤ nbits (l ++ r, 0) :=
  ⟨⟨by simp, fun q hq => bt_left l r q (by have := nbits_le l b; omega)⟩, by have := nbits_le l b; simp [nbits] at *; omega⟩
/-- one thing more. -/
theorem opOn_pre (k : Int) (x : Nat) (bits : Int) (m : Nat) (bs : Nat → Nat) (l : List Nat) (b : Nat) (h : CL l b) : PRE (l, b) (opOn k x bits m bs (l, b)).1 ∧ nbits (l, b) ≤ nbits (opOn k x bits m bs (l, b)) := by
  unfold opOn
  split
  · exact PRE.app _
  split
  · exact PRE.app _
  split
  · exact PRE.app _
  split
  · exact PRE.app _
  split
  · exact PRE.app _
  split
  · obtain ⟨h1, h2, h3, h4, h5⟩ := bitsOn_bt x (broughtN bits) l b h
    exact ⟨⟨h3, h4⟩, by omega⟩
  · exact ⟨⟨Nat.le_refl _, fun q hq => rfl⟩, Nat.le_refl _⟩
/-- the same bits are the same bytes. -/
theorem byte_eq {a b : Nat} (ha : a < 256) (hb : b < 256) (h : ∀ j, j < 8 → a.testBit j = b.testBit j) : a = b := by
  apply Nat.eq_of_testBit_eq
  intro j
  rcases Nat.lt_or_ge j 8 with h1 | h1
  · exact h j h1
  · rw [Nat.testBit_lt_two_pow (Nat.lt_of_lt_of_le ha (Nat.pow_le_pow_right (n := 2) (by omega) h1)), Nat.testBit_lt_two_pow (Nat.lt_of_lt_of_le hb (Nat.pow_le_pow_right (n := 2) (by omega) h1))]
theorem PRE.byte {l L : List Nat} (h : PRE (l, 0) L) (hl : ∀ y ∈ l, y < 256) (hL : ∀ y ∈ L, y < 256) (i : Nat) (hi : i < l.length) : L.getD i 0 = l.getD i 0 := by
  have lt : ∀ (M : List Nat), (∀ y ∈ M, y < 256) → ∀ i, M.getD i 0 < 256 := by
    intro M hM i
    rw [List.getD_eq_getElem?_getD]
    cases e : M[i]? with
    | none => simp
    | some y => exact hM y (List.mem_of_getElem? e)
  refine byte_eq (lt L hL i) (lt l hl i) (fun j hj => ?_)
  have := h.2 (8 * i + (7 - j)) (by simp [nbits]; omega)
  unfold bt at this
  rw [show (8 * i + (7 - j)) / 8 = i by omega, show 7 - (8 * i + (7 - j)) % 8 = j by omega] at this
  exact this
end Go.Proofs.YtepgcgphnjlcoaaDoor
