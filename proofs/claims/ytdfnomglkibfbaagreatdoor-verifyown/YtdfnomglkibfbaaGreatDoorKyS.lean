
import Derived.Test.YtdfnomglkibfbaaGreatDoorKyI
import Derived.Test.YtdfnomglkibfbaaGreatDoorKyC
import Derived.Lib.SpaceUEq
import Derived.Laws.RangeAny
import Derived.Laws.RangeString
import Derived.Laws.Runes
import Derived.WalkMore
namespace Go.Proofs.YtdfnomglkibfbaaGreatDoor
open Go.RowKit Go.Shelf
set_option linter.unusedVariables false
set_option linter.unusedSimpArgs false
/-- a rune whose first byte is no ASCII: its number, how long it is. -/
theorem high_N (n b0 b1 b2 b3 : Nat) (h0 : 128 ≤ b0) (h : b0 < 256) (h1 : b1 < 256) (h2 : b2 < 256) (h3 : b3 < 256) (hn : 1 ≤ n) : 128 ≤ (Lib.decodeN n b0 b1 b2 b3).1 ∧ (Lib.decodeN n b0 b1 b2 b3).1 ≤ 1114111 ∧ 1 ≤ (Lib.decodeN n b0 b1 b2 b3).2 ∧ (Lib.decodeN n b0 b1 b2 b3).2 ≤ n ∧ ((Lib.decodeN n b0 b1 b2 b3).1 < 55296 ∨ 57344 ≤ (Lib.decodeN n b0 b1 b2 b3).1) := by
  unfold Lib.decodeN
  repeat' split
  all_goals (simp only; omega)
theorem high_decode (s : ByteArray) (i : Nat) (hi : i < s.size) (x : UInt8) (hx : s.data.toList[i]? = some x) (h128 : 128 ≤ x.toNat) :
    128 ≤ (Utf8.decode s i).1 ∧ (Utf8.decode s i).1 ≤ 1114111 ∧ ((Utf8.decode s i).1 < 55296 ∨ 57344 ≤ (Utf8.decode s i).1) ∧ 1 ≤ (Utf8.decode s i).2 ∧ i + (Utf8.decode s i).2 ≤ s.size ∧ ∀ j b, i ≤ j → j < i + (Utf8.decode s i).2 → s.data.toList[j]? = some b → 128 ≤ b.toNat := by
  have hget : ∀ j b, s.data.toList[j]? = some b → s.get! j = b := by
    intro j b hb
    rw [← Lib.getD_get!', List.getD, hb]; rfl
  have e0 := hget i x hx
  rw [Lib.decode_at]
  have hb : ∀ j, (s.get! j).toNat < 256 := fun j => UInt8.toNat_lt _
  have h := high_N (s.size - i) (s.get! i).toNat (s.get! (i + 1)).toNat (s.get! (i + 2)).toNat (s.get! (i + 3)).toNat (by rw [e0]; exact h128) (hb _) (hb _) (hb _) (hb _) (by omega)
  have hc := Lib.decodeN_conts (s.size - i) (s.get! i).toNat (s.get! (i + 1)).toNat (s.get! (i + 2)).toNat (s.get! (i + 3)).toNat
  refine ⟨h.1, h.2.1, h.2.2.2.2, h.2.2.1, by omega, ?_⟩
  intro j b hij hj hjb
  have ej := hget j b hjb
  obtain ⟨c1, c2, c3, c4⟩ := hc
  rcases Nat.eq_or_lt_of_le hij with h0 | h0
  · subst h0; rw [← ej, e0]; exact h128
  · rcases Nat.eq_or_lt_of_le h0 with h1 | h1
    · have := c1 (by omega); rw [← ej, ← h1]; have := this.1; simp only [Nat.succ_eq_add_one]; omega
    · rcases Nat.eq_or_lt_of_le h1 with h2 | h2
      · have := c2 (by omega); rw [← ej, ← h2]; have := this.1; simp only [Nat.succ_eq_add_one]; rw [show i + 1 + 1 = i + 2 by omega]; omega
      · rcases Nat.eq_or_lt_of_le h2 with h3 | h3
        · have := c3 (by omega); rw [← ej, ← h3]; have := this.1; simp only [Nat.succ_eq_add_one]; rw [show i + 1 + 1 + 1 = i + 3 by omega]; omega
        · simp only [Nat.succ_eq_add_one] at h3; omega
theorem ib_none : ∀ (l : List UInt8) (c : UInt8), (∀ b ∈ l, b ≠ c) → Lib.indexByte l c = -1
  | [], c, h => rfl
  | b :: r, c, h => by
    rw [Lib.indexByte, ib_none r c (fun x hx => h x (List.mem_cons_of_mem _ hx))]
    have := h b (by simp)
    simp [this]
theorem mk_low4 : ∀ i : Fin 4, ((⟨#[44, 32, 61, 92]⟩ : ByteArray)[i.val]'i.isLt).toNat < 128 := by decide
end Go.Proofs.YtdfnomglkibfbaaGreatDoor
