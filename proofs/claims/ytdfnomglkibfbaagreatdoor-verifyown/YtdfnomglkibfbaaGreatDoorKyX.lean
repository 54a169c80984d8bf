
import Derived.Test.YtdfnomglkibfbaaGreatDoorKyS
import Derived.Test.YtdfnomglkibfbaaGreatDoorKyD
import Derived.Lib.TrimUEq
namespace Go.Proofs.YtdfnomglkibfbaaGreatDoor
open Go.RowKit Go.Shelf
set_option linter.unusedVariables false
set_option linter.unusedSimpArgs false
/-- the loop of weirref05.Wide. -/
def wT (s : ByteArray) (n least : Nat) : Nat → Nat → Nat → Nat
  | 0, _, v => if v < least ∨ (55296 ≤ v ∧ v < 57344) ∨ 1114111 < v then 0 else n
  | f + 1, k, v => if k < s.size then (if (s.get! k).toNat < 128 ∨ 192 ≤ (s.get! k).toNat then 0 else wT s n least f (k + 1) (v * 64 + ((s.get! k).toNat - 128))) else 0
def wideB (s : ByteArray) : Nat :=
  if s.size = 0 then 0 else if (s.get! 0).toNat < 128 then 1 else if (s.get! 0).toNat < 194 then 0 else if (s.get! 0).toNat < 224 then wT s 2 128 1 1 ((s.get! 0).toNat - 192)
  else if (s.get! 0).toNat < 240 then wT s 3 2048 2 1 ((s.get! 0).toNat - 224) else if (s.get! 0).toNat < 245 then wT s 4 65536 3 1 ((s.get! 0).toNat - 240) else 0
def wideN (n b0 b1 b2 b3 : Nat) : Nat :=
  if b0 < 128 then 1 else if b0 < 194 then 0
  else if b0 < 224 then (if 1 < n then (if b1 < 128 ∨ 192 ≤ b1 then 0 else if (b0 - 192) * 64 + (b1 - 128) < 128 ∨ (55296 ≤ (b0 - 192) * 64 + (b1 - 128) ∧ (b0 - 192) * 64 + (b1 - 128) < 57344) ∨ 1114111 < (b0 - 192) * 64 + (b1 - 128) then 0 else 2) else 0)
  else if b0 < 240 then (if 1 < n then (if b1 < 128 ∨ 192 ≤ b1 then 0 else if 2 < n then (if b2 < 128 ∨ 192 ≤ b2 then 0 else if ((b0 - 224) * 64 + (b1 - 128)) * 64 + (b2 - 128) < 2048 ∨ (55296 ≤ ((b0 - 224) * 64 + (b1 - 128)) * 64 + (b2 - 128) ∧ ((b0 - 224) * 64 + (b1 - 128)) * 64 + (b2 - 128) < 57344) ∨ 1114111 < ((b0 - 224) * 64 + (b1 - 128)) * 64 + (b2 - 128) then 0 else 3) else 0) else 0)
  else if b0 < 245 then (if 1 < n then (if b1 < 128 ∨ 192 ≤ b1 then 0 else if 2 < n then (if b2 < 128 ∨ 192 ≤ b2 then 0 else if 3 < n then (if b3 < 128 ∨ 192 ≤ b3 then 0 else if (((b0 - 240) * 64 + (b1 - 128)) * 64 + (b2 - 128)) * 64 + (b3 - 128) < 65536 ∨ (55296 ≤ (((b0 - 240) * 64 + (b1 - 128)) * 64 + (b2 - 128)) * 64 + (b3 - 128) ∧ (((b0 - 240) * 64 + (b1 - 128)) * 64 + (b2 - 128)) * 64 + (b3 - 128) < 57344) ∨ 1114111 < (((b0 - 240) * 64 + (b1 - 128)) * 64 + (b2 - 128)) * 64 + (b3 - 128) then 0 else 4) else 0) else 0) else 0)
  else 0
theorem wideB_N (s : ByteArray) (h : s.size ≠ 0) : wideB s = wideN s.size (s.get! 0).toNat (s.get! 1).toNat (s.get! 2).toNat (s.get! 3).toNat := by
  unfold wideB wideN
  simp only [wT, if_neg h, Nat.reduceAdd]
set_option maxRecDepth 100000 in
set_option maxHeartbeats 8000000 in
theorem wideN_dec (n b0 b1 b2 b3 : Nat) (hn : 1 ≤ n) (h0 : b0 < 256) (h1 : b1 < 256) (h2 : b2 < 256) (h3 : b3 < 256) :
    wideN n b0 b1 b2 b3 = if (Lib.decodeN n b0 b1 b2 b3).1 = 65533 ∧ (Lib.decodeN n b0 b1 b2 b3).2 = 1 then 0 else (Lib.decodeN n b0 b1 b2 b3).2 := by
  rcases Nat.lt_or_ge b0 128 with c | c
  · have e : Lib.decodeN n b0 b1 b2 b3 = (b0, 1) := by unfold Lib.decodeN; rw [if_pos c]
    unfold wideN; rw [e, if_pos c, if_neg (by simp only; omega)]
  rcases Nat.lt_or_ge b0 194 with c2 | c2
  · have e : wideN n b0 b1 b2 b3 = 0 := by unfold wideN; rw [if_neg (by omega), if_pos c2]
    rw [e]; generalize hd : Lib.decodeN n b0 b1 b2 b3 = d; unfold Lib.decodeN at hd
    (repeat' split at hd) <;> subst hd <;> (try simp only [true_and, and_true, and_self, if_true]) <;> (repeat' split) <;> first | rfl | omega
  rcases Nat.lt_or_ge b0 224 with c3 | c3
  · unfold wideN; rw [if_neg (by omega), if_neg (by omega), if_pos c3]; generalize hd : Lib.decodeN n b0 b1 b2 b3 = d; unfold Lib.decodeN at hd
    (repeat' split at hd) <;> subst hd <;> (try simp only [true_and, and_true, and_self, if_true]) <;> (repeat' split) <;> first | rfl | omega
  rcases Nat.lt_or_ge b0 240 with c4 | c4
  · unfold wideN; rw [if_neg (by omega), if_neg (by omega), if_neg (by omega), if_pos c4]; generalize hd : Lib.decodeN n b0 b1 b2 b3 = d; unfold Lib.decodeN at hd
    (repeat' split at hd) <;> subst hd <;> (try simp only [true_and, and_true, and_self, if_true]) <;> (repeat' split) <;> first | rfl | omega
  rcases Nat.lt_or_ge b0 245 with c5 | c5
  · unfold wideN; rw [if_neg (by omega), if_neg (by omega), if_neg (by omega), if_neg (by omega), if_pos c5]; generalize hd : Lib.decodeN n b0 b1 b2 b3 = d; unfold Lib.decodeN at hd
    (repeat' split at hd) <;> subst hd <;> (try simp only [true_and, and_true, and_self, if_true]) <;> (repeat' split) <;> first | rfl | omega
  · unfold wideN; rw [if_neg (by omega), if_neg (by omega), if_neg (by omega), if_neg (by omega), if_neg (by omega)]; generalize hd : Lib.decodeN n b0 b1 b2 b3 = d; unfold Lib.decodeN at hd
    (repeat' split at hd) <;> subst hd <;> (try simp only [true_and, and_true, and_self, if_true]) <;> (repeat' split) <;> first | rfl | omega
theorem wide_dec (s : ByteArray) (h : s.size ≠ 0) : wideB s = if (Utf8.decode s 0).1 = 65533 ∧ (Utf8.decode s 0).2 = 1 then 0 else (Utf8.decode s 0).2 := by
  have hb : ∀ j, (s.get! j).toNat < 256 := fun j => UInt8.toNat_lt _
  rw [wideB_N s h, Lib.decode_at]
  exact wideN_dec _ _ _ _ _ (by omega) (hb _) (hb _) (hb _) (hb _)
theorem ext_list (s : ByteArray) (i : Nat) : s.extract i s.size = ⟨(s.data.toList.drop i).toArray⟩ := by
  apply ByteArray.ext
  apply Array.toList_inj.1
  rw [Lib.extract_data]
  exact List.take_of_length_le (by simp)
theorem decode_ext (s : ByteArray) (i : Nat) : Utf8.decode (s.extract i s.size) 0 = Utf8.decode s i := by
  rw [← Lib.decodeL_drop s i, ext_list]; rfl
/-- the loop of weirref05.right. -/
def goR (s : ByteArray) : Nat → Nat → Bool
  | 0, _ => true
  | f + 1, i => if i < s.size then (if wideB (s.extract i s.size) = 0 ∨ (s.get! i).toNat < 32 ∨ (s.get! i).toNat = 127 then false else goR s f (i + wideB (s.extract i s.size))) else true
theorem goR_clean (s : ByteArray) : ∀ f i, goR s f i = (Lib.validGoD f (s.data.toList.drop i) && !decide (0 ≤ Lib.idxFuncFrom ctlR true s f i))
  | 0, i => by simp [goR, Lib.validGoD, Lib.idxFuncFrom]
  | f + 1, i => by
    unfold goR Lib.validGoD Lib.idxFuncFrom
    have hlen := Lib.size_eq s
    by_cases hi : i < s.size
    · have hne : ¬ s.data.toList.drop i = [] := by simp; rw [hlen] at hi; simpa using hi
      have hsz : (s.extract i s.size).size ≠ 0 := by rw [ext_list]; show ¬ (s.data.toList.drop i).toArray.size = 0; simp; rw [hlen] at hi; simp at hi; omega
      rw [if_pos hi, if_neg hne, if_pos hi, wide_dec _ hsz, decode_ext, Lib.decodeL_drop]
      have ih := goR_clean s f (i + (Utf8.decode s i).2)
      by_cases hd : (Utf8.decode s i).1 = 65533 ∧ (Utf8.decode s i).2 = 1
      · rw [if_pos hd]; simp [hd]
      · have hc : ctlR (Utf8.decode s i).1 = (decide ((s.get! i).toNat < 32) || decide ((s.get! i).toNat = 127)) := by
          rw [Lib.decode_at]
          by_cases h1 : (s.get! i).toNat < 128
          · have e : ∀ n b1 b2 b3, Lib.decodeN n (s.get! i).toNat b1 b2 b3 = ((s.get! i).toNat, 1) := fun n b1 b2 b3 => by unfold Lib.decodeN; rw [if_pos h1]
            rw [e]; rfl
          · have hb : ∀ j, (s.get! j).toNat < 256 := fun j => UInt8.toNat_lt _
            have hh := (high_N (s.size - i) (s.get! i).toNat (s.get! (i + 1)).toNat (s.get! (i + 2)).toNat (s.get! (i + 3)).toNat (by omega) (hb _) (hb _) (hb _) (hb _) (by omega)).1
            unfold ctlR
            rw [decide_eq_false (by omega), decide_eq_false (by omega), decide_eq_false (by omega), decide_eq_false (by omega)]
        have hw := Lib.decodeL_width (s.data.toList.drop i)
        rw [Lib.decodeL_drop] at hw
        rw [if_neg hd, if_neg hd, List.drop_drop, ih]
        by_cases hx : (s.get! i).toNat < 32 ∨ (s.get! i).toNat = 127
        · have hx' : ctlR (Utf8.decode s i).1 = true := by rw [hc]; simpa using hx
          rw [if_pos (Or.inr hx), if_pos hx']; simp
        · have hx' : ¬ ctlR (Utf8.decode s i).1 = true := by rw [hc]; simpa using hx
          rw [if_neg (by omega), if_neg hx']
    · have hne : s.data.toList.drop i = [] := by simp; rw [hlen] at hi; simpa using hi
      rw [if_neg hi, if_pos hne, if_neg hi]; simp
theorem cleanB_goR (s : ByteArray) (most : Int) : cleanB s most = (!s.toList.isEmpty && decide ((s.size : Int) ≤ most) && goR s s.size 0) := by
  unfold cleanB Lib.validD Lib.idxFunc
  rw [goR_clean, List.drop_zero, Lib.size_eq, Bool.and_assoc, Bool.and_assoc]
end Go.Proofs.YtdfnomglkibfbaaGreatDoor
