
import Derived.Test.YtjiiafmbneehhaaDoorSpB
import Derived.Lib.ItoaNum
namespace Go.Proofs.YtjiiafmbneehhaaDoor
set_option linter.unusedVariables false
set_option linter.unusedSimpArgs false
open Lib in
theorem dec_allD (u : Nat) : allD (decDigits u) := by
  induction u using Nat.strongRecOn with
  | ind u ih =>
    rw [decDigits]
    split
    · intro c hc; rw [List.mem_singleton] at hc; subst hc; unfold isD; rw [UInt8.toNat_ofNat']; exact decide_eq_true (by omega)
    · intro c hc
      rcases List.mem_append.1 hc with hc | hc
      · exact ih (u / 10) (by omega) c hc
      · rw [List.mem_singleton] at hc; subst hc; unfold isD; rw [UInt8.toNat_ofNat']; exact decide_eq_true (by omega)
theorem dec_ne0 (u : Nat) : Lib.decDigits u ≠ [] := by
  rw [Lib.decDigits]; split <;> simp
theorem valF_dec (u : Nat) : valF 0 (Lib.decDigits u) = u := by
  induction u using Nat.strongRecOn with
  | ind u ih =>
    rw [Lib.decDigits]
    split
    · rename_i h
      simp only [valF]; rw [UInt8.toNat_ofNat']; omega
    · rename_i h
      rw [valF_snoc, ih (u / 10) (by omega), UInt8.toNat_ofNat']; omega
theorem cnt_digs : ∀ (l r : List UInt8), allD l → cnt r = 0 → cnt (l ++ r) = l.length
  | [], r, _, h => by simpa using h
  | c :: l, r, hl, h => by
    have hc := hl c (by simp)
    rw [List.cons_append, cnt, if_pos hc, cnt_digs l r (fun x hx => hl x (by simp [hx])) h]; simp
theorem unit_of (u : Int) (h1 : 0 ≤ u) (h2 : u ≤ 7) (r : List UInt8) (hr : r.head? ≠ some 115) : unitP (unm u ++ r) = u ∧ (unm u).length = unl u ∧ cnt (unm u ++ r) = 0 := by
  have : u = 0 ∨ u = 1 ∨ u = 2 ∨ u = 3 ∨ u = 4 ∨ u = 5 ∨ u = 6 ∨ u = 7 := by omega
  rcases this with h | h | h | h | h | h | h | h <;> subst h <;> simp [unm, unitP, unl, cnt, isD, hr]
/-- a part is read. -/
theorem rd_step (f : Nat) (a : Nat) (u : Int) (r : List UInt8) (last v : Int) (k : Nat) (h1 : 0 ≤ u) (h2 : u ≤ 7) (hl : last < u) (hr : r.head? ≠ some 115) :
    rd (f + 1) (Lib.decDigits a ++ (unm u ++ r)) last v k = rd f r u (v + a * usz u) (k + ((Lib.decDigits a).length + unl u)) := by
  obtain ⟨e1, e2, e3⟩ := unit_of u h1 h2 r hr
  have ec : cnt (Lib.decDigits a ++ (unm u ++ r)) = (Lib.decDigits a).length := cnt_digs _ _ (dec_allD a) e3
  have hp : 0 < (Lib.decDigits a).length := by have := dec_ne0 a; cases h : Lib.decDigits a with
    | nil => exact absurd h this
    | cons => simp
  have eu : parU (Lib.decDigits a ++ (unm u ++ r)) = u := by
    unfold parU; rw [ec, if_neg (by omega), List.drop_left, e1]
  rw [rd, eu, if_neg (by omega), ec, List.take_left, valF_dec]
  have ed : List.drop ((Lib.decDigits a).length + unl u) (Lib.decDigits a ++ (unm u ++ r)) = r := by
    rw [← List.append_assoc, show (Lib.decDigits a).length + unl u = (Lib.decDigits a ++ unm u).length by simp [e2]]
    exact List.drop_left
  rw [ed]
theorem rd_stop (f : Nat) (r : List UInt8) (last v : Int) (k : Nat) (h : cnt r = 0) (hl : -1 ≤ last) : rd (f + 1) r last v k = (v, k) := by
  have eu : parU r = -1 := by unfold parU; rw [if_pos h]
  rw [rd, eu, if_pos hl]
/-- the unit of which a number is printed. -/
def prU (n : Int) : Int := if n % 604800000000000 = 0 then 0 else if n % 86400000000000 = 0 then 1 else if n % 3600000000000 = 0 then 2 else if n % 60000000000 = 0 then 3 else if n % 1000000000 = 0 then 4 else if n % 1000000 = 0 then 5 else if n % 1000 = 0 then 6 else 7
theorem prU_bd (n : Int) : 0 ≤ prU n ∧ prU n ≤ 7 := by
  unfold prU; repeat' split
  all_goals omega
theorem prU_mod (n : Int) : n % usz (prU n) = 0 := by
  unfold prU
  repeat' split
  all_goals (simp [usz]; try assumption)
def low (n : Int) : Int := if n = -9223372036854775808 then -9223372036854775807 else n
def prN (m : Int) : List UInt8 := Lib.itoa (m / usz (prU m)) ++ unm (prU m)
def prT (n : Int) : List UInt8 := if n = 0 then [48, 115] else prN (low n)
/-- what Parse reads: the text behind the sign, the error, the number. -/
def spT (l : List UInt8) : List UInt8 := if l.head? = some 45 then l.drop 1 else l
def spE (l : List UInt8) : Int := if (rdAll (spT l)).2 = 0 ∨ (rdAll (spT l)).2 < (spT l).length then 40 else if (rdAll (spT l)).1 < 9223372036854775808 then 0 else 20
def spV (l : List UInt8) : Int := if spE l = 0 then (if l.head? = some 45 then - (rdAll (spT l)).1 else (rdAll (spT l)).1) else 0
theorem rdAll_one (a : Nat) (u : Int) (h1 : 0 ≤ u) (h2 : u ≤ 7) (r : List UInt8) (hr : r.head? ≠ some 115) (hc : cnt r = 0) : rdAll (Lib.decDigits a ++ (unm u ++ r)) = (a * usz u, (Lib.decDigits a).length + unl u) := by
  unfold rdAll
  rw [rd_step 8 a u r (-1) 0 0 h1 h2 (by omega) hr, rd_stop 7 r u _ _ hc (by omega)]
  simp
theorem head_dec (a : Nat) (r : List UInt8) : (Lib.decDigits a ++ r).head? ≠ some 45 := by
  have h1 := dec_ne0 a
  have h2 := dec_allD a
  cases h : Lib.decDigits a with
  | nil => exact absurd h h1
  | cons c t =>
    have := isD_bd (h2 c (by simp [h]))
    simp
    intro e; subst e; simp at this
theorem back_pos (a : Nat) (u : Int) (h1 : 0 ≤ u) (h2 : u ≤ 7) (hb : (a : Int) * usz u < 9223372036854775808) : spE (Lib.decDigits a ++ unm u) = 0 ∧ spV (Lib.decDigits a ++ unm u) = a * usz u := by
  have e := rdAll_one a u h1 h2 [] (by simp) (by simp [cnt])
  simp only [List.append_nil] at e
  have et : spT (Lib.decDigits a ++ unm u) = Lib.decDigits a ++ unm u := by unfold spT; rw [if_neg (head_dec _ _)]
  have hl : (Lib.decDigits a ++ unm u).length = (Lib.decDigits a).length + unl u := by
    rw [List.length_append, (unit_of u h1 h2 [] (by simp)).2.1]
  have hu : 0 < unl u := by unfold unl; split <;> omega
  have E : spE (Lib.decDigits a ++ unm u) = 0 := by
    unfold spE; rw [et, e]; simp only
    rw [if_neg (by rw [hl]; omega), if_pos hb]
  refine ⟨E, ?_⟩
  unfold spV; rw [if_pos E, if_neg (head_dec _ _), et, e]
theorem back_neg (a : Nat) (u : Int) (h1 : 0 ≤ u) (h2 : u ≤ 7) (hb : (a : Int) * usz u < 9223372036854775808) : spE (45 :: (Lib.decDigits a ++ unm u)) = 0 ∧ spV (45 :: (Lib.decDigits a ++ unm u)) = - (a * usz u) := by
  have e := rdAll_one a u h1 h2 [] (by simp) (by simp [cnt])
  simp only [List.append_nil] at e
  have et : spT (45 :: (Lib.decDigits a ++ unm u)) = Lib.decDigits a ++ unm u := by unfold spT; rw [if_pos (by simp)]; rfl
  have hl : (Lib.decDigits a ++ unm u).length = (Lib.decDigits a).length + unl u := by
    rw [List.length_append, (unit_of u h1 h2 [] (by simp)).2.1]
  have hu : 0 < unl u := by unfold unl; split <;> omega
  have E : spE (45 :: (Lib.decDigits a ++ unm u)) = 0 := by
    unfold spE; rw [et, e]; simp only
    rw [if_neg (by rw [hl]; omega), if_pos hb]
  refine ⟨E, ?_⟩
  unfold spV; rw [if_pos E, if_pos (by simp), et, e]
theorem prN_back (m : Int) (h1 : -9223372036854775808 < m) (h2 : m < 9223372036854775808) : spE (prN m) = 0 ∧ spV (prN m) = m := by
  have hm := prU_mod m
  obtain ⟨b1, b2⟩ := prU_bd m
  have us := usz_bd (prU m)
  have ex : m / usz (prU m) * usz (prU m) = m := Int.ediv_mul_cancel (Int.dvd_of_emod_eq_zero hm)
  unfold prN Lib.itoa
  by_cases hn : m / usz (prU m) < 0
  · rw [if_pos hn, List.cons_append]
    have hq : ((m / usz (prU m)).natAbs : Int) = - (m / usz (prU m)) := by omega
    have hx : ((m / usz (prU m)).natAbs : Int) * usz (prU m) = - m := by rw [hq, Int.neg_mul, ex]
    have := back_neg (m / usz (prU m)).natAbs (prU m) b1 b2 (by rw [hx]; omega)
    rw [hx] at this
    exact ⟨this.1, by rw [this.2]; omega⟩
  · rw [if_neg hn]
    have hq : ((m / usz (prU m)).toNat : Int) = m / usz (prU m) := by omega
    have hx : ((m / usz (prU m)).toNat : Int) * usz (prU m) = m := by rw [hq, ex]
    have := back_pos (m / usz (prU m)).toNat (prU m) b1 b2 (by rw [hx]; omega)
    rw [hx] at this
    exact this
theorem prT_back (n : Int) (h1 : -9223372036854775808 ≤ n) (h2 : n < 9223372036854775808) : spE (prT n) = 0 ∧ spV (prT n) = low n := by
  unfold prT
  by_cases h : n = 0
  · subst h
    have := back_pos 0 4 (by omega) (by omega) (by simp [usz])
    rw [show Lib.decDigits 0 = [48] by rw [Lib.decDigits]; rfl] at this
    simpa [unm, usz, low] using this
  · rw [if_neg h]
    exact prN_back (low n) (by unfold low; split <;> omega) (by unfold low; split <;> omega)
end Go.Proofs.YtjiiafmbneehhaaDoor
