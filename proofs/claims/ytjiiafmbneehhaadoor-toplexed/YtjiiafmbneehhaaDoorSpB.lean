
import Derived.WalkKit
namespace Go.Proofs.YtjiiafmbneehhaaDoor
set_option linter.unusedVariables false
set_option linter.unusedSimpArgs false
def isD (c : UInt8) : Bool := decide (48 ≤ (c.toNat : Int) ∧ (c.toNat : Int) ≤ 57)
/-- how many digits stand ahead. -/
def cnt : List UInt8 → Nat
  | [] => 0
  | c :: r => if isD c then cnt r + 1 else 0
/-- what digits say. -/
def valF (a : Int) : List UInt8 → Int
  | [] => a
  | c :: r => valF (a * 10 + ((c.toNat : Int) - 48)) r
/-- the unit with which a text begins. -/
def unitP : List UInt8 → Int
  | [] => -1
  | a :: r =>
    if a = 109 ∧ r.head? = some 115 then 5
    else if a = 117 ∧ r.head? = some 115 then 6
    else if a = 110 ∧ r.head? = some 115 then 7
    else if a = 119 then 0 else if a = 100 then 1 else if a = 104 then 2 else if a = 109 then 3 else if a = 115 then 4 else -1
def usz (u : Int) : Int := if u = 0 then 604800000000000 else if u = 1 then 86400000000000 else if u = 2 then 3600000000000 else if u = 3 then 60000000000 else if u = 4 then 1000000000 else if u = 5 then 1000000 else if u = 6 then 1000 else 1
def unl (u : Int) : Nat := if u < 5 then 1 else 2
def unm (u : Int) : List UInt8 := if u = 0 then [119] else if u = 1 then [100] else if u = 2 then [104] else if u = 3 then [109] else if u = 4 then [115] else if u = 5 then [109, 115] else if u = 6 then [117, 115] else [110, 115]
/-- the part at the beginning: its unit. -/
def parU (l : List UInt8) : Int := if cnt l = 0 then -1 else unitP (l.drop (cnt l))
/-- parts, one behind the other: what they say, and how many bytes they have. -/
def rd : Nat → List UInt8 → Int → Int → Nat → Int × Nat
  | 0, l, last, v, k => (v, k)
  | f + 1, l, last, v, k =>
    if parU l ≤ last then (v, k) else rd f (l.drop (cnt l + unl (parU l))) (parU l) (v + valF 0 (l.take (cnt l)) * usz (parU l)) (k + (cnt l + unl (parU l)))
def rdAll (l : List UInt8) : Int × Nat := rd 9 l (-1) 0 0
theorem cnt_le : ∀ l : List UInt8, cnt l ≤ l.length
  | [] => Nat.le_refl _
  | c :: r => by have := cnt_le r; unfold cnt; split <;> simp <;> omega
theorem cnt_all : ∀ (l : List UInt8) (i : Nat) (h : i < l.length), i < cnt l → isD l[i] = true
  | [], i, h, _ => by simp at h
  | c :: r, i, h, hc => by
    unfold cnt at hc
    split at hc
    · cases i with
      | zero => assumption
      | succ i => exact cnt_all r i (by simpa using h) (by omega)
    · omega
theorem cnt_end : ∀ (l : List UInt8) (h : cnt l < l.length), isD l[cnt l] = false
  | [], h => by simp at h
  | c :: r, h => by
    by_cases hd : isD c = true
    · have e : cnt (c :: r) = cnt r + 1 := by rw [cnt, if_pos hd]
      simp only [e] at h ⊢
      exact cnt_end r (by simpa using h)
    · have e : cnt (c :: r) = 0 := by rw [cnt, if_neg hd]
      simp only [e]
      simpa using hd
/-- counted: all digits so far, and then the end, or no digit. -/
theorem cnt_of (l : List UInt8) (k : Nat) (hk : k ≤ l.length) (h1 : ∀ (i : Nat) (h : i < l.length), i < k → isD l[i] = true) (h2 : ∀ h : k < l.length, isD l[k] = false) : cnt l = k := by
  rcases Nat.lt_trichotomy (cnt l) k with h | h | h
  · have a := cnt_end l (by omega)
    rw [h1 (cnt l) (by omega) h] at a; simp at a
  · exact h
  · have b := cnt_le l
    have a := cnt_all l k (by omega) h
    rw [h2 (by omega)] at a; simp at a
theorem valF_snoc (l : List UInt8) : ∀ (a : Int) (c : UInt8), valF a (l ++ [c]) = valF a l * 10 + ((c.toNat : Int) - 48) := by
  induction l with
  | nil => intro a c; rfl
  | cons b r ih => intro a c; simp only [List.cons_append, valF]; exact ih _ c
def allD (l : List UInt8) : Prop := ∀ c ∈ l, isD c = true
theorem isD_bd {c : UInt8} (h : isD c = true) : 48 ≤ (c.toNat : Int) ∧ (c.toNat : Int) ≤ 57 := of_decide_eq_true h
theorem valF_ge (l : List UInt8) : ∀ (a : Int), 0 ≤ a → allD l → a ≤ valF a l := by
  induction l with
  | nil => intro a _ _; exact Int.le_refl _
  | cons b r ih =>
    intro a ha hd
    have hb := isD_bd (hd b (by simp))
    have := ih (a * 10 + ((b.toNat : Int) - 48)) (by omega) (fun c hc => hd c (by simp [hc]))
    simp only [valF]; omega
theorem valF_app (l r : List UInt8) : ∀ (a : Int), valF a (l ++ r) = valF (valF a l) r := by
  induction l with
  | nil => intro a; rfl
  | cons b t ih => intro a; simp only [List.cons_append, valF]; exact ih _
theorem allD_take {l : List UInt8} (h : allD l) (k : Nat) : allD (l.take k) := fun c hc => h c (List.mem_of_mem_take hc)
theorem allD_cnt (l : List UInt8) : allD (l.take (cnt l)) := by
  intro c hc
  obtain ⟨i, hi, rfl⟩ := List.getElem_of_mem hc
  simp only [List.length_take] at hi
  rw [List.getElem_take]
  exact cnt_all l i (by omega) (by omega)
theorem valF_nonneg {l : List UInt8} (h : allD l) : 0 ≤ valF 0 l := valF_ge l 0 (Int.le_refl _) h
theorem usz_bd (u : Int) : 1 ≤ usz u ∧ usz u ≤ 604800000000000 := by
  unfold usz; repeat' split
  all_goals omega
theorem unitP_bd (l : List UInt8) : -1 ≤ unitP l ∧ unitP l ≤ 7 := by
  cases l with
  | nil => simp [unitP]
  | cons a r => unfold unitP; repeat' split
                all_goals omega
theorem parU_bd (l : List UInt8) : -1 ≤ parU l ∧ parU l ≤ 7 := by
  unfold parU; split
  · omega
  · exact unitP_bd _
theorem unitP_len (l : List UInt8) (h : 0 ≤ unitP l) : unl (unitP l) ≤ l.length := by
  cases l with
  | nil => simp [unitP] at h
  | cons a r =>
    have ne (hh : r.head? = some 115) : 1 ≤ r.length := by cases r with
      | nil => simp at hh
      | cons => simp
    by_cases h1 : a = 109 ∧ r.head? = some 115
    · have := ne h1.2; simp [unitP, h1, unl]; omega
    · by_cases h2 : a = 117 ∧ r.head? = some 115
      · have := ne h2.2; simp [unitP, h2, unl]; omega
      · by_cases h3 : a = 110 ∧ r.head? = some 115
        · have := ne h3.2; simp [unitP, h3, unl]; omega
        · rw [unitP, if_neg h1, if_neg h2, if_neg h3] at h ⊢
          have : unl (if a = 119 then 0 else if a = 100 then 1 else if a = 104 then 2 else if a = 109 then 3 else if a = 115 then 4 else -1) = 1 := by
            unfold unl; repeat' split
            all_goals first | rfl | omega
          rw [this]; simp
theorem parU_len (l : List UInt8) (h : 0 ≤ parU l) : cnt l + unl (parU l) ≤ l.length := by
  unfold parU at h ⊢
  split at h
  · omega
  · rename_i hc
    rw [if_neg hc]
    have := unitP_len _ h
    have := cnt_le l
    simp only [List.length_drop] at *
    omega
theorem rd_bd : ∀ (f : Nat) (l : List UInt8) (last v : Int) (k : Nat), 0 ≤ v → -1 ≤ last → v ≤ (rd f l last v k).1 ∧ k ≤ (rd f l last v k).2 ∧ (rd f l last v k).2 ≤ k + l.length
  | 0, l, last, v, k, _, _ => by simp [rd]
  | f + 1, l, last, v, k, hv, hl => by
    unfold rd
    split
    · simp
    · rename_i hu
      have hm : 0 ≤ valF 0 (l.take (cnt l)) * usz (parU l) := Int.mul_nonneg (valF_nonneg (allD_cnt l)) (by have := usz_bd (parU l); omega)
      have hn := parU_len l (by omega)
      obtain ⟨a, b, c⟩ := rd_bd f (l.drop (cnt l + unl (parU l))) (parU l) (v + valF 0 (l.take (cnt l)) * usz (parU l)) (k + (cnt l + unl (parU l))) (by omega) (by omega)
      simp only [List.length_drop] at c
      exact ⟨by omega, by omega, by omega⟩
end Go.Proofs.YtjiiafmbneehhaaDoor
