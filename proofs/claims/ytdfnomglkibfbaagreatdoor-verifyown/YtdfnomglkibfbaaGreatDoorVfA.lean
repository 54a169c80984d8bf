
import Derived.Test.YtdfnomglkibfbaaGreatDoorProg
namespace Go.Proofs.YtdfnomglkibfbaaGreatDoor.Vf
set_option linter.unusedVariables false
set_option linter.unusedSimpArgs false
/-! ### plain: what verify tells of code -/
/-- an instruction. -/
structure InP where
  c : Nat
  a : Int
  b : Int
/-- of, takes, puts, the operands, whether the code ends with it. -/
structure RwP where
  of : Nat
  tk : Nat
  pt : Nat
  a : Nat
  b : Nat
  en : Bool
deriving DecidableEq
def noR : RwP := ⟨0, 0, 0, 0, 0, false⟩
def rowsL : List RwP := [noR, ⟨1, 0, 1, 0, 0, false⟩, ⟨1, 0, 1, 0, 0, false⟩, ⟨1, 0, 1, 1, 2, false⟩, ⟨1, 0, 1, 1, 3, false⟩, ⟨1, 0, 1, 1, 1, false⟩, ⟨1, 0, 1, 5, 4, false⟩, ⟨1, 1, 1, 0, 0, false⟩, ⟨1, 2, 1, 0, 0, false⟩, ⟨1, 2, 1, 0, 0, false⟩, ⟨1, 1, 1, 9, 0, false⟩, ⟨1, 1, 1, 9, 0, false⟩, ⟨1, 1, 0, 0, 0, false⟩, ⟨1, 1, 0, 0, 0, true⟩,
  ⟨2, 0, 1, 6, 0, false⟩, ⟨2, 0, 1, 7, 0, false⟩, ⟨2, 0, 1, 6, 6, false⟩, ⟨2, 1, 1, 0, 0, false⟩, ⟨2, 2, 1, 0, 0, false⟩, ⟨2, 2, 1, 0, 0, false⟩, ⟨2, 2, 1, 0, 0, false⟩, ⟨2, 2, 1, 0, 0, false⟩, ⟨2, 2, 1, 0, 0, false⟩, ⟨2, 1, 0, 8, 0, false⟩, ⟨2, 0, 0, 0, 0, true⟩]
def rowF (c : Nat) : RwP := rowsL.getD c noR
/-- how many there are of each kind of operand. -/
structure SzP where
  names : Nat
  texts : Nat
  lists : Nat
  times : Nat
  accs : Nat
  ints : Nat
  alias : Nat
def szL (z : SzP) : List Nat := [1, z.names, z.texts, z.lists, z.times, 6, z.accs, z.ints, z.alias, 0]
def haveB (z : SzP) (o : Nat) (n : Int) : Bool := o == 9 || (decide (0 ≤ n) && decide (n < ((szL z).getD o 0 : Int)))
/-- what is wrong with one instruction, the program's way: ra is what is said of Ratio. -/
def badP (z : SzP) (of at_ last : Int) (ra : Bool) (i : InP) : Int :=
  if ((rowF i.c).of : Int) ≠ of then 180
  else if (!haveB z (rowF i.c).a i.a) || (!haveB z (rowF i.c).b i.b) || (i.c == 16 && !ra) then 192
  else if (rowF i.c).a == 9 && (decide (i.a ≤ at_) || decide (last < i.a)) then 191
  else if (rowF i.c).en && decide (at_ < last) then 193
  else 0
def inB (n : Int) (m : Nat) : Bool := decide (0 ≤ n) && decide (n < (m : Int))
/-- the document's operands. -/
def opsD (z : SzP) (ra : Bool) (i : InP) : Bool :=
  if i.c = 3 then inB i.a z.names && inB i.b z.texts
  else if i.c = 4 then inB i.a z.names && inB i.b z.lists
  else if i.c = 5 then inB i.a z.names && inB i.b z.names
  else if i.c = 6 then inB i.a 6 && inB i.b z.times
  else if i.c = 10 ∨ i.c = 11 then decide (i.b = 0)
  else if i.c = 14 then inB i.a z.accs && decide (i.b = 0)
  else if i.c = 15 then inB i.a z.ints && decide (i.b = 0)
  else if i.c = 23 then inB i.a z.alias && decide (i.b = 0)
  else if i.c = 16 then inB i.a z.accs && inB i.b z.accs && ra
  else decide (i.a = 0) && decide (i.b = 0)
def filB (c : Nat) : Bool := decide (1 ≤ c) && decide (c ≤ 13)
def outB (c : Nat) : Bool := decide (14 ≤ c) && decide (c ≤ 24)
/-- what is wrong with one instruction, the document's way; lc is the one that ends. -/
def badD (z : SzP) (lc : Nat) (at_ last : Int) (ra : Bool) (i : InP) : Int :=
  if (lc == 13 && !filB i.c) || (lc == 24 && !outB i.c) then 180
  else if !opsD z ra i then 192
  else if (i.c == 10 || i.c == 11) && (decide (i.a ≤ at_) || decide (last < i.a)) then 191
  else if i.c == lc && decide (at_ < last) then 193
  else 0
theorem unused_eq (n : Int) : (decide (0 ≤ n) && decide (n < 1)) = decide (n = 0) := by
  by_cases h : n = 0
  · subst h; rfl
  · rw [decide_eq_false h, Bool.and_eq_false_iff]
    rcases Int.lt_or_le n 0 with q | q
    · exact Or.inl (decide_eq_false (by omega))
    · exact Or.inr (decide_eq_false (by omega))
theorem row_big {c : Nat} (h : 24 < c) : rowF c = noR := by
  unfold rowF
  rw [List.getD_eq_getElem?_getD, List.getElem?_eq_none (by simp [rowsL]; omega)]; rfl
theorem cases25 {p : Nat → Prop} (h : ∀ c, c ≤ 24 → p c) (hb : ∀ c, 24 < c → p c) (c : Nat) : p c := by
  rcases Nat.lt_or_ge 24 c with q | q
  · exact hb c q
  · exact h c q
/-- both ways are one. -/
theorem bad_same (z : SzP) (f : Bool) (at_ last : Int) (ra : Bool) (i : InP) : badP z (if f then 1 else 2) at_ last ra i = badD z (if f then 13 else 24) at_ last ra i := by
  obtain ⟨c, a, b⟩ := i
  rcases Nat.lt_or_ge 24 c with q | q
  · have e : rowF c = noR := row_big q
    unfold badP badD
    simp only [e, noR]
    have h1 : filB c = false := by unfold filB; rw [Bool.and_eq_false_iff]; exact Or.inr (decide_eq_false (by omega))
    have h2 : outB c = false := by unfold outB; rw [Bool.and_eq_false_iff]; exact Or.inr (decide_eq_false (by omega))
    cases f <;> simp [h1, h2]
  · match c, q with
    | 0, _ => cases f <;> simp [badP, badD, rowF, rowsL, noR, filB, outB]
    | 1, _ => cases f <;> simp [badP, badD, rowF, rowsL, noR, filB, outB, opsD, haveB, szL, unused_eq, inB]
    | 2, _ => cases f <;> simp [badP, badD, rowF, rowsL, noR, filB, outB, opsD, haveB, szL, unused_eq, inB]
    | 3, _ => cases f <;> simp [badP, badD, rowF, rowsL, noR, filB, outB, opsD, haveB, szL, unused_eq, inB]
    | 4, _ => cases f <;> simp [badP, badD, rowF, rowsL, noR, filB, outB, opsD, haveB, szL, unused_eq, inB]
    | 5, _ => cases f <;> simp [badP, badD, rowF, rowsL, noR, filB, outB, opsD, haveB, szL, unused_eq, inB]
    | 6, _ => cases f <;> simp [badP, badD, rowF, rowsL, noR, filB, outB, opsD, haveB, szL, unused_eq, inB]
    | 7, _ => cases f <;> simp [badP, badD, rowF, rowsL, noR, filB, outB, opsD, haveB, szL, unused_eq, inB]
    | 8, _ => cases f <;> simp [badP, badD, rowF, rowsL, noR, filB, outB, opsD, haveB, szL, unused_eq, inB]
    | 9, _ => cases f <;> simp [badP, badD, rowF, rowsL, noR, filB, outB, opsD, haveB, szL, unused_eq, inB]
    | 10, _ => cases f <;> simp [badP, badD, rowF, rowsL, noR, filB, outB, opsD, haveB, szL, unused_eq, inB]
    | 11, _ => cases f <;> simp [badP, badD, rowF, rowsL, noR, filB, outB, opsD, haveB, szL, unused_eq, inB]
    | 12, _ => cases f <;> simp [badP, badD, rowF, rowsL, noR, filB, outB, opsD, haveB, szL, unused_eq, inB]
    | 13, _ => cases f <;> simp [badP, badD, rowF, rowsL, noR, filB, outB, opsD, haveB, szL, unused_eq, inB]
    | 14, _ => cases f <;> simp [badP, badD, rowF, rowsL, noR, filB, outB, opsD, haveB, szL, unused_eq, inB]
    | 15, _ => cases f <;> simp [badP, badD, rowF, rowsL, noR, filB, outB, opsD, haveB, szL, unused_eq, inB]
    | 16, _ => cases f <;> simp [badP, badD, rowF, rowsL, noR, filB, outB, opsD, haveB, szL, unused_eq, inB]
    | 17, _ => cases f <;> simp [badP, badD, rowF, rowsL, noR, filB, outB, opsD, haveB, szL, unused_eq, inB]
    | 18, _ => cases f <;> simp [badP, badD, rowF, rowsL, noR, filB, outB, opsD, haveB, szL, unused_eq, inB]
    | 19, _ => cases f <;> simp [badP, badD, rowF, rowsL, noR, filB, outB, opsD, haveB, szL, unused_eq, inB]
    | 20, _ => cases f <;> simp [badP, badD, rowF, rowsL, noR, filB, outB, opsD, haveB, szL, unused_eq, inB]
    | 21, _ => cases f <;> simp [badP, badD, rowF, rowsL, noR, filB, outB, opsD, haveB, szL, unused_eq, inB]
    | 22, _ => cases f <;> simp [badP, badD, rowF, rowsL, noR, filB, outB, opsD, haveB, szL, unused_eq, inB]
    | 23, _ => cases f <;> simp [badP, badD, rowF, rowsL, noR, filB, outB, opsD, haveB, szL, unused_eq, inB]
    | 24, _ => cases f <;> simp [badP, badD, rowF, rowsL, noR, filB, outB, opsD, haveB, szL, unused_eq, inB]
    | c + 25, q => omega
end Go.Proofs.YtdfnomglkibfbaaGreatDoor.Vf
