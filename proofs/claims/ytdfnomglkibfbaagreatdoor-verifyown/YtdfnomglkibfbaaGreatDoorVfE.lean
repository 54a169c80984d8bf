
import Derived.Test.YtdfnomglkibfbaaGreatDoorVfD
namespace Go.Proofs.YtdfnomglkibfbaaGreatDoor.Vf
open Go.RowKit
set_option linter.unusedVariables false
set_option linter.unusedSimpArgs false
set_option maxRecDepth 100000
theorem toList_inj' {a b : ByteArray} (h : a.toList = b.toList) : a = b := by
  rw [ByteArray.toList_eq, ByteArray.toList_eq] at h
  exact ByteArray.ext (Array.toList_inj.1 h)
theorem ratio_gr (a b : AcP) (w : World) : Calls Tryz.prog 107 #[.agg #[.int .u8 a.1, .string a.2], .agg #[.int .u8 b.1, .string b.2]] w fun e w' => e = .returned (.bool (ratB a b)) ∧ GR w w' := by
  obtain ⟨af, ax⟩ := a
  obtain ⟨bf, bx⟩ := b
  by_cases h : af = 2
  · subst h
    by_cases h1 : bf = 1
    · subst h1
      by_cases h2 : bx = ax
      · subst h2
        have e : ratB (2, bx) (1, bx) = true := by simp [ratB]
        rw [e]
        go_enter Tryz.func107, Tryz.ntmps107
        go_wp2
        go_ret
        exact ⟨rfl, ((GR.refl w).alloc _).alloc _⟩
      · have e : ratB (2, ax) (1, bx) = false := by simp [ratB, h2]
        rw [e]
        have h3 : ¬ bx.toList = ax.toList := fun q => h2 (toList_inj' q)
        go_enter Tryz.func107, Tryz.ntmps107
        go_wp2
        go_ret
        exact ⟨rfl, ((GR.refl w).alloc _).alloc _⟩
    · have e : ratB (2, ax) (bf, bx) = false := by simp [ratB, h1]
      rw [e]
      go_enter Tryz.func107, Tryz.ntmps107
      go_wp2
      go_ret
      exact ⟨rfl, ((GR.refl w).alloc _).alloc _⟩
  · have e : ratB (af, ax) (bf, bx) = false := by simp [ratB, h]
    rw [e]
    have hd : decide ((af : Int) = 2) = false := decide_eq_false (by omega)
    go_enter Tryz.func107, Tryz.ntmps107
    go_wp2
    go_ret
    exact ⟨rfl, ((GR.refl w).alloc _).alloc _⟩
theorem ratio_any (a b : AcP) (w : World) : Calls Tryz.prog 107 #[.agg #[.int .u8 a.1, .string a.2], .agg #[.int .u8 b.1, .string b.2]] w fun e w' => e = .returned (.bool (ratB a b)) ∧ Below w.heap.size w w' := (ratio_gr a b w).mono (fun _ _ h => ⟨h.1, h.2.below⟩)
/-- a slice's three. -/
structure Sl where
  a : Option Addr
  n : Nat
  c : Nat
def Sl.v (s : Sl) : Value := .slice s.a s.n s.c
/-- a program's fourteen. -/
structure PrH where
  from_ : ByteArray
  into : ByteArray
  every : Int
  offset : Int
  groups : Sl
  accs : Sl
  alias : Sl
  names : Sl
  texts : Sl
  lists : Sl
  times : Sl
  ints : Sl
  filter : Sl
  output : Sl
def PrH.v (p : PrH) : Value := .agg #[.string p.from_, .string p.into, .int .i64 p.every, .int .i64 p.offset, .slice p.groups.a p.groups.n p.groups.c, .slice p.accs.a p.accs.n p.accs.c, .slice p.alias.a p.alias.n p.alias.c, .slice p.names.a p.names.n p.names.c, .slice p.texts.a p.texts.n p.texts.c, .slice p.lists.a p.lists.n p.lists.c, .slice p.times.a p.times.n p.times.c, .slice p.ints.a p.ints.n p.ints.c, .slice p.filter.a p.filter.n p.filter.c, .slice p.output.a p.output.n p.output.c]
def PrH.sz (p : PrH) : SzP := ⟨p.names.n, p.texts.n, p.lists.n, p.times.n, p.accs.n, p.ints.n, p.alias.n⟩
theorem sizesOf_any (p : PrH) (w : World) : Calls Tryz.prog 103 #[p.v] w fun e w' => e = .returned (szA p.sz) ∧ Below w.heap.size w w' := by
  unfold PrH.v
  go_enter Tryz.func103, Tryz.ntmps103
  go_wp2
  go_returns
  exact ⟨rfl, ((Below.refl _ w).alloc (Nat.le_refl _) _).alloc (by simp) _⟩
end Go.Proofs.YtdfnomglkibfbaaGreatDoor.Vf
