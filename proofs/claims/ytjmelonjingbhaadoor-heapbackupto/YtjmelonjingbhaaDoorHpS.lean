
import Derived.Test.YtjmelonjingbhaaDoorHpK
namespace Go.Proofs.YtjmelonjingbhaaDoor.Hp
open Go.RowKit Go.Maps
set_option linter.unusedVariables false
set_option linter.unusedSimpArgs false
set_option maxRecDepth 100000
theorem get_none {w : World} {B hp mb : Nat} {most : Bool} {v : Value} {f : ByteArray → Option Nat} {L : List Ent} {mv : Int} (h : HS w B hp mb most v none f L mv) (s : ByteArray) (hs : s.size ≤ 9223372036854775807) (hf : f s = none) :
    Calls Tryd.prog 7 #[.pointer (some ⟨hp, 0, none⟩), .string s] w fun e w' => e = .returned (.tuple #[eV (0, ⟨#[]⟩), .bool false]) ∧ Below w.heap.size w w' := by
  have b1 : Hid (Below w.heap.size w (w.alloc (.cells #[.int .i64 0, .string ⟨#[]⟩] 24))) := (Below.refl _ w).alloc (Nat.le_refl _) _
  have CF : Hid _ := find_none (h.below b1.out) s hs hf
  clear h
  unfold eV
  go_enter Tryd.func7, Tryd.ntmps7
  go_wp2_with fail
  refine Calls.mono CF.out ?_
  rintro e w1 ⟨rfl, hw1⟩
  subst hw1
  go_wp2_with fail
  simp [bodyPost, results, Tryd.results7, go_sem]
  exact b1.out
theorem get_some {w : World} {B hp mb : Nat} {most : Bool} {v : Value} {f : ByteArray → Option Nat} {L : List Ent} {mv : Int} (h : HS w B hp mb most v none f L mv) (s : ByteArray) (hs : s.size ≤ 9223372036854775807) (i : Nat) (hf : f s = some i) :
    Calls Tryd.prog 7 #[.pointer (some ⟨hp, 0, none⟩), .string s] w fun e w' => e = .returned (.tuple #[eV (atE L i), .bool true]) ∧ Below w.heap.size w w' := by
  have b1 : Below w.heap.size w (w.alloc (.cells #[.int .i64 0, .string ⟨#[]⟩] 24)) := (Below.refl _ w).alloc (Nat.le_refl _) _
  obtain ⟨hi, hnm⟩ := h.pl.lt (by simp) hf
  obtain ⟨a, cap, rfl, hg⟩ := h.form
  obtain ⟨g, rfl⟩ := hg (by omega)
  have h1 := h.below b1
  have CF : Hid _ := find_some h1 s hs i hf
  have c0 := h1.c0
  obtain ⟨a1, a2⟩ := h1.at hi
  have i0 : (0 : Int) ≤ (i : Int) := Int.natCast_nonneg i
  have iI : (i : Int) < (L.length : Int) := Int.ofNat_lt.2 hi
  generalize L.length = n at *
  generalize atE L i = x at *
  clear h h1 hg hi hnm hf b1
  unfold eV
  go_enter Tryd.func7, Tryd.ntmps7
  go_wp2_with fail
  refine Calls.mono CF.out ?_
  rintro e w1 ⟨rfl, hw1⟩
  subst hw1
  clear CF
  go_wp2_with fail
  simp [bodyPost, results, Tryd.results7, go_sem]
  exact (Below.refl _ w).alloc (Nat.le_refl _) _
end Go.Proofs.YtjmelonjingbhaaDoor.Hp
