
import Derived.Test.YtdfnomglkibfbaaGreatDoorVfQ
import Derived.Deep.QuietTactic
import Derived.BigQuiet
namespace Go.Proofs.YtdfnomglkibfbaaGreatDoor.Vf
open Go.RowKit
set_option linter.unusedVariables false
set_option linter.unusedSimpArgs false
set_option maxRecDepth 100000
/-- accumulators in memory. -/
def AcIn (w : World) (a : Option Addr) (l : List AcP) : Prop := l = [] ∨ ∃ b off, a = some ⟨b, off, none⟩ ∧ b < w.heap.size ∧ ∀ i t, l[i]? = some t → w.cell? ⟨b, off + i * 2, none⟩ = some (.int .u8 (t.1 : Int)) ∧ w.cell? ⟨b, off + i * 2 + 1, none⟩ = some (.string t.2)
def raOf (l : List AcP) (a b : Int) : Bool := match l[a.toNat]?, l[b.toNat]? with
  | some x, some y => ratB x y
  | _, _ => false
theorem bl_drewN {n : Nat} {w w' : World} (h : Below n w w') : ∀ k, Below n w (w'.drewN k)
  | 0 => h
  | k + 1 => (bl_drewN h k).drew
theorem inB_true {n : Int} {m : Nat} (h : inB n m = true) : ∃ i : Nat, n = (i : Int) ∧ i < m := by
  unfold inB at h
  rw [Bool.and_eq_true] at h
  have h1 := of_decide_eq_true h.1
  have h2 := of_decide_eq_true h.2
  exact ⟨n.toNat, by omega, by omega⟩
set_option maxHeartbeats 1500000 in
theorem operands_16 (p : PrH) (l : List AcP) (hl : p.accs.n = l.length) (a b : Int) (w : World) (hA : AcIn w p.accs.a l) : Calls Tryz.prog 82 #[p.v, InP.v ⟨16, a, b⟩] w fun e w' => e = .returned (.bool (opsD p.sz (raOf l a b) ⟨16, a, b⟩)) ∧ Below w.heap.size w w' := by
  have e : opsD p.sz (raOf l a b) ⟨16, a, b⟩ = (inB a p.accs.n && inB b p.accs.n && raOf l a b) := rfl
  rw [e]
  have k1 : Hid (∀ W, Calls Tryz.prog 117 #[.int .i64 a, .int .i64 ((p.accs.n : Nat) : Int)] W fun e w' => e = .returned (.bool (inB a p.accs.n)) ∧ w' = W) := fun W => in_any a p.accs.n W
  have k2 : Hid (∀ W, Calls Tryz.prog 117 #[.int .i64 b, .int .i64 ((p.accs.n : Nat) : Int)] W fun e w' => e = .returned (.bool (inB b p.accs.n)) ∧ w' = W) := fun W => in_any b p.accs.n W
  obtain ⟨x1, hx1⟩ : ∃ x, inB a p.accs.n = x := ⟨_, rfl⟩
  obtain ⟨x2, hx2⟩ : ∃ x, inB b p.accs.n = x := ⟨_, rfl⟩
  rw [hx1, hx2]
  rw [hx1] at k1
  rw [hx2] at k2
  unfold PrH.v InP.v
  cases x1 with
  | false =>
    clear hx1 hx2 hA hl e
    simp only [Bool.false_and]
    go_enter Tryz.func82, Tryz.ntmps82
    go_wp2_with fail
    go_quiet ((go_at_call 117; first | with_reducible exact Calls.quiet_of_same (k1.out _) | with_reducible exact Calls.quiet_of_same (k2.out _)))
    go_wp2
    go_ret
    exact ⟨by first | rfl | simp | (congr 1), bl_drewN (((Below.refl _ w).alloc (Nat.le_refl _) _).alloc (by simp) _) _⟩
  | true =>
    cases x2 with
    | false =>
      clear hx1 hx2 hA hl e
      simp only [Bool.true_and, Bool.false_and]
      go_enter Tryz.func82, Tryz.ntmps82
      go_wp2_with fail
      go_quiet ((go_at_call 117; first | with_reducible exact Calls.quiet_of_same (k1.out _) | with_reducible exact Calls.quiet_of_same (k2.out _)))
      go_wp2
      go_ret
      exact ⟨by first | rfl | simp | (congr 1), bl_drewN (((Below.refl _ w).alloc (Nat.le_refl _) _).alloc (by simp) _) _⟩
    | true =>
      obtain ⟨i, rfl, hi⟩ := inB_true hx1
      obtain ⟨j, rfl, hj⟩ := inB_true hx2
      obtain ⟨g, off, ea, gb, hcs⟩ : ∃ g off, p.accs.a = some ⟨g, off, none⟩ ∧ g < w.heap.size ∧ ∀ i t, l[i]? = some t → w.cell? ⟨g, off + i * 2, none⟩ = some (.int .u8 (t.1 : Int)) ∧ w.cell? ⟨g, off + i * 2 + 1, none⟩ = some (.string t.2) := by
        rcases hA with q | q
        · rw [q] at hl; simp at hl; omega
        · exact q
      obtain ⟨x, hx⟩ : ∃ x, l[i]? = some x := ⟨_, List.getElem?_eq_getElem (by omega)⟩
      obtain ⟨y, hy⟩ : ∃ y, l[j]? = some y := ⟨_, List.getElem?_eq_getElem (by omega)⟩
      obtain ⟨a1, a2⟩ := hcs i x hx
      obtain ⟨b1, b2⟩ := hcs j y hy
      have er : raOf l (i : Int) (j : Int) = ratB x y := by
        unfold raOf
        simp only [Int.toNat_natCast, hx, hy]
      rw [er, ea]
      obtain ⟨xf, xs⟩ := x
      obtain ⟨yf, ys⟩ := y
      have i0 : (0 : Int) ≤ (i : Int) := by omega
      have j0 : (0 : Int) ≤ (j : Int) := by omega
      have iI : (i : Int) < (p.accs.n : Int) := by omega
      have jI : (j : Int) < (p.accs.n : Int) := by omega
      clear hx1 hx2 hA hl e hx hy hcs er hi hj
      simp only [Bool.true_and]
      by_cases h : xf = 2
      · subst h
        by_cases h1 : yf = 1
        · subst h1
          have q1 : decide (((2 : Nat) : Int) = 2) = true := by decide
          have e : ratB (2, xs) (1, ys) = (xs.toList == ys.toList) := by
            by_cases h2 : xs = ys
            · subst h2; simp [ratB]
            · rw [beq_eq_false_iff_ne.2 (fun q => h2 (toList_inj' q))]
              simp [ratB]; exact fun q => h2 q.symm
          rw [e]
          go_enter Tryz.func82, Tryz.ntmps82
          go_wp2_with fail
          go_quiet ((go_at_call 117; first | with_reducible exact Calls.quiet_of_same (k1.out _) | with_reducible exact Calls.quiet_of_same (k2.out _)))
          go_wp2
          go_ret
          exact ⟨by first | rfl | simp | (congr 1), bl_drewN (((Below.refl _ w).alloc (Nat.le_refl _) _).alloc (by simp) _) _⟩
        · have e : ratB (2, xs) (yf, ys) = false := by simp [ratB, h1]
          rw [e]
          have hd : decide ((yf : Int) = 1) = false := decide_eq_false (by omega)
          have hd2 : ((yf : Int) == 1) = false := by rw [beq_eq_false_iff_ne]; omega
          go_enter Tryz.func82, Tryz.ntmps82
          go_wp2_with fail
          go_quiet ((go_at_call 117; first | with_reducible exact Calls.quiet_of_same (k1.out _) | with_reducible exact Calls.quiet_of_same (k2.out _)))
          go_wp2
          go_ret
          exact ⟨by first | rfl | simp | (congr 1), bl_drewN (((Below.refl _ w).alloc (Nat.le_refl _) _).alloc (by simp) _) _⟩
      · have e : ratB (xf, xs) (yf, ys) = false := by simp [ratB, h]
        rw [e]
        have hd : decide ((xf : Int) = 2) = false := decide_eq_false (by omega)
        have hd2 : ((xf : Int) == 2) = false := by rw [beq_eq_false_iff_ne]; omega
        go_enter Tryz.func82, Tryz.ntmps82
        go_wp2_with fail
        go_quiet ((go_at_call 117; first | with_reducible exact Calls.quiet_of_same (k1.out _) | with_reducible exact Calls.quiet_of_same (k2.out _)))
        go_wp2
        go_ret
        exact ⟨by first | rfl | simp | (congr 1), bl_drewN (((Below.refl _ w).alloc (Nat.le_refl _) _).alloc (by simp) _) _⟩
end Go.Proofs.YtdfnomglkibfbaaGreatDoor.Vf
