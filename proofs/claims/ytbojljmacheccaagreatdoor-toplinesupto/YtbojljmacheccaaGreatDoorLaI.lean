
import Derived.Test.YtbojljmacheccaaGreatDoorLaG
import Derived.Test.YtbojljmacheccaaGreatDoorKqIq
import Derived.Test.YtbojljmacheccaaGreatDoorLaA
import Derived.Test.YtbojljmacheccaaGreatDoorLwZq
import Derived.Test.YtbojljmacheccaaGreatDoorSameD
namespace Go.Proofs.YtbojljmacheccaaGreatDoor.Ln
open Go.RowKit Go.Shelf
attribute [local go_sem] Oper.semAt_some
set_option linter.unusedVariables false
set_option linter.unusedSimpArgs false
set_option maxRecDepth 100000
/-! ### what One tells, as points; the law's live and one. -/
def ptZ : PtP := ⟨⟨#[]⟩, [], [], 0⟩
def outP (l : By) : PtP := match one8 unK nvL l with | .ok p => ptB p | .error _ => ptZ
def outE (l : By) : Value := match one8 unK nvL l with | .ok _ => .nilIface | .error q => errL q
theorem ptIn_zero (w : World) : PtIn w none none 0 ptZ := ⟨Or.inl rfl, by simp [ptZ], Or.inl rfl, by simp [ptZ], by simp [ptZ]⟩
theorem ptIn_of {w : World} {B : Nat} {vt vf : Value} {p : Pt} (ht : OT w B vt (p.tags.map tgB)) (hf : OF w B vf (p.fs.map fdB)) (h1 : p.tags.length ≤ 1048576) (h2 : p.fs.length ≤ 1048576) : ∃ ta tc fa fc, (Value.agg #[.string (ba p.m), vt, vf, .int .i64 p.t]) = ptV (ptB p) ta tc fa fc ∧ PtIn w ta fa fc (ptB p) := by
  obtain ⟨ta, tc, e1, _, h3⟩ := OT.tin ht
  obtain ⟨fa, fc, e2, h5, h4⟩ := OF.tin hf
  subst e1 e2
  have l1 : (p.tags.map tgB).length ≤ 1048576 := by rw [List.length_map]; exact h1
  have l2 : (p.fs.map fdB).length ≤ 1048576 := by rw [List.length_map]; exact h2
  exact ⟨ta, tc, fa, fc, rfl, h3, Nat.le_trans l1 (by omega), h4, Nat.le_trans l2 (by omega), h5⟩
/-- what is read is short. -/
theorem tagsL_few {un : UnF} (hu : UnLe un) {l : By} : ∀ (f k : Nat) (acc ts : List (By × By)) (k' : Nat), k ≤ l.length → tagsL un l f k acc = .ok (ts, k') → ts.length + k ≤ acc.length + k' ∧ k' ≤ l.length
  | 0, k, acc, ts, k', hk, h => by unfold tagsL at h; injection h with h; injection h with h1 h2; subst h1; subst h2; exact ⟨Nat.le_refl _, hk⟩
  | f + 1, k, acc, ts, k', hk, h => by
    unfold tagsL at h
    split at h
    · rename_i hh
      have hlt := follow_lt hh
      split at h
      · cases h
      · rename_i t k1 p1
        have b := tag_le hu (by omega) p1
        have := tagsL_few hu f k1 _ ts k' b.2 h
        simp at this
        omega
    · injection h with h; injection h with h1 h2; subst h1; subst h2; exact ⟨Nat.le_refl _, hk⟩
theorem fieldsL_few {un : UnF} {nv : NvF} (hu : UnLe un) {l : By} : ∀ (f k : Nat) (acc ts : List (By × Int)) (k' : Nat), k ≤ l.length → fieldsL un nv l f k acc = .ok (ts, k') → ts.length + k ≤ acc.length + k' ∧ k' ≤ l.length
  | 0, k, acc, ts, k', hk, h => by unfold fieldsL at h; injection h with h; injection h with h1 h2; subst h1; subst h2; exact ⟨Nat.le_refl _, hk⟩
  | f + 1, k, acc, ts, k', hk, h => by
    unfold fieldsL at h
    split at h
    · rename_i hh
      have hlt := follow_lt hh
      split at h
      · cases h
      · rename_i t k1 p1
        have b := field_le hu (by omega) p1
        have := fieldsL_few hu f k1 _ ts k' b.2 h
        simp at this
        omega
    · injection h with h; injection h with h1 h2; subst h1; subst h2; exact ⟨Nat.le_refl _, hk⟩
theorem one_few {un : UnF} {nv : NvF} (hu : UnLe un) {l : By} {p : Pt} (h : oneL un nv l = .ok p) : p.tags.length ≤ l.length ∧ p.fs.length ≤ l.length + 1 := by
  unfold oneL at h
  split at h
  · cases h
  · split at h
    · cases h
    · split at h
      · cases h
      · rename_i m k1 p1
        split at h
        · cases h
        · rename_i ts k2 p2
          split at h
          · cases h
          · rename_i k3 p3
            split at h
            · cases h
            · rename_i f k4 p4
              split at h
              · cases h
              · rename_i fs k5 p5
                split at h
                · cases h
                · split at h
                  · cases h
                  · split at h
                    · cases h
                    · injection h with h
                      subst h
                      have a1 := piece_le hu (Nat.zero_le _) p1
                      have a2 := tagsL_few hu _ _ _ _ _ a1.2 p2
                      have a3 := must_le p3
                      have a4 := field_le hu (by omega) p4
                      have a5 := fieldsL_few hu _ _ _ _ _ a4.2 p5
                      simp at a2 a5
                      dsimp only
                      omega
theorem one8_few {l : By} {p : Pt} (h : one8 unK nvL l = .ok p) : p.tags.length ≤ 1048576 ∧ p.fs.length ≤ 1048576 ∧ l.length ≤ 8192 ∧ oneL unK nvL l = .ok p := by
  unfold one8 at h
  split at h
  · cases h
  · have e : oneL unK nvL l = .ok p := by
      cases ho : oneL unK nvL l with
      | error e => rw [ho] at h; cases h
      | ok q => rw [ho] at h; injection h with h; rw [h]
    have := one_few un_len e
    exact ⟨by omega, by omega, by omega, e⟩
theorem one_P (s : ByteArray) (w : World) (hg : LT w) (hs : s.size ≤ 9223372036854775807) : Calls Tryz.prog 15 #[.string s] w fun e w' => ∃ ta tc fa fc, e = .returned (.tuple #[ptV (outP s.data.toList) ta tc fa fc, outE s.data.toList]) ∧ PtIn w' ta fa fc (outP s.data.toList) ∧ Below w.heap.size w w' := by
  refine (one_any s w hg hs).mono ?_
  intro e w' h
  unfold EndO at h
  unfold outP outE
  cases ho : one8 unK nvL s.data.toList with
  | ok p =>
    rw [ho] at h
    obtain ⟨vt, vf, e1, h1, h2, _, hb⟩ := h
    obtain ⟨f1, f2, _⟩ := one8_few ho
    obtain ⟨ta, tc, fa, fc, ev, hp⟩ := ptIn_of h1 h2 f1 f2
    exact ⟨ta, tc, fa, fc, by rw [e1, ev], hp, hb⟩
  | error q =>
    rw [ho] at h
    obtain ⟨e1, hb⟩ := h
    exact ⟨none, 0, none, 0, e1, ptIn_zero w', hb⟩
end Go.Proofs.YtbojljmacheccaaGreatDoor.Ln

namespace Go.Proofs.YtbojljmacheccaaGreatDoor.Ln
open Go.RowKit Go.Shelf
attribute [local go_sem] Oper.semAt_some
set_option linter.unusedVariables false
set_option linter.unusedSimpArgs false
set_option maxRecDepth 100000
end Go.Proofs.YtbojljmacheccaaGreatDoor.Ln

namespace Go.Proofs.YtbojljmacheccaaGreatDoor.Ln
open Go.RowKit Go.Shelf
attribute [local go_sem] Oper.semAt_some
set_option linter.unusedVariables false
set_option linter.unusedSimpArgs false
set_option maxRecDepth 100000
/-! ### the document's One, as points; LineReads. -/
end Go.Proofs.YtbojljmacheccaaGreatDoor.Ln

namespace Go.Proofs.YtbojljmacheccaaGreatDoor.Ln
open Go.RowKit Go.Shelf
attribute [local go_sem] Oper.semAt_some
set_option linter.unusedVariables false
set_option linter.unusedSimpArgs false
set_option maxRecDepth 100000
end Go.Proofs.YtbojljmacheccaaGreatDoor.Ln
