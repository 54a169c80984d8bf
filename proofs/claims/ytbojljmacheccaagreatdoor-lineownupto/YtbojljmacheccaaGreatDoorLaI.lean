
import Derived.Test.YtbojljmacheccaaGreatDoorLaG
import Derived.Test.YtbojljmacheccaaGreatDoorKqIq
import Derived.Test.YtbojljmacheccaaGreatDoorLaA
import Derived.Test.YtbojljmacheccaaGreatDoorLwZq
import Derived.Test.YtbojljmacheccaaGreatDoorSameD
namespace Go.Proofs.YtbojljmacheccaaGreatDoor.Ln
open Go.RowKit Go.Shelf
attribute [local go_sem] Oper.semAt_some
set_option linter.unusedVariables false
set_option linter.unusedSimpArgs false
set_option maxRecDepth 100000
/-! ### what One tells, as points; the law's live and one. -/
def ptZ : PtP := ⟨⟨#[]⟩, [], [], 0⟩
def outP (l : By) : PtP := match one8 unK nvL l with | .ok p => ptB p | .error _ => ptZ
def outE (l : By) : Value := match one8 unK nvL l with | .ok _ => .nilIface | .error q => errL q
theorem ptIn_zero (w : World) : PtIn w none none 0 ptZ := ⟨Or.inl rfl, by simp [ptZ], Or.inl rfl, by simp [ptZ], by simp [ptZ]⟩
theorem ptIn_of {w : World} {B : Nat} {vt vf : Value} {p : Pt} (ht : OT w B vt (p.tags.map tgB)) (hf : OF w B vf (p.fs.map fdB)) (h1 : p.tags.length ≤ 1048576) (h2 : p.fs.length ≤ 1048576) : ∃ ta tc fa fc, (Value.agg #[.string (ba p.m), vt, vf, .int .i64 p.t]) = ptV (ptB p) ta tc fa fc ∧ PtIn w ta fa fc (ptB p) := by
  obtain ⟨ta, tc, e1, _, h3⟩ := OT.tin ht
  obtain ⟨fa, fc, e2, h5, h4⟩ := OF.tin hf
  subst e1 e2
  have l1 : (p.tags.map tgB).length ≤ 1048576 := by rw [List.length_map]; exact h1
  have l2 : (p.fs.map fdB).length ≤ 1048576 := by rw [List.length_map]; exact h2
  exact ⟨ta, tc, fa, fc, rfl, h3, Nat.le_trans l1 (by omega), h4, Nat.le_trans l2 (by omega), h5⟩
/-- what is read is short. -/
theorem tagsL_few {un : UnF} (hu : UnLe un) {l : By} : ∀ (f k : Nat) (acc ts : List (By × By)) (k' : Nat), k ≤ l.length → tagsL un l f k acc = .ok (ts, k') → ts.length + k ≤ acc.length + k' ∧ k' ≤ l.length
  | 0, k, acc, ts, k', hk, h => by unfold tagsL at h; injection h with h; injection h with h1 h2; subst h1; subst h2; exact ⟨Nat.le_refl _, hk⟩
  | f + 1, k, acc, ts, k', hk, h => by
    unfold tagsL at h
    split at h
    · rename_i hh
      have hlt := follow_lt hh
      split at h
      · cases h
      · rename_i t k1 p1
        have b := tag_le hu (by omega) p1
        have := tagsL_few hu f k1 _ ts k' b.2 h
        simp at this
        omega
    · injection h with h; injection h with h1 h2; subst h1; subst h2; exact ⟨Nat.le_refl _, hk⟩
theorem fieldsL_few {un : UnF} {nv : NvF} (hu : UnLe un) {l : By} : ∀ (f k : Nat) (acc ts : List (By × Int)) (k' : Nat), k ≤ l.length → fieldsL un nv l f k acc = .ok (ts, k') → ts.length + k ≤ acc.length + k' ∧ k' ≤ l.length
  | 0, k, acc, ts, k', hk, h => by unfold fieldsL at h; injection h with h; injection h with h1 h2; subst h1; subst h2; exact ⟨Nat.le_refl _, hk⟩
  | f + 1, k, acc, ts, k', hk, h => by
    unfold fieldsL at h
    split at h
    · rename_i hh
      have hlt := follow_lt hh
      split at h
      · cases h
      · rename_i t k1 p1
        have b := field_le hu (by omega) p1
        have := fieldsL_few hu f k1 _ ts k' b.2 h
        simp at this
        omega
    · injection h with h; injection h with h1 h2; subst h1; subst h2; exact ⟨Nat.le_refl _, hk⟩
theorem one_few {un : UnF} {nv : NvF} (hu : UnLe un) {l : By} {p : Pt} (h : oneL un nv l = .ok p) : p.tags.length ≤ l.length ∧ p.fs.length ≤ l.length + 1 := by
  unfold oneL at h
  split at h
  · cases h
  · split at h
    · cases h
    · split at h
      · cases h
      · rename_i m k1 p1
        split at h
        · cases h
        · rename_i ts k2 p2
          split at h
          · cases h
          · rename_i k3 p3
            split at h
            · cases h
            · rename_i f k4 p4
              split at h
              · cases h
              · rename_i fs k5 p5
                split at h
                · cases h
                · split at h
                  · cases h
                  · split at h
                    · cases h
                    · injection h with h
                      subst h
                      have a1 := piece_le hu (Nat.zero_le _) p1
                      have a2 := tagsL_few hu _ _ _ _ _ a1.2 p2
                      have a3 := must_le p3
                      have a4 := field_le hu (by omega) p4
                      have a5 := fieldsL_few hu _ _ _ _ _ a4.2 p5
                      simp at a2 a5
                      dsimp only
                      omega
theorem one8_few {l : By} {p : Pt} (h : one8 unK nvL l = .ok p) : p.tags.length ≤ 1048576 ∧ p.fs.length ≤ 1048576 ∧ l.length ≤ 8192 ∧ oneL unK nvL l = .ok p := by
  unfold one8 at h
  split at h
  · cases h
  · have e : oneL unK nvL l = .ok p := by
      cases ho : oneL unK nvL l with
      | error e => rw [ho] at h; cases h
      | ok q => rw [ho] at h; injection h with h; rw [h]
    have := one_few un_len e
    exact ⟨by omega, by omega, by omega, e⟩
theorem one_P (s : ByteArray) (w : World) (hg : LT w) (hs : s.size ≤ 9223372036854775807) : Calls Tryz.prog 15 #[.string s] w fun e w' => ∃ ta tc fa fc, e = .returned (.tuple #[ptV (outP s.data.toList) ta tc fa fc, outE s.data.toList]) ∧ PtIn w' ta fa fc (outP s.data.toList) ∧ Below w.heap.size w w' := by
  refine (one_any s w hg hs).mono ?_
  intro e w' h
  unfold EndO at h
  unfold outP outE
  cases ho : one8 unK nvL s.data.toList with
  | ok p =>
    rw [ho] at h
    obtain ⟨vt, vf, e1, h1, h2, _, hb⟩ := h
    obtain ⟨f1, f2, _⟩ := one8_few ho
    obtain ⟨ta, tc, fa, fc, ev, hp⟩ := ptIn_of h1 h2 f1 f2
    exact ⟨ta, tc, fa, fc, by rw [e1, ev], hp, hb⟩
  | error q =>
    rw [ho] at h
    obtain ⟨e1, hb⟩ := h
    exact ⟨none, 0, none, 0, e1, ptIn_zero w', hb⟩
def lvA : ByteArray := ⟨#[99, 112, 117, 44, 104, 111, 115, 116, 61, 97, 32, 118, 61, 52, 105, 32, 49, 48]⟩
def lvB : ByteArray := ⟨#[99, 112, 117, 32, 118, 61, 49, 32, 49, 48]⟩
def lvP : Pt := ⟨[99, 112, 117], [([104, 111, 115, 116], [97])], [([118], 4)], 10⟩
theorem lv_a : one8 unK nvL lvA.data.toList = .ok lvP := by kernel_rfl
theorem lv_b : one8 unK nvL lvB.data.toList = .error (some 7) := by kernel_rfl
theorem lv_p : prL (ptB lvP) = .ok lvA.data.toList := by kernel_rfl
end Go.Proofs.YtbojljmacheccaaGreatDoor.Ln

namespace Go.Proofs.YtbojljmacheccaaGreatDoor.Ln
open Go.RowKit Go.Shelf
attribute [local go_sem] Oper.semAt_some
set_option linter.unusedVariables false
set_option linter.unusedSimpArgs false
set_option maxRecDepth 100000
theorem lv_outP : outP lvA.data.toList = ptB lvP := by unfold outP; rw [lv_a]
theorem lv_outE : outE lvA.data.toList = .nilIface := by unfold outE; rw [lv_a]
theorem lv_S : PtS (ptB lvP) := ⟨by decide, by decide, by decide, fun t ht => by
    have : t = (⟨#[104, 111, 115, 116]⟩, ⟨#[97]⟩) := by simpa [ptB, lvP, bz] using ht
    subst this; exact ⟨by decide, by decide⟩, fun t ht => by
    have : t = (⟨#[118]⟩, 4) := by simpa [ptB, lvP, bz] using ht
    subst this; exact ⟨by decide, by unfold I64L; omega⟩, by unfold I64L; show _ ≤ (10 : Int) ∧ (10 : Int) ≤ _; omega⟩
abbrev lvV (ta : Option Addr) (tc : Nat) (fa : Option Addr) (fc : Nat) : Value := .agg #[.string ⟨#[99, 112, 117]⟩, .slice ta 1 tc, .slice fa 1 fc, .int .i64 10]
abbrev lvO (ta : Option Addr) (tc : Nat) (fa : Option Addr) (fc : Nat) : Obj := .cells #[.string ⟨#[99, 112, 117]⟩, .slice ta 1 tc, .slice fa 1 fc, .int .i64 10] 32
set_option maxHeartbeats 4000000 in
theorem live_l (w : World) (hg : LT w) : Calls Tryz.prog 6 #[] w fun e w' => e = .returned (.bool true) ∧ Below w.heap.size w w' := by
  have cA : Hid (Calls Tryz.prog 15 #[.string lvA] w fun e w' => ∃ ta tc fa fc, e = .returned (.tuple #[lvV ta tc fa fc, .nilIface]) ∧ PtIn w' ta fa fc (ptB lvP) ∧ Below w.heap.size w w') := by
    have h := one_P lvA w hg (by decide)
    rw [lv_outP, lv_outE] at h
    exact h
  have cB : Hid (∀ W, Below w.heap.size w W → Calls Tryz.prog 15 #[.string lvB] W fun e w' => e = .returned (.tuple #[.agg #[.string ⟨#[]⟩, .slice none 0 0, .slice none 0 0, .int .i64 0], atL 7]) ∧ Below W.heap.size W w') := fun W b => by
    have h := one_any lvB W (hg.on b) (by decide)
    refine h.mono ?_
    intro e w' h
    unfold EndO at h
    rw [lv_b] at h
    exact h
  have cP : Hid (∀ ta tc fa fc W, Below w.heap.size w W → PtIn W ta fa fc (ptB lvP) → Calls Tryz.prog 8 #[lvV ta tc fa fc] W fun e w' => e = .returned (.tuple #[.string lvA, .nilIface]) ∧ Below W.heap.size W w') := fun ta tc fa fc W b hp => by
    have h := print_l (ptB lvP) ta fa tc fc W hp lv_S (hg.on b)
    rw [lv_p] at h
    exact h
  have cI : Hid (∀ W, Below w.heap.size w W → Calls Tryz.prog 27 #[atL 7, .int .i64 60] W fun e w' => e = .returned (.bool true) ∧ Below W.heap.size W w') := fun W b => is_at 7 60 rfl 60 rfl W (hg.on b).et
  have hB0 : Hid (Below w.heap.size w w) := Below.refl _ _
  clear hg
  unfold lvA at cA cP
  unfold lvB at cB
  go_enter Tryz.func6, Tryz.ntmps6
  go_wp2_with fail
  refine Calls.mono cA.out ?_
  rintro e w1 ⟨ta, tc, fa, fc, rfl, hp1, B1⟩
  have hp1H : Hid (PtIn w1 ta fa fc (ptB lvP)) := hp1
  have B1H : Hid (Below w.heap.size w w1) := B1
  clear hp1 B1
  unfold lvV
  go_wp2_with fail
  refine Calls.mono (cB.out _ (B1H.out.alloc B1H.out.size _)) ?_
  rintro e w2 ⟨rfl, B2⟩
  have hb : Below w1.heap.size w1 w2 := ((Below.refl _ w1).alloc (Nat.le_refl _) _).trans (B2.mono (by simp))
  have hB : w2.heap[w1.heap.size]? = some (lvO ta tc fa fc) := (B2.block _ (by simp)).trans (World.alloc_heap_new w1 _)
  have hbH : Hid (Below w1.heap.size w1 w2) := hb
  have hBH : Hid (w2.heap[w1.heap.size]? = some (lvO ta tc fa fc)) := hB
  obtain ⟨n1, hn1⟩ : ∃ n1, w1.heap.size = n1 := ⟨_, rfl⟩
  have cel : Hid (∀ W : World, W.heap[n1]? = some (lvO ta tc fa fc) → W.cell? ⟨n1, 0, none⟩ = some (.string ⟨#[99, 112, 117]⟩) ∧ W.cell? ⟨n1, 1, none⟩ = some (.slice ta 1 tc) ∧ W.cell? ⟨n1, 2, none⟩ = some (.slice fa 1 fc) ∧ W.cell? ⟨n1, 3, none⟩ = some (.int .i64 10)) := fun W h => ⟨by rw [Lib.cell_of_heap h]; rfl, by rw [Lib.cell_of_heap h]; rfl, by rw [Lib.cell_of_heap h]; rfl, by rw [Lib.cell_of_heap h]; rfl⟩
  rw [hn1] at hB hBH ⊢
  obtain ⟨x0, x1, x2, x3⟩ := cel.out _ hB
  have B3H : Hid (Below w1.heap.size w1 (w2.alloc (.cells #[.string ⟨#[]⟩, .slice none 0 0, .slice none 0 0, .int .i64 0] 32)) ∧ (w2.alloc (.cells #[.string ⟨#[]⟩, .slice none 0 0, .slice none 0 0, .int .i64 0] 32)).heap[n1]? = some (lvO ta tc fa fc)) := ⟨hb.alloc hb.size _, by rw [Below.heap_alloc _ _ _ (Array.getElem?_eq_some_iff.1 hB).1]; exact hB⟩
  have hlt : n1 < w2.heap.size := (Array.getElem?_eq_some_iff.1 hB).1
  have hne : ¬ n1 = w2.heap.size := by omega
  have hne2 : ¬ w2.heap.size = n1 := by omega
  obtain ⟨z0, z1, z2, z3⟩ := cel.out _ B3H.out.2
  clear B2 hb hB
  go_wp2_with fail
  clear hlt hne hne2 z0 z1 z2 z3
  obtain ⟨W3, hW3⟩ : ∃ W3, w2.alloc (.cells #[.string ⟨#[]⟩, .slice none 0 0, .slice none 0 0, .int .i64 0] 32) = W3 := ⟨_, rfl⟩
  rw [hW3] at B3H ⊢
  have b3 : Below w.heap.size w W3 := B1H.out.trans (B3H.out.1.mono B1H.out.size)
  refine Calls.mono (cP.out ta tc fa fc W3 b3 (hp1H.out.below B3H.out.1)) ?_
  rintro e w4 ⟨rfl, B4⟩
  have b4 : Below w.heap.size w w4 := b3.trans (B4.mono b3.size)
  have h4 : w4.heap[n1]? = some (lvO ta tc fa fc) := (B4.block _ (Array.getElem?_eq_some_iff.1 B3H.out.2).1).trans B3H.out.2
  have b14 : Below w1.heap.size w1 w4 := B3H.out.1.trans (B4.mono B3H.out.1.size)
  obtain ⟨fb, fo, ef, hfb, f1, f2⟩ := FdIn.at hp1H.out.2.2.1 b14 (k := 0) (t := (⟨#[118]⟩, 4)) rfl
  obtain ⟨y0, y1, y2, y3⟩ := cel.out _ h4
  subst ef
  have f2' : w4.cell? ⟨fb, fo + 1, none⟩ = some (.int .i64 4) := by simpa using f2
  have b4H : Hid (Below w.heap.size w w4) := b4
  clear x0 x1 x2 x3 hW3 b3 B4 b4 h4 b14 f1 f2 hfb hn1
  unfold atL at cI ⊢
  go_wp2_with (go_at_call 27; (with_reducible refine Calls.mono (cI.out _ b4H.out) ?_); rintro e5 w5 ⟨rfl, B5⟩)
  go_ret
  exact ⟨rfl, b4H.out.trans (B5.mono b4H.out.size)⟩
end Go.Proofs.YtbojljmacheccaaGreatDoor.Ln

namespace Go.Proofs.YtbojljmacheccaaGreatDoor.Ln
open Go.RowKit Go.Shelf
attribute [local go_sem] Oper.semAt_some
set_option linter.unusedVariables false
set_option linter.unusedSimpArgs false
set_option maxRecDepth 100000
/-! ### the document's One, as points; LineReads. -/
def outB (l : By) : Value := match one8 unK nvL l with | .ok _ => bd0 | .error q => badL q
theorem outE_one (l : By) : (outE l).oneCell' = true := by
  unfold outE
  cases one8 unK nvL l with
  | ok p => rfl
  | error q => cases q <;> rfl
end Go.Proofs.YtbojljmacheccaaGreatDoor.Ln

namespace Go.Proofs.YtbojljmacheccaaGreatDoor.Ln
open Go.RowKit Go.Shelf
attribute [local go_sem] Oper.semAt_some
set_option linter.unusedVariables false
set_option linter.unusedSimpArgs false
set_option maxRecDepth 100000
end Go.Proofs.YtbojljmacheccaaGreatDoor.Ln
