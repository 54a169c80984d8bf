
import Derived.Test.YtdfnomglkibfbaaGreatDoorVfW
import Derived.Deep.CutRange
namespace Go.Proofs.YtdfnomglkibfbaaGreatDoor.Vf
open Go.RowKit
set_option linter.unusedVariables false
set_option linter.unusedSimpArgs false
set_option maxRecDepth 100000
def noneB (s : ByteArray) : Bool := decide (s = ⟨#[]⟩)
def headB (fr into : ByteArray) (every offset : Int) (n : Nat) : Bool := cleanB fr 64 && (noneB into || cleanB into 64) && decide (1 ≤ every) && decide (every ≤ 288230376151711744) && decide (0 ≤ offset) && decide (offset < every) && decide ((n : Int) ≤ 8)
set_option maxHeartbeats 4000000 in
theorem head17_any (fr into : ByteArray) (every offset : Int) (l : List ByteArray) (a : Option Addr) (c : Nat) (hn : l.length ≤ 1152921504606846976) (w : World) (h : StIn w a l) : Calls Tryz.prog 75 #[.string fr, .string into, .int .i64 every, .int .i64 offset, .slice a l.length c] w fun e w' => e = .returned (.bool (headB fr into every offset l.length && l.all columnB)) ∧ w' = w := by
  have hH : Hid (StIn w a l) := h
  clear h
  obtain ⟨x1, hx1⟩ : ∃ x, cleanB fr 64 = x := ⟨_, rfl⟩
  obtain ⟨x3, hx3⟩ : ∃ x, cleanB into 64 = x := ⟨_, rfl⟩
  have k1 : Hid (∀ W, Calls Tryz.prog 113 #[.string fr] W fun e w' => e = .returned (.bool x1) ∧ w' = W) := fun W => by rw [← hx1]; exact rname_is fr W
  have k2 : Hid (∀ W, Calls Tryz.prog 113 #[.string into] W fun e w' => e = .returned (.bool x3) ∧ w' = W) := fun W => by rw [← hx3]; exact rname_is into W
  obtain ⟨g0, hg0⟩ : ∃ g, headB fr into every offset l.length = g := ⟨_, rfl⟩
  have G0 : Hid ((x1 && (noneB into || x3) && decide (1 ≤ every) && decide (every ≤ 288230376151711744) && decide (0 ≤ offset) && decide (offset < every) && decide ((l.length : Int) ≤ 8)) = g0) := by rw [← hg0, ← hx1, ← hx3]; rfl
  rw [hg0]
  clear hg0 hx1 hx3
  go_enter Tryz.func75, Tryz.ntmps75
  go_upto_region 1 with fail
  go_cut [11] from 13 to 44 (fun s wx => s = .bool g0 ∧ wx = w)
  case first =>
    cases x1 with
    | false =>
      have E : g0 = false := by rw [← G0.out]; simp [noneB]
      clear G0 hH
      subst E
      go_wp2_with (go_at_call 113; (first | with_reducible refine Calls.mono (k1.out _) ?_ | with_reducible refine Calls.mono (k2.out _) ?_); rintro e w2 ⟨rfl, rfl⟩)
      all_goals (go_meet; exact ⟨by first | rfl | simp, rfl⟩)
    | true =>
      by_cases hs : into = ⟨#[]⟩
      · subst hs
        have hnb : (ByteArray.toList ⟨#[]⟩ == ([] : List UInt8)) = true := by rw [ByteArray.toList_eq]; rfl
        by_cases h3 : 1 ≤ every
        · have dh3 : decide (1 ≤ every) = true := decide_eq_true h3
          by_cases h4 : every ≤ 288230376151711744
          · have dh4 : decide (every ≤ 288230376151711744) = true := decide_eq_true h4
            by_cases h5 : 0 ≤ offset
            · have dh5 : decide (0 ≤ offset) = true := decide_eq_true h5
              by_cases h6 : offset < every
              · have dh6 : decide (offset < every) = true := decide_eq_true h6
                by_cases h7 : (l.length : Int) ≤ 8
                · have dh7 : decide ((l.length : Int) ≤ 8) = true := decide_eq_true h7
                  have E : g0 = true := by rw [← G0.out]; simp [noneB, h3, h4, h5, h6, h7]
                  clear G0 hH
                  subst E
                  go_wp2_with (go_at_call 113; (first | with_reducible refine Calls.mono (k1.out _) ?_ | with_reducible refine Calls.mono (k2.out _) ?_); rintro e w2 ⟨rfl, rfl⟩)
                  all_goals (go_meet; exact ⟨by first | rfl | simp, rfl⟩)
                · have dh7 : decide ((l.length : Int) ≤ 8) = false := decide_eq_false h7
                  have E : g0 = false := by rw [← G0.out]; simp [noneB, h3, h4, h5, h6, h7]
                  clear G0 hH
                  subst E
                  go_wp2_with (go_at_call 113; (first | with_reducible refine Calls.mono (k1.out _) ?_ | with_reducible refine Calls.mono (k2.out _) ?_); rintro e w2 ⟨rfl, rfl⟩)
                  all_goals (go_meet; exact ⟨by first | rfl | simp, rfl⟩)
              · have dh6 : decide (offset < every) = false := decide_eq_false h6
                have E : g0 = false := by rw [← G0.out]; simp [noneB, h3, h4, h5, h6]
                clear G0 hH
                subst E
                go_wp2_with (go_at_call 113; (first | with_reducible refine Calls.mono (k1.out _) ?_ | with_reducible refine Calls.mono (k2.out _) ?_); rintro e w2 ⟨rfl, rfl⟩)
                all_goals (go_meet; exact ⟨by first | rfl | simp, rfl⟩)
            · have dh5 : decide (0 ≤ offset) = false := decide_eq_false h5
              have E : g0 = false := by rw [← G0.out]; simp [noneB, h3, h4, h5]
              clear G0 hH
              subst E
              go_wp2_with (go_at_call 113; (first | with_reducible refine Calls.mono (k1.out _) ?_ | with_reducible refine Calls.mono (k2.out _) ?_); rintro e w2 ⟨rfl, rfl⟩)
              all_goals (go_meet; exact ⟨by first | rfl | simp, rfl⟩)
          · have dh4 : decide (every ≤ 288230376151711744) = false := decide_eq_false h4
            have E : g0 = false := by rw [← G0.out]; simp [noneB, h3, h4]
            clear G0 hH
            subst E
            go_wp2_with (go_at_call 113; (first | with_reducible refine Calls.mono (k1.out _) ?_ | with_reducible refine Calls.mono (k2.out _) ?_); rintro e w2 ⟨rfl, rfl⟩)
            all_goals (go_meet; exact ⟨by first | rfl | simp, rfl⟩)
        · have dh3 : decide (1 ≤ every) = false := decide_eq_false h3
          have E : g0 = false := by rw [← G0.out]; simp [noneB, h3]
          clear G0 hH
          subst E
          go_wp2_with (go_at_call 113; (first | with_reducible refine Calls.mono (k1.out _) ?_ | with_reducible refine Calls.mono (k2.out _) ?_); rintro e w2 ⟨rfl, rfl⟩)
          all_goals (go_meet; exact ⟨by first | rfl | simp, rfl⟩)
      · have hnt : ¬ into.toList = [] := fun q => hs (toList_inj' (by rw [q, ByteArray.toList_eq]))
        have hnb : (into.toList == []) = false := by rw [beq_eq_false_iff_ne]; exact hnt
        cases x3 with
        | false =>
          have E : g0 = false := by rw [← G0.out]; simp [noneB, hs]
          clear G0 hH
          subst E
          go_wp2_with (go_at_call 113; (first | with_reducible refine Calls.mono (k1.out _) ?_ | with_reducible refine Calls.mono (k2.out _) ?_); rintro e w2 ⟨rfl, rfl⟩)
          all_goals (go_meet; exact ⟨by first | rfl | simp, rfl⟩)
        | true =>
          by_cases h3 : 1 ≤ every
          · have dh3 : decide (1 ≤ every) = true := decide_eq_true h3
            by_cases h4 : every ≤ 288230376151711744
            · have dh4 : decide (every ≤ 288230376151711744) = true := decide_eq_true h4
              by_cases h5 : 0 ≤ offset
              · have dh5 : decide (0 ≤ offset) = true := decide_eq_true h5
                by_cases h6 : offset < every
                · have dh6 : decide (offset < every) = true := decide_eq_true h6
                  by_cases h7 : (l.length : Int) ≤ 8
                  · have dh7 : decide ((l.length : Int) ≤ 8) = true := decide_eq_true h7
                    have E : g0 = true := by rw [← G0.out]; simp [noneB, hs, h3, h4, h5, h6, h7]
                    clear G0 hH
                    subst E
                    go_wp2_with (go_at_call 113; (first | with_reducible refine Calls.mono (k1.out _) ?_ | with_reducible refine Calls.mono (k2.out _) ?_); rintro e w2 ⟨rfl, rfl⟩)
                    all_goals (go_meet; exact ⟨by first | rfl | simp, rfl⟩)
                  · have dh7 : decide ((l.length : Int) ≤ 8) = false := decide_eq_false h7
                    have E : g0 = false := by rw [← G0.out]; simp [noneB, hs, h3, h4, h5, h6, h7]
                    clear G0 hH
                    subst E
                    go_wp2_with (go_at_call 113; (first | with_reducible refine Calls.mono (k1.out _) ?_ | with_reducible refine Calls.mono (k2.out _) ?_); rintro e w2 ⟨rfl, rfl⟩)
                    all_goals (go_meet; exact ⟨by first | rfl | simp, rfl⟩)
                · have dh6 : decide (offset < every) = false := decide_eq_false h6
                  have E : g0 = false := by rw [← G0.out]; simp [noneB, hs, h3, h4, h5, h6]
                  clear G0 hH
                  subst E
                  go_wp2_with (go_at_call 113; (first | with_reducible refine Calls.mono (k1.out _) ?_ | with_reducible refine Calls.mono (k2.out _) ?_); rintro e w2 ⟨rfl, rfl⟩)
                  all_goals (go_meet; exact ⟨by first | rfl | simp, rfl⟩)
              · have dh5 : decide (0 ≤ offset) = false := decide_eq_false h5
                have E : g0 = false := by rw [← G0.out]; simp [noneB, hs, h3, h4, h5]
                clear G0 hH
                subst E
                go_wp2_with (go_at_call 113; (first | with_reducible refine Calls.mono (k1.out _) ?_ | with_reducible refine Calls.mono (k2.out _) ?_); rintro e w2 ⟨rfl, rfl⟩)
                all_goals (go_meet; exact ⟨by first | rfl | simp, rfl⟩)
            · have dh4 : decide (every ≤ 288230376151711744) = false := decide_eq_false h4
              have E : g0 = false := by rw [← G0.out]; simp [noneB, hs, h3, h4]
              clear G0 hH
              subst E
              go_wp2_with (go_at_call 113; (first | with_reducible refine Calls.mono (k1.out _) ?_ | with_reducible refine Calls.mono (k2.out _) ?_); rintro e w2 ⟨rfl, rfl⟩)
              all_goals (go_meet; exact ⟨by first | rfl | simp, rfl⟩)
          · have dh3 : decide (1 ≤ every) = false := decide_eq_false h3
            have E : g0 = false := by rw [← G0.out]; simp [noneB, hs, h3]
            clear G0 hH
            subst E
            go_wp2_with (go_at_call 113; (first | with_reducible refine Calls.mono (k1.out _) ?_ | with_reducible refine Calls.mono (k2.out _) ?_); rintro e w2 ⟨rfl, rfl⟩)
            all_goals (go_meet; exact ⟨by first | rfl | simp, rfl⟩)
  case rest =>
    obtain ⟨rfl, rfl⟩ := hcut
    clear k1 k2 G0
    go_wp2_with fail
    go_loopw [11, 12] (fun v11 v12 wr => wr = wc ∧ ∃ k : Nat, v12 = .int .i64 (k : Int) ∧ v11 = .bool (g0 && (l.take k).all columnB) ∧ k ≤ l.length) (fun _ v12 _ => l.length - (intOf v12).toNat)
    case atStart => exact ⟨rfl, 0, rfl, by simp, Nat.zero_le _⟩
    case round =>
      obtain ⟨rfl, k, rfl, rfl, hkl⟩ := hrel
      by_cases hk : k < l.length
      · obtain ⟨g, off, s, es, rfl, gl, cs⟩ := hH.out.at hk
        have kI : (k : Int) < (l.length : Int) := by omega
        have k0 : (0 : Int) ≤ (k : Int) := by omega
        have kw : IntKind.i64.wrap ((k : Int) + 1) = ((k + 1 : Nat) : Int) := IntWalk.i64_in _ (by omega)
        have et : (l.take (k + 1)).all columnB = ((l.take k).all columnB && columnB s) := by rw [List.take_add_one, es, List.all_append]; simp
        obtain ⟨y, hy⟩ : ∃ y, columnB s = y := ⟨_, rfl⟩
        have cW : Hid (∀ W, Calls Tryz.prog 114 #[.string s] W fun e w' => e = .returned (.bool y) ∧ w' = W) := fun W => by rw [← hy]; exact rword_is s W
        rw [hy] at et
        obtain ⟨b0, hb0⟩ : ∃ b, (g0 && (l.take k).all columnB) = b := ⟨_, rfl⟩
        rw [hb0]
        have NX0 : (g0 && (l.take (k + 1)).all columnB) = (b0 && y) := by rw [et, ← Bool.and_assoc, hb0]
        have NX : Hid ((g0 && (l.take (k + 1)).all columnB) = (b0 && y)) := NX0
        clear NX0
        clear hH et hb0 es hy
        cases b0 with
        | false =>
          go_wp2_with fail
          exact ⟨⟨by first | trivial | rfl, k + 1, by first | rfl | (rw [kw]), by rw [NX.out]; rfl, hk⟩, by first | (simp [intOf]; done) | (simp [intOf]; omega)⟩
        | true =>
          go_wp2_with (go_at_call 114; with_reducible refine Calls.mono (cW.out _) ?_; rintro e w2 ⟨rfl, rfl⟩)
          exact ⟨⟨by first | trivial | rfl, k + 1, by first | rfl | (rw [kw]), by rw [NX.out]; simp, hk⟩, by first | (simp [intOf]; done) | (simp [intOf]; omega)⟩
      · have kI : ¬ (k : Int) < (l.length : Int) := by omega
        have e : l.take k = l := List.take_of_length_le (by omega)
        rw [e]
        clear hH
        obtain ⟨r, hr⟩ : ∃ r, (g0 && l.all columnB) = r := ⟨_, rfl⟩
        rw [hr]
        have hrH : Hid ((g0 && l.all columnB) = r) := hr
        clear hr
        go_wp2_with fail
        go_ret
        exact ⟨by rw [hrH.out]; rfl, rfl⟩
end Go.Proofs.YtdfnomglkibfbaaGreatDoor.Vf
