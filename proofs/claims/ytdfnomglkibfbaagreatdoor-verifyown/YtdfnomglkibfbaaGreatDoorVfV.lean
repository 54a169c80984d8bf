
import Derived.Test.YtdfnomglkibfbaaGreatDoorVfU
namespace Go.Proofs.YtdfnomglkibfbaaGreatDoor.Vf
open Go.RowKit
set_option linter.unusedVariables false
set_option linter.unusedSimpArgs false
set_option maxRecDepth 100000
def oneB (f : Nat) : Bool := decide (f = 1) || decide (f = 2) || decide (f = 4) || decide (f = 5) || decide (f = 6) || decide (f = 7)
def accB (a : AcP) : Bool := oneB a.1 && columnB a.2
theorem one_any (f : Nat) (w : World) : Calls Tryz.prog 115 #[.int .u8 (f : Int)] w fun e w' => e = .returned (.bool (oneB f)) ∧ w' = w := by
  by_cases h1 : f = 1
  · subst h1
    have e : oneB 1 = true := rfl
    rw [e]
    go_enter Tryz.func115, Tryz.ntmps115
    go_wp2
    go_ret
    exact ⟨rfl, rfl⟩
  by_cases h2 : f = 2
  · subst h2
    have e : oneB 2 = true := rfl
    rw [e]
    go_enter Tryz.func115, Tryz.ntmps115
    go_wp2
    go_ret
    exact ⟨rfl, rfl⟩
  by_cases h4 : f = 4
  · subst h4
    have e : oneB 4 = true := rfl
    rw [e]
    go_enter Tryz.func115, Tryz.ntmps115
    go_wp2
    go_ret
    exact ⟨rfl, rfl⟩
  by_cases h5 : f = 5
  · subst h5
    have e : oneB 5 = true := rfl
    rw [e]
    go_enter Tryz.func115, Tryz.ntmps115
    go_wp2
    go_ret
    exact ⟨rfl, rfl⟩
  by_cases h6 : f = 6
  · subst h6
    have e : oneB 6 = true := rfl
    rw [e]
    go_enter Tryz.func115, Tryz.ntmps115
    go_wp2
    go_ret
    exact ⟨rfl, rfl⟩
  by_cases h7 : f = 7
  · subst h7
    have e : oneB 7 = true := rfl
    rw [e]
    go_enter Tryz.func115, Tryz.ntmps115
    go_wp2
    go_ret
    exact ⟨rfl, rfl⟩
  have e : oneB f = false := by simp [oneB, h1, h2, h4, h5, h6, h7]
  rw [e]
  have q1 : ¬ (f : Int) = 1 := by omega
  have d1 : decide ((f : Int) = 1) = false := decide_eq_false q1
  have q2 : ¬ (f : Int) = 2 := by omega
  have d2 : decide ((f : Int) = 2) = false := decide_eq_false q2
  have q4 : ¬ (f : Int) = 4 := by omega
  have d4 : decide ((f : Int) = 4) = false := decide_eq_false q4
  have q5 : ¬ (f : Int) = 5 := by omega
  have d5 : decide ((f : Int) = 5) = false := decide_eq_false q5
  have q6 : ¬ (f : Int) = 6 := by omega
  have d6 : decide ((f : Int) = 6) = false := decide_eq_false q6
  have q7 : ¬ (f : Int) = 7 := by omega
  have d7 : decide ((f : Int) = 7) = false := decide_eq_false q7
  clear h1 h2 h4 h5 h6 h7 e
  generalize (f : Int) = fi at *
  go_enter Tryz.func115, Tryz.ntmps115
  go_wp2
  go_ret
  exact ⟨by first | rfl | simp [q1, q2, q4, q5, q6, q7], rfl⟩
theorem AcIn.at {w : World} {a : Option Addr} {l : List AcP} (h : AcIn w a l) {k : Nat} (hk : k < l.length) : ∃ b off s, l[k]? = some s ∧ a = some ⟨b, off, none⟩ ∧ b < w.heap.size ∧ w.cell? ⟨b, off + k * 2, none⟩ = some (.int .u8 (s.1 : Int)) ∧ w.cell? ⟨b, off + k * 2 + 1, none⟩ = some (.string s.2) := by
  rcases h with h | ⟨b, off, h1, h2, h3⟩
  · rw [h] at hk; simp at hk
  · obtain ⟨k1, k2⟩ := h3 k _ (List.getElem?_eq_getElem hk)
    exact ⟨b, off, l[k], List.getElem?_eq_getElem hk, h1, h2, k1, k2⟩
set_option maxHeartbeats 2000000 in
theorem accs_any (l : List AcP) (a : Option Addr) (c : Nat) (hn : l.length ≤ 1152921504606846976) (w : World) (h : AcIn w a l) : Calls Tryz.prog 76 #[.slice a l.length c] w fun e w' => e = .returned (.bool (l.all accB)) ∧ w' = w := by
  have hH : Hid (AcIn w a l) := h
  clear h
  go_enter Tryz.func76, Tryz.ntmps76
  go_wp2_with fail
  go_loopw [3] (fun v3 wr => wr = w ∧ ∃ k : Nat, v3 = .int .i64 (k : Int) ∧ k ≤ l.length ∧ Hid ((l.take k).all accB = true)) (fun v3 _ => l.length - (intOf v3).toNat)
  case atStart => exact ⟨rfl, 0, rfl, Nat.zero_le _, rfl⟩
  case round =>
    obtain ⟨rfl, k, rfl, hkl, hb⟩ := hrel
    by_cases hk : k < l.length
    · obtain ⟨g, off, s, es, rfl, gl, cs1, cs2⟩ := hH.out.at hk
      have kI : (k : Int) < (l.length : Int) := by omega
      have k0 : (0 : Int) ≤ (k : Int) := by omega
      have kw : IntKind.i64.wrap ((k : Int) + 1) = ((k + 1 : Nat) : Int) := IntWalk.i64_in _ (by omega)
      obtain ⟨sf, sx⟩ := s
      obtain ⟨x, hx⟩ : ∃ x, oneB sf = x := ⟨_, rfl⟩
      obtain ⟨y, hy⟩ : ∃ y, columnB sx = y := ⟨_, rfl⟩
      have cO : Hid (∀ W, Calls Tryz.prog 115 #[.int .u8 (sf : Int)] W fun e w' => e = .returned (.bool x) ∧ w' = W) := fun W => by rw [← hx]; exact one_any sf W
      have cW : Hid (∀ W, Calls Tryz.prog 114 #[.string sx] W fun e w' => e = .returned (.bool y) ∧ w' = W) := fun W => by rw [← hy]; exact rword_is sx W
      cases x with
      | false =>
        have fin : Hid (l.all accB = false) := all_false es (by simp [accB, hx])
        clear hH hb hx es
        generalize l.length = n at *
        go_wp2_with (go_at_call 115; with_reducible refine Calls.mono (cO.out _) ?_; rintro e w2 ⟨rfl, rfl⟩)
        go_ret
        exact ⟨by rw [fin.out]; rfl, rfl⟩
      | true =>
        cases y with
        | false =>
          have fin : Hid (l.all accB = false) := all_false es (by simp [accB, hy])
          clear hH hb hx es
          generalize l.length = n at *
          go_wp2_with (first | (go_at_call 115; with_reducible refine Calls.mono (cO.out _) ?_; rintro e w2 ⟨rfl, rfl⟩) | (go_at_call 114; with_reducible refine Calls.mono (cW.out _) ?_; rintro e w2 ⟨rfl, rfl⟩))
          go_ret
          exact ⟨by rw [fin.out]; rfl, rfl⟩
        | true =>
          have NX : Hid ((l.take (k + 1)).all accB = true) := all_take hb.out es (by simp [accB, hx, hy])
          clear hH hb hx es
          go_wp2_with (first | (go_at_call 115; with_reducible refine Calls.mono (cO.out _) ?_; rintro e w2 ⟨rfl, rfl⟩) | (go_at_call 114; with_reducible refine Calls.mono (cW.out _) ?_; rintro e w2 ⟨rfl, rfl⟩))
          exact ⟨⟨by first | trivial | rfl, k + 1, by first | rfl | (rw [kw]), hk, NX⟩, by first | (simp [intOf]; done) | (simp [intOf]; omega)⟩
    · have kI : ¬ (k : Int) < (l.length : Int) := by omega
      have fin : Hid (l.all accB = true) := by
        have := hb.out
        rw [List.take_of_length_le (by omega)] at this
        exact this
      clear hH hb
      go_wp2_with fail
      go_ret
      exact ⟨by rw [fin.out]; rfl, rfl⟩
end Go.Proofs.YtdfnomglkibfbaaGreatDoor.Vf
