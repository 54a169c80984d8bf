
import Derived.Test.YtdfnomglkibfbaaGreatDoorVfS
import Derived.Test.YtdfnomglkibfbaaGreatDoorKzA
import Derived.LoopTactic
namespace Go.Proofs.YtdfnomglkibfbaaGreatDoor.Vf
open Go.RowKit
set_option linter.unusedVariables false
set_option linter.unusedSimpArgs false
set_option maxRecDepth 100000
/-- texts in memory. -/
def StIn (w : World) (a : Option Addr) (l : List ByteArray) : Prop := l = [] ∨ ∃ b off, a = some ⟨b, off, none⟩ ∧ b < w.heap.size ∧ ∀ i t, l[i]? = some t → w.cell? ⟨b, off + i, none⟩ = some (.string t)
theorem StIn.below {w w' : World} {a : Option Addr} {l : List ByteArray} {n : Nat} (h : StIn w a l) (hb : Below n w w') (hn : w.heap.size ≤ n) : StIn w' a l := by
  rcases h with h | ⟨b, off, h1, h2, h3⟩
  · exact Or.inl h
  · exact Or.inr ⟨b, off, h1, Nat.lt_of_lt_of_le h2 hb.size, fun i t ht => by rw [hb.cell (p := ⟨b, off + i, none⟩) (Nat.lt_of_lt_of_le h2 hn)]; exact h3 i t ht⟩
theorem StIn.at {w : World} {a : Option Addr} {l : List ByteArray} (h : StIn w a l) {k : Nat} (hk : k < l.length) : ∃ b off s, l[k]? = some s ∧ a = some ⟨b, off, none⟩ ∧ b < w.heap.size ∧ w.cell? ⟨b, off + k, none⟩ = some (.string s) := by
  rcases h with h | ⟨b, off, h1, h2, h3⟩
  · rw [h] at hk; simp at hk
  · exact ⟨b, off, l[k], List.getElem?_eq_getElem hk, h1, h2, h3 k _ (List.getElem?_eq_getElem hk)⟩
theorem all_take {α : Type} {f : α → Bool} {l : List α} {k : Nat} {x : α} (h : (l.take k).all f = true) (hx : l[k]? = some x) (hf : f x = true) : (l.take (k + 1)).all f = true := by
  rw [List.take_add_one, hx, List.all_append, h]; simp [hf]
theorem all_false {α : Type} {f : α → Bool} {l : List α} {k : Nat} {x : α} (hx : l[k]? = some x) (hf : f x = false) : l.all f = false := by
  rw [List.all_eq_false]
  exact ⟨x, List.mem_of_getElem? hx, by rw [hf]; simp⟩
def textB (s : ByteArray) : Bool := decide (s = ⟨#[]⟩) || cleanB s 256
set_option maxHeartbeats 2000000 in
theorem words_any (l : List ByteArray) (a : Option Addr) (c : Nat) (hn : l.length ≤ 1152921504606846976) (w : World) (h : StIn w a l) : Calls Tryz.prog 77 #[.slice a l.length c] w fun e w' => e = .returned (.bool (l.all columnB)) ∧ w' = w := by
  have hH : Hid (StIn w a l) := h
  clear h
  go_enter Tryz.func77, Tryz.ntmps77
  go_wp2_with fail
  go_loopw [3] (fun v3 wr => wr = w ∧ ∃ k : Nat, v3 = .int .i64 (k : Int) ∧ k ≤ l.length ∧ Hid ((l.take k).all columnB = true)) (fun v3 _ => l.length - (intOf v3).toNat)
  case atStart => exact ⟨rfl, 0, rfl, Nat.zero_le _, rfl⟩
  case round =>
    obtain ⟨rfl, k, rfl, hkl, hb⟩ := hrel
    by_cases hk : k < l.length
    · obtain ⟨g, off, s, es, rfl, gl, cs⟩ := hH.out.at hk
      have kI : (k : Int) < (l.length : Int) := by omega
      have k0 : (0 : Int) ≤ (k : Int) := by omega
      have kw : IntKind.i64.wrap ((k : Int) + 1) = ((k + 1 : Nat) : Int) := IntWalk.i64_in _ (by omega)
      obtain ⟨x, hx⟩ : ∃ x, columnB s = x := ⟨_, rfl⟩
      have cW : Hid (∀ W, Calls Tryz.prog 114 #[.string s] W fun e w' => e = .returned (.bool x) ∧ w' = W) := fun W => by rw [← hx]; exact rword_is s W
      cases x with
      | false =>
        have fin : Hid (l.all columnB = false) := all_false es hx
        clear hH hb hx es
        generalize l.length = n at *
        go_wp2_with (go_at_call 114; with_reducible refine Calls.mono (cW.out _) ?_; rintro e w2 ⟨rfl, rfl⟩)
        go_ret
        exact ⟨by rw [fin.out]; rfl, rfl⟩
      | true =>
        have NX : Hid ((l.take (k + 1)).all columnB = true) := all_take hb.out es hx
        clear hH hb hx es
        go_wp2_with (go_at_call 114; with_reducible refine Calls.mono (cW.out _) ?_; rintro e w2 ⟨rfl, rfl⟩)
        exact ⟨⟨by first | trivial | rfl, k + 1, by first | rfl | (rw [kw]), hk, NX⟩, by first | (simp [intOf]; done) | (simp [intOf]; omega)⟩
    · have kI : ¬ (k : Int) < (l.length : Int) := by omega
      have fin : Hid (l.all columnB = true) := by
        have := hb.out
        rw [List.take_of_length_le (by omega)] at this
        exact this
      clear hH hb
      go_wp2_with fail
      go_ret
      exact ⟨by rw [fin.out]; rfl, rfl⟩
set_option maxHeartbeats 2000000 in
theorem texts_any (l : List ByteArray) (a : Option Addr) (c : Nat) (hn : l.length ≤ 1152921504606846976) (w : World) (h : StIn w a l) : Calls Tryz.prog 78 #[.slice a l.length c] w fun e w' => e = .returned (.bool (l.all textB)) ∧ w' = w := by
  have hH : Hid (StIn w a l) := h
  clear h
  go_enter Tryz.func78, Tryz.ntmps78
  go_wp2_with fail
  go_loopw [3] (fun v3 wr => wr = w ∧ ∃ k : Nat, v3 = .int .i64 (k : Int) ∧ k ≤ l.length ∧ Hid ((l.take k).all textB = true)) (fun v3 _ => l.length - (intOf v3).toNat)
  case atStart => exact ⟨rfl, 0, rfl, Nat.zero_le _, rfl⟩
  case round =>
    obtain ⟨rfl, k, rfl, hkl, hb⟩ := hrel
    by_cases hk : k < l.length
    · obtain ⟨g, off, s, es, rfl, gl, cs⟩ := hH.out.at hk
      have kI : (k : Int) < (l.length : Int) := by omega
      have k0 : (0 : Int) ≤ (k : Int) := by omega
      have kw : IntKind.i64.wrap ((k : Int) + 1) = ((k + 1 : Nat) : Int) := IntWalk.i64_in _ (by omega)
      by_cases hs : s = ⟨#[]⟩
      · have NX : Hid ((l.take (k + 1)).all textB = true) := all_take hb.out es (by simp [textB, hs])
        subst hs
        clear hH hb es
        go_wp2_with fail
        exact ⟨⟨by first | trivial | rfl, k + 1, by first | rfl | (rw [kw]), hk, NX⟩, by first | (simp [intOf]; done) | (simp [intOf]; omega)⟩
      · have hnt : ¬ s.toList = [] := fun q => hs (toList_inj' (by rw [q, ByteArray.toList_eq]))
        have hnb : (s.toList == []) = false := by rw [beq_eq_false_iff_ne]; exact hnt
        obtain ⟨x, hx⟩ : ∃ x, cleanB s 256 = x := ⟨_, rfl⟩
        have cW : Hid (∀ W, Calls Tryz.prog 116 #[.string s] W fun e w' => e = .returned (.bool x) ∧ w' = W) := fun W => by rw [← hx]; exact rtext_is s W
        cases x with
        | false =>
          have fin : Hid (l.all textB = false) := all_false es (by simp [textB, hs, hx])
          clear hH hb hx es
          generalize l.length = n at *
          go_wp2_with (go_at_call 116; with_reducible refine Calls.mono (cW.out _) ?_; rintro e w2 ⟨rfl, rfl⟩)
          go_ret
          exact ⟨by rw [fin.out]; rfl, rfl⟩
        | true =>
          have NX : Hid ((l.take (k + 1)).all textB = true) := all_take hb.out es (by simp [textB, hx])
          clear hH hb hx es
          go_wp2_with (go_at_call 116; with_reducible refine Calls.mono (cW.out _) ?_; rintro e w2 ⟨rfl, rfl⟩)
          exact ⟨⟨by first | trivial | rfl, k + 1, by first | rfl | (rw [kw]), hk, NX⟩, by first | (simp [intOf]; done) | (simp [intOf]; omega)⟩
    · have kI : ¬ (k : Int) < (l.length : Int) := by omega
      have fin : Hid (l.all textB = true) := by
        have := hb.out
        rw [List.take_of_length_le (by omega)] at this
        exact this
      clear hH hb
      go_wp2_with fail
      go_ret
      exact ⟨by rw [fin.out]; rfl, rfl⟩
end Go.Proofs.YtdfnomglkibfbaaGreatDoor.Vf
