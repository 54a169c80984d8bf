
import Derived.Test.YtpicgjjbpiinfaaGreatDoorUvFq
import Derived.Test.YtpicgjjbpiinfaaGreatDoorHandBq
import Derived.Test.YtpicgjjbpiinfaaGreatDoorSameDq
import Derived.Test.YtpicgjjbpiinfaaGreatDoorBlSq
namespace Go.Proofs.YtpicgjjbpiinfaaGreatDoor
open Go.RowKit
set_option linter.unusedVariables false
set_option linter.unusedSimpArgs false
theorem RowAt.bytes2 {H len : Nat} {bs : Nat → Nat} {w1 wx : World} (h : RowAt H (len + 9) (handF bs len) w1 wx) (hbs : ∀ j, j < len → bs j < 256) : BytesAt wx H 0 len bs := fun i hi => by
  have := h.c i (by omega)
  unfold handF at this
  rw [if_pos hi] at this
  exact ⟨by rw [Nat.zero_add]; exact this, hbs i hi⟩
theorem same_fv (fv : Option (Int × Int)) (hfe : ∀ x, fv = some x → (x.2 == 0) = false) (w : World) (hg : ET w) : Calls Tryz.prog 9 #[fvV fv, fvB fv] w fun e w' => e = .returned (.bool true) ∧ Below w.heap.size w w' := by
  cases fv with
  | none => exact same_nilB w
  | some x =>
    obtain ⟨q, e⟩ := x
    exact sameC_hit_miss [(false, q)] e (hfe _ rfl) q [] rfl rfl w hg
theorem natsOf_bytesL (bs : Nat → Nat) (n i : Nat) (h : i < n) : natsOf (bytesL bs n) i = bs i := by
  unfold natsOf bytesL
  simp [List.getD_eq_getElem?_getD, h]
theorem BytesIn.nats {w : World} {a : Option Addr} {n : Nat} {bs : Nat → Nat} (h : BytesIn w a n bs) : BytesIn w a n (natsOf (bytesL bs n)) := by
  refine ⟨h.1, ?_⟩
  rcases h.2 with h0 | ⟨b, off, e, hb, hB⟩
  · exact Or.inl h0
  · exact Or.inr ⟨b, off, e, hb, fun i hi => by rw [natsOf_bytesL bs n i hi]; exact hB i hi⟩
theorem readV_fe (bs : Nat → Nat) (n : Nat) (s0 : PS) (h : ∀ x, s0.fv = some x → (x.2 == 0) = false) : ∀ k x, (readV bs n s0 k).s.fv = some x → (x.2 == 0) = false := by
  intro k
  induction k with
  | zero => exact h
  | succ k ih =>
    have e : readV bs n s0 (k + 1) = if (readV bs n s0 k).s.fv.isSome then readV bs n s0 k else stepV bs n (readV bs n s0 k) := rfl
    rw [e]
    split
    · exact ih
    · unfold stepV stepT
      have b1 := bitsT_fe bs n 1 _ ih
      have b2 := bitsT_fe bs n 1 _ b1
      split
      · exact b1
      · split
        · exact bitsT_fe _ _ _ _ (bitsT_fe _ _ _ _ b2)
        · split
          · exact bitsT_fe _ _ _ _ b2
          · exact bitsT_fe _ _ _ _ b2
theorem numS_fe (bs : Nat → Nat) (n p : Nat) : ∀ f s v q, f + s = 10 → 1 ≤ f → numS bs n p f s v = .inl q → (q.2 == 0) = false := by
  intro f
  induction f with
  | zero => intro s v q _ h; omega
  | succ f ih =>
    intro s v q hs _ h
    unfold numS at h
    split at h
    · injection h with h; rw [← h]; rfl
    · split at h
      · injection h with h; rw [← h]; rfl
      · rename_i hn
        split at h
        · cases h
        · rename_i hb
          by_cases hf : f = 0
          · exact absurd (Or.inl ⟨by omega, by omega⟩) hn
          · exact ih (s + 1) _ q (by omega) (by omega) h
theorem uintT_fe (bs : Nat → Nat) (n M : Nat) : ∀ x, (uintT bs n M ⟨0, 0, none⟩).1.fv = some x → (x.2 == 0) = false := by
  intro x
  unfold uintT
  rw [if_neg (by simp [startF, ragb])]
  split
  · rename_i q hq
    intro hx
    simp at hx
    rw [← hx]; exact numS_fe _ _ _ 10 0 0 _ rfl (by omega) hq
  · split
    · intro hx; simp at hx; rw [← hx]; rfl
    · intro hx; simp at hx
theorem UnVE.same {bs : Nat → Nat} {n : Nat} {e e' : Ending} {w w' : World} (h : UnVE bs n fvV (.iface 29 (.int .i64 90)) .nilIface e w) (h' : UnVE bs n fvB (badV 90) (badV 0) e' w') :
    (∃ x, (x.2 == 0) = false ∧ e = .returned (.tuple #[.slice none 0 0, fvV (some x)]) ∧ e' = .returned (.tuple #[.slice none 0 0, fvB (some x)])) ∨
    (e = .returned (.tuple #[.slice none 0 0, .iface 29 (.int .i64 90)]) ∧ e' = .returned (.tuple #[.slice none 0 0, badV 90])) ∨
    (∃ m kk xx a c a' c', e = .returned (.tuple #[.slice a m c, .nilIface]) ∧ e' = .returned (.tuple #[.slice a' m c', badV 0]) ∧ VIn w a m kk xx ∧ VIn w' a' m kk xx) := by
  rcases h with ⟨x, hx, he⟩ | ⟨hd, ⟨hq, a, c, he, hV⟩ | ⟨hq, he⟩⟩
  · left
    refine ⟨x, doneF_fe (fun y hy => readV_fe _ _ _ (uintT_fe _ _ _) _ y hy) x hx, he, ?_⟩
    rcases h' with ⟨x', hx', he'⟩ | ⟨hd', _⟩
    · rw [hx] at hx'; injection hx' with hx'; rw [hx']; exact he'
    · rw [hx] at hd'; cases hd'
  · right; right
    rcases h' with ⟨x', hx', he'⟩ | ⟨hd', ⟨hq', a', c', he', hV'⟩ | ⟨hq', he'⟩⟩
    · rw [hd] at hx'; cases hx'
    · exact ⟨_, _, _, a, c, a', c', he, he', hV, hV'⟩
    · exact absurd hq hq'
  · right; left
    rcases h' with ⟨x', hx', he'⟩ | ⟨hd', ⟨hq', a', c', he', hV'⟩ | ⟨hq', he'⟩⟩
    · rw [hd] at hx'; cases hx'
    · exact absurd hq' hq
    · exact ⟨he, he'⟩
theorem UnVE.shape {bs : Nat → Nat} {n : Nat} {err : Option (Int × Int) → Value} {bad ok : Value} {e : Ending} {w' : World} (h : UnVE bs n err bad ok e w') : ∃ a m c er, e = .returned (.tuple #[.slice a m c, er]) := by
  rcases h with ⟨x, _, he⟩ | ⟨_, ⟨_, a, c, he, _⟩ | ⟨_, he⟩⟩
  · exact ⟨_, _, _, _, he⟩
  · exact ⟨_, _, _, _, he⟩
  · exact ⟨_, _, _, _, he⟩
theorem vin_none (W : World) : VIn W none 0 (fun _ => 0) (fun _ => 0) := ⟨by omega, fun i => ⟨by show 0 < 256; omega, by show (-9223372036854775808 : Int) ≤ 0; omega, by show (0 : Int) ≤ 9223372036854775807; omega⟩, Or.inl rfl⟩
end Go.Proofs.YtpicgjjbpiinfaaGreatDoor
