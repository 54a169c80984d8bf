
import Derived.Test.YtpicgjjbpiinfaaDoorWrA
namespace Go.Proofs.YtpicgjjbpiinfaaDoor
open Go.RowKit
set_option linter.unusedVariables false
set_option linter.unusedSimpArgs false
/-! ### a number without sign, as bytes -/
def enc (l : List Nat) : List Value := l.map fun (b : Nat) => Value.int .u8 (b : Int)
def uBf : Nat → Nat → List Nat
  | 0, v => [v]
  | f + 1, v => if v < 128 then [v] else (v % 128 + 128) :: uBf f (v / 128)
/-- the bytes of v, below 2^64. -/
def uB (v : Nat) : List Nat := uBf 10 v
theorem uBf_len (f v : Nat) : (uBf f v).length ≤ f + 1 := by
  induction f generalizing v with
  | zero => simp [uBf]
  | succ f ih => unfold uBf; split <;> simp; exact ih _
theorem or128 (a : Nat) (h : a < 256) : bits .or .u8 (a : Int) 128 = ((a % 128 + 128 : Nat) : Int) := by
  have h1 := u8_or_nat a 128 h (by omega)
  have h2 : ∀ a, a < 256 → a ||| 128 = a % 128 + 128 := by decide +kernel
  rw [h2 a h] at h1
  exact h1
set_option maxRecDepth 100000 in
set_option maxHeartbeats 4000000 in
theorem uint_any (N : Nat) (w1 : World) (fr : Int) (v : Value) (n : Nat) (xs : List Value) (w : World) (h : WS N w1 fr v n xs w) (k : Nat) (hk : k < 18446744073709551616) (hb : n + 20 ≤ 140737488355328) :
    Calls Tryd.prog 48 #[.pointer (some ⟨N, 0, none⟩), .int .u64 (k : Int)] w fun e w' => e = .returned undef ∧ ∃ v' n', WS N w1 0 v' n' (xs ++ enc (uB k)) w' := by
  go_enter Tryd.func48, Tryd.ntmps48
  go_wp2_with fail
  go_loopw [1] (fun c wr => ∃ (cur f : Nat) (fr' : Int) (v' : Value) (n' : Nat) (ys : List Value), c = .int .u64 (cur : Int) ∧ cur < 128 ^ f ∧ f ≤ 10 ∧ n' + f ≤ n + 10 ∧ cur < 18446744073709551616 ∧ WS N w1 fr' v' n' ys wr ∧ ys ++ enc (uBf f cur) = xs ++ enc (uB k)) (fun c _ => (intOf c).toNat)
  case atStart => exact ⟨k, 10, fr, v, n, xs, rfl, by omega, by omega, by omega, hk, h, rfl⟩
  case round =>
    obtain ⟨cur, f, fr', v', n', ys, rfl, hf, hf10, hn, hc, hW, hys⟩ := hrel
    have hs := hW.sz
    by_cases hlt : cur < 128
    · have hltI : ¬ (128 : Int) ≤ (cur : Int) := by omega
      have e8 : (cur : Int) % 256 = (cur : Int) := by omega
      have hu : uBf f cur = [cur] := by cases f <;> simp [uBf, hlt]
      rw [hu] at hys
      go_wp2_with fail
      refine (whole_any N w1 fr' v' n' ys _ (hW.alloc _) wr.heap.size 1 1 (enc [cur]) (by simp [enc]) ?_ ?_ (by omega) (by omega)).mono ?_
      · intro j u hj
        rcases j with _ | j
        · simp [enc] at hj; subst hj; simp [Addr.add]
        · simp [enc] at hj
      · intro u hu; simp [enc] at hu; subst hu; rfl
      rintro e w2 ⟨rfl, v2, h2⟩
      rw [hys] at h2
      go_wp2_with fail
      first | go_end0 | (simp only [Exit.inBlock, Exit.then]; refine bodyPost_ret (results_none rfl _ _ _) rfl ?_) | refine bodyPost_ret (results_none rfl _ _ _) rfl ?_
      exact ⟨rfl, _, _, h2⟩
    · have hgeI : (128 : Int) ≤ (cur : Int) := by omega
      obtain ⟨f', rfl⟩ : ∃ f', f = f' + 1 := by
        rcases f with _ | f'
        · simp at hf; omega
        · exact ⟨f', rfl⟩
      have hu : uBf (f' + 1) cur = (cur % 128 + 128) :: uBf f' (cur / 128) := by simp [uBf, hlt]
      rw [hu] at hys
      have e9 : bits .or .u8 ((cur : Int) % 256) 128 = ((cur % 128 + 128 : Nat) : Int) := by
        have h9 := or128 (cur % 256) (by omega)
        rw [show cur % 256 % 128 = cur % 128 by omega, show ((cur % 256 : Nat) : Int) = (cur : Int) % 256 by omega] at h9
        exact h9
      have hd : cur / 128 < 128 ^ f' := by rw [Nat.div_lt_iff_lt_mul (by omega)]; rw [Nat.pow_succ] at hf; omega
      have hys' : Hid _ := hys
      clear hys hu
      generalize cur % 128 + 128 = b8 at *
      go_wp2_with fail
      refine (whole_any N w1 fr' v' n' ys _ (hW.alloc _) wr.heap.size 1 1 (enc [b8]) (by simp [enc]) ?_ ?_ (by omega) (by omega)).mono ?_
      · intro j u hj
        rcases j with _ | j
        · simp [enc] at hj; subst hj; simp [Addr.add]
        · simp [enc] at hj
      · intro u hu; simp [enc] at hu; subst hu; rfl
      rintro e w2 ⟨rfl, v2, h2⟩
      go_wp2_with fail
      go_roundw
      case rel => exact ⟨cur / 128, f', 0, v2, n' + 1, ys ++ enc [b8], rfl, hd, by omega, by omega, by omega, h2, by rw [← hys'.out]; simp [enc]⟩
      case measure => simp [intOf]; omega
end Go.Proofs.YtpicgjjbpiinfaaDoor
