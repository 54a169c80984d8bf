
import Derived.Test.YtjiiafmbneehhaaDoorTxK
namespace Go.Proofs.YtjiiafmbneehhaaDoor.Lx
open Go.RowKit Go.Shelf
set_option linter.unusedVariables false
set_option linter.unusedSimpArgs false
set_option maxRecDepth 100000
theorem quo_text (m : UInt8) : ∀ (n : Nat) (L t : List UInt8) (j : Nat), L.length ≤ n → quoL m L = some (t, j) → t.length ≤ j
  | _, [], t, j, _, h => by unfold quoL at h; cases h
  | 0, c :: r, t, j, hn, h => by simp at hn
  | n + 1, c :: r, t, j, hn, h => by
    by_cases h1 : c = m
    · subst h1
      rw [quo_hit] at h
      injection h with h; injection h with h1 h2; subst h1; simp
    · by_cases h2 : c = 92
      · subst h2
        cases r with
        | nil => rw [quo_bad1 _ h1] at h; cases h
        | cons d r =>
          by_cases h3 : d = m ∨ d = 92
          · rw [quo_esc1 _ _ _ h1 h3] at h
            cases hq : quoL m r with
            | none => rw [hq] at h; cases h
            | some x =>
              rw [hq] at h
              injection h with h; injection h with h1 h2
              have := quo_text m n r x.1 x.2 (by simp at hn; omega) hq
              subst h1; subst h2; simp; omega
          · rw [quo_bad _ _ _ h1 h3] at h; cases h
      · rw [quo_on _ _ _ h1 h2] at h
        cases hq : quoL m r with
        | none => rw [hq] at h; cases h
        | some x =>
          rw [hq] at h
          injection h with h; injection h with h1 h2
          have := quo_text m n r x.1 x.2 (by simp at hn; omega) hq
          subst h1; subst h2; simp; omega
theorem take_row (L : List UInt8) : (L.take (rowL L)).length ≤ rowL L := by rw [List.length_take]; omega
theorem read_text {nm : NmF} {L : List UInt8} {t : Tok} {j : Nat} (h : readT nm L = some (t, j)) : t.t.length ≤ j := by
  cases L with
  | nil => unfold readT at h; injection h with h; injection h with h1 h2; subst h1; simp
  | cons c r =>
    have tr := take_row (c :: r)
    rw [read_cons] at h
    split at h
    · injection h with h; injection h with h1 h2; subst h1; subst h2; exact tr
    · split at h
      · cases hn : nm ((c :: r).take (rowL (c :: r))) with
        | none => rw [hn] at h; cases h
        | some x => rw [hn] at h; injection h with h; injection h with h1 h2; subst h1; subst h2; exact tr
      · split at h
        · cases hq : quoL 34 r with
          | none => rw [hq] at h; cases h
          | some x =>
            rw [hq] at h; injection h with h; injection h with h1 h2; subst h1; subst h2
            have := quo_text 34 r.length r x.1 x.2 (Nat.le_refl _) hq
            show x.1.length ≤ x.2 + 1
            omega
        · split at h
          · cases hq : quoL 39 r with
            | none => rw [hq] at h; cases h
            | some x =>
              rw [hq] at h; injection h with h; injection h with h1 h2; subst h1; subst h2
              have := quo_text 39 r.length r x.1 x.2 (Nat.le_refl _) hq
              show x.1.length ≤ x.2 + 1
              omega
          · split at h
            · split at h
              · injection h with h; injection h with h1 h2; subst h1; subst h2; simp
              · injection h with h; injection h with h1 h2; subst h1; subst h2; simp
            · split at h
              · injection h with h; injection h with h1 h2; subst h1; subst h2; simp
              · cases h
def sumT : List Tok → Nat
  | [] => 0
  | t :: r => t.t.length + sumT r
theorem skip_len : ∀ L : List UInt8, (skipL L).length ≤ L.length
  | [] => Nat.le_refl _
  | c :: r => by
    have := skip_len r
    unfold skipL
    split
    · simp; omega
    · exact Nat.le_refl _
theorem lex_sum {nm : NmF} (hnm : ∀ x k n, nm x = some (k, n) → k = 4 ∨ k = 5) : ∀ (f : Nat) (L : List UInt8) (ts : List Tok), lexL nm f L = some ts → sumT ts ≤ L.length
  | 0, L, ts, h => by cases h
  | f + 1, L, ts, h => by
    rw [lex_succ] at h
    have sk := skip_len L
    cases hR : readT nm (skipL L) with
    | none => rw [hR] at h; cases h
    | some x =>
      rw [hR] at h
      obtain ⟨t, j⟩ := x
      have tl := read_text hR
      have jl : j ≤ (skipL L).length := by
        rcases read_valid hnm hR with ⟨_, _, b⟩ | ⟨_, _, _, b⟩
        · omega
        · exact b
      replace h : (if t.k = 0 then some [t] else (lexL nm f ((skipL L).drop j)).map (t :: ·)) = some ts := h
      split at h
      · injection h with h; subst h; show t.t.length + 0 ≤ _; omega
      · cases hq : lexL nm f ((skipL L).drop j) with
        | none => rw [hq] at h; cases h
        | some q =>
          rw [hq] at h
          injection h with h
          subst h
          have := lex_sum hnm f _ q hq
          rw [List.length_drop] at this
          show t.t.length + sumT q ≤ _
          omega
theorem ren_len (t : Tok) : (renL t).length ≤ 2 * t.t.length + 2 := by
  unfold renL
  have a := escL_len 34 t.t
  have b := escL_len 39 t.t
  split
  · simp; omega
  · split
    · simp; omega
    · omega
theorem rnd_le : ∀ ts : List Tok, (rndL ts).length ≤ 2 * sumT ts + 3 * ts.length
  | [] => Nat.le_refl _
  | t :: r => by
    have := rnd_le r
    have := ren_len t
    show ((renL t ++ [32]) ++ rndL r).length ≤ 2 * (t.t.length + sumT r) + 3 * (r.length + 1)
    simp only [List.length_append, List.length_cons, List.length_nil]
    omega
theorem rnd_app (a b : List Tok) : rndL (a ++ b) = rndL a ++ rndL b := by
  induction a with
  | nil => rfl
  | cons t r ih => show (renL t ++ [32]) ++ rndL (r ++ b) = ((renL t ++ [32]) ++ rndL r) ++ rndL b; rw [ih]; simp only [List.append_assoc]
theorem rnd_take (ts : List Tok) (i : Nat) (t : Tok) (h : ts[i]? = some t) : rndL (ts.take (i + 1)) = rndL (ts.take i) ++ (renL t ++ [32]) := by
  rw [List.take_add_one, h, rnd_app]
  show rndL (ts.take i) ++ ((renL t ++ [32]) ++ []) = _
  rw [List.append_nil]
theorem rnd_pre (ts : List Tok) (i : Nat) : (rndL (ts.take i)).length ≤ (rndL ts).length := by
  have h : rndL ts = rndL (ts.take i) ++ rndL (ts.drop i) := by rw [← rnd_app, List.take_append_drop]
  rw [h, List.length_append]
  omega
theorem sum_get : ∀ (ts : List Tok) (i : Nat) (t : Tok), ts[i]? = some t → t.t.length ≤ sumT ts
  | [], i, t, h => by simp at h
  | a :: r, 0, t, h => by simp at h; subst h; show a.t.length ≤ a.t.length + sumT r; omega
  | a :: r, i + 1, t, h => by
    have := sum_get r i t (by simpa using h)
    show t.t.length ≤ a.t.length + sumT r
    omega
theorem bL_inj {a b : ByteArray} (h : bL a = bL b) : a = b := by
  unfold bL at h
  have : a.data = b.data := by
    have h2 := congrArg List.toArray h
    simpa using h2
  cases a; cases b; simp at this; subst this; rfl
end Go.Proofs.YtjiiafmbneehhaaDoor.Lx
