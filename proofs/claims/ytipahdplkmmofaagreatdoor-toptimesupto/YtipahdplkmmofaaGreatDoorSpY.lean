
import Derived.Test.YtipahdplkmmofaaGreatDoorSpX
import Derived.Test.YtipahdplkmmofaaGreatDoorSpV
namespace Go.Proofs.YtipahdplkmmofaaGreatDoor
open Go.RowKit Go.Shelf
set_option linter.unusedVariables false
set_option linter.unusedSimpArgs false
theorem num_res {size : Nat} {lo hi : Int} {set : Int → Clk → Clk} {c c' : Clk} {r : List UInt8} {j : Nat} (h : numPc size lo hi set c r = some (c', j)) : ∃ n, c' = set n c ∧ lo ≤ n ∧ n ≤ hi := by
  unfold numPc at h
  split at h
  · cases h
  · split at h
    · cases h
    · rename_i h2
      injection h with h
      injection h with h _
      exact ⟨_, h.symm, by omega, by omega⟩
theorem let_res {x : UInt8} {c c' : Clk} {r : List UInt8} {j : Nat} (h : letPc x c r = some (c', j)) : c' = c := by
  unfold letPc at h
  split at h
  · injection h with h; injection h with h _; exact h.symm
  · cases h
theorem frac_res {c c' : Clk} {r : List UInt8} {j : Nat} (h : fracPc c r = some (c', j)) (h0 : 0 ≤ c.ns) (h1 : c.ns < 1000000000) : ∃ n, c' = { c with ns := n } ∧ 0 ≤ n ∧ n < 1000000000 := by
  unfold fracPc at h
  split at h
  · split at h
    · cases h
    · rename_i hq
      injection h with h
      injection h with h _
      have AD : allD (List.take (cnt (List.drop 1 r)) (List.drop 1 r) ++ List.replicate (9 - cnt (List.drop 1 r)) 48) := allD_app (allD_cnt _) (allD_rep _)
      have hl : (List.take (cnt (List.drop 1 r)) (List.drop 1 r) ++ List.replicate (9 - cnt (List.drop 1 r)) 48).length = 9 := by
        rw [List.length_append, List.length_take, List.length_replicate]
        have := cnt_le (List.drop 1 r); omega
      have hv := valF_lt _ 0 (by omega) AD
      rw [hl] at hv
      exact ⟨_, h.symm, valF_nonneg AD, by omega⟩
  · injection h with h; injection h with h _
    refine ⟨c.ns, ?_, h0, h1⟩
    rw [← h]
theorem zone_res {c c' : Clk} {r : List UInt8} {j : Nat} (h : zonePc c r = some (c', j)) : ∃ n, c' = { c with ah := n } ∧ (n = 0 ∨ n = 1 ∨ n = -1) := by
  unfold zonePc at h
  split at h
  · injection h with h; injection h with h _; exact ⟨0, h.symm, by omega⟩
  · split at h
    · injection h with h; injection h with h _; exact ⟨1, h.symm, by omega⟩
    · split at h
      · injection h with h; injection h with h _; exact ⟨-1, h.symm, by omega⟩
      · cases h
structure InvL (k : Nat) (c : Clk) : Prop where
  y : 1 ≤ k → 0 ≤ c.y ∧ c.y ≤ 9999
  mo : 3 ≤ k → 1 ≤ c.mo ∧ c.mo ≤ 12
  d : 5 ≤ k → 1 ≤ c.d ∧ c.d ≤ lenM c.y c.mo
  h : 7 ≤ k → 0 ≤ c.h ∧ c.h ≤ 23
  mi : 9 ≤ k → 0 ≤ c.mi ∧ c.mi ≤ 59
  s : 11 ≤ k → 0 ≤ c.s ∧ c.s ≤ 59
  ns : 0 ≤ c.ns ∧ c.ns < 1000000000
  ah : 13 ≤ k → c.ah = 0 ∨ c.ah = 1 ∨ c.ah = -1
  b : c.bh = 0 ∧ c.bm = 0
theorem invL_0 : InvL 0 clk0 := ⟨fun h => by omega, fun h => by omega, fun h => by omega, fun h => by omega, fun h => by omega, fun h => by omega, by decide, fun h => by omega, by decide⟩
theorem InvL.good {c : Clk} (h : InvL 13 c) : Good c := by
  have h1 := h.y (by omega); have h2 := h.mo (by omega); have h3 := h.d (by omega); have h4 := h.h (by omega); have h5 := h.mi (by omega); have h6 := h.s (by omega); have h7 := h.ns; have h8 := h.ah (by omega); have h9 := h.b
  exact ⟨⟨h1.1, h1.2, h2.1, h2.2, h3.1, h3.2⟩, h4.1, h4.2, h5.1, h5.2, h6.1, h6.2, h7.1, h7.2, h8, by omega, by omega, by omega, by omega⟩
theorem locP_len : locP.length = 13 := rfl
theorem zonP_len : zonP.length = 3 := rfl
theorem invL_step (k : Nat) (c c' : Clk) (r : List UInt8) (j : Nat) (h : k < locP.length) (hi : InvL k c) (hp : locP[k] c r = some (c', j)) : InvL (k + 1) c' := by
  have hk : k = 0 ∨ k = 1 ∨ k = 2 ∨ k = 3 ∨ k = 4 ∨ k = 5 ∨ k = 6 ∨ k = 7 ∨ k = 8 ∨ k = 9 ∨ k = 10 ∨ k = 11 ∨ k = 12 := by rw [locP_len] at h; omega
  obtain ⟨i1, i2, i3, i4, i5, i6, i7, i8, i9⟩ := hi
  rcases hk with e | e | e | e | e | e | e | e | e | e | e | e | e <;> subst e
  · obtain ⟨n, rfl, a, b⟩ := num_res (size := 4) (lo := 0) (hi := 9999) (set := fun n c => { c with y := n }) hp
    exact ⟨fun _ => ⟨a, b⟩, fun h => by omega, fun h => by omega, fun h => by omega, fun h => by omega, fun h => by omega, i7, fun h => by omega, i9⟩
  · have e := let_res (x := 45) hp; subst e
    exact ⟨fun _ => i1 (by omega), fun h => by omega, fun h => by omega, fun h => by omega, fun h => by omega, fun h => by omega, i7, fun h => by omega, i9⟩
  · obtain ⟨n, rfl, a, b⟩ := num_res (size := 2) (lo := 1) (hi := 12) (set := fun n c => { c with mo := n }) hp
    exact ⟨fun _ => i1 (by omega), fun _ => ⟨a, b⟩, fun h => by omega, fun h => by omega, fun h => by omega, fun h => by omega, i7, fun h => by omega, i9⟩
  · have e := let_res (x := 45) hp; subst e
    exact ⟨fun _ => i1 (by omega), fun _ => i2 (by omega), fun h => by omega, fun h => by omega, fun h => by omega, fun h => by omega, i7, fun h => by omega, i9⟩
  · obtain ⟨n, rfl, a, b⟩ := num_res (size := 2) (lo := 1) (hi := lenM c.y c.mo) (set := fun n c => { c with d := n }) hp
    exact ⟨fun _ => i1 (by omega), fun _ => i2 (by omega), fun _ => ⟨a, b⟩, fun h => by omega, fun h => by omega, fun h => by omega, i7, fun h => by omega, i9⟩
  · have e := let_res (x := 84) hp; subst e
    exact ⟨fun _ => i1 (by omega), fun _ => i2 (by omega), fun _ => i3 (by omega), fun h => by omega, fun h => by omega, fun h => by omega, i7, fun h => by omega, i9⟩
  · obtain ⟨n, rfl, a, b⟩ := num_res (size := 2) (lo := 0) (hi := 23) (set := fun n c => { c with h := n }) hp
    exact ⟨fun _ => i1 (by omega), fun _ => i2 (by omega), fun _ => i3 (by omega), fun _ => ⟨a, b⟩, fun h => by omega, fun h => by omega, i7, fun h => by omega, i9⟩
  · have e := let_res (x := 58) hp; subst e
    exact ⟨fun _ => i1 (by omega), fun _ => i2 (by omega), fun _ => i3 (by omega), fun _ => i4 (by omega), fun h => by omega, fun h => by omega, i7, fun h => by omega, i9⟩
  · obtain ⟨n, rfl, a, b⟩ := num_res (size := 2) (lo := 0) (hi := 59) (set := fun n c => { c with mi := n }) hp
    exact ⟨fun _ => i1 (by omega), fun _ => i2 (by omega), fun _ => i3 (by omega), fun _ => i4 (by omega), fun _ => ⟨a, b⟩, fun h => by omega, i7, fun h => by omega, i9⟩
  · have e := let_res (x := 58) hp; subst e
    exact ⟨fun _ => i1 (by omega), fun _ => i2 (by omega), fun _ => i3 (by omega), fun _ => i4 (by omega), fun _ => i5 (by omega), fun h => by omega, i7, fun h => by omega, i9⟩
  · obtain ⟨n, rfl, a, b⟩ := num_res (size := 2) (lo := 0) (hi := 59) (set := fun n c => { c with s := n }) hp
    exact ⟨fun _ => i1 (by omega), fun _ => i2 (by omega), fun _ => i3 (by omega), fun _ => i4 (by omega), fun _ => i5 (by omega), fun _ => ⟨a, b⟩, i7, fun h => by omega, i9⟩
  · obtain ⟨n, rfl, a, b⟩ := frac_res hp i7.1 i7.2
    exact ⟨fun _ => i1 (by omega), fun _ => i2 (by omega), fun _ => i3 (by omega), fun _ => i4 (by omega), fun _ => i5 (by omega), fun _ => i6 (by omega), ⟨a, b⟩, fun h => by omega, i9⟩
  · obtain ⟨n, rfl, a⟩ := zone_res hp
    exact ⟨fun _ => i1 (by omega), fun _ => i2 (by omega), fun _ => i3 (by omega), fun _ => i4 (by omega), fun _ => i5 (by omega), fun _ => i6 (by omega), i7, fun _ => a, i9⟩
theorem invL_day (k : Nat) (c : Clk) (h : k < locP.length) (hi : InvL k c) (hp : locP[k] = dayPc) : DayPre c := by
  by_cases hk : 3 ≤ k
  · have a := hi.y (by omega); have b := hi.mo hk
    exact ⟨a.1, a.2, b.1, b.2⟩
  · exfalso
    have hk : k = 0 ∨ k = 1 ∨ k = 2 := by omega
    rcases hk with e | e | e <;> subst e
    · have hp' : numPc 4 0 9999 (fun n (c : Clk) => { c with y := n }) = dayPc := hp
      have := congrArg Option.isSome (congrFun (congrFun hp' clk0) [48, 48, 48, 48])
      exact absurd this (by decide)
    · have hp' : letPc 45 = dayPc := hp
      have := congrArg Option.isSome (congrFun (congrFun hp' clk0) [45])
      exact absurd this (by decide)
    · have hp' : numPc 2 1 12 (fun n (c : Clk) => { c with mo := n }) = dayPc := hp
      have := congrArg (Option.map fun x => x.1.mo) (congrFun (congrFun hp' clk0) [48, 49])
      exact absurd this (by decide)
theorem good_step (k : Nat) (c c' : Clk) (r : List UInt8) (j : Nat) (h : k < zonP.length) (hi : Good c) (hp : zonP[k] c r = some (c', j)) : Good c' := by
  have hk : k = 0 ∨ k = 1 ∨ k = 2 := by rw [zonP_len] at h; omega
  obtain ⟨i1, i2, i3, i4, i5, i6, i7, i8, i9, i10, i11, i12, i13, i14⟩ := hi
  rcases hk with e | e | e <;> subst e
  · obtain ⟨n, rfl, a, b⟩ := num_res (size := 2) (lo := 0) (hi := 23) (set := fun n c => { c with bh := n }) hp
    exact ⟨i1, i2, i3, i4, i5, i6, i7, i8, i9, i10, a, b, i13, i14⟩
  · have e := let_res (x := 58) hp; subst e
    exact ⟨i1, i2, i3, i4, i5, i6, i7, i8, i9, i10, i11, i12, i13, i14⟩
  · obtain ⟨n, rfl, a, b⟩ := num_res (size := 2) (lo := 0) (hi := 59) (set := fun n c => { c with bm := n }) hp
    exact ⟨i1, i2, i3, i4, i5, i6, i7, i8, i9, i10, i11, i12, a, b⟩
theorem Good.pre {c : Clk} (h : Good c) : DayPre c := ⟨h.day.1, h.day.2.1, h.day.2.2.1, h.day.2.2.2.1⟩
end Go.Proofs.YtipahdplkmmofaaGreatDoor
