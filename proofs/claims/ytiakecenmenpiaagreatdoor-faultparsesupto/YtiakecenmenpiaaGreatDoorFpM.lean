
import Derived.Test.YtiakecenmenpiaaGreatDoorFpL
import Derived.Test.YtiakecenmenpiaaGreatDoorFnJ
namespace Go.Proofs.YtiakecenmenpiaaGreatDoor
open Go.RowKit
set_option linter.unusedVariables false
set_option linter.unusedSimpArgs false
def LDr (W : List UInt8) (S : ByteArray) (v : Int) (R : ByteArray) (b : Bool) : Prop :=
  (leadF W S.data.toList = none ∧ v = 0 ∧ R = S ∧ b = false) ∨
  (∃ t r, I64' v ∧ leadF W S.data.toList = some (t, r) ∧ (∀ u, Lib.atoiAll t = .ok u → v = u) ∧ R = B r ∧ b = true)
theorem LD_r {W : List UInt8} {S : ByteArray} {e : Ending} (h : LD W S e) : ∃ v R b, LDr W S v R b ∧ e = .returned (.tuple #[.int .i64 v, .string R, .bool b]) := by
  rcases h with ⟨h1, rfl⟩ | ⟨v, t, r, h1, h2, h3, rfl⟩
  · exact ⟨_, _, _, Or.inl ⟨h1, rfl, rfl, rfl⟩, rfl⟩
  · exact ⟨_, _, _, Or.inr ⟨t, r, h1, h2, h3, rfl, rfl⟩, rfl⟩
theorem LDr.I {W : List UInt8} {S R : ByteArray} {v : Int} {b : Bool} (h : LDr W S v R b) : I64' v := by
  rcases h with ⟨_, rfl, _⟩ | ⟨_, _, h, _⟩
  · exact ⟨by omega, by omega⟩
  · exact h
theorem lead_le {W s t r : List UInt8} (h : leadF W s = some (t, r)) : r.length ≤ s.length := by
  unfold leadF at h
  split at h
  · split at h
    · cases h
    · have h2 := (Option.some.inj h)
      have h3 : r = _ := (congrArg Prod.snd h2).symm
      rw [h3, List.length_drop, List.length_drop, List.length_drop]; omega
  · cases h
theorem LDr.le {W : List UInt8} {S R : ByteArray} {v : Int} {b : Bool} (h : LDr W S v R b) : R.size ≤ S.size := by
  rcases h with ⟨_, _, rfl, _⟩ | ⟨t, r, _, h, _, rfl, _⟩
  · exact Nat.le_refl _
  · rw [B_size]; exact lead_le h
theorem LDr.num {i p : Option Int} {c : Int} (hi : OkI i) {S R : ByteArray} {v : Int} {b : Bool} (hS : S.data.toList = lineL i p c) (h : LDr numW S v R b) : v = i.getD 0 ∧ b = i.isSome ∧ R.data.toList = lab atW p ++ nameL c := by
  have hl := lead_num i p c
  rw [← hS] at hl
  cases i with
  | none =>
    rcases h with ⟨_, rfl, rfl, rfl⟩ | ⟨t, r, _, h, _⟩
    · exact ⟨rfl, rfl, by rw [hS]; rfl⟩
    · rw [hl] at h; cases h
  | some n =>
    rcases h with ⟨h, _⟩ | ⟨t, r, _, h, hu, rfl, rfl⟩
    · rw [hl] at h; cases h
    · rw [hl] at h
      have h2 := Option.some.inj h
      have ht : t = Lib.itoa n := (congrArg Prod.fst h2).symm
      have hr : r = lab atW p ++ nameL c := (congrArg Prod.snd h2).symm
      exact ⟨hu n (by rw [ht]; exact atoi_itoa n (hi n rfl).1 (hi n rfl).2), rfl, by rw [B_list, hr]⟩
theorem LDr.at {p : Option Int} {c : Int} (hp : OkI p) {S R : ByteArray} {v : Int} {b : Bool} (hS : S.data.toList = lab atW p ++ nameL c) (h : LDr atW S v R b) : v = p.getD 0 ∧ b = p.isSome ∧ R.data.toList = nameL c := by
  have hl := lead_at p c
  rw [← hS] at hl
  cases p with
  | none =>
    rcases h with ⟨_, rfl, rfl, rfl⟩ | ⟨t, r, _, h, _⟩
    · exact ⟨rfl, rfl, by rw [hS]; rfl⟩
    · rw [hl] at h; cases h
  | some n =>
    rcases h with ⟨h, _⟩ | ⟨t, r, _, h, hu, rfl, rfl⟩
    · rw [hl] at h; cases h
    · rw [hl] at h
      have h2 := Option.some.inj h
      have ht : t = Lib.itoa n := (congrArg Prod.fst h2).symm
      have hr : r = nameL c := (congrArg Prod.snd h2).symm
      exact ⟨hu n (by rw [ht]; exact atoi_itoa n (hp n rfl).1 (hp n rfl).2), rfl, by rw [B_list, hr]⟩
def badV (c a i : Int) (P Q : Bool) : Value := .agg #[.int .i64 c, .int .i64 a, .int .i64 i, .bool P, .bool Q]
/-- what the document's Parse tells. -/
def PRD (S : ByteArray) (e : Ending) : Prop :=
  (S = ⟨#[111, 107]⟩ ∧ e = .returned (.tuple #[badV 0 0 0 false false, badV 0 0 0 false false])) ∨
  (S ≠ ⟨#[111, 107]⟩ ∧ (∃ i p c, OkI i ∧ OkI p ∧ I64' c ∧ c ≠ 0 ∧ lineL i p c = S.data.toList ∧ e = .returned (.tuple #[badV c (p.getD 0) (i.getD 0) p.isSome i.isSome, badV 0 0 0 false false]))) ∨
  (S ≠ ⟨#[111, 107]⟩ ∧ (∀ i p c, OkI i → OkI p → I64' c → c ≠ 0 → lineL i p c ≠ S.data.toList) ∧ e = .returned (.tuple #[badV 0 0 0 false false, badV 31 0 0 false false]))
theorem oI_getD (b : Bool) (n : Int) (h : b = false → n = 0) : (oI b n).getD 0 = n ∧ (oI b n).isSome = b := by
  cases b
  · exact ⟨(h rfl).symm, rfl⟩
  · exact ⟨rfl, rfl⟩
theorem LDr.zero {W : List UInt8} {S R : ByteArray} {v : Int} {b : Bool} (h : LDr W S v R b) : b = false → v = 0 := fun hb => by
  rcases h with ⟨_, rfl, _⟩ | ⟨_, _, _, _, _, _, rfl⟩
  · rfl
  · cases hb
theorem oI_ok (b : Bool) (n : Int) (h : I64' n) : OkI (oI b n) := fun m hm => by
  cases b
  · cases hm
  · obtain rfl := Option.some.inj hm; exact h
/-- the results' two places, still empty, and the error that is being read. -/
structure RZ (w : World) (c a i : Int) (P Q : Bool) (wx : World) : Prop where
  r : ∀ k, k ≤ 1 → wx.cell? ⟨w.heap.size + k, 0, none⟩ = some (.int .i64 0) ∧ wx.cell? ⟨w.heap.size + k, 1, none⟩ = some (.int .i64 0) ∧ wx.cell? ⟨w.heap.size + k, 2, none⟩ = some (.int .i64 0) ∧ wx.cell? ⟨w.heap.size + k, 3, none⟩ = some (.bool false) ∧ wx.cell? ⟨w.heap.size + k, 4, none⟩ = some (.bool false)
  e : wx.cell? ⟨w.heap.size + 1 + 1, 0, none⟩ = some (.int .i64 c) ∧ wx.cell? ⟨w.heap.size + 1 + 1, 1, none⟩ = some (.int .i64 a) ∧ wx.cell? ⟨w.heap.size + 1 + 1, 2, none⟩ = some (.int .i64 i) ∧ wx.cell? ⟨w.heap.size + 1 + 1, 3, none⟩ = some (.bool P) ∧ wx.cell? ⟨w.heap.size + 1 + 1, 4, none⟩ = some (.bool Q)
  f : ∀ k o, k ≤ 2 → wx.frozen? ⟨w.heap.size + k, o, none⟩ = false
  b : Below w.heap.size w wx
  sz : w.heap.size + 1 + 1 < wx.heap.size
theorem RZ.below {w wx wy : World} {c a i : Int} {P Q : Bool} (h : RZ w c a i P Q wx) (hb : Below wx.heap.size wx wy) : RZ w c a i P Q wy := by
  obtain ⟨r, e, f, b, sz⟩ := h
  have cc : ∀ (k o : Nat), k ≤ w.heap.size + 1 + 1 → wy.cell? ⟨k, o, none⟩ = wx.cell? ⟨k, o, none⟩ := fun k o hk => hb.cell (p := ⟨k, o, none⟩) (by simp; omega)
  have ff : ∀ (k o : Nat), k ≤ w.heap.size + 1 + 1 → wy.frozen? ⟨k, o, none⟩ = wx.frozen? ⟨k, o, none⟩ := fun k o hk => hb.frozen (p := ⟨k, o, none⟩) (by simp; omega)
  have hs := hb.size
  refine ⟨fun k hk => ?_, ?_, fun k o hk => ?_, bthen b hb, by omega⟩
  · rw [cc _ _ (by omega), cc _ _ (by omega), cc _ _ (by omega), cc _ _ (by omega), cc _ _ (by omega)]; exact r k hk
  · rw [cc _ _ (by omega), cc _ _ (by omega), cc _ _ (by omega), cc _ _ (by omega), cc _ _ (by omega)]; exact e
  · rw [ff _ _ (by omega)]; exact f k o hk
theorem RZ.set {w wx : World} {c a i : Int} {P Q : Bool} (h : RZ w c a i P Q wx) (j : Nat) (v : Value) {c' a' i' : Int} {P' Q' : Bool}
    (hv : (#[Value.int .i64 c', .int .i64 a', .int .i64 i', .bool P', .bool Q'] : Array Value)[j]? = some v)
    (ho : ∀ k, k ≠ j → (#[Value.int .i64 c', .int .i64 a', .int .i64 i', .bool P', .bool Q'] : Array Value)[k]? = (#[Value.int .i64 c, .int .i64 a, .int .i64 i, .bool P, .bool Q] : Array Value)[k]?) :
    RZ w c' a' i' P' Q' (wx.setCell ⟨w.heap.size + 1 + 1, j, none⟩ v) := by
  obtain ⟨r, e, f, b, sz⟩ := h
  have hj : j < 5 := by
    rcases Nat.lt_or_ge j 5 with h | h
    · exact h
    · rw [Array.getElem?_eq_none (by simpa using h)] at hv; cases hv
  have ot : ∀ (k o : Nat), k ≠ w.heap.size + 1 + 1 → (wx.setCell ⟨w.heap.size + 1 + 1, j, none⟩ v).cell? ⟨k, o, none⟩ = wx.cell? ⟨k, o, none⟩ := fun k o hk => by
    rw [World.cell?_setCell_other _ _ _ _ (by intro e; injection e with e1; omega)]
  have hold : ∀ k u, (#[Value.int .i64 c, .int .i64 a, .int .i64 i, .bool P, .bool Q] : Array Value)[k]? = some u → wx.cell? ⟨w.heap.size + 1 + 1, k, none⟩ = some u := fun k u hu => by
    obtain ⟨e0, e1, e2, e3, e4⟩ := e
    match k, hu with
    | 0, hu => simp at hu; subst hu; exact e0
    | 1, hu => simp at hu; subst hu; exact e1
    | 2, hu => simp at hu; subst hu; exact e2
    | 3, hu => simp at hu; subst hu; exact e3
    | 4, hu => simp at hu; subst hu; exact e4
    | k + 5, hu => simp at hu
  have hnew : ∀ k u, (#[Value.int .i64 c', .int .i64 a', .int .i64 i', .bool P', .bool Q'] : Array Value)[k]? = some u → (wx.setCell ⟨w.heap.size + 1 + 1, j, none⟩ v).cell? ⟨w.heap.size + 1 + 1, k, none⟩ = some u := fun k u hu => by
    by_cases hk : k = j
    · subst hk
      rw [hv] at hu
      obtain rfl := Option.some.inj hu
      obtain ⟨old, hold'⟩ : ∃ old, (#[Value.int .i64 c, .int .i64 a, .int .i64 i, .bool P, .bool Q] : Array Value)[k]? = some old := ⟨_, Array.getElem?_eq_getElem (by simpa using hj)⟩
      exact World.cell?_setCell_same _ _ _ (hold k old hold')
    · rw [World.cell?_setCell_other _ _ _ _ (by intro e; injection e with e1 e2; exact hk e2.symm)]
      exact hold k u (by rw [← ho k hk]; exact hu)
  refine ⟨fun k hk => ?_, ⟨hnew 0 _ rfl, hnew 1 _ rfl, hnew 2 _ rfl, hnew 3 _ rfl, hnew 4 _ rfl⟩, fun k o hk => by simpa using f k o hk, b.setCell (p := ⟨w.heap.size + 1 + 1, j, none⟩) (show w.heap.size ≤ w.heap.size + 1 + 1 by omega) _, by simpa using sz⟩
  rw [ot _ _ (by omega), ot _ _ (by omega), ot _ _ (by omega), ot _ _ (by omega), ot _ _ (by omega)]; exact r k hk
theorem RZ.start (w : World) : RZ w 0 0 0 false false (((w.alloc (.cells #[.int .i64 0, .int .i64 0, .int .i64 0, .bool false, .bool false] 28)).alloc (.cells #[.int .i64 0, .int .i64 0, .int .i64 0, .bool false, .bool false] 28)).alloc (.cells #[.int .i64 0, .int .i64 0, .int .i64 0, .bool false, .bool false] 28)) := by
  refine ⟨fun k hk => ?_, ⟨by simp [go_sem], by simp [go_sem], by simp [go_sem], by simp [go_sem], by simp [go_sem]⟩, fun k o hk => ?_, bnew (bnew (bnew (Below.refl _ _) _) _) _, by simp⟩
  · rcases Nat.lt_or_ge k 1 with h | h
    · obtain rfl : k = 0 := by omega
      exact ⟨by simp [go_sem], by simp [go_sem], by simp [go_sem], by simp [go_sem], by simp [go_sem]⟩
    · obtain rfl : k = 1 := by omega
      exact ⟨by simp [go_sem], by simp [go_sem], by simp [go_sem], by simp [go_sem], by simp [go_sem]⟩
  · rcases Nat.lt_or_ge k 1 with h | h
    · obtain rfl : k = 0 := by omega
      simp [go_sem]
    · rcases Nat.lt_or_ge k 2 with h2 | h2
      · obtain rfl : k = 1 := by omega
        simp [go_sem]
      · obtain rfl : k = 2 := by omega
        simp [go_sem]
end Go.Proofs.YtiakecenmenpiaaGreatDoor
