
import Derived.Test.YtnfpommplokemaaDoorParA
import Derived.Test.YtnfpommplokemaaDoorDvE
namespace Go.Proofs.YtnfpommplokemaaDoor
open Go.RowKit
set_option linter.unusedVariables false
set_option linter.unusedSimpArgs false
/-- the document's reading of a text, letter by letter. -/
def docD (L : List UInt8) (i : Nat) : Int := ((L.getD i 0).toNat : Int) - 48
def docV (L : List UInt8) (b : Bool) : Nat → Int
  | 0 => 0
  | i + 1 => if i = 0 ∧ b = true then 0 else wr (docV L b i * 10 + (if b = true then - docD L i else docD L i))
theorem docV_S (L : List UInt8) (b : Bool) (i : Nat) : S128 (docV L b i) := by
  cases i with
  | zero => exact S128_zero
  | succ i => unfold docV; split; exact S128_zero; exact wr_S128 _
theorem wr_tenw (X d : Int) : wr (wr X * 10 + d) = wr (X * 10 + d) := by
  have h1 : ∃ q, wr X = X - 340282366920938463463374607431768211456 * q := ⟨(X + 170141183460469231731687303715884105728) / 340282366920938463463374607431768211456, by unfold wr; omega⟩
  obtain ⟨q, hq⟩ := h1
  rw [hq]; unfold wr; omega
def L48 (l : List Nat) : List UInt8 := (l.map (48 + ·)).map fun n => UInt8.ofNat n
theorem L48_get (l : List Nat) (h : ∀ x ∈ l, x < 10) (k : Nat) (hk : k < l.length) : ((L48 l).getD k 0).toNat = 48 + l.getD k 0 := by
  have hd : l.getD k 0 < 10 := by
    rw [List.getD_eq_getElem?_getD, List.getElem?_eq_getElem hk]
    exact h _ (List.getElem_mem hk)
  have : (L48 l).getD k 0 = UInt8.ofNat (48 + l.getD k 0) := by
    unfold L48
    simp [List.getD_eq_getElem?_getD, List.getElem?_eq_getElem hk]
  rw [this, UInt8.toNat_ofNat']; omega
theorem decL_neg (v : Int) (h : v < 0) : (decS v).data.toList = 45 :: L48 (decD (ab v).toNat) := by
  rw [decS_list]; unfold decT; rw [if_pos h]; rfl
theorem decL_pos (v : Int) (h : ¬ v < 0) : (decS v).data.toList = L48 (decD (ab v).toNat) := by
  rw [decS_list]; unfold decT; rw [if_neg h]; rfl
theorem docV_pos (l : List Nat) (h : ∀ x ∈ l, x < 10) (k : Nat) (hk : k ≤ l.length) : docV (L48 l) false k = wr ((val (l.take k) : Nat) : Int) := by
  induction k with
  | zero => simp [docV, val, wr]
  | succ k ih =>
    have e := L48_get l h k (by omega)
    unfold docV
    rw [if_neg (by simp), ih (by omega), wr_tenw, val_step l k (by omega)]
    simp only [Bool.false_eq_true, if_false]
    unfold docD; rw [e]
    congr 1; omega
theorem docV_neg (l : List Nat) (h : ∀ x ∈ l, x < 10) (k : Nat) (hk : k ≤ l.length) : docV (45 :: L48 l) true (k + 1) = wr (- ((val (l.take k) : Nat) : Int)) := by
  induction k with
  | zero => simp [docV, val, wr]
  | succ k ih =>
    have e := L48_get l h k (by omega)
    have e2 : (45 :: L48 l).getD (k + 1) 0 = (L48 l).getD k 0 := by simp
    unfold docV
    rw [if_neg (by simp), ih (by omega), wr_tenw, val_step l k (by omega)]
    simp only [if_true]
    unfold docD; rw [e2, e]
    congr 1; omega
/-- does a text begin with '-'? -/
def docB (L : List UInt8) : Bool := L.head? == some 45
theorem L48_head (l : List Nat) (h : ∀ x ∈ l, x < 10) : docB (L48 l) = false := by
  cases l with
  | nil => rfl
  | cons d l =>
    have hd := h d (by simp)
    have : ∀ d, d < 10 → ((UInt8.ofNat (48 + d) == (45 : UInt8)) = false) := by decide
    show (some (UInt8.ofNat (48 + d)) == some (45 : UInt8)) = false
    have := this d hd
    simpa using this
theorem val_abs (v : Int) (hS : S128 v) : ((val (decD (ab v).toNat) : Nat) : Int) = ab v := by
  have hV0 : 0 ≤ ab v := by unfold ab; split <;> omega
  have : (ab v).toNat ≤ 170141183460469231731687303715884105728 := by unfold S128 at hS; unfold ab; split <;> omega
  rw [val_decD _ (by omega)]; omega
theorem doc_len (v : Int) : (decS v).data.toList.length ≤ 40 := by
  by_cases h : v < 0
  · rw [decL_neg v h]; simp [L48]; exact decD_len _
  · rw [decL_pos v h]; simp [L48]; have := decD_len (ab v).toNat; omega
theorem doc_sign (v : Int) : docB (decS v).data.toList = decide (v < 0) := by
  by_cases h : v < 0
  · rw [decL_neg v h]; simp [docB, h]
  · rw [decL_pos v h, L48_head _ (decD_lt _)]; simp [h]
theorem doc_val (v : Int) (hS : S128 v) : docV (decS v).data.toList (docB (decS v).data.toList) (decS v).data.toList.length = v := by
  rw [doc_sign]
  by_cases h : v < 0
  · rw [decL_neg v h]
    simp only [h, decide_true, List.length_cons]
    have hl : (L48 (decD (ab v).toNat)).length = (decD (ab v).toNat).length := by simp [L48]
    rw [hl, docV_neg _ (decD_lt _) _ (Nat.le_refl _), List.take_length, val_abs v hS, ab_neg h, Int.neg_neg]
    exact wr_of v hS
  · rw [decL_pos v h]
    simp only [h, decide_false]
    have hl : (L48 (decD (ab v).toNat)).length = (decD (ab v).toNat).length := by simp [L48]
    rw [hl, docV_pos _ (decD_lt _) _ (Nat.le_refl _), List.take_length, val_abs v hS, ab_pos h]
    exact wr_of v hS
theorem doc_dig (v : Int) (k : Nat) (hk : k < (decS v).data.toList.length) (hn : ¬ (k = 0 ∧ docB (decS v).data.toList = true)) : 48 ≤ ((decS v).data.toList.getD k 0).toNat ∧ ((decS v).data.toList.getD k 0).toNat ≤ 57 := by
  rw [doc_sign] at hn
  have key : ∀ (l : List Nat), (∀ x ∈ l, x < 10) → ∀ j, j < l.length → 48 ≤ ((L48 l).getD j 0).toNat ∧ ((L48 l).getD j 0).toNat ≤ 57 := fun l hl j hj => by
    rw [L48_get l hl j hj]
    have : l.getD j 0 < 10 := by
      rw [List.getD_eq_getElem?_getD, List.getElem?_eq_getElem hj]
      exact hl _ (List.getElem_mem hj)
    omega
  by_cases h : v < 0
  · rw [decL_neg v h] at hk ⊢
    cases k with
    | zero => simp [h] at hn
    | succ k =>
      have e2 : (45 :: L48 (decD (ab v).toNat)).getD (k + 1) 0 = (L48 (decD (ab v).toNat)).getD k 0 := by simp
      rw [e2]
      exact key _ (decD_lt _) k (by simpa [L48] using hk)
  · rw [decL_pos v h] at hk ⊢
    exact key _ (decD_lt _) k (by simpa [L48] using hk)
theorem added_hi (ah al bh bl : Int) (h2 : U64 al) (h4 : U64 bl) : wr (sv ah al + sv bh bl) = wr (sv (ah + bh) (al + bl)) := by unfold sv; congr 1; omega
theorem added_lo (ah al bh bl : Int) : (al + bl) % 18446744073709551616 = sL (wr (sv ah al + sv bh bl)) := by unfold sL wr sv; omega
theorem added_h0 (ah al bh bl : Int) (h2 : U64 al) (h4 : U64 bl) (c : ¬ (al + bl) % 18446744073709551616 < al) : wrap64 (ah + bh) = sH (wr (sv ah al + sv bh bl)) := by
  unfold U64 at h2 h4; unfold wrap64 sH wr sv; omega
theorem added_h1 (ah al bh bl : Int) (h2 : U64 al) (h4 : U64 bl) (c : (al + bl) % 18446744073709551616 < al) : wrap64 (wrap64 (ah + bh) + 1) = sH (wr (sv ah al + sv bh bl)) := by
  unfold U64 at h2 h4; unfold wrap64 sH wr sv; omega
set_option maxRecDepth 100000 in
theorem added_any (ah al bh bl : Int) (h2 : U64 al) (h4 : U64 bl) (w : World) :
    Calls Tryd.prog 19 #[.agg #[.int .i64 ah, .int .u64 al], .agg #[.int .i64 bh, .int .u64 bl]] w fun e w' => e = .returned (.agg #[.int .i64 (sH (wr (sv ah al + sv bh bl))), .int .u64 (sL (wr (sv ah al + sv bh bl)))]) ∧ Below w.heap.size w w' := by
  have e1 := added_lo ah al bh bl
  have hB : ∀ o1 o2 o3 o4, Below w.heap.size w ((((w.alloc o1).alloc o2).alloc o3).alloc o4) := fun o1 o2 o3 o4 => below_new (below_new (below_new (below_new (Below.refl _ _) _) _) _) _
  by_cases c : (al + bl) % 18446744073709551616 < al
  · have e2 := added_h1 ah al bh bl h2 h4 c
    have c' : IntKind.u64.wrap (al + bl) < al := by rw [IntKind.wrap_u64]; exact c
    rw [← IntKind.wrap_u64] at e1
    have HH : Hid (_ ∧ _) := ⟨e1, e2⟩
    clear e1 e2 c
    go_enter Tryd.func19, Tryd.ntmps19
    go_wp2_with fail
    simp [bodyPost, results, Tryd.results19, go_sem]
    exact ⟨⟨HH.out.2, HH.out.1⟩, hB _ _ _ _⟩
  · have e2 := added_h0 ah al bh bl h2 h4 c
    have c' : ¬ IntKind.u64.wrap (al + bl) < al := by rw [IntKind.wrap_u64]; exact c
    rw [← IntKind.wrap_u64] at e1
    have HH : Hid (_ ∧ _) := ⟨e1, e2⟩
    clear e1 e2 c
    go_enter Tryd.func19, Tryd.ntmps19
    go_wp2_with fail
    simp [bodyPost, results, Tryd.results19, go_sem]
    exact ⟨⟨HH.out.2, HH.out.1⟩, hB _ _ _ _⟩
end Go.Proofs.YtnfpommplokemaaDoor
