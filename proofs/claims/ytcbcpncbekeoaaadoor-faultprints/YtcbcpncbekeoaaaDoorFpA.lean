
import Derived.Test.YtcbcpncbekeoaaaDoorFnC
import Derived.Lib.IndexMore
namespace Go.Proofs.YtcbcpncbekeoaaaDoor
open Go.RowKit
set_option linter.unusedVariables false
set_option linter.unusedSimpArgs false
/-! ### the lines of errors, plain -/
def csp : List UInt8 := [58, 32]
def numW : List UInt8 := [110, 117, 109, 98, 101, 114, 32]
def atW : List UInt8 := [97, 116, 32]
def NoC (l : List UInt8) : Prop := ∀ c ∈ l, c ≠ 58
theorem NoC.tail {c : UInt8} {l : List UInt8} (h : NoC (c :: l)) : c ≠ 58 ∧ NoC l := ⟨h c (by simp), fun d hd => h d (by simp [hd])⟩
theorem NoC.app {a b : List UInt8} (h : NoC a) (h2 : NoC b) : NoC (a ++ b) := fun c hc => by
  rcases List.mem_append.1 hc with g | g
  · exact h c g
  · exact h2 c g
theorem pre_no {c : UInt8} (h : c ≠ 58) (l : List UInt8) : csp.isPrefixOf (c :: l) = false := by
  have : (58 == c) = false := by rw [beq_eq_false_iff_ne]; exact Ne.symm h
  simp [csp, List.isPrefixOf, this]
theorem index_hit (a r : List UInt8) (h : NoC a) : Lib.index (a ++ (csp ++ r)) csp = (a.length : Int) := by
  induction a with
  | nil => simp [Lib.index, csp, List.isPrefixOf]
  | cons c a ih =>
    obtain ⟨h1, h2⟩ := NoC.tail h
    have := ih h2
    rw [List.cons_append]
    unfold Lib.index
    rw [if_neg (by rw [pre_no h1]; decide), this, if_neg (by simp)]
    simp
theorem index_miss (a : List UInt8) (h : NoC a) : Lib.index a csp = -1 := by
  induction a with
  | nil => simp [Lib.index, csp]
  | cons c a ih =>
    obtain ⟨h1, h2⟩ := NoC.tail h
    unfold Lib.index
    rw [if_neg (by rw [pre_no h1]; decide), ih h2, if_pos (by decide)]
theorem cut_hit (a r : List UInt8) (h : NoC a) : Lib.cut (a ++ (csp ++ r)) csp = (a, r, true) := by
  unfold Lib.cut
  rw [index_hit a r h, if_pos (by omega)]
  simp [csp]
theorem cut_miss (a : List UInt8) (h : NoC a) : Lib.cut a csp = (a, [], false) := by
  unfold Lib.cut
  rw [index_miss a h, if_neg (by decide)]
/-- what stands ahead of the cut begins as the text does. -/
theorem cut_head (s : List UInt8) : ∃ k, (Lib.cut s csp).1 = s.take k := by
  unfold Lib.cut
  split
  · exact ⟨_, rfl⟩
  · exact ⟨s.length, by simp⟩
theorem itoa_noc (n : Int) : NoC (Lib.itoa n) := by
  intro c hc h
  unfold Lib.itoa at hc
  have h58 : (58 : UInt8).toNat = 58 := rfl
  split at hc
  · rcases List.mem_cons.1 hc with g | g
    · rw [h] at g; exact absurd g (by decide)
    · have := dec_head _ c g; rw [h, h58] at this; omega
  · have := dec_head _ c hc; rw [h, h58] at this; omega
theorem numW_noc : NoC numW := by unfold NoC; decide
theorem atW_noc : NoC atW := by unfold NoC; decide
theorem tab_noc : ∀ p ∈ tab, NoC p.2 := by unfold NoC; decide +kernel
theorem name_noc (e : Int) : NoC (nameL e) := by
  rcases first_row (fun p : Int × List UInt8 => p.1 = e) tab with ⟨K, p, hK, rfl, _⟩ | h2
  · rw [nameL_in (mem_tab hK)]; exact tab_noc p (mem_tab hK)
  · rw [nameL_out h2]; exact NoC.app (by unfold NoC errno6; decide) (itoa_noc e)
/-- what the program takes off the front of a text. -/
def unlabF (word s : List UInt8) : Int × Bool × List UInt8 :=
  if (Lib.cut s csp).2.2 = true ∧ Lib.hasPrefix (Lib.cut s csp).1 word = true then
    match Lib.atoiAll (Lib.trimPrefix (Lib.cut s csp).1 word) with
    | .ok n => (n, true, (Lib.cut s csp).2.1)
    | _ => (0, false, s)
  else (0, false, s)
theorem hasP (w x : List UInt8) : Lib.hasPrefix (w ++ x) w = true := by
  unfold Lib.hasPrefix; exact List.isPrefixOf_iff_prefix.2 (List.prefix_append w x)
theorem trimP (w x : List UInt8) : Lib.trimPrefix (w ++ x) w = x := by
  unfold Lib.trimPrefix; rw [if_pos (hasP w x)]; simp
theorem unlab_hit (word : List UInt8) (hw : NoC word) (n : Int) (h1 : -9223372036854775808 ≤ n) (h2 : n ≤ 9223372036854775807) (r : List UInt8) : unlabF word (word ++ (Lib.itoa n ++ (csp ++ r))) = (n, true, r) := by
  unfold unlabF
  rw [show word ++ (Lib.itoa n ++ (csp ++ r)) = (word ++ Lib.itoa n) ++ (csp ++ r) by simp, cut_hit _ r (NoC.app hw (itoa_noc n))]
  simp only [hasP, trimP, atoi_itoa n h1 h2, and_self, if_true]
theorem unlab_none (word s : List UInt8) (h : NoC s) : unlabF word s = (0, false, s) := by
  unfold unlabF; rw [cut_miss s h]; simp
theorem unlab_other (s : List UInt8) : unlabF numW (atW ++ s) = (0, false, atW ++ s) := by
  unfold unlabF
  rw [if_neg]
  rintro ⟨_, h⟩
  obtain ⟨k, hk⟩ := cut_head (atW ++ s)
  rw [hk] at h
  unfold Lib.hasPrefix at h
  have := List.isPrefixOf_iff_prefix.1 h
  obtain ⟨t, ht⟩ := this
  cases k with
  | zero => simp [numW] at ht
  | succ k => simp [numW, atW] at ht
def lab (word : List UInt8) : Option Int → List UInt8
  | none => []
  | some n => word ++ (Lib.itoa n ++ csp)
/-- an error's line. -/
def lineL (i p : Option Int) (c : Int) : List UInt8 := lab numW i ++ (lab atW p ++ nameL c)
def OkI (o : Option Int) : Prop := ∀ n, o = some n → -9223372036854775808 ≤ n ∧ n ≤ 9223372036854775807
theorem unlab_num (i p : Option Int) (c : Int) (hi : OkI i) : unlabF numW (lineL i p c) = (i.getD 0, i.isSome, lab atW p ++ nameL c) := by
  cases i with
  | some n =>
    have := hi n rfl
    unfold lineL lab
    rw [List.append_assoc, List.append_assoc]
    exact unlab_hit numW numW_noc n this.1 this.2 _
  | none =>
    cases p with
    | some m =>
      show unlabF numW ([] ++ (atW ++ (Lib.itoa m ++ csp) ++ nameL c)) = _
      rw [List.nil_append, List.append_assoc]
      exact unlab_other _
    | none => exact unlab_none numW _ (name_noc c)
theorem unlab_at (p : Option Int) (c : Int) (hp : OkI p) : unlabF atW (lab atW p ++ nameL c) = (p.getD 0, p.isSome, nameL c) := by
  cases p with
  | some n =>
    have := hp n rfl
    unfold lab
    rw [List.append_assoc, List.append_assoc]
    exact unlab_hit atW atW_noc n this.1 this.2 _
  | none => exact unlab_none atW _ (name_noc c)
end Go.Proofs.YtcbcpncbekeoaaaDoor
