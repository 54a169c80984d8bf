
import Derived.Test.YtbojljmacheccaaGreatDoorLaE
import Derived.Test.YtbojljmacheccaaGreatDoorKyD
import Derived.Lib.TrimUEq
import Derived.Test.YtbojljmacheccaaGreatDoorLaB
namespace Go.Proofs.YtbojljmacheccaaGreatDoor
open Go.RowKit Go.Shelf
set_option linter.unusedVariables false
set_option linter.unusedSimpArgs false
/-- the loop of weirref05.Wide. -/
def wT (s : ByteArray) (n least : Nat) : Nat → Nat → Nat → Nat
  | 0, _, v => if v < least ∨ (55296 ≤ v ∧ v < 57344) ∨ 1114111 < v then 0 else n
  | f + 1, k, v => if k < s.size then (if (s.get! k).toNat < 128 ∨ 192 ≤ (s.get! k).toNat then 0 else wT s n least f (k + 1) (v * 64 + ((s.get! k).toNat - 128))) else 0
def wideB (s : ByteArray) : Nat :=
  if s.size = 0 then 0 else if (s.get! 0).toNat < 128 then 1 else if (s.get! 0).toNat < 194 then 0 else if (s.get! 0).toNat < 224 then wT s 2 128 1 1 ((s.get! 0).toNat - 192)
  else if (s.get! 0).toNat < 240 then wT s 3 2048 2 1 ((s.get! 0).toNat - 224) else if (s.get! 0).toNat < 245 then wT s 4 65536 3 1 ((s.get! 0).toNat - 240) else 0
/-- the loop of weirref05.right. -/
def goR (s : ByteArray) : Nat → Nat → Bool
  | 0, _ => true
  | f + 1, i => if i < s.size then (if wideB (s.extract i s.size) = 0 ∨ (s.get! i).toNat < 32 ∨ (s.get! i).toNat = 127 then false else goR s f (i + wideB (s.extract i s.size))) else true
end Go.Proofs.YtbojljmacheccaaGreatDoor

namespace Go.Proofs.YtbojljmacheccaaGreatDoor
open Go.RowKit Go.Shelf
set_option linter.unusedVariables false
set_option linter.unusedSimpArgs false
theorem get_at (s : ByteArray) (k : Nat) (h : k < s.size) (x : UInt8) (hx : s.get! k = x) : s[k]'h = x := by rw [← hx]; exact (Utf8W.get!_of_lt s k h).symm
def UB (k u : Nat) : Prop := (k = 1 ∧ u < 32) ∨ (k = 2 ∧ u < 2048) ∨ (k = 3 ∧ u < 131072) ∨ (k = 4 ∧ u < 8388608)
theorem UB.lt {k u : Nat} (h : UB k u) (h1 : 1 ≤ k) (h2 : k < 4) : u < 131072 := by unfold UB at h; omega
theorem UB.next {k u x : Nat} (h : UB k u) (h1 : 1 ≤ k) (h2 : k < 4) (hx : x < 64) : UB (k + 1) (u * 64 + x) := by unfold UB at *; omega
end Go.Proofs.YtbojljmacheccaaGreatDoor

namespace Go.Proofs.YtbojljmacheccaaGreatDoor
open Go.RowKit Go.Shelf
set_option linter.unusedVariables false
set_option linter.unusedSimpArgs false
def GI (s : ByteArray) (i : Nat) (R : Bool) : Prop := ∃ f, s.size ≤ i + f ∧ goR s f i = R
theorem goR_done (s : ByteArray) (f i : Nat) (h : ¬ i < s.size) : goR s f i = true := by cases f <;> simp [goR, h]
theorem GI.done {s : ByteArray} {i : Nat} {R : Bool} (h : GI s i R) (hi : ¬ i < s.size) : R = true := by obtain ⟨f, _, rfl⟩ := h; exact goR_done s f i hi
theorem GI.step {s : ByteArray} {i : Nat} {R : Bool} (h : GI s i R) (hi : i < s.size) :
    (wideB (s.extract i s.size) = 0 ∨ (s.get! i).toNat < 32 ∨ (s.get! i).toNat = 127) ∧ R = false ∨ ¬ (wideB (s.extract i s.size) = 0 ∨ (s.get! i).toNat < 32 ∨ (s.get! i).toNat = 127) ∧ GI s (i + wideB (s.extract i s.size)) R := by
  obtain ⟨f, hf, rfl⟩ := h
  cases f with
  | zero => omega
  | succ f =>
    by_cases hc : wideB (s.extract i s.size) = 0 ∨ (s.get! i).toNat < 32 ∨ (s.get! i).toNat = 127
    · refine Or.inl ⟨hc, ?_⟩
      unfold goR; rw [if_pos hi, if_pos hc]
    · refine Or.inr ⟨hc, f, by omega, ?_⟩
      conv => rhs; unfold goR
      rw [if_pos hi, if_neg hc]
end Go.Proofs.YtbojljmacheccaaGreatDoor

namespace Go.Proofs.YtbojljmacheccaaGreatDoor
open Go.RowKit Go.Shelf
set_option linter.unusedVariables false
set_option linter.unusedSimpArgs false
def bdV (n : Int) : Value := .agg #[.int .i64 n, .int .i64 0, .int .i64 0, .bool false, .bool false]
def BdAt (W : World) (N : Nat) : Prop := N < W.heap.size ∧ W.cell? ⟨N, 0, none⟩ = some (.int .i64 0) ∧ W.cell? ⟨N, 1, none⟩ = some (.int .i64 0) ∧ W.cell? ⟨N, 2, none⟩ = some (.int .i64 0) ∧ W.cell? ⟨N, 3, none⟩ = some (.bool false) ∧ W.cell? ⟨N, 4, none⟩ = some (.bool false) ∧ ∀ j, W.frozen? ⟨N, j, none⟩ = false
def bdO : Obj := .cells #[.int .i64 0, .int .i64 0, .int .i64 0, .bool false, .bool false] 35
theorem BdAt.new (w : World) : BdAt (w.alloc bdO) w.heap.size := by
  unfold bdO
  refine ⟨by simp, ?_, ?_, ?_, ?_, ?_, fun j => ?_⟩ <;> simp [go_sem]
theorem BdAt.below {W W' : World} {N : Nat} (h : BdAt W N) (hb : Below W.heap.size W W') : BdAt W' N := by
  obtain ⟨h0, h1, h2, h3, h4, h5, h6⟩ := h
  refine ⟨Nat.lt_of_lt_of_le h0 hb.size, ?_, ?_, ?_, ?_, ?_, fun j => ?_⟩
  · rw [hb.cell (p := ⟨N, 0, none⟩) h0]; exact h1
  · rw [hb.cell (p := ⟨N, 1, none⟩) h0]; exact h2
  · rw [hb.cell (p := ⟨N, 2, none⟩) h0]; exact h3
  · rw [hb.cell (p := ⟨N, 3, none⟩) h0]; exact h4
  · rw [hb.cell (p := ⟨N, 4, none⟩) h0]; exact h5
  · rw [hb.frozen (p := ⟨N, j, none⟩) h0]; exact h6 j
theorem rnew_any (c : Int) (w : World) : Calls Tryz.prog 34 #[.int .i64 c] w fun e w' => e = .returned (bdV c) ∧ Below w.heap.size w w' := by
  unfold bdV
  go_enter Tryz.func34, Tryz.ntmps34
  go_wp2
  simp [bodyPost, results, Tryz.results34, go_sem]
  exact (Below.refl _ w).alloc (Nat.le_refl _) _
theorem mk_byte (x : UInt8) : mkL.contains x = (decide (x.toNat = 44) || decide (x.toNat = 32) || decide (x.toNat = 61) || decide (x.toNat = 92)) := by
  have : ∀ n : Fin 256, mkL.contains (UInt8.ofNat n.val) = (decide (n.val = 44) || decide (n.val = 32) || decide (n.val = 61) || decide (n.val = 92)) := by decide +kernel
  have h := this ⟨x.toNat, UInt8.toNat_lt x⟩
  simpa using h
set_option maxRecDepth 100000 in
theorem special_any (x : UInt8) (w : World) : Calls Tryz.prog 103 #[.int .u8 (x.toNat : Int)] w fun e w' => e = .returned (.bool (mkL.contains x)) ∧ w' = w := by
  rw [mk_byte]
  generalize x.toNat = n
  by_cases h1 : n = 44
  · subst h1
    go_enter Tryz.func103, Tryz.ntmps103
    go_wp2_with fail
    go_ret
    exact ⟨rfl, rfl⟩
  have h1I : ((n : Int) == 44) = false := by simp; omega
  by_cases h2 : n = 32
  · subst h2
    go_enter Tryz.func103, Tryz.ntmps103
    go_wp2_with fail
    go_ret
    exact ⟨rfl, rfl⟩
  have h2I : ((n : Int) == 32) = false := by simp; omega
  by_cases h3 : n = 61
  · subst h3
    go_enter Tryz.func103, Tryz.ntmps103
    go_wp2_with fail
    go_ret
    exact ⟨rfl, rfl⟩
  have h3I : ((n : Int) == 61) = false := by simp; omega
  rw [decide_eq_false h1, decide_eq_false h2, decide_eq_false h3]
  by_cases h4 : n = 92
  · subst h4
    go_enter Tryz.func103, Tryz.ntmps103
    go_wp2_with fail
    go_ret
    exact ⟨rfl, rfl⟩
  have h4I : ((n : Int) == 92) = false := by simp; omega
  rw [decide_eq_false h4]
  clear h1 h2 h3 h4
  go_enter Tryz.func103, Tryz.ntmps103
  go_wp2_with fail
  go_ret
  exact ⟨rfl, rfl⟩
end Go.Proofs.YtbojljmacheccaaGreatDoor

namespace Go.Proofs.YtbojljmacheccaaGreatDoor
open Go.RowKit Go.Shelf
set_option linter.unusedVariables false
set_option linter.unusedSimpArgs false
theorem app_list (a b : ByteArray) : (a ++ b).data.toList = a.data.toList ++ b.data.toList := by simp [ByteArray.data_append]
def EI (s o : ByteArray) (k : Nat) : Prop := o.data.toList = escL (s.data.toList.take k)
theorem get_list (s : ByteArray) (k : Nat) (h : k < s.size) : s.data.toList[k]? = some (s.get! k) := by
  rw [← Lib.getD_get!', List.getD]
  have : k < s.data.toList.length := by rw [← Lib.size_eq]; exact h
  rw [List.getElem?_eq_getElem this]; rfl
theorem ext_one (s : ByteArray) (k : Nat) (h : k < s.size) : (s.extract k (k + 1)).data.toList = [s.get! k] := by
  rw [Lib.extract_data, show k + 1 - k = 1 by omega]
  have hg := get_list s k h
  have hl : k < s.data.toList.length := by rw [← Lib.size_eq]; exact h
  rw [List.getElem?_eq_getElem hl] at hg
  rw [List.drop_eq_getElem_cons hl, List.take_succ_cons, List.take_zero]
  rw [Option.some.inj hg]
theorem EI.next {s o : ByteArray} {k : Nat} (h : EI s o k) (hk : k < s.size) {o' : ByteArray} (ho : o'.data.toList = o.data.toList ++ (if mkL.contains (s.get! k) then [92, s.get! k] else [s.get! k])) : EI s o' (k + 1) := by
  unfold EI at *
  have hl : k < s.data.toList.length := by rw [← Lib.size_eq]; exact hk
  rw [ho, h, List.take_add_one, get_list s k hk]
  simp [escL]
theorem EI.size {s o : ByteArray} {k : Nat} (h : EI s o k) (hk : k ≤ s.size) : o.size ≤ 2 * k := by
  rw [Lib.size_eq, h]
  have := escL_len (s.data.toList.take k)
  rw [List.length_take] at this; omega
theorem EI.done {s o : ByteArray} {k : Nat} (h : EI s o k) (hk : s.size ≤ k) : o = ⟨(escL s.data.toList).toArray⟩ := by
  unfold EI at h
  rw [List.take_of_length_le (by rw [← Lib.size_eq]; exact hk)] at h
  rw [← h]
set_option maxRecDepth 100000 in
set_option maxHeartbeats 8000000 in
theorem rescape_any (s : ByteArray) (w : World) (hs : s.size ≤ 1048576) : Calls Tryz.prog 35 #[.string s] w fun e w' => e = .returned (.string ⟨(escL s.data.toList).toArray⟩) ∧ Below w.heap.size w w' := by
  obtain ⟨R, hR⟩ : ∃ R : ByteArray, R = ⟨(escL s.data.toList).toArray⟩ := ⟨_, rfl⟩
  have hRH : Hid (R = ⟨(escL s.data.toList).toArray⟩) := hR
  rw [← hR]
  clear hR
  have h0 : EI s ⟨#[]⟩ 0 := by simp [EI, escL]
  go_enter Tryz.func35, Tryz.ntmps35
  go_wp2_with fail
  go_loopw [3, 4] (fun o i wr => ∃ (k : Nat) (b : ByteArray), i = .int .i64 (k : Int) ∧ o = .string b ∧ k ≤ s.size ∧ EI s b k ∧ Below w.heap.size w wr) (fun _ i _ => s.size - (intOf i).toNat)
  case atStart => exact ⟨0, ⟨#[]⟩, rfl, rfl, Nat.zero_le _, h0, Below.refl _ _⟩
  case round =>
    obtain ⟨k, b, rfl, rfl, hkn, hI, hB⟩ := hrel
    by_cases hk : k < s.size
    · have hkI : (k : Int) < (s.size : Int) := by omega
      have hz := hI.size hkn
      obtain ⟨x, hx⟩ : ∃ x, s.get! k = x := ⟨_, rfl⟩
      have hsk : s[k]'hk = x := get_at s k hk x hx
      have hE1 := ext_one s k hk
      rw [hx] at hE1
      have hw1 : wrap64 ((k : Int) + 1) = (k : Int) + 1 := IntWalk.wrap64_in _ (by omega)
      have hw2 : IntKind.i64.wrap ((k : Int) + 1) = (k : Int) + 1 := IntWalk.i64_in _ (by omega)
      have hk2 : (k : Int) + 1 ≤ (s.size : Int) := by omega
      have es : (s.extract k (k + 1)).size = 1 := by rw [Lib.size_eq, hE1]; rfl
      have e92 : (⟨#[92]⟩ : ByteArray).size = 1 := rfl
      have q1 : ∀ W, (Op.stringOp .add b ⟨#[92]⟩).run Tryz.prog W = .ok (.string (b ++ ⟨#[92]⟩)) W := fun W => cat_run _ _ (by omega) W
      have q2 : ∀ W, (Op.stringOp .add (b ++ ⟨#[92]⟩) (s.extract k (k + 1))).run Tryz.prog W = .ok (.string (b ++ ⟨#[92]⟩ ++ s.extract k (k + 1))) W := fun W => cat_run _ _ (by rw [ByteArray.size_append]; omega) W
      have q3 : ∀ W, (Op.stringOp .add b (s.extract k (k + 1))).run Tryz.prog W = .ok (.string (b ++ s.extract k (k + 1))) W := fun W => cat_run _ _ (by omega) W
      have q0 : ∀ W, (Instr.slice 9 (.string s) (some (.int .i64 (k : Int))) (some (.int .i64 ((k : Int) + 1))) none).run Tryz.prog W = .ok (.string (s.extract k (k + 1))) W := fun W => by
        have h := run_slice_string (P := Tryz.prog) (w := W) 9 s .i64 .i64 (k : Int) ((k : Int) + 1) Tryz.underlying9 (by omega) (by omega) (by omega)
        rw [show ((k : Int)).toNat = k by omega, show ((k : Int) + 1).toNat = k + 1 by omega] at h
        exact h
      have n1 : mkL.contains x = true → EI s (b ++ ⟨#[92]⟩ ++ s.extract k (k + 1)) (k + 1) := fun h => hI.next hk (by rw [hx, h, if_pos rfl, app_list, app_list, hE1, List.append_assoc]; rfl)
      have n2 : mkL.contains x = false → EI s (b ++ s.extract k (k + 1)) (k + 1) := fun h => hI.next hk (by rw [hx, h, if_neg (by simp), app_list, hE1])
      have cS : Hid (∀ W, Calls Tryz.prog 103 #[.int .u8 (x.toNat : Int)] W fun e w' => e = .returned (.bool (mkL.contains x)) ∧ w' = W) := special_any x
      generalize mkL.contains x = m at *
      have n1H : Hid (m = true → EI s (b ++ ⟨#[92]⟩ ++ s.extract k (k + 1)) (k + 1)) := n1
      have n2H : Hid (m = false → EI s (b ++ s.extract k (k + 1)) (k + 1)) := n2
      have gM : Hid (s.size - ((k : Int) + 1).toNat < s.size - (k : Int).toNat) := by show _ < _; omega
      have g2 : k + 1 ≤ s.size := hk
      clear n1 n2 hI hz hE1 es e92 h0 hx
      cases m with
      | true =>
        go_wp2_with fail
        refine Calls.mono (cS.out _) ?_
        rintro e w1 ⟨rfl, rfl⟩
        go_wp2_with (simp only [q0, q1, q2, q3])
        go_round
        case measure => simp only [intOf]; exact gM.out
        case rel => exact ⟨k + 1, _, by simp only [Int.natCast_add, Int.cast_ofNat_Int], rfl, g2, n1H.out (by trivial), hB⟩
      | false =>
        go_wp2_with fail
        refine Calls.mono (cS.out _) ?_
        rintro e w1 ⟨rfl, rfl⟩
        go_wp2_with (simp only [q0, q1, q2, q3])
        go_round
        case measure => simp only [intOf]; exact gM.out
        case rel => exact ⟨k + 1, _, by simp only [Int.natCast_add, Int.cast_ofNat_Int], rfl, g2, n2H.out (by trivial), hB⟩
    · have hkI : ¬ (k : Int) < (s.size : Int) := by omega
      have := hI.done (by omega)
      rw [← hRH.out] at this
      subst this
      clear hI h0 hRH
      go_wp2_with fail
      go_ret
      exact ⟨rfl, hB⟩
end Go.Proofs.YtbojljmacheccaaGreatDoor

namespace Go.Proofs.YtbojljmacheccaaGreatDoor
open Go.RowKit Go.Shelf
set_option linter.unusedVariables false
set_option linter.unusedSimpArgs false
theorem BdAt.drewN {W : World} {N : Nat} (h : BdAt W N) : ∀ q, BdAt (W.drewN q) N
  | 0 => h
  | q + 1 => (BdAt.drewN h q : BdAt _ N)
end Go.Proofs.YtbojljmacheccaaGreatDoor

namespace Go.Proofs.YtbojljmacheccaaGreatDoor
open Go.RowKit Go.Shelf
set_option linter.unusedVariables false
set_option linter.unusedSimpArgs false
def RT (w : World) (a : Option Addr) (n c : Nat) (sf : ByteArray) (W : World) : Prop := W.cell? ⟨w.heap.size, 1, none⟩ = some (.slice a n c) ∧ W.cell? ⟨w.heap.size, 2, none⟩ = some (.string sf) ∧ w.heap.size + 1 < W.heap.size ∧ BdAt W (w.heap.size + 1) ∧ Below w.heap.size w W
theorem RT.below {w W W' : World} {a : Option Addr} {n c : Nat} {sf : ByteArray} (h : RT w a n c sf W) (hb : Below W.heap.size W W') : RT w a n c sf W' := by
  obtain ⟨h1, h2, h3, h4, h5⟩ := h
  refine ⟨?_, ?_, Nat.lt_of_lt_of_le h3 hb.size, h4.below hb, h5.trans (hb.mono h5.size)⟩
  · rw [hb.cell (p := ⟨w.heap.size, 1, none⟩) (show w.heap.size < _ by omega)]; exact h1
  · rw [hb.cell (p := ⟨w.heap.size, 2, none⟩) (show w.heap.size < _ by omega)]; exact h2
theorem RT.alloc {w W : World} {a : Option Addr} {n c : Nat} {sf : ByteArray} (h : RT w a n c sf W) (o : Obj) : RT w a n c sf (W.alloc o) := h.below ((Below.refl _ W).alloc (Nat.le_refl _) o)
end Go.Proofs.YtbojljmacheccaaGreatDoor

namespace Go.Proofs.YtbojljmacheccaaGreatDoor
open Go.RowKit Go.Shelf
set_option linter.unusedVariables false
set_option linter.unusedSimpArgs false
def UJ (s b : ByteArray) (k : Nat) (R : Out) : Prop := unB false b.data.toList k (s.data.toList.drop k) = R ∧ b.size ≤ k
theorem drop_at (s : ByteArray) (k : Nat) (h : k < s.size) : s.data.toList.drop k = s.get! k :: s.data.toList.drop (k + 1) := by
  have hl : k < s.data.toList.length := by rw [← Lib.size_eq]; exact h
  have hg := get_list s k h
  rw [List.getElem?_eq_getElem hl] at hg
  rw [List.drop_eq_getElem_cons hl, Option.some.inj hg]
theorem UJ.plain {s b : ByteArray} {k : Nat} {R : Out} (h : UJ s b k R) (hk : k < s.size) (h92 : s.get! k ≠ 92) (hm : mkL.contains (s.get! k) = false) : UJ s (b ++ s.extract k (k + 1)) (k + 1) R := by
  obtain ⟨h1, h2⟩ := h
  refine ⟨?_, ?_⟩
  · rw [drop_at s k hk] at h1
    unfold unB at h1
    rw [if_neg h92, hm] at h1
    rw [app_list, ext_one s k hk]; simpa using h1
  · rw [ByteArray.size_append, Lib.size_eq (s.extract k (k + 1)), ext_one s k hk]; simp; omega
theorem UJ.mark {s b : ByteArray} {k : Nat} {R : Out} (h : UJ s b k R) (hk : k < s.size) (h92 : s.get! k ≠ 92) (hm : mkL.contains (s.get! k) = true) : R = .ok b.data.toList k := by
  obtain ⟨h1, h2⟩ := h
  rw [drop_at s k hk] at h1
  unfold unB at h1
  rw [if_neg h92, hm, if_pos rfl] at h1
  exact h1.symm
theorem UJ.fin {s b : ByteArray} {k : Nat} {R : Out} (h : UJ s b k R) (hk : ¬ k < s.size) : R = .ok b.data.toList k := by
  obtain ⟨h1, h2⟩ := h
  rw [List.drop_eq_nil_of_le (by rw [← Lib.size_eq]; omega)] at h1
  exact h1.symm
theorem UJ.cut {s b : ByteArray} {k : Nat} {R : Out} (h : UJ s b k R) (hk : k < s.size) (h92 : s.get! k = 92) (hk1 : ¬ k + 1 < s.size) : R = .bad (k : Int) := by
  obtain ⟨h1, h2⟩ := h
  rw [drop_at s k hk, h92, List.drop_eq_nil_of_le (by rw [← Lib.size_eq]; omega)] at h1
  rw [← h1]
  simp [unB]
theorem UJ.wrong {s b : ByteArray} {k : Nat} {R : Out} (h : UJ s b k R) (hk : k < s.size) (h92 : s.get! k = 92) (hk1 : k + 1 < s.size) (hm : mkL.contains (s.get! (k + 1)) = false) : R = .bad (k : Int) := by
  obtain ⟨h1, h2⟩ := h
  rw [drop_at s k hk, h92, drop_at s (k + 1) hk1] at h1
  rw [← h1]
  unfold unB
  rw [if_pos rfl]
  unfold unB
  rw [hm]
  simp
end Go.Proofs.YtbojljmacheccaaGreatDoor
