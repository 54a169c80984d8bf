
import Derived.Test.YtbojljmacheccaaGreatDoorLaB
import Derived.Test.YtbojljmacheccaaGreatDoorLaA
import Derived.Test.YtbojljmacheccaaGreatDoorLaE
import Derived.BigQuiet
import Derived.WalkMore
import Derived.WalkKit
import Derived.Handy
import Derived.WalkLawsBesides
import Derived.Deep.RegionHeld3
import Derived.Lib.LaidTab
import Derived.Lib.AppendIntMem
import Derived.Test.YtbojljmacheccaaGreatDoorKyC
import Derived.Test.YtbojljmacheccaaGreatDoorProg
namespace Go.Proofs.YtbojljmacheccaaGreatDoor.Ln
open Go.RowKit Go.Shelf
attribute [local go_sem] Oper.semAt_some
set_option linter.unusedVariables false
set_option linter.unusedSimpArgs false
set_option maxRecDepth 100000
/-- an error at a place of a line. -/
def atX (p : Int) : Value := .agg #[.int .i64 p, .iface 33 (.int .i64 60)]
def atL (p : Int) : Value := .iface 105 (atX p)
/-- a line given up. -/
def pnL (p : Int) : List PanicEntry := [{ v := .iface 127 (.agg #[atL p]), recovered := false }]
theorem atL_any (p : Int) (w : World) : Calls Tryz.prog 151 #[.int .i64 p, .int .i64 60] w fun e w' => e = .returned (atL p) ∧ w' = w := by
  go_enter Tryz.func151, Tryz.ntmps151
  go_wp2
  go_ret
  exact ⟨rfl, rfl⟩
theorem giveUp_any (p : Int) (w : World) : Calls Tryz.prog 114 #[.int .i64 p] w fun e w' => e = .panicked (pnL p) ∧ Below w.heap.size w w' := by
  have cA : Hid (∀ W, Calls Tryz.prog 151 #[.int .i64 p, .int .i64 60] W fun e w' => e = .returned (.iface 105 (atX p)) ∧ w' = W) := atL_any p
  go_enter Tryz.func114, Tryz.ntmps114
  go_wp2_with (go_at_call 151; with_reducible refine Calls.mono (cA.out _) ?_; rintro e w1 ⟨rfl, rfl⟩)
  exact ⟨rfl, rfl, Below.refl _ _⟩
/-- a reader in memory, above the world w. -/
structure RdL (w : World) (N : Nat) (s : ByteArray) (k : Nat) (W : World) : Prop where
  hN : w.heap.size ≤ N
  lt : N < W.heap.size
  bl : Below w.heap.size w W
  c0 : W.cell? ⟨N, 0, none⟩ = some (.string s)
  c1 : W.cell? ⟨N, 1, none⟩ = some (.int .i64 (k : Int))
  fz : W.frozen? ⟨N, 1, none⟩ = false
theorem RdL.below {w : World} {N : Nat} {s : ByteArray} {k : Nat} {W W' : World} (h : RdL w N s k W) (hb : Below W.heap.size W W') : RdL w N s k W' :=
  ⟨h.hN, Nat.lt_of_lt_of_le h.lt hb.size, h.bl.trans (hb.mono h.bl.size), by rw [hb.cell (p := ⟨N, 0, none⟩) h.lt]; exact h.c0, by rw [hb.cell (p := ⟨N, 1, none⟩) h.lt]; exact h.c1, by rw [hb.frozen (p := ⟨N, 1, none⟩) h.lt]; exact h.fz⟩
theorem RdL.set1 {w : World} {N : Nat} {s : ByteArray} {k : Nat} {W : World} (h : RdL w N s k W) (j : Nat) : RdL w N s j (W.setCell ⟨N, 1, none⟩ (.int .i64 (j : Int))) :=
  ⟨h.hN, by simpa using h.lt, h.bl.setCell (p := ⟨N, 1, none⟩) h.hN _, by have := h.c0; simp [go_sem, this], World.cell?_setCell_same _ _ _ h.c1, by have := h.fz; simp [go_sem, this]⟩
/-- how a step of reading ends. -/
def EndL {α : Type} (w : World) (N : Nat) (s : ByteArray) (W : World) (val : α → Value) : Except Int (α × Nat) → Ending → World → Prop
  | .ok x, e, w' => e = .returned (val x.1) ∧ RdL w N s x.2 w' ∧ W.grownBy w' (some N)
  | .error p, e, w' => e = .panicked (pnL p) ∧ Below w.heap.size w w'
end Go.Proofs.YtbojljmacheccaaGreatDoor.Ln

namespace Go.Proofs.YtbojljmacheccaaGreatDoor.Ln
open Go.RowKit Go.Shelf
attribute [local go_sem] Oper.semAt_some
set_option linter.unusedVariables false
set_option linter.unusedSimpArgs false
set_option maxRecDepth 100000
theorem lenB (s : ByteArray) : s.data.toList.length = s.size := (Lib.size_eq s).symm
set_option maxHeartbeats 4000000 in
theorem rest_l (w : World) (N : Nat) (s : ByteArray) (k : Nat) (W : World) (h : RdL w N s k W) (hk : k ≤ s.size) (hs : s.size ≤ 1048576) : Calls Tryz.prog 152 #[.pointer (some ⟨N, 0, none⟩)] W fun e w' => e = .returned (.string (s.extract k s.size)) ∧ RdL w N s k w' ∧ W.grownBy w' (some N) := by
  have hgd : Hid (∀ q, W.grownBy (W.drewN q) (some N)) := fun q => grown_of_below N (bdrewN (Below.refl _ W) q)
  have hhd : Hid (∀ q, RdL w N s k (W.drewN q)) := fun q => h.below (bdrewN (Below.refl _ W) q)
  have h1 := h.c0
  have h2 := h.c1
  have hk1 : (k : Int) ≤ (s.size : Int) := by omega
  have hk0 : (0 : Int) ≤ (k : Int) := by omega
  go_enter Tryz.func152, Tryz.ntmps152
  go_wp2_with fail
  go_quiet (fail)
  go_wp2_with fail
  go_ret
  exact ⟨rfl, hhd.out _, hgd.out _⟩
set_option maxHeartbeats 4000000 in
theorem follows_l (w : World) (N : Nat) (s : ByteArray) (c : UInt8) (k : Nat) (W : World) (h : RdL w N s k W) (hk : k ≤ s.size) (hs : s.size ≤ 1048576) : Calls Tryz.prog 116 #[.pointer (some ⟨N, 0, none⟩), .string ⟨#[c]⟩] W fun e w' => e = .returned (.bool (decide ((s.data.toList.drop k).head? = some c))) ∧ RdL w N s (if (s.data.toList.drop k).head? = some c then k + 1 else k) w' ∧ W.grownBy w' (some N) := by
  have cR : Hid (Calls Tryz.prog 152 #[.pointer (some ⟨N, 0, none⟩)] W fun e w' => e = .returned (.string (s.extract k s.size)) ∧ RdL w N s k w' ∧ W.grownBy w' (some N)) := rest_l w N s k W h hk hs
  have hcell : Hid (∀ w1, RdL w N s k w1 → w1.cell? ⟨N, 1, none⟩ = some (.int .i64 (k : Int)) ∧ w1.frozen? ⟨N, 1, none⟩ = false) := fun w1 r => ⟨r.c1, r.fz⟩
  have hb1 : (⟨#[c]⟩ : ByteArray).size = 1 := rfl
  have hd : (s.data.toList.drop k).head? = s.data.toList[k]? := by simp
  have cH : ∀ W', Calls Tryz.prog 45 #[.string (s.extract k s.size), .string ⟨#[c]⟩] W' fun e w' => e = .returned (.bool (decide ((s.data.toList.drop k).head? = some c))) ∧ w' = W' := fun W' => by
    have := Tryz.strings_HasPrefix (s.extract k s.size) ⟨#[c]⟩ W'
    rw [ex_list, show (⟨#[c]⟩ : ByteArray).data.toList = [c] from rfl, pre_one, ← hd] at this
    exact this
  have wk : wrap64 ((k : Int) + 1) = (k : Int) + 1 := IntWalk.wrap64_in _ (by omega)
  have wi : IntKind.i64.wrap ((k : Int) + 1) = (k : Int) + 1 := IntWalk.i64_in _ (by omega)
  clear h hd
  by_cases hf : (s.data.toList.drop k).head? = some c
  · rw [decide_eq_true hf, if_pos hf]
    have cHt : Hid (∀ W', Calls Tryz.prog 45 #[.string (s.extract k s.size), .string ⟨#[c]⟩] W' fun e w' => e = .returned (.bool true) ∧ w' = W') := fun W' => by rw [← decide_eq_true hf]; exact cH W'
    have hfin : Hid (∀ w1, RdL w N s k w1 → W.grownBy w1 (some N) → RdL w N s (k + 1) (w1.setCell ⟨N, 1, none⟩ (.int .i64 ((k : Int) + 1))) ∧ W.grownBy (w1.setCell ⟨N, 1, none⟩ (.int .i64 ((k : Int) + 1))) (some N)) := fun w1 r g => ⟨r.set1 (k + 1), grown_trans g (grown_set _ N 1 _)⟩
    clear hf cH
    go_enter Tryz.func116, Tryz.ntmps116
    go_wp2_with fail
    refine Calls.mono cR.out ?_
    rintro e w1 ⟨rfl, R1, G1⟩
    obtain ⟨q1, q2⟩ := hcell.out w1 R1
    go_wp2_with fail
    refine Calls.mono (cHt.out _) ?_
    rintro e w2 ⟨rfl, hw⟩
    subst hw
    go_wp2_with fail
    go_ret
    exact ⟨rfl, hfin.out _ R1 G1⟩
  · rw [decide_eq_false hf, if_neg hf]
    have cHt : Hid (∀ W', Calls Tryz.prog 45 #[.string (s.extract k s.size), .string ⟨#[c]⟩] W' fun e w' => e = .returned (.bool false) ∧ w' = W') := fun W' => by rw [← decide_eq_false hf]; exact cH W'
    clear hf cH
    go_enter Tryz.func116, Tryz.ntmps116
    go_wp2_with fail
    refine Calls.mono cR.out ?_
    rintro e w1 ⟨rfl, R1, G1⟩
    go_wp2_with fail
    refine Calls.mono (cHt.out _) ?_
    rintro e w2 ⟨rfl, hw⟩
    subst hw
    go_wp2_with fail
    go_ret
    exact ⟨rfl, R1, G1⟩
theorem gv_l (w : World) (W : World) (p : Int) (h : Below w.heap.size w W) : Calls Tryz.prog 114 #[.int .i64 p] W fun e w' => e = .panicked (pnL p) ∧ Below w.heap.size w w' := (giveUp_any p W).mono fun e w' q => ⟨q.1, h.trans (q.2.mono h.size)⟩
set_option maxHeartbeats 4000000 in
theorem must_l (w : World) (N : Nat) (s : ByteArray) (c : UInt8) (k : Nat) (W : World) (h : RdL w N s k W) (hk : k ≤ s.size) (hs : s.size ≤ 1048576) : Calls Tryz.prog 118 #[.pointer (some ⟨N, 0, none⟩), .string ⟨#[c]⟩] W fun e w' => (match mustL c s.data.toList k with | .ok k' => e = .returned undef ∧ RdL w N s k' w' ∧ W.grownBy w' (some N) | .error p => e = .panicked (pnL p) ∧ Below w.heap.size w w') := by
  have cF := follows_l w N s c k W h hk hs
  have hcell : Hid (∀ w1, RdL w N s k w1 → w1.cell? ⟨N, 1, none⟩ = some (.int .i64 (k : Int))) := fun w1 r => r.c1
  have cG : Hid (∀ W', RdL w N s k W' → Calls Tryz.prog 114 #[.int .i64 (k : Int)] W' fun e w' => e = .panicked (pnL (k : Int)) ∧ Below w.heap.size w w') := fun W' g => gv_l w W' _ g.bl
  clear h
  by_cases hf : (s.data.toList.drop k).head? = some c
  · have hm : mustL c s.data.toList k = .ok (k + 1) := by unfold mustL; rw [if_pos hf]
    rw [decide_eq_true hf, if_pos hf] at cF
    rw [hm]
    have cFH : Hid (Calls Tryz.prog 116 #[.pointer (some ⟨N, 0, none⟩), .string ⟨#[c]⟩] W fun e w' => e = .returned (.bool true) ∧ RdL w N s (k + 1) w' ∧ W.grownBy w' (some N)) := cF
    clear cF hf hm
    go_enter Tryz.func118, Tryz.ntmps118
    go_wp2_with fail
    refine Calls.mono cFH.out ?_
    rintro e w1 ⟨rfl, R1, G1⟩
    go_wp2_with fail
    first | go_end0 | (simp only [Exit.inBlock, Exit.then]; refine bodyPost_ret (results_none rfl _ _ _) rfl ?_) | refine bodyPost_ret (results_none rfl _ _ _) rfl ?_
    exact ⟨rfl, R1, G1⟩
  · have hm : mustL c s.data.toList k = .error (k : Int) := by unfold mustL; rw [if_neg hf]
    rw [decide_eq_false hf, if_neg hf] at cF
    rw [hm]
    have cFH : Hid (Calls Tryz.prog 116 #[.pointer (some ⟨N, 0, none⟩), .string ⟨#[c]⟩] W fun e w' => e = .returned (.bool false) ∧ RdL w N s k w' ∧ W.grownBy w' (some N)) := cF
    clear cF hf hm
    go_enter Tryz.func118, Tryz.ntmps118
    go_wp2_with fail
    refine Calls.mono cFH.out ?_
    rintro e w1 ⟨rfl, R1, G1⟩
    have q1 := hcell.out w1 R1
    go_wp2_with fail
    refine Calls.mono (cG.out _ R1) ?_
    rintro e w2 ⟨rfl, G2⟩
    exact ⟨rfl, rfl, G2⟩
theorem nil_ba (Y : ByteArray) : Y.data.toList = [] ↔ Y = ⟨#[]⟩ := ⟨fun q => by cases Y; rename_i d; cases d; simp at q; subst q; rfl, fun q => by rw [q]⟩
set_option maxHeartbeats 4000000 in
theorem end_l (w : World) (N : Nat) (s : ByteArray) (k : Nat) (W : World) (h : RdL w N s k W) (hk : k ≤ s.size) (hs : s.size ≤ 1048576) : Calls Tryz.prog 121 #[.pointer (some ⟨N, 0, none⟩)] W fun e w' => if k < s.size then e = .panicked (pnL (k : Int)) ∧ Below w.heap.size w w' else e = .returned undef ∧ RdL w N s k w' ∧ W.grownBy w' (some N) := by
  have cR : Hid (Calls Tryz.prog 152 #[.pointer (some ⟨N, 0, none⟩)] W fun e w' => e = .returned (.string (s.extract k s.size)) ∧ RdL w N s k w' ∧ W.grownBy w' (some N)) := rest_l w N s k W h hk hs
  have hcell : Hid (∀ w1, RdL w N s k w1 → w1.cell? ⟨N, 1, none⟩ = some (.int .i64 (k : Int))) := fun w1 r => r.c1
  have cG : Hid (∀ W', RdL w N s k W' → Calls Tryz.prog 114 #[.int .i64 (k : Int)] W' fun e w' => e = .panicked (pnL (k : Int)) ∧ Below w.heap.size w w') := fun W' g => gv_l w W' _ g.bl
  have hz : (s.extract k s.size).data.toList.length = s.size - k := by rw [ex_list, List.length_drop, lenB]
  clear h
  obtain ⟨X, hX⟩ : ∃ X, s.extract k s.size = X := ⟨_, rfl⟩
  rw [hX] at cR hz
  by_cases hlt : k < s.size
  · simp only [if_pos hlt]
    have hne : (X.data.toList == ([] : List UInt8)) = false := beq_eq_false_iff_ne.2 (by intro q; rw [q] at hz; simp at hz; omega)
    have hne2 : X.toList.isEmpty = false := by
      rw [Lib.toList_data]
      cases hq : X.data.toList with
      | nil => rw [hq] at hz; simp at hz; omega
      | cons a r => rfl
    clear hX hz
    go_enter Tryz.func121, Tryz.ntmps121
    go_wp2_with fail
    refine Calls.mono cR.out ?_
    rintro e w1 ⟨rfl, R1, G1⟩
    have q1 := hcell.out w1 R1
    go_wp2_with fail
    refine Calls.mono (cG.out _ R1) ?_
    rintro e w2 ⟨rfl, G2⟩
    exact ⟨rfl, rfl, G2⟩
  · simp only [if_neg hlt]
    have hne2 : X = ⟨#[]⟩ := (nil_ba X).1 (List.eq_nil_of_length_eq_zero (by rw [hz]; omega))
    subst hne2
    clear hX hz
    go_enter Tryz.func121, Tryz.ntmps121
    go_wp2_with fail
    refine Calls.mono cR.out ?_
    rintro e w1 ⟨rfl, R1, G1⟩
    go_wp2_with fail
    first | go_end0 | (simp only [Exit.inBlock, Exit.then]; refine bodyPost_ret (results_none rfl _ _ _) rfl ?_) | refine bodyPost_ret (results_none rfl _ _ _) rfl ?_
    exact ⟨rfl, R1, G1⟩
end Go.Proofs.YtbojljmacheccaaGreatDoor.Ln

namespace Go.Proofs.YtbojljmacheccaaGreatDoor.Ln
open Go.RowKit Go.Shelf
attribute [local go_sem] Oper.semAt_some
set_option linter.unusedVariables false
set_option linter.unusedSimpArgs false
set_option maxRecDepth 100000
/-- the variables that reading and writing a line look at. -/
structure LT (w : World) : Prop where
  et : ET w
  pw : Lib.TabIs Tryz.prog w "internal/strconv.uint64pow10" .u64 Lib.pow10Tab
  es : ∃ ev, w.cell? ⟨7, 0, none⟩ = some ev ∧ (ev = .nilIface ∨ ∃ te pe, ev = .iface te pe)
  ls : 7 < w.heap.size
  er : ∃ ev, w.cell? ⟨8, 0, none⟩ = some ev ∧ (ev = .nilIface ∨ ∃ te pe, ev = .iface te pe)
  lr : 8 < w.heap.size
theorem LT.on {w w' : World} (h : LT w) (hb : Below w.heap.size w w') : LT w' := by
  obtain ⟨e1, a1, b1⟩ := h.es
  obtain ⟨e2, a2, b2⟩ := h.er
  exact ⟨ET_below h.et hb, Lib.tabBelow_of_tabIs h.pw w' hb, ⟨e1, by rw [hb.cell (p := ⟨7, 0, none⟩) h.ls]; exact a1, b1⟩, Nat.lt_of_lt_of_le h.ls hb.size, ⟨e2, by rw [hb.cell (p := ⟨8, 0, none⟩) h.lr]; exact a2, b2⟩, Nat.lt_of_lt_of_le h.lr hb.size⟩
/-- strconv.ParseInt of any text. -/
def okL (l : By) : Prop := ∃ v, Lib.parseIntB 64 l = .ok v
theorem pint_l (T : ByteArray) (hT : T.size ≤ 1048576) (w : World) (h : LT w) : Calls Tryz.prog 156 #[.string T, .int .i64 10, .int .i64 64] w fun e w' => ((okL T.data.toList ∧ e = .returned (.tuple #[.int .i64 (pvL T.data.toList), .nilIface])) ∨ (¬ okL T.data.toList ∧ ∃ t p, e = .returned (.tuple #[.int .i64 (pvL T.data.toList), .iface t p]))) ∧ Below w.heap.size w w' := by
  unfold pvL okL
  cases hp : Lib.parseIntB 64 T.data.toList with
  | ok v =>
    refine (Tryz.strconv_ParseInt_10_at64_ok T (by omega) v hp w).mono ?_
    rintro e w' ⟨rfl, hw⟩
    refine ⟨Or.inl ⟨⟨v, rfl⟩, rfl⟩, ?_⟩
    rcases hw with rfl | ⟨t, rfl⟩
    · exact Below.refl _ _
    · exact Lib.bytesWorld_below _ _ _
  | «syntax» =>
    obtain ⟨ev, a1, b1⟩ := h.es
    refine (Tryz.strconv_ParseInt_10_at64_syntax T (by omega) hp ev w a1 b1).mono ?_
    rintro e w' ⟨M, rfl, _, _, hb⟩
    exact ⟨Or.inr ⟨(by rintro ⟨v, q⟩; cases q), ⟨_, _, rfl⟩⟩, hb⟩
  | range =>
    obtain ⟨ev, a1, b1⟩ := h.er
    refine (Tryz.strconv_ParseInt_10_at64_range T (by omega) hp ev w a1 b1).mono ?_
    rintro e w' ⟨M, rfl, _, _, hb⟩
    exact ⟨Or.inr ⟨(by rintro ⟨v, q⟩; cases q), ⟨_, _, rfl⟩⟩, hb⟩
theorem form_l (n : Int) (hn : I64L n) (w : World) (h : LT w) : Calls Tryz.prog 36 #[.int .i64 n, .int .i64 10] w fun e w' => e = .returned (.string (ba (Lib.itoa n))) ∧ Below w.heap.size w w' := by
  unfold I64L at hn
  refine (Tryz.strconv_FormatInt_10 n hn.1 (by have := hn.2; omega) w h.pw).mono ?_
  rintro e w' ⟨rfl, k, os, rfl⟩
  exact ⟨rfl, Lib.below_grow _ w (Nat.le_refl _) k os⟩
theorem ba_list (l : By) : (ba l).data.toList = l := by simp [ba]
theorem ba_of (T : ByteArray) : ba T.data.toList = T := by cases T; simp [ba]
theorem ba_size (l : By) : (ba l).size = l.length := by simp [ba, ByteArray.size]
theorem trimL_l (T : ByteArray) (w : World) : Calls Tryz.prog 153 #[.string T, .string ⟨#[48, 49, 50, 51, 52, 53, 54, 55, 56, 57]⟩] w fun e w' => e = .returned (.string (ba (Lib.trimLeftS T.data.toList dgL))) ∧ Below w.heap.size w w' :=
  Any.strings_TrimLeft_laid Tryz.lays161 (by kernel_rfl) T ⟨#[48, 49, 50, 51, 52, 53, 54, 55, 56, 57]⟩ w (by decide) (ascii_of_all (by decide))
/-- the row that could be a number, as the program cuts it. -/
theorem rowA (l : By) : (l.take (rowN l)).length = rowN l := by rw [List.length_take]; exact Nat.min_eq_left (row_le l)
set_option maxHeartbeats 8000000 in
theorem number_l (w : World) (N : Nat) (s : ByteArray) (k : Nat) (W : World) (h : RdL w N s k W) (hg : LT w) (hk : k ≤ s.size) (hs : s.size ≤ 1048576) : Calls Tryz.prog 120 #[.pointer (some ⟨N, 0, none⟩)] W fun e w' => EndL w N s W (fun v : Int => .int .i64 v) (numL nvL s.data.toList k) e w' := by
  have cR : Hid (∀ w1, RdL w N s k w1 → W.grownBy w1 (some N) → Calls Tryz.prog 152 #[.pointer (some ⟨N, 0, none⟩)] w1 fun e w' => e = .returned (.string (s.extract k s.size)) ∧ RdL w N s k w' ∧ W.grownBy w' (some N)) := fun w1 r g => (rest_l w N s k w1 r hk (by omega)).mono fun e w' q => ⟨q.1, q.2.1, grown_trans g q.2.2⟩
  have hcell : Hid (∀ w1, RdL w N s k w1 → w1.cell? ⟨N, 1, none⟩ = some (.int .i64 (k : Int)) ∧ w1.frozen? ⟨N, 1, none⟩ = false) := fun w1 r => ⟨r.c1, r.fz⟩
  have cG : Hid (∀ W', RdL w N s k W' → Calls Tryz.prog 114 #[.int .i64 (k : Int)] W' fun e w' => e = .panicked (pnL (k : Int)) ∧ Below w.heap.size w w') := fun W' g => gv_l w W' _ g.bl
  obtain ⟨l, hl⟩ : ∃ l, l = s.data.toList.drop k := ⟨_, rfl⟩
  have hX : (s.extract k s.size).data.toList = l := by rw [ex_list, hl]
  have lz : l.length = s.size - k := by rw [hl, List.length_drop, lenB]
  have on : Hid (∀ w1 w2, RdL w N s k w1 → W.grownBy w1 (some N) → Below w1.heap.size w1 w2 → RdL w N s k w2 ∧ W.grownBy w2 (some N)) := fun w1 w2 r g b => ⟨r.below b, grown_trans g (grown_of_below N b)⟩
  have rz : rowN l ≤ s.size - k := by rw [← lz]; exact row_le l
  obtain ⟨T, hT⟩ : ∃ T : ByteArray, T = ba (l.take (rowN l)) := ⟨_, rfl⟩
  have hTl : T.data.toList = l.take (rowN l) := by rw [hT, ba_list]
  have hTs : T.size = rowN l := by rw [hT, ba_size, rowA]
  have hr0 : Hid (RdL w N s k W ∧ W.grownBy W (some N)) := ⟨h, grown_refl _ _⟩
  obtain ⟨X, hXX⟩ : ∃ X, s.extract k s.size = X := ⟨_, rfl⟩
  rw [hXX] at cR hX
  obtain ⟨P1, hP1⟩ : ∃ P1 : ByteArray, P1 = ⟨(Lib.trimPrefix l [45]).toArray⟩ := ⟨_, rfl⟩
  have cP : Hid (∀ w1, Calls Tryz.prog 154 #[.string X, .string ⟨#[45]⟩] w1 fun e w' => e = .returned (.string P1) ∧ w' = w1) := fun w1 => by
    have := Tryz.strings_TrimPrefix X ⟨#[45]⟩ w1
    rw [hX, show (⟨#[45]⟩ : ByteArray).data.toList = [45] from rfl, ← hP1] at this
    exact this
  obtain ⟨P2, hP2⟩ : ∃ P2 : ByteArray, P2 = ba (Lib.trimLeftS (Lib.trimPrefix l [45]) dgL) := ⟨_, rfl⟩
  have cL : Hid (∀ w1, Calls Tryz.prog 153 #[.string P1, .string ⟨#[48, 49, 50, 51, 52, 53, 54, 55, 56, 57]⟩] w1 fun e w' => e = .returned (.string P2) ∧ Below w1.heap.size w1 w') := fun w1 => by
    have := trimL_l P1 w1
    rw [hP1, show (⟨(Lib.trimPrefix l [45]).toArray⟩ : ByteArray).data.toList = Lib.trimPrefix l [45] by simp, ← hP2, ← hP1] at this
    exact this
  have cS : Hid (∀ w1, Calls Tryz.prog 155 #[.string X, .string P2] w1 fun e w' => e = .returned (.string T) ∧ w' = w1) := fun w1 => by
    have := Tryz.strings_TrimSuffix X P2 w1 (by rw [Lib.size_eq, hX]; omega)
    rw [hX, hP2, ba_list, row_trim, ← hP2] at this
    rw [hT]; exact this
  have cI : Hid (∀ w1, RdL w N s k w1 → Calls Tryz.prog 156 #[.string T, .int .i64 10, .int .i64 64] w1 fun e w' => ((okL T.data.toList ∧ e = .returned (.tuple #[.int .i64 (pvL T.data.toList), .nilIface])) ∨ (¬ okL T.data.toList ∧ ∃ t p, e = .returned (.tuple #[.int .i64 (pvL T.data.toList), .iface t p]))) ∧ Below w1.heap.size w1 w') := fun w1 r => pint_l T (by omega) w1 (hg.on r.bl)
  have cF : Hid (∀ w1, RdL w N s k w1 → Calls Tryz.prog 36 #[.int .i64 (pvL T.data.toList), .int .i64 10] w1 fun e w' => e = .returned (.string (ba (Lib.itoa (pvL T.data.toList)))) ∧ Below w1.heap.size w1 w') := fun w1 r => form_l _ (pv_in _) w1 (hg.on r.bl)
  have wk : wrap64 ((k : Int) + (T.size : Int)) = (k : Int) + (T.size : Int) := IntWalk.wrap64_in _ (by omega)
  have wi : IntKind.i64.wrap ((k : Int) + (T.size : Int)) = (k : Int) + (T.size : Int) := IntWalk.i64_in _ (by omega)
  have hnum : Hid (numL nvL s.data.toList k = match nvL T.data.toList with | some v => .ok (v, k + T.size) | none => .error (k : Int)) := by
    show _ = _
    unfold numL
    rw [← hl, hTl, hTs]
    cases nvL (List.take (rowN l) l) <;> rfl
  have hfin : Hid (∀ w1, RdL w N s k w1 → W.grownBy w1 (some N) → RdL w N s (k + T.size) (w1.setCell ⟨N, 1, none⟩ (.int .i64 ((k : Int) + (T.size : Int)))) ∧ W.grownBy (w1.setCell ⟨N, 1, none⟩ (.int .i64 ((k : Int) + (T.size : Int)))) (some N)) := fun w1 r g => ⟨r.set1 (k + T.size), grown_trans g (grown_set _ N 1 _)⟩
  obtain ⟨tl, htl⟩ : ∃ tl, T.data.toList = tl := ⟨_, rfl⟩
  rw [htl] at cI cF hnum
  have hsame : Hid (Lib.itoa (pvL tl) = tl → ba (Lib.itoa (pvL tl)) = T) := fun q => (congrArg ba (q.trans htl.symm)).trans (ba_of T)
  have hdiff : Hid (¬ Lib.itoa (pvL tl) = tl → ¬ ba (Lib.itoa (pvL tl)) = T) := fun q e => q ((ba_list _).symm.trans ((congrArg (fun x : ByteArray => x.data.toList) e).trans htl))
  obtain ⟨F, hF⟩ : ∃ F, ba (Lib.itoa (pvL tl)) = F := ⟨_, rfl⟩
  rw [hF] at cF hsame hdiff
  clear hXX hX hP1 hP2 hTl hT hTs lz rz hl htl hF hk h
  go_enter Tryz.func120, Tryz.ntmps120
  go_wp2_with fail
  refine Calls.mono (cR.out _ hr0.out.1 hr0.out.2) ?_
  rintro e w1 ⟨rfl, R1, G1⟩
  go_wp2_with fail
  refine Calls.mono (cP.out _) ?_
  rintro e w2 ⟨rfl, hw⟩
  subst hw
  go_wp2_with fail
  refine Calls.mono (cL.out _) ?_
  rintro e w3 ⟨rfl, B3⟩
  obtain ⟨R3, G3⟩ := on.out _ _ R1 G1 B3
  clear R1 G1 B3
  go_wp2_with fail
  refine Calls.mono (cR.out _ R3 G3) ?_
  rintro e w4 ⟨rfl, R4, G4⟩
  go_wp2_with fail
  refine Calls.mono (cS.out _) ?_
  rintro e w5 ⟨rfl, hw⟩
  subst hw
  go_wp2_with fail
  refine Calls.mono (cI.out _ R4) ?_
  rintro e w6 ⟨hcase, B6⟩
  obtain ⟨R6, G6⟩ := on.out _ _ R4 G4 B6
  clear R4 G4 B6 R3 G3
  rcases hcase with ⟨hok, rfl⟩ | ⟨hno, t, p, rfl⟩
  · go_wp2_with fail
    refine Calls.mono (cF.out _ R6) ?_
    rintro e w7 ⟨rfl, B7⟩
    obtain ⟨R7, G7⟩ := on.out _ _ R6 G6 B7
    obtain ⟨q1, q2⟩ := hcell.out _ R7
    have R7H : Hid (RdL w N s k w7 ∧ W.grownBy w7 (some N)) := ⟨R7, G7⟩
    clear R6 G6 B7 R7 G7
    by_cases hs2 : Lib.itoa (pvL tl) = tl
    · have e1 : F = T := hsame.out hs2
      have hn : nvL tl = some (pvL tl) := by rw [nv_pv, if_pos hs2]
      subst e1
      go_wp2_with fail
      go_ret
      rw [hnum.out, hn]
      exact ⟨rfl, hfin.out _ R7H.out.1 R7H.out.2⟩
    · have e1 : ¬ F = T := hdiff.out hs2
      have e2 : (F.toList == T.toList) = false := beq_eq_false_iff_ne.2 (by rw [Lib.toList_data, Lib.toList_data]; exact fun q => e1 (by rw [← ba_of F, q, ba_of]))
      have hn : nvL tl = none := by rw [nv_pv, if_neg hs2]
      go_wp2_with fail
      refine Calls.mono (cG.out _ R7H.out.1) ?_
      rintro e w8 ⟨rfl, B8⟩
      refine ⟨rfl, ?_⟩
      rw [hnum.out, hn]
      exact ⟨rfl, B8⟩
  · have hn : nvL tl = none := nv_bad (fun v q => hno ⟨v, q⟩)
    obtain ⟨q1, q2⟩ := hcell.out _ R6
    have R6H : Hid (RdL w N s k w6 ∧ W.grownBy w6 (some N)) := ⟨R6, G6⟩
    clear R6 G6
    go_wp2_with fail
    refine Calls.mono (cG.out _ R6H.out.1) ?_
    rintro e w8 ⟨rfl, B8⟩
    refine ⟨rfl, ?_⟩
    rw [hnum.out, hn]
    exact ⟨rfl, B8⟩
end Go.Proofs.YtbojljmacheccaaGreatDoor.Ln

namespace Go.Proofs.YtbojljmacheccaaGreatDoor.Ln
open Go.RowKit Go.Shelf
attribute [local go_sem] Oper.semAt_some
set_option linter.unusedVariables false
set_option linter.unusedSimpArgs false
set_option maxRecDepth 100000
theorem un_len : ∀ l t n, unK l = .ok (t, n) → n ≤ l.length := fun l t n h => (bkK.un l t n h).2
theorem place_l (p : Int) (W : World) (hg : ET W) : Calls Tryz.prog 135 #[.iface 105 (atY p)] W fun e w' => e = .returned (.tuple #[.int .i64 p, .bool true]) ∧ Below W.heap.size W w' := place_at p W hg
set_option maxHeartbeats 8000000 in
theorem word_l (w : World) (N : Nat) (s : ByteArray) (k : Nat) (W : World) (h : RdL w N s k W) (hg : LT w) (hk : k ≤ s.size) (hs : s.size ≤ 1048576) : Calls Tryz.prog 115 #[.pointer (some ⟨N, 0, none⟩)] W fun e w' => EndL w N s W (fun t : By => .string (ba t)) (pieceL unK s.data.toList k) e w' := by
  have cR : Hid (Calls Tryz.prog 152 #[.pointer (some ⟨N, 0, none⟩)] W fun e w' => e = .returned (.string (s.extract k s.size)) ∧ RdL w N s k w' ∧ W.grownBy w' (some N)) := rest_l w N s k W h hk hs
  have hcell : Hid (∀ w1, RdL w N s k w1 → w1.cell? ⟨N, 1, none⟩ = some (.int .i64 (k : Int)) ∧ w1.frozen? ⟨N, 1, none⟩ = false) := fun w1 r => ⟨r.c1, r.fz⟩
  have on : Hid (∀ w1 w2, RdL w N s k w1 → W.grownBy w1 (some N) → Below w1.heap.size w1 w2 → RdL w N s k w2 ∧ W.grownBy w2 (some N)) := fun w1 w2 r g b => ⟨r.below b, grown_trans g (grown_of_below N b)⟩
  have cG : Hid (∀ p W', RdL w N s k W' → Calls Tryz.prog 114 #[.int .i64 p] W' fun e w' => e = .panicked (pnL p) ∧ Below w.heap.size w w') := fun p W' g => gv_l w W' _ g.bl
  have hgH : Hid (∀ w1, RdL w N s k w1 → ET w1) := fun w1 r => (hg.on r.bl).et
  have hlen := lenB s
  have hz : (s.extract k s.size).size ≤ s.size := by rw [Lib.size_eq, ex_list, List.length_drop, hlen]; omega
  have cU : ∀ W', Calls Tryz.prog 134 #[.string (s.extract k s.size)] W' fun e w' => e = .returned (outV (uneT (s.data.toList.drop k))) ∧ Below W'.heap.size W' w' := fun W' => by
    have := unescape_any (s.extract k s.size) W' (by omega) (fun a b => mk_extract _ (by omega) a b)
    rw [ex_list] at this
    exact this
  obtain ⟨X, hX⟩ : ∃ X, s.extract k s.size = X := ⟨_, rfl⟩
  rw [hX] at cR cU
  have hP : pieceL unK s.data.toList k = match uneT (s.data.toList.drop k) with
    | .ok t n => if t = [] then .error (k : Int) else .ok (t, k + n)
    | .bad p => .error ((k : Int) + p) := by
    unfold pieceL unK
    cases uneT (s.data.toList.drop k) <;> rfl
  rw [hP]
  clear hP hX h
  cases hu : uneT (s.data.toList.drop k) with
  | ok t n =>
    have hn : k + n ≤ s.size := by
      have h9 := (uneT_ok hu).1
      rw [List.length_drop] at h9
      rw [← hlen]
      omega
    rw [hu] at cU
    have cUH : Hid (∀ W', Calls Tryz.prog 134 #[.string X] W' fun e w' => e = .returned (.tuple #[.string ⟨t.toArray⟩, .int .i64 (n : Int), .nilIface]) ∧ Below W'.heap.size W' w') := cU
    have wk : wrap64 ((k : Int) + (n : Int)) = (k : Int) + (n : Int) := IntWalk.wrap64_in _ (by omega)
    have wi : IntKind.i64.wrap ((k : Int) + (n : Int)) = (k : Int) + (n : Int) := IntWalk.i64_in _ (by omega)
    have hfin : Hid (∀ w1, RdL w N s k w1 → W.grownBy w1 (some N) → RdL w N s (k + n) (w1.setCell ⟨N, 1, none⟩ (.int .i64 ((k : Int) + (n : Int)))) ∧ W.grownBy (w1.setCell ⟨N, 1, none⟩ (.int .i64 ((k : Int) + (n : Int)))) (some N)) := fun w1 r g => ⟨r.set1 (k + n), grown_trans g (grown_set _ N 1 _)⟩
    clear cU hu hz hlen
    by_cases ht : t = []
    · subst ht
      dsimp only
      rw [if_pos rfl]
      go_enter Tryz.func115, Tryz.ntmps115
      go_wp2_with fail
      refine Calls.mono cR.out ?_
      rintro e w1 ⟨rfl, R1, G1⟩
      go_wp2_with fail
      refine Calls.mono (cUH.out _) ?_
      rintro e w2 ⟨rfl, B2⟩
      obtain ⟨R2, G2⟩ := on.out _ _ R1 G1 B2
      obtain ⟨q1, q2⟩ := hcell.out _ R2
      go_wp2_with fail
      refine Calls.mono (cG.out _ _ R2) ?_
      rintro e w3 ⟨rfl, B3⟩
      exact ⟨rfl, rfl, B3⟩
    · dsimp only
      rw [if_neg ht]
      have ht2 : (⟨t.toArray⟩ : ByteArray).toList.isEmpty = false := by
        rw [Lib.toList_data]
        cases t with
        | nil => exact absurd rfl ht
        | cons a r => simp
      have eba : ba t = ⟨t.toArray⟩ := rfl
      have hF : Hid (∀ w1, RdL w N s k w1 → W.grownBy w1 (some N) → EndL w N s W (fun t : By => .string (ba t)) (.ok (t, k + n)) (.returned (.string ⟨t.toArray⟩)) (w1.setCell ⟨N, 1, none⟩ (.int .i64 ((k : Int) + (n : Int))))) := fun w1 r g => ⟨rfl, hfin.out w1 r g⟩
      generalize (⟨t.toArray⟩ : ByteArray) = T at *
      go_enter Tryz.func115, Tryz.ntmps115
      go_wp2_with fail
      refine Calls.mono cR.out ?_
      rintro e w1 ⟨rfl, R1, G1⟩
      go_wp2_with fail
      refine Calls.mono (cUH.out _) ?_
      rintro e w2 ⟨rfl, B2⟩
      obtain ⟨R2, G2⟩ := on.out _ _ R1 G1 B2
      obtain ⟨q1, q2⟩ := hcell.out _ R2
      have RH : Hid (RdL w N s k w2 ∧ W.grownBy w2 (some N)) := ⟨R2, G2⟩
      clear R1 G1 R2 G2 B2
      go_wp2_with fail
      go_ret
      exact hF.out _ RH.out.1 RH.out.2
  | bad p =>
    have hp := uneT_bad hu
    rw [List.length_drop] at hp
    rw [hu] at cU
    simp only [outV, atV_eq] at cU
    obtain ⟨Y, hY⟩ : ∃ Y, Y = atY p := ⟨_, rfl⟩
    have cP : Hid (∀ W', ET W' → Calls Tryz.prog 135 #[.iface 105 Y] W' fun e w' => e = .returned (.tuple #[.int .i64 p, .bool true]) ∧ Below W'.heap.size W' w') := fun W' hW => by rw [hY]; exact place_l p W' hW
    have cUH : Hid (∀ W', Calls Tryz.prog 134 #[.string X] W' fun e w' => e = .returned (.tuple #[.string ⟨#[]⟩, .int .i64 0, .iface 105 Y]) ∧ Below W'.heap.size W' w') := fun W' => by rw [hY]; exact cU W'
    have wk : wrap64 ((k : Int) + p) = (k : Int) + p := IntWalk.wrap64_in _ (by omega)
    have wi : IntKind.i64.wrap ((k : Int) + p) = (k : Int) + p := IntWalk.i64_in _ (by omega)
    clear cU hu hY hp hz hlen
    dsimp only
    go_enter Tryz.func115, Tryz.ntmps115
    go_wp2_with fail
    refine Calls.mono cR.out ?_
    rintro e w1 ⟨rfl, R1, G1⟩
    go_wp2_with fail
    refine Calls.mono (cUH.out _) ?_
    rintro e w2 ⟨rfl, B2⟩
    obtain ⟨R2, G2⟩ := on.out _ _ R1 G1 B2
    go_wp2_with fail
    refine Calls.mono (cP.out _ (hgH.out _ R2)) ?_
    rintro e w3 ⟨rfl, B3⟩
    obtain ⟨R3, G3⟩ := on.out _ _ R2 G2 B3
    obtain ⟨q1, q2⟩ := hcell.out _ R3
    go_wp2_with fail
    refine Calls.mono (cG.out _ _ R3) ?_
    rintro e w4 ⟨rfl, B4⟩
    exact ⟨rfl, rfl, B4⟩
end Go.Proofs.YtbojljmacheccaaGreatDoor.Ln

namespace Go.Proofs.YtbojljmacheccaaGreatDoor.Ln
open Go.RowKit Go.Shelf
attribute [local go_sem] Oper.semAt_some
set_option linter.unusedVariables false
set_option linter.unusedSimpArgs false
set_option maxRecDepth 100000
theorem RdL.other {w : World} {N : Nat} {s : ByteArray} {k : Nat} {W : World} (h : RdL w N s k W) (K i : Nat) (v : Value) (hK : K ≠ N) (hw : w.heap.size ≤ K) : RdL w N s k (W.setCell ⟨K, i, none⟩ v) := by
  have c : ∀ o, (W.setCell ⟨K, i, none⟩ v).cell? ⟨N, o, none⟩ = W.cell? ⟨N, o, none⟩ := fun o => World.cell?_setCell_other _ _ _ _ (by intro e; injection e; omega)
  have z : ∀ o, (W.setCell ⟨K, i, none⟩ v).frozen? ⟨N, o, none⟩ = W.frozen? ⟨N, o, none⟩ := fun o => by simp
  exact ⟨h.hN, by simpa using h.lt, h.bl.setCell (p := ⟨K, i, none⟩) hw _, by rw [c]; exact h.c0, by rw [c]; exact h.c1, by rw [z]; exact h.fz⟩
theorem grown_new {W W' : World} {r : Option Nat} (h : W.grownBy W' r) (K i : Nat) (v : Value) (hK : W.heap.size ≤ K) : W.grownBy (W'.setCell ⟨K, i, none⟩ v) r :=
  ⟨h.os, h.tape, h.output, by simpa using h.size, fun j hj hne => (Below.heap_setCell _ _ _ _ (by show j ≠ K; omega)).trans (h.block j hj hne)⟩
theorem grown_alloc (W : World) (o : Obj) (r : Option Nat) : W.grownBy (W.alloc o) r := ⟨rfl, rfl, rfl, by simp, fun j hj _ => Below.heap_alloc _ _ _ hj⟩
def tagO : Obj := .cells #[.string ⟨#[]⟩, .string ⟨#[]⟩] 102
def fldO : Obj := .cells #[.string ⟨#[]⟩, .int .i64 0] 86
def tagV (t : By × By) : Value := .agg #[.string (ba t.1), .string (ba t.2)]
def fldV (t : By × Int) : Value := .agg #[.string (ba t.1), .int .i64 t.2]
set_option maxHeartbeats 8000000 in
theorem tag_l (w : World) (N : Nat) (s : ByteArray) (k : Nat) (W : World) (h : RdL w N s k W) (hg : LT w) (hk : k ≤ s.size) (hs : s.size ≤ 1048576) : Calls Tryz.prog 117 #[.pointer (some ⟨N, 0, none⟩)] W fun e w' => EndL w N s W tagV (tagL unK s.data.toList k) e w' := by
  have hlen := lenB s
  have cW : Hid (∀ k W', RdL w N s k W' → k ≤ s.size → Calls Tryz.prog 115 #[.pointer (some ⟨N, 0, none⟩)] W' fun e w' => EndL w N s W' (fun t : By => .string (ba t)) (pieceL unK s.data.toList k) e w') := fun k W' r hk => word_l w N s k W' r hg hk hs
  have cM : Hid (∀ k W', RdL w N s k W' → k ≤ s.size → Calls Tryz.prog 118 #[.pointer (some ⟨N, 0, none⟩), .string ⟨#[61]⟩] W' fun e w' => (match mustL 61 s.data.toList k with | .ok k' => e = .returned undef ∧ RdL w N s k' w' ∧ W'.grownBy w' (some N) | .error p => e = .panicked (pnL p) ∧ Below w.heap.size w w')) := fun k W' r hk => must_l w N s 61 k W' r hk hs
  have h0 : RdL w N s k (W.alloc tagO) := h.below ((Below.refl _ W).alloc (Nat.le_refl _) _)
  have g0 : W.grownBy (W.alloc tagO) (some N) := grown_alloc _ _ _
  have b0 : (W.alloc tagO).heap[W.heap.size]? = some tagO := World.alloc_heap_new W _
  obtain ⟨K, hK⟩ : ∃ K, K = W.heap.size := ⟨_, rfl⟩
  have hKN : K ≠ N := by have := h.lt; omega
  have hKw : w.heap.size ≤ K := by have := h.bl.size; omega
  have keep : Hid (∀ w1 w2 : World, w1.heap[K]? = some tagO → w1.grownBy w2 (some N) → w2.heap[K]? = some tagO) := fun w1 w2 a g => (g.block K (Array.getElem?_eq_some_iff.1 a).1 (by simp; exact hKN)).trans a
  have cells : Hid (∀ w1 : World, w1.heap[K]? = some tagO → (w1.cell? ⟨K, 0, none⟩ = some (.string ⟨#[]⟩) ∧ w1.cell? ⟨K, 1, none⟩ = some (.string ⟨#[]⟩)) ∧ w1.frozen? ⟨K, 0, none⟩ = false ∧ w1.frozen? ⟨K, 1, none⟩ = false) := fun w1 a => by
    refine ⟨⟨?_, ?_⟩, ?_, ?_⟩ <;> simp [World.cell?, World.frozen?, a, tagO]
  rw [← hK] at b0
  have hW0 : Hid (W.alloc (.cells #[.string ⟨#[]⟩, .string ⟨#[]⟩] 102) = W.alloc tagO) := rfl
  obtain ⟨W0, hWW⟩ : ∃ W0, W.alloc tagO = W0 := ⟨_, rfl⟩
  rw [hWW] at h0 g0 b0 hW0
  obtain ⟨PST, hPST⟩ : ∃ PST : Ending → World → Prop, (fun e w' => EndL w N s W tagV (tagL unK s.data.toList k) e w') = PST := ⟨_, rfl⟩
  have hKH : Hid (W.heap.size = K) := hK.symm
  have h0H : Hid (RdL w N s k W0 ∧ W.grownBy W0 (some N) ∧ W0.heap[K]? = some tagO) := ⟨h0, g0, b0⟩
  have gn : Hid (∀ w1 i v, W.grownBy w1 (some N) → W.grownBy (w1.setCell ⟨K, i, none⟩ v) (some N)) := fun w1 i v g => grown_new g K i v (by omega)
  clear hWW h0 g0 b0 h
  cases h1 : pieceL unK s.data.toList k with
  | error p =>
    have e0 : tagL unK s.data.toList k = .error p := by unfold tagL; rw [h1]
    have f1 : Hid (∀ w1, Below w.heap.size w w1 → PST (.panicked (pnL p)) w1) := fun w1 b => by rw [← hPST, e0]; exact ⟨rfl, b⟩
    have c1 := cW.out k W0 h0H.out.1 hk
    rw [h1] at c1
    have c1H : Hid (Calls Tryz.prog 115 #[.pointer (some ⟨N, 0, none⟩)] W0 fun e w' => e = .panicked (pnL p) ∧ Below w.heap.size w w') := c1
    rw [hPST]
    clear c1 h1 e0 hPST hK
    go_enter Tryz.func117, Tryz.ntmps117
    go_wp2_with fail
    rw [hW0.out]
    refine Calls.mono c1H.out ?_
    rintro e w1 ⟨rfl, B1⟩
    exact ⟨rfl, f1.out _ B1⟩
  | ok x1 =>
    obtain ⟨a, k1⟩ := x1
    have k1l := (piece_le un_len (by rw [hlen]; exact hk) h1).2
    rw [hlen] at k1l
    have c1 := cW.out k W0 h0H.out.1 hk
    rw [h1] at c1
    have c1H : Hid (Calls Tryz.prog 115 #[.pointer (some ⟨N, 0, none⟩)] W0 fun e w' => e = .returned (.string (ba a)) ∧ RdL w N s k1 w' ∧ W0.grownBy w' (some N)) := c1
    cases h2 : mustL 61 s.data.toList k1 with
    | error p =>
      have e0 : tagL unK s.data.toList k = .error p := by unfold tagL; rw [h1]; dsimp only; rw [h2]
      have f1 : Hid (∀ w1, Below w.heap.size w w1 → PST (.panicked (pnL p)) w1) := fun w1 b => by rw [← hPST, e0]; exact ⟨rfl, b⟩
      have c2 : Hid (∀ W', RdL w N s k1 W' → Calls Tryz.prog 118 #[.pointer (some ⟨N, 0, none⟩), .string ⟨#[61]⟩] W' fun e w' => e = .panicked (pnL p) ∧ Below w.heap.size w w') := fun W' r => by
        have := cM.out k1 W' r k1l
        rw [h2] at this
        exact this
      rw [hPST]
      clear c1 h1 h2 e0 hPST hK
      go_enter Tryz.func117, Tryz.ntmps117
      go_wp2_with fail
      rw [hW0.out]
      refine Calls.mono c1H.out ?_
      rintro e w1 ⟨rfl, R1, G1⟩
      go_wp2_with fail
      refine Calls.mono (c2.out _ R1) ?_
      rintro e w2 ⟨rfl, B1⟩
      exact ⟨rfl, f1.out _ B1⟩
    | ok k2 =>
      have k2l := must_le h2
      rw [hlen] at k2l
      have c2 : Hid (∀ W', RdL w N s k1 W' → Calls Tryz.prog 118 #[.pointer (some ⟨N, 0, none⟩), .string ⟨#[61]⟩] W' fun e w' => e = .returned undef ∧ RdL w N s k2 w' ∧ W'.grownBy w' (some N)) := fun W' r => by
        have := cM.out k1 W' r k1l
        rw [h2] at this
        exact this
      cases h3 : pieceL unK s.data.toList k2 with
      | error p =>
        have e0 : tagL unK s.data.toList k = .error p := by unfold tagL; rw [h1]; dsimp only; rw [h2]; dsimp only; rw [h3]
        have f1 : Hid (∀ w1, Below w.heap.size w w1 → PST (.panicked (pnL p)) w1) := fun w1 b => by rw [← hPST, e0]; exact ⟨rfl, b⟩
        have c3 : Hid (∀ W', RdL w N s k2 W' → Calls Tryz.prog 115 #[.pointer (some ⟨N, 0, none⟩)] W' fun e w' => e = .panicked (pnL p) ∧ Below w.heap.size w w') := fun W' r => by
          have := cW.out k2 W' r (by omega)
          rw [h3] at this
          exact this
        rw [hPST]
        clear c1 h1 h2 h3 e0 hPST hK k2l
        go_enter Tryz.func117, Tryz.ntmps117
        go_wp2_with fail
        rw [hW0.out]
        refine Calls.mono c1H.out ?_
        rintro e w1 ⟨rfl, R1, G1⟩
        go_wp2_with fail
        refine Calls.mono (c2.out _ R1) ?_
        rintro e w2 ⟨rfl, R2, G2⟩
        go_wp2_with fail
        refine Calls.mono (c3.out _ R2) ?_
        rintro e w3 ⟨rfl, B1⟩
        exact ⟨rfl, f1.out _ B1⟩
      | ok x3 =>
        obtain ⟨b, k3⟩ := x3
        have e0 : tagL unK s.data.toList k = .ok ((a, b), k3) := by unfold tagL; rw [h1]; dsimp only; rw [h2]; dsimp only; rw [h3]
        have c3 : Hid (∀ W', RdL w N s k2 W' → Calls Tryz.prog 115 #[.pointer (some ⟨N, 0, none⟩)] W' fun e w' => e = .returned (.string (ba b)) ∧ RdL w N s k3 w' ∧ W'.grownBy w' (some N)) := fun W' r => by
          have := cW.out k2 W' r (by omega)
          rw [h3] at this
          exact this
        have f1 : Hid (∀ w1, RdL w N s k3 w1 → W.grownBy w1 (some N) → PST (.returned (.agg #[.string (ba a), .string (ba b)])) ((w1.setCell ⟨K, 0, none⟩ (.string (ba a))).setCell ⟨K, 1, none⟩ (.string (ba b)))) := fun w1 r g => by
          rw [← hPST, e0]
          exact ⟨rfl, (r.other K 0 _ hKN hKw).other K 1 _ hKN hKw, gn.out _ _ _ (gn.out _ _ _ g)⟩
        rw [hPST]
        generalize ba a = A1 at *
        generalize ba b = B1 at *
        clear c1 h1 h2 h3 e0 hPST hK k2l
        go_enter Tryz.func117, Tryz.ntmps117
        go_wp2_with fail
        rw [hW0.out]
        refine Calls.mono c1H.out ?_
        rintro e w1 ⟨rfl, R1, G1⟩
        go_wp2_with fail
        refine Calls.mono (c2.out _ R1) ?_
        rintro e w2 ⟨rfl, R2, G2⟩
        go_wp2_with fail
        refine Calls.mono (c3.out _ R2) ?_
        rintro e w3 ⟨rfl, R3, G3⟩
        rw [hKH.out]
        have b3 := keep.out _ _ (keep.out _ _ (keep.out _ _ h0H.out.2.2 G1) G2) G3
        obtain ⟨⟨z0, z1⟩, z2, z3⟩ := cells.out _ b3
        have F := f1.out w3 R3 (grown_trans (grown_trans (grown_trans h0H.out.2.1 G1) G2) G3)
        have FH : Hid (PST (.returned (.agg #[.string A1, .string B1])) ((w3.setCell ⟨K, 0, none⟩ (.string A1)).setCell ⟨K, 1, none⟩ (.string B1))) := F
        clear F R1 G1 R2 G2 R3 G3
        go_wp2_with fail
        simp [bodyPost, results, Tryz.results117, go_sem, z0, z1, z2, z3]
        exact FH.out
end Go.Proofs.YtbojljmacheccaaGreatDoor.Ln

namespace Go.Proofs.YtbojljmacheccaaGreatDoor.Ln
open Go.RowKit Go.Shelf
attribute [local go_sem] Oper.semAt_some
set_option linter.unusedVariables false
set_option linter.unusedSimpArgs false
set_option maxRecDepth 100000
set_option maxHeartbeats 8000000 in
theorem field_l (w : World) (N : Nat) (s : ByteArray) (k : Nat) (W : World) (h : RdL w N s k W) (hg : LT w) (hk : k ≤ s.size) (hs : s.size ≤ 1048576) : Calls Tryz.prog 119 #[.pointer (some ⟨N, 0, none⟩)] W fun e w' => EndL w N s W fldV (fieldL unK nvL s.data.toList k) e w' := by
  have hlen := lenB s
  have cW : Hid (∀ k W', RdL w N s k W' → k ≤ s.size → Calls Tryz.prog 115 #[.pointer (some ⟨N, 0, none⟩)] W' fun e w' => EndL w N s W' (fun t : By => .string (ba t)) (pieceL unK s.data.toList k) e w') := fun k W' r hk => word_l w N s k W' r hg hk hs
  have cN : Hid (∀ k W', RdL w N s k W' → k ≤ s.size → Calls Tryz.prog 120 #[.pointer (some ⟨N, 0, none⟩)] W' fun e w' => EndL w N s W' (fun v : Int => .int .i64 v) (numL nvL s.data.toList k) e w') := fun k W' r hk => number_l w N s k W' r hg hk hs
  have cM : Hid (∀ c k W', RdL w N s k W' → k ≤ s.size → Calls Tryz.prog 118 #[.pointer (some ⟨N, 0, none⟩), .string ⟨#[c]⟩] W' fun e w' => (match mustL c s.data.toList k with | .ok k' => e = .returned undef ∧ RdL w N s k' w' ∧ W'.grownBy w' (some N) | .error p => e = .panicked (pnL p) ∧ Below w.heap.size w w')) := fun c k W' r hk => must_l w N s c k W' r hk hs
  have h0 : RdL w N s k (W.alloc fldO) := h.below ((Below.refl _ W).alloc (Nat.le_refl _) _)
  have g0 : W.grownBy (W.alloc fldO) (some N) := grown_alloc _ _ _
  have b0 : (W.alloc fldO).heap[W.heap.size]? = some fldO := World.alloc_heap_new W _
  obtain ⟨K, hK⟩ : ∃ K, K = W.heap.size := ⟨_, rfl⟩
  have hKN : K ≠ N := by have := h.lt; omega
  have hKw : w.heap.size ≤ K := by have := h.bl.size; omega
  have keep : Hid (∀ w1 w2 : World, w1.heap[K]? = some fldO → w1.grownBy w2 (some N) → w2.heap[K]? = some fldO) := fun w1 w2 a g => (g.block K (Array.getElem?_eq_some_iff.1 a).1 (by simp; exact hKN)).trans a
  have cells : Hid (∀ w1 : World, w1.heap[K]? = some fldO → (w1.cell? ⟨K, 0, none⟩ = some (.string ⟨#[]⟩) ∧ w1.cell? ⟨K, 1, none⟩ = some (.int .i64 0)) ∧ w1.frozen? ⟨K, 0, none⟩ = false ∧ w1.frozen? ⟨K, 1, none⟩ = false) := fun w1 a => by
    refine ⟨⟨?_, ?_⟩, ?_, ?_⟩ <;> simp [World.cell?, World.frozen?, a, fldO]
  rw [← hK] at b0
  have hW0 : Hid (W.alloc (.cells #[.string ⟨#[]⟩, .int .i64 0] 86) = W.alloc fldO) := rfl
  obtain ⟨W0, hWW⟩ : ∃ W0, W.alloc fldO = W0 := ⟨_, rfl⟩
  rw [hWW] at h0 g0 b0 hW0
  obtain ⟨PST, hPST⟩ : ∃ PST : Ending → World → Prop, (fun e w' => EndL w N s W fldV (fieldL unK nvL s.data.toList k) e w') = PST := ⟨_, rfl⟩
  have hKH : Hid (W.heap.size = K) := hK.symm
  have h0H : Hid (RdL w N s k W0 ∧ W.grownBy W0 (some N) ∧ W0.heap[K]? = some fldO) := ⟨h0, g0, b0⟩
  have gn : Hid (∀ w1 i v, W.grownBy w1 (some N) → W.grownBy (w1.setCell ⟨K, i, none⟩ v) (some N)) := fun w1 i v g => grown_new g K i v (by omega)
  clear hWW h0 g0 b0 h
  cases h1 : pieceL unK s.data.toList k with
  | error p =>
    have e0 : fieldL unK nvL s.data.toList k = .error p := by unfold fieldL; rw [h1]
    have f1 : Hid (∀ w1, Below w.heap.size w w1 → PST (.panicked (pnL p)) w1) := fun w1 b => by rw [← hPST, e0]; exact ⟨rfl, b⟩
    have c1 : Hid (∀ W', RdL w N s k W' → Calls Tryz.prog 115 #[.pointer (some ⟨N, 0, none⟩)] W' fun e w' => e = .panicked (pnL p) ∧ Below w.heap.size w w') := fun W' r => by
      have := cW.out k W' r hk
      rw [h1] at this
      exact this
    rw [hPST]
    clear h1 e0 hPST hK 
    go_enter Tryz.func119, Tryz.ntmps119
    go_wp2_with fail
    rw [hW0.out]
    refine Calls.mono (c1.out _ h0H.out.1) ?_
    rintro e wz ⟨rfl, B1⟩
    exact ⟨rfl, f1.out _ B1⟩
  | ok x1 =>
    obtain ⟨a, k1⟩ := x1
    have k1l := (piece_le un_len (by rw [hlen]; exact hk) h1).2
    rw [hlen] at k1l
    have c1 : Hid (∀ W', RdL w N s k W' → Calls Tryz.prog 115 #[.pointer (some ⟨N, 0, none⟩)] W' fun e w' => e = .returned (.string (ba a)) ∧ RdL w N s k1 w' ∧ W'.grownBy w' (some N)) := fun W' r => by
      have := cW.out k W' r hk
      rw [h1] at this
      exact this
    cases h2 : mustL 61 s.data.toList k1 with
    | error p =>
      have e0 : fieldL unK nvL s.data.toList k = .error p := by unfold fieldL; rw [h1]; dsimp only; rw [h2]
      have f1 : Hid (∀ w1, Below w.heap.size w w1 → PST (.panicked (pnL p)) w1) := fun w1 b => by rw [← hPST, e0]; exact ⟨rfl, b⟩
      have c2 : Hid (∀ W', RdL w N s k1 W' → Calls Tryz.prog 118 #[.pointer (some ⟨N, 0, none⟩), .string ⟨#[61]⟩] W' fun e w' => e = .panicked (pnL p) ∧ Below w.heap.size w w') := fun W' r => by
        have := cM.out 61 k1 W' r k1l
        rw [h2] at this
        exact this
      rw [hPST]
      clear h1 h2 e0 hPST hK k1l
      go_enter Tryz.func119, Tryz.ntmps119
      go_wp2_with fail
      rw [hW0.out]
      refine Calls.mono (c1.out _ h0H.out.1) ?_
      rintro e w1 ⟨rfl, R1, G1⟩
      go_wp2_with fail
      refine Calls.mono (c2.out _ R1) ?_
      rintro e wz ⟨rfl, B1⟩
      exact ⟨rfl, f1.out _ B1⟩
    | ok k2 =>
      have k2l : k2 ≤ s.size := by have := must_le h2; rw [hlen] at this; omega
      have c2 : Hid (∀ W', RdL w N s k1 W' → Calls Tryz.prog 118 #[.pointer (some ⟨N, 0, none⟩), .string ⟨#[61]⟩] W' fun e w' => e = .returned undef ∧ RdL w N s k2 w' ∧ W'.grownBy w' (some N)) := fun W' r => by
        have := cM.out 61 k1 W' r k1l
        rw [h2] at this
        exact this
      cases h3 : numL nvL s.data.toList k2 with
      | error p =>
        have e0 : fieldL unK nvL s.data.toList k = .error p := by unfold fieldL; rw [h1]; dsimp only; rw [h2]; dsimp only; rw [h3]
        have f1 : Hid (∀ w1, Below w.heap.size w w1 → PST (.panicked (pnL p)) w1) := fun w1 b => by rw [← hPST, e0]; exact ⟨rfl, b⟩
        have c3 : Hid (∀ W', RdL w N s k2 W' → Calls Tryz.prog 120 #[.pointer (some ⟨N, 0, none⟩)] W' fun e w' => e = .panicked (pnL p) ∧ Below w.heap.size w w') := fun W' r => by
          have := cN.out k2 W' r k2l
          rw [h3] at this
          exact this
        rw [hPST]
        clear h1 h2 h3 e0 hPST hK k1l k2l
        go_enter Tryz.func119, Tryz.ntmps119
        go_wp2_with fail
        rw [hW0.out]
        refine Calls.mono (c1.out _ h0H.out.1) ?_
        rintro e w1 ⟨rfl, R1, G1⟩
        go_wp2_with fail
        refine Calls.mono (c2.out _ R1) ?_
        rintro e w2 ⟨rfl, R2, G2⟩
        go_wp2_with fail
        refine Calls.mono (c3.out _ R2) ?_
        rintro e wz ⟨rfl, B1⟩
        exact ⟨rfl, f1.out _ B1⟩
      | ok x3 =>
        obtain ⟨v, k3⟩ := x3
        have k3l := (num_le (by rw [hlen]; exact k2l) h3).2
        rw [hlen] at k3l
        have c3 : Hid (∀ W', RdL w N s k2 W' → Calls Tryz.prog 120 #[.pointer (some ⟨N, 0, none⟩)] W' fun e w' => e = .returned (.int .i64 v) ∧ RdL w N s k3 w' ∧ W'.grownBy w' (some N)) := fun W' r => by
          have := cN.out k2 W' r k2l
          rw [h3] at this
          exact this
        cases h4 : mustL 105 s.data.toList k3 with
        | error p =>
          have e0 : fieldL unK nvL s.data.toList k = .error p := by unfold fieldL; rw [h1]; dsimp only; rw [h2]; dsimp only; rw [h3]; dsimp only; rw [h4]
          have f1 : Hid (∀ w1, Below w.heap.size w w1 → PST (.panicked (pnL p)) w1) := fun w1 b => by rw [← hPST, e0]; exact ⟨rfl, b⟩
          have c4 : Hid (∀ W', RdL w N s k3 W' → Calls Tryz.prog 118 #[.pointer (some ⟨N, 0, none⟩), .string ⟨#[105]⟩] W' fun e w' => e = .panicked (pnL p) ∧ Below w.heap.size w w') := fun W' r => by
            have := cM.out 105 k3 W' r k3l
            rw [h4] at this
            exact this
          rw [hPST]
          clear h1 h2 h3 h4 e0 hPST hK k1l k2l k3l
          go_enter Tryz.func119, Tryz.ntmps119
          go_wp2_with fail
          rw [hW0.out]
          refine Calls.mono (c1.out _ h0H.out.1) ?_
          rintro e w1 ⟨rfl, R1, G1⟩
          go_wp2_with fail
          refine Calls.mono (c2.out _ R1) ?_
          rintro e w2 ⟨rfl, R2, G2⟩
          go_wp2_with fail
          refine Calls.mono (c3.out _ R2) ?_
          rintro e w3 ⟨rfl, R3, G3⟩
          go_wp2_with fail
          refine Calls.mono (c4.out _ R3) ?_
          rintro e wz ⟨rfl, B1⟩
          exact ⟨rfl, f1.out _ B1⟩
        | ok k4 =>
          have k4l : k4 ≤ s.size := by have := must_le h4; rw [hlen] at this; omega
          have c4 : Hid (∀ W', RdL w N s k3 W' → Calls Tryz.prog 118 #[.pointer (some ⟨N, 0, none⟩), .string ⟨#[105]⟩] W' fun e w' => e = .returned undef ∧ RdL w N s k4 w' ∧ W'.grownBy w' (some N)) := fun W' r => by
            have := cM.out 105 k3 W' r k3l
            rw [h4] at this
            exact this
          have e0 : fieldL unK nvL s.data.toList k = .ok ((a, v), k4) := by unfold fieldL; rw [h1]; dsimp only; rw [h2]; dsimp only; rw [h3]; dsimp only; rw [h4]
          have f1 : Hid (∀ w1, RdL w N s k4 w1 → W.grownBy w1 (some N) → PST (.returned (.agg #[.string (ba a), .int .i64 v])) ((w1.setCell ⟨K, 0, none⟩ (.string (ba a))).setCell ⟨K, 1, none⟩ (.int .i64 v))) := fun w1 r g => by
            rw [← hPST, e0]
            exact ⟨rfl, (r.other K 0 _ hKN hKw).other K 1 _ hKN hKw, gn.out _ _ _ (gn.out _ _ _ g)⟩
          rw [hPST]
          generalize ba a = A1 at *
          clear h1 h2 h3 h4 e0 hPST hK k1l k2l k3l k4l
          go_enter Tryz.func119, Tryz.ntmps119
          go_wp2_with fail
          rw [hW0.out]
          refine Calls.mono (c1.out _ h0H.out.1) ?_
          rintro e w1 ⟨rfl, R1, G1⟩
          go_wp2_with fail
          refine Calls.mono (c2.out _ R1) ?_
          rintro e w2 ⟨rfl, R2, G2⟩
          go_wp2_with fail
          refine Calls.mono (c3.out _ R2) ?_
          rintro e w3 ⟨rfl, R3, G3⟩
          go_wp2_with fail
          refine Calls.mono (c4.out _ R3) ?_
          rintro e w4 ⟨rfl, R4, G4⟩
          have b3 := keep.out _ _ (keep.out _ _ (keep.out _ _ (keep.out _ _ h0H.out.2.2 G1) G2) G3) G4
          obtain ⟨⟨z0, z1⟩, z2, z3⟩ := cells.out _ b3
          have F := f1.out w4 R4 (grown_trans (grown_trans (grown_trans (grown_trans h0H.out.2.1 G1) G2) G3) G4)
          have FH : Hid (PST (.returned (.agg #[.string A1, .int .i64 v])) ((w4.setCell ⟨K, 0, none⟩ (.string A1)).setCell ⟨K, 1, none⟩ (.int .i64 v))) := F
          clear F R1 G1 R2 G2 R3 G3 R4 G4
          rw [hKH.out]
          go_wp2_with fail
          simp [bodyPost, results, Tryz.results119, go_sem, z0, z1, z2, z3]
          exact FH.out
end Go.Proofs.YtbojljmacheccaaGreatDoor.Ln

namespace Go.Proofs.YtbojljmacheccaaGreatDoor
open Go.RowKit Go.Shelf
set_option linter.unusedVariables false
set_option linter.unusedSimpArgs false
theorem tag_info : (Tryz.prog.info? 102).map (fun i => (i.zero, i.bytes, i.size)) = some (some (.agg #[.string ⟨#[]⟩, .string ⟨#[]⟩]), 32, 2) := by kernel_rfl
def encT : List TagP → List Value
  | [] => []
  | t :: r => [.string t.1, .string t.2] ++ encT r
theorem encT_append (a b : List TagP) : encT (a ++ b) = encT a ++ encT b := by
  induction a with
  | nil => rfl
  | cons s r ih => simp [encT, ih]
theorem encT_len (l : List TagP) : (encT l).length = l.length * 2 := by
  induction l with
  | nil => rfl
  | cons s r ih => simp only [encT, List.length_append, ih, List.length_cons, List.length_nil]; omega
theorem encT_one (l : List TagP) : ∀ u ∈ encT l, u.oneCell' = true := by
  induction l with
  | nil => intro u hu; cases hu
  | cons s r ih =>
    intro u hu
    simp only [encT, List.mem_append, List.mem_cons, List.not_mem_nil, or_false] at hu
    rcases hu with (rfl | rfl) | hu
    · rfl
    · rfl
    · exact ih u hu
theorem encT_get (l : List TagP) (i : Nat) (s : TagP) (h : l[i]? = some s) : (encT l)[i * 2]? = some (.string s.1) ∧ (encT l)[i * 2 + 1]? = some (.string s.2) := by
  induction l generalizing i with
  | nil => simp at h
  | cons a r ih =>
    cases i with
    | zero => simp at h; subst h; simp [encT]
    | succ i =>
      simp at h
      have := ih i h
      simp only [encT]
      rw [show (i + 1) * 2 = i * 2 + 2 by omega]
      simpa using this
theorem tag_add (b o j : Nat) : ((⟨b, o, none⟩ : Addr).add j) = ⟨b, o + j, none⟩ := by
  simp [Addr.add]
/-- a row of tags of one's own. -/
def OT (w : World) (B : Nat) (v : Value) (l : List TagP) : Prop := w.ownsRow B 102 2 v l.length (encT l)
theorem OT.tin {w : World} {B : Nat} {v : Value} {l : List TagP} (h : OT w B v l) : ∃ a cap, v = .slice a l.length cap ∧ l.length ≤ cap ∧ TgIn w a l := by
  rcases h.2 with ⟨e, e0⟩ | ⟨g, cap, cur, e1, _, hg, hc, _⟩
  · exact ⟨none, 0, by rw [e, e0], by omega, Or.inl (List.eq_nil_of_length_eq_zero e0)⟩
  · subst e1
    have hcs := World.ownsRow.cells h (g := g) rfl
    refine ⟨some ⟨g, 0, none⟩, cap, rfl, hc, Or.inr ⟨g, 0, rfl, (World.ownsRow.lt h g rfl).2, fun i s hs => ?_⟩⟩
    obtain ⟨e1, e2⟩ := encT_get l i s hs
    have k1 := hcs _ _ e1
    have k2 := hcs _ _ e2
    rw [tag_add, Nat.zero_add] at k1 k2
    rw [Nat.zero_add]
    exact ⟨k1, k2⟩
theorem OT.nil (w : World) (B : Nat) : OT w B (.slice none 0 0) [] := ⟨rfl, Or.inl ⟨rfl, rfl⟩⟩
theorem OT.below {w w' : World} {B C : Nat} {v : Value} {l : List TagP} (h : OT w B v l) (hb : Below C w w') (hC : w.heap.size ≤ C) : OT w' B v l := by
  refine ⟨h.1, ?_⟩
  rcases h.2 with h2 | ⟨g, cap, cur, e1, e2, e3, e4⟩
  · exact Or.inl h2
  · exact Or.inr ⟨g, cap, cur, e1, e2, by rw [hb.block g (Nat.lt_of_lt_of_le (Array.getElem?_eq_some_iff.1 e3).1 hC)]; exact e3, e4⟩
theorem OT.bound {w : World} {B : Nat} {v : Value} {l : List TagP} (h : OT w B v l) {k : Nat} (e : v.ownBlock = some k) : B ≤ k ∧ k < w.heap.size := by
  rcases h.2 with ⟨e1, e0⟩ | ⟨g, cap, cur, e1, _, hg, hc, _⟩
  · rw [e1] at e; cases e
  · subst e1
    have : g = k := by simpa [Value.ownBlock] using e
    subst this
    exact World.ownsRow.lt h g rfl
theorem TgIn.news {w : World} {ad : Addr} {l : List TagP} (h : TgIn w (some ad) l) : (∀ j u, (encT l)[j]? = some u → w.cell? (ad.add j) = some u) := by
  rcases h with e | ⟨b, off, e, hb, hc⟩
  · subst e; simp [encT]
  · cases e
    intro j u hj
    have hj2 : j < l.length * 2 := by rw [← encT_len]; exact (List.getElem?_eq_some_iff.1 hj).1
    obtain ⟨s, hs⟩ : ∃ s, l[j / 2]? = some s := ⟨_, List.getElem?_eq_getElem (by omega)⟩
    obtain ⟨e1, e2⟩ := encT_get l _ s hs
    obtain ⟨c1, c2⟩ := hc _ s hs
    rw [tag_add]
    rcases (by omega : j % 2 = 0 ∨ j % 2 = 1) with q | q
    · rw [show j = j / 2 * 2 by omega] at hj ⊢
      rw [e1] at hj
      rw [c1, ← hj]
    · rw [show j = j / 2 * 2 + 1 by omega] at hj ⊢
      rw [e2] at hj
      rw [← Nat.add_assoc, c2, ← hj]
theorem app_noT (W : World) (a ad : Option Addr) (n cap c : Nat) (h : n ≤ cap) : (Builtin.append_ #[29, 29] 29 #[.slice a n cap, .slice ad 0 c]).run Tryz.prog W = .ok (.slice a n cap) W := by
  obtain ⟨i, i1, i0⟩ := Option.map_eq_some_iff.1 tag_info
  cases a <;> cases ad <;> simp [Builtin.append_, run_underlying Tryz.underlying29, sizeOf, typeInfo, i1, Builtin.lenOf, Builtin.firstCells, storeCells, loadCells, loadCellsFrom, h]
/-- tags appended, or none. -/
theorem appT (W : World) (B : Nat) (v : Value) (l f : List TagP) (h : OT W B v l) (hB : B ≤ W.heap.size) (a : Option Addr) (c : Nat) (hf : TgIn W a f) (hn : l.length + f.length ≤ 4398046511104) :
    ∃ v' w', (Builtin.append_ #[29, 29] 29 #[v, .slice a f.length c]).run Tryz.prog W = .ok v' w' ∧ OT w' B v' (l ++ f) ∧ W.grownBy w' v.ownBlock ∧ (v'.ownBlock = v.ownBlock ∨ v'.ownBlock = some W.heap.size) := by
  rcases Nat.eq_zero_or_pos f.length with h0 | h0
  · have e := List.eq_nil_of_length_eq_zero h0
    subst e
    obtain ⟨a1, c1, e1, hc1, _⟩ := h.tin
    exact ⟨v, W, by rw [e1]; exact app_noT _ _ _ _ _ _ hc1, by rw [List.append_nil]; exact h, ⟨rfl, rfl, rfl, Nat.le_refl _, fun k hk hne => rfl⟩, Or.inl rfl⟩
  · have hf' := hf
    rcases hf with e | ⟨b, off, e, hb, hc⟩
    · rw [e] at h0; simp at h0
    · subst e
      obtain ⟨i, i1, i0⟩ := Option.map_eq_some_iff.1 tag_info
      have i2 : i.zero = some (.agg #[.string ⟨#[]⟩, .string ⟨#[]⟩]) := congrArg (·.1) i0
      have i3 : i.bytes = 32 := congrArg (·.2.1) i0
      have i4 : i.size = 2 := congrArg (·.2.2) i0
      have hml : maxLen = 9223372036854775807 := by decide
      obtain ⟨g, cap, w', hr, own, gr, hat, hlt⟩ := run_append_lies (P := Tryz.prog) W 29 29 B 102 i (.agg #[.string ⟨#[]⟩, .string ⟨#[]⟩]) 2 32 Tryz.underlying29 i1 i2 i4 i3 rfl (by omega) v l.length (encT l) h ⟨b, off, none⟩ f.length c (encT f) (encT_len _) hf'.news (encT_one _) h0 (by omega) (by omega) hB _ rfl
      refine ⟨_, w', hr, ?_, gr, ?_⟩
      · unfold OT; rw [List.length_append, encT_append]; exact own
      · rcases hat with e | e
        · exact Or.inl e.symm
        · subst e; exact Or.inr rfl
theorem grown_below {W w' : World} {B : Nat} {v : Value} {l : List TagP} (h : OT W B v l) (hB : B ≤ W.heap.size) (gr : W.grownBy w' v.ownBlock) : Below B W w' := (Below.refl B W).grown gr hB (fun k e => (h.bound e).1)
end Go.Proofs.YtbojljmacheccaaGreatDoor

namespace Go.Proofs.YtbojljmacheccaaGreatDoor.Ln
open Go.RowKit Go.Shelf
set_option linter.unusedVariables false
set_option linter.unusedSimpArgs false
abbrev FdP := ByteArray × Int
/-- fields that lie in memory. -/
def FdIn (w : World) (a : Option Addr) (l : List FdP) : Prop := l = [] ∨ ∃ b off, a = some ⟨b, off, none⟩ ∧ b < w.heap.size ∧ ∀ i t, l[i]? = some t → w.cell? ⟨b, off + i * 2, none⟩ = some (.string t.1) ∧ w.cell? ⟨b, off + i * 2 + 1, none⟩ = some (.int .i64 t.2)
theorem FdIn.below {w w' : World} {a : Option Addr} {l : List FdP} (h : FdIn w a l) (hB : Below w.heap.size w w') : FdIn w' a l := by
  rcases h with h | ⟨b, off, ha, hb, hc⟩
  · exact Or.inl h
  · refine Or.inr ⟨b, off, ha, by have := hB.size; omega, fun i t ht => ?_⟩
    rw [hB.cell (p := ⟨b, off + i * 2, none⟩) hb, hB.cell (p := ⟨b, off + i * 2 + 1, none⟩) hb]
    exact hc i t ht
theorem FdIn.at {w wr : World} {a : Option Addr} {l : List FdP} (h : FdIn w a l) (hB : Below w.heap.size w wr) {k : Nat} {t : FdP} (ht : l[k]? = some t) : ∃ b off, a = some ⟨b, off, none⟩ ∧ b < w.heap.size ∧ wr.cell? ⟨b, off + k * 2, none⟩ = some (.string t.1) ∧ wr.cell? ⟨b, off + k * 2 + 1, none⟩ = some (.int .i64 t.2) := by
  rcases h with h0 | ⟨b, off, e, hb, hc⟩
  · rw [h0] at ht; simp at ht
  · exact ⟨b, off, e, hb, by rw [hB.cell (p := ⟨b, off + k * 2, none⟩) hb]; exact (hc k t ht).1, by rw [hB.cell (p := ⟨b, off + k * 2 + 1, none⟩) hb]; exact (hc k t ht).2⟩
theorem FdIn.pre {w : World} {a : Option Addr} {l : List FdP} (h : FdIn w a l) (k : Nat) : FdIn w a (l.take k) := by
  rcases h with h | ⟨b, off, e, hb, hc⟩
  · exact Or.inl (by rw [h]; simp)
  · refine Or.inr ⟨b, off, e, hb, fun i t ht => hc i t ?_⟩
    rw [List.getElem?_take] at ht
    split at ht
    · exact ht
    · cases ht
/-- a point. -/
structure PtP where
  m : ByteArray
  t : List TagP
  f : List FdP
  tm : Int
/-- a point in memory: its tags at a, its fields at b. -/
def PtIn (w : World) (a b : Option Addr) (c : Nat) (p : PtP) : Prop := TgIn w a p.t ∧ p.t.length ≤ 4398046511104 ∧ FdIn w b p.f ∧ p.f.length ≤ 4611686018427387904 ∧ p.f.length ≤ c
theorem PtIn.below {w w' : World} {a b : Option Addr} {c : Nat} {p : PtP} (h : PtIn w a b c p) (hB : Below w.heap.size w w') : PtIn w' a b c p := ⟨h.1.below hB, h.2.1, h.2.2.1.below hB, h.2.2.2⟩
/-- a point in memory: four cells. -/
def PAt (w : World) (b o : Nat) (p : PtP) (ta : Option Addr) (tc : Nat) (fa : Option Addr) (fc : Nat) : Prop := w.cell? ⟨b, o, none⟩ = some (.string p.m) ∧ w.cell? ⟨b, o + 1, none⟩ = some (.slice ta p.t.length tc) ∧ w.cell? ⟨b, o + 2, none⟩ = some (.slice fa p.f.length fc) ∧ w.cell? ⟨b, o + 3, none⟩ = some (.int .i64 p.tm)
theorem PAt.below {w w' : World} {b o : Nat} {p : PtP} {ta fa : Option Addr} {tc fc C : Nat} (h : PAt w b o p ta tc fa fc) (hB : Below C w w') (hb : b < C) : PAt w' b o p ta tc fa fc := by
  obtain ⟨h1, h2, h3, h4⟩ := h
  exact ⟨by rw [hB.cell (p := ⟨b, o, none⟩) hb]; exact h1, by rw [hB.cell (p := ⟨b, o + 1, none⟩) hb]; exact h2, by rw [hB.cell (p := ⟨b, o + 2, none⟩) hb]; exact h3, by rw [hB.cell (p := ⟨b, o + 3, none⟩) hb]; exact h4⟩
/-- points that lie in memory. -/
def PsIn (w : World) (a : Option Addr) (l : List PtP) : Prop := l = [] ∨ ∃ b off, a = some ⟨b, off, none⟩ ∧ b < w.heap.size ∧ ∀ i p, l[i]? = some p → ∃ ta tc fa fc, PAt w b (off + i * 4) p ta tc fa fc ∧ PtIn w ta fa fc p
theorem PsIn.below {w w' : World} {a : Option Addr} {l : List PtP} (h : PsIn w a l) (hB : Below w.heap.size w w') : PsIn w' a l := by
  rcases h with h | ⟨b, off, ha, hb, hc⟩
  · exact Or.inl h
  · refine Or.inr ⟨b, off, ha, Nat.lt_of_lt_of_le hb hB.size, fun i x hx => ?_⟩
    obtain ⟨ta, tc, fa, fc, h1, h2⟩ := hc i x hx
    exact ⟨ta, tc, fa, fc, h1.below hB hb, h2.below hB⟩
theorem PsIn.at {w wr : World} {a : Option Addr} {l : List PtP} (h : PsIn w a l) (hB : Below w.heap.size w wr) {k : Nat} {p : PtP} (hx : l[k]? = some p) : ∃ b off ta tc fa fc, a = some ⟨b, off, none⟩ ∧ b < w.heap.size ∧ PAt wr b (off + k * 4) p ta tc fa fc ∧ ∀ W, Below w.heap.size w W → PAt W b (off + k * 4) p ta tc fa fc ∧ PtIn W ta fa fc p := by
  rcases h with h0 | ⟨b, off, e, hb, hc⟩
  · rw [h0] at hx; simp at hx
  · obtain ⟨ta, tc, fa, fc, h1, h2⟩ := hc k p hx
    exact ⟨b, off, ta, tc, fa, fc, e, hb, h1.below hB hb, fun W hW => ⟨h1.below hW hb, h2.below hW⟩⟩
theorem fd_info : (Tryz.prog.info? 86).map (fun i => (i.zero, i.bytes, i.size)) = some (some (.agg #[.string ⟨#[]⟩, .int .i64 0]), 24, 2) := by kernel_rfl
def encF : List FdP → List Value
  | [] => []
  | t :: r => [.string t.1, .int .i64 t.2] ++ encF r
theorem encF_append (a b : List FdP) : encF (a ++ b) = encF a ++ encF b := by
  induction a with
  | nil => rfl
  | cons s r ih => simp [encF, ih]
theorem encF_len (l : List FdP) : (encF l).length = l.length * 2 := by
  induction l with
  | nil => rfl
  | cons s r ih => simp only [encF, List.length_append, ih, List.length_cons, List.length_nil]; omega
theorem encF_one (l : List FdP) : ∀ u ∈ encF l, u.oneCell' = true := by
  induction l with
  | nil => intro u hu; cases hu
  | cons s r ih =>
    intro u hu
    simp only [encF, List.mem_append, List.mem_cons, List.not_mem_nil, or_false] at hu
    rcases hu with (rfl | rfl) | hu
    · rfl
    · rfl
    · exact ih u hu
theorem encF_get (l : List FdP) (i : Nat) (s : FdP) (h : l[i]? = some s) : (encF l)[i * 2]? = some (.string s.1) ∧ (encF l)[i * 2 + 1]? = some (.int .i64 s.2) := by
  induction l generalizing i with
  | nil => simp at h
  | cons a r ih =>
    cases i with
    | zero => simp at h; subst h; simp [encF]
    | succ i =>
      simp at h
      have := ih i h
      simp only [encF]
      rw [show (i + 1) * 2 = i * 2 + 2 by omega]
      simpa using this
/-- a row of fields of one's own. -/
def OF (w : World) (B : Nat) (v : Value) (l : List FdP) : Prop := w.ownsRow B 86 2 v l.length (encF l)
theorem OF.tin {w : World} {B : Nat} {v : Value} {l : List FdP} (h : OF w B v l) : ∃ a cap, v = .slice a l.length cap ∧ l.length ≤ cap ∧ FdIn w a l := by
  rcases h.2 with ⟨e, e0⟩ | ⟨g, cap, cur, e1, _, hg, hc, _⟩
  · exact ⟨none, 0, by rw [e, e0], by omega, Or.inl (List.eq_nil_of_length_eq_zero e0)⟩
  · subst e1
    have hcs := World.ownsRow.cells h (g := g) rfl
    refine ⟨some ⟨g, 0, none⟩, cap, rfl, hc, Or.inr ⟨g, 0, rfl, (World.ownsRow.lt h g rfl).2, fun i s hs => ?_⟩⟩
    obtain ⟨e1, e2⟩ := encF_get l i s hs
    have k1 := hcs _ _ e1
    have k2 := hcs _ _ e2
    rw [tag_add, Nat.zero_add] at k1 k2
    rw [Nat.zero_add]
    exact ⟨k1, k2⟩
theorem OF.nil (w : World) (B : Nat) : OF w B (.slice none 0 0) [] := ⟨rfl, Or.inl ⟨rfl, rfl⟩⟩
theorem OF.below {w w' : World} {B C : Nat} {v : Value} {l : List FdP} (h : OF w B v l) (hb : Below C w w') (hC : w.heap.size ≤ C) : OF w' B v l := by
  refine ⟨h.1, ?_⟩
  rcases h.2 with h2 | ⟨g, cap, cur, e1, e2, e3, e4⟩
  · exact Or.inl h2
  · exact Or.inr ⟨g, cap, cur, e1, e2, by rw [hb.block g (Nat.lt_of_lt_of_le (Array.getElem?_eq_some_iff.1 e3).1 hC)]; exact e3, e4⟩
theorem OF.bound {w : World} {B : Nat} {v : Value} {l : List FdP} (h : OF w B v l) {k : Nat} (e : v.ownBlock = some k) : B ≤ k ∧ k < w.heap.size := by
  rcases h.2 with ⟨e1, e0⟩ | ⟨g, cap, cur, e1, _, hg, hc, _⟩
  · rw [e1] at e; cases e
  · subst e1
    have : g = k := by simpa [Value.ownBlock] using e
    subst this
    exact World.ownsRow.lt h g rfl
theorem FdIn.news {w : World} {ad : Addr} {l : List FdP} (h : FdIn w (some ad) l) : (∀ j u, (encF l)[j]? = some u → w.cell? (ad.add j) = some u) := by
  rcases h with e | ⟨b, off, e, hb, hc⟩
  · subst e; simp [encF]
  · cases e
    intro j u hj
    have hj2 : j < l.length * 2 := by rw [← encF_len]; exact (List.getElem?_eq_some_iff.1 hj).1
    obtain ⟨s, hs⟩ : ∃ s, l[j / 2]? = some s := ⟨_, List.getElem?_eq_getElem (by omega)⟩
    obtain ⟨e1, e2⟩ := encF_get l _ s hs
    obtain ⟨c1, c2⟩ := hc _ s hs
    rw [tag_add]
    rcases (by omega : j % 2 = 0 ∨ j % 2 = 1) with q | q
    · rw [show j = j / 2 * 2 by omega] at hj ⊢
      rw [e1] at hj
      rw [c1, ← hj]
    · rw [show j = j / 2 * 2 + 1 by omega] at hj ⊢
      rw [e2] at hj
      rw [← Nat.add_assoc, c2, ← hj]
theorem app_noF (W : World) (a ad : Option Addr) (n cap c : Nat) (h : n ≤ cap) : (Builtin.append_ #[30, 30] 30 #[.slice a n cap, .slice ad 0 c]).run Tryz.prog W = .ok (.slice a n cap) W := by
  obtain ⟨i, i1, i0⟩ := Option.map_eq_some_iff.1 fd_info
  cases a <;> cases ad <;> simp [Builtin.append_, run_underlying Tryz.underlying30, sizeOf, typeInfo, i1, Builtin.lenOf, Builtin.firstCells, storeCells, loadCells, loadCellsFrom, h]
/-- fields appended, or none. -/
theorem appF (W : World) (B : Nat) (v : Value) (l f : List FdP) (h : OF W B v l) (hB : B ≤ W.heap.size) (a : Option Addr) (c : Nat) (hf : FdIn W a f) (hn : l.length + f.length ≤ 4398046511104) :
    ∃ v' w', (Builtin.append_ #[30, 30] 30 #[v, .slice a f.length c]).run Tryz.prog W = .ok v' w' ∧ OF w' B v' (l ++ f) ∧ W.grownBy w' v.ownBlock ∧ (v'.ownBlock = v.ownBlock ∨ v'.ownBlock = some W.heap.size) := by
  rcases Nat.eq_zero_or_pos f.length with h0 | h0
  · have e := List.eq_nil_of_length_eq_zero h0
    subst e
    obtain ⟨a1, c1, e1, hc1, _⟩ := h.tin
    exact ⟨v, W, by rw [e1]; exact app_noF _ _ _ _ _ _ hc1, by rw [List.append_nil]; exact h, ⟨rfl, rfl, rfl, Nat.le_refl _, fun k hk hne => rfl⟩, Or.inl rfl⟩
  · have hf' := hf
    rcases hf with e | ⟨b, off, e, hb, hc⟩
    · rw [e] at h0; simp at h0
    · subst e
      obtain ⟨i, i1, i0⟩ := Option.map_eq_some_iff.1 fd_info
      have i2 : i.zero = some (.agg #[.string ⟨#[]⟩, .int .i64 0]) := congrArg (·.1) i0
      have i3 : i.bytes = 24 := congrArg (·.2.1) i0
      have i4 : i.size = 2 := congrArg (·.2.2) i0
      have hml : maxLen = 9223372036854775807 := by decide
      obtain ⟨g, cap, w', hr, own, gr, hat, hlt⟩ := run_append_lies (P := Tryz.prog) W 30 30 B 86 i (.agg #[.string ⟨#[]⟩, .int .i64 0]) 2 24 Tryz.underlying30 i1 i2 i4 i3 rfl (by omega) v l.length (encF l) h ⟨b, off, none⟩ f.length c (encF f) (encF_len _) hf'.news (encF_one _) h0 (by omega) (by omega) hB _ rfl
      refine ⟨_, w', hr, ?_, gr, ?_⟩
      · unfold OF; rw [List.length_append, encF_append]; exact own
      · rcases hat with e | e
        · exact Or.inl e.symm
        · subst e; exact Or.inr rfl
theorem grown_belowF {W w' : World} {B : Nat} {v : Value} {l : List FdP} (h : OF W B v l) (hB : B ≤ W.heap.size) (gr : W.grownBy w' v.ownBlock) : Below B W w' := (Below.refl B W).grown gr hB (fun k e => (h.bound e).1)
theorem FdIn.grownW {w w' : World} {a : Option Addr} {l : List FdP} {row : Option Nat} (h : FdIn w a l) (hg : w.grownBy w' row) (hne : l ≠ [] → ∀ ad, a = some ad → row ≠ some ad.block) : FdIn w' a l := by
  by_cases e : l = []
  · exact Or.inl e
  · rcases h with h | ⟨b, off, ha, hb, hc⟩
    · exact absurd h e
    · have hk : w'.heap[b]? = w.heap[b]? := hg.block b hb (fun q => hne e _ ha q.symm)
      refine Or.inr ⟨b, off, ha, Nat.lt_of_lt_of_le hb hg.size, fun i t ht => ?_⟩
      obtain ⟨k1, k2⟩ := hc i t ht
      exact ⟨by rw [World.cell?_of_block (w := w) (a := ⟨b, off + i * 2, none⟩) hk]; exact k1, by rw [World.cell?_of_block (w := w) (a := ⟨b, off + i * 2 + 1, none⟩) hk]; exact k2⟩
/-- a plain point as one of texts, and back. -/
def ptL (p : PtP) : Pt := ⟨p.m.data.toList, p.t.map (fun t => (t.1.data.toList, t.2.data.toList)), p.f.map (fun f => (f.1.data.toList, f.2)), p.tm⟩
def bz (l : By) : ByteArray := ⟨l.toArray⟩
def ptB (p : Pt) : PtP := ⟨bz p.m, p.tags.map (fun t => (bz t.1, bz t.2)), p.fs.map (fun f => (bz f.1, f.2)), p.t⟩
theorem bz_of (s : ByteArray) : bz s.data.toList = s := by cases s; simp [bz]
theorem ptB_L (p : PtP) : ptB (ptL p) = p := by
  obtain ⟨m, ts, fs, t⟩ := p
  unfold ptL ptB
  simp [Function.comp_def, bz_of]
end Go.Proofs.YtbojljmacheccaaGreatDoor.Ln

namespace Go.Proofs.YtbojljmacheccaaGreatDoor

set_option linter.unusedVariables false
/-! ### a region whose last operation waits for all the others (a store into what they read): the others first, in whatever order, then it -/
/-- the post for the others: the last one may be run. -/
def lastQ (P : Program) (ops : Array Oper) (z : Nat) (Q : Exit → Act → World → Prop) : Exit → Act → World → Prop
  | .normal, a, w => wpOp P ops Q z (Q .normal) a w
  | e, a, w => Q e a w
theorem wpOp_lastQ {P : Program} {ops : Array Oper} {z i : Nat} {Q : Exit → Act → World → Prop} {K : Act → World → Prop} {a : Act} {w : World} (h : wpOp P ops (lastQ P ops z Q) i K a w) : wpOp P ops Q i K a w := by
  unfold wpOp at h ⊢
  cases ho : ops[i]? with
  | none => rw [ho] at h; exact h
  | some o =>
    rw [ho] at h
    exact h
/-- every edge leads to an earlier one. -/
def downB (md : Region.Mode) (ops : Array Oper) : Bool := (List.range ops.size).all fun j => match ops[j]? with
  | none => true
  | some o => o.after.all fun e => !Region.binds md e || decide (e.on < j)
/-- one waits for all the others. -/
def lastB (md : Region.Mode) (ops : Array Oper) (z : Nat) : Bool := match ops[z]? with
  | none => false
  | some o => (List.range ops.size).all fun j => decide (j = z) || o.after.any fun e => Region.binds md e && decide (e.on = j)
theorem down_of {md : Region.Mode} {ops : Array Oper} (h : downB md ops = true) {j : Nat} {o : Oper} (ho : ops[j]? = some o) {e : Edge} (he : e ∈ o.after) (hb : Region.binds md e = true) : e.on < j := by
  have hj : j < ops.size := (Array.getElem?_eq_some_iff.1 ho).1
  have h1 := List.all_eq_true.1 h j (List.mem_range.2 hj)
  simp only [ho] at h1
  have h2 := Array.all_eq_true'.1 h1 e he
  simpa [hb] using h2
theorem last_of {md : Region.Mode} {ops : Array Oper} {z : Nat} (h : lastB md ops z = true) : ∃ o, ops[z]? = some o ∧ ∀ j, j < ops.size → j ≠ z → ∃ e ∈ o.after, Region.binds md e = true ∧ e.on = j := by
  unfold lastB at h
  cases ho : ops[z]? with
  | none => rw [ho] at h; cases h
  | some o =>
    rw [ho] at h
    refine ⟨o, rfl, fun j hj hne => ?_⟩
    have h1 := List.all_eq_true.1 h j (List.mem_range.2 hj)
    simp only [decide_eq_false hne, Bool.false_or] at h1
    obtain ⟨e, he, h2⟩ := Array.any_eq_true'.1 h1
    simp only [Bool.and_eq_true, decide_eq_true_eq] at h2
    exact ⟨e, he, h2.1, h2.2⟩
/-- where one has not come up, some may come up. -/
theorem some_ready {md : Region.Mode} {ops : Array Oper} (hd : downB md ops = true) {listed : Array Bool} (hs : listed.size = ops.size) : ∀ (n j : Nat), j ≤ n → j < ops.size → listed.getD j true = false → ∃ i, i ∈ Region.ready md ops listed := by
  intro n
  induction n with
  | zero =>
    intro j hj hlt hl
    obtain rfl : j = 0 := by omega
    obtain ⟨o, ho⟩ : ∃ o, ops[0]? = some o := ⟨_, Array.getElem?_eq_getElem hlt⟩
    exact ⟨0, mem_ready.2 ⟨hl, o, ho, fun e he hb => absurd (down_of hd ho he hb) (by omega)⟩⟩
  | succ n ih =>
    intro j hj hlt hl
    obtain ⟨o, ho⟩ : ∃ o, ops[j]? = some o := ⟨_, Array.getElem?_eq_getElem hlt⟩
    by_cases hall : ∀ e ∈ o.after, Region.binds md e = true → listed.getD e.on false = true
    · exact ⟨j, mem_ready.2 ⟨hl, o, ho, hall⟩⟩
    · simp only [Classical.not_forall] at hall
      obtain ⟨e, he, hb, hne⟩ := hall
      have hdn := down_of hd ho he hb
      have hlt2 : e.on < ops.size := by omega
      refine ih e.on (by omega) hlt2 ?_
      have hg : e.on < listed.size := by omega
      rw [Array.getD_eq_getD_getElem?, Array.getElem?_eq_getElem hg] at hne ⊢
      simpa using hne
theorem wpAny_last {P : Program} {md : Region.Mode} {ops : Array Oper} {Q : Exit → Act → World → Prop} {z : Nat} (hd : downB md ops = true) (hz : lastB md ops z = true) :
    ∀ (fuel : Nat) (listed : Array Bool) (a : Act) (w : World), listed.size = ops.size → listed.getD z true = false → wpAny P md ops (lastQ P ops z Q) fuel (listed.setIfInBounds z true) a w → wpAny P md ops Q (fuel + 1) listed a w := by
  obtain ⟨oz, hoz, hwait⟩ := last_of hz
  have hzlt : z < ops.size := (Array.getElem?_eq_some_iff.1 hoz).1
  intro fuel
  induction fuel with
  | zero =>
    intro listed a w hs hl h
    obtain ⟨h1, h2⟩ := h
    obtain ⟨i, hi⟩ := some_ready hd hs z z (Nat.le_refl _) hzlt hl
    refine ⟨fun h0 => (by rw [h0] at hi; cases hi), fun j hj => ?_⟩
    by_cases e : j = z
    · subst e
      exact wpOp_mono (fun a' w' q => wpAny_done h1 q 0) h2
    · have := ready_mono hj e
      rw [h1] at this
      cases this
  | succ fuel ih =>
    intro listed a w hs hl h
    obtain ⟨h1, h2⟩ := h
    obtain ⟨i, hi⟩ := some_ready hd hs z z (Nat.le_refl _) hzlt hl
    refine ⟨fun h0 => (by rw [h0] at hi; cases hi), fun j hj => ?_⟩
    by_cases e : j = z
    · subst e
      have hnone : Region.ready md ops (listed.setIfInBounds j true) = [] := by
        refine List.eq_nil_iff_forall_not_mem.2 fun k hk => ?_
        obtain ⟨hk1, ok, hok, _⟩ := mem_ready.1 hk
        have hklt : k < ops.size := (Array.getElem?_eq_some_iff.1 hok).1
        by_cases hkz : k = j
        · subst hkz
          rw [Array.getD_eq_getD_getElem?, Array.getElem?_setIfInBounds_self] at hk1
          rw [if_pos (by omega)] at hk1
          simp at hk1
        · obtain ⟨_, oj, hoj, hall⟩ := mem_ready.1 hj
          rw [hoz] at hoj
          injection hoj with hoj
          subst hoj
          obtain ⟨e, he, hb, heq⟩ := hwait k hklt hkz
          have h3 := hall e he hb
          rw [heq] at h3
          have hg : k < listed.size := by omega
          rw [Array.getD_eq_getD_getElem?, Array.getElem?_setIfInBounds_ne (Ne.symm hkz), Array.getElem?_eq_getElem hg] at hk1
          rw [Array.getD_eq_getD_getElem?, Array.getElem?_eq_getElem hg] at h3
          simp at h3 hk1
          rw [h3] at hk1
          cases hk1
      exact wpOp_mono (fun a' w' q => wpAny_done hnone q _) (h1 hnone)
    · have h3 := wpOp_lastQ (h2 j (ready_mono hj e))
      refine wpOp_mono (fun a' w' q => ih (listed.setIfInBounds j true) a' w' (by simpa using hs) ?_ ?_) h3
      · rw [Array.getD_eq_getD_getElem?, Array.getElem?_setIfInBounds_ne e]
        rw [Array.getD_eq_getD_getElem?] at hl
        exact hl
      · rw [Array.setIfInBounds_comm _ _ (Ne.symm e)] at q
        exact q
/-- the beginning: the last one set aside. -/
theorem wp_region_last {P : Program} {ops : Array Oper} {Q : Exit → Act → World → Prop} {S : World → Prop} {id : Nat} {a : Act} {w : World} (z : Nat) (hm : P.follows .mixedOrders = true) (hd : downB .any ops = true) (hz : lastB .any ops z = true) (n : Nat) (hn : ops.size = n + 1) (hS : S w.drew)
    (h : S w.drew → wpAnyH P .any ops (lastQ P ops z Q) S n ((Array.replicate ops.size false).setIfInBounds z true) a w.drew) : (Code.region id ops true).wp P Q a w := by
  refine wp_region_any hm ?_
  rw [hn]
  obtain ⟨oz, hoz, _⟩ := last_of hz
  have hzlt : z < ops.size := (Array.getElem?_eq_some_iff.1 hoz).1
  refine wpAny_last hd hz n _ a _ (by simp [hn]) ?_ ?_
  · rw [Array.getD_eq_getD_getElem?, Array.getElem?_replicate, if_pos (by omega)]; rfl
  · rw [← hn]; exact wpAny_of_held _ _ _ _ (h hS)
/-- the last one, at the end. -/
theorem lastQ_run {P : Program} {ops : Array Oper} {Q : Exit → Act → World → Prop} {z : Nat} {o : Oper} {a : Act} {w : World} (ho : ops[z]? = some o)
    (h : ∀ K' : Act → World → Prop, Shut (∀ a w, Q .normal a w → K' a w) → if Region.wanted o (yielded ops a.tmps) = true then Oper.wp P o a w K' Q else K' (a.put o.dst undef) w) : lastQ P ops z Q .normal a w :=
  wpOp_step ho (fun K' hK => h K' hK)
end Go.Proofs.YtbojljmacheccaaGreatDoor

namespace Go.Proofs.YtbojljmacheccaaGreatDoor.Ln
open Go.RowKit Go.Shelf
set_option linter.unusedVariables false
set_option linter.unusedSimpArgs false
set_option maxRecDepth 100000
def ptO : Obj := .cells #[.string ⟨#[]⟩, .slice none 0 0, .slice none 0 0, .int .i64 0] 32
def tgB (t : By × By) : TagP := (ba t.1, ba t.2)
def fdB (f : By × Int) : FdP := (ba f.1, f.2)
theorem OT.keepW {w w' : World} {B : Nat} {v : Value} {l : List TagP} {r : Option Nat} (h : OT w B v l) (hg : w.grownBy w' r) (hne : ∀ g, v.ownBlock = some g → r ≠ some g) : OT w' B v l := by
  refine ⟨h.1, ?_⟩
  rcases h.2 with h2 | ⟨g, cap, cur, e1, e2, e3, e4⟩
  · exact Or.inl h2
  · exact Or.inr ⟨g, cap, cur, e1, e2, by rw [hg.block g (Array.getElem?_eq_some_iff.1 e3).1 (fun q => hne g (by rw [e1]; rfl) q.symm)]; exact e3, e4⟩
theorem OF.keepW {w w' : World} {B : Nat} {v : Value} {l : List FdP} {r : Option Nat} (h : OF w B v l) (hg : w.grownBy w' r) (hne : ∀ g, v.ownBlock = some g → r ≠ some g) : OF w' B v l := by
  refine ⟨h.1, ?_⟩
  rcases h.2 with h2 | ⟨g, cap, cur, e1, e2, e3, e4⟩
  · exact Or.inl h2
  · exact Or.inr ⟨g, cap, cur, e1, e2, by rw [hg.block g (Array.getElem?_eq_some_iff.1 e3).1 (fun q => hne g (by rw [e1]; rfl) q.symm)]; exact e3, e4⟩
theorem OT.boundW {w : World} {B : Nat} {v : Value} {l : List TagP} (h : OT w B v l) {k : Nat} (e : v.ownBlock = some k) : B ≤ k ∧ k < w.heap.size := by
  rcases h.2 with ⟨e1, e0⟩ | ⟨g, cap, cur, e1, _, hg, hc, _⟩
  · rw [e1] at e; cases e
  · subst e1
    have : g = k := by simpa [Value.ownBlock] using e
    subst this
    exact World.ownsRow.lt h g rfl
theorem grown_cellL {w w' : World} {N : Nat} (h : w.grownBy w' (some N)) {p : Addr} (hp : p.block < w.heap.size) (hne : p.block ≠ N) : w'.cell? p = w.cell? p := h.cell_far p hp (by simp; exact fun e => hne e)
theorem grown_frozenL {w w' : World} {N : Nat} (h : w.grownBy w' (some N)) {p : Addr} (hp : p.block < w.heap.size) (hne : p.block ≠ N) : w'.frozen? p = w.frozen? p := h.frozen_far p hp (by simp; exact fun e => hne e)
/-- while a line is read: the reader at N, the point at R, the result at w's end. -/
structure KL (w : World) (N R : Nat) (s m : ByteArray) (vt vf : Value) (tm : Int) (ta : List TagP) (fa : List FdP) (k : Nat) (W : World) : Prop where
  rd : RdL w N s k W
  hN : w.heap.size < N
  hR : N < R
  lt : R < W.heap.size
  r0 : W.cell? ⟨R, 0, none⟩ = some (.string m)
  r1 : W.cell? ⟨R, 1, none⟩ = some vt
  r2 : W.cell? ⟨R, 2, none⟩ = some vf
  r3 : W.cell? ⟨R, 3, none⟩ = some (.int .i64 tm)
  z1 : W.frozen? ⟨R, 1, none⟩ = false
  z2 : W.frozen? ⟨R, 2, none⟩ = false
  z3 : W.frozen? ⟨R, 3, none⟩ = false
  ms : W.heap[w.heap.size]? = some ptO
  ot : OT W (R + 1) vt ta
  of : OF W (R + 1) vf fa
  ap : ∀ b, vt.ownBlock = some b → vf.ownBlock ≠ some b
theorem KL.step {w : World} {N R : Nat} {s m : ByteArray} {vt vf : Value} {tm : Int} {ta : List TagP} {fa : List FdP} {k k' : Nat} {W W' : World} (h : KL w N R s m vt vf tm ta fa k W) (hr : RdL w N s k' W') (hg : W.grownBy W' (some N)) : KL w N R s m vt vf tm ta fa k' W' := by
  have hR := h.hR
  have hN := h.hN
  have hlt := h.lt
  have c : ∀ i, W'.cell? ⟨R, i, none⟩ = W.cell? ⟨R, i, none⟩ := fun i => grown_cellL hg (p := ⟨R, i, none⟩) hlt (by simp; omega)
  have z : ∀ i, W'.frozen? ⟨R, i, none⟩ = W.frozen? ⟨R, i, none⟩ := fun i => grown_frozenL hg (p := ⟨R, i, none⟩) hlt (by simp; omega)
  exact ⟨hr, hN, hR, Nat.lt_of_lt_of_le hlt hg.size, by rw [c]; exact h.r0, by rw [c]; exact h.r1, by rw [c]; exact h.r2, by rw [c]; exact h.r3, by rw [z]; exact h.z1, by rw [z]; exact h.z2, by rw [z]; exact h.z3, by rw [hg.block w.heap.size (by omega) (by simp; omega)]; exact h.ms, OT.keepW h.ot hg (fun g e q => by have := (OT.boundW h.ot e).1; injection q; omega), OF.keepW h.of hg (fun g e q => by have := (OF.bound h.of e).1; injection q; omega), h.ap⟩
/-- a cell of the point is set. -/
theorem KL.cell {w : World} {N R : Nat} {s m : ByteArray} {vt vf : Value} {tm : Int} {ta : List TagP} {fa : List FdP} {k : Nat} {W : World} (h : KL w N R s m vt vf tm ta fa k W) (i : Nat) (v : Value) :
    RdL w N s k (W.setCell ⟨R, i, none⟩ v) ∧ R < (W.setCell ⟨R, i, none⟩ v).heap.size ∧ (∀ j, j ≠ i → (W.setCell ⟨R, i, none⟩ v).cell? ⟨R, j, none⟩ = W.cell? ⟨R, j, none⟩) ∧ (∀ j, (W.setCell ⟨R, i, none⟩ v).frozen? ⟨R, j, none⟩ = W.frozen? ⟨R, j, none⟩) ∧ (W.setCell ⟨R, i, none⟩ v).heap[w.heap.size]? = some ptO ∧ OT (W.setCell ⟨R, i, none⟩ v) (R + 1) vt ta ∧ OF (W.setCell ⟨R, i, none⟩ v) (R + 1) vf fa := by
  have hR := h.hR
  have hN := h.hN
  have hg := grown_set W R i v
  refine ⟨h.rd.other R i v (by omega) (by omega), by simpa using h.lt, fun j hj => World.cell?_setCell_other _ _ _ _ (by intro e; injection e; omega), fun j => by simp, ?_, OT.keepW h.ot hg (fun g e q => by have := (OT.boundW h.ot e).1; injection q; omega), OF.keepW h.of hg (fun g e q => by have := (OF.bound h.of e).1; injection q; omega)⟩
  rw [Below.heap_setCell _ _ _ _ (by show w.heap.size ≠ R; omega)]; exact h.ms
theorem KL.time {w : World} {N R : Nat} {s m : ByteArray} {vt vf : Value} {tm : Int} {ta : List TagP} {fa : List FdP} {k : Nat} {W : World} (h : KL w N R s m vt vf tm ta fa k W) (t : Int) : KL w N R s m vt vf t ta fa k (W.setCell ⟨R, 3, none⟩ (.int .i64 t)) := by
  obtain ⟨a1, a2, a3, a4, a5, a6, a7⟩ := h.cell 3 (.int .i64 t)
  exact ⟨a1, h.hN, h.hR, a2, by rw [a3 0 (by omega)]; exact h.r0, by rw [a3 1 (by omega)]; exact h.r1, by rw [a3 2 (by omega)]; exact h.r2, World.cell?_setCell_same _ _ _ h.r3, by rw [a4]; exact h.z1, by rw [a4]; exact h.z2, by rw [a4]; exact h.z3, a5, a6, a7, h.ap⟩
/-- the tags have grown. -/
theorem KL.tags {w : World} {N R : Nat} {s m : ByteArray} {vt vt' vf : Value} {tm : Int} {ta ta' : List TagP} {fa : List FdP} {k : Nat} {W W1 : World} (h : KL w N R s m vt vf tm ta fa k W) (hg : W.grownBy W1 vt.ownBlock) (ho : OT W1 (R + 1) vt' ta') (hv : vt'.ownBlock = vt.ownBlock ∨ vt'.ownBlock = some W.heap.size) : W1.cell? ⟨R, 1, none⟩ = some vt ∧ W1.frozen? ⟨R, 1, none⟩ = false ∧ KL w N R s m vt' vf tm ta' fa k (W1.setCell ⟨R, 1, none⟩ vt') := by
  have hR := h.hR
  have hN := h.hN
  have hlt := h.lt
  have nb : ∀ j, j ≤ R → vt.ownBlock ≠ some j := fun j hj e => by have := (OT.boundW h.ot e).1; omega
  have c : ∀ i, W1.cell? ⟨R, i, none⟩ = W.cell? ⟨R, i, none⟩ := fun i => hg.cell_far ⟨R, i, none⟩ hlt (fun e => nb R (Nat.le_refl _) e.symm)
  have z : ∀ i, W1.frozen? ⟨R, i, none⟩ = W.frozen? ⟨R, i, none⟩ := fun i => hg.frozen_far ⟨R, i, none⟩ hlt (fun e => nb R (Nat.le_refl _) e.symm)
  have hb : Below (R + 1) W W1 := grown_below h.ot (by omega) hg
  have b1 : KL w N R s m vt' vf tm ta' fa k (W1.setCell ⟨R, 1, none⟩ vt') := by
    have rd1 : RdL w N s k W1 := by
      obtain ⟨x0, x1, x2, x3, x4, x5⟩ := h.rd
      exact ⟨x0, Nat.lt_of_lt_of_le x1 hb.size, x2.trans (hb.mono (by omega)), by rw [hb.cell (p := ⟨N, 0, none⟩) (by show N < _; omega)]; exact x3, by rw [hb.cell (p := ⟨N, 1, none⟩) (by show N < _; omega)]; exact x4, by rw [hb.frozen (p := ⟨N, 1, none⟩) (by show N < _; omega)]; exact x5⟩
    have hs := grown_set W1 R 1 vt'
    have rd2 := rd1.other R 1 vt' (by omega) (by omega)
    have of1 : OF W1 (R + 1) vf fa := OF.keepW h.of hg (fun g e q => h.ap g q e)
    have c2 : ∀ j, j ≠ 1 → (W1.setCell ⟨R, 1, none⟩ vt').cell? ⟨R, j, none⟩ = W.cell? ⟨R, j, none⟩ := fun j hj => (World.cell?_setCell_other _ _ _ _ (by intro e; injection e; omega)).trans (c j)
    have z2 : ∀ j, (W1.setCell ⟨R, 1, none⟩ vt').frozen? ⟨R, j, none⟩ = W.frozen? ⟨R, j, none⟩ := fun j => by rw [← z j]; simp
    exact ⟨rd2, hN, hR, by have := hb.size; simp; omega, by rw [c2 0 (by omega)]; exact h.r0, World.cell?_setCell_same _ _ _ (by rw [c]; exact h.r1), by rw [c2 2 (by omega)]; exact h.r2, by rw [c2 3 (by omega)]; exact h.r3, by rw [z2]; exact h.z1, by rw [z2]; exact h.z2, by rw [z2]; exact h.z3, by rw [Below.heap_setCell _ _ _ _ (by show w.heap.size ≠ R; omega), hb.block _ (by omega)]; exact h.ms, OT.keepW ho hs (fun g e q => by have := (OT.boundW ho e).1; injection q; omega), OF.keepW of1 hs (fun g e q => by have := (OF.bound of1 e).1; injection q; omega), fun b e q => by
      rcases hv with hv | hv
      · rw [hv] at e; exact h.ap b e q
      · rw [hv] at e; injection e with e; have := (OF.bound h.of q).2; omega⟩
  exact ⟨by rw [c]; exact h.r1, by rw [z]; exact h.z1, b1⟩
/-- the fields have grown. -/
theorem KL.flds {w : World} {N R : Nat} {s m : ByteArray} {vt vf vf' : Value} {tm : Int} {ta : List TagP} {fa fa' : List FdP} {k : Nat} {W W1 : World} (h : KL w N R s m vt vf tm ta fa k W) (hg : W.grownBy W1 vf.ownBlock) (ho : OF W1 (R + 1) vf' fa') (hv : vf'.ownBlock = vf.ownBlock ∨ vf'.ownBlock = some W.heap.size) : W1.cell? ⟨R, 2, none⟩ = some vf ∧ W1.frozen? ⟨R, 2, none⟩ = false ∧ KL w N R s m vt vf' tm ta fa' k (W1.setCell ⟨R, 2, none⟩ vf') := by
  have hR := h.hR
  have hN := h.hN
  have hlt := h.lt
  have nb : ∀ j, j ≤ R → vf.ownBlock ≠ some j := fun j hj e => by have := (OF.bound h.of e).1; omega
  have c : ∀ i, W1.cell? ⟨R, i, none⟩ = W.cell? ⟨R, i, none⟩ := fun i => hg.cell_far ⟨R, i, none⟩ hlt (fun e => nb R (Nat.le_refl _) e.symm)
  have z : ∀ i, W1.frozen? ⟨R, i, none⟩ = W.frozen? ⟨R, i, none⟩ := fun i => hg.frozen_far ⟨R, i, none⟩ hlt (fun e => nb R (Nat.le_refl _) e.symm)
  have hb : Below (R + 1) W W1 := grown_belowF h.of (by omega) hg
  have b1 : KL w N R s m vt vf' tm ta fa' k (W1.setCell ⟨R, 2, none⟩ vf') := by
    have rd1 : RdL w N s k W1 := by
      obtain ⟨x0, x1, x2, x3, x4, x5⟩ := h.rd
      exact ⟨x0, Nat.lt_of_lt_of_le x1 hb.size, x2.trans (hb.mono (by omega)), by rw [hb.cell (p := ⟨N, 0, none⟩) (by show N < _; omega)]; exact x3, by rw [hb.cell (p := ⟨N, 1, none⟩) (by show N < _; omega)]; exact x4, by rw [hb.frozen (p := ⟨N, 1, none⟩) (by show N < _; omega)]; exact x5⟩
    have hs := grown_set W1 R 2 vf'
    have rd2 := rd1.other R 2 vf' (by omega) (by omega)
    have ot1 : OT W1 (R + 1) vt ta := OT.keepW h.ot hg (fun g e q => h.ap g e q)
    have c2 : ∀ j, j ≠ 2 → (W1.setCell ⟨R, 2, none⟩ vf').cell? ⟨R, j, none⟩ = W.cell? ⟨R, j, none⟩ := fun j hj => (World.cell?_setCell_other _ _ _ _ (by intro e; injection e; omega)).trans (c j)
    have z2 : ∀ j, (W1.setCell ⟨R, 2, none⟩ vf').frozen? ⟨R, j, none⟩ = W.frozen? ⟨R, j, none⟩ := fun j => by rw [← z j]; simp
    exact ⟨rd2, hN, hR, by have := hb.size; simp; omega, by rw [c2 0 (by omega)]; exact h.r0, by rw [c2 1 (by omega)]; exact h.r1, World.cell?_setCell_same _ _ _ (by rw [c]; exact h.r2), by rw [c2 3 (by omega)]; exact h.r3, by rw [z2]; exact h.z1, by rw [z2]; exact h.z2, by rw [z2]; exact h.z3, by rw [Below.heap_setCell _ _ _ _ (by show w.heap.size ≠ R; omega), hb.block _ (by omega)]; exact h.ms, OT.keepW ot1 hs (fun g e q => by have := (OT.boundW ot1 e).1; injection q; omega), OF.keepW ho hs (fun g e q => by have := (OF.bound ho e).1; injection q; omega), fun b e q => by
      rcases hv with hv | hv
      · rw [hv] at q; exact h.ap b e q
      · rw [hv] at q; injection q with q; have := (OT.boundW h.ot e).2; omega⟩
  exact ⟨by rw [c]; exact h.r2, by rw [z]; exact h.z2, b1⟩
theorem KL.start (w : World) (s : ByteArray) (W : World) (m : ByteArray) (k N : Nat) (hN : w.heap.size < N) (hr : RdL w N s k W) (hm : W.heap[w.heap.size]? = some ptO) : KL w N W.heap.size s m (.slice none 0 0) (.slice none 0 0) 0 [] [] k (W.alloc (.cells #[.string m, .slice none 0 0, .slice none 0 0, .int .i64 0] 32)) where
  rd := hr.below ((Below.refl _ W).alloc (Nat.le_refl _) _)
  hN := hN
  hR := hr.lt
  lt := by simp
  r0 := by simp [go_sem]
  r1 := by simp [go_sem]
  r2 := by simp [go_sem]
  r3 := by simp [go_sem]
  z1 := by simp [go_sem]
  z2 := by simp [go_sem]
  z3 := by simp [go_sem]
  ms := by rw [Below.heap_alloc W _ _ (Array.getElem?_eq_some_iff.1 hm).1]; exact hm
  ot := OT.nil _ _
  of := OF.nil _ _
  ap := fun b e => by cases e
/-- one more tag: what the append runs to. -/
theorem KL.appT {w : World} {N R : Nat} {s m : ByteArray} {vt vf : Value} {tm : Int} {ta : List TagP} {fa : List FdP} {k : Nat} {W : World} (h : KL w N R s m vt vf tm ta fa k W) (t : TagP) (hn : ta.length ≤ 1048576) :
    ∃ v' we, (∀ W', W' = W.alloc (.cells #[.string t.1, .string t.2] 102) → (Builtin.append_ #[29, 29] 29 #[vt, .slice (some ⟨W.heap.size, 0, none⟩) 1 1]).run Tryz.prog W' = .ok v' we) ∧ we.cell? ⟨R, 1, none⟩ = some vt ∧ we.frozen? ⟨R, 1, none⟩ = false ∧ KL w N R s m v' vf tm (ta ++ [t]) fa k (we.setCell ⟨R, 1, none⟩ v') ∧ ∃ a n c, v' = .slice a n c := by
  have hb : Below W.heap.size W (W.alloc (.cells #[.string t.1, .string t.2] 102)) := (Below.refl _ W).alloc (Nat.le_refl _) _
  have KW : KL w N R s m vt vf tm ta fa k (W.alloc (.cells #[.string t.1, .string t.2] 102)) := h.step (h.rd.below hb) (grown_of_below _ hb)
  obtain ⟨v', we, hr, ho, hgw, hv⟩ := Go.Proofs.YtbojljmacheccaaGreatDoor.appT _ (R + 1) vt ta [t] KW.ot (by have := KW.lt; omega) (some ⟨W.heap.size, 0, none⟩) 1 (Or.inr ⟨W.heap.size, 0, rfl, by simp, fun i x hx => by
    cases i with
    | zero => simp at hx; subst hx; exact ⟨by simp [go_sem], by simp [go_sem]⟩
    | succ i => simp at hx⟩) (by simp; omega)
  obtain ⟨a, c, e, _⟩ := ho.tin
  obtain ⟨q1, q2, q3⟩ := KW.tags hgw ho hv
  exact ⟨v', we, fun W' e => by subst e; exact hr, q1, q2, q3, a, _, c, e⟩
theorem KL.appF {w : World} {N R : Nat} {s m : ByteArray} {vt vf : Value} {tm : Int} {ta : List TagP} {fa : List FdP} {k : Nat} {W : World} (h : KL w N R s m vt vf tm ta fa k W) (t : FdP) (hn : fa.length ≤ 1048576) :
    ∃ v' we, (∀ W', W' = W.alloc (.cells #[.string t.1, .int .i64 t.2] 86) → (Builtin.append_ #[30, 30] 30 #[vf, .slice (some ⟨W.heap.size, 0, none⟩) 1 1]).run Tryz.prog W' = .ok v' we) ∧ we.cell? ⟨R, 2, none⟩ = some vf ∧ we.frozen? ⟨R, 2, none⟩ = false ∧ KL w N R s m vt v' tm ta (fa ++ [t]) k (we.setCell ⟨R, 2, none⟩ v') ∧ ∃ a n c, v' = .slice a n c := by
  have hb : Below W.heap.size W (W.alloc (.cells #[.string t.1, .int .i64 t.2] 86)) := (Below.refl _ W).alloc (Nat.le_refl _) _
  have KW : KL w N R s m vt vf tm ta fa k (W.alloc (.cells #[.string t.1, .int .i64 t.2] 86)) := h.step (h.rd.below hb) (grown_of_below _ hb)
  obtain ⟨v', we, hr, ho, hgw, hv⟩ := Ln.appF _ (R + 1) vf fa [t] KW.of (by have := KW.lt; omega) (some ⟨W.heap.size, 0, none⟩) 1 (Or.inr ⟨W.heap.size, 0, rfl, by simp, fun i x hx => by
    cases i with
    | zero => simp at hx; subst hx; exact ⟨by simp [go_sem], by simp [go_sem]⟩
    | succ i => simp at hx⟩) (by simp; omega)
  obtain ⟨a, c, e, _⟩ := ho.tin
  obtain ⟨q1, q2, q3⟩ := KW.flds hgw ho hv
  exact ⟨v', we, fun W' e => by subst e; exact hr, q1, q2, q3, a, _, c, e⟩
end Go.Proofs.YtbojljmacheccaaGreatDoor.Ln
