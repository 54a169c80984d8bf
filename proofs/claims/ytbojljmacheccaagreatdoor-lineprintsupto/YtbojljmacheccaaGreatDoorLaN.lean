
import Derived.Test.YtbojljmacheccaaGreatDoorLaD
import Derived.Test.YtbojljmacheccaaGreatDoorBxA
import Derived.Laws.MakeOwn
import Derived.Test.YtbojljmacheccaaGreatDoorLaG
namespace Go.Proofs.YtbojljmacheccaaGreatDoor.Ln
open Go.RowKit Go.Shelf
attribute [local go_sem] Oper.semAt_some
set_option linter.unusedVariables false
set_option linter.unusedSimpArgs false
set_option maxRecDepth 100000
/-! ### rows of two cells an element, written by places. -/
structure T2 (H m : Nat) (F1 F2 : Nat → Value) (w1 wx : World) : Prop where
  c : ∀ j, j < m → wx.cell? ⟨H, j * 2, none⟩ = some (F1 j) ∧ wx.cell? ⟨H, j * 2 + 1, none⟩ = some (F2 j)
  z : ∀ j, j < m → wx.frozen? ⟨H, j * 2, none⟩ = false ∧ wx.frozen? ⟨H, j * 2 + 1, none⟩ = false
  b : Below H w1 wx
  sz : H < wx.heap.size
def updC (f : Nat → Value) (k : Nat) (v : Value) : Nat → Value := fun j => if j = k then v else f j
theorem far_set {w : World} {H a b : Nat} (v : Value) (h : ¬ a = b) : (w.setCell ⟨H, b, none⟩ v).cell? ⟨H, a, none⟩ = w.cell? ⟨H, a, none⟩ := World.cell?_setCell_other _ _ _ _ (by intro e; injection e with _ e _; exact h e.symm)
theorem T2.set {H m : Nat} {F1 F2 : Nat → Value} {w1 wx : World} (h : T2 H m F1 F2 w1 wx) (k : Nat) (hk : k < m) (x y : Value) : T2 H m (updC F1 k x) (updC F2 k y) w1 ((wx.setCell ⟨H, k * 2, none⟩ x).setCell ⟨H, k * 2 + 1, none⟩ y) := by
  refine ⟨fun j hj => ?_, fun j hj => ?_, (h.b.setCell (p := ⟨H, k * 2, none⟩) (Nat.le_refl _) _).setCell (p := ⟨H, k * 2 + 1, none⟩) (Nat.le_refl _) _, by simpa using h.sz⟩
  · obtain ⟨h1, h2⟩ := h.c j hj
    obtain ⟨k1, k2⟩ := h.c k hk
    unfold updC
    by_cases e : j = k
    · subst e
      rw [if_pos rfl, if_pos rfl]
      refine ⟨?_, ?_⟩
      · rw [far_set _ (by omega)]; exact World.cell?_setCell_same _ _ _ k1
      · exact World.cell?_setCell_same _ _ _ (by rw [far_set _ (by omega)]; exact k2)
    · rw [if_neg e, if_neg e, far_set _ (by omega), far_set _ (by omega), far_set _ (by omega), far_set _ (by omega)]
      exact ⟨h1, h2⟩
  · simpa using h.z j hj
theorem T2.ext {H m : Nat} {F1 F2 G1 G2 : Nat → Value} {w1 wx : World} (h : T2 H m F1 F2 w1 wx) (e : ∀ j, j < m → F1 j = G1 j ∧ F2 j = G2 j) : T2 H m G1 G2 w1 wx :=
  ⟨fun j hj => by rw [← (e j hj).1, ← (e j hj).2]; exact h.c j hj, h.z, h.b, h.sz⟩
theorem T2.below {H m : Nat} {F1 F2 : Nat → Value} {w1 wx wy : World} (h : T2 H m F1 F2 w1 wx) (hb : Below wx.heap.size wx wy) (hH : H ≤ w1.heap.size) : T2 H m F1 F2 w1 wy :=
  ⟨fun j hj => by rw [hb.cell (p := ⟨H, j * 2, none⟩) h.sz, hb.cell (p := ⟨H, j * 2 + 1, none⟩) h.sz]; exact h.c j hj, fun j hj => by rw [hb.frozen (p := ⟨H, j * 2, none⟩) h.sz, hb.frozen (p := ⟨H, j * 2 + 1, none⟩) h.sz]; exact h.z j hj, h.b.trans (hb.mono (Nat.le_of_lt h.sz)), Nat.lt_of_lt_of_le h.sz hb.size⟩
theorem made_get (z : Array Value) (n j : Nat) (v : Value) (h : j < n) (hv : z[j % z.size]! = v) : (madeCells z n)[j]? = some v := by
  unfold madeCells
  rw [Array.getElem?_map, Array.getElem?_range, if_pos h, ← hv]; rfl
theorem T2.start (w : World) (a b : Value) (t : TypeId) (m : Nat) : T2 w.heap.size m (fun _ => a) (fun _ => b) w (w.alloc (.cells (madeCells #[a, b] (m * 2)) t)) := by
  refine ⟨fun j hj => ⟨?_, ?_⟩, fun j hj => ⟨?_, ?_⟩, (Below.refl _ _).alloc (Nat.le_refl _) _, by simp⟩
  · rw [cell_of_row _ w.heap.size (j * 2) _ t (0, 0) (heap_alloc_new w _)]; exact made_get _ _ _ _ (by omega) (by simp)
  · rw [cell_of_row _ w.heap.size (j * 2 + 1) _ t (0, 0) (heap_alloc_new w _)]; exact made_get _ _ _ _ (by omega) (by simp [show (j * 2 + 1) % 2 = 1 by omega])
  · exact frozen_of_row _ w.heap.size _ _ t (heap_alloc_new w _)
  · exact frozen_of_row _ w.heap.size _ _ t (heap_alloc_new w _)
end Go.Proofs.YtbojljmacheccaaGreatDoor.Ln

namespace Go.Proofs.YtbojljmacheccaaGreatDoor.Ln
open Go.RowKit Go.Shelf
attribute [local go_sem] Oper.semAt_some
set_option linter.unusedVariables false
set_option linter.unusedSimpArgs false
set_option maxRecDepth 100000

/-! ### HandTags, KeptTags. -/
theorem make_Tag (n : Nat) (h : n ≤ 4398046511113) (w : World) : (Instr.makeSlice 29 (.int .i64 (n : Int)) (.int .i64 (n : Int))).run Tryz.prog w = .ok (.slice (some ⟨w.heap.size, 0, none⟩) n n) (w.alloc (.cells (madeCells #[.string ⟨#[]⟩, .string ⟨#[]⟩] (n * 2)) 102)) := by
  obtain ⟨i, i1, i0⟩ := Option.map_eq_some_iff.1 tag_info
  have i2 : i.zero = some (.agg #[.string ⟨#[]⟩, .string ⟨#[]⟩]) := congrArg (·.1) i0
  have i3 : i.bytes = 32 := congrArg (·.2.1) i0
  have i4 : i.size = 2 := congrArg (·.2.2) i0
  have := run_make (P := Tryz.prog) w 29 102 i (.agg #[.string ⟨#[]⟩, .string ⟨#[]⟩]) Tryz.underlying29 i1 i2 .i64 .i64 (n : Int) (n : Int) (by omega) (by omega) (by rw [i3]; omega) (by omega)
  rw [i4] at this
  simpa [Value.cells] using this
def h1Tag (l : List TagP) (k m : Nat) (j : Nat) : Value := if j < l.length then (if j < k then (match l[j]? with | some p => .string p.1 | none => .string ⟨#[]⟩) else .string ⟨#[]⟩) else if j < m then .string (Tx.mkT (700 + (j - l.length))) else .string ⟨#[]⟩
def h2Tag (l : List TagP) (k : Nat) (j : Nat) : Value := if j < k then (match l[j]? with | some p => .string p.2 | none => .string ⟨#[]⟩) else .string ⟨#[]⟩
/-- what HandTags gives. -/
abbrev HdTag (H : Nat) (l : List TagP) (w w' : World) : Prop := T2 H (l.length + 9) (h1Tag l l.length (l.length + 9)) (h2Tag l l.length) w w'
set_option maxHeartbeats 4000000 in
theorem handTags_any (l : List TagP) (a : Option Addr) (cap : Nat) (w : World) (ha : TgIn w a l) (hn : l.length ≤ 4398046511104) :
    Calls Tryz.prog 28 #[.slice a l.length cap] w fun e w' => e = .returned (.slice (some ⟨w.heap.size, 0, none⟩) l.length (l.length + 9)) ∧ HdTag w.heap.size l w w' := by
  obtain ⟨n, hn1⟩ : ∃ n, n = l.length := ⟨_, rfl⟩
  have nH : Hid (n = l.length) := hn1
  have hmk := make_Tag (n + 9) (by omega)
  have hmc : ((n + 9 : Nat) : Int) = (n : Int) + 9 := by omega
  rw [hmc] at hmk
  have aH : Hid (TgIn w a l) := ha
  have S0 : Hid (T2 w.heap.size (n + 9) (h1Tag l 0 n) (h2Tag l 0) w (w.alloc (.cells (madeCells #[.string ⟨#[]⟩, .string ⟨#[]⟩] ((n + 9) * 2)) 102))) := (T2.start w _ _ _ (n + 9)).ext fun j hj => by
    unfold h1Tag h2Tag
    rw [← hn1]
    by_cases c : j < n
    · simp [c]
    · simp [c]
  have wk : ∀ x : Nat, x ≤ n + 9 → Tx.GR w w := fun _ _ => Tx.GR.refl w
  have cT : Hid (∀ (m : Nat) (W : World), n ≤ m → m < n + 9 → Calls Tryz.prog 100 #[.int .i64 (700 + (m : Int) - (n : Int))] W fun e w' => e = .returned (.string (Tx.mkT (700 + (m - n)))) ∧ Below W.heap.size W w') := fun m W h1 h2 => by
    have e : (700 + (m : Int) - (n : Int)) = ((700 + (m - n) : Nat) : Int) := by omega
    rw [e]
    exact (Tx.text_any _ (by omega) W).mono fun e w' q => ⟨q.1, q.2.below⟩
  clear wk hmc
  rw [← hn1]
  have FIN : Hid (∀ wr, T2 w.heap.size (n + 9) (h1Tag l n (n + 9)) (h2Tag l n) w wr → HdTag w.heap.size l w wr) := fun wr h => by unfold HdTag; rw [← hn1]; exact h
  rw [← hn1] at hn
  clear ha hn1
  go_enter Tryz.func28, Tryz.ntmps28
  go_wp2_with fail
  clear hmk
  go_loopw [4] (fun i wr => ∃ (k : Nat), k ≤ n ∧ i = .int .i64 (k : Int) ∧ Hid (T2 w.heap.size (n + 9) (h1Tag l k n) (h2Tag l k) w wr)) (fun i _ => n - (intOf i).toNat)
  case atStart => exact ⟨0, Nat.zero_le _, rfl, S0⟩
  case round =>
    clear S0
    obtain ⟨k, hk, rfl, hR⟩ := hrel
    have k0 : (0 : Int) ≤ (k : Int) := by omega
    by_cases hlt : k < n
    · obtain ⟨p, hp⟩ : ∃ p, l[k]? = some p := ⟨_, List.getElem?_eq_getElem (by have := nH.out; omega)⟩
      obtain ⟨b, off, rfl, hb, x1, x2⟩ := TgIn.at aH.out hR.out.b hp
      have hltI : (k : Int) < (n : Int) := by omega
      have hlt9 : (k : Int) < (n : Int) + 9 := by omega
      have hR' := hR.out.set k (by omega) (.string p.1) (.string p.2)
      have hR2 : Hid (T2 w.heap.size (n + 9) (h1Tag l (k + 1) n) (h2Tag l (k + 1)) w ((wr.setCell ⟨w.heap.size, k * 2, none⟩ (.string p.1)).setCell ⟨w.heap.size, k * 2 + 1, none⟩ (.string p.2))) := hR'.ext fun j hj => by
        unfold updC h1Tag h2Tag
        rw [← nH.out]
        by_cases e : j = k
        · subst e; simp [hp, hlt]
        · rw [if_neg e, if_neg e]
          have e1 : (j < k + 1) = (j < k) := propext ⟨fun q => by omega, fun q => by omega⟩
          constructor <;> simp only [e1]
      obtain ⟨y1, y2⟩ := hR.out.c k (by omega)
      obtain ⟨y3, y4⟩ := hR.out.z k (by omega)
      have hl9 : w.heap.size < wr.heap.size := hR.out.sz
      have hbw : b < wr.heap.size := Nat.lt_of_lt_of_le hb hR.out.b.size
      have wi : IntKind.i64.wrap ((k : Int) + 1) = ((k + 1 : Nat) : Int) := IntWalk.i64_in _ (by omega)
      obtain ⟨p1, p2⟩ := p
      dsimp only at x1 x2 hR2
      clear hR' hp hR
      go_wp2_with fail
      go_roundw
      case rel => exact ⟨k + 1, by omega, by first | rfl | simp, hR2⟩
      case measure => simp [intOf]; omega
    · obtain rfl : k = n := by omega
      clear hlt hk
      go_wp2_with fail
      go_loopw [5] (fun i wr => ∃ (m : Nat), k ≤ m ∧ m ≤ k + 9 ∧ i = .int .i64 (m : Int) ∧ Hid (T2 w.heap.size (k + 9) (h1Tag l k m) (h2Tag l k) w wr)) (fun i _ => k + 9 - (intOf i).toNat)
      case atStart => exact ⟨k, Nat.le_refl _, by omega, rfl, hR⟩
      case round =>
        clear hR
        obtain ⟨m, hm1, hm2, rfl, hR⟩ := hrel
        have m0 : (0 : Int) ≤ (m : Int) := by omega
        by_cases hlt : m < k + 9
        · have hltI : (m : Int) < (k : Int) + 9 := by omega
          have wi : IntKind.i64.wrap ((m : Int) + 1) = ((m + 1 : Nat) : Int) := IntWalk.i64_in _ (by omega)
          have wj : IntKind.i64.wrap (700 + (m : Int)) = 700 + (m : Int) := IntWalk.i64_in _ (by omega)
          have wl : IntKind.i64.wrap (700 + (m : Int) - (k : Int)) = 700 + (m : Int) - (k : Int) := IntWalk.i64_in _ (by omega)
          have cT2 : Hid (Calls Tryz.prog 100 #[.int .i64 (700 + (m : Int) - (k : Int))] wr fun e w' => e = .returned (.string (Tx.mkT (700 + (m - k)))) ∧ Below wr.heap.size wr w') := cT.out m wr hm1 hlt
          go_wp2_with fail
          refine Calls.mono cT2.out ?_
          rintro e w2 ⟨rfl, B2⟩
          have h2 := hR.out.below B2 (Nat.le_refl _)
          have hR' := h2.set m hlt (.string (Tx.mkT (700 + (m - k)))) (.string ⟨#[]⟩)
          have hR2 : Hid (T2 w.heap.size (k + 9) (h1Tag l k (m + 1)) (h2Tag l k) w ((w2.setCell ⟨w.heap.size, m * 2, none⟩ (.string (Tx.mkT (700 + (m - k))))).setCell ⟨w.heap.size, m * 2 + 1, none⟩ (.string ⟨#[]⟩))) := hR'.ext fun j hj => by
            unfold updC h1Tag h2Tag
            rw [← nH.out]
            by_cases e : j = m
            · subst e; simp [Nat.not_lt.2 hm1]
            · rw [if_neg e, if_neg e]
              have e1 : (j < m + 1) = (j < m) := propext ⟨fun q => by omega, fun q => by omega⟩
              constructor <;> simp only [e1]
          obtain ⟨y1, y2⟩ := h2.c m hlt
          obtain ⟨y3, y4⟩ := h2.z m hlt
          have hl9 : w.heap.size < w2.heap.size := h2.sz
          clear hR' h2 hR B2 cT2 cT
          generalize Tx.mkT (700 + (m - k)) = tx at *
          go_wp2_with fail
          go_roundw
          case rel => exact ⟨m + 1, by omega, by omega, by first | rfl | simp, hR2⟩
          case measure => simp [intOf]; omega
        · obtain rfl : m = k + 9 := by omega
          have F := FIN.out wr hR.out
          clear hlt hR FIN
          go_wp2_with fail
          go_ret
          exact ⟨rfl, F⟩

/-! ### HandFields, KeptFields. -/
theorem make_Field (n : Nat) (h : n ≤ 4398046511113) (w : World) : (Instr.makeSlice 30 (.int .i64 (n : Int)) (.int .i64 (n : Int))).run Tryz.prog w = .ok (.slice (some ⟨w.heap.size, 0, none⟩) n n) (w.alloc (.cells (madeCells #[.string ⟨#[]⟩, .int .i64 0] (n * 2)) 86)) := by
  obtain ⟨i, i1, i0⟩ := Option.map_eq_some_iff.1 fd_info
  have i2 : i.zero = some (.agg #[.string ⟨#[]⟩, .int .i64 0]) := congrArg (·.1) i0
  have i3 : i.bytes = 24 := congrArg (·.2.1) i0
  have i4 : i.size = 2 := congrArg (·.2.2) i0
  have := run_make (P := Tryz.prog) w 30 86 i (.agg #[.string ⟨#[]⟩, .int .i64 0]) Tryz.underlying30 i1 i2 .i64 .i64 (n : Int) (n : Int) (by omega) (by omega) (by rw [i3]; omega) (by omega)
  rw [i4] at this
  simpa [Value.cells] using this
def h1Field (l : List FdP) (k m : Nat) (j : Nat) : Value := if j < l.length then (if j < k then (match l[j]? with | some p => .string p.1 | none => .string ⟨#[]⟩) else .string ⟨#[]⟩) else if j < m then .string (Tx.mkT (700 + (j - l.length))) else .string ⟨#[]⟩
def h2Field (l : List FdP) (k : Nat) (j : Nat) : Value := if j < k then (match l[j]? with | some p => .int .i64 p.2 | none => .int .i64 0) else .int .i64 0
/-- what HandFields gives. -/
abbrev HdField (H : Nat) (l : List FdP) (w w' : World) : Prop := T2 H (l.length + 9) (h1Field l l.length (l.length + 9)) (h2Field l l.length) w w'
set_option maxHeartbeats 4000000 in
theorem handFields_any (l : List FdP) (a : Option Addr) (cap : Nat) (w : World) (ha : FdIn w a l) (hn : l.length ≤ 4398046511104) :
    Calls Tryz.prog 29 #[.slice a l.length cap] w fun e w' => e = .returned (.slice (some ⟨w.heap.size, 0, none⟩) l.length (l.length + 9)) ∧ HdField w.heap.size l w w' := by
  obtain ⟨n, hn1⟩ : ∃ n, n = l.length := ⟨_, rfl⟩
  have nH : Hid (n = l.length) := hn1
  have hmk := make_Field (n + 9) (by omega)
  have hmc : ((n + 9 : Nat) : Int) = (n : Int) + 9 := by omega
  rw [hmc] at hmk
  have aH : Hid (FdIn w a l) := ha
  have S0 : Hid (T2 w.heap.size (n + 9) (h1Field l 0 n) (h2Field l 0) w (w.alloc (.cells (madeCells #[.string ⟨#[]⟩, .int .i64 0] ((n + 9) * 2)) 86))) := (T2.start w _ _ _ (n + 9)).ext fun j hj => by
    unfold h1Field h2Field
    rw [← hn1]
    by_cases c : j < n
    · simp [c]
    · simp [c]
  have wk : ∀ x : Nat, x ≤ n + 9 → Tx.GR w w := fun _ _ => Tx.GR.refl w
  have cT : Hid (∀ (m : Nat) (W : World), n ≤ m → m < n + 9 → Calls Tryz.prog 100 #[.int .i64 (700 + (m : Int) - (n : Int))] W fun e w' => e = .returned (.string (Tx.mkT (700 + (m - n)))) ∧ Below W.heap.size W w') := fun m W h1 h2 => by
    have e : (700 + (m : Int) - (n : Int)) = ((700 + (m - n) : Nat) : Int) := by omega
    rw [e]
    exact (Tx.text_any _ (by omega) W).mono fun e w' q => ⟨q.1, q.2.below⟩
  clear wk hmc
  rw [← hn1]
  have FIN : Hid (∀ wr, T2 w.heap.size (n + 9) (h1Field l n (n + 9)) (h2Field l n) w wr → HdField w.heap.size l w wr) := fun wr h => by unfold HdField; rw [← hn1]; exact h
  rw [← hn1] at hn
  clear ha hn1
  go_enter Tryz.func29, Tryz.ntmps29
  go_wp2_with fail
  clear hmk
  go_loopw [4] (fun i wr => ∃ (k : Nat), k ≤ n ∧ i = .int .i64 (k : Int) ∧ Hid (T2 w.heap.size (n + 9) (h1Field l k n) (h2Field l k) w wr)) (fun i _ => n - (intOf i).toNat)
  case atStart => exact ⟨0, Nat.zero_le _, rfl, S0⟩
  case round =>
    clear S0
    obtain ⟨k, hk, rfl, hR⟩ := hrel
    have k0 : (0 : Int) ≤ (k : Int) := by omega
    by_cases hlt : k < n
    · obtain ⟨p, hp⟩ : ∃ p, l[k]? = some p := ⟨_, List.getElem?_eq_getElem (by have := nH.out; omega)⟩
      obtain ⟨b, off, rfl, hb, x1, x2⟩ := FdIn.at aH.out hR.out.b hp
      have hltI : (k : Int) < (n : Int) := by omega
      have hlt9 : (k : Int) < (n : Int) + 9 := by omega
      have hR' := hR.out.set k (by omega) (.string p.1) (.int .i64 p.2)
      have hR2 : Hid (T2 w.heap.size (n + 9) (h1Field l (k + 1) n) (h2Field l (k + 1)) w ((wr.setCell ⟨w.heap.size, k * 2, none⟩ (.string p.1)).setCell ⟨w.heap.size, k * 2 + 1, none⟩ (.int .i64 p.2))) := hR'.ext fun j hj => by
        unfold updC h1Field h2Field
        rw [← nH.out]
        by_cases e : j = k
        · subst e; simp [hp, hlt]
        · rw [if_neg e, if_neg e]
          have e1 : (j < k + 1) = (j < k) := propext ⟨fun q => by omega, fun q => by omega⟩
          constructor <;> simp only [e1]
      obtain ⟨y1, y2⟩ := hR.out.c k (by omega)
      obtain ⟨y3, y4⟩ := hR.out.z k (by omega)
      have hl9 : w.heap.size < wr.heap.size := hR.out.sz
      have hbw : b < wr.heap.size := Nat.lt_of_lt_of_le hb hR.out.b.size
      have wi : IntKind.i64.wrap ((k : Int) + 1) = ((k + 1 : Nat) : Int) := IntWalk.i64_in _ (by omega)
      obtain ⟨p1, p2⟩ := p
      dsimp only at x1 x2 hR2
      clear hR' hp hR
      go_wp2_with fail
      go_roundw
      case rel => exact ⟨k + 1, by omega, by first | rfl | simp, hR2⟩
      case measure => simp [intOf]; omega
    · obtain rfl : k = n := by omega
      clear hlt hk
      go_wp2_with fail
      go_loopw [5] (fun i wr => ∃ (m : Nat), k ≤ m ∧ m ≤ k + 9 ∧ i = .int .i64 (m : Int) ∧ Hid (T2 w.heap.size (k + 9) (h1Field l k m) (h2Field l k) w wr)) (fun i _ => k + 9 - (intOf i).toNat)
      case atStart => exact ⟨k, Nat.le_refl _, by omega, rfl, hR⟩
      case round =>
        clear hR
        obtain ⟨m, hm1, hm2, rfl, hR⟩ := hrel
        have m0 : (0 : Int) ≤ (m : Int) := by omega
        by_cases hlt : m < k + 9
        · have hltI : (m : Int) < (k : Int) + 9 := by omega
          have wi : IntKind.i64.wrap ((m : Int) + 1) = ((m + 1 : Nat) : Int) := IntWalk.i64_in _ (by omega)
          have wj : IntKind.i64.wrap (700 + (m : Int)) = 700 + (m : Int) := IntWalk.i64_in _ (by omega)
          have wl : IntKind.i64.wrap (700 + (m : Int) - (k : Int)) = 700 + (m : Int) - (k : Int) := IntWalk.i64_in _ (by omega)
          have cT2 : Hid (Calls Tryz.prog 100 #[.int .i64 (700 + (m : Int) - (k : Int))] wr fun e w' => e = .returned (.string (Tx.mkT (700 + (m - k)))) ∧ Below wr.heap.size wr w') := cT.out m wr hm1 hlt
          go_wp2_with fail
          refine Calls.mono cT2.out ?_
          rintro e w2 ⟨rfl, B2⟩
          have h2 := hR.out.below B2 (Nat.le_refl _)
          have hR' := h2.set m hlt (.string (Tx.mkT (700 + (m - k)))) (.int .i64 0)
          have hR2 : Hid (T2 w.heap.size (k + 9) (h1Field l k (m + 1)) (h2Field l k) w ((w2.setCell ⟨w.heap.size, m * 2, none⟩ (.string (Tx.mkT (700 + (m - k))))).setCell ⟨w.heap.size, m * 2 + 1, none⟩ (.int .i64 0))) := hR'.ext fun j hj => by
            unfold updC h1Field h2Field
            rw [← nH.out]
            by_cases e : j = m
            · subst e; simp [Nat.not_lt.2 hm1]
            · rw [if_neg e, if_neg e]
              have e1 : (j < m + 1) = (j < m) := propext ⟨fun q => by omega, fun q => by omega⟩
              constructor <;> simp only [e1]
          obtain ⟨y1, y2⟩ := h2.c m hlt
          obtain ⟨y3, y4⟩ := h2.z m hlt
          have hl9 : w.heap.size < w2.heap.size := h2.sz
          clear hR' h2 hR B2 cT2 cT
          generalize Tx.mkT (700 + (m - k)) = tx at *
          go_wp2_with fail
          go_roundw
          case rel => exact ⟨m + 1, by omega, by omega, by first | rfl | simp, hR2⟩
          case measure => simp [intOf]; omega
        · obtain rfl : m = k + 9 := by omega
          have F := FIN.out wr hR.out
          clear hlt hR FIN
          go_wp2_with fail
          go_ret
          exact ⟨rfl, F⟩
end Go.Proofs.YtbojljmacheccaaGreatDoor.Ln

namespace Go.Proofs.YtbojljmacheccaaGreatDoor.Ln
open Go.RowKit Go.Shelf
attribute [local go_sem] Oper.semAt_some
set_option linter.unusedVariables false
set_option linter.unusedSimpArgs false
set_option maxRecDepth 100000
/-! ### KeptTags, KeptFields. -/
/-- a row of two cells an element, as it lies. -/
def R2 (H m : Nat) (F1 F2 : Nat → Value) (w : World) : Prop := H < w.heap.size ∧ ∀ j, j < m → w.cell? ⟨H, j * 2, none⟩ = some (F1 j) ∧ w.cell? ⟨H, j * 2 + 1, none⟩ = some (F2 j)
theorem R2.below {H m : Nat} {F1 F2 : Nat → Value} {w w' : World} (h : R2 H m F1 F2 w) (hb : Below w.heap.size w w') : R2 H m F1 F2 w' :=
  ⟨Nat.lt_of_lt_of_le h.1 hb.size, fun j hj => by rw [hb.cell (p := ⟨H, j * 2, none⟩) h.1, hb.cell (p := ⟨H, j * 2 + 1, none⟩) h.1]; exact h.2 j hj⟩
theorem R2.far {H m : Nat} {F1 F2 : Nat → Value} {w : World} (h : R2 H m F1 F2 w) {g i : Nat} (hg : g ≠ H) (v : Value) : R2 H m F1 F2 (w.setCell ⟨g, i, none⟩ v) :=
  ⟨by simpa using h.1, fun j hj => by
    rw [World.cell?_setCell_other _ _ _ _ (by intro e; injection e with e; exact hg e), World.cell?_setCell_other _ _ _ _ (by intro e; injection e with e; exact hg e)]
    exact h.2 j hj⟩
theorem T2.r2 {H m : Nat} {F1 F2 : Nat → Value} {w1 wx : World} (h : T2 H m F1 F2 w1 wx) : R2 H m F1 F2 wx := ⟨h.sz, h.c⟩

abbrev KdTag (H : Nat) (l : List TagP) (w : World) : Prop := R2 H (l.length + 9) (h1Tag l l.length (l.length + 9)) (h2Tag l l.length) w
theorem KdTag.tin {H : Nat} {l : List TagP} {w : World} (h : KdTag H l w) : TgIn w (some ⟨H, 0, none⟩) l := by
  refine Or.inr ⟨H, 0, rfl, h.1, fun i t ht => ?_⟩
  have hi : i < l.length := (List.getElem?_eq_some_iff.1 ht).1
  have := h.2 i (by omega)
  unfold h1Tag h2Tag at this
  rw [if_pos hi, if_pos hi, if_pos hi, ht] at this
  rw [Nat.zero_add]
  exact this
set_option maxHeartbeats 4000000 in
theorem keptTags_any (l : List TagP) (H : Nat) (a : Option Addr) (cap : Nat) (w : World) (hH : KdTag H l w) (ha : TgIn w a l) (hn : l.length ≤ 4398046511104) :
    Calls Tryz.prog 42 #[.slice (some ⟨H, 0, none⟩) l.length (l.length + 9), .slice a l.length cap] w fun e w' => e = .returned (.bool true) ∧ Below w.heap.size w w' := by
  have cS := sameTags_l l (some ⟨H, 0, none⟩) a (l.length + 9) cap w hH.tin ha (by omega)
  have c9 : Hid (∀ m X, l.length ≤ m → m < l.length + 9 → Below w.heap.size w X → X.cell? ⟨H, m * 2, none⟩ = some (.string (Tx.mkT (700 + (m - l.length)))) ∧ X.cell? ⟨H, m * 2 + 1, none⟩ = some (.string ⟨#[]⟩)) := fun m X h1 h2 hb => by
    have := (hH.below hb).2 m h2
    unfold h1Tag h2Tag at this
    rw [if_neg (by omega), if_pos h2, if_neg (by omega)] at this
    exact this
  have hHs : Hid (H < w.heap.size) := hH.1
  have cT : Hid (∀ (m : Nat) (W : World), l.length ≤ m → m < l.length + 9 → Calls Tryz.prog 100 #[.int .i64 (700 + (m : Int) - (l.length : Int))] W fun e w' => e = .returned (.string (Tx.mkT (700 + (m - l.length)))) ∧ Below W.heap.size W w') := fun m W h1 h2 => by
    have e : (700 + (m : Int) - (l.length : Int)) = ((700 + (m - l.length) : Nat) : Int) := by omega
    rw [e]
    exact (Tx.text_any _ (by omega) W).mono fun e w' q => ⟨q.1, q.2.below⟩
  generalize l.length = n at *
  have cSH : Hid (Calls Tryz.prog 79 #[.slice (some ⟨H, 0, none⟩) n (n + 9), .slice a n cap] w fun e w' => e = .returned (.bool true) ∧ ∃ q, w' = w.drewN q) := cS
  clear hH ha cS
  have hlI : (n : Int) + 9 ≤ ((n + 9 : Nat) : Int) := by omega
  go_enter Tryz.func42, Tryz.ntmps42
  go_wp2_with fail
  refine Calls.mono cSH.out ?_
  rintro e w1 ⟨rfl, q, hw1⟩
  have B1 : Hid (Below w.heap.size w w1) := by rw [hw1]; exact belowQ w q
  clear hw1 cSH
  go_wp2_with fail
  go_loopw [6] (fun i wr => ∃ (m : Nat), n ≤ m ∧ m ≤ n + 9 ∧ i = .int .i64 (m : Int) ∧ Hid (Below w.heap.size w wr)) (fun i _ => n + 9 - (intOf i).toNat)
  case atStart => exact ⟨n, Nat.le_refl _, by omega, rfl, B1⟩
  case round =>
    clear B1
    obtain ⟨m, hm1, hm2, rfl, hB⟩ := hrel
    have m0 : (0 : Int) ≤ (m : Int) := by omega
    by_cases hlt : m < n + 9
    · have hltI : (m : Int) < (n : Int) + 9 := by omega
      have hltN : (m : Int) < ((n + 9 : Nat) : Int) := by omega
      have wi : IntKind.i64.wrap ((m : Int) + 1) = ((m + 1 : Nat) : Int) := IntWalk.i64_in _ (by omega)
      have wj : IntKind.i64.wrap (700 + (m : Int)) = 700 + (m : Int) := IntWalk.i64_in _ (by omega)
      have wl : IntKind.i64.wrap (700 + (m : Int) - (n : Int)) = 700 + (m : Int) - (n : Int) := IntWalk.i64_in _ (by omega)
      have cT2 : Hid (∀ W, Below w.heap.size w W → Calls Tryz.prog 100 #[.int .i64 (700 + (m : Int) - (n : Int))] W fun e w' => e = .returned (.string (Tx.mkT (700 + (m - n)))) ∧ Below w.heap.size w w') := fun W hW => (cT.out m W hm1 hlt).mono fun e w' q => ⟨q.1, hW.trans (q.2.mono hW.size)⟩
      have cel : Hid (∀ X, Below w.heap.size w X → X.cell? ⟨H, m * 2, none⟩ = some (.string (Tx.mkT (700 + (m - n)))) ∧ X.cell? ⟨H, m * 2 + 1, none⟩ = some (.string ⟨#[]⟩)) := fun X hX => c9.out m X hm1 hlt hX
      generalize Tx.mkT (700 + (m - n)) = tx at *
      have hB0 : Hid (Below w.heap.size w wr.drew) := hB.out.drew
      have S0 := cel.out wr hB.out
      have hl9 : H < wr.heap.size := Nat.lt_of_lt_of_le hHs.out hB.out.size
      clear cT c9
      go_wp2_with fail
      go_region_held3 (fun X => X.cell? ⟨H, m * 2, none⟩ = some (.string tx) ∧ X.cell? ⟨H, m * 2 + 1, none⟩ = some (.string ⟨#[]⟩)) (first | assumption)
        (first
          | (go_at_call 100; (with_reducible refine Calls.mono (cT2.out _ hB0.out) ?_); rintro e2 X2 ⟨rfl, G2⟩; have S2 := cel.out _ G2))
      have g2H : Hid (Below w.heap.size w X2) := G2
      clear G2 S2 S0 hB0 cT2 cel hl9
      go_wp2_with fail
      go_roundw
      case rel => exact ⟨m + 1, by omega, by omega, by first | rfl | simp, g2H⟩
      case measure => simp [intOf]; omega
    · obtain rfl : m = n + 9 := by omega
      have hltI : ¬ (((n + 9 : Nat) : Int) < (n : Int) + 9) := by omega
      clear cT c9
      go_wp2_with fail
      go_ret
      exact ⟨rfl, hB.out⟩

abbrev KdField (H : Nat) (l : List FdP) (w : World) : Prop := R2 H (l.length + 9) (h1Field l l.length (l.length + 9)) (h2Field l l.length) w
theorem KdField.tin {H : Nat} {l : List FdP} {w : World} (h : KdField H l w) : FdIn w (some ⟨H, 0, none⟩) l := by
  refine Or.inr ⟨H, 0, rfl, h.1, fun i t ht => ?_⟩
  have hi : i < l.length := (List.getElem?_eq_some_iff.1 ht).1
  have := h.2 i (by omega)
  unfold h1Field h2Field at this
  rw [if_pos hi, if_pos hi, if_pos hi, ht] at this
  rw [Nat.zero_add]
  exact this
set_option maxHeartbeats 4000000 in
theorem keptFields_any (l : List FdP) (H : Nat) (a : Option Addr) (cap : Nat) (w : World) (hH : KdField H l w) (ha : FdIn w a l) (hn : l.length ≤ 4398046511104) :
    Calls Tryz.prog 43 #[.slice (some ⟨H, 0, none⟩) l.length (l.length + 9), .slice a l.length cap] w fun e w' => e = .returned (.bool true) ∧ Below w.heap.size w w' := by
  have cS := sameFields_l l (some ⟨H, 0, none⟩) a (l.length + 9) cap w hH.tin ha (by omega)
  have c9 : Hid (∀ m X, l.length ≤ m → m < l.length + 9 → Below w.heap.size w X → X.cell? ⟨H, m * 2, none⟩ = some (.string (Tx.mkT (700 + (m - l.length)))) ∧ X.cell? ⟨H, m * 2 + 1, none⟩ = some (.int .i64 0)) := fun m X h1 h2 hb => by
    have := (hH.below hb).2 m h2
    unfold h1Field h2Field at this
    rw [if_neg (by omega), if_pos h2, if_neg (by omega)] at this
    exact this
  have hHs : Hid (H < w.heap.size) := hH.1
  have cT : Hid (∀ (m : Nat) (W : World), l.length ≤ m → m < l.length + 9 → Calls Tryz.prog 100 #[.int .i64 (700 + (m : Int) - (l.length : Int))] W fun e w' => e = .returned (.string (Tx.mkT (700 + (m - l.length)))) ∧ Below W.heap.size W w') := fun m W h1 h2 => by
    have e : (700 + (m : Int) - (l.length : Int)) = ((700 + (m - l.length) : Nat) : Int) := by omega
    rw [e]
    exact (Tx.text_any _ (by omega) W).mono fun e w' q => ⟨q.1, q.2.below⟩
  generalize l.length = n at *
  have cSH : Hid (Calls Tryz.prog 80 #[.slice (some ⟨H, 0, none⟩) n (n + 9), .slice a n cap] w fun e w' => e = .returned (.bool true) ∧ ∃ q, w' = w.drewN q) := cS
  clear hH ha cS
  have hlI : (n : Int) + 9 ≤ ((n + 9 : Nat) : Int) := by omega
  go_enter Tryz.func43, Tryz.ntmps43
  go_wp2_with fail
  refine Calls.mono cSH.out ?_
  rintro e w1 ⟨rfl, q, hw1⟩
  have B1 : Hid (Below w.heap.size w w1) := by rw [hw1]; exact belowQ w q
  clear hw1 cSH
  go_wp2_with fail
  go_loopw [6] (fun i wr => ∃ (m : Nat), n ≤ m ∧ m ≤ n + 9 ∧ i = .int .i64 (m : Int) ∧ Hid (Below w.heap.size w wr)) (fun i _ => n + 9 - (intOf i).toNat)
  case atStart => exact ⟨n, Nat.le_refl _, by omega, rfl, B1⟩
  case round =>
    clear B1
    obtain ⟨m, hm1, hm2, rfl, hB⟩ := hrel
    have m0 : (0 : Int) ≤ (m : Int) := by omega
    by_cases hlt : m < n + 9
    · have hltI : (m : Int) < (n : Int) + 9 := by omega
      have hltN : (m : Int) < ((n + 9 : Nat) : Int) := by omega
      have wi : IntKind.i64.wrap ((m : Int) + 1) = ((m + 1 : Nat) : Int) := IntWalk.i64_in _ (by omega)
      have wj : IntKind.i64.wrap (700 + (m : Int)) = 700 + (m : Int) := IntWalk.i64_in _ (by omega)
      have wl : IntKind.i64.wrap (700 + (m : Int) - (n : Int)) = 700 + (m : Int) - (n : Int) := IntWalk.i64_in _ (by omega)
      have cT2 : Hid (∀ W, Below w.heap.size w W → Calls Tryz.prog 100 #[.int .i64 (700 + (m : Int) - (n : Int))] W fun e w' => e = .returned (.string (Tx.mkT (700 + (m - n)))) ∧ Below w.heap.size w w') := fun W hW => (cT.out m W hm1 hlt).mono fun e w' q => ⟨q.1, hW.trans (q.2.mono hW.size)⟩
      have cel : Hid (∀ X, Below w.heap.size w X → X.cell? ⟨H, m * 2, none⟩ = some (.string (Tx.mkT (700 + (m - n)))) ∧ X.cell? ⟨H, m * 2 + 1, none⟩ = some (.int .i64 0)) := fun X hX => c9.out m X hm1 hlt hX
      generalize Tx.mkT (700 + (m - n)) = tx at *
      have hB0 : Hid (Below w.heap.size w wr.drew) := hB.out.drew
      have S0 := cel.out wr hB.out
      have hl9 : H < wr.heap.size := Nat.lt_of_lt_of_le hHs.out hB.out.size
      clear cT c9
      go_wp2_with fail
      go_region_held3 (fun X => X.cell? ⟨H, m * 2, none⟩ = some (.string tx) ∧ X.cell? ⟨H, m * 2 + 1, none⟩ = some (.int .i64 0)) (first | assumption)
        (first
          | (go_at_call 100; (with_reducible refine Calls.mono (cT2.out _ hB0.out) ?_); rintro e2 X2 ⟨rfl, G2⟩; have S2 := cel.out _ G2))
      have g2H : Hid (Below w.heap.size w X2) := G2
      clear G2 S2 S0 hB0 cT2 cel hl9
      go_wp2_with fail
      go_roundw
      case rel => exact ⟨m + 1, by omega, by omega, by first | rfl | simp, g2H⟩
      case measure => simp [intOf]; omega
    · obtain rfl : m = n + 9 := by omega
      have hltI : ¬ (((n + 9 : Nat) : Int) < (n : Int) + 9) := by omega
      clear cT c9
      go_wp2_with fail
      go_ret
      exact ⟨rfl, hB.out⟩
end Go.Proofs.YtbojljmacheccaaGreatDoor.Ln

namespace Go.Proofs.YtbojljmacheccaaGreatDoor.Ln
open Go.RowKit Go.Shelf
attribute [local go_sem] Oper.semAt_some
set_option linter.unusedVariables false
set_option linter.unusedSimpArgs false
set_option maxRecDepth 100000
/-! ### rows of four cells an element, written by places. -/
structure T4 (H m : Nat) (F1 F2 F3 F4 : Nat → Value) (w1 wx : World) : Prop where
  c : ∀ j, j < m → wx.cell? ⟨H, j * 4, none⟩ = some (F1 j) ∧ wx.cell? ⟨H, j * 4 + 1, none⟩ = some (F2 j) ∧ wx.cell? ⟨H, j * 4 + 2, none⟩ = some (F3 j) ∧ wx.cell? ⟨H, j * 4 + 3, none⟩ = some (F4 j)
  z : ∀ j, j < m → wx.frozen? ⟨H, j * 4, none⟩ = false ∧ wx.frozen? ⟨H, j * 4 + 1, none⟩ = false ∧ wx.frozen? ⟨H, j * 4 + 2, none⟩ = false ∧ wx.frozen? ⟨H, j * 4 + 3, none⟩ = false
  b : Below H w1 wx
  sz : H < wx.heap.size
theorem T4.set0 {H m : Nat} {F1 F2 F3 F4 : Nat → Value} {w1 wx : World} (h : T4 H m F1 F2 F3 F4 w1 wx) (k : Nat) (hk : k < m) (x : Value) : T4 H m (updC F1 k x) F2 F3 F4 w1 (wx.setCell ⟨H, k * 4, none⟩ x) := by
  refine ⟨fun j hj => ?_, fun j hj => by simpa using h.z j hj, h.b.setCell (p := ⟨H, k * 4, none⟩) (Nat.le_refl _) _, by simpa using h.sz⟩
  obtain ⟨h1, h2, h3, h4⟩ := h.c j hj
  obtain ⟨k1, k2, k3, k4⟩ := h.c k hk
  unfold updC
  by_cases e : j = k
  · subst e
    rw [if_pos rfl]
    exact ⟨World.cell?_setCell_same _ _ _ k1, (far_set _ (by omega)).trans h2, (far_set _ (by omega)).trans h3, (far_set _ (by omega)).trans h4⟩
  · rw [if_neg e]
    exact ⟨(far_set _ (by omega)).trans h1, (far_set _ (by omega)).trans h2, (far_set _ (by omega)).trans h3, (far_set _ (by omega)).trans h4⟩
theorem T4.set1 {H m : Nat} {F1 F2 F3 F4 : Nat → Value} {w1 wx : World} (h : T4 H m F1 F2 F3 F4 w1 wx) (k : Nat) (hk : k < m) (x : Value) : T4 H m F1 (updC F2 k x) F3 F4 w1 (wx.setCell ⟨H, k * 4 + 1, none⟩ x) := by
  refine ⟨fun j hj => ?_, fun j hj => by simpa using h.z j hj, h.b.setCell (p := ⟨H, k * 4 + 1, none⟩) (Nat.le_refl _) _, by simpa using h.sz⟩
  obtain ⟨h1, h2, h3, h4⟩ := h.c j hj
  obtain ⟨k1, k2, k3, k4⟩ := h.c k hk
  unfold updC
  by_cases e : j = k
  · subst e
    rw [if_pos rfl]
    exact ⟨(far_set _ (by omega)).trans h1, World.cell?_setCell_same _ _ _ k2, (far_set _ (by omega)).trans h3, (far_set _ (by omega)).trans h4⟩
  · rw [if_neg e]
    exact ⟨(far_set _ (by omega)).trans h1, (far_set _ (by omega)).trans h2, (far_set _ (by omega)).trans h3, (far_set _ (by omega)).trans h4⟩
theorem T4.set2 {H m : Nat} {F1 F2 F3 F4 : Nat → Value} {w1 wx : World} (h : T4 H m F1 F2 F3 F4 w1 wx) (k : Nat) (hk : k < m) (x : Value) : T4 H m F1 F2 (updC F3 k x) F4 w1 (wx.setCell ⟨H, k * 4 + 2, none⟩ x) := by
  refine ⟨fun j hj => ?_, fun j hj => by simpa using h.z j hj, h.b.setCell (p := ⟨H, k * 4 + 2, none⟩) (Nat.le_refl _) _, by simpa using h.sz⟩
  obtain ⟨h1, h2, h3, h4⟩ := h.c j hj
  obtain ⟨k1, k2, k3, k4⟩ := h.c k hk
  unfold updC
  by_cases e : j = k
  · subst e
    rw [if_pos rfl]
    exact ⟨(far_set _ (by omega)).trans h1, (far_set _ (by omega)).trans h2, World.cell?_setCell_same _ _ _ k3, (far_set _ (by omega)).trans h4⟩
  · rw [if_neg e]
    exact ⟨(far_set _ (by omega)).trans h1, (far_set _ (by omega)).trans h2, (far_set _ (by omega)).trans h3, (far_set _ (by omega)).trans h4⟩
theorem T4.set3 {H m : Nat} {F1 F2 F3 F4 : Nat → Value} {w1 wx : World} (h : T4 H m F1 F2 F3 F4 w1 wx) (k : Nat) (hk : k < m) (x : Value) : T4 H m F1 F2 F3 (updC F4 k x) w1 (wx.setCell ⟨H, k * 4 + 3, none⟩ x) := by
  refine ⟨fun j hj => ?_, fun j hj => by simpa using h.z j hj, h.b.setCell (p := ⟨H, k * 4 + 3, none⟩) (Nat.le_refl _) _, by simpa using h.sz⟩
  obtain ⟨h1, h2, h3, h4⟩ := h.c j hj
  obtain ⟨k1, k2, k3, k4⟩ := h.c k hk
  unfold updC
  by_cases e : j = k
  · subst e
    rw [if_pos rfl]
    exact ⟨(far_set _ (by omega)).trans h1, (far_set _ (by omega)).trans h2, (far_set _ (by omega)).trans h3, World.cell?_setCell_same _ _ _ k4⟩
  · rw [if_neg e]
    exact ⟨(far_set _ (by omega)).trans h1, (far_set _ (by omega)).trans h2, (far_set _ (by omega)).trans h3, (far_set _ (by omega)).trans h4⟩
theorem T4.ext {H m : Nat} {F1 F2 F3 F4 G1 G2 G3 G4 : Nat → Value} {w1 wx : World} (h : T4 H m F1 F2 F3 F4 w1 wx) (e : ∀ j, j < m → F1 j = G1 j ∧ F2 j = G2 j ∧ F3 j = G3 j ∧ F4 j = G4 j) : T4 H m G1 G2 G3 G4 w1 wx :=
  ⟨fun j hj => by obtain ⟨e1, e2, e3, e4⟩ := e j hj; rw [← e1, ← e2, ← e3, ← e4]; exact h.c j hj, h.z, h.b, h.sz⟩
theorem T4.below {H m : Nat} {F1 F2 F3 F4 : Nat → Value} {w1 wx wy : World} (h : T4 H m F1 F2 F3 F4 w1 wx) (hb : Below wx.heap.size wx wy) : T4 H m F1 F2 F3 F4 w1 wy :=
  ⟨fun j hj => by rw [hb.cell (p := ⟨H, j * 4, none⟩) h.sz, hb.cell (p := ⟨H, j * 4 + 1, none⟩) h.sz, hb.cell (p := ⟨H, j * 4 + 2, none⟩) h.sz, hb.cell (p := ⟨H, j * 4 + 3, none⟩) h.sz]; exact h.c j hj, fun j hj => by rw [hb.frozen (p := ⟨H, j * 4, none⟩) h.sz, hb.frozen (p := ⟨H, j * 4 + 1, none⟩) h.sz, hb.frozen (p := ⟨H, j * 4 + 2, none⟩) h.sz, hb.frozen (p := ⟨H, j * 4 + 3, none⟩) h.sz]; exact h.z j hj, h.b.trans (hb.mono (Nat.le_of_lt h.sz)), Nat.lt_of_lt_of_le h.sz hb.size⟩
theorem T4.start (w : World) (a b c d : Value) (t : TypeId) (m : Nat) : T4 w.heap.size m (fun _ => a) (fun _ => b) (fun _ => c) (fun _ => d) w (w.alloc (.cells (madeCells #[a, b, c, d] (m * 4)) t)) := by
  have g : ∀ i v, i < m * 4 → (#[a, b, c, d] : Array Value)[i % 4]! = v → (w.alloc (.cells (madeCells #[a, b, c, d] (m * 4)) t)).cell? ⟨w.heap.size, i, none⟩ = some v := fun i v hi hv => by
    rw [cell_of_row _ w.heap.size i _ t (0, 0) (heap_alloc_new w _)]; exact made_get _ _ _ _ hi hv
  refine ⟨fun j hj => ⟨g _ _ (by omega) (by simp), g _ _ (by omega) (by simp [show (j * 4 + 1) % 4 = 1 by omega]), g _ _ (by omega) (by simp [show (j * 4 + 2) % 4 = 2 by omega]), g _ _ (by omega) (by simp [show (j * 4 + 3) % 4 = 3 by omega])⟩, fun j hj => ⟨?_, ?_, ?_, ?_⟩, (Below.refl _ _).alloc (Nat.le_refl _) _, by simp⟩
  all_goals exact frozen_of_row _ w.heap.size _ _ t (heap_alloc_new w _)
theorem ptz_info : (Tryz.prog.info? 32).map (fun i => (i.zero, i.bytes, i.size)) = some (some (.agg #[.string ⟨#[]⟩, .slice none 0 0, .slice none 0 0, .int .i64 0]), 72, 4) := by kernel_rfl
theorem make_pt (n : Nat) (h : n ≤ 1099511627776) (w : World) : (Instr.makeSlice 22 (.int .i64 (n : Int)) (.int .i64 (n : Int))).run Tryz.prog w = .ok (.slice (some ⟨w.heap.size, 0, none⟩) n n) (w.alloc (.cells (madeCells #[.string ⟨#[]⟩, .slice none 0 0, .slice none 0 0, .int .i64 0] (n * 4)) 32)) := by
  obtain ⟨i, i1, i0⟩ := Option.map_eq_some_iff.1 ptz_info
  have i2 : i.zero = some (.agg #[.string ⟨#[]⟩, .slice none 0 0, .slice none 0 0, .int .i64 0]) := congrArg (·.1) i0
  have i3 : i.bytes = 72 := congrArg (·.2.1) i0
  have i4 : i.size = 4 := congrArg (·.2.2) i0
  have := run_make (P := Tryz.prog) w 22 32 i (.agg #[.string ⟨#[]⟩, .slice none 0 0, .slice none 0 0, .int .i64 0]) Tryz.underlying22 i1 i2 .i64 .i64 (n : Int) (n : Int) (by omega) (by omega) (by rw [i3]; omega) (by omega)
  rw [i4] at this
  simpa [Value.cells] using this
/-! ### HandPoints. -/
def p1 (l : List PtP) (k : Nat) (j : Nat) : Value := if j < k then (match l[j]? with | some p => .string p.m | none => .string ⟨#[]⟩) else .string ⟨#[]⟩
def p2 (l : List PtP) (ht : Nat → Nat) (k : Nat) (j : Nat) : Value := if j < k then (match l[j]? with | some p => .slice (some ⟨ht j, 0, none⟩) p.t.length (p.t.length + 9) | none => .slice none 0 0) else .slice none 0 0
def p3 (l : List PtP) (hf : Nat → Nat) (k : Nat) (j : Nat) : Value := if j < k then (match l[j]? with | some p => .slice (some ⟨hf j, 0, none⟩) p.f.length (p.f.length + 9) | none => .slice none 0 0) else .slice none 0 0
def p4 (l : List PtP) (k m : Nat) (j : Nat) : Value := if j < l.length then (if j < k then (match l[j]? with | some p => .int .i64 p.tm | none => .int .i64 0) else .int .i64 0) else if j < m then .int .i64 (-700 - (j : Int) + (l.length : Int)) else .int .i64 0
/-- the rows that lie in the points' copies. -/
def KdP (H : Nat) (l : List PtP) (ht hf : Nat → Nat) (k : Nat) (w : World) : Prop := ∀ j p, j < k → l[j]? = some p → (H < ht j ∧ KdTag (ht j) p.t w) ∧ (H < hf j ∧ KdField (hf j) p.f w)
theorem KdP.below {H : Nat} {l : List PtP} {ht hf : Nat → Nat} {k : Nat} {w w' : World} (h : KdP H l ht hf k w) (hb : Below w.heap.size w w') : KdP H l ht hf k w' :=
  fun j p hj hp => let q := h j p hj hp; ⟨⟨q.1.1, q.1.2.below hb⟩, ⟨q.2.1, q.2.2.below hb⟩⟩
theorem KdP.set {H : Nat} {l : List PtP} {ht hf : Nat → Nat} {k : Nat} {w : World} (h : KdP H l ht hf k w) (i : Nat) (v : Value) : KdP H l ht hf k (w.setCell ⟨H, i, none⟩ v) :=
  fun j p hj hp => let q := h j p hj hp; ⟨⟨q.1.1, q.1.2.far (Nat.ne_of_lt q.1.1) v⟩, ⟨q.2.1, q.2.2.far (Nat.ne_of_lt q.2.1) v⟩⟩
def updN2 (f : Nat → Nat) (k v : Nat) : Nat → Nat := fun j => if j = k then v else f j
/-- what HandPoints leaves. -/
def HdP (H : Nat) (l : List PtP) (ht hf : Nat → Nat) (k m : Nat) (w wx : World) : Prop := T4 H (l.length + 9) (p1 l k) (p2 l ht k) (p3 l hf k) (p4 l k m) w wx ∧ KdP H l ht hf k wx
theorem HdP.more {H : Nat} {l : List PtP} {ht hf : Nat → Nat} {k : Nat} {w wx w2 w3 : World} {p : PtP} {ta fa : Option Addr} {tc fc : Nat} (h : HdP H l ht hf k l.length w wx) (hp : l[k]? = some p) (hb2 : Below (((((wx.setCell ⟨H, k * 4, none⟩ (.string p.m)).setCell ⟨H, k * 4 + 1, none⟩ (.slice ta p.t.length tc)).setCell ⟨H, k * 4 + 2, none⟩ (.slice fa p.f.length fc)).setCell ⟨H, k * 4 + 3, none⟩ (.int .i64 p.tm))).heap.size (((((wx.setCell ⟨H, k * 4, none⟩ (.string p.m)).setCell ⟨H, k * 4 + 1, none⟩ (.slice ta p.t.length tc)).setCell ⟨H, k * 4 + 2, none⟩ (.slice fa p.f.length fc)).setCell ⟨H, k * 4 + 3, none⟩ (.int .i64 p.tm))) w2)
    {B1 B2 : Nat} (hB1 : H < B1) (hB2 : H < B2) (ht2 : KdTag B1 p.t w2) (hb3 : Below (w2.setCell ⟨H, k * 4 + 1, none⟩ (.slice (some ⟨B1, 0, none⟩) p.t.length (p.t.length + 9))).heap.size (w2.setCell ⟨H, k * 4 + 1, none⟩ (.slice (some ⟨B1, 0, none⟩) p.t.length (p.t.length + 9))) w3) (hf3 : KdField B2 p.f w3) :
    HdP H l (updN2 ht k B1) (updN2 hf k B2) (k + 1) l.length w (w3.setCell ⟨H, k * 4 + 2, none⟩ (.slice (some ⟨B2, 0, none⟩) p.f.length (p.f.length + 9))) := by
  have hk : k < l.length := (List.getElem?_eq_some_iff.1 hp).1
  have hk9 : k < l.length + 9 := by omega
  obtain ⟨h1, h2⟩ := h
  have a1 := (((((h1.set0 k hk9 (.string p.m)).set1 k hk9 (.slice ta p.t.length tc)).set2 k hk9 (.slice fa p.f.length fc)).set3 k hk9 (.int .i64 p.tm)).below hb2).set1 k hk9 (.slice (some ⟨B1, 0, none⟩) p.t.length (p.t.length + 9))
  have a2 := (a1.below hb3).set2 k hk9 (.slice (some ⟨B2, 0, none⟩) p.f.length (p.f.length + 9))
  refine ⟨a2.ext fun j hj => ?_, fun j q hj hq => ?_⟩
  · unfold updC p1 p2 p3 p4 updN2
    by_cases e : j = k
    · subst e
      have hj1 : j < j + 1 := Nat.lt_succ_self j
      simp only [hp, hk, hj1, if_true, eq_self_iff_true]; exact ⟨trivial, trivial, trivial, trivial⟩
    · have e1 : (j < k + 1) = (j < k) := propext ⟨fun q => by omega, fun q => by omega⟩
      simp only [e, e1, if_false]; exact ⟨trivial, trivial, trivial, trivial⟩
  · have c1 := ((((((h2.set (k * 4) (.string p.m)).set (k * 4 + 1) (.slice ta p.t.length tc)).set (k * 4 + 2) (.slice fa p.f.length fc)).set (k * 4 + 3) (.int .i64 p.tm)).below hb2).set (k * 4 + 1) (.slice (some ⟨B1, 0, none⟩) p.t.length (p.t.length + 9)))
    have c2 := (c1.below hb3).set (k * 4 + 2) (.slice (some ⟨B2, 0, none⟩) p.f.length (p.f.length + 9))
    unfold updN2
    by_cases e : j = k
    · subst e
      rw [hp] at hq
      injection hq with hq
      subst hq
      rw [if_pos rfl, if_pos rfl]
      exact ⟨⟨hB1, (((ht2.far (Nat.ne_of_lt hB1) _).below hb3).far (Nat.ne_of_lt hB1) _)⟩, ⟨hB2, hf3.far (Nat.ne_of_lt hB2) _⟩⟩
    · rw [if_neg e, if_neg e]
      exact c2 j q (by omega) hq
theorem HdP.mark {H : Nat} {l : List PtP} {ht hf : Nat → Nat} {m : Nat} {w wx : World} (h : HdP H l ht hf l.length m w wx) (h1 : l.length ≤ m) (h2 : m < l.length + 9) : HdP H l ht hf l.length (m + 1) w ((((wx.setCell ⟨H, m * 4, none⟩ (.string ⟨#[]⟩)).setCell ⟨H, m * 4 + 1, none⟩ (.slice none 0 0)).setCell ⟨H, m * 4 + 2, none⟩ (.slice none 0 0)).setCell ⟨H, m * 4 + 3, none⟩ (.int .i64 (-700 - (m : Int) + (l.length : Int)))) := by
  obtain ⟨a, b⟩ := h
  refine ⟨((((a.set0 m h2 _).set1 m h2 _).set2 m h2 _).set3 m h2 _).ext fun j hj => ?_, (((b.set _ _).set _ _).set _ _).set _ _⟩
  unfold updC p1 p2 p3 p4
  by_cases e : j = m
  · subst e; simp [show ¬ j < l.length by omega]
  · have e1 : (j < m + 1) = (j < m) := propext ⟨fun q => by omega, fun q => by omega⟩
    simp only [e, e1, if_false]; exact ⟨trivial, trivial, trivial, trivial⟩
/-- the copy, read as points. -/
theorem HdP.psIn {H : Nat} {l : List PtP} {ht hf : Nat → Nat} {w wx : World} (h : HdP H l ht hf l.length (l.length + 9) w wx) (hs : ∀ p ∈ l, p.t.length ≤ 4398046511104 ∧ p.f.length ≤ 4398046511104) : PsIn wx (some ⟨H, 0, none⟩) l := by
  obtain ⟨a, b⟩ := h
  refine Or.inr ⟨H, 0, rfl, a.sz, fun i p hp => ?_⟩
  have hi : i < l.length := (List.getElem?_eq_some_iff.1 hp).1
  obtain ⟨c1, c2, c3, c4⟩ := a.c i (by omega)
  obtain ⟨d1, d2⟩ := b i p hi hp
  have s := hs p (List.mem_of_getElem? hp)
  unfold p1 at c1
  unfold p2 at c2
  unfold p3 at c3
  unfold p4 at c4
  simp only [hi, hp, if_true] at c1 c2 c3 c4
  refine ⟨some ⟨ht i, 0, none⟩, p.t.length + 9, some ⟨hf i, 0, none⟩, p.f.length + 9, ?_, d1.2.tin, by omega, d2.2.tin, by omega, by omega⟩
  rw [Nat.zero_add]
  exact ⟨c1, c2, c3, c4⟩
set_option maxHeartbeats 8000000 in
theorem handPoints_any (l : List PtP) (a : Option Addr) (cap : Nat) (w : World) (ha : PsIn w a l) (hn : l.length ≤ 1099511627760) (hs : ∀ p ∈ l, p.t.length ≤ 4398046511104 ∧ p.f.length ≤ 4398046511104) :
    Calls Tryz.prog 7 #[.slice a l.length cap] w fun e w' => e = .returned (.slice (some ⟨w.heap.size, 0, none⟩) l.length (l.length + 9)) ∧ ∃ ht hf, HdP w.heap.size l ht hf l.length (l.length + 9) w w' := by
  have S0 : HdP w.heap.size l (fun _ => 0) (fun _ => 0) 0 l.length w (w.alloc (.cells (madeCells #[.string ⟨#[]⟩, .slice none 0 0, .slice none 0 0, .int .i64 0] ((l.length + 9) * 4)) 32)) := ⟨(T4.start w _ _ _ _ _ (l.length + 9)).ext fun j hj => by
    unfold p1 p2 p3 p4
    by_cases c : j < l.length
    · simp [c]
    · simp [c], fun j p hj => absurd hj (Nat.not_lt_zero _)⟩
  have step : Hid (∀ ht hf k wx p ta fa tc fc w2 w3 B1 B2, HdP w.heap.size l ht hf k l.length w wx → l[k]? = some p → Below (((((wx.setCell ⟨w.heap.size, k * 4, none⟩ (.string p.m)).setCell ⟨w.heap.size, k * 4 + 1, none⟩ (.slice ta p.t.length tc)).setCell ⟨w.heap.size, k * 4 + 2, none⟩ (.slice fa p.f.length fc)).setCell ⟨w.heap.size, k * 4 + 3, none⟩ (.int .i64 p.tm))).heap.size (((((wx.setCell ⟨w.heap.size, k * 4, none⟩ (.string p.m)).setCell ⟨w.heap.size, k * 4 + 1, none⟩ (.slice ta p.t.length tc)).setCell ⟨w.heap.size, k * 4 + 2, none⟩ (.slice fa p.f.length fc)).setCell ⟨w.heap.size, k * 4 + 3, none⟩ (.int .i64 p.tm))) w2 → w.heap.size < B1 → w.heap.size < B2 → KdTag B1 p.t w2 → Below (w2.setCell ⟨w.heap.size, k * 4 + 1, none⟩ (.slice (some ⟨B1, 0, none⟩) p.t.length (p.t.length + 9))).heap.size (w2.setCell ⟨w.heap.size, k * 4 + 1, none⟩ (.slice (some ⟨B1, 0, none⟩) p.t.length (p.t.length + 9))) w3 → KdField B2 p.f w3 → HdP w.heap.size l (updN2 ht k B1) (updN2 hf k B2) (k + 1) l.length w (w3.setCell ⟨w.heap.size, k * 4 + 2, none⟩ (.slice (some ⟨B2, 0, none⟩) p.f.length (p.f.length + 9)))) := fun ht hf k wx p ta fa tc fc w2 w3 B1 B2 h hp hb2 h1 h2 h3 h4 h5 => h.more hp hb2 h1 h2 h3 h4 h5
  have mark : Hid (∀ ht hf m wx, HdP w.heap.size l ht hf l.length m w wx → l.length ≤ m → m < l.length + 9 → HdP w.heap.size l ht hf l.length (m + 1) w ((((wx.setCell ⟨w.heap.size, m * 4, none⟩ (.string ⟨#[]⟩)).setCell ⟨w.heap.size, m * 4 + 1, none⟩ (.slice none 0 0)).setCell ⟨w.heap.size, m * 4 + 2, none⟩ (.slice none 0 0)).setCell ⟨w.heap.size, m * 4 + 3, none⟩ (.int .i64 (-700 - (m : Int) + (l.length : Int))))) := fun ht hf m wx h h1 h2 => h.mark h1 h2
  have t4 : Hid (∀ ht hf k m wx, HdP w.heap.size l ht hf k m w wx → T4 w.heap.size (l.length + 9) (p1 l k) (p2 l ht k) (p3 l hf k) (p4 l k m) w wx) := fun ht hf k m wx h => h.1
  have hsH : Hid (∀ p ∈ l, p.t.length ≤ 4398046511104 ∧ p.f.length ≤ 4398046511104) := hs
  obtain ⟨n, hn1⟩ : ∃ n, n = l.length := ⟨_, rfl⟩
  have nH : Hid (n = l.length) := hn1
  have hmk := make_pt (n + 9) (by omega)
  have hmc : ((n + 9 : Nat) : Int) = (n : Int) + 9 := by omega
  rw [hmc] at hmk
  have aH : Hid (PsIn w a l) := ha
  have S0H : Hid (HdP w.heap.size l (fun _ => 0) (fun _ => 0) 0 n w (w.alloc (.cells (madeCells #[.string ⟨#[]⟩, .slice none 0 0, .slice none 0 0, .int .i64 0] ((n + 9) * 4)) 32))) := by rw [hn1]; exact S0
  rw [← hn1] at step mark t4 hn ⊢
  clear ha hn1 S0 hs hmc
  go_enter Tryz.func7, Tryz.ntmps7
  go_wp2_with fail
  clear hmk
  go_loopw [4] (fun i wr => ∃ (k : Nat) (ht hf : Nat → Nat), k ≤ n ∧ i = .int .i64 (k : Int) ∧ Hid (HdP w.heap.size l ht hf k n w wr)) (fun i _ => n - (intOf i).toNat)
  case atStart => exact ⟨0, fun _ => 0, fun _ => 0, Nat.zero_le _, rfl, S0H⟩
  case round =>
    clear S0H
    obtain ⟨k, ht, hf, hk, rfl, hR⟩ := hrel
    have k0 : (0 : Int) ≤ (k : Int) := by omega
    by_cases hlt : k < n
    · obtain ⟨p, hp⟩ : ∃ p, l[k]? = some p := ⟨_, List.getElem?_eq_getElem (by have := nH.out; omega)⟩
      have T := t4.out _ _ _ _ _ hR.out
      obtain ⟨b, off, ta, tc, fa, fc, e1, hbx, ax, fx⟩ := aH.out.at T.b hp
      subst e1
      have hsp := hsH.out p (List.mem_of_getElem? hp)
      have hltI : (k : Int) < (n : Int) := by omega
      have hlt9 : (k : Int) < (n : Int) + 9 := by omega
      have hk9 : k < n + 9 := by omega
      have wi : IntKind.i64.wrap ((k : Int) + 1) = ((k + 1 : Nat) : Int) := IntWalk.i64_in _ (by omega)
      have hl9 : w.heap.size < wr.heap.size := T.sz
      have hbw : b < wr.heap.size := Nat.lt_of_lt_of_le hbx T.b.size
      have hbH : ¬ b = w.heap.size := by omega
      obtain ⟨y1, y2, y3, y4⟩ := T.c k hk9
      obtain ⟨z1, z2, z3, z4⟩ := T.z k hk9
      have stepH : Hid (∀ w2 w3 B1 B2, Below (((((wr.setCell ⟨w.heap.size, k * 4, none⟩ (.string p.m)).setCell ⟨w.heap.size, k * 4 + 1, none⟩ (.slice ta p.t.length tc)).setCell ⟨w.heap.size, k * 4 + 2, none⟩ (.slice fa p.f.length fc)).setCell ⟨w.heap.size, k * 4 + 3, none⟩ (.int .i64 p.tm))).heap.size (((((wr.setCell ⟨w.heap.size, k * 4, none⟩ (.string p.m)).setCell ⟨w.heap.size, k * 4 + 1, none⟩ (.slice ta p.t.length tc)).setCell ⟨w.heap.size, k * 4 + 2, none⟩ (.slice fa p.f.length fc)).setCell ⟨w.heap.size, k * 4 + 3, none⟩ (.int .i64 p.tm))) w2 → w.heap.size < B1 → w.heap.size < B2 → KdTag B1 p.t w2 → Below (w2.setCell ⟨w.heap.size, k * 4 + 1, none⟩ (.slice (some ⟨B1, 0, none⟩) p.t.length (p.t.length + 9))).heap.size (w2.setCell ⟨w.heap.size, k * 4 + 1, none⟩ (.slice (some ⟨B1, 0, none⟩) p.t.length (p.t.length + 9))) w3 → KdField B2 p.f w3 → HdP w.heap.size l (updN2 ht k B1) (updN2 hf k B2) (k + 1) n w (w3.setCell ⟨w.heap.size, k * 4 + 2, none⟩ (.slice (some ⟨B2, 0, none⟩) p.f.length (p.f.length + 9)))) := fun w2 w3 B1 B2 => step.out ht hf k wr p ta fa tc fc w2 w3 B1 B2 hR.out hp
      -- the world behind the first store
      obtain ⟨W1, hW1⟩ : ∃ W1, ((((wr.setCell ⟨w.heap.size, k * 4, none⟩ (.string p.m)).setCell ⟨w.heap.size, k * 4 + 1, none⟩ (.slice ta p.t.length tc)).setCell ⟨w.heap.size, k * 4 + 2, none⟩ (.slice fa p.f.length fc)).setCell ⟨w.heap.size, k * 4 + 3, none⟩ (.int .i64 p.tm)) = W1 := ⟨_, rfl⟩
      have T1 := (((T.set0 k hk9 (.string p.m)).set1 k hk9 (.slice ta p.t.length tc)).set2 k hk9 (.slice fa p.f.length fc)).set3 k hk9 (.int .i64 p.tm)
      rw [hW1] at stepH T1
      have hW1H : Hid (((((wr.setCell ⟨w.heap.size, k * 4, none⟩ (.string p.m)).setCell ⟨w.heap.size, k * 4 + 1, none⟩ (.slice ta p.t.length tc)).setCell ⟨w.heap.size, k * 4 + 2, none⟩ (.slice fa p.f.length fc)).setCell ⟨w.heap.size, k * 4 + 3, none⟩ (.int .i64 p.tm)) = W1) := hW1
      have hT1 : Hid (T4 w.heap.size (n + 9) (updC (p1 l k) k (.string p.m)) (updC (p2 l ht k) k (.slice ta p.t.length tc)) (updC (p3 l hf k) k (.slice fa p.f.length fc)) (updC (p4 l k n) k (.int .i64 p.tm)) w W1) := T1
      have cA := handTags_any p.t ta tc W1 (fx W1 T1.b).2.1 hsp.1
      have cAH : Hid (Calls Tryz.prog 28 #[.slice ta p.t.length tc] W1 fun e w' => e = .returned (.slice (some ⟨W1.heap.size, 0, none⟩) p.t.length (p.t.length + 9)) ∧ HdTag W1.heap.size p.t W1 w') := cA
      have cB : Hid (∀ W, Below w.heap.size w W → Calls Tryz.prog 29 #[.slice fa p.f.length fc] W fun e w' => e = .returned (.slice (some ⟨W.heap.size, 0, none⟩) p.f.length (p.f.length + 9)) ∧ HdField W.heap.size p.f W w') := fun W hW => handFields_any p.f fa fc W (fx W hW).2.2.2.1 hsp.2
      have fxH : Hid (∀ W, Below w.heap.size w W → PAt W b (off + k * 4) p ta tc fa fc) := fun W hW => (fx W hW).1
      have hszW1 : Hid (w.heap.size < W1.heap.size) := T1.sz
      unfold PAt at ax fxH
      obtain ⟨x1, x2, x3, x4⟩ := ax
      have hbd : Hid (Below w.heap.size w W1) := T1.b
      have hbB : Hid (b < w.heap.size) := hbx
      clear T T1 hW1 fx hp hsp hR cA hbx
      obtain ⟨pm, pt, pf, ptm⟩ := p
      dsimp only at *
      obtain ⟨nt, hnt⟩ : ∃ nt, pt.length = nt := ⟨_, rfl⟩
      obtain ⟨nf, hnf⟩ : ∃ nf, pf.length = nf := ⟨_, rfl⟩
      rw [hnt] at x2 hW1H cAH fxH hT1 stepH
      rw [hnf] at x3 hW1H cB fxH hT1 stepH
      clear hnt hnf
      go_wp2_with fail
      rw [hW1H.out]
      refine Calls.mono cAH.out ?_
      rintro e w2 ⟨rfl, A2⟩
      have B2 := A2.b
      have U2 := hT1.out.below B2
      have K2 : Hid (KdTag W1.heap.size pt w2) := A2.r2
      have D2 : Hid (Below w.heap.size w w2) := U2.b
      have hB2H : Hid (Below W1.heap.size W1 w2) := B2
      have U2H : Hid (T4 w.heap.size (n + 9) (updC (p1 l k) k (.string pm)) (updC (p2 l ht k) k (.slice ta nt tc)) (updC (p3 l hf k) k (.slice fa nf fc)) (updC (p4 l k n) k (.int .i64 ptm)) w w2) := U2
      clear A2 B2 cAH hT1 hW1H x1 x2 x3 x4 y1 y2 y3 y4 z1 z2 z3 z4 hl9 hbw
      obtain ⟨x1, x2, x3, x4⟩ := fxH.out w2 D2.out
      obtain ⟨y1, y2, y3, y4⟩ := U2.c k hk9
      obtain ⟨z1, z2, z3, z4⟩ := U2.z k hk9
      have hl9 : w.heap.size < w2.heap.size := U2.sz
      clear U2
      obtain ⟨N1, hN1⟩ : ∃ N1, W1.heap.size = N1 := ⟨_, rfl⟩
      have hN1H : Hid (W1.heap.size = N1) := hN1
      rw [hN1] at K2 ⊢
      clear hN1
      obtain ⟨W3, hW3⟩ : ∃ W3, w2.setCell ⟨w.heap.size, k * 4 + 1, none⟩ (.slice (some ⟨N1, 0, none⟩) nt (nt + 9)) = W3 := ⟨_, rfl⟩
      have U3 := U2H.out.set1 k hk9 (.slice (some ⟨N1, 0, none⟩) nt (nt + 9))
      rw [hW3] at U3
      have hW3H : Hid (w2.setCell ⟨w.heap.size, k * 4 + 1, none⟩ (.slice (some ⟨N1, 0, none⟩) nt (nt + 9)) = W3) := hW3
      have U3H : Hid (T4 w.heap.size (n + 9) (updC (p1 l k) k (.string pm)) (updC (updC (p2 l ht k) k (.slice ta nt tc)) k (.slice (some ⟨N1, 0, none⟩) nt (nt + 9))) (updC (p3 l hf k) k (.slice fa nf fc)) (updC (p4 l k n) k (.int .i64 ptm)) w W3) := U3
      have cBH := cB.out W3 U3.b
      have cB3 : Hid (Calls Tryz.prog 29 #[.slice fa nf fc] W3 fun e w' => e = .returned (.slice (some ⟨W3.heap.size, 0, none⟩) nf (nf + 9)) ∧ HdField W3.heap.size pf W3 w') := cBH
      have hbw : b < w2.heap.size := Nat.lt_of_lt_of_le hbB.out D2.out.size
      clear U3 U2H hW3 cBH cB
      go_wp2_with fail
      rw [hW3H.out]
      refine Calls.mono cB3.out ?_
      rintro e w4 ⟨rfl, A4⟩
      have B4 := A4.b
      have U4 := U3H.out.below B4
      have FIN2 := stepH.out w2 w4 N1 W3.heap.size hB2H.out (by rw [← hN1H.out]; exact hszW1.out) U3H.out.sz K2.out (by rw [hW3H.out]; exact B4) A4.r2
      have FIN3 : Hid (HdP w.heap.size l (updN2 ht k N1) (updN2 hf k W3.heap.size) (k + 1) n w (w4.setCell ⟨w.heap.size, k * 4 + 2, none⟩ (.slice (some ⟨W3.heap.size, 0, none⟩) nf (nf + 9)))) := FIN2
      clear x1 x2 x3 x4 y1 y2 y3 y4 z1 z2 z3 z4 hl9 hbw
      obtain ⟨y1, y2, y3, y4⟩ := U4.c k hk9
      obtain ⟨z1, z2, z3, z4⟩ := U4.z k hk9
      have hl9 : w.heap.size < w4.heap.size := U4.sz
      clear U4 B4 A4 FIN2 U3H cB3 hW3H hN1H stepH
      go_wp2_with fail
      go_roundw
      case rel => exact ⟨k + 1, _, _, by omega, by first | rfl | simp, FIN3⟩
      case measure => simp [intOf]; omega
    · obtain rfl : k = n := by omega
      have hltI : ¬ (k : Int) < (k : Int) := by omega
      clear hlt hk step
      go_wp2_with fail
      go_loopw [5] (fun i wr => ∃ (m : Nat), k ≤ m ∧ m ≤ k + 9 ∧ i = .int .i64 (m : Int) ∧ Hid (HdP w.heap.size l ht hf k m w wr)) (fun i _ => k + 9 - (intOf i).toNat)
      case atStart => exact ⟨k, Nat.le_refl _, by omega, rfl, hR⟩
      case round =>
        clear hR hltI
        obtain ⟨m, hm1, hm2, rfl, hR⟩ := hrel
        have m0 : (0 : Int) ≤ (m : Int) := by omega
        by_cases hlt : m < k + 9
        · have hltI : (m : Int) < (k : Int) + 9 := by omega
          have wi : IntKind.i64.wrap ((m : Int) + 1) = ((m + 1 : Nat) : Int) := IntWalk.i64_in _ (by omega)
          have wj : IntKind.i64.wrap (-700 - (m : Int)) = -700 - (m : Int) := IntWalk.i64_in _ (by omega)
          have wl : IntKind.i64.wrap (-700 - (m : Int) + (k : Int)) = -700 - (m : Int) + (k : Int) := IntWalk.i64_in _ (by omega)
          have hR2 := mark.out ht hf m wr hR.out hm1 hlt
          have hR2H : Hid (HdP w.heap.size l ht hf k (m + 1) w ((((wr.setCell ⟨w.heap.size, m * 4, none⟩ (.string ⟨#[]⟩)).setCell ⟨w.heap.size, m * 4 + 1, none⟩ (.slice none 0 0)).setCell ⟨w.heap.size, m * 4 + 2, none⟩ (.slice none 0 0)).setCell ⟨w.heap.size, m * 4 + 3, none⟩ (.int .i64 (-700 - (m : Int) + (k : Int))))) := hR2
          have T := t4.out _ _ _ _ _ hR.out
          obtain ⟨y1, y2, y3, y4⟩ := T.c m hlt
          obtain ⟨z1, z2, z3, z4⟩ := T.z m hlt
          have hl9 : w.heap.size < wr.heap.size := T.sz
          clear hR T hR2 mark t4
          go_wp2_with fail
          go_roundw
          case rel => exact ⟨m + 1, by omega, by omega, by first | rfl | simp, hR2H⟩
          case measure => simp [intOf]; omega
        · obtain rfl : m = k + 9 := by omega
          have hltI : ¬ ((k : Int) + 9 < (k : Int) + 9) := by omega
          have hltN : ¬ (((k + 9 : Nat) : Int) < (k : Int) + 9) := by omega
          clear hlt
          go_wp2_with fail
          go_ret
          exact ⟨rfl, ht, hf, hR.out⟩
end Go.Proofs.YtbojljmacheccaaGreatDoor.Ln

namespace Go.Proofs.YtbojljmacheccaaGreatDoor.Ln
open Go.RowKit Go.Shelf
attribute [local go_sem] Oper.semAt_some
set_option linter.unusedVariables false
set_option linter.unusedSimpArgs false
set_option maxRecDepth 100000
/-! ### KeptPoints. -/
theorem HdP.below {H : Nat} {l : List PtP} {ht hf : Nat → Nat} {k m : Nat} {w wx wy : World} (h : HdP H l ht hf k m w wx) (hb : Below wx.heap.size wx wy) : HdP H l ht hf k m w wy := ⟨h.1.below hb, h.2.below hb⟩
set_option maxHeartbeats 8000000 in
theorem keptPoints_any (l : List PtP) (H : Nat) (ht hf : Nat → Nat) (w0 : World) (a : Option Addr) (cap : Nat) (w : World) (hH : HdP H l ht hf l.length (l.length + 9) w0 w) (ha : PsIn w a l) (hn : l.length ≤ 1099511627760) (hs : ∀ p ∈ l, p.t.length ≤ 4398046511104 ∧ p.f.length ≤ 4398046511104) :
    Calls Tryz.prog 13 #[.slice (some ⟨H, 0, none⟩) l.length (l.length + 9), .slice a l.length cap] w fun e w' => e = .returned (.bool true) ∧ Below w.heap.size w w' := by
  have cS := samePts_l l (some ⟨H, 0, none⟩) a (l.length + 9) cap w (hH.psIn hs) ha (by omega)
  have hHs : Hid (H < w.heap.size) := hH.1.sz
  have aH : Hid (PsIn w a l) := ha
  have c9 : Hid (∀ m X, l.length ≤ m → m < l.length + 9 → Below w.heap.size w X → X.cell? ⟨H, m * 4 + 3, none⟩ = some (.int .i64 (-700 - (m : Int) + (l.length : Int)))) := fun m X h1 h2 hb => by
    have := ((hH.below hb).1.c m h2).2.2.2
    unfold p4 at this
    rw [if_neg (by omega), if_pos h2] at this
    exact this
  have cK : Hid (∀ k p X, l[k]? = some p → Below w.heap.size w X → (X.cell? ⟨H, k * 4 + 1, none⟩ = some (.slice (some ⟨ht k, 0, none⟩) p.t.length (p.t.length + 9)) ∧ X.cell? ⟨H, k * 4 + 2, none⟩ = some (.slice (some ⟨hf k, 0, none⟩) p.f.length (p.f.length + 9))) ∧ KdTag (ht k) p.t X ∧ KdField (hf k) p.f X) := fun k p X hp hb => by
    have hk : k < l.length := (List.getElem?_eq_some_iff.1 hp).1
    have h2 := hH.below hb
    obtain ⟨_, c2, c3, _⟩ := h2.1.c k (by omega)
    obtain ⟨d1, d2⟩ := h2.2 k p hk hp
    unfold p2 at c2
    unfold p3 at c3
    rw [if_pos hk, hp] at c2 c3
    exact ⟨⟨c2, c3⟩, d1.2, d2.2⟩
  have hsH : Hid (∀ p ∈ l, p.t.length ≤ 4398046511104 ∧ p.f.length ≤ 4398046511104) := hs
  obtain ⟨n, hn1⟩ : ∃ n, n = l.length := ⟨_, rfl⟩
  have nH : Hid (n = l.length) := hn1
  rw [← hn1] at cS c9 hn ⊢
  have cSH : Hid (Calls Tryz.prog 20 #[.slice (some ⟨H, 0, none⟩) n (n + 9), .slice a n cap] w fun e w' => e = .returned (.bool true) ∧ ∃ q, w' = w.drewN q) := cS
  clear hH ha cS hs hn1
  have hlI : (n : Int) + 9 ≤ ((n + 9 : Nat) : Int) := by omega
  go_enter Tryz.func13, Tryz.ntmps13
  go_wp2_with fail
  refine Calls.mono cSH.out ?_
  rintro e w1 ⟨rfl, q, hw1⟩
  have B1 : Hid (Below w.heap.size w w1) := by rw [hw1]; exact belowQ w q
  clear hw1 cSH
  go_wp2_with fail
  go_loopw [5] (fun i wr => ∃ (k : Nat), k ≤ n ∧ i = .int .i64 (k : Int) ∧ Hid (Below w.heap.size w wr)) (fun i _ => n - (intOf i).toNat)
  case atStart => exact ⟨0, Nat.zero_le _, rfl, B1⟩
  case round =>
    clear B1
    obtain ⟨k, hk, rfl, hB⟩ := hrel
    have k0 : (0 : Int) ≤ (k : Int) := by omega
    by_cases hlt : k < n
    · have hltI : (k : Int) < (n : Int) := by omega
      have wi : IntKind.i64.wrap ((k : Int) + 1) = ((k + 1 : Nat) : Int) := IntWalk.i64_in _ (by omega)
      obtain ⟨p, hp⟩ : ∃ p, l[k]? = some p := ⟨_, List.getElem?_eq_getElem (by have := nH.out; omega)⟩
      obtain ⟨b, off, ta, tc, fa, fc, e1, hbx, ax, fx⟩ := aH.out.at hB.out hp
      subst e1
      have hsp := hsH.out p (List.mem_of_getElem? hp)
      have cT : Hid (∀ X, Below w.heap.size w X → Calls Tryz.prog 42 #[.slice (some ⟨ht k, 0, none⟩) p.t.length (p.t.length + 9), .slice ta p.t.length tc] X fun e w' => e = .returned (.bool true) ∧ Below w.heap.size w w') := fun X hX => (keptTags_any p.t (ht k) ta tc X (cK.out k p X hp hX).2.1 (fx X hX).2.1 hsp.1).mono fun e w' q => ⟨q.1, hX.trans (q.2.mono hX.size)⟩
      have cF : Hid (∀ X, Below w.heap.size w X → Calls Tryz.prog 43 #[.slice (some ⟨hf k, 0, none⟩) p.f.length (p.f.length + 9), .slice fa p.f.length fc] X fun e w' => e = .returned (.bool true) ∧ Below w.heap.size w w') := fun X hX => (keptFields_any p.f (hf k) fa fc X (cK.out k p X hp hX).2.2 (fx X hX).2.2.2.1 hsp.2).mono fun e w' q => ⟨q.1, hX.trans (q.2.mono hX.size)⟩
      have cel : Hid (∀ X, Below w.heap.size w X → X.cell? ⟨H, k * 4 + 1, none⟩ = some (.slice (some ⟨ht k, 0, none⟩) p.t.length (p.t.length + 9)) ∧ X.cell? ⟨H, k * 4 + 2, none⟩ = some (.slice (some ⟨hf k, 0, none⟩) p.f.length (p.f.length + 9)) ∧ X.cell? ⟨b, off + k * 4 + 1, none⟩ = some (.slice ta p.t.length tc) ∧ X.cell? ⟨b, off + k * 4 + 2, none⟩ = some (.slice fa p.f.length fc)) := fun X hX => ⟨(cK.out k p X hp hX).1.1, (cK.out k p X hp hX).1.2, (fx X hX).1.2.1, (fx X hX).1.2.2.1⟩
      have hltN : (k : Int) < ((n + 9 : Nat) : Int) := by omega
      have hl9 : H < wr.heap.size := Nat.lt_of_lt_of_le hHs.out hB.out.size
      have hbw : b < wr.heap.size := Nat.lt_of_lt_of_le hbx hB.out.size
      clear ax fx hp hsp hbx cK c9
      generalize p.t.length = nt at *
      generalize p.f.length = nf at *
      generalize ht k = hk1 at *
      generalize hf k = hk2 at *
      have hB0 : Hid (Below w.heap.size w wr.drew) := hB.out.drew
      have S0 := cel.out wr hB.out
      go_wp2_with fail
      go_region_held3 (fun X => X.cell? ⟨H, k * 4 + 1, none⟩ = some (.slice (some ⟨hk1, 0, none⟩) nt (nt + 9)) ∧ X.cell? ⟨H, k * 4 + 2, none⟩ = some (.slice (some ⟨hk2, 0, none⟩) nf (nf + 9)) ∧ X.cell? ⟨b, off + k * 4 + 1, none⟩ = some (.slice ta nt tc) ∧ X.cell? ⟨b, off + k * 4 + 2, none⟩ = some (.slice fa nf fc)) (first | assumption)
        (first
          | (go_at_call 42; (with_reducible refine Calls.mono (cT.out _ hB0.out) ?_); rintro e2 X2 ⟨rfl, G2⟩; have S2 := cel.out _ G2)
          | (go_at_call 43; (with_reducible refine Calls.mono (cF.out _ G2) ?_); rintro e3 X3 ⟨rfl, G3⟩; have S3 := cel.out _ G3))
      have g3H : Hid (Below w.heap.size w X3) := G3
      clear G2 G3 S2 S3 S0 hB0 cT cF cel hl9 hbw
      go_wp2_with fail
      go_roundw
      case rel => exact ⟨k + 1, by omega, by first | rfl | simp, g3H⟩
      case measure => simp [intOf]; omega
    · obtain rfl : k = n := by omega
      have hltI : ¬ (k : Int) < (k : Int) := by omega
      clear hlt hk cK hsH aH
      go_wp2_with fail
      go_loopw [7] (fun i wr => ∃ (m : Nat), k ≤ m ∧ m ≤ k + 9 ∧ i = .int .i64 (m : Int) ∧ Hid (Below w.heap.size w wr)) (fun i _ => k + 9 - (intOf i).toNat)
      case atStart => exact ⟨k, Nat.le_refl _, by omega, rfl, hB⟩
      case round =>
        clear hB hltI
        obtain ⟨m, hm1, hm2, rfl, hB⟩ := hrel
        have m0 : (0 : Int) ≤ (m : Int) := by omega
        by_cases hlt : m < k + 9
        · have hltI : (m : Int) < (k : Int) + 9 := by omega
          have hltN : (m : Int) < ((k + 9 : Nat) : Int) := by omega
          have wi : IntKind.i64.wrap ((m : Int) + 1) = ((m + 1 : Nat) : Int) := IntWalk.i64_in _ (by omega)
          have wj : IntKind.i64.wrap (-700 - (m : Int)) = -700 - (m : Int) := IntWalk.i64_in _ (by omega)
          have wl : IntKind.i64.wrap (-700 - (m : Int) + (k : Int)) = -700 - (m : Int) + (k : Int) := IntWalk.i64_in _ (by omega)
          have x1 := c9.out m wr hm1 hlt hB.out
          have hl9 : H < wr.heap.size := Nat.lt_of_lt_of_le hHs.out hB.out.size
          clear c9
          go_wp2_with fail
          go_roundw
          case rel => exact ⟨m + 1, by omega, by omega, by first | rfl | simp, hB⟩
          case measure => simp [intOf]; omega
        · obtain rfl : m = k + 9 := by omega
          have hltI : ¬ (((k + 9 : Nat) : Int) < (k : Int) + 9) := by omega
          clear c9
          go_wp2_with fail
          go_ret
          exact ⟨rfl, hB.out⟩
end Go.Proofs.YtbojljmacheccaaGreatDoor.Ln
