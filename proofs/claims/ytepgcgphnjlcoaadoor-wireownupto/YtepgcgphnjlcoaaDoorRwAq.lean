
import Derived.Test.YtepgcgphnjlcoaaDoorWwBq
import Derived.Test.YtepgcgphnjlcoaaDoorOpenAq
import Derived.BigQuiet
import Derived.Deep.QuietTactic
import Derived.Deep.RegionHeld3
import Derived.WalkSmall
namespace Go.Proofs.YtepgcgphnjlcoaaDoor
open Go.RowKit
set_option linter.unusedVariables false
set_option linter.unusedSimpArgs false
/-- the fault of a Reader. -/
def fvV : Option (Int × Int) → Value
  | none => .nilIface
  | some (p, e) => .iface 193 (.agg #[.int .i64 p, .iface 88 (.int .i64 e)])
/-- a Reader of the program's at block N, over n bytes: p of them were read, of the last one but for its lowest r bits. -/
structure RR (N : Nat) (w1 : World) (a : Option Addr) (n cap : Nat) (bs : Nat → Nat) (p r : Nat) (fv : Option (Int × Int)) (wx : World) : Prop where
  c0 : wx.cell? ⟨N, 0, none⟩ = some (.slice a n cap)
  c1 : wx.cell? ⟨N, 1, none⟩ = some (.int .i64 (p : Int))
  c2 : wx.cell? ⟨N, 2, none⟩ = some (.int .i64 (r : Int))
  c3 : wx.cell? ⟨N, 3, none⟩ = some (fvV fv)
  f1 : wx.frozen? ⟨N, 1, none⟩ = false
  f2 : wx.frozen? ⟨N, 2, none⟩ = false
  f3 : wx.frozen? ⟨N, 3, none⟩ = false
  row : n = 0 ∨ ∃ b off, a = some ⟨b, off, none⟩ ∧ b < wx.heap.size ∧ b ≠ N ∧ BytesAt wx b off n bs
  nb : n ≤ 140737488355327
  nc : n ≤ cap
  pn : p ≤ n
  r8 : r ≤ 8
  rp : r ≠ 0 → 0 < p
  b : Below N w1 wx
  sz : N < wx.heap.size
/-- what a Reader at N leaves alone. -/
structure RF (N : Nat) (w w' : World) : Prop where
  size : w.heap.size ≤ w'.heap.size
  keep : ∀ k, k < w.heap.size → k ≠ N → w'.heap[k]? = w.heap[k]?
theorem RF.refl (N : Nat) (w : World) : RF N w w := ⟨Nat.le_refl _, fun _ _ _ => rfl⟩
theorem RF.trans {N : Nat} {w w1 w2 : World} (h : RF N w w1) (k : RF N w1 w2) : RF N w w2 :=
  ⟨Nat.le_trans h.size k.size, fun j hj hn => by rw [k.keep j (Nat.lt_of_lt_of_le hj h.size) hn]; exact h.keep j hj hn⟩
theorem RF.below {N : Nat} {w w' : World} (h : Below w.heap.size w w') : RF N w w' := ⟨h.size, fun k hk _ => h.block k hk⟩
theorem RF.set {N : Nat} (w : World) (j : Nat) (v : Value) : RF N w (w.setCell ⟨N, j, none⟩ v) := ⟨by simp, fun k hk hn => Below.heap_setCell _ _ _ _ hn⟩
theorem RF.drewN {N : Nat} (w : World) (n : Nat) : RF N w (w.drewN n) := ⟨Nat.le_refl _, fun _ _ _ => rfl⟩
theorem RR.below {N : Nat} {w1 wx w' : World} {a : Option Addr} {n cap p r : Nat} {bs : Nat → Nat} {fv : Option (Int × Int)} (h : RR N w1 a n cap bs p r fv wx) (hb : Below wx.heap.size wx w') : RR N w1 a n cap bs p r fv w' := by
  obtain ⟨c0, c1, c2, c3, f1, f2, f3, row, nb, nc, pn, r8, rp, b, sz⟩ := h
  refine ⟨?_, ?_, ?_, ?_, ?_, ?_, ?_, ?_, nb, nc, pn, r8, rp, b.trans (hb.mono (by omega)), Nat.lt_of_lt_of_le sz hb.size⟩
  · rw [hb.cell (p := ⟨N, 0, none⟩) sz]; exact c0
  · rw [hb.cell (p := ⟨N, 1, none⟩) sz]; exact c1
  · rw [hb.cell (p := ⟨N, 2, none⟩) sz]; exact c2
  · rw [hb.cell (p := ⟨N, 3, none⟩) sz]; exact c3
  · rw [hb.frozen (p := ⟨N, 1, none⟩) sz]; exact f1
  · rw [hb.frozen (p := ⟨N, 2, none⟩) sz]; exact f2
  · rw [hb.frozen (p := ⟨N, 3, none⟩) sz]; exact f3
  · rcases row with h0 | ⟨k, off, e, hk, hn, hB⟩
    · exact Or.inl h0
    · exact Or.inr ⟨k, off, e, Nat.lt_of_lt_of_le hk hb.size, hn, hB.below hb hk⟩
theorem RR.drewN {N : Nat} {w1 wx : World} {a : Option Addr} {n cap p r : Nat} {bs : Nat → Nat} {fv : Option (Int × Int)} (h : RR N w1 a n cap bs p r fv wx) (k : Nat) : RR N w1 a n cap bs p r fv (wx.drewN k) :=
  h.below (below_drewN (Below.refl _ _) _)
theorem RR.row_set {N j : Nat} {wx : World} {a : Option Addr} {n : Nat} {bs : Nat → Nat} {v : Value} (row : n = 0 ∨ ∃ b off, a = some ⟨b, off, none⟩ ∧ b < wx.heap.size ∧ b ≠ N ∧ BytesAt wx b off n bs) :
    n = 0 ∨ ∃ b off, a = some ⟨b, off, none⟩ ∧ b < (wx.setCell ⟨N, j, none⟩ v).heap.size ∧ b ≠ N ∧ BytesAt (wx.setCell ⟨N, j, none⟩ v) b off n bs := by
  rcases row with h0 | ⟨k, off, e, hk, hn, hB⟩
  · exact Or.inl h0
  · exact Or.inr ⟨k, off, e, by simpa using hk, hn, fun i hi => ⟨by rw [World.cell?_setCell_other _ _ _ _ (by intro e; injection e with e1; omega)]; exact (hB i hi).1, (hB i hi).2⟩⟩
theorem RR.setP {N : Nat} {w1 wx : World} {a : Option Addr} {n cap p r : Nat} {bs : Nat → Nat} {fv : Option (Int × Int)} (h : RR N w1 a n cap bs p r fv wx) (p' : Nat) (h1 : p' ≤ n) (h2 : p ≤ p') : RR N w1 a n cap bs p' r fv (wx.setCell ⟨N, 1, none⟩ (.int .i64 (p' : Int))) := by
  obtain ⟨c0, c1, c2, c3, f1, f2, f3, row, nb, nc, pn, r8, rp, b, sz⟩ := h
  refine ⟨?_, World.cell?_setCell_same _ _ _ c1, ?_, ?_, by simpa using f1, by simpa using f2, by simpa using f3, RR.row_set row, nb, nc, h1, r8, fun h => by have := rp h; omega, b.setCell (p := ⟨N, 1, none⟩) (Nat.le_refl _) _, by simpa using sz⟩
  · rw [World.cell?_setCell_other _ _ _ _ (by simp)]; exact c0
  · rw [World.cell?_setCell_other _ _ _ _ (by simp)]; exact c2
  · rw [World.cell?_setCell_other _ _ _ _ (by simp)]; exact c3
theorem RR.setR {N : Nat} {w1 wx : World} {a : Option Addr} {n cap p r : Nat} {bs : Nat → Nat} {fv : Option (Int × Int)} (h : RR N w1 a n cap bs p r fv wx) (r' : Nat) (h1 : r' ≤ 8) (h2 : r' ≠ 0 → 0 < p) : RR N w1 a n cap bs p r' fv (wx.setCell ⟨N, 2, none⟩ (.int .i64 (r' : Int))) := by
  obtain ⟨c0, c1, c2, c3, f1, f2, f3, row, nb, nc, pn, r8, rp, b, sz⟩ := h
  refine ⟨?_, ?_, World.cell?_setCell_same _ _ _ c2, ?_, by simpa using f1, by simpa using f2, by simpa using f3, RR.row_set row, nb, nc, pn, h1, h2, b.setCell (p := ⟨N, 2, none⟩) (Nat.le_refl _) _, by simpa using sz⟩
  · rw [World.cell?_setCell_other _ _ _ _ (by simp)]; exact c0
  · rw [World.cell?_setCell_other _ _ _ _ (by simp)]; exact c1
  · rw [World.cell?_setCell_other _ _ _ _ (by simp)]; exact c3
theorem RR.setF {N : Nat} {w1 wx : World} {a : Option Addr} {n cap p r : Nat} {bs : Nat → Nat} {fv : Option (Int × Int)} (h : RR N w1 a n cap bs p r fv wx) (fv' : Option (Int × Int)) : RR N w1 a n cap bs p r fv' (wx.setCell ⟨N, 3, none⟩ (fvV fv')) := by
  obtain ⟨c0, c1, c2, c3, f1, f2, f3, row, nb, nc, pn, r8, rp, b, sz⟩ := h
  refine ⟨?_, ?_, ?_, World.cell?_setCell_same _ _ _ c3, by simpa using f1, by simpa using f2, by simpa using f3, RR.row_set row, nb, nc, pn, r8, rp, b.setCell (p := ⟨N, 3, none⟩) (Nat.le_refl _) _, by simpa using sz⟩
  · rw [World.cell?_setCell_other _ _ _ _ (by simp)]; exact c0
  · rw [World.cell?_setCell_other _ _ _ _ (by simp)]; exact c1
  · rw [World.cell?_setCell_other _ _ _ _ (by simp)]; exact c2
section
variable {N : Nat} {w1 : World} {a : Option Addr} {n cap p r : Nat} {bs : Nat → Nat} {fv : Option (Int × Int)} {w : World}
theorem sound_any (h : RR N w1 a n cap bs p r fv w) : Calls Tryd.prog 77 #[.pointer (some ⟨N, 0, none⟩)] w fun e w' => e = .returned (.bool fv.isNone) ∧ w' = w := by
  have c3 := h.c3
  clear h
  cases fv with
  | none =>
    simp only [fvV] at c3
    go_enter Tryd.func77, Tryd.ntmps77
    go_wp2
    go_ret
    exact ⟨rfl, rfl⟩
  | some x =>
    obtain ⟨q, e⟩ := x
    simp only [fvV] at c3
    go_enter Tryd.func77, Tryd.ntmps77
    go_wp2
    go_ret
    exact ⟨rfl, rfl⟩
theorem left_any (h : RR N w1 a n cap bs p r fv w) : Calls Tryd.prog 71 #[.pointer (some ⟨N, 0, none⟩)] w fun e w' => e = .returned (.int .i64 ((n : Int) - (p : Int))) ∧ RR N w1 a n cap bs p r fv w' ∧ RF N w w' := by
  have c0 := h.c0
  have c1 := h.c1
  have hp := h.pn
  have hn := h.nb
  have hle : (p : Int) ≤ (n : Int) := by omega
  go_enter Tryd.func71, Tryd.ntmps71
  go_wp2_with fail
  go_quiet (fail)
  go_wp2_with fail
  go_ret
  exact ⟨rfl, h.drewN _, RF.drewN _ _⟩
theorem pass_any (h : RR N w1 a n cap bs p r fv w) (m : Nat) (z : Int) (hz : z = (m : Int)) (hm : p + m ≤ n) : Calls Tryd.prog 72 #[.pointer (some ⟨N, 0, none⟩), .int .i64 z] w fun e w' => e = .returned undef ∧ RR N w1 a n cap bs (p + m) 0 fv w' ∧ RF N w w' := by
  subst hz
  have h1 := h.setP (p + m) hm (by omega)
  have h2 := h1.setR 0 (by omega) (fun h => absurd rfl h)
  have hF : RF N w _ := (RF.set w 1 (.int .i64 ((p + m : Nat) : Int))).trans (RF.set _ 2 (.int .i64 ((0 : Nat) : Int)))
  have c1 := h.c1
  have f1 := h.f1
  have f2 := h1.f2
  have d2 := h1.c2
  have hn := h.nb
  have h2H : Hid _ := h2
  have hFH : Hid _ := hF
  rw [show ((p + m : Nat) : Int) = (p : Int) + (m : Int) by omega] at d2 f2 h2H hFH
  have hle : (p : Int) + (m : Int) ≤ (n : Int) := by omega
  clear h2 hF h1 h
  go_enter Tryd.func72, Tryd.ntmps72
  go_wp2_with fail
  first | go_end0 | (simp only [Exit.inBlock, Exit.then]; refine bodyPost_ret (results_none rfl _ _ _) rfl ?_) | refine bodyPost_ret (results_none rfl _ _ _) rfl ?_
  exact ⟨rfl, h2H.out, hFH.out⟩
set_option maxRecDepth 100000 in
theorem ragged_any (h : RR N w1 a n cap bs p r fv w) : Calls Tryd.prog 78 #[.pointer (some ⟨N, 0, none⟩)] w fun e w' => e = .returned (.bool (decide (r ≠ 0 ∧ bs (p - 1) % 2 ^ r ≠ 0))) ∧ RR N w1 a n cap bs p r fv w' ∧ RF N w w' := by
  have c0 := h.c0
  have c1 := h.c1
  have c2 := h.c2
  by_cases hr : r = 0
  · have e0 : decide (r ≠ 0 ∧ bs (p - 1) % 2 ^ r ≠ 0) = false := by simp [hr]
    have hd : decide ((0 : Int) < (r : Int)) = false := by simp [hr]
    rw [e0]
    have hH : Hid _ := h
    clear h e0
    go_enter Tryd.func78, Tryd.ntmps78
    go_wp2_with fail
    go_quiet (fail)
    go_wp2_with fail
    go_ret
    exact ⟨rfl, hH.out.drewN _, RF.drewN _ _⟩
  · have hp := h.rp hr
    have hpn := h.pn
    have hnb := h.nb
    have h8 := h.r8
    rcases h.row with h0 | ⟨b, off, rfl, hb, hbN, hB⟩
    · omega
    obtain ⟨hc, hlt⟩ := hB (p - 1) (by omega)
    obtain ⟨p1, hp1⟩ : ∃ p1, p1 = p - 1 := ⟨_, rfl⟩
    rw [← hp1] at hc hlt ⊢
    obtain ⟨y, hy⟩ : ∃ y, y = bs p1 := ⟨_, rfl⟩
    rw [← hy] at hc hlt ⊢
    have hI : (0 : Int) < (r : Int) := by omega
    have hr0 : 0 < r := by omega
    have hpI : (p : Int) - 1 = (p1 : Int) := by omega
    have hp0 : (0 : Int) ≤ (p1 : Int) := by omega
    have hp2 : (p1 : Int) < (n : Int) := by omega
    have hlow : Hid (∀ k, Calls Tryd.prog 66 #[.int .u64 (y : Int), .int .i64 (r : Int)] (w.drewN k) fun e w' => e = .returned (.int .u8 ((y % 2 ^ r : Nat) : Int)) ∧ w' = w.drewN k) := fun k => lowest_any y r (by omega) (by omega) _
    have hH : Hid _ := h
    obtain ⟨M, hM⟩ : ∃ M, M = y % 2 ^ r := ⟨_, rfl⟩
    rw [← hM] at hlow ⊢
    have hbool : Hid (((M : Int) != 0) = decide (r ≠ 0 ∧ M ≠ 0)) := by
      show _ = _
      by_cases hm : M = 0
      · simp [hm]
      · have : ¬ ((M : Int) = 0) := by omega
        simp [hm, hr]
    clear h hy hp1 hM hB
    go_enter Tryd.func78, Tryd.ntmps78
    go_wp2_with fail
    go_quiet ((go_at_call 66; exact Calls.quiet_of_same (hlow.out _)))
    go_wp2_with fail
    go_ret
    exact ⟨by rw [← hbool.out]; rfl, hH.out.drewN _, RF.drewN _ _⟩
end
end Go.Proofs.YtepgcgphnjlcoaaDoor
