
import Derived.Test.YtipahdplkmmofaaGreatDoorWxB
import Derived.Test.YtipahdplkmmofaaGreatDoorWwBq
import Derived.BigQuiet
import Derived.Deep.QuietTactic
import Derived.Deep.RegionHeld3
import Derived.WalkSmall
namespace Go.Proofs.YtipahdplkmmofaaGreatDoor.Wi
open Go.RowKit
set_option linter.unusedVariables false
set_option linter.unusedSimpArgs false
def u32At (bs : Nat → Nat) (i : Nat) : Nat := bs i * 16777216 + bs (i + 1) * 65536 + bs (i + 2) * 256 + bs (i + 3)
theorem or_add (x y k : Nat) (hy : y < 2 ^ k) (hx : x * 2 ^ k + y < 4294967296) : bits .or .u32 ((x * 2 ^ k : Nat) : Int) (y : Int) = ((x * 2 ^ k + y : Nat) : Int) := by
  have h1 := u32_or_nat (x * 2 ^ k) y (by omega) (by omega)
  have h2 := Nat.two_pow_add_eq_or_of_lt hy x
  rw [Nat.mul_comm] at h2
  rw [h1, h2]
set_option maxRecDepth 100000 in
set_option maxHeartbeats 2000000 in
theorem unfour_any (H off len cap : Nat) (b0 b1 b2 b3 : Nat) (w : World) (h4 : 4 ≤ len) (h0 : w.cell? ⟨H, off, none⟩ = some (.int .u8 (b0 : Int))) (h1 : w.cell? ⟨H, off + 1, none⟩ = some (.int .u8 (b1 : Int))) (h2 : w.cell? ⟨H, off + 2, none⟩ = some (.int .u8 (b2 : Int))) (h3 : w.cell? ⟨H, off + 3, none⟩ = some (.int .u8 (b3 : Int)))
    (k0 : b0 < 256) (k1 : b1 < 256) (k2 : b2 < 256) (k3 : b3 < 256) :
    Calls Tryz.prog 59 #[.slice (some ⟨H, off, none⟩) len cap] w fun e w' => e = .returned (.int .u32 (b0 * 16777216 + b1 * 65536 + b2 * 256 + b3 : Nat)) ∧ w' = w.drew := by
  have l0 : (0 : Int) < (len : Int) := by omega
  have l00 : 0 < len := by omega
  have wb : IntKind.u32.wrap (b0 : Int) = (b0 : Int) := by rw [IntKind.wrap_u32]; omega
  have wm : IntKind.u32.wrap ((b0 : Int) * 16777216) = (b0 : Int) * 16777216 := by rw [IntKind.wrap_u32]; omega
  obtain ⟨r1, hr1⟩ : ∃ r : Nat, r = b0 * 256 + b1 := ⟨_, rfl⟩
  obtain ⟨r2, hr2⟩ : ∃ r : Nat, r = r1 * 256 + b2 := ⟨_, rfl⟩
  obtain ⟨r3, hr3⟩ : ∃ r : Nat, r = r2 * 256 + b3 := ⟨_, rfl⟩
  have e1 : bits .or .u32 ((b0 : Int) * 16777216) ((b1 : Int) * 65536) = (r1 : Int) * 65536 := by
    have := or_add b0 (b1 * 65536) 24 (by omega) (by omega)
    rw [show ((b0 * 2 ^ 24 : Nat) : Int) = (b0 : Int) * 16777216 by omega, show ((b1 * 65536 : Nat) : Int) = (b1 : Int) * 65536 by omega] at this
    rw [this]; omega
  have e2 : bits .or .u32 ((r1 : Int) * 65536) ((b2 : Int) * 256) = (r2 : Int) * 256 := by
    have := or_add r1 (b2 * 256) 16 (by omega) (by omega)
    rw [show ((r1 * 2 ^ 16 : Nat) : Int) = (r1 : Int) * 65536 by omega, show ((b2 * 256 : Nat) : Int) = (b2 : Int) * 256 by omega] at this
    rw [this]; omega
  have e3 : bits .or .u32 ((r2 : Int) * 256) (b3 : Int) = (r3 : Int) := by
    have := or_add r2 b3 8 (by omega) (by omega)
    rw [show ((r2 * 2 ^ 8 : Nat) : Int) = (r2 : Int) * 256 by omega] at this
    rw [this]; omega
  have hr : Hid (b0 * 16777216 + b1 * 65536 + b2 * 256 + b3 = r3) := by unfold Hid; omega
  clear hr1 hr2 hr3
  have wb1 : IntKind.u32.wrap (b1 : Int) = (b1 : Int) := by rw [IntKind.wrap_u32]; omega
  have wmb1 : IntKind.u32.wrap ((b1 : Int) * 65536) = (b1 : Int) * 65536 := by rw [IntKind.wrap_u32]; omega
  have wb2 : IntKind.u32.wrap (b2 : Int) = (b2 : Int) := by rw [IntKind.wrap_u32]; omega
  have wmb2 : IntKind.u32.wrap ((b2 : Int) * 256) = (b2 : Int) * 256 := by rw [IntKind.wrap_u32]; omega
  have wb3 : IntKind.u32.wrap (b3 : Int) = (b3 : Int) := by rw [IntKind.wrap_u32]; omega
  have l1 : (1 : Int) < (len : Int) := by omega
  have l2 : (2 : Int) < (len : Int) := by omega
  have l3 : (3 : Int) < (len : Int) := by omega
  go_enter Tryz.func59, Tryz.ntmps59
  go_wp2_with fail
  go_region_held3 (fun w' => w'.cell? ⟨H, off, none⟩ = some (.int .u8 (b0 : Int)) ∧ w'.cell? ⟨H, off + 1, none⟩ = some (.int .u8 (b1 : Int)) ∧ w'.cell? ⟨H, off + 2, none⟩ = some (.int .u8 (b2 : Int)) ∧ w'.cell? ⟨H, off + 3, none⟩ = some (.int .u8 (b3 : Int))) (go_keep) (fail)
  go_wp2_with fail
  go_ret
  refine ⟨?_, rfl⟩
  rw [hr.out]; first | rfl | (simp [go_sem, *]; done)
end Go.Proofs.YtipahdplkmmofaaGreatDoor.Wi

namespace Go.Proofs.YtipahdplkmmofaaGreatDoor.Wi
open Go.RowKit
set_option linter.unusedVariables false
set_option linter.unusedSimpArgs false
/-- the fault of a Reader. -/
def fvV : Option (Int × Int) → Value
  | none => .nilIface
  | some (p, e) => .iface 67 (.agg #[.int .i64 p, .iface 27 (.int .i64 e)])
/-- a Reader of the program's at block N, over n bytes: p of them were read, of the last one but for its lowest r bits. -/
structure RR (N : Nat) (w1 : World) (a : Option Addr) (n cap : Nat) (bs : Nat → Nat) (p r : Nat) (fv : Option (Int × Int)) (wx : World) : Prop where
  c0 : wx.cell? ⟨N, 0, none⟩ = some (.slice a n cap)
  c1 : wx.cell? ⟨N, 1, none⟩ = some (.int .i64 (p : Int))
  c2 : wx.cell? ⟨N, 2, none⟩ = some (.int .i64 (r : Int))
  c3 : wx.cell? ⟨N, 3, none⟩ = some (fvV fv)
  f1 : wx.frozen? ⟨N, 1, none⟩ = false
  f2 : wx.frozen? ⟨N, 2, none⟩ = false
  f3 : wx.frozen? ⟨N, 3, none⟩ = false
  row : n = 0 ∨ ∃ b off, a = some ⟨b, off, none⟩ ∧ b < wx.heap.size ∧ b ≠ N ∧ BytesAt wx b off n bs
  nb : n ≤ 140737488355327
  nc : n ≤ cap
  pn : p ≤ n
  r8 : r ≤ 8
  rp : r ≠ 0 → 0 < p
  b : Below N w1 wx
  sz : N < wx.heap.size
/-- what a Reader at N leaves alone. -/
structure RF (N : Nat) (w w' : World) : Prop where
  size : w.heap.size ≤ w'.heap.size
  keep : ∀ k, k < w.heap.size → k ≠ N → w'.heap[k]? = w.heap[k]?
theorem RF.refl (N : Nat) (w : World) : RF N w w := ⟨Nat.le_refl _, fun _ _ _ => rfl⟩
theorem RF.trans {N : Nat} {w w1 w2 : World} (h : RF N w w1) (k : RF N w1 w2) : RF N w w2 :=
  ⟨Nat.le_trans h.size k.size, fun j hj hn => by rw [k.keep j (Nat.lt_of_lt_of_le hj h.size) hn]; exact h.keep j hj hn⟩
theorem RF.below {N : Nat} {w w' : World} (h : Below w.heap.size w w') : RF N w w' := ⟨h.size, fun k hk _ => h.block k hk⟩
theorem RF.set {N : Nat} (w : World) (j : Nat) (v : Value) : RF N w (w.setCell ⟨N, j, none⟩ v) := ⟨by simp, fun k hk hn => Below.heap_setCell _ _ _ _ hn⟩
theorem RF.drewN {N : Nat} (w : World) (n : Nat) : RF N w (w.drewN n) := ⟨Nat.le_refl _, fun _ _ _ => rfl⟩
theorem RR.below {N : Nat} {w1 wx w' : World} {a : Option Addr} {n cap p r : Nat} {bs : Nat → Nat} {fv : Option (Int × Int)} (h : RR N w1 a n cap bs p r fv wx) (hb : Below wx.heap.size wx w') : RR N w1 a n cap bs p r fv w' := by
  obtain ⟨c0, c1, c2, c3, f1, f2, f3, row, nb, nc, pn, r8, rp, b, sz⟩ := h
  refine ⟨?_, ?_, ?_, ?_, ?_, ?_, ?_, ?_, nb, nc, pn, r8, rp, b.trans (hb.mono (by omega)), Nat.lt_of_lt_of_le sz hb.size⟩
  · rw [hb.cell (p := ⟨N, 0, none⟩) sz]; exact c0
  · rw [hb.cell (p := ⟨N, 1, none⟩) sz]; exact c1
  · rw [hb.cell (p := ⟨N, 2, none⟩) sz]; exact c2
  · rw [hb.cell (p := ⟨N, 3, none⟩) sz]; exact c3
  · rw [hb.frozen (p := ⟨N, 1, none⟩) sz]; exact f1
  · rw [hb.frozen (p := ⟨N, 2, none⟩) sz]; exact f2
  · rw [hb.frozen (p := ⟨N, 3, none⟩) sz]; exact f3
  · rcases row with h0 | ⟨k, off, e, hk, hn, hB⟩
    · exact Or.inl h0
    · exact Or.inr ⟨k, off, e, Nat.lt_of_lt_of_le hk hb.size, hn, hB.below hb hk⟩
theorem RR.drewN {N : Nat} {w1 wx : World} {a : Option Addr} {n cap p r : Nat} {bs : Nat → Nat} {fv : Option (Int × Int)} (h : RR N w1 a n cap bs p r fv wx) (k : Nat) : RR N w1 a n cap bs p r fv (wx.drewN k) :=
  h.below (below_drewN (Below.refl _ _) _)
theorem RR.row_set {N j : Nat} {wx : World} {a : Option Addr} {n : Nat} {bs : Nat → Nat} {v : Value} (row : n = 0 ∨ ∃ b off, a = some ⟨b, off, none⟩ ∧ b < wx.heap.size ∧ b ≠ N ∧ BytesAt wx b off n bs) :
    n = 0 ∨ ∃ b off, a = some ⟨b, off, none⟩ ∧ b < (wx.setCell ⟨N, j, none⟩ v).heap.size ∧ b ≠ N ∧ BytesAt (wx.setCell ⟨N, j, none⟩ v) b off n bs := by
  rcases row with h0 | ⟨k, off, e, hk, hn, hB⟩
  · exact Or.inl h0
  · exact Or.inr ⟨k, off, e, by simpa using hk, hn, fun i hi => ⟨by rw [World.cell?_setCell_other _ _ _ _ (by intro e; injection e with e1; omega)]; exact (hB i hi).1, (hB i hi).2⟩⟩
theorem RR.setP {N : Nat} {w1 wx : World} {a : Option Addr} {n cap p r : Nat} {bs : Nat → Nat} {fv : Option (Int × Int)} (h : RR N w1 a n cap bs p r fv wx) (p' : Nat) (h1 : p' ≤ n) (h2 : p ≤ p') : RR N w1 a n cap bs p' r fv (wx.setCell ⟨N, 1, none⟩ (.int .i64 (p' : Int))) := by
  obtain ⟨c0, c1, c2, c3, f1, f2, f3, row, nb, nc, pn, r8, rp, b, sz⟩ := h
  refine ⟨?_, World.cell?_setCell_same _ _ _ c1, ?_, ?_, by simpa using f1, by simpa using f2, by simpa using f3, RR.row_set row, nb, nc, h1, r8, fun h => by have := rp h; omega, b.setCell (p := ⟨N, 1, none⟩) (Nat.le_refl _) _, by simpa using sz⟩
  · rw [World.cell?_setCell_other _ _ _ _ (by simp)]; exact c0
  · rw [World.cell?_setCell_other _ _ _ _ (by simp)]; exact c2
  · rw [World.cell?_setCell_other _ _ _ _ (by simp)]; exact c3
theorem RR.setR {N : Nat} {w1 wx : World} {a : Option Addr} {n cap p r : Nat} {bs : Nat → Nat} {fv : Option (Int × Int)} (h : RR N w1 a n cap bs p r fv wx) (r' : Nat) (h1 : r' ≤ 8) (h2 : r' ≠ 0 → 0 < p) : RR N w1 a n cap bs p r' fv (wx.setCell ⟨N, 2, none⟩ (.int .i64 (r' : Int))) := by
  obtain ⟨c0, c1, c2, c3, f1, f2, f3, row, nb, nc, pn, r8, rp, b, sz⟩ := h
  refine ⟨?_, ?_, World.cell?_setCell_same _ _ _ c2, ?_, by simpa using f1, by simpa using f2, by simpa using f3, RR.row_set row, nb, nc, pn, h1, h2, b.setCell (p := ⟨N, 2, none⟩) (Nat.le_refl _) _, by simpa using sz⟩
  · rw [World.cell?_setCell_other _ _ _ _ (by simp)]; exact c0
  · rw [World.cell?_setCell_other _ _ _ _ (by simp)]; exact c1
  · rw [World.cell?_setCell_other _ _ _ _ (by simp)]; exact c3
theorem RR.setF {N : Nat} {w1 wx : World} {a : Option Addr} {n cap p r : Nat} {bs : Nat → Nat} {fv : Option (Int × Int)} (h : RR N w1 a n cap bs p r fv wx) (fv' : Option (Int × Int)) : RR N w1 a n cap bs p r fv' (wx.setCell ⟨N, 3, none⟩ (fvV fv')) := by
  obtain ⟨c0, c1, c2, c3, f1, f2, f3, row, nb, nc, pn, r8, rp, b, sz⟩ := h
  refine ⟨?_, ?_, ?_, World.cell?_setCell_same _ _ _ c3, by simpa using f1, by simpa using f2, by simpa using f3, RR.row_set row, nb, nc, pn, r8, rp, b.setCell (p := ⟨N, 3, none⟩) (Nat.le_refl _) _, by simpa using sz⟩
  · rw [World.cell?_setCell_other _ _ _ _ (by simp)]; exact c0
  · rw [World.cell?_setCell_other _ _ _ _ (by simp)]; exact c1
  · rw [World.cell?_setCell_other _ _ _ _ (by simp)]; exact c2
section
variable {N : Nat} {w1 : World} {a : Option Addr} {n cap p r : Nat} {bs : Nat → Nat} {fv : Option (Int × Int)} {w : World}
theorem sound_any (h : RR N w1 a n cap bs p r fv w) : Calls Tryz.prog 61 #[.pointer (some ⟨N, 0, none⟩)] w fun e w' => e = .returned (.bool fv.isNone) ∧ w' = w := by
  have c3 := h.c3
  clear h
  cases fv with
  | none =>
    simp only [fvV] at c3
    go_enter Tryz.func61, Tryz.ntmps61
    go_wp2
    go_ret
    exact ⟨rfl, rfl⟩
  | some x =>
    obtain ⟨q, e⟩ := x
    simp only [fvV] at c3
    go_enter Tryz.func61, Tryz.ntmps61
    go_wp2
    go_ret
    exact ⟨rfl, rfl⟩
theorem left_any (h : RR N w1 a n cap bs p r fv w) : Calls Tryz.prog 64 #[.pointer (some ⟨N, 0, none⟩)] w fun e w' => e = .returned (.int .i64 ((n : Int) - (p : Int))) ∧ RR N w1 a n cap bs p r fv w' ∧ RF N w w' := by
  have c0 := h.c0
  have c1 := h.c1
  have hp := h.pn
  have hn := h.nb
  have hle : (p : Int) ≤ (n : Int) := by omega
  go_enter Tryz.func64, Tryz.ntmps64
  go_wp2_with fail
  go_quiet (fail)
  go_wp2_with fail
  go_ret
  exact ⟨rfl, h.drewN _, RF.drewN _ _⟩
theorem pass_any (h : RR N w1 a n cap bs p r fv w) (m : Nat) (z : Int) (hz : z = (m : Int)) (hm : p + m ≤ n) : Calls Tryz.prog 99 #[.pointer (some ⟨N, 0, none⟩), .int .i64 z] w fun e w' => e = .returned undef ∧ RR N w1 a n cap bs (p + m) 0 fv w' ∧ RF N w w' := by
  subst hz
  have h1 := h.setP (p + m) hm (by omega)
  have h2 := h1.setR 0 (by omega) (fun h => absurd rfl h)
  have hF : RF N w _ := (RF.set w 1 (.int .i64 ((p + m : Nat) : Int))).trans (RF.set _ 2 (.int .i64 ((0 : Nat) : Int)))
  have c1 := h.c1
  have f1 := h.f1
  have f2 := h1.f2
  have d2 := h1.c2
  have hn := h.nb
  have h2H : Hid _ := h2
  have hFH : Hid _ := hF
  rw [show ((p + m : Nat) : Int) = (p : Int) + (m : Int) by omega] at d2 f2 h2H hFH
  have hle : (p : Int) + (m : Int) ≤ (n : Int) := by omega
  clear h2 hF h1 h
  go_enter Tryz.func99, Tryz.ntmps99
  go_wp2_with fail
  first | go_end0 | (simp only [Exit.inBlock, Exit.then]; refine bodyPost_ret (results_none rfl _ _ _) rfl ?_) | refine bodyPost_ret (results_none rfl _ _ _) rfl ?_
  exact ⟨rfl, h2H.out, hFH.out⟩
set_option maxRecDepth 100000 in
theorem ragged_any (h : RR N w1 a n cap bs p r fv w) : Calls Tryz.prog 63 #[.pointer (some ⟨N, 0, none⟩)] w fun e w' => e = .returned (.bool (decide (r ≠ 0 ∧ bs (p - 1) % 2 ^ r ≠ 0))) ∧ RR N w1 a n cap bs p r fv w' ∧ RF N w w' := by
  have c0 := h.c0
  have c1 := h.c1
  have c2 := h.c2
  by_cases hr : r = 0
  · have e0 : decide (r ≠ 0 ∧ bs (p - 1) % 2 ^ r ≠ 0) = false := by simp [hr]
    have hd : decide ((0 : Int) < (r : Int)) = false := by simp [hr]
    rw [e0]
    have hH : Hid _ := h
    clear h e0
    go_enter Tryz.func63, Tryz.ntmps63
    go_wp2_with fail
    go_quiet (fail)
    go_wp2_with fail
    go_ret
    exact ⟨rfl, hH.out.drewN _, RF.drewN _ _⟩
  · have hp := h.rp hr
    have hpn := h.pn
    have hnb := h.nb
    have h8 := h.r8
    rcases h.row with h0 | ⟨b, off, rfl, hb, hbN, hB⟩
    · omega
    obtain ⟨hc, hlt⟩ := hB (p - 1) (by omega)
    obtain ⟨p1, hp1⟩ : ∃ p1, p1 = p - 1 := ⟨_, rfl⟩
    rw [← hp1] at hc hlt ⊢
    obtain ⟨y, hy⟩ : ∃ y, y = bs p1 := ⟨_, rfl⟩
    rw [← hy] at hc hlt ⊢
    have hI : (0 : Int) < (r : Int) := by omega
    have hr0 : 0 < r := by omega
    have hpI : (p : Int) - 1 = (p1 : Int) := by omega
    have hp0 : (0 : Int) ≤ (p1 : Int) := by omega
    have hp2 : (p1 : Int) < (n : Int) := by omega
    have hlow : Hid (∀ k, Calls Tryz.prog 100 #[.int .u64 (y : Int), .int .i64 (r : Int)] (w.drewN k) fun e w' => e = .returned (.int .u8 ((y % 2 ^ r : Nat) : Int)) ∧ w' = w.drewN k) := fun k => lowest_any y r (by omega) (by omega) _
    have hH : Hid _ := h
    obtain ⟨M, hM⟩ : ∃ M, M = y % 2 ^ r := ⟨_, rfl⟩
    rw [← hM] at hlow ⊢
    have hbool : Hid (((M : Int) != 0) = decide (r ≠ 0 ∧ M ≠ 0)) := by
      show _ = _
      by_cases hm : M = 0
      · simp [hm]
      · have : ¬ ((M : Int) = 0) := by omega
        simp [hm, hr]
    clear h hy hp1 hM hB
    go_enter Tryz.func63, Tryz.ntmps63
    go_wp2_with fail
    go_quiet ((go_at_call 100; exact Calls.quiet_of_same (hlow.out _)))
    go_wp2_with fail
    go_ret
    exact ⟨by rw [← hbool.out]; rfl, hH.out.drewN _, RF.drewN _ _⟩
end
end Go.Proofs.YtipahdplkmmofaaGreatDoor.Wi

namespace Go.Proofs.YtipahdplkmmofaaGreatDoor.Wi
open Go.RowKit
set_option linter.unusedVariables false
set_option linter.unusedSimpArgs false
section
variable {N : Nat} {w1 : World} {a : Option Addr} {n cap p r : Nat} {bs : Nat → Nat} {w : World}
theorem starts_ok (h : RR N w1 a n cap bs p r none w) (hr : ¬ (r ≠ 0 ∧ bs (p - 1) % 2 ^ r ≠ 0)) : Calls Tryz.prog 131 #[.pointer (some ⟨N, 0, none⟩)] w fun e w' => e = .returned (.bool true) ∧ RR N w1 a n cap bs p r none w' ∧ RF N w w' := by
  have hd : decide (r ≠ 0 ∧ bs (p - 1) % 2 ^ r ≠ 0) = false := decide_eq_false hr
  have hS : Hid _ := sound_any h
  have hR := ragged_any h
  rw [hd] at hR
  have hRH : Hid _ := hR
  clear hR hd h hr
  go_enter Tryz.func131, Tryz.ntmps131
  go_wp2_with fail
  refine Calls.mono hS.out ?_
  rintro e w2 ⟨rfl, hw2⟩
  have hw3 := hw2.symm
  subst hw3
  go_wp2_with fail
  refine Calls.mono hRH.out ?_
  rintro e w3 ⟨rfl, h3, F3⟩
  go_wp2_with fail
  go_ret
  exact ⟨rfl, h3, F3⟩
theorem has_ok (h : RR N w1 a n cap bs p r none w) (m : Nat) (z : Int) (hz : z = (m : Int)) (hm : p + m ≤ n) : Calls Tryz.prog 132 #[.pointer (some ⟨N, 0, none⟩), .int .i64 z] w fun e w' => e = .returned (.bool true) ∧ RR N w1 a n cap bs p r none w' ∧ RF N w w' := by
  subst hz
  have hL : Hid _ := left_any h
  have hI : ¬ (n : Int) - (p : Int) < (m : Int) := by omega
  clear h
  go_enter Tryz.func132, Tryz.ntmps132
  go_wp2_with fail
  refine Calls.mono hL.out ?_
  rintro e w3 ⟨rfl, h3, F3⟩
  go_wp2_with fail
  go_ret
  exact ⟨rfl, h3, F3⟩
end
end Go.Proofs.YtipahdplkmmofaaGreatDoor.Wi

namespace Go.Proofs.YtipahdplkmmofaaGreatDoor.Wi
open Go.RowKit
set_option linter.unusedVariables false
set_option linter.unusedSimpArgs false
theorem uBf_pos (f v : Nat) : 0 < (uBf f v).length := by cases f <;> unfold uBf <;> (try split) <;> simp
theorem uBf_get : ∀ (f v : Nat), v < 128 ^ (f + 1) → ∀ s, s < (uBf f v).length →
    (s + 1 < (uBf f v).length ∧ (uBf f v).getD s 0 = v / 128 ^ s % 128 + 128 ∧ 128 ^ (s + 1) ≤ v) ∨ (s + 1 = (uBf f v).length ∧ (uBf f v).getD s 0 = v / 128 ^ s ∧ v / 128 ^ s < 128 ∧ (s ≠ 0 → 128 ^ s ≤ v)) := by
  intro f
  induction f with
  | zero =>
    intro v hv s hs
    simp [uBf] at hs
    subst hs
    exact Or.inr ⟨by simp [uBf], by simp [uBf], by simpa using hv, fun h => absurd rfl h⟩
  | succ f ih =>
    intro v hv s hs
    unfold uBf at hs ⊢
    by_cases h : v < 128
    · rw [if_pos h] at hs ⊢
      simp at hs
      subst hs
      exact Or.inr ⟨by simp, by simp, by simpa using h, fun h => absurd rfl h⟩
    · rw [if_neg h] at hs ⊢
      have hp := uBf_pos f (v / 128)
      rcases s with _ | s
      · refine Or.inl ⟨by simp; omega, by simp, by simp; omega⟩
      · have hd : v / 128 < 128 ^ (f + 1) := by rw [Nat.div_lt_iff_lt_mul (by omega)]; rw [Nat.pow_succ] at hv; omega
        have e : v / 128 / 128 ^ s = v / 128 ^ (s + 1) := by rw [Nat.div_div_eq_div_mul, Nat.pow_succ, Nat.mul_comm]
        rcases ih (v / 128) hd s (by simpa using hs) with ⟨g1, g2, g3⟩ | ⟨g1, g2, g3, g4⟩
        · refine Or.inl ⟨by simp; omega, by rw [List.getD_cons_succ, g2, e], ?_⟩
          rw [Nat.le_div_iff_mul_le (by omega)] at g3
          rw [Nat.pow_succ]; exact g3
        · refine Or.inr ⟨by simp; omega, by rw [List.getD_cons_succ, g2, e], by rw [← e]; exact g3, fun _ => ?_⟩
          by_cases hs0 : s = 0
          · subst hs0; simp; omega
          · have := g4 hs0
            rw [Nat.le_div_iff_mul_le (by omega)] at this
            rw [Nat.pow_succ]; exact this
theorem p128 (s : Nat) : 128 ^ s = 2 ^ (7 * s) := by rw [Nat.pow_mul]
/-- a number's next seven bits. -/
theorem num_or (x s : Nat) (hx : x < 18446744073709551616) (hs : s ≤ 9) (y : Nat) (hy : y = x / 128 ^ s % 128) : y * 2 ^ (7 * s) < 18446744073709551616 ∧ (x % 128 ^ s) ||| (y * 2 ^ (7 * s)) = x % 128 ^ (s + 1) := by
  have h1 : x % 128 ^ (s + 1) = x % 128 ^ s + 128 ^ s * (x / 128 ^ s % 128) := Nat.mod_pow_succ
  have h2 : x % 128 ^ s < 2 ^ (7 * s) := by rw [← p128]; exact Nat.mod_lt _ (Nat.pow_pos (by omega))
  have h3 := Nat.two_pow_add_eq_or_of_lt h2 y
  have h4 : y * 2 ^ (7 * s) = 128 ^ s * (x / 128 ^ s % 128) := by rw [hy, Nat.mul_comm, p128]
  have h5 : x % 128 ^ (s + 1) ≤ x := Nat.mod_le _ _
  refine ⟨by omega, ?_⟩
  rw [Nat.or_comm, Nat.mul_comm, ← h3, h1, ← h4]
  rw [Nat.mul_comm]; omega
section
variable {N : Nat} {w1 : World} {a : Option Addr} {n cap p r : Nat} {bs : Nat → Nat} {w : World}
set_option maxRecDepth 100000 in
set_option maxHeartbeats 4000000 in
theorem number_ok (h : RR N w1 a n cap bs p r none w) (hr : ¬ (r ≠ 0 ∧ bs (p - 1) % 2 ^ r ≠ 0)) (x : Nat) (hx : x < 18446744073709551616) (hm : p + (uB x).length ≤ n) (hbs : ∀ i, i < (uB x).length → bs (p + i) = (uB x).getD i 0) :
    Calls Tryz.prog 97 #[.pointer (some ⟨N, 0, none⟩)] w fun e w' => e = .returned (.tuple #[.int .u64 (x : Int), .int .i64 ((uB x).length : Int)]) ∧ RR N w1 a n cap bs p r none w' ∧ RF N w w' := by
  have hS : Hid _ := starts_ok h hr
  have hl10 : (uB x).length ≤ 11 := uBf_len 10 x
  have hg : Hid (∀ s, s < (uB x).length → _) := uBf_get 10 x (by omega)
  have hbsH : Hid _ := hbs
  clear h hr hbs
  go_enter Tryz.func97, Tryz.ntmps97
  go_wp2_with fail
  refine Calls.mono hS.out ?_
  rintro e w2 ⟨rfl, h2, F2⟩
  go_wp2_with fail
  have hx10 : Hid (x / 128 ^ 9 ≤ 1) := (by omega : x / 128 ^ 9 ≤ 1)
  go_loopw [2, 3] (fun v s wr => ∃ k : Nat, k < (uB x).length ∧ v = .int .u64 ((x % 128 ^ k : Nat) : Int) ∧ s = .int .i64 (k : Int) ∧ RR N w1 a n cap bs p r none wr ∧ RF N w wr) (fun _ s _ => (uB x).length - (intOf s).toNat)
  case atStart => exact ⟨0, uBf_pos 10 x, by simp [Nat.mod_one], rfl, h2, F2⟩
  case round =>
    clear h2 F2
    obtain ⟨k, hk, rfl, rfl, hW, hF⟩ := hrel
    have hH : Hid _ := has_ok hW (k + 1) ((k : Int) + 1) (by omega) (by omega)
    have hgk := hg.out k hk
    have hby := hbsH.out k hk
    have hnn := hW.nb
    obtain ⟨V, hV0⟩ : ∃ V, V = x % 128 ^ k := ⟨_, rfl⟩
    rw [← hV0]
    have hVH : Hid _ := hV0
    clear hW hV0
    go_wp2_with fail
    refine Calls.mono hH.out ?_
    rintro e w3 ⟨rfl, h3, F3⟩
    have c0 := h3.c0
    have c1 := h3.c1
    rcases h3.row with h0 | ⟨b, off, rfl, hb, hbN, hB⟩
    · omega
    obtain ⟨q, hq⟩ : ∃ q, q = p + k := ⟨_, rfl⟩
    rw [← hq] at hby
    obtain ⟨hc, hylt⟩ := hB q (by omega)
    obtain ⟨y, hy⟩ : ∃ y, y = bs q := ⟨_, rfl⟩
    rw [← hy] at hc hylt hby
    have hqI : (p : Int) + (k : Int) = (q : Int) := by omega
    have hq0 : (0 : Int) ≤ (q : Int) := by omega
    have hqn : (q : Int) < (n : Int) := by omega
    obtain ⟨t, ht⟩ : ∃ t, t = 7 * k := ⟨_, rfl⟩
    have htI : (7 : Int) * (k : Int) = (t : Int) := by omega
    have hk9 : k ≤ 10 := by omega
    have hlen : (uB x).length = (uBf 10 x).length := rfl
    have hfacts : k ≤ 9 ∧ y % 128 = x / 128 ^ k % 128 ∧ (k = 9 → y = 1) ∧ (k ≠ 0 → y ≠ 0) ∧ ((y < 128 ∧ k + 1 = (uB x).length ∧ x % 128 ^ (k + 1) = x) ∨ (128 ≤ y ∧ k + 1 < (uB x).length)) := by
      have hub : (uB x).getD k 0 = (uBf 10 x).getD k 0 := rfl
      rw [hub] at hby
      rcases hgk with ⟨g1, g2, g3⟩ | ⟨g1, g2, g3, g4⟩
      · have h9 : k < 9 := by
          rcases Nat.lt_or_ge k 9 with h | h
          · exact h
          · have : 128 ^ (9 + 1) ≤ 128 ^ (k + 1) := Nat.pow_le_pow_right (by omega) (by omega)
            omega
        rw [g2] at hby
        have : x / 128 ^ k % 128 < 128 := Nat.mod_lt _ (by omega)
        exact ⟨by omega, by omega, by omega, by omega, Or.inr ⟨by omega, by omega⟩⟩
      · rw [g2] at hby
        have hk9' : k ≤ 9 := by
          rcases Nat.lt_or_ge 9 k with h | h
          · have h1 := g4 (by omega)
            have : 128 ^ (9 + 1) ≤ 128 ^ k := Nat.pow_le_pow_right (by omega) (by omega)
            omega
          · exact h
        have hpos : k ≠ 0 → 0 < x / 128 ^ k := fun h => Nat.div_pos (g4 h) (Nat.pow_pos (by omega))
        refine ⟨hk9', by rw [hby], fun h => ?_, fun h => by have := hpos h; omega, Or.inl ⟨by omega, by omega, ?_⟩⟩
        · subst h; have := hx10.out; have := hpos (by omega); omega
        · refine Nat.mod_eq_of_lt ?_
          rw [Nat.pow_succ, Nat.mul_comm]; exact (Nat.div_lt_iff_lt_mul (Nat.pow_pos (by omega))).1 g3
    obtain ⟨k9, hyx, hy9, hy0, hend⟩ := hfacts
    obtain ⟨ho1, ho2⟩ := num_or x k hx k9 (y % 128) hyx
    obtain ⟨Y, hY⟩ : ∃ Y, Y = y % 128 := ⟨_, rfl⟩
    obtain ⟨V2, hV2⟩ : ∃ V, V = x % 128 ^ (k + 1) := ⟨_, rfl⟩
    rw [← hY, ← ht] at ho1 ho2
    have hV := hVH.out
    rw [← hV, ← hV2] at ho2
    obtain ⟨D, hD⟩ : ∃ D, D = Y * 2 ^ t := ⟨_, rfl⟩
    rw [← hD] at ho1 ho2
    have hVlt : V < 18446744073709551616 := by rw [hV]; exact Nat.lt_of_le_of_lt (Nat.mod_le _ _) hx
    have hand : bits .and .u8 (y : Int) 127 = (Y : Int) := by
      have h7 := u8_and_nat y 127 hylt (by omega)
      rw [show (127 : Nat) = 2 ^ 7 - 1 from rfl, Nat.and_two_pow_sub_one_eq_mod] at h7
      rw [hY]; exact h7
    have hshl : IntKind.u64.wrap ((Y : Int) * 2 ^ t) = (D : Int) := by
      rw [show ((Y : Int) * 2 ^ t) = (D : Int) by rw [hD]; simp, IntKind.wrap_u64]; omega
    have hor : bits .or .u64 (V : Int) (D : Int) = (V2 : Int) := by rw [u64_or_nat V D hVlt ho1, ho2]
    have hV2H : Hid _ := hV2
    have htH : Hid _ := ht
    have hyI0 : (0 : Int) ≤ (y : Int) := by omega
    have hFF : RF N w w3 := hF.trans F3
    have h3H : Hid _ := h3
    have hYlt : Y < 128 := by rw [hY]; exact Nat.mod_lt _ (by omega)
    clear hV hVH hV2 hD hY ht hq hy hgk hby ho1 ho2 hB h3 hlen hF F3 hH hyx
    have hwY : IntKind.u64.wrap (Y : Int) = (Y : Int) := by rw [IntKind.wrap_u64]; omega
    have hy9' : k ≠ 9 ∨ y = 1 := by
      by_cases h : k = 9
      · exact Or.inr (hy9 h)
      · exact Or.inl h
    have hy0' : k = 0 ∨ 1 ≤ y := by
      by_cases h : k = 0
      · exact Or.inl h
      · exact Or.inr (by have := hy0 h; omega)
    have hyc : Hid _ := And.intro hy9' hy0'
    have hs9 : Hid (k = 9 → bits .or .u64 (V : Int) (IntKind.u64.wrap ((Y : Int) * 9223372036854775808)) = (V2 : Int)) := fun h9 => by
      have ht63 : t = 63 := by have := htH.out; omega
      have hs : IntKind.u64.wrap ((Y : Int) * 9223372036854775808) = (D : Int) := by have h := hshl; rw [ht63] at h; exact h
      rw [hs]; exact hor
    clear hy9 hy0 hy9' hy0'
    go_wp2_with fail
    go_quiet (fail)
    rcases hend with ⟨e1, e2, e3⟩ | ⟨e1, e2⟩
    · have e1I : (y : Int) < 128 := by omega
      have e3H : Hid _ := e3
      have e2H : Hid _ := e2
      clear e3 e2
      go_wp2_with fail
      all_goals first
        | (exfalso; have := hyc.out; omega)
        | (exfalso; have := hyc.out; simp only [beq_iff_eq] at *; omega)
        | (simp [bodyPost, results, Tryz.results97, go_sem]; exact ⟨⟨by rw [hV2H.out, e3H.out], by rw [← e2H.out]; omega⟩, h3H.out.drewN _, hFF.trans (RF.drewN _ _)⟩)
        | (simp [bodyPost, results, Tryz.results97, go_sem]; exact ⟨⟨by rw [hs9.out (by omega), hV2H.out, e3H.out], by rw [← e2H.out]; omega⟩, h3H.out.drewN _, hFF.trans (RF.drewN _ _)⟩)
    · have e1I : ¬ (y : Int) < 128 := by omega
      have e2H : Hid _ := e2
      clear e2
      go_wp2_with fail
      all_goals first
        | (exfalso; have := hyc.out; omega)
        | (exfalso; have := hyc.out; simp only [beq_iff_eq] at *; omega)
        | (go_roundw; exact ⟨k + 1, e2H.out, by rw [hV2H.out], by go_num, h3H.out.drewN _, hFF.trans (RF.drewN _ _)⟩; (simp [intOf]; omega))
end
end Go.Proofs.YtipahdplkmmofaaGreatDoor.Wi
