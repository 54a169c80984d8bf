
import Derived.Test.YtlcpkbllpkgihaaDoorRwB
import Derived.Test.YtlcpkbllpkgihaaDoorRgM
import Derived.BigQuiet
namespace Go.Proofs.YtlcpkbllpkgihaaDoor
open Go.RowKit
set_option linter.unusedVariables false
set_option linter.unusedSimpArgs false
/-- the number and the place of a fault, as the document has them. -/
def fcd : Option (Int × Int) → Int
  | none => 0
  | some x => x.2
def fpl : Option (Int × Int) → Int
  | none => 0
  | some x => x.1
/-- the document's Reader at block N. -/
structure QR (N : Nat) (w1 : World) (a : Option Addr) (n cap : Nat) (bs : Nat → Nat) (p r : Nat) (fv : Option (Int × Int)) (wx : World) : Prop where
  c0 : wx.cell? ⟨N, 0, none⟩ = some (.slice a n cap)
  c1 : wx.cell? ⟨N, 1, none⟩ = some (.int .i64 (p : Int))
  c2 : wx.cell? ⟨N, 2, none⟩ = some (.int .i64 (((8 - r) % 8 : Nat) : Int))
  c3 : wx.cell? ⟨N, 3, none⟩ = some (.int .i64 (fcd fv))
  c4 : wx.cell? ⟨N, 4, none⟩ = some (.int .i64 (fpl fv))
  c5 : wx.cell? ⟨N, 5, none⟩ = some (.int .i64 0)
  c6 : wx.cell? ⟨N, 6, none⟩ = some (.bool fv.isSome)
  c7 : wx.cell? ⟨N, 7, none⟩ = some (.bool false)
  f1 : wx.frozen? ⟨N, 1, none⟩ = false
  f2 : wx.frozen? ⟨N, 2, none⟩ = false
  f3 : wx.frozen? ⟨N, 3, none⟩ = false
  f4 : wx.frozen? ⟨N, 4, none⟩ = false
  f5 : wx.frozen? ⟨N, 5, none⟩ = false
  f6 : wx.frozen? ⟨N, 6, none⟩ = false
  f7 : wx.frozen? ⟨N, 7, none⟩ = false
  row : n = 0 ∨ ∃ b off, a = some ⟨b, off, none⟩ ∧ b < wx.heap.size ∧ b ≠ N ∧ BytesAt wx b off n bs
  nb : n ≤ 140737488355327
  nc : n ≤ cap
  pn : p ≤ n
  r8 : r < 8
  rp : r ≠ 0 → 0 < p
  fe : ∀ x, fv = some x → (x.2 == 0) = false
  b : Below N w1 wx
  sz : N < wx.heap.size
theorem QR.of {N : Nat} {w1 w2 wx w' : World} {a : Option Addr} {n cap p r : Nat} {bs : Nat → Nat} {fv : Option (Int × Int)} (h : QR N w1 a n cap bs p r fv wx) (hk : w'.heap[N]? = wx.heap[N]?) (hrow : n = 0 ∨ ∀ b off, a = some ⟨b, off, none⟩ → w'.heap[b]? = wx.heap[b]?) (hs : wx.heap.size ≤ w'.heap.size) (hb : Below N w2 w') : QR N w2 a n cap bs p r fv w' := by
  obtain ⟨c0, c1, c2, c3, c4, c5, c6, c7, f1, f2, f3, f4, f5, f6, f7, row, nb, nc, pn, r8, rp, fe, b, sz⟩ := h
  refine ⟨?_, ?_, ?_, ?_, ?_, ?_, ?_, ?_, ?_, ?_, ?_, ?_, ?_, ?_, ?_, ?_, nb, nc, pn, r8, rp, fe, hb, Nat.lt_of_lt_of_le sz hs⟩
  · rw [World.cell?_of_block (w := wx) hk]; exact c0
  · rw [World.cell?_of_block (w := wx) hk]; exact c1
  · rw [World.cell?_of_block (w := wx) hk]; exact c2
  · rw [World.cell?_of_block (w := wx) hk]; exact c3
  · rw [World.cell?_of_block (w := wx) hk]; exact c4
  · rw [World.cell?_of_block (w := wx) hk]; exact c5
  · rw [World.cell?_of_block (w := wx) hk]; exact c6
  · rw [World.cell?_of_block (w := wx) hk]; exact c7
  · rw [World.frozen?_of_block (w := wx) hk]; exact f1
  · rw [World.frozen?_of_block (w := wx) hk]; exact f2
  · rw [World.frozen?_of_block (w := wx) hk]; exact f3
  · rw [World.frozen?_of_block (w := wx) hk]; exact f4
  · rw [World.frozen?_of_block (w := wx) hk]; exact f5
  · rw [World.frozen?_of_block (w := wx) hk]; exact f6
  · rw [World.frozen?_of_block (w := wx) hk]; exact f7
  · rcases row with h0 | ⟨k, off, e, hk, hn, hB⟩
    · exact Or.inl h0
    · rcases hrow with h0 | hrow
      · exact Or.inl h0
      · refine Or.inr ⟨k, off, e, Nat.lt_of_lt_of_le hk hs, hn, fun i hi => ?_⟩
        have := hB i hi
        rw [World.cell?_of_block (w := wx) (hrow k off e)]; exact this
section
variable {N : Nat} {w1 : World} {a : Option Addr} {n cap p r : Nat} {bs : Nat → Nat} {fv : Option (Int × Int)} {w w' : World}
theorem QR.below (h : QR N w1 a n cap bs p r fv w) (hb : Below w.heap.size w w') : QR N w1 a n cap bs p r fv w' := by
  refine h.of (hb.block N h.sz) ?_ hb.size (h.b.trans (hb.mono (by have := h.sz; omega)))
  rcases h.row with h0 | ⟨k, off, e, hk, hn, hB⟩
  · exact Or.inl h0
  · refine Or.inr fun b off' e' => ?_
    rw [e] at e'
    injection e' with e'
    injection e' with e'
    subst e'
    exact hb.block _ hk
theorem QR.here (h : QR N w1 a n cap bs p r fv w) : QR N w a n cap bs p r fv w := h.of rfl (Or.inr fun _ _ _ => rfl) (Nat.le_refl _) (Below.refl _ _)
theorem QR.drewN (h : QR N w1 a n cap bs p r fv w) (k : Nat) : QR N w1 a n cap bs p r fv (w.drewN k) := h.below (below_drewN (Below.refl _ _) _)
/-- one of its cells is another one. -/
theorem QR.oth (h : QR N w1 a n cap bs p r fv w) (j : Nat) (x : Value) : (n = 0 ∨ ∃ b off, a = some ⟨b, off, none⟩ ∧ b < (w.setCell ⟨N, j, none⟩ x).heap.size ∧ b ≠ N ∧ BytesAt (w.setCell ⟨N, j, none⟩ x) b off n bs) := RR.row_set h.row
theorem QR.setP (h : QR N w1 a n cap bs p r fv w) (p' : Nat) (h1 : p' ≤ n) (h2 : p ≤ p') : QR N w1 a n cap bs p' r fv (w.setCell ⟨N, 1, none⟩ (.int .i64 (p' : Int))) := by
  have hrow := h.oth 1 (.int .i64 (p' : Int))
  obtain ⟨c0, c1, c2, c3, c4, c5, c6, c7, f1, f2, f3, f4, f5, f6, f7, row, nb, nc, pn, r8, rp, fe, b, sz⟩ := h
  refine ⟨?_, World.cell?_setCell_same _ _ _ c1, ?_, ?_, ?_, ?_, ?_, ?_, by simpa using f1, by simpa using f2, by simpa using f3, by simpa using f4, by simpa using f5, by simpa using f6, by simpa using f7, hrow, nb, nc, h1, r8, fun h => by have := rp h; omega, fe, b.setCell (p := ⟨N, 1, none⟩) (Nat.le_refl _) _, by simpa using sz⟩
  all_goals (rw [World.cell?_setCell_other _ _ _ _ (by simp)]; assumption)
theorem QR.setR (h : QR N w1 a n cap bs p r fv w) (r' : Nat) (h1 : r' < 8) (h2 : r' ≠ 0 → 0 < p) : QR N w1 a n cap bs p r' fv (w.setCell ⟨N, 2, none⟩ (.int .i64 (((8 - r') % 8 : Nat) : Int))) := by
  have hrow := h.oth 2 (.int .i64 (((8 - r') % 8 : Nat) : Int))
  obtain ⟨c0, c1, c2, c3, c4, c5, c6, c7, f1, f2, f3, f4, f5, f6, f7, row, nb, nc, pn, r8, rp, fe, b, sz⟩ := h
  refine ⟨?_, ?_, World.cell?_setCell_same _ _ _ c2, ?_, ?_, ?_, ?_, ?_, by simpa using f1, by simpa using f2, by simpa using f3, by simpa using f4, by simpa using f5, by simpa using f6, by simpa using f7, hrow, nb, nc, pn, h1, h2, fe, b.setCell (p := ⟨N, 2, none⟩) (Nat.le_refl _) _, by simpa using sz⟩
  all_goals (rw [World.cell?_setCell_other _ _ _ _ (by simp)]; assumption)
/-- the world with another fault. -/
def setBadW (w : World) (N : Nat) (q e : Int) : World := ((((w.setCell ⟨N, 3, none⟩ (.int .i64 e)).setCell ⟨N, 4, none⟩ (.int .i64 q)).setCell ⟨N, 5, none⟩ (.int .i64 0)).setCell ⟨N, 6, none⟩ (.bool true)).setCell ⟨N, 7, none⟩ (.bool false)
theorem QR.setF (h : QR N w1 a n cap bs p r fv w) (q e : Int) (he : (e == 0) = false) : QR N w1 a n cap bs p r (some (q, e)) (setBadW w N q e) := by
  have hrow := RR.row_set (j := 7) (v := .bool false) (RR.row_set (j := 6) (v := .bool true) (RR.row_set (j := 5) (v := .int .i64 0) (RR.row_set (j := 4) (v := .int .i64 q) (RR.row_set (j := 3) (v := .int .i64 e) h.row))))
  obtain ⟨c0, c1, c2, c3, c4, c5, c6, c7, f1, f2, f3, f4, f5, f6, f7, row, nb, nc, pn, r8, rp, fe, b, sz⟩ := h
  have ot : ∀ (w : World) (j k : Nat) (x : Value), j ≠ k → (w.setCell ⟨N, k, none⟩ x).cell? ⟨N, j, none⟩ = w.cell? ⟨N, j, none⟩ := fun w j k x hjk => World.cell?_setCell_other _ _ _ _ (by intro e; injection e with _ e2 _; exact hjk e2.symm)
  have bb : ∀ (w : World) (j : Nat) (x : Value), Below N w1 w → Below N w1 (w.setCell ⟨N, j, none⟩ x) := fun w j x hw => hw.setCell (p := ⟨N, j, none⟩) (Nat.le_refl _) _
  refine ⟨?_, ?_, ?_, ?_, ?_, ?_, ?_, ?_, by simpa [setBadW] using f1, by simpa [setBadW] using f2, by simpa [setBadW] using f3, by simpa [setBadW] using f4, by simpa [setBadW] using f5, by simpa [setBadW] using f6, by simpa [setBadW] using f7, hrow, nb, nc, pn, r8, rp, fun x hx => by injection hx with hx; rw [← hx]; exact he, bb _ _ _ (bb _ _ _ (bb _ _ _ (bb _ _ _ (bb _ _ _ b)))), by simpa [setBadW] using sz⟩
  · unfold setBadW; rw [ot _ _ _ _ (by omega), ot _ _ _ _ (by omega), ot _ _ _ _ (by omega), ot _ _ _ _ (by omega), ot _ _ _ _ (by omega)]; exact c0
  · unfold setBadW; rw [ot _ _ _ _ (by omega), ot _ _ _ _ (by omega), ot _ _ _ _ (by omega), ot _ _ _ _ (by omega), ot _ _ _ _ (by omega)]; exact c1
  · unfold setBadW; rw [ot _ _ _ _ (by omega), ot _ _ _ _ (by omega), ot _ _ _ _ (by omega), ot _ _ _ _ (by omega), ot _ _ _ _ (by omega)]; exact c2
  · unfold setBadW; rw [ot _ _ _ _ (by omega), ot _ _ _ _ (by omega), ot _ _ _ _ (by omega), ot _ _ _ _ (by omega)]; exact World.cell?_setCell_same _ _ _ c3
  · unfold setBadW; rw [ot _ _ _ _ (by omega), ot _ _ _ _ (by omega), ot _ _ _ _ (by omega)]; exact World.cell?_setCell_same _ _ _ (u := .int .i64 (fpl fv)) (by rw [ot _ _ _ _ (by omega)]; exact c4)
  · unfold setBadW; rw [ot _ _ _ _ (by omega), ot _ _ _ _ (by omega)]; exact World.cell?_setCell_same _ _ _ (u := .int .i64 0) (by rw [ot _ _ _ _ (by omega), ot _ _ _ _ (by omega)]; exact c5)
  · unfold setBadW; rw [ot _ _ _ _ (by omega)]; exact World.cell?_setCell_same _ _ _ (u := .bool fv.isSome) (by rw [ot _ _ _ _ (by omega), ot _ _ _ _ (by omega), ot _ _ _ _ (by omega)]; exact c6)
  · unfold setBadW; exact World.cell?_setCell_same _ _ _ (u := .bool false) (by rw [ot _ _ _ _ (by omega), ot _ _ _ _ (by omega), ot _ _ _ _ (by omega), ot _ _ _ _ (by omega)]; exact c7)
theorem RF.setBad (w : World) (N : Nat) (q e : Int) : RF N w (setBadW w N q e) := ((((RF.set w 3 _).trans (RF.set _ 4 _)).trans (RF.set _ 5 _)).trans (RF.set _ 6 _)).trans (RF.set _ 7 _)
end
end Go.Proofs.YtlcpkbllpkgihaaDoor

namespace Go.Proofs.YtlcpkbllpkgihaaDoor
open Go.RowKit
set_option linter.unusedVariables false
set_option linter.unusedSimpArgs false
/-- an error of the document's with a place. -/
def badV (q e : Int) : Value := .agg #[.int .i64 e, .int .i64 q, .int .i64 0, .bool true, .bool false]
theorem modb (y k : Nat) (K : Int) (hK : K = (k : Int)) : (((y : Int) % K) == 0) = !decide (y % k ≠ 0) := by
  subst hK
  by_cases h : y % k = 0
  · have : (y : Int) % (k : Int) = 0 := by omega
    simp [h, this]
  · have : ¬ (y : Int) % (k : Int) = 0 := by omega
    simp [h, this]
theorem bad_put (w : World) (x0 x1 x2 x3 x4 : Value) : Below w.heap.size w ((((((w.alloc (.cells #[.int .i64 0, .int .i64 0, .int .i64 0, .bool false, .bool false] 51)).setCell ⟨w.heap.size, 0, none⟩ x0).setCell ⟨w.heap.size, 1, none⟩ x1).setCell ⟨w.heap.size, 2, none⟩ x2).setCell ⟨w.heap.size, 3, none⟩ x3).setCell ⟨w.heap.size, 4, none⟩ x4) := by
  have b := below_new (Below.refl _ w) (.cells #[.int .i64 0, .int .i64 0, .int .i64 0, .bool false, .bool false] 51)
  have bb : ∀ (W : World) (j : Nat) (x : Value), Below w.heap.size w W → Below w.heap.size w (W.setCell ⟨w.heap.size, j, none⟩ x) := fun W j x hW => hW.setCell (p := ⟨w.heap.size, j, none⟩) (Nat.le_refl _) _
  exact bb _ _ _ (bb _ _ _ (bb _ _ _ (bb _ _ _ (bb _ _ _ b))))
theorem dAt_any (q e : Int) (he : (e == 0) = false) (w : World) : Calls Tryd.prog 65 #[.int .i64 q, .int .i64 e] w fun ev w' => ev = .returned (badV q e) ∧ Below w.heap.size w w' := by
  unfold badV
  go_enter Tryd.func65, Tryd.ntmps65
  go_wp2
  simp [bodyPost, results, Tryd.results65, go_sem]
  first | exact below_new (Below.refl _ w) _ | exact bad_put w _ _ _ _ _
section
variable {N : Nat} {w1 : World} {a : Option Addr} {n cap p r : Nat} {bs : Nat → Nat} {fv : Option (Int × Int)} {w : World}
set_option maxRecDepth 100000 in
theorem dFail_new (h : QR N w1 a n cap bs p r none w) (q e : Int) (he : (e == 0) = false) : Calls Tryd.prog 64 #[.pointer (some ⟨N, 0, none⟩), badV q e] w fun ev w' => ev = .returned undef ∧ QR N w1 a n cap bs p r (some (q, e)) w' ∧ RF N w w' := by
  unfold badV
  have h3 := h.setF q e he
  have h4 : QR N w1 a n cap bs p r (some (q, e)) ((setBadW w N q e).alloc (.cells #[.int .i64 e, .int .i64 q, .int .i64 0, .bool true, .bool false] 51)) := h3.below (below_new (Below.refl _ _) _)
  have F4 : RF N w ((setBadW w N q e).alloc (.cells #[.int .i64 e, .int .i64 q, .int .i64 0, .bool true, .bool false] 51)) := (RF.setBad w N q e).trans (RF.below (below_new (Below.refl _ _) _))
  have c3 := h.c3
  have c4 := h.c4
  have c5 := h.c5
  have c6 := h.c6
  have c7 := h.c7
  have f3 := h.f3
  have f4 := h.f4
  have f5 := h.f5
  have f6 := h.f6
  have f7 := h.f7
  have sz := h.sz
  have szn : ¬ w.heap.size = N := by omega
  have szm : ¬ N = w.heap.size := by omega
  simp only [fcd, fpl, Option.isSome] at c3 c4 c6
  have h4H : Hid _ := h4
  have FH : Hid _ := F4
  clear h h3 h4 F4
  simp only [setBadW] at h4H FH
  go_enter Tryd.func64, Tryd.ntmps64
  go_wp2_with fail
  first | go_end0 | (simp only [Exit.inBlock, Exit.then]; refine bodyPost_ret (results_none rfl _ _ _) rfl ?_) | refine bodyPost_ret (results_none rfl _ _ _) rfl ?_ | skip
  exact ⟨rfl, h4H.out, FH.out⟩
set_option maxRecDepth 100000 in
theorem dFail_old (x : Int × Int) (h : QR N w1 a n cap bs p r (some x) w) (q e : Int) : Calls Tryd.prog 64 #[.pointer (some ⟨N, 0, none⟩), badV q e] w fun ev w' => ev = .returned undef ∧ QR N w1 a n cap bs p r (some x) w' ∧ RF N w w' := by
  unfold badV
  have h4 := h.below (below_new (Below.refl _ w) (.cells #[.int .i64 e, .int .i64 q, .int .i64 0, .bool true, .bool false] 51))
  have F4 : RF N w _ := RF.below (below_new (Below.refl _ w) (.cells #[.int .i64 e, .int .i64 q, .int .i64 0, .bool true, .bool false] 51))
  have c3 := h.c3
  have hx := h.fe x rfl
  have sz := h.sz
  obtain ⟨x1, x2⟩ := x
  simp only [fcd] at c3 hx
  have h4H : Hid _ := h4
  have FH : Hid _ := F4
  clear h h4 F4
  go_enter Tryd.func64, Tryd.ntmps64
  go_wp2_with fail
  first | go_end0 | (simp only [Exit.inBlock, Exit.then]; refine bodyPost_ret (results_none rfl _ _ _) rfl ?_) | refine bodyPost_ret (results_none rfl _ _ _) rfl ?_ | skip
  exact ⟨rfl, h4H.out, FH.out⟩
set_option maxRecDepth 100000 in
set_option maxHeartbeats 2000000 in
theorem dRest_any (h : QR N w1 a n cap bs p r fv w) : Calls Tryd.prog 71 #[.pointer (some ⟨N, 0, none⟩)] w fun e w' => e = .returned (.bool (!ragb bs p r)) ∧ QR N w1 a n cap bs p r fv w' ∧ RF N w w' := by
  have c0 := h.c0
  have c1 := h.c1
  have c2 := h.c2
  have hrp := h.rp
  have hr8 := h.r8
  have hpn := h.pn
  have hnb := h.nb
  by_cases hr : r = 0
  · subst hr
    have e0 : ragb bs p 0 = false := by simp [ragb]
    rw [e0]
    simp only [Nat.sub_zero, Nat.mod_self] at c2
    have hH : Hid _ := h
    clear h
    go_enter Tryd.func71, Tryd.ntmps71
    go_wp2_with fail
    go_quiet (fail)
    go_wp2_with fail
    go_ret
    exact ⟨rfl, hH.out.drewN _, RF.drewN _ _⟩
  · have hp0 := hrp hr
    rcases h.row with h0 | ⟨b, off, rfl, hb, hbN, hB⟩
    · omega
    obtain ⟨P, hP⟩ : ∃ P, P = p - 1 := ⟨_, rfl⟩
    obtain ⟨hc, hylt⟩ := hB P (by omega)
    obtain ⟨y, hy⟩ : ∃ y, y = bs P := ⟨_, rfl⟩
    rw [← hy] at hc hylt
    have hres : ragb bs p r = decide (y % 2 ^ r ≠ 0) := by
      unfold ragb
      rw [← hP, ← hy]
      by_cases hz : y % 2 ^ r = 0 <;> simp [hz, hr]
    rw [hres]
    have hPI : (p : Int) - 1 = (P : Int) := by omega
    have i0 : (0 : Int) ≤ (P : Int) := by omega
    have i1 : (P : Int) < (n : Int) := by omega
    have hH : Hid _ := h
    clear h hres hB hy hP
    have hr7 : r = 1 ∨ r = 2 ∨ r = 3 ∨ r = 4 ∨ r = 5 ∨ r = 6 ∨ r = 7 := by omega
    rcases hr7 with rfl | rfl | rfl | rfl | rfl | rfl | rfl
    all_goals
      simp only [Nat.reduceSub, Nat.reduceMod] at c2
      go_enter Tryd.func71, Tryd.ntmps71
      go_wp2_with fail
      go_quiet (fail)
      go_wp2_with fail
      go_ret
      refine ⟨?_, hH.out.drewN _, RF.drewN _ _⟩
      exact congrArg (fun b => Ending.returned (Value.bool b)) (modb y _ _ (by rfl))
end
end Go.Proofs.YtlcpkbllpkgihaaDoor

namespace Go.Proofs.YtlcpkbllpkgihaaDoor
open Go.RowKit
set_option linter.unusedVariables false
set_option linter.unusedSimpArgs false
section
variable {N : Nat} {w1 : World} {a : Option Addr} {n cap p r : Nat} {bs : Nat → Nat} {fv : Option (Int × Int)} {w : World}
theorem QR.after (h : QR N w1 a n cap bs p r fv w) {w' : World} (hb : Below w.heap.size w w') : QR N w1 a n cap bs p r fv w' ∧ RF N w w' := ⟨h.below hb, RF.below hb⟩
set_option maxRecDepth 100000 in
set_option maxHeartbeats 2000000 in
theorem dBegin_any (h : QR N w1 a n cap bs p r fv w) (m : Nat) (hm : m ≤ 4) : Calls Tryd.prog 114 #[.pointer (some ⟨N, 0, none⟩), .int .i64 (m : Int)] w fun e w' => e = .returned (.bool (beginF bs n p r m fv).isNone) ∧ QR N w1 a n cap bs p r (beginF bs n p r m fv) w' ∧ RF N w w' := by
  have hpn := h.pn
  have hnb := h.nb
  cases fv with
  | some x =>
    have e0 : beginF bs n p r m (some x) = some x := rfl
    rw [e0]
    have c3 := h.c3
    have hx := h.fe x rfl
    obtain ⟨q, e⟩ := x
    simp only [fcd] at c3 hx
    have hH : Hid _ := h
    clear h e0
    go_enter Tryd.func114, Tryd.ntmps114
    go_wp2_with fail
    go_ret
    exact ⟨rfl, hH.out, RF.refl _ _⟩
  | none =>
    have c3 := h.c3
    simp only [fcd] at c3
    have hR := dRest_any h
    cases hg : ragb bs p r with
    | true =>
      have e0 : beginF bs n p r m none = some ((p : Int) - 1, 31) := by simp [beginF, startF, hg]
      rw [e0]
      rw [hg] at hR
      have hRH : Hid _ := hR
      have hAt : Hid (∀ w', Calls Tryd.prog 65 #[.int .i64 ((p : Int) - 1), .int .i64 31] w' fun ev w'' => ev = .returned (badV ((p : Int) - 1) 31) ∧ Below w'.heap.size w' w'') := fun w' => dAt_any _ 31 rfl w'
      have hFl : Hid (∀ w', QR N w1 a n cap bs p r none w' → Calls Tryd.prog 64 #[.pointer (some ⟨N, 0, none⟩), badV ((p : Int) - 1) 31] w' fun ev w'' => ev = .returned undef ∧ QR N w1 a n cap bs p r (some ((p : Int) - 1, 31)) w'' ∧ RF N w' w'') := fun w' h' => dFail_new h' _ 31 rfl
      clear hR h hg e0
      go_enter Tryd.func114, Tryd.ntmps114
      go_wp2_with fail
      refine Calls.mono hRH.out ?_
      rintro e w2 ⟨rfl, h2, F2⟩
      have d1 := h2.c1
      have h2H : Hid _ := h2
      clear h2 c3
      go_wp2_with fail
      refine Calls.mono (hAt.out _) ?_
      rintro e w3 ⟨rfl, hB3⟩
      obtain ⟨h3, F3⟩ := h2H.out.after hB3
      have hFl3 : Hid _ := hFl.out _ h3
      clear h3 d1
      go_wp2_with fail
      refine Calls.mono hFl3.out ?_
      rintro e w4 ⟨rfl, h4, F4⟩
      have e3 := h4.c3
      simp only [fcd] at e3
      have h4H : Hid _ := h4
      clear h4
      go_wp2_with fail
      go_ret
      exact ⟨rfl, h4H.out, (F2.trans F3).trans F4⟩
    | false =>
      rw [hg] at hR
      by_cases hlt : n < p + m
      · have e0 : beginF bs n p r m none = some ((n : Int), 30) := by simp [beginF, startF, hg, hasF, hlt]
        rw [e0]
        have hRH : Hid _ := hR
        have hAt : Hid (∀ w', Calls Tryd.prog 65 #[.int .i64 (n : Int), .int .i64 30] w' fun ev w'' => ev = .returned (badV (n : Int) 30) ∧ Below w'.heap.size w' w'') := fun w' => dAt_any _ 30 rfl w'
        have hFl : Hid (∀ w', QR N w1 a n cap bs p r none w' → Calls Tryd.prog 64 #[.pointer (some ⟨N, 0, none⟩), badV (n : Int) 30] w' fun ev w'' => ev = .returned undef ∧ QR N w1 a n cap bs p r (some ((n : Int), 30)) w'' ∧ RF N w' w'') := fun w' h' => dFail_new h' _ 30 rfl
        have hI : (n : Int) - (p : Int) < (m : Int) := by omega
        have hI2 : (p : Int) ≤ (n : Int) := by omega
        clear hR h hg e0
        go_enter Tryd.func114, Tryd.ntmps114
        go_wp2_with fail
        refine Calls.mono hRH.out ?_
        rintro e w2 ⟨rfl, h2, F2⟩
        have d0 := h2.c0
        have d1 := h2.c1
        have h2H : Hid _ := h2
        clear h2 c3
        go_wp2_with fail
        go_quiet (fail)
        go_wp2_with fail
        refine Calls.mono (hAt.out _) ?_
        rintro e w3 ⟨rfl, hB3⟩
        obtain ⟨h3, F3⟩ := (h2H.out.drewN _).after hB3
        have hFl3 : Hid _ := hFl.out _ h3
        clear h3 d1
        go_wp2_with fail
        refine Calls.mono hFl3.out ?_
        rintro e w4 ⟨rfl, h4, F4⟩
        have e3 := h4.c3
        simp only [fcd] at e3
        have h4H : Hid _ := h4
        clear h4
        go_wp2_with fail
        go_ret
        exact ⟨rfl, h4H.out, ((F2.trans (RF.drewN _ _)).trans F3).trans F4⟩
      · have e0 : beginF bs n p r m none = none := by simp [beginF, startF, hg, hasF, hlt]
        rw [e0]
        have hRH : Hid _ := hR
        have hI : ¬ (n : Int) - (p : Int) < (m : Int) := by omega
        have hI2 : (p : Int) ≤ (n : Int) := by omega
        clear hR h hg e0
        go_enter Tryd.func114, Tryd.ntmps114
        go_wp2_with fail
        refine Calls.mono hRH.out ?_
        rintro e w2 ⟨rfl, h2, F2⟩
        have d0 := h2.c0
        have d1 := h2.c1
        have d3 := h2.c3
        simp only [fcd] at d3
        have h2H : Hid _ := h2
        clear h2 c3
        go_wp2_with fail
        go_quiet (fail)
        go_wp2_with fail
        go_ret
        exact ⟨rfl, h2H.out.drewN _, F2.trans (RF.drewN _ _)⟩
set_option maxRecDepth 100000 in
set_option maxHeartbeats 2000000 in
theorem dTake_any (h : QR N w1 a n cap bs p r fv w) (hm : p < n) : Calls Tryd.prog 115 #[.pointer (some ⟨N, 0, none⟩)] w fun e w' => e = .returned (.int .u8 (bs p : Int)) ∧ QR N w1 a n cap bs (p + 1) 0 fv w' ∧ RF N w w' := by
  have h1 := h.setR 0 (by omega) (fun h => absurd rfl h)
  have hS := h1.setP (p + 1) (by omega) (by omega)
  have hF : RF N w _ := (RF.set w 2 (.int .i64 (((8 - 0) % 8 : Nat) : Int))).trans (RF.set _ 1 (.int .i64 ((p + 1 : Nat) : Int)))
  have c1 := h.c1
  have c2 := h.c2
  have f1 := h.f1
  have f2 := h.f2
  have hnb := h.nb
  rcases h.row with h0 | ⟨b, off, rfl, hb, hbN, hB⟩
  · omega
  have e8 : (((8 - 0) % 8 : Nat) : Int) = 0 := rfl
  have e1 : ((p + 1 : Nat) : Int) = (p : Int) + 1 := by omega
  rw [e8, e1] at hS hF
  have d0 := hS.c0
  have d1 : ((w.setCell ⟨N, 2, none⟩ (.int .i64 0)).setCell ⟨N, 1, none⟩ (.int .i64 ((p : Int) + 1))).cell? ⟨N, 1, none⟩ = some (.int .i64 ((p : Int) + 1)) := by rw [hS.c1, e1]
  have d2 : ((w.setCell ⟨N, 2, none⟩ (.int .i64 0)).setCell ⟨N, 1, none⟩ (.int .i64 ((p : Int) + 1))).cell? ⟨b, off + p, none⟩ = some (.int .u8 (bs p : Int)) := by
    rcases hS.row with h0 | ⟨b', off', e', _, _, hB'⟩
    · omega
    · injection e' with e'
      injection e' with e' e''
      subst e' e''
      exact (hB' p hm).1
  have i1 : (p : Int) < (n : Int) := by omega
  have i2 : (0 : Int) ≤ (p : Int) := by omega
  have hS' : Hid _ := hS
  have hF' : Hid _ := hF
  clear hS hF h1 h hB e8 e1
  go_enter Tryd.func115, Tryd.ntmps115
  go_wp2_with fail
  go_quiet (fail)
  go_wp2_with fail
  go_ret
  exact ⟨rfl, hS'.out.drewN _, hF'.out.trans (RF.drewN _ _)⟩
set_option maxRecDepth 100000 in
theorem dByte_gen (h : QR N w1 a n cap bs p r fv w) : Calls Tryd.prog 55 #[.pointer (some ⟨N, 0, none⟩)] w fun e w' =>
    ((beginF bs n p r 1 fv = none ∧ e = .returned (.int .u8 (bs p : Int)) ∧ QR N w1 a n cap bs (p + 1) 0 none w') ∨ (beginF bs n p r 1 fv ≠ none ∧ e = .returned (.int .u8 0) ∧ QR N w1 a n cap bs p r (beginF bs n p r 1 fv) w')) ∧ RF N w w' := by
  have hS := dBegin_any h 1 (by omega)
  cases hb : beginF bs n p r 1 fv with
  | some x =>
    rw [hb] at hS
    have hSH : Hid _ := hS
    clear hS h hb
    go_enter Tryd.func55, Tryd.ntmps55
    go_wp2_with fail
    refine Calls.mono hSH.out ?_
    rintro e w2 ⟨rfl, h2, F2⟩
    have h2H : Hid _ := h2
    clear h2
    go_wp2_with fail
    go_ret
    exact ⟨Or.inr ⟨by simp, rfl, h2H.out⟩, F2⟩
  | none =>
    have hlt : p < n := by
      unfold beginF at hb
      split at hb
      · rename_i hc; rw [hb] at hc; simp at hc
      · unfold hasF at hb
        split at hb
        · cases hb
        · omega
    rw [hb] at hS
    have hSH : Hid _ := hS
    clear hS h hb
    go_enter Tryd.func55, Tryd.ntmps55
    go_wp2_with fail
    refine Calls.mono hSH.out ?_
    rintro e w2 ⟨rfl, h2, F2⟩
    have hT : Hid _ := dTake_any h2 hlt
    clear h2
    go_wp2_with fail
    refine Calls.mono hT.out ?_
    rintro e w3 ⟨rfl, h3, F3⟩
    have h3H : Hid _ := h3
    clear h3
    go_wp2_with fail
    go_ret
    exact ⟨Or.inl ⟨by simp, rfl, h3H.out⟩, F2.trans F3⟩
end
end Go.Proofs.YtlcpkbllpkgihaaDoor

namespace Go.Proofs.YtlcpkbllpkgihaaDoor
open Go.RowKit
set_option linter.unusedVariables false
set_option linter.unusedSimpArgs false
/-- the first k of four bytes. -/
def u32Q (bs : Nat → Nat) (i : Nat) : Nat → Nat
  | 0 => 0
  | k + 1 => u32Q bs i k * 256 + bs (i + k)
theorem u32Q_lt (bs : Nat → Nat) (i k : Nat) (h : ∀ j, j < i + k → bs j < 256) : u32Q bs i k < 256 ^ k := by
  induction k with
  | zero => simp [u32Q]
  | succ k ih =>
    have h1 := ih fun j hj => h j (by omega)
    have h2 := h (i + k) (by omega)
    simp only [u32Q, Nat.pow_succ]; omega
theorem u32Q_4 (bs : Nat → Nat) (i : Nat) : u32Q bs i 4 = u32At bs i := by simp only [u32Q, u32At, Nat.add_zero]; omega
section
variable {N : Nat} {w1 : World} {a : Option Addr} {n cap p r : Nat} {bs : Nat → Nat} {fv : Option (Int × Int)} {w : World}
theorem QR.bytes256 (h : QR N w1 a n cap bs p r fv w) : ∀ i, i < n → bs i < 256 := by
  rcases h.row with h0 | ⟨b, off, _, _, _, hB⟩
  · intro i hi; omega
  · exact fun i hi => (hB i hi).2
set_option maxRecDepth 100000 in
set_option maxHeartbeats 2000000 in
theorem dFix_gen (h : QR N w1 a n cap bs p r fv w) : Calls Tryd.prog 56 #[.pointer (some ⟨N, 0, none⟩)] w fun e w' =>
    ((beginF bs n p r 4 fv = none ∧ e = .returned (.int .u32 (u32At bs p : Nat)) ∧ QR N w1 a n cap bs (p + 4) 0 none w') ∨ (beginF bs n p r 4 fv ≠ none ∧ e = .returned (.int .u32 0) ∧ QR N w1 a n cap bs p r (beginF bs n p r 4 fv) w')) ∧ RF N w w' := by
  have hS := dBegin_any h 4 (by omega)
  have h256 := h.bytes256
  cases hb : beginF bs n p r 4 fv with
  | some x =>
    rw [hb] at hS
    have hSH : Hid _ := hS
    clear hS h hb
    go_enter Tryd.func56, Tryd.ntmps56
    go_wp2_with fail
    refine Calls.mono hSH.out ?_
    rintro e w2 ⟨rfl, h2, F2⟩
    have h2H : Hid _ := h2
    clear h2
    go_wp2_with fail
    go_ret
    exact ⟨Or.inr ⟨by simp, rfl, h2H.out⟩, F2⟩
  | none =>
    have hlt : p + 4 ≤ n := by
      unfold beginF at hb
      split at hb
      · rename_i hc; rw [hb] at hc; simp at hc
      · unfold hasF at hb
        split at hb
        · cases hb
        · omega
    rw [hb] at hS
    have hSH : Hid _ := hS
    clear hS h hb
    go_enter Tryd.func56, Tryd.ntmps56
    go_wp2_with fail
    refine Calls.mono hSH.out ?_
    rintro e w2 ⟨rfl, h2, F2⟩
    go_wp2_with fail
    go_loopw [3, 4] (fun v i wr => ∃ (k : Nat), k ≤ 4 ∧ v = .int .u32 (u32Q bs p k : Nat) ∧ i = .int .i64 k ∧ (∃ r', (k ≠ 0 → r' = 0) ∧ QR N w1 a n cap bs (p + k) r' none wr) ∧ RF N w wr) (fun _ i _ => 4 - (intOf i).toNat)
    case atStart => exact ⟨0, by omega, rfl, rfl, ⟨r, fun h => absurd rfl h, h2⟩, F2⟩
    case round =>
      clear h2 F2
      obtain ⟨k, hk, rfl, rfl, ⟨r', hr', hR⟩, hF⟩ := hrel
      by_cases hlt4 : k < 4
      · have hltI : (k : Int) < 4 := by omega
        have hp := u32Q_lt bs p k (fun j hj => h256 j (by omega))
        have hp' : u32Q bs p k < 16777216 := by
          have : 256 ^ k ≤ 256 ^ 3 := Nat.pow_le_pow_right (by omega) (by omega)
          omega
        have hb8 := h256 (p + k) (by omega)
        have en : u32Q bs p (k + 1) = u32Q bs p k * 256 + bs (p + k) := rfl
        have hT : Hid _ := dTake_any hR (by omega : p + k < n)
        generalize hq : u32Q bs p k = u at *
        clear hp hR hr'
        have en' : Hid _ := en
        clear en
        go_wp2_with fail
        refine Calls.mono hT.out ?_
        rintro e w3 ⟨rfl, h3, F3⟩
        generalize hv : bs (p + k) = v8 at *
        have h3H : Hid _ := h3
        clear h3
        go_wp2_with fail
        go_roundw
        case rel => exact ⟨k + 1, by omega, by rw [en'.out]; simp, by go_num, ⟨0, fun _ => rfl, h3H.out⟩, hF.trans F3⟩
        case measure => simp [intOf]; omega
      · obtain rfl : k = 4 := by omega
        obtain rfl := hr' (by omega)
        rw [u32Q_4]
        go_wp2_with fail
        go_ret
        first | exact ⟨⟨rfl, hR⟩, hF⟩ | exact ⟨Or.inl ⟨by simp, rfl, hR⟩, hF⟩
/-- what the document's number tells. -/
def NumD (bs : Nat → Nat) (n p r M : Nat) (above : Int) (fv fv' : Option (Int × Int)) (v l : Nat) : Prop :=
  (startF bs p r fv ≠ none ∧ fv' = startF bs p r fv ∧ v = 0 ∧ l = 0) ∨
  (startF bs p r fv = none ∧ ((∃ q, numS bs n p 10 0 0 = .inl q ∧ fv' = some q ∧ v = 0 ∧ l = 0) ∨
    (∃ x k, numS bs n p 10 0 0 = .inr (x, k) ∧ ((M < x ∧ fv' = some ((p : Int), above) ∧ v = 0 ∧ l = 0) ∨ (x ≤ M ∧ fv' = none ∧ v = x ∧ l = k)))))
theorem beginF_zero (hp : p ≤ n) : beginF bs n p r 0 fv = startF bs p r fv := by
  unfold beginF
  cases h : startF bs p r fv with
  | some x => rfl
  | none => simp [hasF]; omega
set_option maxRecDepth 100000 in
set_option maxHeartbeats 8000000 in
theorem dNumber_any (h : QR N w1 a n cap bs p r fv w) (M : Nat) (hM : M < 18446744073709551616) (above : Int) (hab : (above == 0) = false) :
    Calls Tryd.prog 116 #[.pointer (some ⟨N, 0, none⟩), .int .u64 (M : Int), .int .i64 above] w fun e w' => (∃ fv' v l, NumD bs n p r M above fv fv' v l ∧ e = .returned (.tuple #[.int .u64 (v : Int), .int .i64 (l : Int)]) ∧ QR N w1 a n cap bs p r fv' w') ∧ RF N w w' := by
  have hpn := h.pn
  have hnb := h.nb
  have hS := dBegin_any h 0 (by omega)
  rw [beginF_zero hpn] at hS
  cases hs : startF bs p r fv with
  | some x =>
    rw [hs] at hS
    have hSH : Hid _ := hS
    have hsH : Hid _ := hs
    clear hS h hs
    go_enter Tryd.func116, Tryd.ntmps116
    go_wp2_with fail
    refine Calls.mono hSH.out ?_
    rintro e w2 ⟨rfl, h2, F2⟩
    have h2H : Hid _ := h2
    clear h2
    go_wp2_with fail
    simp [bodyPost, results, Tryd.results116, go_sem]
    exact ⟨⟨some x, 0, 0, Or.inl ⟨by rw [hsH.out]; simp, hsH.out.symm, rfl, rfl⟩, ⟨rfl, rfl⟩, h2H.out⟩, F2⟩
  | none =>
    rw [hs] at hS
    have hSH : Hid _ := hS
    have hsH : Hid _ := hs
    clear hS h hs
    go_enter Tryd.func116, Tryd.ntmps116
    go_wp2_with fail
    refine Calls.mono hSH.out ?_
    rintro e w2 ⟨rfl, h2, F2⟩
    go_wp2_with fail
    go_loopw [8, 9] (fun v s wr => ∃ k V : Nat, k ≤ 9 ∧ V < 128 ^ k ∧ v = .int .u64 (V : Int) ∧ s = .int .i64 (k : Int) ∧ QR N w1 a n cap bs p r none wr ∧ RF N w wr ∧ numS bs n p (10 - k) k V = numS bs n p 10 0 0) (fun _ s _ => 10 - (intOf s).toNat)
    case atStart => exact ⟨0, 0, by omega, by simp, rfl, rfl, h2, F2, rfl⟩
    case round =>
      clear h2 F2
      obtain ⟨k, V, hk, hV, rfl, rfl, hW, hF, hnum⟩ := hrel
      obtain ⟨f, hf⟩ : ∃ f, 10 - k = f + 1 := ⟨9 - k, by omega⟩
      rw [hf] at hnum
      have c0 := hW.c0
      have c1 := hW.c1
      by_cases hm : n < p + (k + 1)
      · have hres : Hid (numS bs n p 10 0 0 = .inl ((n : Int), 30)) := (by rw [← hnum]; unfold numS; rw [if_pos hm] : numS bs n p 10 0 0 = .inl ((n : Int), 30))
        have hmI : (n : Int) ≤ (p : Int) + (k : Int) := by omega
        have hAt : Hid (∀ w', Calls Tryd.prog 65 #[.int .i64 (n : Int), .int .i64 30] w' fun ev w'' => ev = .returned (badV (n : Int) 30) ∧ Below w'.heap.size w' w'') := fun w' => dAt_any _ 30 rfl w'
        have hFl : Hid (∀ w', QR N w1 a n cap bs p r none w' → Calls Tryd.prog 64 #[.pointer (some ⟨N, 0, none⟩), badV (n : Int) 30] w' fun ev w'' => ev = .returned undef ∧ QR N w1 a n cap bs p r (some ((n : Int), 30)) w'' ∧ RF N w' w'') := fun w' h' => dFail_new h' _ 30 rfl
        have hWH : Hid _ := hW
        clear hW hnum
        go_wp2_with fail
        go_quiet (fail)
        go_wp2_with fail
        refine Calls.mono (hAt.out _) ?_
        rintro e w3 ⟨rfl, hB3⟩
        obtain ⟨h3, F3⟩ := (hWH.out.drewN _).after hB3
        have hFl3 : Hid _ := hFl.out _ h3
        clear h3
        go_wp2_with fail
        refine Calls.mono hFl3.out ?_
        rintro e w4 ⟨rfl, h4, F4⟩
        have h4H : Hid _ := h4
        clear h4
        go_wp2_with fail
        simp [bodyPost, results, Tryd.results116, go_sem]
        exact ⟨⟨_, 0, 0, Or.inr ⟨hsH.out, Or.inl ⟨_, hres.out, rfl, rfl, rfl⟩⟩, ⟨rfl, rfl⟩, h4H.out⟩, ((hF.trans (RF.drewN _ _)).trans F3).trans F4⟩
      · rcases hW.row with h0 | ⟨b, off, rfl, hb, hbN, hB⟩
        · omega
        obtain ⟨q, hq⟩ : ∃ q, q = p + k := ⟨_, rfl⟩
        obtain ⟨hc, hylt⟩ := hB q (by omega)
        obtain ⟨y, hy⟩ : ∃ y, y = bs q := ⟨_, rfl⟩
        rw [← hy] at hc hylt
        have hqI : (p : Int) + (k : Int) = (q : Int) := by omega
        have hq0 : (0 : Int) ≤ (q : Int) := by omega
        have hqn : (q : Int) < (n : Int) := by omega
        have hqn2 : ¬ (n : Int) ≤ (q : Int) := by omega
        obtain ⟨t, ht⟩ : ∃ t, t = 7 * k := ⟨_, rfl⟩
        have htI : (7 : Int) * (k : Int) = (t : Int) := by omega
        have hyp : bs (p + k) = y := by rw [← hq]; exact hy.symm
        obtain ⟨R, hRd⟩ : ∃ R, R = numS bs n p 10 0 0 := ⟨_, rfl⟩
        rw [← hRd] at hnum
        unfold numS at hnum
        rw [if_neg hm, hyp] at hnum
        have hRH : Hid _ := hRd
        have hnum2 : Hid _ := hnum
        have hWH : Hid _ := hW
        have hqH : Hid _ := hq
        clear hB hW hq hy hnum hyp hm hRd
        go_wp2_with fail
        go_quiet (fail)
        go_wp2_with fail
        go_quiet (fail)
        by_cases hbad : (k = 9 ∧ 1 < y) ∨ (0 < k ∧ y = 0)
        · have hres : Hid (numS bs n p 10 0 0 = .inl ((q : Int), 31)) := (by
            have h7 := hnum2.out
            rw [if_pos hbad] at h7
            rw [← hRH.out, ← h7, hqH.out] : numS bs n p 10 0 0 = .inl ((q : Int), 31))
          clear hnum2
          by_cases hk9 : k = 9
          · have hqI9 : (p : Int) + 9 = (q : Int) := by omega
            have hk9I : (k : Int) = 9 := by omega
            rcases Nat.lt_or_ge 1 y with hy1 | hy1
            · have hy1I : (1 : Int) < (y : Int) := by omega
              clear hbad hqI htI ht
              go_wp2_with fail
              refine Calls.mono ((dAt_any (q : Int) 31 rfl _)) ?_
              rintro e w3 ⟨rfl, hB3⟩
              obtain ⟨h3, F3⟩ := (hWH.out.drewN _).after hB3
              have hFl3 : Hid _ := dFail_new h3 (q : Int) 31 rfl
              clear h3
              go_wp2_with fail
              refine Calls.mono hFl3.out ?_
              rintro e w4 ⟨rfl, h4, F4⟩
              have h4H : Hid _ := h4
              clear h4
              go_wp2_with fail
              simp [bodyPost, results, Tryd.results116, go_sem]
              exact ⟨⟨_, 0, 0, Or.inr ⟨hsH.out, Or.inl ⟨_, hres.out, rfl, rfl, rfl⟩⟩, ⟨rfl, rfl⟩, h4H.out⟩, ((hF.trans (RF.drewN _ _)).trans F3).trans F4⟩
            · have hy0 : y = 0 := by omega
              subst hy0
              clear hbad hqI htI ht
              go_wp2_with fail
              refine Calls.mono ((dAt_any (q : Int) 31 rfl _)) ?_
              rintro e w3 ⟨rfl, hB3⟩
              obtain ⟨h3, F3⟩ := (hWH.out.drewN _).after hB3
              have hFl3 : Hid _ := dFail_new h3 (q : Int) 31 rfl
              clear h3
              go_wp2_with fail
              refine Calls.mono hFl3.out ?_
              rintro e w4 ⟨rfl, h4, F4⟩
              have h4H : Hid _ := h4
              clear h4
              go_wp2_with fail
              simp [bodyPost, results, Tryd.results116, go_sem]
              exact ⟨⟨_, 0, 0, Or.inr ⟨hsH.out, Or.inl ⟨_, hres.out, rfl, rfl, rfl⟩⟩, ⟨rfl, rfl⟩, h4H.out⟩, ((hF.trans (RF.drewN _ _)).trans F3).trans F4⟩
          · have hkI : ¬ (k : Int) = 9 := by omega
            have hk0 : (0 : Int) < (k : Int) := by omega
            have hk0' : 0 < k := by omega
            have hy0 : y = 0 := by omega
            subst hy0
            clear hbad htI ht hk9
            go_wp2_with fail
            refine Calls.mono ((dAt_any (q : Int) 31 rfl _)) ?_
            rintro e w3 ⟨rfl, hB3⟩
            obtain ⟨h3, F3⟩ := (hWH.out.drewN _).after hB3
            have hFl3 : Hid _ := dFail_new h3 (q : Int) 31 rfl
            clear h3
            go_wp2_with fail
            refine Calls.mono hFl3.out ?_
            rintro e w4 ⟨rfl, h4, F4⟩
            have h4H : Hid _ := h4
            clear h4
            go_wp2_with fail
            simp [bodyPost, results, Tryd.results116, go_sem]
            exact ⟨⟨_, 0, 0, Or.inr ⟨hsH.out, Or.inl ⟨_, hres.out, rfl, rfl, rfl⟩⟩, ⟨rfl, rfl⟩, h4H.out⟩, ((hF.trans (RF.drewN _ _)).trans F3).trans F4⟩
        · have hyc : Hid ((k ≠ 9 ∨ y = 1) ∧ (k = 0 ∨ 1 ≤ y)) := (by omega : (k ≠ 9 ∨ y = 1) ∧ (k = 0 ∨ 1 ≤ y))
          have hnum3 := hnum2.out
          rw [if_neg hbad] at hnum3
          clear hnum2 hbad
          obtain ⟨Y, hY⟩ : ∃ Y, Y = y % 128 := ⟨_, rfl⟩
          have hYlt : Y < 128 := by rw [hY]; exact Nat.mod_lt _ (by omega)
          obtain ⟨D, hD⟩ : ∃ D, D = Y * 2 ^ t := ⟨_, rfl⟩
          have hDk : Y * 128 ^ k = D := by rw [hD, ht, p128]
          have hDlt : V + D < 18446744073709551616 ∧ (V + D < 128 ^ (k + 1)) := by
            have hle : Y * 128 ^ k ≤ 127 * 128 ^ k := Nat.mul_le_mul_right _ (by omega)
            have h2 : V + D < 128 ^ (k + 1) := by rw [← hDk, Nat.pow_succ]; omega
            refine ⟨?_, h2⟩
            by_cases h9 : k = 9
            · have hy1 : y = 1 := by have := hyc.out.1; omega
              have hY1 : Y = 1 := by rw [hY, hy1]
              subst h9
              rw [hY1] at hDk
              omega
            · have h11 : 128 ^ (k + 1) ≤ 128 ^ 9 := Nat.pow_le_pow_right (by omega) (by omega)
              omega
          rw [← hY, hDk] at hnum3
          obtain ⟨V2, hV2⟩ : ∃ V2, V2 = V + D := ⟨_, rfl⟩
          rw [← hV2] at hnum3 hDlt
          have hmodY : (y : Int) % 128 = (Y : Int) := by omega
          have hshl : IntKind.u64.wrap ((Y : Int) * 2 ^ t) = (D : Int) := by
            rw [show ((Y : Int) * 2 ^ t) = (D : Int) by rw [hD]; simp, IntKind.wrap_u64]; omega
          have hadd : IntKind.u64.wrap ((V : Int) + (D : Int)) = (V2 : Int) := by rw [IntKind.wrap_u64]; omega
          have hDl2 : Hid _ := hDlt.2
          have hDl1 := hDlt.1
          by_cases hk9 : k = 9
          · have hy1 : y = 1 := by have := hyc.out; omega
            have hY1 : Y = 1 := by rw [hY, hy1]
            subst hk9
            subst hy1
            have hV9 : V2 = V + 9223372036854775808 := by rw [hV2, hD, hY1, ht]
            have hadd9 : IntKind.u64.wrap ((V : Int) + 9223372036854775808) = (V2 : Int) := by rw [IntKind.wrap_u64]; omega
            have hres : Hid (numS bs n p 10 0 0 = .inr (V2, 10)) := (by have h7 := hnum3; rw [if_pos (by omega)] at h7; rw [← hRH.out]; exact h7.symm : numS bs n p 10 0 0 = .inr (V2, 10))
            clear hnum3 hDlt hV2 hD hDk hY ht hV hshl hadd hmodY hY1 hV9 htI hYlt
            by_cases hMv : M < V2
            · have hMI : (M : Int) < (V2 : Int) := by omega
              go_wp2_with fail
              refine Calls.mono ((dAt_any (p : Int) above hab _)) ?_
              rintro e w3 ⟨rfl, hB3⟩
              obtain ⟨h3, F3⟩ := (hWH.out.drewN _).after hB3
              have hFl3 : Hid _ := dFail_new h3 (p : Int) above hab
              clear h3
              go_wp2_with fail
              refine Calls.mono hFl3.out ?_
              rintro e w4 ⟨rfl, h4, F4⟩
              have h4H : Hid _ := h4
              clear h4
              go_wp2_with fail
              simp [bodyPost, results, Tryd.results116, go_sem]
              exact ⟨⟨_, 0, 0, Or.inr ⟨hsH.out, Or.inr ⟨V2, 10, hres.out, Or.inl ⟨hMv, rfl, rfl, rfl⟩⟩⟩, ⟨rfl, rfl⟩, h4H.out⟩, ((hF.trans (RF.drewN _ _)).trans F3).trans F4⟩
            · have hMI : ¬ (M : Int) < (V2 : Int) := by omega
              have hMv' : V2 ≤ M := by omega
              go_wp2_with fail
              simp [bodyPost, results, Tryd.results116, go_sem]
              exact ⟨⟨none, V2, 10, Or.inr ⟨hsH.out, Or.inr ⟨V2, 10, hres.out, Or.inr ⟨hMv', rfl, rfl, rfl⟩⟩⟩, ⟨rfl, rfl⟩, hWH.out.drewN _⟩, hF.trans (RF.drewN _ _)⟩
          · have hkI : ¬ (k : Int) = 9 := by omega
            rcases Nat.lt_or_ge y 128 with e1 | e1
            · have e1I : (y : Int) < 128 := by omega
              have hres : Hid (numS bs n p 10 0 0 = .inr (V2, k + 1)) := (by have h7 := hnum3; rw [if_pos e1] at h7; rw [← hRH.out]; exact h7.symm : numS bs n p 10 0 0 = .inr (V2, k + 1))
              clear hnum3 hDlt hV2 hD hDk hY ht hV
              by_cases hMv : M < V2
              · have hMI : (M : Int) < (V2 : Int) := by omega
                go_wp2_with fail
                all_goals first
                  | (exfalso; have := hyc.out; omega)
                  | (exfalso; have := hyc.out; simp only [beq_iff_eq] at *; omega)
                  | skip
                all_goals
                  refine Calls.mono ((dAt_any (p : Int) above hab _)) ?_
                  rintro e w3 ⟨rfl, hB3⟩
                  obtain ⟨h3, F3⟩ := (hWH.out.drewN _).after hB3
                  have hFl3 : Hid _ := dFail_new h3 (p : Int) above hab
                  clear h3
                  go_wp2_with fail
                  refine Calls.mono hFl3.out ?_
                  rintro e w4 ⟨rfl, h4, F4⟩
                  have h4H : Hid _ := h4
                  clear h4
                  go_wp2_with fail
                  simp [bodyPost, results, Tryd.results116, go_sem]
                  exact ⟨⟨_, 0, 0, Or.inr ⟨hsH.out, Or.inr ⟨V2, k + 1, hres.out, Or.inl ⟨hMv, rfl, rfl, rfl⟩⟩⟩, ⟨rfl, rfl⟩, h4H.out⟩, ((hF.trans (RF.drewN _ _)).trans F3).trans F4⟩
              · have hMI : ¬ (M : Int) < (V2 : Int) := by omega
                have hMv' : V2 ≤ M := by omega
                go_wp2_with fail
                all_goals first
                  | (exfalso; have := hyc.out; omega)
                  | (exfalso; have := hyc.out; simp only [beq_iff_eq] at *; omega)
                  | (simp [bodyPost, results, Tryd.results116, go_sem]; exact ⟨⟨none, V2, k + 1, Or.inr ⟨hsH.out, Or.inr ⟨V2, k + 1, hres.out, Or.inr ⟨hMv', rfl, rfl, rfl⟩⟩⟩, ⟨rfl, by omega⟩, hWH.out.drewN _⟩, hF.trans (RF.drewN _ _)⟩)
            · have e1I : ¬ (y : Int) < 128 := by omega
              have hk8 : k ≤ 8 := by omega
              have hres : Hid (numS bs n p f (k + 1) V2 = numS bs n p 10 0 0) := (by have h7 := hnum3; rw [if_neg (by omega)] at h7; rw [← hRH.out]; exact h7 : numS bs n p f (k + 1) V2 = numS bs n p 10 0 0)
              have hf9 : Hid (10 - (k + 1) = f) := (by omega : 10 - (k + 1) = f)
              clear hnum3 hDlt hV2 hD hDk hY ht hV
              go_wp2_with fail
              all_goals first
                | (exfalso; have := hyc.out; omega)
                | (exfalso; have := hyc.out; simp only [beq_iff_eq] at *; omega)
                | (go_roundw; exact ⟨k + 1, V2, by omega, hDl2.out, rfl, by go_num, hWH.out.drewN _, hF.trans (RF.drewN _ _), by rw [hf9.out]; exact hres.out⟩; (simp [intOf]; omega))
end
end Go.Proofs.YtlcpkbllpkgihaaDoor
