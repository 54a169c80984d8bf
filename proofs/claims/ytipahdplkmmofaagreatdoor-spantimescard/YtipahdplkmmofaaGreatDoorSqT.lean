
import Derived.Test.YtipahdplkmmofaaGreatDoorSpD
namespace Go.Proofs.YtipahdplkmmofaaGreatDoor
set_option linter.unusedVariables false
set_option linter.unusedSimpArgs false
/-- the document's clock, a piece after the other: it stays where it went wrong. -/
def numR (n : Nat) (lo hi : Int) (l : List UInt8) (a : Nat) (ok : Bool) : Nat × Bool × Int :=
  if ok = true then (if cnt ((l.drop a).take n) < n then (a, false, 0) else if valF 0 ((l.drop a).take n) < lo ∨ hi < valF 0 ((l.drop a).take n) then (a, false, 0) else (a + n, true, valF 0 ((l.drop a).take n))) else (a, false, 0)
def letR (b : UInt8) (l : List UInt8) (a : Nat) (ok : Bool) : Nat × Bool :=
  if ok = true then (if (l.drop a).head? = some b then (a + 1, true) else (a, false)) else (a, false)
def fracR (l : List UInt8) (a : Nat) (ok : Bool) : Nat × Bool × Int :=
  if ok = true then
    (if (l.drop a).head? = some 46 then
      (if cnt (l.drop (a + 1)) < 1 ∨ 9 < cnt (l.drop (a + 1)) then (a, false, 0) else (a + (1 + cnt (l.drop (a + 1))), true, valF 0 ((l.drop (a + 1)).take (cnt (l.drop (a + 1))) ++ List.replicate (9 - cnt (l.drop (a + 1))) 48)))
     else (a, true, 0))
  else (a, false, 0)
def z3 (l : List UInt8) (a : Nat) : Nat × Bool × Int × Int :=
  ((numR 2 0 59 l (letR 58 l (numR 2 0 23 l a true).1 (numR 2 0 23 l a true).2.1).1 (letR 58 l (numR 2 0 23 l a true).1 (numR 2 0 23 l a true).2.1).2).1, (numR 2 0 59 l (letR 58 l (numR 2 0 23 l a true).1 (numR 2 0 23 l a true).2.1).1 (letR 58 l (numR 2 0 23 l a true).1 (numR 2 0 23 l a true).2.1).2).2.1, (numR 2 0 23 l a true).2.2, (numR 2 0 59 l (letR 58 l (numR 2 0 23 l a true).1 (numR 2 0 23 l a true).2.1).1 (letR 58 l (numR 2 0 23 l a true).1 (numR 2 0 23 l a true).2.1).2).2.2)
def zoneR (l : List UInt8) (a : Nat) (ok : Bool) : Nat × Bool × Int :=
  if ok = true then
    (if (l.drop a).head? = some 90 then (a + 1, true, 0)
     else if (l.drop a).head? = some 43 then ((z3 l (a + 1)).1, (z3 l (a + 1)).2.1, 60 * (z3 l (a + 1)).2.2.1 + (z3 l (a + 1)).2.2.2)
     else if (l.drop a).head? = some 45 then ((z3 l (a + 1)).1, (z3 l (a + 1)).2.1, - (60 * (z3 l (a + 1)).2.2.1 + (z3 l (a + 1)).2.2.2))
     else (a, false, 0))
  else (a, false, 0)
theorem numR_no (n : Nat) (lo hi : Int) (l : List UInt8) (a : Nat) : numR n lo hi l a false = (a, false, 0) := rfl
theorem letR_no (b : UInt8) (l : List UInt8) (a : Nat) : letR b l a false = (a, false) := rfl
theorem fracR_no (l : List UInt8) (a : Nat) : fracR l a false = (a, false, 0) := rfl
theorem zoneR_no (l : List UInt8) (a : Nat) : zoneR l a false = (a, false, 0) := rfl
def stp (l : List UInt8) (p : Pc) (x : Clk × Nat × Bool) : Clk × Nat × Bool :=
  if x.2.2 = true then (match p x.1 (l.drop x.2.1) with | none => (x.1, x.2.1, false) | some (c, j) => (c, x.2.1 + j, true)) else x
theorem stp_no (l : List UInt8) : ∀ (ps : List Pc) (c : Clk) (k : Nat), ps.foldl (fun x p => stp l p x) (c, k, false) = (c, k, false)
  | [], c, k => rfl
  | p :: ps, c, k => by rw [List.foldl_cons]; exact stp_no l ps c k
theorem thr_fold (l : List UInt8) : ∀ (ps : List Pc) (c : Clk) (k : Nat), thr ps c (l.drop k) k = ps.foldl (fun x p => stp l p x) (c, k, true)
  | [], c, k => rfl
  | p :: ps, c, k => by
    rw [List.foldl_cons, thr]
    unfold stp
    rw [if_pos rfl]
    simp only
    cases h : p c (l.drop k) with
    | none => exact (stp_no l ps c k).symm
    | some q =>
      obtain ⟨c', j⟩ := q
      simp only
      rw [List.drop_drop]
      exact thr_fold l ps c' (k + j)
theorem num_stp {n : Nat} {lo hi : Int} {set : Int → Clk → Clk} {l : List UInt8} {x : Clk × Nat × Bool} {a a' : Nat} {ok ok' : Bool} {v : Int} (hx : x.2 = (a, ok)) (h : numR n lo hi l a ok = (a', ok', v)) :
    (stp l (numPc n lo hi set) x).2 = (a', ok') ∧ (ok' = true → ok = true ∧ (stp l (numPc n lo hi set) x).1 = set v x.1) := by
  obtain ⟨c, k, b⟩ := x
  simp only [Prod.mk.injEq] at hx
  obtain ⟨rfl, rfl⟩ := hx
  cases b with
  | false => rw [numR_no] at h; simp only [Prod.mk.injEq] at h; obtain ⟨rfl, rfl, rfl⟩ := h; simp [stp]
  | true =>
    unfold numR at h
    rw [if_pos rfl] at h
    unfold stp numPc
    rw [if_pos rfl]
    simp only
    by_cases c1 : cnt ((l.drop k).take n) < n
    · rw [if_pos c1] at h ⊢; simp only [Prod.mk.injEq] at h; obtain ⟨rfl, rfl, rfl⟩ := h; simp
    · rw [if_neg c1] at h ⊢
      by_cases c2 : valF 0 ((l.drop k).take n) < lo ∨ hi < valF 0 ((l.drop k).take n)
      · rw [if_pos c2] at h ⊢; simp only [Prod.mk.injEq] at h; obtain ⟨rfl, rfl, rfl⟩ := h; simp
      · rw [if_neg c2] at h ⊢; simp only [Prod.mk.injEq] at h; obtain ⟨rfl, rfl, rfl⟩ := h; simp
theorem let_stp {b : UInt8} {l : List UInt8} {x : Clk × Nat × Bool} {a a' : Nat} {ok ok' : Bool} (hx : x.2 = (a, ok)) (h : letR b l a ok = (a', ok')) :
    (stp l (letPc b) x).2 = (a', ok') ∧ (ok' = true → ok = true ∧ (stp l (letPc b) x).1 = x.1) := by
  obtain ⟨c, k, o⟩ := x
  simp only [Prod.mk.injEq] at hx
  obtain ⟨rfl, rfl⟩ := hx
  cases o with
  | false => rw [letR_no] at h; simp only [Prod.mk.injEq] at h; obtain ⟨rfl, rfl⟩ := h; simp [stp]
  | true =>
    unfold letR at h
    rw [if_pos rfl] at h
    unfold stp letPc
    rw [if_pos rfl]
    simp only
    by_cases c1 : (l.drop k).head? = some b
    · rw [if_pos c1] at h ⊢; simp only [Prod.mk.injEq] at h; obtain ⟨rfl, rfl⟩ := h; simp
    · rw [if_neg c1] at h ⊢; simp only [Prod.mk.injEq] at h; obtain ⟨rfl, rfl⟩ := h; simp
theorem frac_stp {l : List UInt8} {x : Clk × Nat × Bool} {a a' : Nat} {ok ok' : Bool} {v : Int} (hx : x.2 = (a, ok)) (hn : ok = true → x.1.ns = 0) (h : fracR l a ok = (a', ok', v)) :
    (stp l fracPc x).2 = (a', ok') ∧ (ok' = true → ok = true ∧ (stp l fracPc x).1 = { x.1 with ns := v }) := by
  obtain ⟨c, k, o⟩ := x
  simp only [Prod.mk.injEq] at hx
  obtain ⟨rfl, rfl⟩ := hx
  cases o with
  | false => rw [fracR_no] at h; simp only [Prod.mk.injEq] at h; obtain ⟨rfl, rfl, rfl⟩ := h; simp [stp]
  | true =>
    have hz : c.ns = 0 := hn rfl
    unfold fracR at h
    rw [if_pos rfl] at h
    unfold stp fracPc
    rw [if_pos rfl]
    simp only [List.drop_drop]
    by_cases c1 : (l.drop k).head? = some 46
    · rw [if_pos c1] at h ⊢
      by_cases c2 : cnt (l.drop (k + 1)) < 1 ∨ 9 < cnt (l.drop (k + 1))
      · rw [if_pos c2] at h ⊢; simp only [Prod.mk.injEq] at h; obtain ⟨rfl, rfl, rfl⟩ := h; simp
      · rw [if_neg c2] at h ⊢; simp only [Prod.mk.injEq] at h; obtain ⟨rfl, rfl, rfl⟩ := h; simp
    · rw [if_neg c1] at h ⊢; simp only [Prod.mk.injEq] at h; obtain ⟨rfl, rfl, rfl⟩ := h
      refine ⟨by simp, fun _ => ⟨by simp, ?_⟩⟩
      simp only
      cases c; simp only at hz; subst hz; rfl
/-- the document's month: 0 where there is none. -/
def monR (y m : Int) : Int := if 1 ≤ m ∧ m ≤ 12 then lenM y m else 0
theorem goT_ref (l : List UInt8) (a1 a2 a3 a4 a5 a6 a7 a8 a9 a10 a11 a12 a13 : Nat) (k1 k2 k3 k4 k5 k6 k7 k8 k9 k10 k11 k12 k13 : Bool) (y mo d h mi s ns z : Int)
    (h1 : numR 4 0 9999 l 0 true = (a1, k1, y)) (h2 : letR 45 l a1 k1 = (a2, k2)) (h3 : numR 2 1 12 l a2 k2 = (a3, k3, mo)) (h4 : letR 45 l a3 k3 = (a4, k4)) (h5 : numR 2 1 (monR y mo) l a4 k4 = (a5, k5, d)) (h6 : letR 84 l a5 k5 = (a6, k6))
    (h7 : numR 2 0 23 l a6 k6 = (a7, k7, h)) (h8 : letR 58 l a7 k7 = (a8, k8)) (h9 : numR 2 0 59 l a8 k8 = (a9, k9, mi)) (h10 : letR 58 l a9 k9 = (a10, k10)) (h11 : numR 2 0 59 l a10 k10 = (a11, k11, s)) (h12 : fracR l a11 k11 = (a12, k12, ns)) (h13 : zoneR l a12 k12 = (a13, k13, z)) :
    (goT l).2 = (a13, k13) ∧ (k13 = true → ∃ ah bh bm, (goT l).1 = ⟨y, mo, d, h, mi, s, ns, ah, bh, bm⟩ ∧ z = ah * (60 * bh + bm)) := by
  have hm : ∀ q : Int, q = mo → k3 = true → 1 ≤ q ∧ q ≤ 12 := by
    intro q hq hk
    subst hq
    unfold numR at h3
    repeat' split at h3
    all_goals simp only [Prod.mk.injEq] at h3
    all_goals obtain ⟨_, rfl, rfl⟩ := h3
    all_goals simp at hk
    omega
  have key : ∃ X : Clk × Nat × Bool, thr locP clk0 l 0 = stp l zonePc X ∧ X.2 = (a12, k12) ∧ (k12 = true → X.1 = ⟨y, mo, d, h, mi, s, ns, 0, 0, 0⟩) := by
    refine ⟨stp l fracPc (stp l (numPc 2 0 59 fun n c => { c with s := n }) (stp l (letPc 58) (stp l (numPc 2 0 59 fun n c => { c with mi := n }) (stp l (letPc 58) (stp l (numPc 2 0 23 fun n c => { c with h := n }) (stp l (letPc 84) (stp l dayPc (stp l (letPc 45) (stp l (numPc 2 1 12 fun n c => { c with mo := n }) (stp l (letPc 45) (stp l (numPc 4 0 9999 fun n c => { c with y := n }) (clk0, 0, true)))))))))))), ?_, ?_⟩
    · rw [show thr locP clk0 l 0 = thr locP clk0 (l.drop 0) 0 from rfl, thr_fold]; rfl
    obtain ⟨x1, y1⟩ := num_stp (set := fun n c => { c with y := n }) (x := (clk0, 0, true)) rfl h1
    obtain ⟨x2, y2⟩ := let_stp x1 h2
    obtain ⟨x3, y3⟩ := num_stp (set := fun n c => { c with mo := n }) x2 h3
    obtain ⟨x4, y4⟩ := let_stp x3 h4
    have h5' : ∀ c : Clk, (k4 = true → c.y = y ∧ c.mo = mo) → numR 2 1 (lenM c.y c.mo) l a4 k4 = (a5, k5, d) := by
      intro c hc
      cases k4 with
      | false => exact h5
      | true =>
        obtain ⟨e1, e2⟩ := hc rfl
        rw [e1, e2, ← h5]
        have := hm mo rfl (y4 rfl).1
        unfold monR; rw [if_pos this]
    generalize hX4 : stp l (letPc 45) (stp l (numPc 2 1 12 fun n c => { c with mo := n }) (stp l (letPc 45) (stp l (numPc 4 0 9999 fun n c => { c with y := n }) (clk0, 0, true)))) = X4 at *
    have c4 : k4 = true → X4.1 = ⟨y, mo, 0, 0, 0, 0, 0, 0, 0, 0⟩ := by
      intro hk
      rw [(y4 hk).2, (y3 (y4 hk).1).2, (y2 (y3 (y4 hk).1).1).2, (y1 (y2 (y3 (y4 hk).1).1).1).2]; rfl
    have x5 : (stp l dayPc X4).2 = (a5, k5) ∧ (k5 = true → k4 = true ∧ (stp l dayPc X4).1 = { X4.1 with d := d }) := by
      have e : stp l dayPc X4 = stp l (numPc 2 1 (lenM X4.1.y X4.1.mo) (fun n c => { c with d := n })) X4 := rfl
      rw [e]
      exact num_stp x4 (h5' X4.1 (fun hk => by rw [c4 hk]; exact ⟨rfl, rfl⟩))
    obtain ⟨x5, y5⟩ := x5
    obtain ⟨x6, y6⟩ := let_stp x5 h6
    obtain ⟨x7, y7⟩ := num_stp (set := fun n c => { c with h := n }) x6 h7
    obtain ⟨x8, y8⟩ := let_stp x7 h8
    obtain ⟨x9, y9⟩ := num_stp (set := fun n c => { c with mi := n }) x8 h9
    obtain ⟨x10, y10⟩ := let_stp x9 h10
    obtain ⟨x11, y11⟩ := num_stp (set := fun n c => { c with s := n }) x10 h11
    have c11 : k11 = true → (stp l (numPc 2 0 59 fun n c => { c with s := n }) (stp l (letPc 58) (stp l (numPc 2 0 59 fun n c => { c with mi := n }) (stp l (letPc 58) (stp l (numPc 2 0 23 fun n c => { c with h := n }) (stp l (letPc 84) (stp l dayPc X4))))))).1 = ⟨y, mo, d, h, mi, s, 0, 0, 0, 0⟩ := by
      intro hk
      obtain ⟨q11, e11⟩ := y11 hk
      obtain ⟨q10, e10⟩ := y10 q11
      obtain ⟨q9, e9⟩ := y9 q10
      obtain ⟨q8, e8⟩ := y8 q9
      obtain ⟨q7, e7⟩ := y7 q8
      obtain ⟨q6, e6⟩ := y6 q7
      obtain ⟨q5, e5⟩ := y5 q6
      rw [e11, e10, e9, e8, e7, e6, e5, c4 q5]
    obtain ⟨x12, y12⟩ := frac_stp x11 (fun hk => by rw [c11 hk]) h12
    refine ⟨x12, fun hk => ?_⟩
    obtain ⟨q12, e12⟩ := y12 hk
    exact e12.trans (by rw [c11 q12])
  obtain ⟨⟨c, k, o⟩, e1, e2, e3⟩ := key
  simp only [Prod.mk.injEq] at e2
  obtain ⟨rfl, rfl⟩ := e2
  unfold goT
  rw [e1]
  cases o with
  | false =>
    rw [zoneR_no] at h13
    simp only [Prod.mk.injEq] at h13
    obtain ⟨rfl, rfl, rfl⟩ := h13
    have : stp l zonePc (c, k, false) = (c, k, false) := rfl
    rw [this]; simp
  | true =>
    have ec := e3 rfl
    simp only at ec
    unfold zoneR at h13
    rw [if_pos rfl] at h13
    have es : stp l zonePc (c, k, true) = match zonePc c (l.drop k) with | none => (c, k, false) | some (c', j) => (c', k + j, true) := rfl
    by_cases g1 : (l.drop k).head? = some 90
    · rw [if_pos g1] at h13
      simp only [Prod.mk.injEq] at h13
      obtain ⟨rfl, rfl, rfl⟩ := h13
      have ez : zonePc c (l.drop k) = some ({ c with ah := 0 }, 1) := by unfold zonePc; rw [if_pos g1]
      rw [es, ez]
      simp only
      rw [if_neg (by simp)]
      exact ⟨rfl, fun _ => ⟨0, 0, 0, by rw [ec], by simp⟩⟩
    · rw [if_neg g1] at h13
      have zz : ∀ c' : Clk, thr zonP c' (l.drop (k + 1)) (k + 1) = stp l (numPc 2 0 59 fun n c => { c with bm := n }) (stp l (letPc 58) (stp l (numPc 2 0 23 fun n c => { c with bh := n }) (c', k + 1, true))) := by
        intro c'; rw [thr_fold]; rfl
      obtain ⟨b1, o1, bh, i1⟩ : ∃ b1 o1 bh, numR 2 0 23 l (k + 1) true = (b1, o1, bh) := ⟨_, _, _, rfl⟩
      obtain ⟨b2, o2, i2⟩ : ∃ b2 o2, letR 58 l b1 o1 = (b2, o2) := ⟨_, _, rfl⟩
      obtain ⟨b3, o3, bm, i3⟩ : ∃ b3 o3 bm, numR 2 0 59 l b2 o2 = (b3, o3, bm) := ⟨_, _, _, rfl⟩
      have e3' : z3 l (k + 1) = (b3, o3, bh, bm) := by unfold z3; rw [i1]; simp only; rw [i2]; simp only; rw [i3]
      have go : ∀ c' : Clk, (thr zonP c' (l.drop (k + 1)) (k + 1)).2 = (b3, o3) ∧ (o3 = true → (thr zonP c' (l.drop (k + 1)) (k + 1)).1 = { c' with bh := bh, bm := bm }) := by
        intro c'
        rw [zz]
        obtain ⟨x1, y1⟩ := num_stp (set := fun n c => { c with bh := n }) (x := (c', k + 1, true)) rfl i1
        obtain ⟨x2, y2⟩ := let_stp x1 i2
        obtain ⟨x3, y3⟩ := num_stp (set := fun n c => { c with bm := n }) x2 i3
        refine ⟨x3, fun hk => ?_⟩
        obtain ⟨q3, f3⟩ := y3 hk
        obtain ⟨q2, f2⟩ := y2 q3
        obtain ⟨q1, f1⟩ := y1 q2
        rw [f3, f2, f1]
      by_cases g2 : (l.drop k).head? = some 43
      · rw [if_pos g2, e3'] at h13
        simp only [Prod.mk.injEq] at h13
        obtain ⟨rfl, rfl, rfl⟩ := h13
        have ez : zonePc c (l.drop k) = some ({ c with ah := 1 }, 1) := by unfold zonePc; rw [if_neg g1, if_pos g2]
        rw [es, ez]
        simp only
        rw [if_pos (by simp)]
        obtain ⟨r1, r2⟩ := go { c with ah := 1 }
        exact ⟨r1, fun hk => ⟨1, bh, bm, by rw [r2 hk, ec], by omega⟩⟩
      · rw [if_neg g2] at h13
        by_cases g3 : (l.drop k).head? = some 45
        · rw [if_pos g3, e3'] at h13
          simp only [Prod.mk.injEq] at h13
          obtain ⟨rfl, rfl, rfl⟩ := h13
          have ez : zonePc c (l.drop k) = some ({ c with ah := -1 }, 1) := by unfold zonePc; rw [if_neg g1, if_neg g2, if_pos g3]
          rw [es, ez]
          simp only
          rw [if_pos (by simp)]
          obtain ⟨r1, r2⟩ := go { c with ah := -1 }
          exact ⟨r1, fun hk => ⟨-1, bh, bm, by rw [r2 hk, ec], by omega⟩⟩
        · rw [if_neg g3] at h13
          simp only [Prod.mk.injEq] at h13
          obtain ⟨rfl, rfl, rfl⟩ := h13
          have ez : zonePc c (l.drop k) = none := by unfold zonePc; rw [if_neg g1, if_neg g2, if_neg g3]
          rw [es, ez]
          simp
end Go.Proofs.YtipahdplkmmofaaGreatDoor
