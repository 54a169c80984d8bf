
import Derived.Test.YtipahdplkmmofaaGreatDoorSpA
import Derived.Test.YtipahdplkmmofaaGreatDoorSpC
import Derived.Lib.TrimByte
namespace Go.Proofs.YtipahdplkmmofaaGreatDoor
set_option linter.unusedVariables false
set_option linter.unusedSimpArgs false
/-- a number with zeros ahead. -/
def padP (n : Int) (size : Nat) : List UInt8 := List.replicate (size - (Lib.itoa n).length) 48 ++ Lib.itoa n
def fracP (ns : Int) : List UInt8 := if ns = 0 then [] else 46 :: Lib.trimRightB (padP ns 9) 48
/-- a time as a text. -/
def textR (days rest : Int) : List UInt8 :=
  padP (yOf days) 4 ++ (45 :: (padP (ymOf days) 2 ++ (45 :: (padP (ydOf days) 2 ++ (84 :: (padP (rest / 3600000000000) 2 ++ (58 :: (padP (rest % 3600000000000 / 60000000000) 2 ++ (58 :: (padP (rest % 60000000000 / 1000000000) 2 ++ (fracP (rest % 1000000000) ++ [90])))))))))))
def textP (t : Int) : List UInt8 := textR (t / 86400000000000) (t % 86400000000000)
/-- what a time's text says. -/
structure Clk where
  (y mo d h mi s ns ah bh bm : Int)
def clk0 : Clk := ⟨0, 0, 0, 0, 0, 0, 0, 0, 0, 0⟩
abbrev Pc := Clk → List UInt8 → Option (Clk × Nat)
def numPc (size : Nat) (lo hi : Int) (set : Int → Clk → Clk) : Pc := fun c l =>
  if cnt (l.take size) < size then none else if valF 0 (l.take size) < lo ∨ hi < valF 0 (l.take size) then none else some (set (valF 0 (l.take size)) c, size)
def letPc (b : UInt8) : Pc := fun c l => if l.head? = some b then some (c, 1) else none
def dayPc : Pc := fun c l => numPc 2 1 (lenM c.y c.mo) (fun n c => { c with d := n }) c l
def fracPc : Pc := fun c l =>
  if l.head? = some 46 then
    (if cnt (l.drop 1) < 1 ∨ 9 < cnt (l.drop 1) then none else some ({ c with ns := valF 0 ((l.drop 1).take (cnt (l.drop 1)) ++ List.replicate (9 - cnt (l.drop 1)) 48) }, 1 + cnt (l.drop 1)))
  else some (c, 0)
def zonePc : Pc := fun c l =>
  if l.head? = some 90 then some ({ c with ah := 0 }, 1) else if l.head? = some 43 then some ({ c with ah := 1 }, 1) else if l.head? = some 45 then some ({ c with ah := -1 }, 1) else none
def thr : List Pc → Clk → List UInt8 → Nat → Clk × Nat × Bool
  | [], c, _, k => (c, k, true)
  | p :: ps, c, l, k => match p c l with
    | none => (c, k, false)
    | some (c', j) => thr ps c' (l.drop j) (k + j)
def locP : List Pc := [numPc 4 0 9999 (fun n c => { c with y := n }), letPc 45, numPc 2 1 12 (fun n c => { c with mo := n }), letPc 45, dayPc, letPc 84, numPc 2 0 23 (fun n c => { c with h := n }), letPc 58, numPc 2 0 59 (fun n c => { c with mi := n }), letPc 58, numPc 2 0 59 (fun n c => { c with s := n }), fracPc, zonePc]
def zonP : List Pc := [numPc 2 0 23 (fun n c => { c with bh := n }), letPc 58, numPc 2 0 59 (fun n c => { c with bm := n })]
def goT (l : List UInt8) : Clk × Nat × Bool :=
  if (thr locP clk0 l 0).2.2 = true ∧ (thr locP clk0 l 0).1.ah ≠ 0 then thr zonP (thr locP clk0 l 0).1 (l.drop (thr locP clk0 l 0).2.1) (thr locP clk0 l 0).2.1 else thr locP clk0 l 0
/-- the seconds and the nanoseconds of a clock. -/
def secC (c : Clk) : Int := dayN c.y c.mo c.d * 86400 + (60 * (60 * (c.h - c.ah * c.bh) + c.mi - c.ah * c.bm) + c.s)
def nsC (c : Clk) : Int := secC c * 1000000000 + c.ns
/-- the error of a time's text: 1: at the place; 2: outside; 0: none. -/
def tmE (l : List UInt8) : Nat := if (goT l).2.2 = false ∨ (goT l).2.1 < l.length then 1 else if -9223372036854775808 ≤ nsC (goT l).1 ∧ nsC (goT l).1 < 9223372036854775808 then 0 else 2
theorem dec_len0 : ∀ (k u : Nat), u < 10 ^ (k + 1) → (Lib.decDigits u).length ≤ k + 1 := by
  intro k
  induction k with
  | zero => intro u h; rw [Lib.decDigits, dif_pos (by simpa using h)]; simp
  | succ k ih =>
    intro u h
    rw [Lib.decDigits]
    split
    · simp
    · have := ih (u / 10) (by rw [Nat.pow_succ] at h; omega)
      simp; omega
theorem allD_rep (j : Nat) : allD (List.replicate j 48) := by
  intro c hc; rw [List.mem_replicate] at hc; rw [hc.2]; decide
theorem allD_app {a b : List UInt8} (h1 : allD a) (h2 : allD b) : allD (a ++ b) := by
  intro c hc; rcases List.mem_append.1 hc with h | h
  · exact h1 c h
  · exact h2 c h
theorem valF_zeros : ∀ j : Nat, valF 0 (List.replicate j 48) = 0
  | 0 => rfl
  | j + 1 => by rw [List.replicate_succ]; simp only [valF]; exact valF_zeros j
theorem itoa_pos (n : Int) (h : 0 ≤ n) : Lib.itoa n = Lib.decDigits n.toNat := by unfold Lib.itoa; rw [if_neg (by omega)]
theorem pad_ok (n : Int) (k : Nat) (h : 0 ≤ n) (hn : n < ((10 ^ (k + 1) : Nat) : Int)) : (padP n (k + 1)).length = k + 1 ∧ allD (padP n (k + 1)) ∧ valF 0 (padP n (k + 1)) = n := by
  unfold padP; rw [itoa_pos n h]
  have hl := dec_len0 k n.toNat (by omega)
  refine ⟨by simp; omega, allD_app (allD_rep _) (dec_allD _), ?_⟩
  rw [valF_app, valF_zeros, valF_dec]; omega
theorem cnt_full {a : List UInt8} (h : allD a) : cnt a = a.length := by
  have := cnt_digs a [] h rfl; simpa using this
theorem num_at (size : Nat) (lo hi : Int) (set : Int → Clk → Clk) (c : Clk) (a r : List UInt8) (n : Int) (h1 : a.length = size) (h2 : allD a) (h3 : valF 0 a = n) (h4 : lo ≤ n) (h5 : n ≤ hi) : numPc size lo hi set c (a ++ r) = some (set n c, size) := by
  unfold numPc
  have e : (a ++ r).take size = a := by rw [← h1]; exact List.take_left
  rw [e, cnt_full h2, h3, if_neg (by omega), if_neg (by omega)]
theorem thr_cons (p : Pc) (ps : List Pc) (c c' : Clk) (a r : List UInt8) (k j : Nat) (h : p c (a ++ r) = some (c', j)) (hj : a.length = j) : thr (p :: ps) c (a ++ r) k = thr ps c' r (k + j) := by
  rw [thr, h]; simp only
  rw [← hj, List.drop_left]
theorem thr_let (b : UInt8) (ps : List Pc) (c : Clk) (r : List UInt8) (k : Nat) : thr (letPc b :: ps) c (b :: r) k = thr ps c r (k + 1) :=
  thr_cons _ ps c c [b] r k 1 (by simp [letPc]) rfl
theorem drop_zeros : ∀ l : List UInt8, ∃ j, l = List.replicate j 48 ++ l.dropWhile (· == 48)
  | [] => ⟨0, rfl⟩
  | c :: l => by
    by_cases h : c = 48
    · obtain ⟨j, hj⟩ := drop_zeros l
      refine ⟨j + 1, ?_⟩
      subst h
      simp only [List.dropWhile_cons, beq_self_eq_true, if_true, List.replicate_succ, List.cons_append]
      rw [← hj]
    · refine ⟨0, ?_⟩
      simp [List.dropWhile_cons, h]
theorem trim_zeros (l : List UInt8) : ∃ j, l = Lib.trimRightB l 48 ++ List.replicate j 48 := by
  obtain ⟨j, hj⟩ := drop_zeros l.reverse
  refine ⟨j, ?_⟩
  unfold Lib.trimRightB
  have := congrArg List.reverse hj
  rw [List.reverse_reverse, List.reverse_append, List.reverse_replicate] at this
  exact this
theorem frac_at (ns : Int) (h0 : 0 ≤ ns) (h1 : ns < 1000000000) (c : Clk) (hc : c.ns = 0) (ps : List Pc) (k : Nat) : ∃ j, thr (fracPc :: ps) c (fracP ns ++ [90]) k = thr ps { c with ns := ns } [90] (k + j) ∧ (fracP ns).length = j := by
  by_cases hz : ns = 0
  · subst hz
    refine ⟨0, ?_, by simp [fracP]⟩
    have e : fracP 0 = [] := by simp [fracP]
    rw [e]
    have ec : { c with ns := 0 } = c := by cases c; simp only at hc; subst hc; rfl
    rw [ec]
    exact thr_cons fracPc ps c c [] [90] k 0 (by simp [fracPc]) rfl
  · have ef : fracP ns = 46 :: Lib.trimRightB (padP ns 9) 48 := by unfold fracP; rw [if_neg hz]
    obtain ⟨p1, p2, p3⟩ := pad_ok ns 8 h0 (by simpa using h1)
    obtain ⟨j, hj⟩ := trim_zeros (padP ns 9)
    generalize hT : Lib.trimRightB (padP ns 9) 48 = T at *
    have hd : allD T := by intro x hx; exact p2 x (by rw [hj]; simp [hx])
    have hl : T.length + j = 9 := by have := congrArg List.length hj; rw [p1] at this; simp at this; omega
    have hv : valF 0 (T ++ List.replicate (9 - T.length) 48) = ns := by rw [show 9 - T.length = j by omega, ← hj, p3]
    have hne : 1 ≤ T.length := by
      rcases T with _ | ⟨x, T⟩
      · exfalso; rw [List.nil_append, List.length_nil, Nat.sub_zero, valF_zeros] at hv; omega
      · simp
    have hcn : cnt (T ++ [90]) = T.length := cnt_digs T [90] hd (by decide)
    refine ⟨1 + T.length, ?_, by rw [ef]; simp; omega⟩
    rw [ef]
    refine thr_cons fracPc ps c _ (46 :: T) [90] k (1 + T.length) ?_ (by simp; omega)
    unfold fracPc
    have e1 : ((46 :: T) ++ [90] : List UInt8).head? = some 46 := rfl
    have e2 : ((46 :: T) ++ [90] : List UInt8).drop 1 = T ++ [90] := rfl
    rw [if_pos e1, e2, hcn, if_neg (by omega), List.take_left, hv]
theorem go_text (days rest : Int) (h1 : -719528 ≤ days) (h2 : days < 2932897) (h3 : 0 ≤ rest) (h4 : rest < 86400000000000) :
    goT (textR days rest) = (⟨yOf days, ymOf days, ydOf days, rest / 3600000000000, rest % 3600000000000 / 60000000000, rest % 60000000000 / 1000000000, rest % 1000000000, 0, 0, 0⟩, (textR days rest).length, true) := by
  obtain ⟨⟨a1, a2, a3, a4, a5, a6⟩, _⟩ := date_ok days h1 h2
  have hM := lenM_bd (yOf days) (ymOf days)
  obtain ⟨y1, y2, y3⟩ := pad_ok (yOf days) 3 a1 (by omega)
  obtain ⟨m1, m2, m3⟩ := pad_ok (ymOf days) 1 (by omega) (by omega)
  obtain ⟨d1, d2, d3⟩ := pad_ok (ydOf days) 1 (by omega) (by omega)
  obtain ⟨x1, x2, x3⟩ := pad_ok (rest / 3600000000000) 1 (by omega) (by omega)
  obtain ⟨n1, n2, n3⟩ := pad_ok (rest % 3600000000000 / 60000000000) 1 (by omega) (by omega)
  obtain ⟨s1, s2, s3⟩ := pad_ok (rest % 60000000000 / 1000000000) 1 (by omega) (by omega)
  have key : thr locP clk0 (textR days rest) 0 = (⟨yOf days, ymOf days, ydOf days, rest / 3600000000000, rest % 3600000000000 / 60000000000, rest % 60000000000 / 1000000000, rest % 1000000000, 0, 0, 0⟩, (textR days rest).length, true) := by
    have hlen : (textR days rest).length = 20 + (fracP (rest % 1000000000)).length := by
      unfold textR; simp only [List.length_append, List.length_cons, List.length_nil, y1, m1, d1, x1, n1, s1]; omega
    rw [hlen]
    unfold textR locP
    rw [thr_cons _ _ _ _ _ _ _ _ (num_at 4 0 9999 _ _ _ _ (yOf days) y1 y2 y3 a1 a2) y1, thr_let]
    rw [thr_cons _ _ _ _ _ _ _ _ (num_at 2 1 12 _ _ _ _ (ymOf days) m1 m2 m3 a3 a4) m1, thr_let]
    rw [thr_cons dayPc _ _ _ _ _ _ _ (num_at 2 1 _ _ _ _ _ (ydOf days) d1 d2 d3 a5 a6) d1, thr_let]
    rw [thr_cons _ _ _ _ _ _ _ _ (num_at 2 0 23 _ _ _ _ (rest / 3600000000000) x1 x2 x3 (by omega) (by omega)) x1, thr_let]
    rw [thr_cons _ _ _ _ _ _ _ _ (num_at 2 0 59 _ _ _ _ (rest % 3600000000000 / 60000000000) n1 n2 n3 (by omega) (by omega)) n1, thr_let]
    rw [thr_cons _ _ _ _ _ _ _ _ (num_at 2 0 59 _ _ _ _ (rest % 60000000000 / 1000000000) s1 s2 s3 (by omega) (by omega)) s1]
    obtain ⟨j, hj, hjl⟩ := frac_at (rest % 1000000000) (by omega) (by omega) { y := yOf days, mo := ymOf days, d := ydOf days, h := rest / 3600000000000, mi := rest % 3600000000000 / 60000000000, s := rest % 60000000000 / 1000000000, ns := 0, ah := 0, bh := 0, bm := 0 } rfl [zonePc] (0 + 4 + 1 + 2 + 1 + 2 + 1 + 2 + 1 + 2 + 1 + 2)
    rw [hjl]
    refine Eq.trans hj ?_
    simp [thr, zonePc]
    omega
  unfold goT
  rw [key]; simp
/-- what is written of a time is read so. -/
theorem time_text (t : Int) (h1 : -9223372036854775808 ≤ t) (h2 : t < 9223372036854775808) : tmE (textP t) = 0 ∧ nsC (goT (textP t)).1 = t := by
  unfold textP
  have g := go_text (t / 86400000000000) (t % 86400000000000) (by omega) (by omega) (by omega) (by omega)
  obtain ⟨_, hd⟩ := date_ok (t / 86400000000000) (by omega) (by omega)
  have hn : nsC (goT (textR (t / 86400000000000) (t % 86400000000000))).1 = t := by
    rw [g]; unfold nsC secC; simp only [hd]; omega
  refine ⟨?_, hn⟩
  unfold tmE
  rw [hn, if_neg (by rw [g]; simp), if_pos ⟨h1, h2⟩]
end Go.Proofs.YtipahdplkmmofaaGreatDoor
