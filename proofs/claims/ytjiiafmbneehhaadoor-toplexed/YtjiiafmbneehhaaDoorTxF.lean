
import Derived.Test.YtjiiafmbneehhaaDoorTxE
import Derived.BigQuiet
import Derived.WalkMore
import Derived.WalkKit
import Derived.Handy
import Derived.Deep.RegionHeld3
namespace Go.Proofs.YtjiiafmbneehhaaDoor.Lx
open Go.RowKit Go.Shelf
set_option linter.unusedVariables false
set_option linter.unusedSimpArgs false
set_option maxRecDepth 100000
/-- an error at a place. -/
def atE (p e : Int) : Value := .iface 54 (.agg #[.int .i64 p, .iface 33 (.int .i64 e)])
def tokZ : Value := .agg #[.int .u8 0, .string ⟨#[]⟩, .int .i64 0, .int .i64 0]
theorem faultAt_any (p e : Int) (he : (e == 0) = false) (w : World) : Calls Tryd.prog 21 #[.int .i64 p, .int .i64 e] w fun ev w' => ev = .returned (atE p e) ∧ w' = w := by
  go_enter Tryd.func21, Tryd.ntmps21
  go_wp2
  go_ret
  exact ⟨rfl, rfl⟩
theorem fnew_any (c : Int) (h : (c == 0) = false) (w : World) : Calls Tryd.prog 7 #[.int .i64 c] w fun e w' => e = .returned (.iface 33 (.int .i64 c)) ∧ w' = w := by
  go_enter Tryd.func7, Tryd.ntmps7
  go_wp2
  go_ret
  exact ⟨rfl, rfl⟩
/-- what is told of a quoted text. -/
def QRes (kd : Int) (a : Nat) (R : Option (List UInt8 × Nat)) (e : Ending) : Prop := match R with
  | some x => ∃ T : ByteArray, e = .returned (.tuple #[.agg #[.int .u8 kd, .string T, .int .i64 0, .int .i64 0], .int .i64 ((a + 1 + x.2 : Nat) : Int), .nilIface]) ∧ bL T = x.1
  | none => ∃ p c, e = .returned (.tuple #[tokZ, .int .i64 0, atE p c])
/-- the state of the loop. -/
def QI (m : UInt8) (s : ByteArray) (a : Nat) (R : Option (List UInt8 × Nat)) (k : Nat) (bs : List UInt8) : Prop := a + 1 ≤ k ∧ R = (quoL m ((bL s).drop k)).map (fun x => (bs ++ x.1, x.2 + (k - (a + 1)))) ∧ bs.length ≤ k
theorem QI.start (m : UInt8) (s : ByteArray) (a : Nat) : QI m s a (quoL m ((bL s).drop (a + 1))) (a + 1) [] := ⟨Nat.le_refl _, by
  cases quoL m ((bL s).drop (a + 1)) with
  | none => rfl
  | some x => simp, by simp⟩
theorem quo_hit (m : UInt8) (r : List UInt8) : quoL m (m :: r) = some ([], 1) := by cases r <;> simp [quoL]
theorem quo_on (m c : UInt8) (r : List UInt8) (h1 : ¬ c = m) (h2 : ¬ c = 92) : quoL m (c :: r) = (quoL m r).map (fun x => (c :: x.1, x.2 + 1)) := by
  cases r with
  | nil => unfold quoL; rw [if_neg h1]; rfl
  | cons d r => show (if c = m then _ else _) = _; rw [if_neg h1, if_neg h2]
theorem quo_esc1 (m d : UInt8) (r : List UInt8) (hm : ¬ (92 : UInt8) = m) (h : d = m ∨ d = 92) : quoL m (92 :: d :: r) = (quoL m r).map (fun x => (d :: x.1, x.2 + 2)) := by
  show (if (92 : UInt8) = m then _ else _) = _; rw [if_neg hm, if_pos rfl, if_pos h]
theorem quo_bad (m d : UInt8) (r : List UInt8) (hm : ¬ (92 : UInt8) = m) (h : ¬ (d = m ∨ d = 92)) : quoL m (92 :: d :: r) = none := by
  show (if (92 : UInt8) = m then _ else _) = _; rw [if_neg hm, if_pos rfl, if_neg h]
theorem quo_bad1 (m : UInt8) (hm : ¬ (92 : UInt8) = m) : quoL m [92] = none := by unfold quoL; rw [if_neg hm]
theorem QI.hit {m : UInt8} {s : ByteArray} {a k : Nat} {R bs} (h : QI m s a R k bs) (hk : k < s.size) (e : s[k] = m) : R = some (bs, k - a) := by
  obtain ⟨h0, h1, h2⟩ := h
  rw [h1, drop_at s k hk, e, quo_hit]
  simp
  omega
theorem QI.on {m : UInt8} {s : ByteArray} {a k : Nat} {R bs} (h : QI m s a R k bs) (hk : k < s.size) (e1 : ¬ s[k] = m) (e2 : ¬ s[k] = 92) : QI m s a R (k + 1) (bs ++ [s[k]]) := by
  obtain ⟨h0, h1, h2⟩ := h
  refine ⟨by omega, ?_, by simp; omega⟩
  rw [h1, drop_at s k hk, quo_on _ _ _ e1 e2]
  cases quoL m ((bL s).drop (k + 1)) with
  | none => rfl
  | some x => simp; omega
theorem QI.esc {m : UInt8} {s : ByteArray} {a k : Nat} {R bs} (h : QI m s a R k bs) (hm : ¬ (92 : UInt8) = m) (hk : k + 1 < s.size) (e1 : s[k] = 92) (e2 : s[k + 1] = m ∨ s[k + 1] = 92) : QI m s a R (k + 1 + 1) (bs ++ [s[k + 1]]) := by
  obtain ⟨h0, h1, h2⟩ := h
  refine ⟨by omega, ?_, by simp; omega⟩
  rw [h1, drop_at s k (by omega), drop_at s (k + 1) hk, e1, quo_esc1 _ _ _ hm e2]
  cases quoL m ((bL s).drop (k + 1 + 1)) with
  | none => rfl
  | some x => simp; omega
theorem QI.bad {m : UInt8} {s : ByteArray} {a k : Nat} {R bs} (h : QI m s a R k bs) (hm : ¬ (92 : UInt8) = m) (hk : k + 1 < s.size) (e1 : s[k] = 92) (e2 : ¬ (s[k + 1] = m ∨ s[k + 1] = 92)) : R = none := by
  obtain ⟨h0, h1, h2⟩ := h
  rw [h1, drop_at s k (by omega), drop_at s (k + 1) hk, e1, quo_bad _ _ _ hm e2]; rfl
theorem QI.bad1 {m : UInt8} {s : ByteArray} {a k : Nat} {R bs} (h : QI m s a R k bs) (hm : ¬ (92 : UInt8) = m) (hk : k + 1 = s.size) (e1 : s[k]'(by omega) = 92) : R = none := by
  obtain ⟨h0, h1, h2⟩ := h
  rw [h1, drop_at s k (by omega), drop_end s (k + 1) (by omega), e1, quo_bad1 _ hm]; rfl
theorem QI.out {m : UInt8} {s : ByteArray} {a k : Nat} {R bs} (h : QI m s a R k bs) (hk : s.size ≤ k) : R = none := by
  obtain ⟨h0, h1, h2⟩ := h
  rw [h1, drop_end s k hk]; rfl
/-- a token's box as it is made. -/
def tokB : Obj := .cells #[.int .u8 0, .string ⟨#[]⟩, .int .i64 0, .int .i64 0] 29
structure K4 (N : Nat) (W : World) : Prop where
  k0 : W.cell? ⟨N, 0, none⟩ = some (.int .u8 0)
  k1 : W.cell? ⟨N, 1, none⟩ = some (.string ⟨#[]⟩)
  k2 : W.cell? ⟨N, 2, none⟩ = some (.int .i64 0)
  k3 : W.cell? ⟨N, 3, none⟩ = some (.int .i64 0)
  z0 : W.frozen? ⟨N, 0, none⟩ = false
  z1 : W.frozen? ⟨N, 1, none⟩ = false
  z2 : W.frozen? ⟨N, 2, none⟩ = false
  z3 : W.frozen? ⟨N, 3, none⟩ = false
  lt : N < W.heap.size
theorem K4.below {N b : Nat} {W W' : World} (h : K4 N W) (hb : Below b W W') (hN : N < b) : K4 N W' := by
  have c : ∀ o, W'.cell? ⟨N, o, none⟩ = W.cell? ⟨N, o, none⟩ := fun o => hb.cell (p := ⟨N, o, none⟩) hN
  have z : ∀ o, W'.frozen? ⟨N, o, none⟩ = W.frozen? ⟨N, o, none⟩ := fun o => hb.frozen (p := ⟨N, o, none⟩) hN
  exact ⟨by rw [c]; exact h.k0, by rw [c]; exact h.k1, by rw [c]; exact h.k2, by rw [c]; exact h.k3, by rw [z]; exact h.z0, by rw [z]; exact h.z1, by rw [z]; exact h.z2, by rw [z]; exact h.z3, Nat.lt_of_lt_of_le h.lt hb.size⟩
theorem K4.new (w : World) : K4 w.heap.size (w.alloc tokB) := by
  unfold tokB
  refine ⟨?_, ?_, ?_, ?_, ?_, ?_, ?_, ?_, ?_⟩ <;> simp [go_sem]
theorem four_set (W : World) (K : Nat) (a b c d : Value) : Below K W ((((W.setCell ⟨K, 0, none⟩ a).setCell ⟨K, 1, none⟩ b).setCell ⟨K, 2, none⟩ c).setCell ⟨K, 3, none⟩ d) :=
  ((((Below.refl K W).setCell (Nat.le_refl _) a).setCell (Nat.le_refl _) b).setCell (Nat.le_refl _) c).setCell (Nat.le_refl _) d
theorem four_cells {w1 : World} {K : Nat} {x0 x1 x2 x3 : Value} (k0 : w1.cell? ⟨K, 0, none⟩ = some x0) (k1 : w1.cell? ⟨K, 1, none⟩ = some x1) (k2 : w1.cell? ⟨K, 2, none⟩ = some x2) (k3 : w1.cell? ⟨K, 3, none⟩ = some x3) (a b c d : Value) : (w1.setCell ⟨K, 0, none⟩ a).cell? ⟨K, 0, none⟩ = some a ∧ ((w1.setCell ⟨K, 0, none⟩ a).setCell ⟨K, 1, none⟩ b).cell? ⟨K, 1, none⟩ = some b ∧ (((w1.setCell ⟨K, 0, none⟩ a).setCell ⟨K, 1, none⟩ b).setCell ⟨K, 2, none⟩ c).cell? ⟨K, 2, none⟩ = some c ∧ ((((w1.setCell ⟨K, 0, none⟩ a).setCell ⟨K, 1, none⟩ b).setCell ⟨K, 2, none⟩ c).setCell ⟨K, 3, none⟩ d).cell? ⟨K, 3, none⟩ = some d := by
  have ne : ∀ (W : World) (v : Value) (i j : Nat), j ≠ i → (W.setCell ⟨K, i, none⟩ v).cell? ⟨K, j, none⟩ = W.cell? ⟨K, j, none⟩ := fun W v i j h => World.cell?_setCell_other _ _ _ _ (by intro e; injection e; omega)
  exact ⟨World.cell?_setCell_same _ _ _ k0, World.cell?_setCell_same _ _ _ (by rw [ne _ _ _ _ (by omega)]; exact k1), World.cell?_setCell_same _ _ _ (by rw [ne _ _ _ _ (by omega), ne _ _ _ _ (by omega)]; exact k2), World.cell?_setCell_same _ _ _ (by rw [ne _ _ _ _ (by omega), ne _ _ _ _ (by omega), ne _ _ _ _ (by omega)]; exact k3)⟩
/-- the result's box, and the text that is read. -/
def QB (N : Nat) (w : World) (bs : List UInt8) (W : World) : Prop := K4 N W ∧ BS (N + 1) W bs W ∧ Below N w W
theorem QB.new (w : World) : QB w.heap.size w [] ((w.alloc (.cells #[.int .u8 0, .string ⟨#[]⟩, .int .i64 0, .int .i64 0] 29)).alloc (.cells #[.pointer none, .slice none 0 0] 41)) := by
  have h := BS.new (w.alloc tokB)
  have hz : (w.alloc tokB).heap.size = w.heap.size + 1 := World.size_alloc _ _
  rw [hz] at h
  obtain ⟨h1, h2, h3⟩ := h
  exact ⟨(K4.new w).below h2 (Nat.lt_succ_self _), ⟨h1, Below.refl _ _, Nat.le_trans (Nat.le_of_eq hz.symm) h2.size⟩, ((Below.refl _ w).alloc (Nat.le_refl _) _).trans (h2.mono (Nat.le_succ _))⟩
theorem QB.drewN {N : Nat} {w W : World} {bs : List UInt8} (h : QB N w bs W) (q : Nat) : QB N w bs (W.drewN q) := by
  obtain ⟨h1, ⟨g1, g2, g3⟩, h3⟩ := h
  exact ⟨⟨h1.k0, h1.k1, h1.k2, h1.k3, h1.z0, h1.z1, h1.z2, h1.z3, h1.lt⟩, ⟨by first | exact g1 | (rcases g1 with g | g; exact .inl g; exact .inr g), Below.refl _ _, g3⟩, ⟨h3.os, h3.tape, h3.output, h3.size, h3.block⟩⟩
theorem QB.write {N : Nat} {w W : World} {bs : List UInt8} (h : QB N w bs W) (c : UInt8) (ht : bs.length + 1 ≤ 140737488355328) :
    Calls Tryd.prog 12 #[.pointer (some ⟨N + 1, 0, none⟩), .int .u8 (c.toNat : Int)] W fun e w' => e = .returned .nilIface ∧ QB N w (bs ++ [c]) w' := by
  obtain ⟨h1, h2, h3⟩ := h
  refine (h2.write c ht).mono ?_
  rintro e w' ⟨rfl, g1, g2, g3⟩
  exact ⟨rfl, h1.below g2 (Nat.lt_succ_self _), ⟨g1, Below.refl _ _, Nat.le_trans g3 g2.size⟩, h3.trans (g2.mono (Nat.le_succ _))⟩
theorem QB.text {N : Nat} {w W : World} {bs : List UInt8} (h : QB N w bs W) :
    Calls Tryd.prog 13 #[.pointer (some ⟨N + 1, 0, none⟩)] W fun e w' => e = .returned (.string ⟨bs.toArray⟩) ∧ QB N w bs w' := by
  obtain ⟨h1, h2, h3⟩ := h
  refine h2.text.mono ?_
  rintro e w' ⟨rfl, g1, g2, g3⟩
  exact ⟨rfl, h1.below g2 (Nat.lt_succ_self _), ⟨g1, Below.refl _ _, Nat.le_trans g3 g2.size⟩, h3.trans (g2.mono (Nat.le_succ _))⟩
set_option pp.deepTerms true in
set_option maxHeartbeats 4000000 in
theorem lquoted_any (s : ByteArray) (hs : s.size ≤ 1048576) (a : Nat) (ha : a < s.size) (kd : Int) (hm : ¬ (92 : UInt8) = s[a]) (w : World) : Calls Tryd.prog 18 #[.string s, .int .i64 (a : Int), .int .u8 kd] w fun e w' => QRes kd a (quoL s[a] ((bL s).drop (a + 1))) e ∧ Below w.heap.size w w' := by
  obtain ⟨R, hR⟩ : ∃ R, quoL s[a] ((bL s).drop (a + 1)) = R := ⟨_, rfl⟩
  have q0 : Hid (QI s[a] s a R (a + 1) []) := by rw [← hR]; exact QI.start _ _ _
  rw [hR]
  clear hR
  have a0 : (0 : Int) ≤ (a : Int) := by omega
  have aI : (a : Int) < (s.size : Int) := by omega
  have aw : IntKind.i64.wrap ((a : Int) + 1) = ((a + 1 : Nat) : Int) := IntWalk.i64_in _ (by omega)
  have B0 : Hid (QB w.heap.size w [] ((w.alloc (.cells #[.int .u8 0, .string ⟨#[]⟩, .int .i64 0, .int .i64 0] 29)).alloc (.cells #[.pointer none, .slice none 0 0] 41))) := QB.new w
  generalize hb : w.heap.size = N at B0 ⊢
  have aw2 : wrap64 ((a : Int) + 1) = ((a + 1 : Nat) : Int) := IntWalk.wrap64_in _ (by omega)
  go_enter Tryd.func18, Tryd.ntmps18
  go_wp2_with fail
  clear hb
  generalize World.alloc (World.alloc w _) _ = W1 at B0 ⊢
  go_loopw [10] (fun v10 wr => ∃ (k : Nat) (bs : List UInt8), v10 = .int .i64 (k : Int) ∧ k ≤ s.size ∧ Hid (QB N w bs wr) ∧ Hid (QI s[a] s a R k bs)) (fun v10 _ => s.size - (intOf v10).toNat)
  case atStart => exact ⟨a + 1, [], by first | rfl | (rw [aw]), by omega, B0, q0⟩
  case round =>
    clear B0 q0
    obtain ⟨k, bs, rfl, hk, hB, hQ⟩ := hrel
    have k0 : (0 : Int) ≤ (k : Int) := by omega
    by_cases hlt : k < s.size
    · have kI : (k : Int) < (s.size : Int) := by omega
      have kw : IntKind.i64.wrap ((k : Int) + 1) = ((k + 1 : Nat) : Int) := IntWalk.i64_in _ (by omega)
      by_cases h1 : s[k] = s[a]
      · obtain ⟨q1, q2⟩ := tn_eq h1
        have eR : Hid (R = some (bs, k - a)) := hQ.out.hit hlt h1
        have ak : Hid (a + 1 ≤ k) := hQ.out.1
        have c1 : Hid (Calls Tryd.prog 13 #[.pointer (some ⟨N + 1, 0, none⟩)] wr fun e w' => e = .returned (.string ⟨bs.toArray⟩) ∧ QB N w bs w') := hB.out.text
        clear hB hQ h1
        go_wp2_with fail
        with_reducible refine Calls.mono c1.out ?_
        rintro e w2 ⟨rfl, b⟩
        have BQ : Hid (QB N w bs w2) := b
        clear b c1
        have b0 := BQ.out.1.k0
        have b1 := BQ.out.1.k1
        have b2 := BQ.out.1.k2
        have b3 := BQ.out.1.k3
        have z0 := BQ.out.1.z0
        have z1 := BQ.out.1.z1
        have z2 := BQ.out.1.z2
        have z3 := BQ.out.1.z3
        obtain ⟨p0, p1, p2, p3⟩ := four_cells b0 b1 b2 b3 (.int .u8 kd) (.string ⟨bs.toArray⟩) (.int .i64 0) (.int .i64 0)
        go_wp2_with fail
        simp [bodyPost, results, Tryd.results18, go_sem, p0, p1, p2, p3, BQ.out.1.lt]
        refine ⟨?_, BQ.out.2.2.trans (four_set _ _ _ _ _ _)⟩
        rw [eR.out]
        refine ⟨⟨bs.toArray⟩, ?_, bL_mk _⟩
        have e1 : a + 1 + (k - a) = k + 1 := by have := ak.out; omega
        show _ = Ending.returned (.tuple #[_, .int .i64 ((a + 1 + (k - a) : Nat) : Int), _])
        rw [e1]
        first | rfl | (rw [kw]; rfl) | (rw [kw])
      · obtain ⟨q1, q2⟩ := tn_ne h1
        by_cases h2 : s[k] = 92
        · have q3 : ((s[k].toNat : Int) == 92) = true := (tn_eq h2).1
          have q4 : decide ((s[k].toNat : Int) = 92) = true := (tn_eq h2).2
          by_cases h3 : k + 1 < s.size
          · obtain ⟨j, hj, hjs, f1, f2, wr1⟩ : ∃ (j : Nat) (hj : j = k + 1) (hjs : j < s.size), (∀ (hd : s[j] = s[a] ∨ s[j] = 92), Hid (QI s[a] s a R (j + 1) (bs ++ [s[j]]))) ∧ (∀ (hd : ¬ (s[j] = s[a] ∨ s[j] = 92)), Hid (R = none)) ∧ Hid (∀ q, Calls Tryd.prog 12 #[.pointer (some ⟨N + 1, 0, none⟩), .int .u8 (s[j].toNat : Int)] (wr.drewN q) fun e w' => e = .returned .nilIface ∧ QB N w (bs ++ [s[j]]) w') := ⟨k + 1, rfl, h3, fun hd => hQ.out.esc hm h3 h2 hd, fun hd => hQ.out.bad hm h3 h2 hd, fun q => (hB.out.drewN q).write _ (by have := hQ.out.2.2; omega)⟩
            have kwj : IntKind.i64.wrap ((k : Int) + 1) = (j : Int) := by rw [kw]; omega
            have j0 : (0 : Int) ≤ (j : Int) := by omega
            have jI : (j : Int) < (s.size : Int) := by omega
            have n1 : ((j : Int) == (s.size : Int)) = false := beq_eq_false_iff_ne.2 (by omega)
            have n2 : decide ((j : Int) = (s.size : Int)) = false := decide_eq_false (by omega)
            have n3 : ¬ (j : Int) = (s.size : Int) := by omega
            have jw : IntKind.i64.wrap ((j : Int) + 1) = ((j + 1 : Nat) : Int) := IntWalk.i64_in _ (by omega)
            have jw2 : IntKind.i64.wrap ((j : Int) - 1) = (j : Int) - 1 := IntWalk.i64_in _ (by omega)
            have hjH : Hid (j = k + 1) := hj
            clear hj
            by_cases d1 : s[j] = s[a]
            · obtain ⟨t1, t2⟩ := tn_eq d1
              have t5 : ((s[j].toNat : Int) != (s[a].toNat : Int)) = false := by rw [bne, t1]; rfl
              have NX := f1 (Or.inl d1)
              have c1 := wr1
              clear wr1 f1 f2 hB hQ h1 h2 kw d1
              go_wp2_with fail
              go_quiet (fail)
              go_wp2_with fail
              with_reducible refine Calls.mono (c1.out _) ?_
              rintro e w2 ⟨rfl, b⟩
              have BQ : Hid (QB N w (bs ++ [s[j]]) w2) := b
              clear b c1
              go_wp2_with fail
              exact ⟨⟨j + 1, _, by first | rfl | (rw [jw]), hjs, BQ, NX⟩, by have := hjH.out; first | (simp [intOf]; done) | (simp [intOf]; omega)⟩
            · obtain ⟨t1, t2⟩ := tn_ne d1
              have t5 : ((s[j].toNat : Int) != (s[a].toNat : Int)) = true := by rw [bne, t1]; rfl
              by_cases d2 : s[j] = 92
              · have t3 : ((s[j].toNat : Int) == 92) = true := (tn_eq d2).1
                have t4 : decide ((s[j].toNat : Int) = 92) = true := (tn_eq d2).2
                have t6 : ((s[j].toNat : Int) != 92) = false := by rw [bne, t3]; rfl
                have NX := f1 (Or.inr d2)
                have c1 := wr1
                clear wr1 f1 f2 hB hQ h1 h2 kw d1 d2
                go_wp2_with fail
                go_quiet (fail)
                go_wp2_with fail
                with_reducible refine Calls.mono (c1.out _) ?_
                rintro e w2 ⟨rfl, b⟩
                have BQ : Hid (QB N w (bs ++ [s[j]]) w2) := b
                clear b c1
                go_wp2_with fail
                exact ⟨⟨j + 1, _, by first | rfl | (rw [jw]), hjs, BQ, NX⟩, by have := hjH.out; first | (simp [intOf]; done) | (simp [intOf]; omega)⟩
              · have t3 : ((s[j].toNat : Int) == 92) = false := (tn_ne d2).1
                have t4 : decide ((s[j].toNat : Int) = 92) = false := (tn_ne d2).2
                have t6 : ((s[j].toNat : Int) != 92) = true := by rw [bne, t3]; rfl
                have eR := f2 (by rintro (q | q); exact d1 q; exact d2 q)
                have cA : Hid (∀ q, Calls Tryd.prog 21 #[.int .i64 ((j : Int) - 1), .int .i64 121] (wr.drewN q) fun ev w' => ev = .returned (atE ((j : Int) - 1) 121) ∧ QB N w bs w') := fun q => (faultAt_any _ _ rfl _).mono fun e w' h => ⟨h.1, by rw [h.2]; exact hB.out.drewN q⟩
                clear hB hQ h1 h2 f1 f2 wr1 kw d1 d2
                go_wp2_with fail
                go_quiet (fail)
                go_wp2_with fail
                with_reducible refine Calls.mono (cA.out _) ?_
                rintro e w2 ⟨rfl, b⟩
                have BQ : Hid (QB N w bs w2) := b
                clear b cA
                have b0 := BQ.out.1.k0
                have b1 := BQ.out.1.k1
                have b2 := BQ.out.1.k2
                have b3 := BQ.out.1.k3
                have z0 := BQ.out.1.z0
                have z1 := BQ.out.1.z1
                have z2 := BQ.out.1.z2
                have z3 := BQ.out.1.z3
                obtain ⟨p0, p1, p2, p3⟩ := four_cells b0 b1 b2 b3 (.int .u8 0) (.string ⟨#[]⟩) (.int .i64 0) (.int .i64 0)
                go_wp2_with fail
                simp [bodyPost, results, Tryd.results18, go_sem, p0, p1, p2, p3, BQ.out.1.lt]
                refine ⟨?_, BQ.out.2.2.trans (four_set _ _ _ _ _ _)⟩
                rw [eR.out]
                exact ⟨_, _, rfl⟩
          · have eR : Hid (R = none) := hQ.out.bad1 hm (by omega) h2
            have kwj : IntKind.i64.wrap ((k : Int) + 1) = (s.size : Int) := by rw [kw]; omega
            have jw2 : IntKind.i64.wrap ((s.size : Int) - 1) = (s.size : Int) - 1 := IntWalk.i64_in _ (by omega)
            have cA : Hid (∀ q, Calls Tryd.prog 21 #[.int .i64 ((s.size : Int) - 1), .int .i64 121] (wr.drewN q) fun ev w' => ev = .returned (atE ((s.size : Int) - 1) 121) ∧ QB N w bs w') := fun q => (faultAt_any _ _ rfl _).mono fun e w' h => ⟨h.1, by rw [h.2]; exact hB.out.drewN q⟩
            clear hB hQ h1 h2 kw
            go_wp2_with fail
            go_quiet (fail)
            go_wp2_with fail
            with_reducible refine Calls.mono (cA.out _) ?_
            rintro e w2 ⟨rfl, b⟩
            have BQ : Hid (QB N w bs w2) := b
            clear b cA
            have b0 := BQ.out.1.k0
            have b1 := BQ.out.1.k1
            have b2 := BQ.out.1.k2
            have b3 := BQ.out.1.k3
            have z0 := BQ.out.1.z0
            have z1 := BQ.out.1.z1
            have z2 := BQ.out.1.z2
            have z3 := BQ.out.1.z3
            obtain ⟨p0, p1, p2, p3⟩ := four_cells b0 b1 b2 b3 (.int .u8 0) (.string ⟨#[]⟩) (.int .i64 0) (.int .i64 0)
            go_wp2_with fail
            simp [bodyPost, results, Tryd.results18, go_sem, p0, p1, p2, p3, BQ.out.1.lt]
            refine ⟨?_, BQ.out.2.2.trans (four_set _ _ _ _ _ _)⟩
            rw [eR.out]
            exact ⟨_, _, rfl⟩
        · have q3 : ((s[k].toNat : Int) == 92) = false := (tn_ne h2).1
          have q4 : decide ((s[k].toNat : Int) = 92) = false := (tn_ne h2).2
          have NX : Hid (QI s[a] s a R (k + 1) (bs ++ [s[k]])) := hQ.out.on hlt h1 h2
          have c1 : Hid (Calls Tryd.prog 12 #[.pointer (some ⟨N + 1, 0, none⟩), .int .u8 (s[k].toNat : Int)] wr fun e w' => e = .returned .nilIface ∧ QB N w (bs ++ [s[k]]) w') := hB.out.write _ (by have := hQ.out.2.2; omega)
          clear hB hQ h1 h2 kw
          go_wp2_with fail
          with_reducible refine Calls.mono c1.out ?_
          rintro e w2 ⟨rfl, b⟩
          have BQ : Hid (QB N w (bs ++ [s[k]]) w2) := b
          clear b c1
          go_wp2_with fail
          exact ⟨⟨k + 1, _, by first | rfl | (rw [kw]), hlt, BQ, NX⟩, by first | (simp [intOf]; done) | (simp [intOf]; omega)⟩
    · have kI : ¬ (k : Int) < (s.size : Int) := by omega
      have eR : Hid (R = none) := hQ.out.out (by omega)
      have cA : Hid (Calls Tryd.prog 21 #[.int .i64 ((a : Int)), .int .i64 121] wr fun ev w' => ev = .returned (atE ((a : Int)) 121) ∧ w' = wr) := faultAt_any _ _ rfl wr
      have BQ : Hid (QB N w bs wr) := hB
      have b0 := hB.out.1.k0
      have b1 := hB.out.1.k1
      have b2 := hB.out.1.k2
      have b3 := hB.out.1.k3
      have z0 := hB.out.1.z0
      have z1 := hB.out.1.z1
      have z2 := hB.out.1.z2
      have z3 := hB.out.1.z3
      obtain ⟨p0, p1, p2, p3⟩ := four_cells b0 b1 b2 b3 (.int .u8 0) (.string ⟨#[]⟩) (.int .i64 0) (.int .i64 0)
      clear hB hQ
      go_wp2_with fail
      with_reducible refine Calls.mono cA.out ?_
      rintro e w2 ⟨rfl, hw⟩
      subst hw
      clear cA
      go_wp2_with fail
      simp [bodyPost, results, Tryd.results18, go_sem, p0, p1, p2, p3, BQ.out.1.lt]
      refine ⟨?_, BQ.out.2.2.trans (four_set _ _ _ _ _ _)⟩
      rw [eR.out]
      exact ⟨_, _, rfl⟩
end Go.Proofs.YtjiiafmbneehhaaDoor.Lx
