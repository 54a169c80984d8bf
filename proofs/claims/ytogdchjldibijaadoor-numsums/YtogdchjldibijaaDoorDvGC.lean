
import Derived.Test.YtogdchjldibijaaDoorDvF
namespace Go.Proofs.YtogdchjldibijaaDoor
open Go.RowKit
set_option linter.unusedVariables false
set_option linter.unusedSimpArgs false
set_option maxRecDepth 100000 in
set_option maxHeartbeats 4000000 in
theorem rratio_C (hi lo n : Int) (Vh Vl b qh ql r : Nat) (hszH : Hid (∀ w : World, Calls Tryd.prog 33 #[.agg #[.int .i64 hi, .int .u64 lo]] w fun e w' => e = .returned (.tuple #[.int .u64 (Vh : Int), .int .u64 (Vl : Int)]) ∧ Below w.heap.size w w'))
    (hdvH : Hid (∀ w : World, Calls Tryd.prog 34 #[.int .u64 (Vh : Int), .int .u64 (Vl : Int), .int .u64 (b : Int)] w fun e w' => e = .returned (.tuple #[.int .u64 (qh : Int), .int .u64 (ql : Int), .int .u64 (r : Int)]) ∧ w' = w))
    (hnz : ¬ n = 0) (eb : IntKind.u64.wrap n = (b : Int)) (cn : ¬ n < 0) (ch : hi < 0) (hql : ql < 18446744073709551616) (hqh : qh < 18446744073709551615) (w : World) :
    Calls Tryd.prog 20 #[.agg #[.int .i64 hi, .int .u64 lo], .int .i64 n] w fun e w' => e = .returned (.tuple #[.int .i64 (ratA true qh ql r).1, (ratA true qh ql r).2]) ∧ Below w.heap.size w w' := by
  obtain ⟨z, hz⟩ : ∃ z, z = (ratA true qh ql r).1 := ⟨_, rfl⟩
  obtain ⟨B, hB⟩ : ∃ B, B = (ratA true qh ql r).2 := ⟨_, rfl⟩
  rw [← hz, ← hB]
  have hzH : Hid _ := hz
  have hBH : Hid _ := hB
  clear hz hB
  have hdec : (decide (hi < 0) == decide (n < 0)) = false := by simp [cn, ch]
  have hdec2 : (decide (hi < 0) != decide (n < 0)) = true := by simp [cn, ch]
  obtain ⟨W, hW⟩ : ∃ W, W = (w.alloc (.cells #[.int .i64 hi, .int .u64 lo] 24)).alloc (.cells #[.int .i64 0, .int .i64 0, .int .i64 0, .bool false, .bool false] 35) := ⟨_, rfl⟩
  have hB0 : Below w.heap.size w W := by rw [hW]; exact below_new (below_new (Below.refl _ _) _) _
  have hsz : W.heap.size = w.heap.size + 1 + 1 := by rw [hW]; simp
  have hs0 : W.cell? ⟨w.heap.size, 0, none⟩ = some (.int .i64 hi) := by rw [hW]; simp [go_sem]
  have a0 : ∀ j v, (#[Value.int .i64 0, .int .i64 0, .int .i64 0, .bool false, .bool false] : Array Value)[j]? = some v → W.cell? ⟨w.heap.size + 1, j, none⟩ = some v := fun j v hj => by
    have hn := heap_alloc_new (w.alloc (.cells #[.int .i64 hi, .int .u64 lo] 24)) (.cells #[.int .i64 0, .int .i64 0, .int .i64 0, .bool false, .bool false] 35)
    have es : (w.alloc (.cells #[.int .i64 hi, .int .u64 lo] 24)).heap.size = w.heap.size + 1 := by simp
    rw [es] at hn
    rw [hW, cell_of_row _ (w.heap.size + 1) j _ _ (0, 0) hn]; exact hj
  have f0 : ∀ j, W.frozen? ⟨w.heap.size + 1, j, none⟩ = false := fun j => by rw [hW]; simp [go_sem]
  have hWH : Hid _ := hW
  have a0H : Hid _ := a0
  have f0H : Hid _ := f0
  clear hW a0 f0
  go_enter Tryd.func20, Tryd.ntmps20
  go_wp2_with fail
  rw [← hWH.out]
  refine (hszH.out W).mono ?_
  rintro e w1 ⟨rfl, B1⟩
  have zw := B1.size
  have s1 : w1.cell? ⟨w.heap.size, 0, none⟩ = some (.int .i64 hi) := by rw [B1.cell (by simp; omega)]; exact hs0
  go_wp2_with fail
  refine (hdvH.out _).mono ?_
  rintro e w2 ⟨rfl, rfl⟩
  clear cn ch eb hnz
  by_cases rc : r = 0
  · have rcI : ¬ (0 : Int) < (r : Int) := by omega
    by_cases k1 : qh = 0 ∧ ql ≤ 9223372036854775808
    · obtain ⟨k2, k3⟩ := k1
      have e9 := neg_word ql k3
      have k3I : ¬ (9223372036854775808 : Int) < (ql : Int) := by omega
      have k2I : ¬ (0 : Int) < (qh : Int) := by omega
      have hz' : z = -(ql : Int) := by rw [hzH.out]; unfold ratA; rw [if_neg (show ¬ (true = false) by decide), if_pos rc, if_pos ⟨k2, k3⟩]
      have hB' : B = bad0 := by rw [hBH.out]; unfold ratA; rw [if_neg (show ¬ (true = false) by decide), if_pos rc, if_pos ⟨k2, k3⟩]
      clear hzH hBH
      try clear k2 k3
      have zz := B1.size
      have b1 : w2.cell? ⟨w.heap.size + 1, 0, none⟩ = some (.int .i64 0) := by rw [B1.cell (by simp; omega)]; exact a0H.out 0 _ rfl
      have b2 : w2.cell? ⟨w.heap.size + 1, 1, none⟩ = some (.int .i64 0) := by rw [B1.cell (by simp; omega)]; exact a0H.out 1 _ rfl
      have b3 : w2.cell? ⟨w.heap.size + 1, 2, none⟩ = some (.int .i64 0) := by rw [B1.cell (by simp; omega)]; exact a0H.out 2 _ rfl
      have b4 : w2.cell? ⟨w.heap.size + 1, 3, none⟩ = some (.bool false) := by rw [B1.cell (by simp; omega)]; exact a0H.out 3 _ rfl
      have b5 : w2.cell? ⟨w.heap.size + 1, 4, none⟩ = some (.bool false) := by rw [B1.cell (by simp; omega)]; exact a0H.out 4 _ rfl
      have g1 : w2.frozen? ⟨w.heap.size + 1, 0, none⟩ = false := by rw [B1.frozen (by simp; omega)]; exact f0H.out 0
      have g2 : w2.frozen? ⟨w.heap.size + 1, 1, none⟩ = false := by rw [B1.frozen (by simp; omega)]; exact f0H.out 1
      have g3 : w2.frozen? ⟨w.heap.size + 1, 2, none⟩ = false := by rw [B1.frozen (by simp; omega)]; exact f0H.out 2
      have g4 : w2.frozen? ⟨w.heap.size + 1, 3, none⟩ = false := by rw [B1.frozen (by simp; omega)]; exact f0H.out 3
      have g5 : w2.frozen? ⟨w.heap.size + 1, 4, none⟩ = false := by rw [B1.frozen (by simp; omega)]; exact f0H.out 4
      clear a0H f0H
      go_wp2_with fail
      simp [bodyPost, results, Tryd.results20, go_sem, b1, b2, b3, b4, b5]
      refine ⟨⟨?_, ?_⟩, setBad (below_then hB0 B1) (Nat.le_succ _)⟩
      · first | (rw [hz']; done) | (rw [hz']; exact e9)
      · first | (rw [hB']; done) | (rw [hB']; rfl)
    · by_cases k4 : 0 < qh
      · have k4I : (0 : Int) < (qh : Int) := by omega
        have hz' : z = 0 := by rw [hzH.out]; unfold ratA; rw [if_neg (show ¬ (true = false) by decide), if_pos rc, if_neg k1]
        have hB' : B = badN 20 := by rw [hBH.out]; unfold ratA; rw [if_neg (show ¬ (true = false) by decide), if_pos rc, if_neg k1]
        clear hzH hBH
        try clear k2 k3
        go_wp2_with fail
        refine (rnew_any 20 w2).mono ?_
        rintro e w9 ⟨rfl, B9⟩
        have P9 : Below W.heap.size W w9 := below_then B1 B9
        have zz := P9.size
        have b1 : w9.cell? ⟨w.heap.size + 1, 0, none⟩ = some (.int .i64 0) := by rw [P9.cell (by simp; omega)]; exact a0H.out 0 _ rfl
        have b2 : w9.cell? ⟨w.heap.size + 1, 1, none⟩ = some (.int .i64 0) := by rw [P9.cell (by simp; omega)]; exact a0H.out 1 _ rfl
        have b3 : w9.cell? ⟨w.heap.size + 1, 2, none⟩ = some (.int .i64 0) := by rw [P9.cell (by simp; omega)]; exact a0H.out 2 _ rfl
        have b4 : w9.cell? ⟨w.heap.size + 1, 3, none⟩ = some (.bool false) := by rw [P9.cell (by simp; omega)]; exact a0H.out 3 _ rfl
        have b5 : w9.cell? ⟨w.heap.size + 1, 4, none⟩ = some (.bool false) := by rw [P9.cell (by simp; omega)]; exact a0H.out 4 _ rfl
        have g1 : w9.frozen? ⟨w.heap.size + 1, 0, none⟩ = false := by rw [P9.frozen (by simp; omega)]; exact f0H.out 0
        have g2 : w9.frozen? ⟨w.heap.size + 1, 1, none⟩ = false := by rw [P9.frozen (by simp; omega)]; exact f0H.out 1
        have g3 : w9.frozen? ⟨w.heap.size + 1, 2, none⟩ = false := by rw [P9.frozen (by simp; omega)]; exact f0H.out 2
        have g4 : w9.frozen? ⟨w.heap.size + 1, 3, none⟩ = false := by rw [P9.frozen (by simp; omega)]; exact f0H.out 3
        have g5 : w9.frozen? ⟨w.heap.size + 1, 4, none⟩ = false := by rw [P9.frozen (by simp; omega)]; exact f0H.out 4
        clear B9 a0H f0H
        go_wp2_with fail
        simp [bodyPost, results, Tryd.results20, go_sem, b1, b2, b3, b4, b5]
        refine ⟨⟨?_, ?_⟩, setBad (below_then hB0 P9) (Nat.le_succ _)⟩
        · rw [hz']
        · first | (rw [hB']; done) | (rw [hB']; rfl)
      · have k4I : ¬ (0 : Int) < (qh : Int) := by omega
        have k5 : (9223372036854775808 : Int) < (ql : Int) := by omega
        have hz' : z = 0 := by rw [hzH.out]; unfold ratA; rw [if_neg (show ¬ (true = false) by decide), if_pos rc, if_neg k1]
        have hB' : B = badN 20 := by rw [hBH.out]; unfold ratA; rw [if_neg (show ¬ (true = false) by decide), if_pos rc, if_neg k1]
        clear hzH hBH
        try clear k2 k3
        go_wp2_with fail
        refine (rnew_any 20 w2).mono ?_
        rintro e w9 ⟨rfl, B9⟩
        have P9 : Below W.heap.size W w9 := below_then B1 B9
        have zz := P9.size
        have b1 : w9.cell? ⟨w.heap.size + 1, 0, none⟩ = some (.int .i64 0) := by rw [P9.cell (by simp; omega)]; exact a0H.out 0 _ rfl
        have b2 : w9.cell? ⟨w.heap.size + 1, 1, none⟩ = some (.int .i64 0) := by rw [P9.cell (by simp; omega)]; exact a0H.out 1 _ rfl
        have b3 : w9.cell? ⟨w.heap.size + 1, 2, none⟩ = some (.int .i64 0) := by rw [P9.cell (by simp; omega)]; exact a0H.out 2 _ rfl
        have b4 : w9.cell? ⟨w.heap.size + 1, 3, none⟩ = some (.bool false) := by rw [P9.cell (by simp; omega)]; exact a0H.out 3 _ rfl
        have b5 : w9.cell? ⟨w.heap.size + 1, 4, none⟩ = some (.bool false) := by rw [P9.cell (by simp; omega)]; exact a0H.out 4 _ rfl
        have g1 : w9.frozen? ⟨w.heap.size + 1, 0, none⟩ = false := by rw [P9.frozen (by simp; omega)]; exact f0H.out 0
        have g2 : w9.frozen? ⟨w.heap.size + 1, 1, none⟩ = false := by rw [P9.frozen (by simp; omega)]; exact f0H.out 1
        have g3 : w9.frozen? ⟨w.heap.size + 1, 2, none⟩ = false := by rw [P9.frozen (by simp; omega)]; exact f0H.out 2
        have g4 : w9.frozen? ⟨w.heap.size + 1, 3, none⟩ = false := by rw [P9.frozen (by simp; omega)]; exact f0H.out 3
        have g5 : w9.frozen? ⟨w.heap.size + 1, 4, none⟩ = false := by rw [P9.frozen (by simp; omega)]; exact f0H.out 4
        clear B9 a0H f0H
        go_wp2_with fail
        simp [bodyPost, results, Tryd.results20, go_sem, b1, b2, b3, b4, b5]
        refine ⟨⟨?_, ?_⟩, setBad (below_then hB0 P9) (Nat.le_succ _)⟩
        · rw [hz']
        · first | (rw [hB']; done) | (rw [hB']; rfl)
  · have rcI : (0 : Int) < (r : Int) := by omega
    by_cases kw : ql = 18446744073709551615
    · have k1 : ¬ (qh = 0 ∧ ql + 1 ≤ 9223372036854775808) := by omega
      have e6 : IntKind.u64.wrap ((ql : Int) + 1) = 0 := by rw [IntKind.wrap_u64]; omega
      have e5 : IntKind.u64.wrap ((qh : Int) + 1) = (qh : Int) + 1 := by rw [IntKind.wrap_u64]; omega
      have k4I : (0 : Int) < (qh : Int) + 1 := by omega
      have k4J : ¬ (qh : Int) + 1 ≤ 0 := by omega
      clear kw
      have hz' : z = 0 := by rw [hzH.out]; unfold ratA; rw [if_neg (show ¬ (true = false) by decide), if_neg rc, if_neg k1]
      have hB' : B = badN 20 := by rw [hBH.out]; unfold ratA; rw [if_neg (show ¬ (true = false) by decide), if_neg rc, if_neg k1]
      clear hzH hBH
      try clear k2 k3
      go_wp2_with fail
      refine (rnew_any 20 w2).mono ?_
      rintro e w9 ⟨rfl, B9⟩
      have P9 : Below W.heap.size W w9 := below_then B1 B9
      have zz := P9.size
      have b1 : w9.cell? ⟨w.heap.size + 1, 0, none⟩ = some (.int .i64 0) := by rw [P9.cell (by simp; omega)]; exact a0H.out 0 _ rfl
      have b2 : w9.cell? ⟨w.heap.size + 1, 1, none⟩ = some (.int .i64 0) := by rw [P9.cell (by simp; omega)]; exact a0H.out 1 _ rfl
      have b3 : w9.cell? ⟨w.heap.size + 1, 2, none⟩ = some (.int .i64 0) := by rw [P9.cell (by simp; omega)]; exact a0H.out 2 _ rfl
      have b4 : w9.cell? ⟨w.heap.size + 1, 3, none⟩ = some (.bool false) := by rw [P9.cell (by simp; omega)]; exact a0H.out 3 _ rfl
      have b5 : w9.cell? ⟨w.heap.size + 1, 4, none⟩ = some (.bool false) := by rw [P9.cell (by simp; omega)]; exact a0H.out 4 _ rfl
      have g1 : w9.frozen? ⟨w.heap.size + 1, 0, none⟩ = false := by rw [P9.frozen (by simp; omega)]; exact f0H.out 0
      have g2 : w9.frozen? ⟨w.heap.size + 1, 1, none⟩ = false := by rw [P9.frozen (by simp; omega)]; exact f0H.out 1
      have g3 : w9.frozen? ⟨w.heap.size + 1, 2, none⟩ = false := by rw [P9.frozen (by simp; omega)]; exact f0H.out 2
      have g4 : w9.frozen? ⟨w.heap.size + 1, 3, none⟩ = false := by rw [P9.frozen (by simp; omega)]; exact f0H.out 3
      have g5 : w9.frozen? ⟨w.heap.size + 1, 4, none⟩ = false := by rw [P9.frozen (by simp; omega)]; exact f0H.out 4
      clear B9 a0H f0H
      go_wp2_with fail
      simp [bodyPost, results, Tryd.results20, go_sem, b1, b2, b3, b4, b5]
      refine ⟨⟨?_, ?_⟩, setBad (below_then hB0 P9) (Nat.le_succ _)⟩
      · rw [hz']
      · first | (rw [hB']; done) | (rw [hB']; rfl)
    · have e6 : IntKind.u64.wrap ((ql : Int) + 1) = (ql : Int) + 1 := by rw [IntKind.wrap_u64]; omega
      have e66 : ¬ ((ql : Int) + 1 = 0) := by omega
      by_cases k1 : qh = 0 ∧ ql + 1 ≤ 9223372036854775808
      · obtain ⟨k2, k3⟩ := k1
        have k2I : ¬ (0 : Int) < (qh : Int) := by omega
        obtain ⟨l1, hl1⟩ : ∃ l1 : Int, l1 = (ql : Int) + 1 := ⟨_, rfl⟩
        have k3I : ¬ (9223372036854775808 : Int) < l1 := by omega
        have e67 : ¬ l1 = 0 := by omega
        have e6b : IntKind.u64.wrap ((ql : Int) + 1) = l1 := by rw [hl1]; exact e6
        have e9H : Hid (wrap64 (IntKind.u64.wrap (-l1)) = -l1) := by
          have h9 := neg_word (ql + 1) k3
          rw [show (((ql + 1 : Nat)) : Int) = l1 by omega] at h9
          exact h9
        have hl1H : Hid (l1 = (ql : Int) + 1) := hl1
        clear kw e6 e66 hl1
        have hz' : z = -l1 := by rw [hzH.out]; unfold ratA; rw [if_neg (show ¬ (true = false) by decide), if_neg rc, if_pos ⟨k2, k3⟩]; try rw [hl1H.out]
        have hB' : B = bad0 := by rw [hBH.out]; unfold ratA; rw [if_neg (show ¬ (true = false) by decide), if_neg rc, if_pos ⟨k2, k3⟩]; try rw [hl1H.out]
        clear hzH hBH
        try clear k2 k3
        have zz := B1.size
        have b1 : w2.cell? ⟨w.heap.size + 1, 0, none⟩ = some (.int .i64 0) := by rw [B1.cell (by simp; omega)]; exact a0H.out 0 _ rfl
        have b2 : w2.cell? ⟨w.heap.size + 1, 1, none⟩ = some (.int .i64 0) := by rw [B1.cell (by simp; omega)]; exact a0H.out 1 _ rfl
        have b3 : w2.cell? ⟨w.heap.size + 1, 2, none⟩ = some (.int .i64 0) := by rw [B1.cell (by simp; omega)]; exact a0H.out 2 _ rfl
        have b4 : w2.cell? ⟨w.heap.size + 1, 3, none⟩ = some (.bool false) := by rw [B1.cell (by simp; omega)]; exact a0H.out 3 _ rfl
        have b5 : w2.cell? ⟨w.heap.size + 1, 4, none⟩ = some (.bool false) := by rw [B1.cell (by simp; omega)]; exact a0H.out 4 _ rfl
        have g1 : w2.frozen? ⟨w.heap.size + 1, 0, none⟩ = false := by rw [B1.frozen (by simp; omega)]; exact f0H.out 0
        have g2 : w2.frozen? ⟨w.heap.size + 1, 1, none⟩ = false := by rw [B1.frozen (by simp; omega)]; exact f0H.out 1
        have g3 : w2.frozen? ⟨w.heap.size + 1, 2, none⟩ = false := by rw [B1.frozen (by simp; omega)]; exact f0H.out 2
        have g4 : w2.frozen? ⟨w.heap.size + 1, 3, none⟩ = false := by rw [B1.frozen (by simp; omega)]; exact f0H.out 3
        have g5 : w2.frozen? ⟨w.heap.size + 1, 4, none⟩ = false := by rw [B1.frozen (by simp; omega)]; exact f0H.out 4
        clear a0H f0H
        go_wp2_with fail
        simp [bodyPost, results, Tryd.results20, go_sem, b1, b2, b3, b4, b5]
        refine ⟨⟨?_, ?_⟩, setBad (below_then hB0 B1) (Nat.le_succ _)⟩
        · first | (rw [hz']; done) | (rw [hz']; exact e9H.out)
        · first | (rw [hB']; done) | (rw [hB']; rfl)
      · by_cases k4 : 0 < qh
        · have k4I : (0 : Int) < (qh : Int) := by omega
          have hz' : z = 0 := by rw [hzH.out]; unfold ratA; rw [if_neg (show ¬ (true = false) by decide), if_neg rc, if_neg k1]
          have hB' : B = badN 20 := by rw [hBH.out]; unfold ratA; rw [if_neg (show ¬ (true = false) by decide), if_neg rc, if_neg k1]
          clear hzH hBH
          try clear k2 k3
          go_wp2_with fail
          refine (rnew_any 20 w2).mono ?_
          rintro e w9 ⟨rfl, B9⟩
          have P9 : Below W.heap.size W w9 := below_then B1 B9
          have zz := P9.size
          have b1 : w9.cell? ⟨w.heap.size + 1, 0, none⟩ = some (.int .i64 0) := by rw [P9.cell (by simp; omega)]; exact a0H.out 0 _ rfl
          have b2 : w9.cell? ⟨w.heap.size + 1, 1, none⟩ = some (.int .i64 0) := by rw [P9.cell (by simp; omega)]; exact a0H.out 1 _ rfl
          have b3 : w9.cell? ⟨w.heap.size + 1, 2, none⟩ = some (.int .i64 0) := by rw [P9.cell (by simp; omega)]; exact a0H.out 2 _ rfl
          have b4 : w9.cell? ⟨w.heap.size + 1, 3, none⟩ = some (.bool false) := by rw [P9.cell (by simp; omega)]; exact a0H.out 3 _ rfl
          have b5 : w9.cell? ⟨w.heap.size + 1, 4, none⟩ = some (.bool false) := by rw [P9.cell (by simp; omega)]; exact a0H.out 4 _ rfl
          have g1 : w9.frozen? ⟨w.heap.size + 1, 0, none⟩ = false := by rw [P9.frozen (by simp; omega)]; exact f0H.out 0
          have g2 : w9.frozen? ⟨w.heap.size + 1, 1, none⟩ = false := by rw [P9.frozen (by simp; omega)]; exact f0H.out 1
          have g3 : w9.frozen? ⟨w.heap.size + 1, 2, none⟩ = false := by rw [P9.frozen (by simp; omega)]; exact f0H.out 2
          have g4 : w9.frozen? ⟨w.heap.size + 1, 3, none⟩ = false := by rw [P9.frozen (by simp; omega)]; exact f0H.out 3
          have g5 : w9.frozen? ⟨w.heap.size + 1, 4, none⟩ = false := by rw [P9.frozen (by simp; omega)]; exact f0H.out 4
          clear B9 a0H f0H
          go_wp2_with fail
          simp [bodyPost, results, Tryd.results20, go_sem, b1, b2, b3, b4, b5]
          refine ⟨⟨?_, ?_⟩, setBad (below_then hB0 P9) (Nat.le_succ _)⟩
          · rw [hz']
          · first | (rw [hB']; done) | (rw [hB']; rfl)
        · have k4I : ¬ (0 : Int) < (qh : Int) := by omega
          have k5 : (9223372036854775808 : Int) < (ql : Int) + 1 := by omega
          have hz' : z = 0 := by rw [hzH.out]; unfold ratA; rw [if_neg (show ¬ (true = false) by decide), if_neg rc, if_neg k1]
          have hB' : B = badN 20 := by rw [hBH.out]; unfold ratA; rw [if_neg (show ¬ (true = false) by decide), if_neg rc, if_neg k1]
          clear hzH hBH
          try clear k2 k3
          go_wp2_with fail
          refine (rnew_any 20 w2).mono ?_
          rintro e w9 ⟨rfl, B9⟩
          have P9 : Below W.heap.size W w9 := below_then B1 B9
          have zz := P9.size
          have b1 : w9.cell? ⟨w.heap.size + 1, 0, none⟩ = some (.int .i64 0) := by rw [P9.cell (by simp; omega)]; exact a0H.out 0 _ rfl
          have b2 : w9.cell? ⟨w.heap.size + 1, 1, none⟩ = some (.int .i64 0) := by rw [P9.cell (by simp; omega)]; exact a0H.out 1 _ rfl
          have b3 : w9.cell? ⟨w.heap.size + 1, 2, none⟩ = some (.int .i64 0) := by rw [P9.cell (by simp; omega)]; exact a0H.out 2 _ rfl
          have b4 : w9.cell? ⟨w.heap.size + 1, 3, none⟩ = some (.bool false) := by rw [P9.cell (by simp; omega)]; exact a0H.out 3 _ rfl
          have b5 : w9.cell? ⟨w.heap.size + 1, 4, none⟩ = some (.bool false) := by rw [P9.cell (by simp; omega)]; exact a0H.out 4 _ rfl
          have g1 : w9.frozen? ⟨w.heap.size + 1, 0, none⟩ = false := by rw [P9.frozen (by simp; omega)]; exact f0H.out 0
          have g2 : w9.frozen? ⟨w.heap.size + 1, 1, none⟩ = false := by rw [P9.frozen (by simp; omega)]; exact f0H.out 1
          have g3 : w9.frozen? ⟨w.heap.size + 1, 2, none⟩ = false := by rw [P9.frozen (by simp; omega)]; exact f0H.out 2
          have g4 : w9.frozen? ⟨w.heap.size + 1, 3, none⟩ = false := by rw [P9.frozen (by simp; omega)]; exact f0H.out 3
          have g5 : w9.frozen? ⟨w.heap.size + 1, 4, none⟩ = false := by rw [P9.frozen (by simp; omega)]; exact f0H.out 4
          clear B9 a0H f0H
          go_wp2_with fail
          simp [bodyPost, results, Tryd.results20, go_sem, b1, b2, b3, b4, b5]
          refine ⟨⟨?_, ?_⟩, setBad (below_then hB0 P9) (Nat.le_succ _)⟩
          · rw [hz']
          · first | (rw [hB']; done) | (rw [hB']; rfl)
end Go.Proofs.YtogdchjldibijaaDoor
