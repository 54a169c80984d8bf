
import Derived.Test.YtcbcpncbekeoaaaDoorFpEW
import Derived.Test.YtcbcpncbekeoaaaDoorFnH
namespace Go.Proofs.YtcbcpncbekeoaaaDoor
open Go.RowKit
set_option linter.unusedVariables false
set_option linter.unusedSimpArgs false
theorem be1 (X : ByteArray) : X ++ (⟨#[]⟩ : ByteArray) = X := by rw [ByteArray.ext_iff]; simp
theorem be0 (X : ByteArray) : (⟨#[]⟩ : ByteArray) ++ X = X := by rw [ByteArray.ext_iff]; simp
/-- an error, as the document tells it, in a box of its own. -/
structure BX (w : World) (c a i : Int) (P Q : Bool) (wx : World) : Prop where
  e : wx.cell? ⟨w.heap.size, 0, none⟩ = some (.int .i64 c) ∧ wx.cell? ⟨w.heap.size, 1, none⟩ = some (.int .i64 a) ∧ wx.cell? ⟨w.heap.size, 2, none⟩ = some (.int .i64 i) ∧ wx.cell? ⟨w.heap.size, 3, none⟩ = some (.bool P) ∧ wx.cell? ⟨w.heap.size, 4, none⟩ = some (.bool Q)
  b : Below w.heap.size w wx
  sz : w.heap.size < wx.heap.size
theorem BX.below {w wx wy : World} {c a i : Int} {P Q : Bool} (h : BX w c a i P Q wx) (hb : Below wx.heap.size wx wy) : BX w c a i P Q wy := by
  obtain ⟨e, b, sz⟩ := h
  have cc : ∀ (o : Nat), wy.cell? ⟨w.heap.size, o, none⟩ = wx.cell? ⟨w.heap.size, o, none⟩ := fun o => hb.cell (p := ⟨w.heap.size, o, none⟩) sz
  have hs := hb.size
  exact ⟨by rw [cc, cc, cc, cc, cc]; exact e, bthen b hb, by omega⟩
theorem BX.start (w : World) (c a i : Int) (P Q : Bool) : BX w c a i P Q (w.alloc (.cells #[.int .i64 c, .int .i64 a, .int .i64 i, .bool P, .bool Q] 29)) :=
  ⟨⟨by simp [go_sem], by simp [go_sem], by simp [go_sem], by simp [go_sem], by simp [go_sem]⟩, bnew (Below.refl _ _) _, by simp⟩
def oI (b : Bool) (n : Int) : Option Int := if b then some n else none
set_option maxRecDepth 100000 in
set_option maxHeartbeats 2000000 in
theorem rprint_any (c a i : Int) (P Q : Bool) (hc : I64' c) (ha : I64' a) (hi : I64' i) (h0 : c ≠ 0) (w : World) (hE : EV w) :
    Calls Tryd.prog 22 #[.agg #[.int .i64 c, .int .i64 a, .int .i64 i, .bool P, .bool Q]] w fun e w' => e = .returned (.string (B (lineL (oI Q i) (oI P a) c))) ∧ Below w.heap.size w w' := by
  have hz : (c == 0) = false := by rw [beq_eq_false_iff_ne]; exact h0
  have kN : Hid (∀ w, EV w → Calls Tryd.prog 29 #[.int .i64 c] w fun ev w' => ev = .returned (.string (B (nameL c))) ∧ Below w.heap.size w w') := fun w h => rname_any c hc.1 hc.2 w h
  have kI : Hid (∀ w, EV w → Calls Tryd.prog 28 #[.int .i64 i] w fun e' w' => e' = .returned (.string (B (Lib.itoa i))) ∧ Below w.heap.size w w') := fun w h => itoa_any i hi.1 hi.2 w h
  have kA : Hid (∀ w, EV w → Calls Tryd.prog 28 #[.int .i64 a] w fun e' w' => e' = .returned (.string (B (Lib.itoa a))) ∧ Below w.heap.size w w') := fun w h => itoa_any a ha.1 ha.2 w h
  have l1 := itoa_len i hi.1 hi.2
  have l2 := itoa_len a ha.1 ha.2
  have s1 := B_size (Lib.itoa i)
  have s2 := B_size (Lib.itoa a)
  have s3 : (B (nameL c)).size ≤ 27 := nameS_size hc
  have hR : Hid (∀ Q P, B (lineL (oI Q i) (oI P a) c) = (if Q then (⟨#[110, 117, 109, 98, 101, 114, 32]⟩ : ByteArray) ++ B (Lib.itoa i) ++ ⟨#[58, 32]⟩ else ⟨#[]⟩) ++ (if P then (⟨#[97, 116, 32]⟩ : ByteArray) ++ B (Lib.itoa a) ++ ⟨#[58, 32]⟩ else ⟨#[]⟩) ++ B (nameL c)) := fun Q P => by
    rw [show (⟨#[110, 117, 109, 98, 101, 114, 32]⟩ : ByteArray) = B numW from rfl, show (⟨#[97, 116, 32]⟩ : ByteArray) = B atW from rfl, show (⟨#[58, 32]⟩ : ByteArray) = B csp from rfl, show (⟨#[]⟩ : ByteArray) = B [] from rfl]
    cases Q <;> cases P <;> simp [oI, B_app, lineL, lab]
  obtain ⟨I, hIe⟩ : ∃ I, I = B (Lib.itoa i) := ⟨_, rfl⟩
  obtain ⟨A, hAe⟩ : ∃ A, A = B (Lib.itoa a) := ⟨_, rfl⟩
  obtain ⟨M, hMe⟩ : ∃ M, M = B (nameL c) := ⟨_, rfl⟩
  rw [← hIe] at kI s1 hR
  rw [← hAe] at kA s2 hR
  rw [← hMe] at kN s3 hR
  have t1 : I.size ≤ 21 := by omega
  have t2 : A.size ≤ 21 := by omega
  obtain ⟨R, hRe⟩ : ∃ R, R = B (lineL (oI Q i) (oI P a) c) := ⟨_, rfl⟩
  have hRQ : Hid _ := hR.out Q P
  rw [← hRe] at hRQ ⊢
  have hX := BX.start w c a i P Q
  obtain ⟨W, hW⟩ : ∃ W, W = w.alloc (.cells #[.int .i64 c, .int .i64 a, .int .i64 i, .bool P, .bool Q] 29) := ⟨_, rfl⟩
  rw [← hW] at hX
  have hWH : Hid _ := hW
  have hXH : Hid _ := hX
  have hEW : Hid (EV W) := hE.below hX.b
  have c1 : ¬ 9223372036854775807 < 7 + I.size := by omega
  have c2 : ¬ 9223372036854775807 < 7 + I.size + 2 := by omega
  have c3 : ¬ 9223372036854775807 < 3 + A.size := by omega
  have c4 : ¬ 9223372036854775807 < 3 + A.size + 2 := by omega
  have c5 : ¬ 9223372036854775807 < 7 + I.size + 2 + (3 + A.size + 2) := by omega
  have c6 : ¬ 9223372036854775807 < 7 + I.size + 2 + M.size := by omega
  have c7 : ¬ 9223372036854775807 < 3 + A.size + 2 + M.size := by omega
  have c8 : ¬ 9223372036854775807 < 7 + I.size + 2 + (3 + A.size + 2) + M.size := by omega
  have c9 : ¬ 9223372036854775807 < M.size := by omega
  have c0 : ¬ 9223372036854775807 < 0 + M.size := by omega
  clear hIe hAe hMe hRe hR hX hW hE l1 l2 s1 s2 h0 hc ha hi
  obtain ⟨x0, x1, x2, x3, x4⟩ := hXH.out.e
  have xz := hXH.out.sz
  cases Q <;> cases P
  · go_enter Tryd.func22, Tryd.ntmps22
    go_wp2_with fail
    rw [← hWH.out]
    refine (kN.out _ (hEW.out)).mono ?_
    rintro e3 w3 ⟨rfl, B3⟩
    have X3 := BX.below hXH.out B3
    go_wp2_with fail
    go_ret
    refine ⟨?_, X3.b⟩
    have hq := hRQ.out
    simp only [Bool.false_eq_true, if_false, if_true] at hq
    rw [hq]
    simp [be0, be1]
  · go_enter Tryd.func22, Tryd.ntmps22
    go_wp2_with fail
    rw [← hWH.out]
    refine (kA.out _ (hEW.out)).mono ?_
    rintro e2 w2 ⟨rfl, B2⟩
    have X2 := BX.below hXH.out B2
    obtain ⟨z0, z1, z2, z3, z4⟩ := X2.e
    have zz := X2.sz
    clear x0 x1 x2 x3 x4 xz
    go_wp2_with fail
    refine (kN.out _ (hEW.out.below B2)).mono ?_
    rintro e3 w3 ⟨rfl, B3⟩
    have X3 := BX.below X2 B3
    go_wp2_with fail
    go_ret
    refine ⟨?_, X3.b⟩
    have hq := hRQ.out
    simp only [Bool.false_eq_true, if_false, if_true] at hq
    rw [hq]
    simp [be0, be1]
  · go_enter Tryd.func22, Tryd.ntmps22
    go_wp2_with fail
    rw [← hWH.out]
    refine (kI.out _ hEW.out).mono ?_
    rintro e1 w1 ⟨rfl, B1⟩
    have X1 := hXH.out.below B1
    obtain ⟨y0, y1, y2, y3, y4⟩ := X1.e
    have yz := X1.sz
    clear x0 x1 x2 x3 x4 xz
    go_wp2_with fail
    refine (kN.out _ (hEW.out.below B1)).mono ?_
    rintro e3 w3 ⟨rfl, B3⟩
    have X3 := BX.below X1 B3
    go_wp2_with fail
    go_ret
    refine ⟨?_, X3.b⟩
    have hq := hRQ.out
    simp only [Bool.false_eq_true, if_false, if_true] at hq
    rw [hq]
    simp [be0, be1]
  · go_enter Tryd.func22, Tryd.ntmps22
    go_wp2_with fail
    rw [← hWH.out]
    refine (kI.out _ hEW.out).mono ?_
    rintro e1 w1 ⟨rfl, B1⟩
    have X1 := hXH.out.below B1
    obtain ⟨y0, y1, y2, y3, y4⟩ := X1.e
    have yz := X1.sz
    clear x0 x1 x2 x3 x4 xz
    go_wp2_with fail
    refine (kA.out _ (hEW.out.below B1)).mono ?_
    rintro e2 w2 ⟨rfl, B2⟩
    have X2 := BX.below X1 B2
    obtain ⟨z0, z1, z2, z3, z4⟩ := X2.e
    have zz := X2.sz
    clear y0 y1 y2 y3 y4 yz
    go_wp2_with fail
    refine (kN.out _ ((hEW.out.below B1).below B2)).mono ?_
    rintro e3 w3 ⟨rfl, B3⟩
    have X3 := BX.below X2 B3
    go_wp2_with fail
    go_ret
    refine ⟨?_, X3.b⟩
    have hq := hRQ.out
    simp only [Bool.false_eq_true, if_false, if_true] at hq
    rw [hq]
    simp [be0, be1]
set_option maxRecDepth 100000 in
set_option maxHeartbeats 2000000 in
theorem rprint_zero (a i : Int) (P Q : Bool) (ha : I64' a) (hi : I64' i) (h0 : (P || Q) = true) (w : World) (hE : EV w) :
    Calls Tryd.prog 22 #[.agg #[.int .i64 0, .int .i64 a, .int .i64 i, .bool P, .bool Q]] w fun e w' => e = .returned (.string (B (lineU (oI Q i) (oI P a)))) ∧ Below w.heap.size w w' := by
  have kI : Hid (∀ w, EV w → Calls Tryd.prog 28 #[.int .i64 i] w fun e' w' => e' = .returned (.string (B (Lib.itoa i))) ∧ Below w.heap.size w w') := fun w h => itoa_any i hi.1 hi.2 w h
  have kA : Hid (∀ w, EV w → Calls Tryd.prog 28 #[.int .i64 a] w fun e' w' => e' = .returned (.string (B (Lib.itoa a))) ∧ Below w.heap.size w w') := fun w h => itoa_any a ha.1 ha.2 w h
  have l1 := itoa_len i hi.1 hi.2
  have l2 := itoa_len a ha.1 ha.2
  have s1 := B_size (Lib.itoa i)
  have s2 := B_size (Lib.itoa a)
  have hR : Hid (∀ Q P, B (lineU (oI Q i) (oI P a)) = (if Q then (⟨#[110, 117, 109, 98, 101, 114, 32]⟩ : ByteArray) ++ B (Lib.itoa i) ++ ⟨#[58, 32]⟩ else ⟨#[]⟩) ++ (if P then (⟨#[97, 116, 32]⟩ : ByteArray) ++ B (Lib.itoa a) ++ ⟨#[58, 32]⟩ else ⟨#[]⟩) ++ (⟨#[117, 110, 107, 110, 111, 119, 110]⟩ : ByteArray)) := fun Q P => by
    rw [show (⟨#[110, 117, 109, 98, 101, 114, 32]⟩ : ByteArray) = B numW from rfl, show (⟨#[97, 116, 32]⟩ : ByteArray) = B atW from rfl, show (⟨#[58, 32]⟩ : ByteArray) = B csp from rfl, show (⟨#[]⟩ : ByteArray) = B [] from rfl, show (⟨#[117, 110, 107, 110, 111, 119, 110]⟩ : ByteArray) = B unkW from rfl]
    cases Q <;> cases P <;> simp [oI, B_app, lineU, lab]
  obtain ⟨I, hIe⟩ : ∃ I, I = B (Lib.itoa i) := ⟨_, rfl⟩
  obtain ⟨A, hAe⟩ : ∃ A, A = B (Lib.itoa a) := ⟨_, rfl⟩
  rw [← hIe] at kI s1 hR
  rw [← hAe] at kA s2 hR
  have t1 : I.size ≤ 21 := by omega
  have t2 : A.size ≤ 21 := by omega
  obtain ⟨R, hRe⟩ : ∃ R, R = B (lineU (oI Q i) (oI P a)) := ⟨_, rfl⟩
  have hRQ : Hid _ := hR.out Q P
  rw [← hRe] at hRQ ⊢
  have hX := BX.start w 0 a i P Q
  obtain ⟨W, hW⟩ : ∃ W, W = w.alloc (.cells #[.int .i64 0, .int .i64 a, .int .i64 i, .bool P, .bool Q] 29) := ⟨_, rfl⟩
  rw [← hW] at hX
  have hWH : Hid _ := hW
  have hXH : Hid _ := hX
  have hEW : Hid (EV W) := hE.below hX.b
  have c1 : ¬ 9223372036854775807 < 7 + I.size := by omega
  have c2 : ¬ 9223372036854775807 < 7 + I.size + 2 := by omega
  have c3 : ¬ 9223372036854775807 < 3 + A.size := by omega
  have c4 : ¬ 9223372036854775807 < 3 + A.size + 2 := by omega
  have c5 : ¬ 9223372036854775807 < 7 + I.size + 2 + (3 + A.size + 2) := by omega
  have c6 : ¬ 9223372036854775807 < 7 + I.size + 2 + 7 := by omega
  have c7 : ¬ 9223372036854775807 < 3 + A.size + 2 + 7 := by omega
  have c8 : ¬ 9223372036854775807 < 7 + I.size + 2 + (3 + A.size + 2) + 7 := by omega
  clear hIe hAe hRe hR hX hW hE l1 l2 s1 s2 ha hi
  obtain ⟨x0, x1, x2, x3, x4⟩ := hXH.out.e
  have xz := hXH.out.sz
  cases Q <;> cases P
  · exact absurd h0 (by decide)
  · go_enter Tryd.func22, Tryd.ntmps22
    go_wp2_with fail
    rw [← hWH.out]
    refine (kA.out _ (hEW.out)).mono ?_
    rintro e2 w2 ⟨rfl, B2⟩
    have X2 := BX.below hXH.out B2
    obtain ⟨z0, z1, z2, z3, z4⟩ := X2.e
    have zz := X2.sz
    clear x0 x1 x2 x3 x4 xz
    go_wp2_with fail
    go_ret
    refine ⟨?_, X2.b⟩
    have hq := hRQ.out
    simp only [Bool.false_eq_true, if_false, if_true] at hq
    rw [hq]
    simp [be0, be1]
  · go_enter Tryd.func22, Tryd.ntmps22
    go_wp2_with fail
    rw [← hWH.out]
    refine (kI.out _ hEW.out).mono ?_
    rintro e1 w1 ⟨rfl, B1⟩
    have X1 := hXH.out.below B1
    obtain ⟨y0, y1, y2, y3, y4⟩ := X1.e
    have yz := X1.sz
    clear x0 x1 x2 x3 x4 xz
    go_wp2_with fail
    go_ret
    refine ⟨?_, X1.b⟩
    have hq := hRQ.out
    simp only [Bool.false_eq_true, if_false, if_true] at hq
    rw [hq]
    simp [be0, be1]
  · go_enter Tryd.func22, Tryd.ntmps22
    go_wp2_with fail
    rw [← hWH.out]
    refine (kI.out _ hEW.out).mono ?_
    rintro e1 w1 ⟨rfl, B1⟩
    have X1 := hXH.out.below B1
    obtain ⟨y0, y1, y2, y3, y4⟩ := X1.e
    have yz := X1.sz
    clear x0 x1 x2 x3 x4 xz
    go_wp2_with fail
    refine (kA.out _ (hEW.out.below B1)).mono ?_
    rintro e2 w2 ⟨rfl, B2⟩
    have X2 := BX.below X1 B2
    obtain ⟨z0, z1, z2, z3, z4⟩ := X2.e
    have zz := X2.sz
    clear y0 y1 y2 y3 y4 yz
    go_wp2_with fail
    go_ret
    refine ⟨?_, X2.b⟩
    have hq := hRQ.out
    simp only [Bool.false_eq_true, if_false, if_true] at hq
    rw [hq]
    simp [be0, be1]
end Go.Proofs.YtcbcpncbekeoaaaDoor
