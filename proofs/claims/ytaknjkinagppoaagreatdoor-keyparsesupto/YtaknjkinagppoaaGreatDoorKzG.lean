
import Derived.Test.YtaknjkinagppoaaGreatDoorKzB
import Derived.Test.YtaknjkinagppoaaGreatDoorKyT
namespace Go.Proofs.YtaknjkinagppoaaGreatDoor
open Go.RowKit Go.Shelf
set_option linter.unusedVariables false
set_option linter.unusedSimpArgs false
def atB (p : Int) : Value := .agg #[.int .i64 53, .int .i64 p, .int .i64 0, .bool true, .bool false]
theorem rat_any (p : Int) (w : World) : Calls Tryz.prog 16 #[.int .i64 p, .int .i64 53] w fun e w' => e = .returned (atB p) ∧ Below w.heap.size w w' := by
  unfold atB
  go_enter Tryz.func16, Tryz.ntmps16
  go_wp2
  simp [bodyPost, results, Tryz.results16, go_sem]
  exact (Below.refl _ w).alloc (Nat.le_refl _) _
theorem ba_list2 (s : ByteArray) : (⟨s.data.toList.toArray⟩ : ByteArray) = s := by cases s; simp
def outR : Out → Value
  | .ok t n => .tuple #[.string ⟨t.toArray⟩, .int .i64 (n : Int), bdV 0]
  | .bad p => .tuple #[.string ⟨#[]⟩, .int .i64 0, atB p]
def UJ (s b : ByteArray) (k : Nat) (R : Out) : Prop := unB false b.data.toList k (s.data.toList.drop k) = R ∧ b.size ≤ k
theorem drop_at (s : ByteArray) (k : Nat) (h : k < s.size) : s.data.toList.drop k = s.get! k :: s.data.toList.drop (k + 1) := by
  have hl : k < s.data.toList.length := by rw [← Lib.size_eq]; exact h
  have hg := get_list s k h
  rw [List.getElem?_eq_getElem hl] at hg
  rw [List.drop_eq_getElem_cons hl, Option.some.inj hg]
theorem UJ.plain {s b : ByteArray} {k : Nat} {R : Out} (h : UJ s b k R) (hk : k < s.size) (h92 : s.get! k ≠ 92) (hm : mkL.contains (s.get! k) = false) : UJ s (b ++ s.extract k (k + 1)) (k + 1) R := by
  obtain ⟨h1, h2⟩ := h
  refine ⟨?_, ?_⟩
  · rw [drop_at s k hk] at h1
    unfold unB at h1
    rw [if_neg h92, hm] at h1
    rw [app_list, ext_one s k hk]; simpa using h1
  · rw [ByteArray.size_append, Lib.size_eq (s.extract k (k + 1)), ext_one s k hk]; simp; omega
theorem UJ.mark {s b : ByteArray} {k : Nat} {R : Out} (h : UJ s b k R) (hk : k < s.size) (h92 : s.get! k ≠ 92) (hm : mkL.contains (s.get! k) = true) : R = .ok b.data.toList k := by
  obtain ⟨h1, h2⟩ := h
  rw [drop_at s k hk] at h1
  unfold unB at h1
  rw [if_neg h92, hm, if_pos rfl] at h1
  exact h1.symm
theorem UJ.fin {s b : ByteArray} {k : Nat} {R : Out} (h : UJ s b k R) (hk : ¬ k < s.size) : R = .ok b.data.toList k := by
  obtain ⟨h1, h2⟩ := h
  rw [List.drop_eq_nil_of_le (by rw [← Lib.size_eq]; omega)] at h1
  exact h1.symm
theorem UJ.cut {s b : ByteArray} {k : Nat} {R : Out} (h : UJ s b k R) (hk : k < s.size) (h92 : s.get! k = 92) (hk1 : ¬ k + 1 < s.size) : R = .bad (k : Int) := by
  obtain ⟨h1, h2⟩ := h
  rw [drop_at s k hk, h92, List.drop_eq_nil_of_le (by rw [← Lib.size_eq]; omega)] at h1
  rw [← h1]
  simp [unB]
theorem UJ.wrong {s b : ByteArray} {k : Nat} {R : Out} (h : UJ s b k R) (hk : k < s.size) (h92 : s.get! k = 92) (hk1 : k + 1 < s.size) (hm : mkL.contains (s.get! (k + 1)) = false) : R = .bad (k : Int) := by
  obtain ⟨h1, h2⟩ := h
  rw [drop_at s k hk, h92, drop_at s (k + 1) hk1] at h1
  rw [← h1]
  unfold unB
  rw [if_pos rfl]
  unfold unB
  rw [hm]
  simp
theorem UJ.pair {s b : ByteArray} {k : Nat} {R : Out} (h : UJ s b k R) (hk : k < s.size) (h92 : s.get! k = 92) (hk1 : k + 1 < s.size) (hm : mkL.contains (s.get! (k + 1)) = true) : UJ s (b ++ s.extract (k + 1) (k + 1 + 1)) (k + 2) R := by
  obtain ⟨h1, h2⟩ := h
  refine ⟨?_, ?_⟩
  · rw [drop_at s k hk, h92, drop_at s (k + 1) hk1] at h1
    unfold unB at h1
    rw [if_pos rfl] at h1
    unfold unB at h1
    rw [hm, if_pos rfl] at h1
    rw [app_list, ext_one s (k + 1) hk1]; exact h1
  · rw [ByteArray.size_append, Lib.size_eq (s.extract (k + 1) (k + 1 + 1)), ext_one s (k + 1) hk1]; simp; omega
set_option maxRecDepth 100000 in
set_option maxHeartbeats 8000000 in
theorem runescape_any (s : ByteArray) (w : World) (hs : s.size ≤ 1048576) : Calls Tryz.prog 30 #[.string s] w fun e w' => e = .returned (outR (uneT s.data.toList)) ∧ Below w.heap.size w w' := by
  obtain ⟨R, hR⟩ : ∃ R, uneT s.data.toList = R := ⟨_, rfl⟩
  have h0 : UJ s ⟨#[]⟩ 0 R := ⟨hR, Nat.le_refl _⟩
  rw [hR]
  clear hR
  have hB0 : Below w.heap.size w (w.alloc bdO) := (Below.refl _ w).alloc (Nat.le_refl _) _
  have hN0 := BdAt.new w
  unfold bdO at hB0 hN0
  go_enter Tryz.func30, Tryz.ntmps30
  go_wp2_with fail
  generalize w.alloc (.cells #[.int .i64 0, .int .i64 0, .int .i64 0, .bool false, .bool false] 31) = w0 at *
  go_loopw [5, 6] (fun o i wr => ∃ (k : Nat) (b : ByteArray), i = .int .i64 (k : Int) ∧ o = .string b ∧ k ≤ s.size ∧ UJ s b k R ∧ BdAt wr w.heap.size ∧ Below w.heap.size w wr) (fun _ i _ => s.size - (intOf i).toNat)
  case atStart => exact ⟨0, ⟨#[]⟩, rfl, rfl, Nat.zero_le _, h0, hN0, hB0⟩
  case round =>
    obtain ⟨k, b, rfl, rfl, hkn, hI, hD, hB⟩ := hrel
    clear h0 hN0 hB0
    by_cases hk : k < s.size
    · have hkI : (k : Int) < (s.size : Int) := by omega
      have hz := hI.2
      have hw1 : wrap64 ((k : Int) + 1) = (k : Int) + 1 := IntWalk.wrap64_in _ (by omega)
      have hw2 : IntKind.i64.wrap ((k : Int) + 1) = (k : Int) + 1 := IntWalk.i64_in _ (by omega)
      obtain ⟨x, hx⟩ : ∃ x, s.get! k = x := ⟨_, rfl⟩
      have hsk : s[k]'hk = x := get_at s k hk x hx
      have cS : Hid (∀ W, Calls Tryz.prog 54 #[.int .u8 (x.toNat : Int)] W fun e w' => e = .returned (.bool (mkL.contains x)) ∧ w' = W) := special_any x
      by_cases h92 : x = 92
      · have h92I : ((x.toNat : Int) == 92) = true := by rw [h92]; rfl
        have u1 := hI.cut hk (hx.trans h92)
        have u2 := hI.wrong hk (hx.trans h92)
        have u3 := hI.pair hk (hx.trans h92)
        by_cases hk1 : k + 1 < s.size
        · have hkJ : (k : Int) + 1 < (s.size : Int) := by omega
          have hkJ' : ¬ (s.size : Int) ≤ (k : Int) + 1 := by omega
          obtain ⟨y, hy⟩ : ∃ y, s.get! (k + 1) = y := ⟨_, rfl⟩
          have hsk1 : s[k + 1]'hk1 = y := get_at s (k + 1) hk1 y hy
          have cY : Hid (∀ W, Calls Tryz.prog 54 #[.int .u8 (y.toNat : Int)] W fun e w' => e = .returned (.bool (mkL.contains y)) ∧ w' = W) := special_any y
          have u2' := u2 hk1
          have u3' := u3 hk1
          rw [hy] at u2' u3'
          clear u1 u2 u3 hI
          have hw3 : wrap64 ((k : Int) + 1 + 1) = (k : Int) + 1 + 1 := IntWalk.wrap64_in _ (by omega)
          have hw4 : IntKind.i64.wrap ((k : Int) + 1 + 1) = (k : Int) + 1 + 1 := IntWalk.i64_in _ (by omega)
          have es : (s.extract (k + 1) (k + 1 + 1)).size = 1 := by rw [Lib.size_eq, ext_one s (k + 1) hk1]; rfl
          have q0 : ∀ W, (Instr.slice 9 (.string s) (some (.int .i64 ((k : Int) + 1))) (some (.int .i64 ((k : Int) + 1 + 1))) none).run Tryz.prog W = .ok (.string (s.extract (k + 1) (k + 1 + 1))) W := fun W => by
            have h := run_slice_string (P := Tryz.prog) (w := W) 9 s .i64 .i64 ((k : Int) + 1) ((k : Int) + 1 + 1) Tryz.underlying9 (by omega) (by omega) (by omega)
            rw [show ((k : Int) + 1).toNat = k + 1 by omega, show ((k : Int) + 1 + 1).toNat = k + 1 + 1 by omega] at h
            exact h
          have q1 : ∀ W, (Op.stringOp .add b (s.extract (k + 1) (k + 1 + 1))).run Tryz.prog W = .ok (.string (b ++ s.extract (k + 1) (k + 1 + 1))) W := fun W => cat_run _ _ (by omega) W
          have gM : Hid (s.size - ((k : Int) + 1 + 1).toNat < s.size - (k : Int).toNat) := by show _ < _; omega
          have g2 : k + 2 ≤ s.size := hk1
          have K1 : Hid (Value.int .i64 ((k : Int) + 1 + 1) = Value.int .i64 ((k + 2 : Nat) : Int)) := congrArg _ (by omega)
          have hDH : Hid (BdAt wr w.heap.size) := hD
          have hBH : Hid (Below w.heap.size w wr) := hB
          clear hD hB hz es hx hy cS
          subst h92
          generalize mkL.contains y = m at *
          cases m with
          | false =>
            have hRb := u2' rfl
            subst hRb
            clear u2' u3'
            go_wp2_with (first | (go_at_call 54; with_reducible refine Calls.mono (cY.out _) ?_; rintro e w1 ⟨rfl, rfl⟩) | simp only [q0, q1])
            go_at_call 16
            refine Calls.mono (rat_any (k : Int) _) ?_
            rintro e w2 ⟨rfl, B2⟩
            have P2 := hBH.out.trans (B2.mono hBH.out.size)
            have N2 := hDH.out.below B2
            clear B2
            simp only [atB, outR]
            obtain ⟨_, b1, b2, b3, b4, b5, g0⟩ := N2
            have g1 := g0 0
            have g2 := g0 1
            have g3 := g0 2
            have g4 := g0 3
            have g5 := g0 4
            clear g0
            go_wp2_with fail
            simp [bodyPost, results, Tryz.results30, go_sem, b1, b2, b3, b4, b5]
            exact ⟨rfl, setBad P2 (Nat.le_refl _)⟩
          | true =>
            have hU : Hid (UJ s (b ++ s.extract (k + 1) (k + 1 + 1)) (k + 2) R) := u3' rfl
            clear u2' u3'
            go_wp2_with (first | (go_at_call 54; with_reducible refine Calls.mono (cY.out _) ?_; rintro e w1 ⟨rfl, rfl⟩) | simp only [q0, q1])
            go_round
            case measure => simp only [intOf]; exact gM.out
            case rel => exact ⟨k + 2, _, K1.out, rfl, g2, hU.out, hDH.out, hBH.out⟩
        · have hkJ : ¬ (k : Int) + 1 < (s.size : Int) := by omega
          have hkJ' : (s.size : Int) ≤ (k : Int) + 1 := by omega
          have hRb := u1 hk1
          subst hRb
          clear u1 u2 u3 hI hx
          subst h92
          have hDH : Hid (BdAt wr w.heap.size) := hD
          have hBH : Hid (Below w.heap.size w wr) := hB
          clear hD hB
          go_wp2_with fail
          go_at_call 16
          refine Calls.mono (rat_any (k : Int) _) ?_
          rintro e w2 ⟨rfl, B2⟩
          have P2 := hBH.out.trans (B2.mono hBH.out.size)
          have N2 := hDH.out.below B2
          clear B2
          simp only [atB, outR]
          obtain ⟨_, b1, b2, b3, b4, b5, g0⟩ := N2
          have g1 := g0 0
          have g2 := g0 1
          have g3 := g0 2
          have g4 := g0 3
          have g5 := g0 4
          clear g0
          go_wp2_with fail
          simp [bodyPost, results, Tryz.results30, go_sem, b1, b2, b3, b4, b5]
          exact ⟨rfl, setBad P2 (Nat.le_refl _)⟩
      · have h92I : ((x.toNat : Int) == 92) = false := by
          have : x.toNat ≠ 92 := fun h => h92 (UInt8.toNat_inj.1 h)
          simp; omega
        have u1 := hI.mark hk (by rw [hx]; exact h92)
        have u2 := hI.plain hk (by rw [hx]; exact h92)
        rw [hx] at u1 u2
        have es : (s.extract k (k + 1)).size = 1 := by rw [Lib.size_eq, ext_one s k hk]; rfl
        have q0 : ∀ W, (Instr.slice 9 (.string s) (some (.int .i64 (k : Int))) (some (.int .i64 ((k : Int) + 1))) none).run Tryz.prog W = .ok (.string (s.extract k (k + 1))) W := fun W => by
          have h := run_slice_string (P := Tryz.prog) (w := W) 9 s .i64 .i64 (k : Int) ((k : Int) + 1) Tryz.underlying9 (by omega) (by omega) (by omega)
          rw [show ((k : Int)).toNat = k by omega, show ((k : Int) + 1).toNat = k + 1 by omega] at h
          exact h
        have q1 : ∀ W, (Op.stringOp .add b (s.extract k (k + 1))).run Tryz.prog W = .ok (.string (b ++ s.extract k (k + 1))) W := fun W => cat_run _ _ (by omega) W
        have gM : Hid (s.size - ((k : Int) + 1).toNat < s.size - (k : Int).toNat) := by show _ < _; omega
        have g2 : k + 1 ≤ s.size := hk
        have hDH : Hid (BdAt wr w.heap.size) := hD
        have hBH : Hid (Below w.heap.size w wr) := hB
        clear hD hB hz es hx hI
        generalize mkL.contains x = m at *
        cases m with
        | false =>
          have hU : Hid (UJ s (b ++ s.extract k (k + 1)) (k + 1) R) := u2 rfl
          clear u1 u2
          go_wp2_with (first | (go_at_call 54; with_reducible refine Calls.mono (cS.out _) ?_; rintro e w1 ⟨rfl, rfl⟩) | simp only [q0, q1])
          go_round
          case measure => simp only [intOf]; exact gM.out
          case rel => exact ⟨k + 1, _, by simp only [Int.natCast_add, Int.cast_ofNat_Int], rfl, g2, hU.out, hDH.out, hBH.out⟩
        | true =>
          have hRb := u1 rfl
          subst hRb
          clear u1 u2
          have hB := hBH.out
          have hD := hDH.out
          obtain ⟨_, b1, b2, b3, b4, b5, g0⟩ := hD
          have g1 := g0 0
          have g2 := g0 1
          have g3 := g0 2
          have g4 := g0 3
          have g5 := g0 4
          clear g0
          go_wp2_with (go_at_call 54; with_reducible refine Calls.mono (cS.out _) ?_; rintro e w1 ⟨rfl, rfl⟩)
          simp [bodyPost, results, Tryz.results30, go_sem, b1, b2, b3, b4, b5, outR, ba_list2, bdV]
          first | exact setBad hB (Nat.le_refl _) | exact ⟨rfl, setBad hB (Nat.le_refl _)⟩
    · have hkI : ¬ (k : Int) < (s.size : Int) := by omega
      have hRb := hI.fin hk
      subst hRb
      clear hI
      obtain ⟨_, b1, b2, b3, b4, b5, g0⟩ := hD
      have g1 := g0 0
      have g2 := g0 1
      have g3 := g0 2
      have g4 := g0 3
      have g5 := g0 4
      clear g0
      go_wp2_with fail
      simp [bodyPost, results, Tryz.results30, go_sem, b1, b2, b3, b4, b5, outR, ba_list2, bdV]
      first | exact setBad hB (Nat.le_refl _) | exact ⟨rfl, setBad hB (Nat.le_refl _)⟩
end Go.Proofs.YtaknjkinagppoaaGreatDoor
