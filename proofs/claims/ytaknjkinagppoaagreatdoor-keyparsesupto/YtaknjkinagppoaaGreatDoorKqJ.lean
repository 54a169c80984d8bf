
import Derived.Test.YtaknjkinagppoaaGreatDoorKqC
import Derived.Test.YtaknjkinagppoaaGreatDoorKzG
namespace Go.Proofs.YtaknjkinagppoaaGreatDoor
open Go.RowKit Go.Shelf
attribute [local go_sem] Oper.semAt_some
set_option linter.unusedVariables false
set_option linter.unusedSimpArgs false
/-- the document's error: none, or ErrKey at a place. -/
def bdF : Option Int → Value
  | none => bdV 0
  | some p => atB p
def atF (st : StP) : Int := if st.2 = none then (st.1 : Int) else 0
theorem ex_list2 (s : ByteArray) (k : Nat) : (s.extract k s.size).data.toList = s.data.toList.drop k := Lib.extract_to_end s k
set_option maxRecDepth 100000 in
set_option maxHeartbeats 4000000 in
theorem piece_k (s : ByteArray) (k : Nat) (w : World) (hs : s.size ≤ 1048576) (hk : k ≤ s.data.toList.length) : Calls Tryz.prog 14 #[.string s, .int .i64 (k : Int)] w fun e w' => e = .returned (.tuple #[.string (ba (wordP s.data.toList (k, none)).1), .int .i64 (atF (wordP s.data.toList (k, none)).2), bdF (wordP s.data.toList (k, none)).2.2]) ∧ Below w.heap.size w w' := by
  have hlen : s.data.toList.length = s.size := (Lib.size_eq s).symm
  rw [hlen] at hk
  have hz : (s.extract k s.size).size ≤ s.size := by rw [Lib.size_eq, ex_list2, List.length_drop, hlen]; omega
  have cU : ∀ W, Calls Tryz.prog 30 #[.string (s.extract k s.size)] W fun e w' => e = .returned (outR (uneT (s.data.toList.drop k))) ∧ Below W.heap.size W w' := fun W => by
    have := runescape_any (s.extract k s.size) W (by omega)
    rw [ex_list2] at this
    exact this
  have hk1 : (k : Int) ≤ (s.size : Int) := by omega
  have hB0 : Below w.heap.size w (w.alloc bdO) := (Below.refl _ w).alloc (Nat.le_refl _) _
  have hN0 := BdAt.new w
  unfold bdO at hB0 hN0
  cases hu : uneT (s.data.toList.drop k) with
  | ok t n =>
    have hn : k + n ≤ s.size := by
      have h9 := (uneT_ok hu).1
      rw [List.length_drop] at h9
      rw [← hlen]
      omega
    have hkb : -9223372036854775808 ≤ (k : Int) + (n : Int) ∧ (k : Int) + (n : Int) ≤ 9223372036854775807 := by omega
    have hw : wordP s.data.toList (k, none) = (t, (k + n, none)) := by unfold wordP; rw [if_pos rfl]; simp only; rw [hu]
    rw [hw]
    rw [hu] at cU
    have cUH : Hid (∀ W, Calls Tryz.prog 30 #[.string (s.extract k s.size)] W fun e w' => e = .returned (.tuple #[.string ⟨t.toArray⟩, .int .i64 (n : Int), .agg #[.int .i64 0, .int .i64 0, .int .i64 0, .bool false, .bool false]]) ∧ Below W.heap.size W w') := cU
    have hat : atF (k + n, none) = (k : Int) + (n : Int) := by unfold atF; simp
    simp only [hat, bdF, bdV]
    have wk : wrap64 ((k : Int) + (n : Int)) = (k : Int) + (n : Int) := IntWalk.wrap64_in _ hkb
    have wi : IntKind.i64.wrap ((k : Int) + (n : Int)) = (k : Int) + (n : Int) := IntWalk.i64_in _ hkb
    have eba : ba t = ⟨t.toArray⟩ := rfl
    rw [eba]
    clear cU hw hu hat hkb hn hlen eba
    go_enter Tryz.func14, Tryz.ntmps14
    go_wp2_with fail
    generalize w.alloc (.cells #[.int .i64 0, .int .i64 0, .int .i64 0, .bool false, .bool false] 31) = w0 at *
    refine Calls.mono (cUH.out _) ?_
    rintro e w1 ⟨rfl, B1⟩
    have P1 := hB0.trans (B1.mono hB0.size)
    have N1 := hN0.below B1
    clear B1 hB0 hN0
    have P2 : Below w.heap.size w (w1.alloc (.cells #[.int .i64 0, .int .i64 0, .int .i64 0, .bool false, .bool false] 31)) := P1.alloc P1.size _
    have N2 : BdAt (w1.alloc (.cells #[.int .i64 0, .int .i64 0, .int .i64 0, .bool false, .bool false] 31)) w.heap.size := N1.below ((Below.refl _ w1).alloc (Nat.le_refl _) _)
    have P2H : Hid _ := P2
    obtain ⟨_, b1, b2, b3, b4, b5, g0⟩ := N2
    have g1 := g0 0
    have g2 := g0 1
    have g3 := g0 2
    have g4 := g0 3
    have g5 := g0 4
    clear g0
    go_wp2_with fail
    simp [bodyPost, results, Tryz.results14, go_sem, b1, b2, b3, b4, b5]
    exact setBad P2H.out (Nat.le_refl _)
  | bad p =>
    have hp := uneT_bad hu
    rw [List.length_drop] at hp
    have hkb : -9223372036854775808 ≤ (k : Int) + p ∧ (k : Int) + p ≤ 9223372036854775807 := by omega
    have hw : wordP s.data.toList (k, none) = ([], (k, some ((k : Int) + p))) := by unfold wordP; rw [if_pos rfl]; simp only; rw [hu]
    rw [hw]
    rw [hu] at cU
    have cUH : Hid (∀ W, Calls Tryz.prog 30 #[.string (s.extract k s.size)] W fun e w' => e = .returned (.tuple #[.string ⟨#[]⟩, .int .i64 0, .agg #[.int .i64 53, .int .i64 p, .int .i64 0, .bool true, .bool false]]) ∧ Below W.heap.size W w') := cU
    have hat : atF (k, some ((k : Int) + p)) = 0 := by unfold atF; simp
    have eba : ba [] = ⟨#[]⟩ := rfl
    simp only [hat, bdF, atB, eba]
    have wk : wrap64 ((k : Int) + p) = (k : Int) + p := IntWalk.wrap64_in _ hkb
    have wi : IntKind.i64.wrap ((k : Int) + p) = (k : Int) + p := IntWalk.i64_in _ hkb
    have cA : Hid (∀ W, Calls Tryz.prog 16 #[.int .i64 ((k : Int) + p), .int .i64 53] W fun e w' => e = .returned (.agg #[.int .i64 53, .int .i64 ((k : Int) + p), .int .i64 0, .bool true, .bool false]) ∧ Below W.heap.size W w') := fun W => rat_any ((k : Int) + p) W
    clear cU hw hu hat hkb hp hlen eba
    go_enter Tryz.func14, Tryz.ntmps14
    go_wp2_with fail
    generalize w.alloc (.cells #[.int .i64 0, .int .i64 0, .int .i64 0, .bool false, .bool false] 31) = w0 at *
    refine Calls.mono (cUH.out _) ?_
    rintro e w1 ⟨rfl, B1⟩
    have P1 := hB0.trans (B1.mono hB0.size)
    have N1 := hN0.below B1
    clear B1 hB0 hN0
    have P2 : Below w.heap.size w (w1.alloc (.cells #[.int .i64 53, .int .i64 p, .int .i64 0, .bool true, .bool false] 31)) := P1.alloc P1.size _
    have N2 : BdAt (w1.alloc (.cells #[.int .i64 53, .int .i64 p, .int .i64 0, .bool true, .bool false] 31)) w.heap.size := N1.below ((Below.refl _ w1).alloc (Nat.le_refl _) _)
    have P2H : Hid _ := P2
    have N2H : Hid _ := N2
    clear P1 N1 P2 N2
    go_wp2_with fail
    refine Calls.mono (cA.out _) ?_
    rintro e w3 ⟨rfl, B3⟩
    have P3 := P2H.out.trans (B3.mono P2H.out.size)
    have P3H : Hid _ := P3
    have N3 := BdAt.below N2H.out B3
    clear B3 P3
    obtain ⟨_, b1, b2, b3, b4, b5, g0⟩ := N3
    have g1 := g0 0
    have g2 := g0 1
    have g3 := g0 2
    have g4 := g0 3
    have g5 := g0 4
    clear g0
    go_wp2_with fail
    simp [bodyPost, results, Tryz.results14, go_sem, b1, b2, b3, b4, b5]
    exact setBad P3H.out (Nat.le_refl _)
set_option maxRecDepth 100000 in
set_option maxHeartbeats 4000000 in
theorem sign_k (s : ByteArray) (k : Nat) (c : UInt8) (w : World) (hs : s.size ≤ 1048576) (hk : k ≤ s.data.toList.length) : Calls Tryz.prog 15 #[.string s, .int .i64 (k : Int), .int .u8 (c.toNat : Int)] w fun e w' => e = .returned (.tuple #[.int .i64 (atF (mustP s.data.toList c (k, none))), bdF (mustP s.data.toList c (k, none)).2]) ∧ Below w.heap.size w w' := by
  have hlen : s.data.toList.length = s.size := (Lib.size_eq s).symm
  rw [hlen] at hk
  have hB0 : Below w.heap.size w (w.alloc bdO) := (Below.refl _ w).alloc (Nat.le_refl _) _
  have hN0 := BdAt.new w
  unfold bdO at hB0 hN0
  have cA : Hid (∀ W, Calls Tryz.prog 16 #[.int .i64 (k : Int), .int .i64 53] W fun e w' => e = .returned (.agg #[.int .i64 53, .int .i64 (k : Int), .int .i64 0, .bool true, .bool false]) ∧ Below W.heap.size W w') := fun W => rat_any (k : Int) W
  have hkb : -9223372036854775808 ≤ (k : Int) + 1 ∧ (k : Int) + 1 ≤ 9223372036854775807 := by omega
  have wk : wrap64 ((k : Int) + 1) = (k : Int) + 1 := IntWalk.wrap64_in _ hkb
  have wi : IntKind.i64.wrap ((k : Int) + 1) = (k : Int) + 1 := IntWalk.i64_in _ hkb
  have hbad : ∀ st, st = ((k, some (k : Int)) : StP) → atF st = 0 ∧ bdF st.2 = .agg #[.int .i64 53, .int .i64 (k : Int), .int .i64 0, .bool true, .bool false] := fun st e => by subst e; exact ⟨by unfold atF; simp, rfl⟩
  have hgood : ∀ st, st = ((k + 1, none) : StP) → atF st = (k : Int) + 1 ∧ bdF st.2 = .agg #[.int .i64 0, .int .i64 0, .int .i64 0, .bool false, .bool false] := fun st e => by subst e; exact ⟨by unfold atF; simp, rfl⟩
  clear hkb
  by_cases hlt : k < s.size
  · have hI : (k : Int) < (s.size : Int) := by omega
    have hI' : ¬ (s.size : Int) ≤ (k : Int) := by omega
    obtain ⟨x, hx⟩ : ∃ x, s.get! k = x := ⟨_, rfl⟩
    have hsk : s[k]'hlt = x := get_at s k hlt x hx
    have hl9 : s.data.toList[k]? = some x := by
      have := drop_at s k hlt
      rw [hx] at this
      rw [show s.data.toList[k]? = (s.data.toList.drop k)[0]? by simp, this]
      rfl
    by_cases hxc : x = c
    · subst hxc
      have e1 : mustP s.data.toList x (k, none) = (k + 1, none) := by
        unfold mustP folP
        simp [hl9]
      obtain ⟨e2, e3⟩ := hgood _ e1
      rw [e2, e3]
      clear e1 e2 e3 hgood hbad hl9 hx hlen
      obtain ⟨_, b1, b2, b3, b4, b5, g0⟩ := hN0
      have g1 := g0 0
      have g2 := g0 1
      have g3 := g0 2
      have g4 := g0 3
      have g5 := g0 4
      clear g0
      go_enter Tryz.func15, Tryz.ntmps15
      go_wp2_with fail
      simp [bodyPost, results, Tryz.results15, go_sem]
      exact hB0
    · have e1 : mustP s.data.toList c (k, none) = (k, some (k : Int)) := by
        unfold mustP folP failP
        simp [hl9, hxc]
      obtain ⟨e2, e3⟩ := hbad _ e1
      rw [e2, e3]
      have hne : ¬ x.toNat = c.toNat := fun e => hxc (UInt8.toNat_inj.1 e)
      have hneI : ¬ (x.toNat : Int) = (c.toNat : Int) := by omega
      have hneB : ((x.toNat : Int) == (c.toNat : Int)) = false := by simpa using hneI
      clear hl9 hx hxc
      clear e1 e2 e3 hgood hbad hlen
      have P0H : Hid _ := hB0
      have N0H : Hid _ := hN0
      clear hB0 hN0
      go_enter Tryz.func15, Tryz.ntmps15
      go_wp2_with fail
      refine Calls.mono (cA.out _) ?_
      rintro e w3 ⟨rfl, B3⟩
      have P3 := P0H.out.trans (B3.mono P0H.out.size)
      have P3H : Hid _ := P3
      have N3 := BdAt.below N0H.out B3
      clear B3 P3
      obtain ⟨_, b1, b2, b3, b4, b5, g0⟩ := N3
      have g1 := g0 0
      have g2 := g0 1
      have g3 := g0 2
      have g4 := g0 3
      have g5 := g0 4
      clear g0
      go_wp2_with fail
      simp [bodyPost, results, Tryz.results15, go_sem, b1, b2, b3, b4, b5]
      exact setBad P3H.out (Nat.le_refl _)
  · have e1 : mustP s.data.toList c (k, none) = (k, some (k : Int)) := by
      have : s.data.toList[k]? = none := List.getElem?_eq_none (by rw [hlen]; omega)
      unfold mustP folP failP
      simp [this]
    obtain ⟨e2, e3⟩ := hbad _ e1
    rw [e2, e3]
    have hI : (s.size : Int) ≤ (k : Int) := by omega
    have hI' : ¬ (k : Int) < (s.size : Int) := by omega
    clear e1 e2 e3 hgood hbad hlen
    have P0H : Hid _ := hB0
    have N0H : Hid _ := hN0
    clear hB0 hN0
    go_enter Tryz.func15, Tryz.ntmps15
    go_wp2_with fail
    refine Calls.mono (cA.out _) ?_
    rintro e w3 ⟨rfl, B3⟩
    have P3 := P0H.out.trans (B3.mono P0H.out.size)
    have P3H : Hid _ := P3
    have N3 := BdAt.below N0H.out B3
    clear B3 P3
    obtain ⟨_, b1, b2, b3, b4, b5, g0⟩ := N3
    have g1 := g0 0
    have g2 := g0 1
    have g3 := g0 2
    have g4 := g0 3
    have g5 := g0 4
    clear g0
    go_wp2_with fail
    simp [bodyPost, results, Tryz.results15, go_sem, b1, b2, b3, b4, b5]
    exact setBad P3H.out (Nat.le_refl _)
end Go.Proofs.YtaknjkinagppoaaGreatDoor
