
import Derived.Test.YtdfnomglkibfbaaGreatDoorVgF
namespace Go.Proofs.YtdfnomglkibfbaaGreatDoor.Vf
open Go.RowKit
set_option linter.unusedVariables false
set_option linter.unusedSimpArgs false
set_option maxRecDepth 100000
theorem hid {P : Prop} (h : P) : Hid P := h
/-- a program in a box. -/
def PB (w : World) (b : Nat) (p : PrH) : Prop := b < w.heap.size ∧ w.cell? ⟨b, 0, none⟩ = some (.string p.from_) ∧ w.cell? ⟨b, 1, none⟩ = some (.string p.into) ∧ w.cell? ⟨b, 2, none⟩ = some (.int .i64 p.every) ∧ w.cell? ⟨b, 3, none⟩ = some (.int .i64 p.offset) ∧ w.cell? ⟨b, 4, none⟩ = some (.slice p.groups.a p.groups.n p.groups.c) ∧ w.cell? ⟨b, 5, none⟩ = some (.slice p.accs.a p.accs.n p.accs.c) ∧ w.cell? ⟨b, 6, none⟩ = some (.slice p.alias.a p.alias.n p.alias.c) ∧ w.cell? ⟨b, 7, none⟩ = some (.slice p.names.a p.names.n p.names.c) ∧ w.cell? ⟨b, 8, none⟩ = some (.slice p.texts.a p.texts.n p.texts.c) ∧ w.cell? ⟨b, 9, none⟩ = some (.slice p.lists.a p.lists.n p.lists.c) ∧ w.cell? ⟨b, 10, none⟩ = some (.slice p.times.a p.times.n p.times.c) ∧ w.cell? ⟨b, 11, none⟩ = some (.slice p.ints.a p.ints.n p.ints.c) ∧ w.cell? ⟨b, 12, none⟩ = some (.slice p.filter.a p.filter.n p.filter.c) ∧ w.cell? ⟨b, 13, none⟩ = some (.slice p.output.a p.output.n p.output.c)
theorem PB.below {w w' : World} {b n : Nat} {p : PrH} (h : PB w b p) (hb : Below n w w') (hn : b < n) : PB w' b p := by
  obtain ⟨h1, c0, c1, c2, c3, c4, c5, c6, c7, c8, c9, c10, c11, c12, c13⟩ := h
  have e : ∀ k, w'.cell? ⟨b, k, none⟩ = w.cell? ⟨b, k, none⟩ := fun k => hb.cell (p := ⟨b, k, none⟩) hn
  refine ⟨Nat.lt_of_lt_of_le h1 hb.size, ?_, ?_, ?_, ?_, ?_, ?_, ?_, ?_, ?_, ?_, ?_, ?_, ?_, ?_⟩ <;> (rw [e]; assumption)
/-- the fourteen cells. -/
def PrH.cells (p : PrH) : Array Value := #[.string p.from_, .string p.into, .int .i64 p.every, .int .i64 p.offset, .slice p.groups.a p.groups.n p.groups.c, .slice p.accs.a p.accs.n p.accs.c, .slice p.alias.a p.alias.n p.alias.c, .slice p.names.a p.names.n p.names.c, .slice p.texts.a p.texts.n p.texts.c, .slice p.lists.a p.lists.n p.lists.c, .slice p.times.a p.times.n p.times.c, .slice p.ints.a p.ints.n p.ints.c, .slice p.filter.a p.filter.n p.filter.c, .slice p.output.a p.output.n p.output.c]
theorem PB.new (w : World) (p : PrH) : PB (w.alloc (.cells p.cells 28)) w.heap.size p := by
  unfold PrH.cells
  refine ⟨by simp, ?_, ?_, ?_, ?_, ?_, ?_, ?_, ?_, ?_, ?_, ?_, ?_, ?_, ?_⟩ <;> simp [go_sem]
theorem take_contains {l : List ByteArray} {k : Nat} {s x : ByteArray} (hs : l[k]? = some s) : memB (l.take (k + 1)) x = (memB (l.take k) x || decide (x = s)) := by
  rw [List.take_add_one, hs]
  unfold memB
  rw [List.any_append]
  by_cases h : x = s
  · subst h; simp
  · have h2 : ¬ s = x := fun e => h e.symm
    simp [h, h2]
theorem contains_of {l : List ByteArray} {i k : Nat} {x : ByteArray} (hk : k < i) (hx : l[k]? = some x) : memB (l.take i) x = true := by
  rw [memB_iff]
  obtain ⟨h1, h2⟩ := List.getElem?_eq_some_iff.1 hx
  exact List.mem_take_iff_getElem.2 ⟨k, by omega, h2⟩
set_option maxHeartbeats 8000000 in
theorem head_any (p : PrH) (q : PrL) (hN : PrN p q) (w : World) (h : PrIn w p q) : Calls Tryz.prog 28 #[p.v] w fun e w' => e = .returned (.bool (hdB p q)) ∧ Below w.heap.size w w' := by
  have cH0 : ∀ W, Below w.heap.size w W → Calls Tryz.prog 75 #[.string p.from_, .string p.into, .int .i64 p.every, .int .i64 p.offset, .slice p.groups.a p.groups.n p.groups.c] W fun e w' => e = .returned (.bool (headB p.from_ p.into p.every p.offset q.groups.length && q.groups.all columnB)) ∧ w' = W := fun W hW => by rw [hN.groups]; exact head17_any _ _ _ _ q.groups _ _ hN.groups1 W ((h.below hW (Nat.le_refl _)).groups)
  have cA0 : ∀ W, Below w.heap.size w W → Calls Tryz.prog 76 #[.slice p.accs.a p.accs.n p.accs.c] W fun e w' => e = .returned (.bool (q.accs.all accB)) ∧ w' = W := fun W hW => by rw [hN.accs]; exact accs_any q.accs _ _ hN.accs1 W ((h.below hW (Nat.le_refl _)).accs)
  have cW0 : ∀ W, Below w.heap.size w W → Calls Tryz.prog 77 #[.slice p.alias.a p.alias.n p.alias.c] W fun e w' => e = .returned (.bool (q.alias.all columnB)) ∧ w' = W := fun W hW => by rw [hN.alias]; exact words_any q.alias _ _ hN.alias1 W ((h.below hW (Nat.le_refl _)).alias)
  have cV0 : ∀ W, Below w.heap.size w W → Calls Tryz.prog 77 #[.slice p.names.a p.names.n p.names.c] W fun e w' => e = .returned (.bool (q.names.all columnB)) ∧ w' = W := fun W hW => by rw [hN.names]; exact words_any q.names _ _ hN.names1 W ((h.below hW (Nat.le_refl _)).names)
  have cT0 : ∀ W, Below w.heap.size w W → Calls Tryz.prog 78 #[.slice p.texts.a p.texts.n p.texts.c] W fun e w' => e = .returned (.bool (q.texts.all textB)) ∧ w' = W := fun W hW => by rw [hN.texts]; exact texts_any q.texts _ _ hN.texts1 W ((h.below hW (Nat.le_refl _)).texts)
  have RES : Hid (hdB p q = ((headB p.from_ p.into p.every p.offset q.groups.length && q.groups.all columnB) && q.accs.all accB && (decide ((1 : Int) ≤ (p.alias.n : Int)) && decide ((p.alias.n : Int) ≤ 16)) && q.alias.all columnB && q.names.all columnB && q.texts.all textB && nodB q.alias q.alias.length && q.lists.all listB && (decide ((p.filter.n : Int) ≤ 65536) && decide ((p.output.n : Int) ≤ 65536)))) := by
    show hdB p q = _
    rw [hN.alias, hN.filter, hN.output]; rfl
  generalize hdB p q = v at *
  generalize (headB p.from_ p.into p.every p.offset q.groups.length && q.groups.all columnB) = b1 at *
  generalize q.accs.all accB = b2 at *
  generalize q.alias.all columnB = b3 at *
  generalize q.names.all columnB = b4 at *
  generalize q.texts.all textB = b5 at *
  have cH : Hid (∀ W, Below w.heap.size w W → Calls Tryz.prog 75 #[.string p.from_, .string p.into, .int .i64 p.every, .int .i64 p.offset, .slice p.groups.a p.groups.n p.groups.c] W fun e w' => e = .returned (.bool b1) ∧ w' = W) := cH0
  have cA : Hid (∀ W, Below w.heap.size w W → Calls Tryz.prog 76 #[.slice p.accs.a p.accs.n p.accs.c] W fun e w' => e = .returned (.bool b2) ∧ w' = W) := cA0
  have cW : Hid (∀ W, Below w.heap.size w W → Calls Tryz.prog 77 #[.slice p.alias.a p.alias.n p.alias.c] W fun e w' => e = .returned (.bool b3) ∧ w' = W) := cW0
  have cV : Hid (∀ W, Below w.heap.size w W → Calls Tryz.prog 77 #[.slice p.names.a p.names.n p.names.c] W fun e w' => e = .returned (.bool b4) ∧ w' = W) := cV0
  have cT : Hid (∀ W, Below w.heap.size w W → Calls Tryz.prog 78 #[.slice p.texts.a p.texts.n p.texts.c] W fun e w' => e = .returned (.bool b5) ∧ w' = W) := cT0
  clear cH0 cA0 cW0 cV0 cT0
  have hIN : Hid (PrIn w p q) := h
  have hNH : Hid (PrN p q) := hN
  have hal : Hid (p.alias.n = q.alias.length ∧ q.alias.length ≤ 1152921504606846976 ∧ p.lists.n = q.lists.length ∧ q.lists.length ≤ 1152921504606846976) := ⟨hN.alias, hN.alias1, hN.lists, hN.lists1⟩
  clear h hN
  have hBH : Hid (Below w.heap.size w (w.alloc (.cells p.cells 28))) := (Below.refl _ w).alloc (Nat.le_refl _) _
  have hPB : Hid (PB (w.alloc (.cells p.cells 28)) w.heap.size p) := PB.new w p
  have hB : Below w.heap.size w (w.alloc (.cells p.cells 28)) := hBH.out
  unfold PrH.cells at hBH hPB hB
  unfold PrH.v
  cases b1 with
  | false =>
    have fin : Hid (v = false) := hid (by rw [RES.out]; simp)
    clear RES hIN hNH hal hPB
    go_enter Tryz.func28, Tryz.ntmps28
    go_wp2_with (first
      | (go_at_call 75; with_reducible refine Calls.mono (cH.out _ (by first | assumption | exact hBH.out)) ?_; rintro e w' ⟨rfl, rfl⟩)
      | (go_at_call 76; with_reducible refine Calls.mono (cA.out _ (by first | assumption | exact hBH.out)) ?_; rintro e w' ⟨rfl, rfl⟩)
      | (go_at_call 77; with_reducible refine Calls.mono (cW.out _ (by first | assumption | exact hBH.out)) ?_; rintro e w' ⟨rfl, rfl⟩)
      | (go_at_call 77; with_reducible refine Calls.mono (cV.out _ (by first | assumption | exact hBH.out)) ?_; rintro e w' ⟨rfl, rfl⟩)
      | (go_at_call 78; with_reducible refine Calls.mono (cT.out _ (by first | assumption | exact hBH.out)) ?_; rintro e w' ⟨rfl, rfl⟩))
    go_ret
    exact ⟨by rw [fin.out]; rfl, hBH.out⟩
  | true =>
    cases b2 with
    | false =>
      have fin : Hid (v = false) := hid (by rw [RES.out]; simp)
      clear RES hIN hNH hal hPB
      go_enter Tryz.func28, Tryz.ntmps28
      go_wp2_with (first
      | (go_at_call 75; with_reducible refine Calls.mono (cH.out _ (by first | assumption | exact hBH.out)) ?_; rintro e w' ⟨rfl, rfl⟩)
      | (go_at_call 76; with_reducible refine Calls.mono (cA.out _ (by first | assumption | exact hBH.out)) ?_; rintro e w' ⟨rfl, rfl⟩)
      | (go_at_call 77; with_reducible refine Calls.mono (cW.out _ (by first | assumption | exact hBH.out)) ?_; rintro e w' ⟨rfl, rfl⟩)
      | (go_at_call 77; with_reducible refine Calls.mono (cV.out _ (by first | assumption | exact hBH.out)) ?_; rintro e w' ⟨rfl, rfl⟩)
      | (go_at_call 78; with_reducible refine Calls.mono (cT.out _ (by first | assumption | exact hBH.out)) ?_; rintro e w' ⟨rfl, rfl⟩))
      go_ret
      exact ⟨by rw [fin.out]; rfl, hBH.out⟩
    | true =>
      by_cases ha1 : (1 : Int) ≤ (p.alias.n : Int)
      rotate_left
      · have d1 : decide ((1 : Int) ≤ (p.alias.n : Int)) = false := decide_eq_false ha1
        rw [d1] at RES
        have ha2 : (p.alias.n : Int) < 1 := by omega
        clear d1 ha1
        have fin : Hid (v = false) := hid (by rw [RES.out]; simp)
        clear RES hIN hNH hal hPB
        go_enter Tryz.func28, Tryz.ntmps28
        go_wp2_with (first
      | (go_at_call 75; with_reducible refine Calls.mono (cH.out _ (by first | assumption | exact hBH.out)) ?_; rintro e w' ⟨rfl, rfl⟩)
      | (go_at_call 76; with_reducible refine Calls.mono (cA.out _ (by first | assumption | exact hBH.out)) ?_; rintro e w' ⟨rfl, rfl⟩)
      | (go_at_call 77; with_reducible refine Calls.mono (cW.out _ (by first | assumption | exact hBH.out)) ?_; rintro e w' ⟨rfl, rfl⟩)
      | (go_at_call 77; with_reducible refine Calls.mono (cV.out _ (by first | assumption | exact hBH.out)) ?_; rintro e w' ⟨rfl, rfl⟩)
      | (go_at_call 78; with_reducible refine Calls.mono (cT.out _ (by first | assumption | exact hBH.out)) ?_; rintro e w' ⟨rfl, rfl⟩))
        go_ret
        exact ⟨by rw [fin.out]; rfl, hBH.out⟩
      by_cases ha3 : (p.alias.n : Int) ≤ 16
      rotate_left
      · have d1 : decide ((p.alias.n : Int) ≤ 16) = false := decide_eq_false ha3
        rw [d1] at RES
        have ha2 : ¬ (p.alias.n : Int) < 1 := by omega
        have ha4 : (16 : Int) < (p.alias.n : Int) := by omega
        clear d1 ha1 ha3
        have fin : Hid (v = false) := hid (by rw [RES.out]; simp)
        clear RES hIN hNH hal hPB
        go_enter Tryz.func28, Tryz.ntmps28
        go_wp2_with (first
      | (go_at_call 75; with_reducible refine Calls.mono (cH.out _ (by first | assumption | exact hBH.out)) ?_; rintro e w' ⟨rfl, rfl⟩)
      | (go_at_call 76; with_reducible refine Calls.mono (cA.out _ (by first | assumption | exact hBH.out)) ?_; rintro e w' ⟨rfl, rfl⟩)
      | (go_at_call 77; with_reducible refine Calls.mono (cW.out _ (by first | assumption | exact hBH.out)) ?_; rintro e w' ⟨rfl, rfl⟩)
      | (go_at_call 77; with_reducible refine Calls.mono (cV.out _ (by first | assumption | exact hBH.out)) ?_; rintro e w' ⟨rfl, rfl⟩)
      | (go_at_call 78; with_reducible refine Calls.mono (cT.out _ (by first | assumption | exact hBH.out)) ?_; rintro e w' ⟨rfl, rfl⟩))
        go_ret
        exact ⟨by rw [fin.out]; rfl, hBH.out⟩
      have ha2 : ¬ (p.alias.n : Int) < 1 := by omega
      have ha4 : ¬ (16 : Int) < (p.alias.n : Int) := by omega
      rw [decide_eq_true ha1, decide_eq_true ha3] at RES
      clear ha1 ha3
      cases b3 with
      | false =>
        have fin : Hid (v = false) := hid (by rw [RES.out]; simp)
        clear RES hIN hNH hal hPB
        go_enter Tryz.func28, Tryz.ntmps28
        go_wp2_with (first
      | (go_at_call 75; with_reducible refine Calls.mono (cH.out _ (by first | assumption | exact hBH.out)) ?_; rintro e w' ⟨rfl, rfl⟩)
      | (go_at_call 76; with_reducible refine Calls.mono (cA.out _ (by first | assumption | exact hBH.out)) ?_; rintro e w' ⟨rfl, rfl⟩)
      | (go_at_call 77; with_reducible refine Calls.mono (cW.out _ (by first | assumption | exact hBH.out)) ?_; rintro e w' ⟨rfl, rfl⟩)
      | (go_at_call 77; with_reducible refine Calls.mono (cV.out _ (by first | assumption | exact hBH.out)) ?_; rintro e w' ⟨rfl, rfl⟩)
      | (go_at_call 78; with_reducible refine Calls.mono (cT.out _ (by first | assumption | exact hBH.out)) ?_; rintro e w' ⟨rfl, rfl⟩))
        go_ret
        exact ⟨by rw [fin.out]; rfl, hBH.out⟩
      | true =>
        cases b4 with
        | false =>
          have fin : Hid (v = false) := hid (by rw [RES.out]; simp)
          clear RES hIN hNH hal hPB
          go_enter Tryz.func28, Tryz.ntmps28
          go_wp2_with (first
      | (go_at_call 75; with_reducible refine Calls.mono (cH.out _ (by first | assumption | exact hBH.out)) ?_; rintro e w' ⟨rfl, rfl⟩)
      | (go_at_call 76; with_reducible refine Calls.mono (cA.out _ (by first | assumption | exact hBH.out)) ?_; rintro e w' ⟨rfl, rfl⟩)
      | (go_at_call 77; with_reducible refine Calls.mono (cW.out _ (by first | assumption | exact hBH.out)) ?_; rintro e w' ⟨rfl, rfl⟩)
      | (go_at_call 77; with_reducible refine Calls.mono (cV.out _ (by first | assumption | exact hBH.out)) ?_; rintro e w' ⟨rfl, rfl⟩)
      | (go_at_call 78; with_reducible refine Calls.mono (cT.out _ (by first | assumption | exact hBH.out)) ?_; rintro e w' ⟨rfl, rfl⟩))
          go_ret
          exact ⟨by rw [fin.out]; rfl, hBH.out⟩
        | true =>
          cases b5 with
          | false =>
            have fin : Hid (v = false) := hid (by rw [RES.out]; simp)
            clear RES hIN hNH hal hPB
            go_enter Tryz.func28, Tryz.ntmps28
            go_wp2_with (first
      | (go_at_call 75; with_reducible refine Calls.mono (cH.out _ (by first | assumption | exact hBH.out)) ?_; rintro e w' ⟨rfl, rfl⟩)
      | (go_at_call 76; with_reducible refine Calls.mono (cA.out _ (by first | assumption | exact hBH.out)) ?_; rintro e w' ⟨rfl, rfl⟩)
      | (go_at_call 77; with_reducible refine Calls.mono (cW.out _ (by first | assumption | exact hBH.out)) ?_; rintro e w' ⟨rfl, rfl⟩)
      | (go_at_call 77; with_reducible refine Calls.mono (cV.out _ (by first | assumption | exact hBH.out)) ?_; rintro e w' ⟨rfl, rfl⟩)
      | (go_at_call 78; with_reducible refine Calls.mono (cT.out _ (by first | assumption | exact hBH.out)) ?_; rintro e w' ⟨rfl, rfl⟩))
            go_ret
            exact ⟨by rw [fin.out]; rfl, hBH.out⟩
          | true =>
            simp only [Bool.true_and, Bool.and_true] at RES
            go_enter Tryz.func28, Tryz.ntmps28
            go_wp2_with (first
                  | (go_at_call 75; with_reducible refine Calls.mono (cH.out _ (by first | assumption | exact hBH.out)) ?_; rintro e w' ⟨rfl, rfl⟩)
                  | (go_at_call 76; with_reducible refine Calls.mono (cA.out _ (by first | assumption | exact hBH.out)) ?_; rintro e w' ⟨rfl, rfl⟩)
                  | (go_at_call 77; with_reducible refine Calls.mono (cW.out _ (by first | assumption | exact hBH.out)) ?_; rintro e w' ⟨rfl, rfl⟩)
                  | (go_at_call 77; with_reducible refine Calls.mono (cV.out _ (by first | assumption | exact hBH.out)) ?_; rintro e w' ⟨rfl, rfl⟩)
                  | (go_at_call 78; with_reducible refine Calls.mono (cT.out _ (by first | assumption | exact hBH.out)) ?_; rintro e w' ⟨rfl, rfl⟩))
            generalize hW : World.alloc w _ = W1 at hBH hPB hB ⊢
            clear hW
            obtain ⟨n, hn⟩ : ∃ n, p.alias.n = n := ⟨_, rfl⟩
            obtain ⟨m, hm⟩ : ∃ m, p.lists.n = m := ⟨_, rfl⟩
            have al0 : Hid (q.alias.length = n ∧ n ≤ 1152921504606846976) := by obtain ⟨x1, x2, x3, x4⟩ := hal.out; rw [← hn]; exact ⟨x1.symm, by omega⟩
            have al1 : Hid (q.lists.length = m ∧ m ≤ 1152921504606846976) := by obtain ⟨x1, x2, x3, x4⟩ := hal.out; rw [← hm]; exact ⟨x3.symm, by omega⟩
            rw [al0.out.1] at RES
            rw [hn] at ha2 ha4
            clear cH cA cW cV hal
            have inv0 : Hid (Below W1.heap.size W1 W1) := Below.refl _ _
            have hnm : n ≤ 1152921504606846976 := al0.out.2
            have hmm : m ≤ 1152921504606846976 := al1.out.2
            have hW1 : Hid (w.heap.size < W1.heap.size) := hPB.out.1
            have facts : Hid (∀ W, Below W1.heap.size W1 W → W.cell? ⟨w.heap.size, 6, none⟩ = some (.slice p.alias.a n p.alias.c) ∧ W.cell? ⟨w.heap.size, 9, none⟩ = some (.slice p.lists.a m p.lists.c) ∧ W.cell? ⟨w.heap.size, 12, none⟩ = some (.slice p.filter.a p.filter.n p.filter.c) ∧ W.cell? ⟨w.heap.size, 13, none⟩ = some (.slice p.output.a p.output.n p.output.c)) := fun W hb => by
              obtain ⟨_, c0, c1, c2, c3, c4, c5, c6, c7, c8, c9, c10, c11, c12, c13⟩ := hPB.out.below hb hW1.out
              rw [hn] at c6; rw [hm] at c9
              exact ⟨c6, c9, c12, c13⟩
            have ins : Hid (∀ W, Below W1.heap.size W1 W → StIn W p.alias.a q.alias ∧ LsIn W p.lists.a q.lists) := fun W hb => by
              have := (hIN.out.below hBH.out (Nat.le_refl _)).below hb (Nat.le_refl _)
              exact ⟨this.alias, this.lists⟩
            have bw : Hid (∀ W, Below W1.heap.size W1 W → Below w.heap.size w W) := fun W hb => hBH.out.trans (hb.mono hBH.out.size)
            clear hn hm hIN hNH hPB hB hBH
            go_loopw [3] (fun v3 wr => ∃ i : Nat, v3 = .int .i64 (i : Int) ∧ i ≤ n ∧ Hid (nodB q.alias i = true) ∧ Hid (Below W1.heap.size W1 wr)) (fun v3 _ => n - (intOf v3).toNat)
            case atStart => exact ⟨0, rfl, Nat.zero_le _, rfl, inv0⟩
            case round =>
              obtain ⟨i, rfl, hin, hnod, hbr⟩ := hrel
              have i0 : (0 : Int) ≤ (i : Int) := by omega
              obtain ⟨f6, f9, f12, f13⟩ := facts.out wr hbr.out
              by_cases hi : i < n
              · have iI : (i : Int) < (n : Int) := by omega
                have iw : IntKind.i64.wrap ((i : Int) + 1) = ((i + 1 : Nat) : Int) := IntWalk.i64_in _ (by omega)
                obtain ⟨x, hx⟩ : ∃ x, q.alias[i]? = some x := ⟨_, List.getElem?_eq_getElem (by rw [al0.out.1]; exact hi)⟩
                have hxd : Hid (q.alias.getD i ⟨#[]⟩ = x) := by rw [List.getD_eq_getElem?_getD, hx]; rfl
                have hxH : Hid (q.alias[i]? = some x) := hx
                clear hx
                obtain ⟨wo, hwo⟩ : ∃ wo : World, wo = wr := ⟨_, rfl⟩
                subst hwo
                clear f9 f12 f13
                have hboH : Hid (Below W1.heap.size W1 wo) := hbr
                go_wp2_with fail
                clear f6
                go_loopw [4] (fun v4 wx => ∃ k : Nat, v4 = .int .i64 (k : Int) ∧ k ≤ i ∧ Hid (memB (q.alias.take k) x = false) ∧ Hid (Below W1.heap.size W1 wx)) (fun v4 _ => i - (intOf v4).toNat)
                case atStart => exact ⟨0, rfl, Nat.zero_le _, rfl, hbr⟩
                case round =>
                  obtain ⟨k, rfl, hki, hcon, hbx⟩ := hrel
                  have k0 : (0 : Int) ≤ (k : Int) := by omega
                  by_cases hk : k < i
                  · have kI : (k : Int) < (i : Int) := by omega
                    have kn : (k : Int) < (n : Int) := by omega
                    have kw : IntKind.i64.wrap ((k : Int) + 1) = ((k + 1 : Nat) : Int) := IntWalk.i64_in _ (by omega)
                    obtain ⟨g, off, s, es, ea, gl, cs⟩ := (ins.out wr hbx.out).1.at (k := k) (by rw [al0.out.1]; omega)
                    obtain ⟨g', off', s', es', ea', gl', cs'⟩ := (ins.out wr hbx.out).1.at (k := i) (by rw [al0.out.1]; omega)
                    rw [ea] at ea'
                    injection ea' with ea'
                    injection ea' with e1 e2
                    subst e1 e2
                    have e3 : s' = x := by rw [hxH.out] at es'; injection es' with es'; exact es'.symm
                    subst e3
                    have esH : Hid (q.alias[k]? = some s) := es
                    have f6 := (facts.out wr hbx.out).1
                    rw [ea] at f6
                    have bxN : Hid (∀ nq, Below W1.heap.size W1 (wr.drewN nq)) := fun nq => bl_drewN hbx.out nq
                    have fN : ∀ nq, (wr.drewN nq).cell? ⟨w.heap.size, 6, none⟩ = some (.slice (some ⟨g, off, none⟩) n p.alias.c) := fun nq => f6
                    clear es es' gl gl'
                    by_cases hs : s = s'
                    · have hsl : (s.toList == s'.toList) = true := by rw [hs]; simp
                      have fin : Hid (v = false) := hid (by rw [RES.out, nod_false (l := q.alias) hi (by rw [hxd.out]; exact contains_of hk (hs ▸ esH.out))]; simp)
                      clear hs RES esH hcon hxH hxd ea hnod
                      go_wp2_with fail
                      go_quiet (fail)
                      go_wp2_with fail
                      go_ret
                      exact ⟨by rw [fin.out]; rfl, bw.out _ (bxN.out _)⟩
                    · have hsl : (s.toList == s'.toList) = false := by
                        rw [beq_eq_false_iff_ne]; exact fun e => hs (toList_inj' e)
                      have NX0 : memB (q.alias.take (k + 1)) s' = false := by
                        rw [take_contains esH.out, hcon.out, decide_eq_false (fun e => hs e.symm)]; rfl
                      have NX : Hid (memB (q.alias.take (k + 1)) s' = false) := NX0
                      clear NX0 hs esH hcon hxH ea hnod
                      go_wp2_with fail
                      go_quiet (fail)
                      go_wp2_with fail
                      exact ⟨⟨k + 1, by first | rfl | (rw [kw]), by omega, NX, bxN.out _⟩, by first | (simp [intOf]; done) | (simp [intOf]; omega)⟩
                  · have kI : ¬ (k : Int) < (i : Int) := by omega
                    have NX0 : nodB q.alias (i + 1) = true := by
                      have e : k = i := by omega
                      rw [nod_succ, hnod.out, hxd.out, ← e, hcon.out]; rfl
                    have NX : Hid (nodB q.alias (i + 1) = true) := NX0
                    clear NX0 hcon hxH hxd hnod
                    go_wp2_with fail
                    exact ⟨⟨i + 1, by first | rfl | (rw [iw]), by omega, NX, hbx⟩, by first | (simp [intOf]; done) | (simp [intOf]; omega)⟩
              · have iI : ¬ (i : Int) < (n : Int) := by omega
                have hnn : nodB q.alias n = true := by
                  have e : i = n := by omega
                  rw [← e]; exact hnod.out
                rw [hnn, Bool.true_and] at RES
                clear hnn hnod f9 f12 f13
                go_wp2_with fail
                go_loopw [5] (fun v5 wx => wx = wr ∧ ∃ j : Nat, v5 = .int .i64 (j : Int) ∧ j ≤ m ∧ Hid ((q.lists.take j).all listB = true)) (fun v5 _ => m - (intOf v5).toNat)
                case atStart => exact ⟨rfl, 0, rfl, Nat.zero_le _, rfl⟩
                case round =>
                  obtain ⟨rfl, j, rfl, hjm, hall⟩ := hrel
                  have j0 : (0 : Int) ≤ (j : Int) := by omega
                  obtain ⟨f6, f9, f12, f13⟩ := facts.out wr hbr.out
                  by_cases hj : j < m
                  · have jI : (j : Int) < (m : Int) := by omega
                    have jw : IntKind.i64.wrap ((j : Int) + 1) = ((j + 1 : Nat) : Int) := IntWalk.i64_in _ (by omega)
                    obtain ⟨g, off, t, x, c, et, tl, ea, gl, cs, hst⟩ := (ins.out wr hbr.out).2.at (k := j) (by rw [al1.out.1]; omega)
                    rw [ea] at f9
                    have cX0 := texts_any t x c tl wr hst
                    have etH : Hid (q.lists[j]? = some t) := et
                    have lb : Hid (listB t = (decide ((1 : Int) ≤ (t.length : Int)) && decide ((t.length : Int) ≤ 64) && t.all textB)) := rfl
                    obtain ⟨lv, hlv⟩ : ∃ lv, listB t = lv := ⟨_, rfl⟩
                    have lvH : Hid (listB t = lv) := hlv
                    rw [hlv] at lb
                    clear hlv
                    generalize t.all textB = tb at lb cX0
                    generalize t.length = tn at *
                    have cX : Hid (Calls Tryz.prog 78 #[.slice x tn c] wr fun e w' => e = .returned (.bool tb) ∧ w' = wr) := cX0
                    clear cX0 hst ea gl et
                    have tok : Hid (lv = true → (q.lists.take (j + 1)).all listB = true) := fun e => all_take hall.out etH.out (lvH.out.trans e)
                    have tno : Hid (lv = false → v = false) := fun e => by rw [RES.out, all_false etH.out (lvH.out.trans e)]; simp
                    clear hall etH lvH RES
                    by_cases t1 : (1 : Int) ≤ (tn : Int)
                    · have u1 : ¬ (tn : Int) < 1 := by omega
                      by_cases t2 : (tn : Int) ≤ 64
                      · have u2 : ¬ (64 : Int) < (tn : Int) := by omega
                        cases tb with
                        | true =>
                          have NX : Hid ((q.lists.take (j + 1)).all listB = true) := tok.out (by rw [lb.out, decide_eq_true t1, decide_eq_true t2]; rfl)
                          clear tok tno lb t1 t2
                          go_wp2_with (go_at_call 78; with_reducible refine Calls.mono cX.out ?_; rintro e w' ⟨rfl, rfl⟩)
                          exact ⟨⟨by first | trivial | rfl, j + 1, by first | rfl | (rw [jw]), by omega, NX⟩, by first | (simp [intOf]; done) | (simp [intOf]; omega)⟩
                        | false =>
                          have fin : Hid (v = false) := tno.out (by rw [lb.out]; simp)
                          clear tok tno lb t1 t2
                          go_wp2_with (go_at_call 78; with_reducible refine Calls.mono cX.out ?_; rintro e w' ⟨rfl, rfl⟩)
                          go_ret
                          exact ⟨by rw [fin.out]; rfl, bw.out _ hbr.out⟩
                      · have u2 : (64 : Int) < (tn : Int) := by omega
                        have fin : Hid (v = false) := tno.out (by rw [lb.out, decide_eq_false t2]; simp)
                        clear tok tno lb t1 t2 cX
                        go_wp2_with fail
                        go_ret
                        exact ⟨by rw [fin.out]; rfl, bw.out _ hbr.out⟩
                    · have u1 : (tn : Int) < 1 := by omega
                      have fin : Hid (v = false) := tno.out (by rw [lb.out, decide_eq_false t1]; simp)
                      clear tok tno lb t1 cX
                      go_wp2_with fail
                      go_ret
                      exact ⟨by rw [fin.out]; rfl, bw.out _ hbr.out⟩
                  · have jI : ¬ (j : Int) < (m : Int) := by omega
                    have hl : q.lists.all listB = true := by
                      have := hall.out
                      rw [List.take_of_length_le (by rw [al1.out.1]; omega)] at this
                      exact this
                    rw [hl, Bool.true_and] at RES
                    clear hl hall
                    by_cases g1 : (p.filter.n : Int) ≤ 65536
                    · rw [decide_eq_true g1, Bool.true_and] at RES
                      by_cases g2 : (p.output.n : Int) ≤ 65536
                      · rw [decide_eq_true g2] at RES
                        go_wp2_with fail
                        go_ret
                        exact ⟨by rw [RES.out]; rfl, bw.out _ hbr.out⟩
                      · rw [decide_eq_false g2] at RES
                        go_wp2_with fail
                        go_ret
                        exact ⟨by rw [RES.out]; rfl, bw.out _ hbr.out⟩
                    · rw [decide_eq_false g1, Bool.false_and] at RES
                      go_wp2_with fail
                      go_ret
                      exact ⟨by rw [RES.out]; rfl, bw.out _ hbr.out⟩
end Go.Proofs.YtdfnomglkibfbaaGreatDoor.Vf
