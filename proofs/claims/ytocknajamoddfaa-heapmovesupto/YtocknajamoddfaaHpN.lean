
import Derived.Test.YtocknajamoddfaaHpM
namespace Go.Proofs.Ytocknajamoddfaa.Hp
open Go.RowKit Go.Maps
set_option linter.unusedVariables false
set_option linter.unusedSimpArgs false
/-- one call of a row. -/
structure OpP where
  k : Int
  wh : Int
  mo : Bool
  e : Ent
  la : Option Addr
  ln : Nat
  lc : Nat
def OpIn (w : World) (a : Option Addr) (len : Nat) (op : Nat → OpP) : Prop := len = 0 ∨ ∃ b off, a = some ⟨b, off, none⟩ ∧ b < w.heap.size ∧ ∀ i, i < len → w.cell? ⟨b, off + i * 6, none⟩ = some (.int .i64 (op i).k) ∧ w.cell? ⟨b, off + i * 6 + 1, none⟩ = some (.int .i64 (op i).wh) ∧ w.cell? ⟨b, off + i * 6 + 2, none⟩ = some (.bool (op i).mo) ∧ w.cell? ⟨b, off + i * 6 + 3, none⟩ = some (.int .i64 (op i).e.1) ∧ w.cell? ⟨b, off + i * 6 + 4, none⟩ = some (.string (op i).e.2) ∧ w.cell? ⟨b, off + i * 6 + 5, none⟩ = some (.slice (op i).la (op i).ln (op i).lc)
theorem OpIn.below {w w' : World} {a : Option Addr} {len : Nat} {op : Nat → OpP} (h : OpIn w a len op) (hB : Below w.heap.size w w') : OpIn w' a len op := by
  rcases h with h | ⟨b, off, ha, hb, hc⟩
  · exact Or.inl h
  · refine Or.inr ⟨b, off, ha, by have := hB.size; omega, fun i hi => ?_⟩
    have c : ∀ o, w'.cell? ⟨b, o, none⟩ = w.cell? ⟨b, o, none⟩ := fun o => hB.cell (p := ⟨b, o, none⟩) hb
    rw [c, c, c, c, c, c]
    exact hc i hi
/-- behind one call of the row. -/
def NXT (w : World) (hp mb K i : Nat) (W1 w2 : World) : Prop := ∃ L mv, GB w hp mb false L mv w2 ∧ few L mv ∧ L.length ≤ i ∧ w2.heap[K]? = W1.heap[K]?
theorem nxt_of {w wr W1 w2 : World} {hp mb i K : Nat} {v : Value} {f : ByteArray → Option Nat} {L : List Ent} {mv : Int} (hG : GB w hp mb false L mv wr) (h : HS wr (w.heap.size + 2) hp mb false v none f L mv) (hb : Below wr.heap.size wr W1) (hf : few L mv) (hi : L.length ≤ i) (k1 : wr.heap.size ≤ K) (k2 : K < W1.heap.size) (ch : CH W1 (w.heap.size + 2) hp mb false v L mv w2) : NXT w hp mb K (i + 1) W1 w2 := by
  obtain ⟨L', mv', op, fw, hl⟩ := ch
  obtain ⟨v', f', hs', _⟩ := op.hs
  have hr := h.row
  have fr := (HF.below (hp := hp) (mb := mb) (rb := v.ownBlock) hb).trans op.fr
  obtain ⟨q1, q2⟩ := hG.frame (ex := none) (f := f) (L' := L) (mv' := mv) (B := 0) hr fr
  have sz := hG.sz
  have e1 := hG.e1
  have e2 := hG.e2
  exact ⟨L', mv', ⟨⟨v', f', hs'⟩, q1, q2, e1, e2⟩, fw hf, by omega, op.fr.keep K k2 (by omega) (by omega) (fun e => by have := (World.ownsRow.lt hr K e.symm).2; omega)⟩
theorem nums_l (i : Nat) (hi : i ≤ 1048576) : IntKind.i64.wrap ((i : Int) + 1) = ((i + 1 : Nat) : Int) := IntWalk.i64_in _ (by omega)
set_option maxRecDepth 100000 in
set_option maxHeartbeats 16000000 in
theorem heapMoves_walk (a : Option Addr) (len cap : Nat) (op : Nat → OpP) (a2 : Option Addr) (cap2 : Nat) (l : List Ent) (w : World) (hop : OpIn w a len op) (hsz : ∀ i, i < len → (op i).e.2.size ≤ 9223372036854775807) (hlen : len ≤ 1048576) (hin : EnIn w a2 l) (hnm : ∀ e ∈ l, e.2.size ≤ 9223372036854775807) (hn : l.length ≤ 1048576) :
    Calls Try.prog 3 #[.slice a len cap, .slice a2 l.length cap2] w fun e w' => e = .returned (.bool true) ∧ Below w.heap.size w w' := by
  obtain ⟨hp, hhp⟩ : ∃ hp, hp = w.heap.size + 1 := ⟨_, rfl⟩
  obtain ⟨mb, hmb⟩ : ∃ mb, mb = w.heap.size := ⟨_, rfl⟩
  have CN : Hid (Calls Try.prog 4 #[.bool false] w fun e w' => e = .returned (.pointer (some ⟨hp, 0, none⟩)) ∧ GB w hp mb false [] 0 w') := by
    refine (hnew_any false w).mono fun e w' hh => ?_
    obtain ⟨h1, h2, h3⟩ := hh
    refine ⟨by rw [h1, hhp], ⟨_, _, by rw [hhp, hmb]; exact h2⟩, h3, ?_, hhp, hmb⟩
    have := h2.hl
    omega
  have hopH : Hid (OpIn w a len op) := hop
  have hszH : Hid (∀ i, i < len → (op i).e.2.size ≤ 9223372036854775807) := hsz
  have CB : Hid (∀ W, Below w.heap.size w W → Calls Try.prog 13 #[.bool true, .slice a2 l.length cap2] W fun e w' => ((∃ er, e = .returned (.tuple #[.pointer none, .iface 69 er])) ∨ ∃ (k m : Nat), m ≤ l.length ∧ e = .returned (.tuple #[.pointer (some ⟨k, 0, none⟩), .nilIface]) ∧ ∀ W2, Below w'.heap.size w' W2 → (Calls Try.prog 10 #[.pointer (some ⟨k, 0, none⟩)] W2 fun e w3 => e = .returned (.int .i64 (m : Int)) ∧ w3 = W2) ∧ Calls Try.prog 5 #[.pointer (some ⟨k, 0, none⟩)] W2 fun e w3 => e = .returned (.int .i64 (l.length : Int)) ∧ w3 = W2) ∧ Below w.heap.size w w') := fun W hW => by
    refine (build_any true a2 cap2 l W (hin.below hW) hnm (by omega)).mono fun e w' hh => ?_
    refine ⟨?_, below_trans hW (below_less hh.2 hW.size)⟩
    rcases hh.1 with ⟨er, q, _⟩ | ⟨q1, q2⟩
    · exact Or.inl ⟨er, q⟩
    · obtain ⟨t1, t2⟩ := bldL_few (ahd true) (l.length / 2) (l, 0) (by show l.length / 2 ≤ l.length; omega)
      have t3 := dbl_le l.length l.length (Nat.le_refl _)
      refine Or.inr ⟨W.heap.size + 1, (bldL (ahd true) (l.length / 2) (l, 0)).2, ?_, q1, fun W2 hW2 => ?_⟩
      · simp only at t2; omega
      · have q3 := q2.below hW2
        obtain ⟨v, f, hs⟩ := q3.hs
        refine ⟨moves_any hs, ?_⟩
        have := len_any hs
        rw [t1] at this
        exact this
  have kL : Hid (∀ W, Below w.heap.size w W → Calls Try.prog 14 #[] W fun e w' => e = .returned (.bool true) ∧ Below W.heap.size W w' ∧ Below w.heap.size w w') := fun W hW => (live_any W).mono fun e w' hh => ⟨hh.1, hh.2, below_trans hW (below_less hh.2 hW.size)⟩
  obtain ⟨n2, hn2⟩ : ∃ n2, n2 = l.length := ⟨_, rfl⟩
  rw [← hn2]
  rw [← hn2] at CB
  clear hin hnm hn hop hsz hn2 hhp hmb
  go_enter Try.func3, Try.ntmps3
  go_wp2_with fail
  refine Calls.mono CN.out ?_
  rintro e w1 ⟨rfl, gb1⟩
  have G0 : Hid (GB w hp mb false [] 0 w1) := gb1
  clear gb1 CN
  go_wp2_with fail
  go_loopw [14] (fun v14 wr => ∃ (i : Nat), v14 = .int .i64 (i : Int) ∧ i ≤ len ∧ Hid (∃ L mv, GB w hp mb false L mv wr ∧ few L mv ∧ L.length ≤ i)) (fun v14 _ => len - (intOf v14).toNat)
  case atStart => exact ⟨0, rfl, Nat.zero_le _, [], 0, G0.out, ⟨0, rfl, fun q => by simp at q, fun _ => rfl⟩, Nat.le_refl _⟩
  case round =>
    clear G0
    obtain ⟨i, rfl, hil, hG0⟩ := hrel
    obtain ⟨L, mv, hG, hfew, hLi⟩ := hG0.out
    clear hG0
    by_cases hi : i < len
    · obtain ⟨i0, iI, iw, _⟩ := nums_j i len hi (by omega)
      obtain ⟨b, off, rfl, hbl, hcs⟩ : ∃ b off, a = some ⟨b, off, none⟩ ∧ b < wr.heap.size ∧ ∀ i, i < len → wr.cell? ⟨b, off + i * 6, none⟩ = some (.int .i64 (op i).k) ∧ wr.cell? ⟨b, off + i * 6 + 1, none⟩ = some (.int .i64 (op i).wh) ∧ wr.cell? ⟨b, off + i * 6 + 2, none⟩ = some (.bool (op i).mo) ∧ wr.cell? ⟨b, off + i * 6 + 3, none⟩ = some (.int .i64 (op i).e.1) ∧ wr.cell? ⟨b, off + i * 6 + 4, none⟩ = some (.string (op i).e.2) ∧ wr.cell? ⟨b, off + i * 6 + 5, none⟩ = some (.slice (op i).la (op i).ln (op i).lc) := by
        rcases hopH.out.below hG.bl with q | q
        · omega
        · exact q
      obtain ⟨e0, e1, e2, e3, e4, e5⟩ := hcs i hi
      have hxs := hszH.out i hi
      clear hcs
      generalize op i = o at *
      obtain ⟨k, wh, mo, x, la, ln, lc⟩ := o
      simp only at e0 e1 e2 e3 e4 e5 hxs
      obtain ⟨K, hK⟩ : ∃ K, K = wr.heap.size := ⟨_, rfl⟩
      obtain ⟨W1, hW1⟩ : ∃ W1, W1 = wr.alloc (.cells #[.int .i64 k, .int .i64 wh, .bool mo, .int .i64 x.1, .string x.2, .slice la ln lc] 29) := ⟨_, rfl⟩
      have b1 : Below wr.heap.size wr W1 := by rw [hW1]; exact (Below.refl _ wr).alloc (Nat.le_refl _) _
      have s1 : W1.heap.size = K + 1 := by rw [hW1, hK]; simp
      have f0 : W1.cell? ⟨K, 0, none⟩ = some (.int .i64 k) := by rw [hW1, hK]; simp [go_sem]
      have f3 : W1.cell? ⟨K, 3, none⟩ = some (.int .i64 x.1) := by rw [hW1, hK]; simp [go_sem]
      have f4 : W1.cell? ⟨K, 4, none⟩ = some (.string x.2) := by rw [hW1, hK]; simp [go_sem]
      obtain ⟨v, f, hs⟩ := hG.hs
      have hs1 := hs.below b1
      have sz1 : w.heap.size + 2 ≤ W1.heap.size := Nat.le_trans hG.sz b1.size
      have step : ∀ w2, CH W1 (w.heap.size + 2) hp mb false v L mv w2 → NXT w hp mb K (i + 1) W1 w2 := fun w2 ch => nxt_of hG hs b1 hfew hLi (by omega) (by omega) ch
      have CL1 : Hid _ := len_any hs1
      have CPut : Hid (Calls Try.prog 6 #[.pointer (some ⟨hp, 0, none⟩), eV x] W1 fun e w2 => (∃ r, e = .returned r) ∧ NXT w hp mb K (i + 1) W1 w2) := (put_any hs1 sz1 x hxs (by omega)).mono fun e w2 hh => ⟨hh.1, step w2 hh.2⟩
      have CTake : Hid (Calls Try.prog 7 #[.pointer (some ⟨hp, 0, none⟩), .string x.2] W1 fun e w2 => (∃ r, e = .returned r) ∧ NXT w hp mb K (i + 1) W1 w2) := (take_any hs1 x.2 hxs (by omega)).mono fun e w2 hh => by
        obtain ⟨⟨y, r, q⟩, ch⟩ := hh
        exact ⟨⟨_, q⟩, step w2 ch⟩
      have CTurn : Hid (Calls Try.prog 8 #[.pointer (some ⟨hp, 0, none⟩), .string x.2, .int .i64 x.1] W1 fun e w2 => (∃ r, e = .returned r) ∧ NXT w hp mb K (i + 1) W1 w2) := (turn_any hs1 x.2 hxs x.1 (by omega)).mono fun e w2 hh => ⟨hh.1, step w2 hh.2⟩
      have CPop : Hid (Calls Try.prog 9 #[.pointer (some ⟨hp, 0, none⟩)] W1 fun e w2 => (∃ r, e = .returned r) ∧ NXT w hp mb K (i + 1) W1 w2) := (pop_any hs1 (by omega)).mono fun e w2 hh => ⟨hh.1, step w2 hh.2⟩
      unfold eV at CPut
      have f0H : Hid (W1.cell? ⟨K, 0, none⟩ = some (.int .i64 k)) := f0
      have TAIL : Hid (∀ w2, NXT w hp mb K (i + 1) W1 w2 → ∃ (N2 : Nat) (mv2 : Int), w2.cell? ⟨K, 0, none⟩ = some (.int .i64 k) ∧ (Calls Try.prog 5 #[.pointer (some ⟨hp, 0, none⟩)] w2 fun e w3 => e = .returned (.int .i64 (N2 : Int)) ∧ w3 = w2) ∧ (Calls Try.prog 10 #[.pointer (some ⟨hp, 0, none⟩)] w2 fun e w3 => e = .returned (.int .i64 mv2) ∧ w3 = w2) ∧ (∀ M : Nat, N2 ≤ M → M ≤ 1048577 → (Calls Try.prog 11 #[.int .i64 (M : Int)] w2 fun e w3 => e = .returned (.int .i64 (logN M)) ∧ w3 = w2) ∧ ¬ mv2 > logN M) ∧ N2 ≤ 1048577 ∧ ∃ L mv, GB w hp mb false L mv w2 ∧ few L mv ∧ L.length ≤ i + 1) := fun w2 nx => by
        obtain ⟨L2, mv2, g2, fw2, hl2, kK⟩ := nx
        obtain ⟨v2, f2, hs2⟩ := g2.hs
        refine ⟨L2.length, mv2, by rw [World.cell?_of_block (w := W1) (a := ⟨K, 0, none⟩) kK]; exact f0, len_any hs2, moves_any hs2, fun M hM hM2 => ⟨log_any M (by omega) w2, by have := few_log fw2 M hM (by omega); omega⟩, by omega, L2, mv2, g2, fw2, hl2⟩
      have hW1H : Hid (wr.alloc (.cells #[.int .i64 k, .int .i64 wh, .bool mo, .int .i64 x.1, .string x.2, .slice la ln lc] 29) = W1 ∧ wr.heap.size = K) := ⟨hW1.symm, hK.symm⟩
      have hL1 : L.length ≤ 1048577 := by omega
      clear hG hfew hLi hs hs1 sz1 step b1 s1 hW1 hK hxs CB kL
      generalize L.length = n at *
      go_wp2_with fail
      rw [hW1H.out.1, hW1H.out.2]
      clear hW1H e0 e1 e2 e3 e4 e5
      refine Calls.mono CL1.out ?_
      rintro e w1' ⟨rfl, hw1'⟩
      subst hw1'
      clear CL1
      by_cases hk0 : k = 0
      · subst hk0
        go_wp2_with fail
        refine Calls.mono CPut.out ?_
        rintro e w2 ⟨⟨r, rfl⟩, nx⟩
        obtain ⟨N2, mv2, g0, l2, m2, lg, hN2, hG2⟩ := TAIL.out w2 nx
        have HL2 : Hid _ := l2
        have HM2 : Hid _ := m2
        have HLG : Hid _ := lg
        have HG2 : Hid (∃ L mv, GB w hp mb false L mv w2 ∧ few L mv ∧ L.length ≤ i + 1) := hG2
        clear l2 m2 lg hG2 nx TAIL CPut CTake CTurn CPop f0 f0H f3 f4
        go_wp2_with fail
        refine Calls.mono HL2.out ?_
        rintro e w3 ⟨rfl, hw3⟩
        subst hw3
        by_cases hgt : (N2 : Int) > (n : Int)
        · have hgt2 : (n : Int) < (N2 : Int) := hgt
          go_wp2_with fail
          refine Calls.mono HL2.out ?_
          rintro e w3 ⟨rfl, hw3⟩
          subst hw3
          clear HL2
          go_wp2_with fail
          refine Calls.mono HM2.out ?_
          rintro e w4 ⟨rfl, hw4⟩
          subst hw4
          obtain ⟨lg1, lg2⟩ := HLG.out N2 (by omega) (by omega)
          have LG1 : Hid _ := lg1
          have lg3 : (decide (mv2 > logN N2)) = false := decide_eq_false (by omega)
          clear lg1 HLG HM2
          go_wp2_with fail
          refine Calls.mono LG1.out ?_
          rintro e w4 ⟨rfl, hw4⟩
          subst hw4
          clear LG1
          go_wp2_with fail
          exact ⟨⟨i + 1, rfl, hi, HG2⟩, by first | (simp [intOf]; done) | (simp [intOf]; omega)⟩
        · have hgt2 : ¬ (n : Int) < (N2 : Int) := hgt
          clear HL2
          go_wp2_with fail
          refine Calls.mono HM2.out ?_
          rintro e w4 ⟨rfl, hw4⟩
          subst hw4
          obtain ⟨lg1, lg2⟩ := HLG.out n (by omega) (by omega)
          have LG1 : Hid _ := lg1
          have lg3 : (decide (mv2 > logN n)) = false := decide_eq_false (by omega)
          clear lg1 HLG HM2
          go_wp2_with fail
          refine Calls.mono LG1.out ?_
          rintro e w4 ⟨rfl, hw4⟩
          subst hw4
          clear LG1
          go_wp2_with fail
          exact ⟨⟨i + 1, rfl, hi, HG2⟩, by first | (simp [intOf]; done) | (simp [intOf]; omega)⟩
      · by_cases hk1 : k = 1
        · subst hk1
          go_wp2_with fail
          refine Calls.mono CTake.out ?_
          rintro e w2 ⟨⟨r, rfl⟩, nx⟩
          obtain ⟨N2, mv2, g0, l2, m2, lg, hN2, hG2⟩ := TAIL.out w2 nx
          have HL2 : Hid _ := l2
          have HM2 : Hid _ := m2
          have HLG : Hid _ := lg
          have HG2 : Hid (∃ L mv, GB w hp mb false L mv w2 ∧ few L mv ∧ L.length ≤ i + 1) := hG2
          clear l2 m2 lg hG2 nx TAIL CPut CTake CTurn CPop f0 f0H f3 f4
          go_wp2_with fail
          refine Calls.mono HL2.out ?_
          rintro e w3 ⟨rfl, hw3⟩
          subst hw3
          by_cases hgt : (N2 : Int) > (n : Int)
          · have hgt2 : (n : Int) < (N2 : Int) := hgt
            go_wp2_with fail
            refine Calls.mono HL2.out ?_
            rintro e w3 ⟨rfl, hw3⟩
            subst hw3
            clear HL2
            go_wp2_with fail
            refine Calls.mono HM2.out ?_
            rintro e w4 ⟨rfl, hw4⟩
            subst hw4
            obtain ⟨lg1, lg2⟩ := HLG.out N2 (by omega) (by omega)
            have LG1 : Hid _ := lg1
            have lg3 : (decide (mv2 > logN N2)) = false := decide_eq_false (by omega)
            clear lg1 HLG HM2
            go_wp2_with fail
            refine Calls.mono LG1.out ?_
            rintro e w4 ⟨rfl, hw4⟩
            subst hw4
            clear LG1
            go_wp2_with fail
            exact ⟨⟨i + 1, rfl, hi, HG2⟩, by first | (simp [intOf]; done) | (simp [intOf]; omega)⟩
          · have hgt2 : ¬ (n : Int) < (N2 : Int) := hgt
            clear HL2
            go_wp2_with fail
            refine Calls.mono HM2.out ?_
            rintro e w4 ⟨rfl, hw4⟩
            subst hw4
            obtain ⟨lg1, lg2⟩ := HLG.out n (by omega) (by omega)
            have LG1 : Hid _ := lg1
            have lg3 : (decide (mv2 > logN n)) = false := decide_eq_false (by omega)
            clear lg1 HLG HM2
            go_wp2_with fail
            refine Calls.mono LG1.out ?_
            rintro e w4 ⟨rfl, hw4⟩
            subst hw4
            clear LG1
            go_wp2_with fail
            exact ⟨⟨i + 1, rfl, hi, HG2⟩, by first | (simp [intOf]; done) | (simp [intOf]; omega)⟩
        · by_cases hk2 : k = 2
          · subst hk2
            go_wp2_with fail
            refine Calls.mono CTurn.out ?_
            rintro e w2 ⟨⟨r, rfl⟩, nx⟩
            obtain ⟨N2, mv2, g0, l2, m2, lg, hN2, hG2⟩ := TAIL.out w2 nx
            have HL2 : Hid _ := l2
            have HM2 : Hid _ := m2
            have HLG : Hid _ := lg
            have HG2 : Hid (∃ L mv, GB w hp mb false L mv w2 ∧ few L mv ∧ L.length ≤ i + 1) := hG2
            clear l2 m2 lg hG2 nx TAIL CPut CTake CTurn CPop f0 f0H f3 f4
            go_wp2_with fail
            refine Calls.mono HL2.out ?_
            rintro e w3 ⟨rfl, hw3⟩
            subst hw3
            by_cases hgt : (N2 : Int) > (n : Int)
            · have hgt2 : (n : Int) < (N2 : Int) := hgt
              go_wp2_with fail
              refine Calls.mono HL2.out ?_
              rintro e w3 ⟨rfl, hw3⟩
              subst hw3
              clear HL2
              go_wp2_with fail
              refine Calls.mono HM2.out ?_
              rintro e w4 ⟨rfl, hw4⟩
              subst hw4
              obtain ⟨lg1, lg2⟩ := HLG.out N2 (by omega) (by omega)
              have LG1 : Hid _ := lg1
              have lg3 : (decide (mv2 > logN N2)) = false := decide_eq_false (by omega)
              clear lg1 HLG HM2
              go_wp2_with fail
              refine Calls.mono LG1.out ?_
              rintro e w4 ⟨rfl, hw4⟩
              subst hw4
              clear LG1
              go_wp2_with fail
              exact ⟨⟨i + 1, rfl, hi, HG2⟩, by first | (simp [intOf]; done) | (simp [intOf]; omega)⟩
            · have hgt2 : ¬ (n : Int) < (N2 : Int) := hgt
              clear HL2
              go_wp2_with fail
              refine Calls.mono HM2.out ?_
              rintro e w4 ⟨rfl, hw4⟩
              subst hw4
              obtain ⟨lg1, lg2⟩ := HLG.out n (by omega) (by omega)
              have LG1 : Hid _ := lg1
              have lg3 : (decide (mv2 > logN n)) = false := decide_eq_false (by omega)
              clear lg1 HLG HM2
              go_wp2_with fail
              refine Calls.mono LG1.out ?_
              rintro e w4 ⟨rfl, hw4⟩
              subst hw4
              clear LG1
              go_wp2_with fail
              exact ⟨⟨i + 1, rfl, hi, HG2⟩, by first | (simp [intOf]; done) | (simp [intOf]; omega)⟩
          · have hb0 : (k == 0) = false := by simpa using hk0
            have hb1 : (k == 1) = false := by simpa using hk1
            have hb2 : (k == 2) = false := by simpa using hk2
            by_cases hk3 : k < 3
            · have hk3' : k < 3 := hk3
              go_wp2_with fail
              refine Calls.mono CPop.out ?_
              rintro e w2 ⟨⟨r, rfl⟩, nx⟩
              obtain ⟨N2, mv2, g0, l2, m2, lg, hN2, hG2⟩ := TAIL.out w2 nx
              have HL2 : Hid _ := l2
              have HM2 : Hid _ := m2
              have HLG : Hid _ := lg
              have HG2 : Hid (∃ L mv, GB w hp mb false L mv w2 ∧ few L mv ∧ L.length ≤ i + 1) := hG2
              clear l2 m2 lg hG2 nx TAIL CPut CTake CTurn CPop f0 f0H f3 f4
              go_wp2_with fail
              refine Calls.mono HL2.out ?_
              rintro e w3 ⟨rfl, hw3⟩
              subst hw3
              by_cases hgt : (N2 : Int) > (n : Int)
              · have hgt2 : (n : Int) < (N2 : Int) := hgt
                go_wp2_with fail
                refine Calls.mono HL2.out ?_
                rintro e w3 ⟨rfl, hw3⟩
                subst hw3
                clear HL2
                go_wp2_with fail
                refine Calls.mono HM2.out ?_
                rintro e w4 ⟨rfl, hw4⟩
                subst hw4
                obtain ⟨lg1, lg2⟩ := HLG.out N2 (by omega) (by omega)
                have LG1 : Hid _ := lg1
                have lg3 : (decide (mv2 > logN N2)) = false := decide_eq_false (by omega)
                clear lg1 HLG HM2
                go_wp2_with fail
                refine Calls.mono LG1.out ?_
                rintro e w4 ⟨rfl, hw4⟩
                subst hw4
                clear LG1
                go_wp2_with fail
                exact ⟨⟨i + 1, rfl, hi, HG2⟩, by first | (simp [intOf]; done) | (simp [intOf]; omega)⟩
              · have hgt2 : ¬ (n : Int) < (N2 : Int) := hgt
                clear HL2
                go_wp2_with fail
                refine Calls.mono HM2.out ?_
                rintro e w4 ⟨rfl, hw4⟩
                subst hw4
                obtain ⟨lg1, lg2⟩ := HLG.out n (by omega) (by omega)
                have LG1 : Hid _ := lg1
                have lg3 : (decide (mv2 > logN n)) = false := decide_eq_false (by omega)
                clear lg1 HLG HM2
                go_wp2_with fail
                refine Calls.mono LG1.out ?_
                rintro e w4 ⟨rfl, hw4⟩
                subst hw4
                clear LG1
                go_wp2_with fail
                exact ⟨⟨i + 1, rfl, hi, HG2⟩, by first | (simp [intOf]; done) | (simp [intOf]; omega)⟩
            · have hk3' : ¬ k < 3 := hk3
              go_wp2_with fail
              refine Calls.mono CPop.out ?_
              rintro e w2 ⟨⟨r, rfl⟩, nx⟩
              obtain ⟨N2, mv2, g0, l2, m2, lg, hN2, hG2⟩ := TAIL.out w2 nx
              have HL2 : Hid _ := l2
              have HM2 : Hid _ := m2
              have HLG : Hid _ := lg
              have HG2 : Hid (∃ L mv, GB w hp mb false L mv w2 ∧ few L mv ∧ L.length ≤ i + 1) := hG2
              clear l2 m2 lg hG2 nx TAIL CPut CTake CTurn CPop f0 f0H f3 f4
              go_wp2_with fail
              refine Calls.mono HL2.out ?_
              rintro e w3 ⟨rfl, hw3⟩
              subst hw3
              by_cases hgt : (N2 : Int) > (n : Int)
              · have hgt2 : (n : Int) < (N2 : Int) := hgt
                go_wp2_with fail
                refine Calls.mono HL2.out ?_
                rintro e w3 ⟨rfl, hw3⟩
                subst hw3
                clear HL2
                go_wp2_with fail
                exact ⟨⟨i + 1, rfl, hi, HG2⟩, by first | (simp [intOf]; done) | (simp [intOf]; omega)⟩
              · have hgt2 : ¬ (n : Int) < (N2 : Int) := hgt
                clear HL2
                go_wp2_with fail
                exact ⟨⟨i + 1, rfl, hi, HG2⟩, by first | (simp [intOf]; done) | (simp [intOf]; omega)⟩
    · obtain rfl : i = len := by omega
      have iI : ¬ (i : Int) < (i : Int) := Int.lt_irrefl _
      have C1 : Hid _ := CB.out wr hG.bl
      clear hG hfew hLi hi CB
      go_wp2_with fail
      refine Calls.mono C1.out ?_
      rintro e w2 ⟨hR, bb⟩
      have C2 : Hid _ := kL.out w2 bb
      clear C1 kL bb
      rcases hR with ⟨er, rfl⟩ | ⟨k, m, hm, rfl, CC0⟩
      · go_wp2_with fail
        refine Calls.mono C2.out ?_
        rintro e w3 ⟨rfl, b23, b3⟩
        have fin : Hid (Below w.heap.size w w3) := b3
        clear b3 b23 C2
        go_wp2_with fail
        go_ret
        exact ⟨rfl, fin.out⟩
      · have CC : Hid _ := CC0
        clear CC0
        go_wp2_with fail
        refine Calls.mono C2.out ?_
        rintro e w3 ⟨rfl, b23, b3⟩
        have fin : Hid (Below w.heap.size w w3) := b3
        obtain ⟨q1, q2⟩ := CC.out w3 b23
        have Q1 : Hid _ := q1
        have Q2 : Hid _ := q2
        have hm1 : (m : Int) ≤ (n2 : Int) := Int.ofNat_le.2 hm
        clear q1 q2 CC b3 b23 C2
        go_wp2_with fail
        refine Calls.mono Q1.out ?_
        rintro e w4 ⟨rfl, hw4⟩
        subst hw4
        clear Q1
        go_wp2_with fail
        refine Calls.mono Q2.out ?_
        rintro e w4 ⟨rfl, hw4⟩
        subst hw4
        clear Q2
        go_wp2_with fail
        go_ret
        exact ⟨rfl, fin.out⟩
end Go.Proofs.Ytocknajamoddfaa.Hp
