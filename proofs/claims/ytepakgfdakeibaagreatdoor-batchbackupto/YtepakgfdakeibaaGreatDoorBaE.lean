
import Derived.Test.YtepakgfdakeibaaGreatDoorBaD
namespace Go.Proofs.YtepakgfdakeibaaGreatDoor.So
open Go.RowKit
set_option linter.unusedVariables false
set_option linter.unusedSimpArgs false
theorem nodup_leB : ∀ (a b : List Nat), a.Nodup → (∀ x ∈ a, x ∈ b) → a.length ≤ b.length
  | [], b, _, _ => Nat.zero_le _
  | x :: r, b, h, hs => by
    obtain ⟨h1, h2⟩ := List.nodup_cons.1 h
    have hx := hs x List.mem_cons_self
    have := nodup_leB r (b.erase x) h2 fun y hy => (List.mem_erase_of_ne (fun e => h1 (by rw [← e]; exact hy))).2 (hs y (List.mem_cons_of_mem _ hy))
    rw [List.length_erase_of_mem hx] at this
    have hp : 0 < b.length := List.length_pos_of_mem hx
    rw [List.length_cons]; omega
theorem So1.few {ah : Nat → Nat → Bool} {n m : Nat} {h : Nat → Pc} {out : List Nat} (o : AO ah n) (s : So1 ah n m h out) : out.length ≤ n := by
  have := nodup_leB out (List.range n) (by
    rw [List.nodup_iff_pairwise_ne]
    refine (List.Pairwise.and_mem.1 s.ord).imp ?_
    rintro x y ⟨hx, hy, hxy⟩ e
    subst e
    rw [o.irr x ((s.all x).2 (Or.inl hx))] at hxy
    cases hxy) (fun x hx => List.mem_range.2 ((s.all x).2 (Or.inl hx)))
  simpa using this
theorem make_zero (n : Nat) (h : n ≤ 1099511627776) (w : World) : (Instr.makeSlice 78 (.int .i64 0) (.int .i64 (n : Int))).run Tryz.prog w = .ok (.slice (some ⟨w.heap.size, 0, none⟩) 0 n) (w.alloc (.cells (madeCells #[.int .i64 0] n) 3)) := by
  obtain ⟨i, i1, i0⟩ := Option.map_eq_some_iff.1 int_info
  have i2 : i.zero = some (.int .i64 0) := congrArg (·.1) i0
  have i3 : i.bytes = 8 := congrArg (·.2.1) i0
  have i4 : i.size = 1 := congrArg (·.2.2) i0
  have := run_make (P := Tryz.prog) w 78 3 i (.int .i64 0) Tryz.underlying78 i1 i2 .i64 .i64 0 (n : Int) (by omega) (by omega) (by rw [i3]; omega) (by omega)
  rw [i4] at this
  simpa [Value.cells] using this
def inV (l : List Nat) : List Value := l.map fun (p : Nat) => Value.int .i64 (p : Int)
theorem inV_more (l : List Nat) (p : Nat) : inV (l ++ [p]) = inV l ++ [Value.int .i64 (p : Int)] := by simp [inV]
theorem inV_len (l : List Nat) : (inV l).length = l.length := by simp [inV]
/-- a row is kept where its block is not touched. -/
theorem OH.ob {w w' : World} {e : TypeId} {B hb : Nat} {v : Value} {l : List Value} (h : OH w e B v l) (hO : OB hb w w') (hB : hb < B) : OH w' e B v l := by
  refine ⟨h.1, ?_⟩
  rcases h.2 with h2 | ⟨g, cap, cur, e1, e2, e3, e4⟩
  · exact Or.inl h2
  · exact Or.inr ⟨g, cap, cur, e1, e2, by rw [hO.keep g (Array.getElem?_eq_some_iff.1 e3).1 (by omega)]; exact e3, e4⟩
theorem HR.belowC {w w' : World} {hb m b0 n C : Nat} {h : Nat → Pc} (r : HR w hb m b0 n h) (hB : Below C w w') (hC : hb < C) : HR w' hb m b0 n h := ⟨Nat.lt_of_lt_of_le r.1 hB.size, fun i hi => by
  rw [hB.cell (p := ⟨hb, i, none⟩) hC, hB.frozen (p := ⟨hb, i, none⟩) hC]; exact r.2 i hi⟩
/-- what stands while the first of all is taken off. -/
structure TK1 (w0 : World) (b0 n hb Bo : Nat) (ah : Nat → Nat → Bool) (m : Nat) (g : Nat → Pc) (v : Value) (out : List Nat) (wr : World) : Prop where
  s : So1 ah n m g out
  hp : HP (hl ah) 0 m g
  hr : HR wr hb m b0 n g
  row : OH wr 3 Bo v (inV out)
  bl : Below w0.heap.size w0 wr
  sz : Bo ≤ wr.heap.size
/-- while the heap is made: from j on it stands. -/
structure BL1 (w0 : World) (b0 n hb m : Nat) (ah : Nat → Nat → Bool) (j : Nat) (g : Nat → Pc) (wr : World) : Prop where
  s : So1 ah n m g []
  hp : HP (hl ah) j m g
  hr : HR wr hb m b0 n g
  bl : Below w0.heap.size w0 wr
theorem OH.hr {w : World} {B hb m c b0 n : Nat} {h : Nat → Pc} (r : OH w 78 B (.slice (some ⟨hb, 0, none⟩) m c) (plV b0 n h m)) : HR w hb m b0 n h := by
  have hl : (plV b0 n h m).length = m := by simp [plV]
  unfold OH at r
  rw [hl] at r
  have hcs := World.ownsRow.cells r (g := hb) rfl
  refine ⟨(World.ownsRow.lt r hb rfl).2, fun i hi => ⟨?_, World.ownsRow.frozenAt r i⟩⟩
  have := hcs i (pV b0 n (h i)) (by simp [plV, hi])
  rw [addB, Nat.zero_add] at this
  exact this
/-- what sorted tells. -/
def SrtR (w w' : World) (ah : Nat → Nat → Bool) (n : Nat) (e : Ending) : Prop := ∃ (out : List Nat) (g c : Nat), e = .returned (.slice (some ⟨g, 0, none⟩) out.length c) ∧ Sorted1 ah n out ∧ g < w'.heap.size ∧ (∀ (i p : Nat), out[i]? = some p → w'.cell? ⟨g, i, none⟩ = some (.int .i64 (p : Int))) ∧ Below w.heap.size w w'
set_option maxRecDepth 100000 in
set_option maxHeartbeats 8000000 in
theorem sorted_any (w : World) (b0 n P1 : Nat) (ah : Nat → Nat → Bool) (o : AO ah n) (hA : AhA w 40 #[.pointer (some ⟨P1, 0, none⟩)] n ah) (hw : PW w b0 n) (hn : n ≤ 1099511627770) :
    Calls Tryz.prog 39 #[.slice (some ⟨b0, 0, none⟩) n n, .func (.func 40) #[] #[.pointer (some ⟨P1, 0, none⟩)]] w fun e w' => SrtR w w' ah n e := by
  obtain ⟨w0, hw0⟩ : ∃ w0, w0 = w.alloc (.cells #[.func (.func 40) #[] #[.pointer (some ⟨P1, 0, none⟩)]] 80) := ⟨_, rfl⟩
  obtain ⟨P2, hP2⟩ : ∃ P2, P2 = w.heap.size := ⟨_, rfl⟩
  have B0 : Below w.heap.size w w0 := by rw [hw0]; exact (Below.refl _ w).alloc (Nat.le_refl _) _
  have s0 : w0.heap.size = P2 + 1 := by rw [hw0, hP2]; simp
  have c0 : w0.cell? ⟨P2, 0, none⟩ = some (.func (.func 40) #[] #[.pointer (some ⟨P1, 0, none⟩)]) := by rw [hw0, hP2]; simp [go_sem]
  have hA0 : AhA w0 40 #[.pointer (some ⟨P1, 0, none⟩)] n ah := fun a b W h1 h2 h3 => hA a b W h1 h2 (B0.trans (h3.mono B0.size))
  have hw1 : PW w0 b0 n := hw.below B0
  have CP : Hid _ := pieces_any w0 b0 n P1 ah hA0 hw1 hn
  have hFH : Hid (FiA w0 b0 n P2 ah) := fun p q W h1 h2 h3 h4 h5 => first_any w0 b0 n P1 P2 ah hA0 hw1 (by omega) c0 p q W h1 h2 h3 h4 (by omega) h5
  have hwH : Hid (PW w0 b0 n) := hw1
  have B0H : Hid (Below w.heap.size w w0) := B0
  have hmk := make_zero n (by omega)
  clear hA hA0 hw hw1 B0
  go_enter Tryz.func39, Tryz.ntmps39
  go_wp2_with fail
  rw [← hw0, ← hP2]
  clear hw0 c0 hP2 s0
  refine Calls.mono CP.out ?_
  rintro e w1 ⟨a, m, c, h, rfl, hC⟩
  clear CP
  rcases (hC.row.len).2 with m0 | ⟨hb, rfl, hb1, hb2⟩
  · subst m0
    have n0 : n = 0 := by
      rcases Nat.eq_zero_or_pos n with q | q
      · exact q
      · obtain ⟨i, hi, _⟩ := (hC.ct.upto 0).2 q
        omega
    subst n0
    have B1 : Hid (Below w.heap.size w w1) := B0H.out.trans (hC.bl.mono B0H.out.size)
    have hmk0 : ∀ w, (Instr.makeSlice 78 (.int .i64 0) (.int .i64 0)).run Tryz.prog w = .ok (.slice (some ⟨w.heap.size, 0, none⟩) 0 0) (w.alloc (.cells (madeCells #[.int .i64 0] 0) 3)) := fun w => by simpa using make_zero 0 (by omega) w
    clear hC hFH hwH B0H hmk
    go_wp2_with fail
    go_loopw [7] (fun v wr => v = .int .i64 (-1) ∧ wr = w1) (fun _ _ => 0)
    case atStart => exact ⟨rfl, rfl⟩
    case round =>
      obtain ⟨rfl, hwr⟩ := hrel
      subst hwr
      have fin : Hid (SrtR w (wr.alloc (.cells (madeCells #[.int .i64 0] 0) 3)) ah 0 (.returned (.slice (some ⟨wr.heap.size, 0, none⟩) 0 0))) := ⟨[], wr.heap.size, 0, rfl, ⟨List.Pairwise.nil, fun p => by simp⟩, by simp, fun i p hi => by simp at hi, B1.out.alloc B1.out.size _⟩
      clear B1
      go_wp2_with fail
      generalize wr.alloc (.cells (madeCells #[.int .i64 0] 0) 3) = w2 at fin ⊢
      generalize wr.heap.size = go at fin ⊢
      go_loopw [5, 8] (fun v5 v8 wx => v5 = .slice a 0 c ∧ v8 = .slice (some ⟨go, 0, none⟩) 0 0 ∧ wx = w2) (fun _ _ _ => 0)
      case atStart => exact ⟨rfl, rfl, rfl⟩
      case round =>
        obtain ⟨rfl, rfl, hwx⟩ := hrel
        subst hwx
        go_wp2_with fail
        go_ret
        exact fin.out
  · have hmc : m ≤ c := by
      have hl : (plV b0 n h m).length = m := by simp [plV]
      have r := hC.row
      unfold OH at r
      rw [hl] at r
      rcases r.2 with ⟨q, _⟩ | ⟨g', cap, cur, q, _, _, hc', _⟩
      · cases q
      · injection q with q1 q2 q3
        omega
    have S0 : Hid (BL1 w0 b0 n hb m ah m h w1) := ⟨hC.ct.start, HP.none m h, hC.row.hr, hC.bl⟩
    have mn : m ≤ n := hC.few
    have psm : Hid (w0.heap.size ≤ hb) := hb1
    have z1 : IntKind.i64.wrap ((m : Int) - 1) = (m : Int) - 1 := IntWalk.i64_in _ (by omega)
    clear hC
    go_wp2_with fail
    go_loopw [7] (fun v wr => ∃ (j : Nat) (R : Int) (g : Nat → Pc), v = .int .i64 R ∧ Hid (R = (j : Int) - 1) ∧ j ≤ m ∧ Hid (BL1 w0 b0 n hb m ah j g wr)) (fun v _ => (intOf v + 1).toNat)
    case atStart => exact ⟨m, (m : Int) - 1, h, rfl, rfl, Nat.le_refl _, S0⟩
    case round =>
      clear S0 z1
      obtain ⟨j, R, g, rfl, hR, hjm, hS⟩ := hrel
      by_cases hj : 0 ≤ R
      · obtain ⟨q, hq⟩ : ∃ q : Nat, R = (q : Int) := ⟨R.toNat, by omega⟩
        subst hq
        have hjq : j = q + 1 := by have := hR.out; omega
        subst hjq
        have hqI : (q : Int) ≥ 0 := by omega
        have qw : IntKind.i64.wrap ((q : Int) - 1) = (q : Int) - 1 := IntWalk.i64_in _ (by omega)
        have C : Hid _ := sink_any w0 b0 n P2 ah o hFH.out hb m c q q g wr hS.out.hr hS.out.bl psm.out hS.out.s.ps (HX.start hS.out.hp) (Nat.le_refl _) (by omega) (by omega)
        go_wp2_with fail
        refine Calls.mono C.out ?_
        rintro e w2 ⟨rfl, g', P2', H2, R2, O2⟩
        have S2 : Hid (BL1 w0 b0 n hb m ah q g' w2) := ⟨hS.out.s.pr P2', H2, R2, O2.into hS.out.bl psm.out hS.out.bl.size⟩
        clear C hS H2 R2 O2 P2'
        go_wp2_with fail
        exact ⟨⟨q, (q : Int) - 1, g', rfl, rfl, by omega, S2⟩, by simp [intOf] <;> omega⟩
      · have hjI : ¬ R ≥ 0 := by omega
        have hj0 : j = 0 := by have := hR.out; omega
        subst hj0
        obtain ⟨Bo, hBo⟩ : ∃ Bo, Bo = wr.heap.size := ⟨_, rfl⟩
        have T0 : Hid (TK1 w0 b0 n hb Bo ah m g (.slice (some ⟨Bo, 0, none⟩) 0 n) [] (wr.alloc (.cells (madeCells #[.int .i64 0] n) 3))) := by
          have bA : Below wr.heap.size wr (wr.alloc (.cells (madeCells #[.int .i64 0] n) 3)) := (Below.refl _ wr).alloc (Nat.le_refl _) _
          refine ⟨hS.out.s, hS.out.hp, hS.out.hr.below bA, ?_, hS.out.bl.trans (bA.mono hS.out.bl.size), by rw [hBo]; exact bA.size⟩
          have := World.ownsRow_made (e := 3) (size := 1) (base := wr.heap.size) wr (madeCells #[.int .i64 0] n) n (Nat.le_refl _) (by simp [maxLen]; omega) (by simp [madeCells])
          rw [← hBo] at this
          exact this
        have hbo : hb < Bo := by rw [hBo]; exact hS.out.hr.1
        have B0o : w0.heap.size ≤ Bo := by rw [hBo]; exact hS.out.bl.size
        clear hS hR
        go_wp2_with fail
        rw [← hBo]
        generalize wr.alloc (.cells (madeCells #[.int .i64 0] n) 3) = w3 at T0 ⊢
        clear hBo hmk
        go_loopw [5, 8] (fun v5 v8 wx => ∃ (k ch z go co : Nat) (g : Nat → Pc) (out : List Nat), v5 = .slice (some ⟨hb, 0, none⟩) k ch ∧ v8 = .slice (some ⟨go, 0, none⟩) z co ∧ k ≤ m ∧ k ≤ ch ∧ Hid (out.length = z ∧ TK1 w0 b0 n hb Bo ah k g (.slice (some ⟨go, 0, none⟩) z co) out wx)) (fun _ v8 _ => n - slLen v8)
        case atStart => exact ⟨m, c, 0, Bo, n, g, [], rfl, rfl, Nat.le_refl _, hmc, ⟨rfl, T0.out⟩⟩
        case round =>
          clear T0
          obtain ⟨k, ch, z, go, co, g, out, rfl, rfl, hkm, hkc, hT⟩ := hrel
          by_cases hk : 0 < k
          · have hkI : (k : Int) > 0 := by omega
            have hkJ : (0 : Int) < (k : Int) := by omega
            have T := hT.out.2
            have zl := hT.out.1
            have run0 := T.s.ps.run 0 hk
            have few := T.s.few o
            obtain ⟨s, e, hse⟩ : ∃ s e, g 0 = (s, e) := ⟨(g 0).1, (g 0).2, rfl⟩
            have a1 := (T.hr.2 0 hk).1
            have a2 := (T.hr.2 0 hk).2
            rw [hse] at run0 a1
            have s1 : s < e := run0.1.1
            have s2 : e ≤ n := run0.2
            have b1 : wr.cell? ⟨b0, s, none⟩ = some (.int .i64 (s : Int)) := by rw [T.bl.cell (p := ⟨b0, s, none⟩) hwH.out.1]; exact hwH.out.2 s (by omega)
            obtain ⟨go1, co1, w4, hr1, ho1, hb4⟩ := app1H 78 3 (.int .i64 0) 8 Tryz.underlying78 int_info rfl (by omega) (by omega) wr Bo (.slice (some ⟨go, 0, none⟩) z co) (inV out) T.row T.sz (.int .i64 (s : Int)) rfl (by rw [inV_len]; omega)
            rw [inV_len, zl] at hr1 ho1
            rw [← inV_more] at ho1
            have hrH : Hid (∀ W, W = wr.alloc (.cells #[.int .i64 (s : Int)] 3) → (Builtin.append_ #[78, 78] 78 #[.slice (some ⟨go, 0, none⟩) z co, .slice (some ⟨wr.heap.size, 0, none⟩) 1 1]).run Tryz.prog W = .ok (.slice (some ⟨go1, 0, none⟩) (z + 1) co1) w4) := fun W e => by subst e; exact hr1
            have R4 : HR w4 hb k b0 n g := T.hr.belowC hb4 hbo
            have Bl4 : Below w0.heap.size w0 w4 := T.bl.trans (hb4.mono B0o)
            have c1 := (R4.2 0 hk).1
            have c2 := (R4.2 0 hk).2
            rw [hse] at c1
            have sz4 : Bo ≤ w4.heap.size := Nat.le_trans T.sz hb4.size
            have hseH : Hid (g 0 = (s, e)) := hse
            have hcommon : Hid (HR w4 hb k b0 n g ∧ Below w0.heap.size w0 w4 ∧ Bo ≤ w4.heap.size ∧ OH w4 3 Bo (.slice (some ⟨go1, 0, none⟩) (z + 1) co1) (inV (out ++ [s]))) := ⟨R4, Bl4, sz4, ho1⟩
            have l1 : 0 < e - s := by omega
            have l1I : (0 : Int) < ((e - s : Nat) : Int) := by omega
            have lc : 1 ≤ n - s := by omega
            have lcI : (1 : Int) ≤ ((n - s : Nat) : Int) := by omega
            have tail : Hid (∀ (k' : Nat) (g' : Nat → Pc) (W : World) (ch' : Nat), So1 ah n k' g' (out ++ [s]) → HX (hl ah) 0 0 k' g' → HR W hb k' b0 n g' → OB hb w4 W → k' ≤ m → Calls Tryz.prog 70 #[.slice (some ⟨hb, 0, none⟩) k' ch', .int .i64 0, .func (.func 69) #[] #[.pointer (some ⟨P2, 0, none⟩)]] W fun e w' => e = .returned undef ∧ ∃ g2, TK1 w0 b0 n hb Bo ah k' g2 (.slice (some ⟨go1, 0, none⟩) (z + 1) co1) (out ++ [s]) w') := fun k' g' W ch' q1 q2 q3 q4 q5 => by
              have BW : Below w0.heap.size w0 W := q4.into Bl4 psm.out Bl4.size
              refine (sink_any w0 b0 n P2 ah o hFH.out hb k' ch' 0 0 g' W q3 BW psm.out q1.ps q2 (Nat.le_refl _) (Nat.zero_le _) (by omega)).mono fun e w' hh => ?_
              obtain ⟨rfl, g2, p1, p2, p3, p4⟩ := hh
              exact ⟨rfl, g2, q1.pr p1, p2, p3, (ho1.ob q4 hbo).ob p4 hbo, p4.into BW psm.out BW.size, Nat.le_trans sz4 (Nat.le_trans q4.size p4.size)⟩
            have TH : Hid (TK1 w0 b0 n hb Bo ah k g (.slice (some ⟨go, 0, none⟩) z co) out wr) := T
            have zn : z + 1 ≤ n := by
              have : s ∉ out := fun hx => by
                have := T.s.fore s s hx ⟨0, hk, by rw [hse]; exact Nat.le_refl _, by rw [hse]; exact s1⟩
                rw [o.irr s (by omega)] at this
                cases this
              have q := nodup_leB (s :: out) (List.range n) (List.nodup_cons.2 ⟨this, by
                rw [List.nodup_iff_pairwise_ne]
                refine (List.Pairwise.and_mem.1 T.s.ord).imp ?_
                rintro x y ⟨hx, hy, hxy⟩ e
                subst e
                rw [o.irr x ((T.s.all x).2 (Or.inl hx))] at hxy
                cases hxy⟩) (fun x hx => by
                  rcases List.mem_cons.1 hx with e | e
                  · rw [e]; exact List.mem_range.2 (by omega)
                  · exact List.mem_range.2 ((T.s.all x).2 (Or.inl e)))
              simp at q; omega
            clear T hT hr1 ho1 hb4 R4 Bl4 sz4 hse run0
            unfold pV at a1 c1
            simp only at a1 c1
            by_cases hl1 : s + 1 < e
            · have hlI : ((e - s : Nat) : Int) > 1 := by omega
              have hlJ : (1 : Int) < ((e - s : Nat) : Int) := by omega
              have ne1 : ¬ 1 = n - s := by omega
              have hpv : pV b0 n (s + 1, e) = .slice (some ⟨b0, s + 1, none⟩) (e - s - 1) (n - s - 1) := by unfold pV; simp only; rw [show e - (s + 1) = e - s - 1 by omega, show n - (s + 1) = n - s - 1 by omega]
              have C : Hid (Calls Tryz.prog 70 #[.slice (some ⟨hb, 0, none⟩) k ch, .int .i64 0, .func (.func 69) #[] #[.pointer (some ⟨P2, 0, none⟩)]] (w4.setCell ⟨hb, 0, none⟩ (.slice (some ⟨b0, s + 1, none⟩) (e - s - 1) (n - s - 1))) fun e w' => e = .returned undef ∧ ∃ g2, TK1 w0 b0 n hb Bo ah k g2 (.slice (some ⟨go1, 0, none⟩) (z + 1) co1) (out ++ [s]) w') := by
                have hs1 : So1 ah n k (fun i => if i = 0 then (s + 1, e) else g i) (out ++ [s]) := by
                  have := TH.out.s.more (g := fun i => if i = 0 then (s + 1, e) else g i) o TH.out.hp hk (by rw [hseH.out]; exact hl1) (by rw [hseH.out]; rfl) (fun i h1 h2 => by simp; omega)
                  rw [hseH.out] at this; exact this
                refine tail.out k _ _ ch hs1 (HX.top TH.out.hp k (Nat.le_refl _) (fun i h1 h2 => by simp; omega)) ?_ (OB.set _ _ _) hkm
                rw [← hpv]; exact hcommon.out.1.set hk (s + 1, e)
              clear tail TH hcommon hseH
              generalize e - s = le at *
              generalize n - s = lc' at *
              go_wp2_with (at_builtin; refine wpList_append_runB (by rfl) _ _ _ (by rfl) _ _ _ _ (by rfl) (by rfl) (hrH.out _ rfl) ?_)
              refine Calls.mono C.out ?_
              rintro e' w5 ⟨rfl, g2, T5⟩
              have T5H : Hid (TK1 w0 b0 n hb Bo ah k g2 (.slice (some ⟨go1, 0, none⟩) (z + 1) co1) (out ++ [s]) w5) := T5
              clear T5 C hrH a1 a2 b1 c1 c2
              go_wp2_with fail
              exact ⟨⟨k, ch, z + 1, go1, co1, g2, out ++ [s], rfl, rfl, hkm, hkc, ⟨by rw [List.length_append, zl]; rfl, T5H.out⟩⟩, by simp [slLen]; omega⟩
            · have hlI : ¬ ((e - s : Nat) : Int) > 1 := by omega
              have hlJ : ¬ (1 : Int) < ((e - s : Nat) : Int) := by omega
              obtain ⟨k', rfl⟩ : ∃ k', k = k' + 1 := ⟨k - 1, by omega⟩
              have kw : IntKind.i64.wrap ((k' : Int) + 1 - 1) = (k' : Int) := by rw [show (k' : Int) + 1 - 1 = (k' : Int) by omega]; exact IntWalk.i64_in _ (by omega)
              have kw2 : IntKind.i64.wrap (((k' + 1 : Nat) : Int) - 1) = (k' : Int) := by rw [show ((k' + 1 : Nat) : Int) - 1 = (k' : Int) by omega]; exact IntWalk.i64_in _ (by omega)
              have k0 : (0 : Int) ≤ (k' : Int) := by omega
              have k1 : (k' : Int) < (k' : Int) + 1 := by omega
              have k2 : (k' : Int) ≤ (ch : Int) := by omega
              obtain ⟨ax, lx, cx, hX⟩ : ∃ ax lx cx, pV b0 n (g k') = .slice ax lx cx := ⟨_, _, _, rfl⟩
              have d1 : w4.cell? ⟨hb, k', none⟩ = some (.slice ax lx cx) := by rw [← hX]; exact (hcommon.out.1.2 k' (by omega)).1
              have C : Hid (Calls Tryz.prog 70 #[.slice (some ⟨hb, 0, none⟩) k' ch, .int .i64 0, .func (.func 69) #[] #[.pointer (some ⟨P2, 0, none⟩)]] (w4.setCell ⟨hb, 0, none⟩ (.slice ax lx cx)) fun e w' => e = .returned undef ∧ ∃ g2, TK1 w0 b0 n hb Bo ah k' g2 (.slice (some ⟨go1, 0, none⟩) (z + 1) co1) (out ++ [s]) w') := by
                have hs1 : So1 ah n k' (fun i => if i = 0 then g k' else g i) (out ++ [s]) := by
                  have := TH.out.s.less (g := fun i => if i = 0 then g k' else g i) o TH.out.hp (by rw [hseH.out]; show e = s + 1; omega) (fun _ => rfl) (fun i h1 h2 => by simp; omega)
                  rw [hseH.out] at this; exact this
                refine tail.out k' _ _ ch hs1 (HX.top TH.out.hp k' (by omega) (fun i h1 h2 => by simp; omega)) ?_ (OB.set _ _ _) (by omega)
                rw [← hX]
                have := hcommon.out.1.set (k := 0) hk (g k')
                exact ⟨this.1, fun i hi => this.2 i (by omega)⟩
              clear tail TH hcommon hseH hX
              generalize e - s = le at *
              generalize n - s = lc' at *
              go_wp2_with (at_builtin; refine wpList_append_runB (by rfl) _ _ _ (by rfl) _ _ _ _ (by rfl) (by rfl) (hrH.out _ rfl) ?_)
              refine Calls.mono C.out ?_
              rintro e' w5 ⟨rfl, g2, T5⟩
              have T5H : Hid (TK1 w0 b0 n hb Bo ah k' g2 (.slice (some ⟨go1, 0, none⟩) (z + 1) co1) (out ++ [s]) w5) := T5
              clear T5 C hrH a1 a2 b1 c1 c2 d1
              go_wp2_with fail
              exact ⟨⟨k', ch, z + 1, go1, co1, g2, out ++ [s], rfl, rfl, by omega, by omega, ⟨by rw [List.length_append, zl]; rfl, T5H.out⟩⟩, by simp [slLen]; omega⟩
          · have hkI : ¬ (k : Int) > 0 := by omega
            have hkJ : ¬ (0 : Int) < (k : Int) := by omega
            obtain rfl : k = 0 := by omega
            have fin : Hid (SrtR w wr ah n (.returned (.slice (some ⟨go, 0, none⟩) z co))) := by
              obtain ⟨zl, T⟩ := hT.out
              have ro := T.row
              unfold OH at ro
              refine ⟨out, go, co, by rw [zl], T.s.done, (World.ownsRow.lt ro go rfl).2, fun i p hi => ?_, B0H.out.trans (T.bl.mono B0H.out.size)⟩
              have hcs := World.ownsRow.cells ro (g := go) rfl
              have := hcs i (.int .i64 (p : Int)) (by simp [inV, hi])
              rw [addB, Nat.zero_add] at this
              exact this
            clear hT
            go_wp2_with fail
            go_ret
            exact fin.out
end Go.Proofs.YtepakgfdakeibaaGreatDoor.So
