
import Derived.Test.YticgapplpfaigaaGreatSrV
namespace Go.Proofs.YticgapplpfaigaaGreat
open Go.RowKit
set_option linter.unusedVariables false
set_option linter.unusedSimpArgs false
/-- a zero sample in a block of its own. -/
structure Z3 (H : Nat) (w : World) : Prop where
  c0 : w.cell? ⟨H, 0, none⟩ = some (.int .i64 0)
  c1 : w.cell? ⟨H, 1, none⟩ = some (.int .u8 0)
  c2 : w.cell? ⟨H, 2, none⟩ = some (.int .i64 0)
  f0 : w.frozen? ⟨H, 0, none⟩ = false
  f1 : w.frozen? ⟨H, 1, none⟩ = false
  f2 : w.frozen? ⟨H, 2, none⟩ = false
  sz : H < w.heap.size
theorem Z3.new (w : World) (ty : TypeId) : Z3 w.heap.size (w.alloc (.cells #[.int .i64 0, .int .u8 0, .int .i64 0] ty)) :=
  ⟨by simp [go_sem], by simp [go_sem], by simp [go_sem], frozen_new _ _ _ _, frozen_new _ _ _ _, frozen_new _ _ _ _, by simp⟩
theorem Z3.below {H : Nat} {w w' : World} (h : Z3 H w) (hB : Below w.heap.size w w') : Z3 H w' :=
  ⟨by rw [hB.cell (p := ⟨H, 0, none⟩) h.sz]; exact h.c0, by rw [hB.cell (p := ⟨H, 1, none⟩) h.sz]; exact h.c1, by rw [hB.cell (p := ⟨H, 2, none⟩) h.sz]; exact h.c2, by rw [frozen_block (hB.block H h.sz)]; exact h.f0, by rw [frozen_block (hB.block H h.sz)]; exact h.f1, by rw [frozen_block (hB.block H h.sz)]; exact h.f2, Nat.lt_of_lt_of_le h.sz hB.size⟩
theorem Z3.alloc {H : Nat} {w : World} (h : Z3 H w) (o : Obj) : Z3 H (w.alloc o) := h.below ((Below.refl _ _).alloc (Nat.le_refl _) _)
theorem cell_put {w : World} {p q : Addr} {u v : Value} (h : w.cell? p = some u) (hpq : q = p → v = u) : (w.setCell q v).cell? p = some u := by
  by_cases e : q = p
  · rw [hpq e, e]; exact World.cell?_setCell_same _ _ _ h
  · rw [World.cell?_setCell_other _ _ _ _ e]; exact h
theorem Z3.put {H G : Nat} {w : World} (h : Z3 H w) : Z3 H (((w.setCell ⟨G, 0, none⟩ (.int .i64 0)).setCell ⟨G, 1, none⟩ (.int .u8 0)).setCell ⟨G, 2, none⟩ (.int .i64 0)) := by
  refine ⟨?_, ?_, ?_, by simpa using h.f0, by simpa using h.f1, by simpa using h.f2, by simpa using h.sz⟩
  · exact cell_put (cell_put (cell_put h.c0 (fun _ => rfl)) (fun e => by simp at e)) (fun e => by simp at e)
  · exact cell_put (cell_put (cell_put h.c1 (fun e => by simp at e)) (fun _ => rfl)) (fun e => by simp at e)
  · exact cell_put (cell_put (cell_put h.c2 (fun e => by simp at e)) (fun e => by simp at e)) (fun _ => rfl)
/-- four of them, and all else as it was. -/
structure Z4 (H1 H2 H3 H4 : Nat) (w w' : World) : Prop where
  z1 : Z3 H1 w'
  z2 : Z3 H2 w'
  z3 : Z3 H3 w'
  z4 : Z3 H4 w'
  b : Below w.heap.size w w'
  h1 : w.heap.size ≤ H1
  h2 : w.heap.size ≤ H2
  h3 : w.heap.size ≤ H3
  h4 : w.heap.size ≤ H4
theorem Z4.below {H1 H2 H3 H4 : Nat} {w w' w'' : World} (h : Z4 H1 H2 H3 H4 w w') (hB : Below w'.heap.size w' w'') : Z4 H1 H2 H3 H4 w w'' :=
  ⟨h.z1.below hB, h.z2.below hB, h.z3.below hB, h.z4.below hB, h.b.trans (hB.mono h.b.size), h.h1, h.h2, h.h3, h.h4⟩
theorem Z4.put {H1 H2 H3 H4 G : Nat} {w w' : World} (h : Z4 H1 H2 H3 H4 w w') (hG : w.heap.size ≤ G) : Z4 H1 H2 H3 H4 w (((w'.setCell ⟨G, 0, none⟩ (.int .i64 0)).setCell ⟨G, 1, none⟩ (.int .u8 0)).setCell ⟨G, 2, none⟩ (.int .i64 0)) :=
  ⟨h.z1.put, h.z2.put, h.z3.put, h.z4.put, ((h.b.setCell (p := ⟨G, 0, none⟩) hG _).setCell (p := ⟨G, 1, none⟩) hG _).setCell (p := ⟨G, 2, none⟩) hG _, h.h1, h.h2, h.h3, h.h4⟩
set_option maxRecDepth 100000 in
set_option maxHeartbeats 4000000 in
theorem alike_nil (B : Nat) (v : Value) (tl : List Int) (w : World) (h : TO w B v tl) (hn : tl.length ≤ 13194139533316) : Calls Tryz.prog 16 #[.pointer none, .pointer none, v] w fun e w' => e = .returned (.bool true) ∧ Below w.heap.size w w' := by
  go_enter Tryz.func16, Tryz.ntmps16
  go_wp2_with fail
  refine Calls.mono (ns_first _) ?_
  rintro e w1 ⟨rfl, hB1⟩
  have a1 := Z3.new w1 89
  go_wp2_with fail
  refine Calls.mono (nr_first _) ?_
  rintro e w2 ⟨rfl, hB2⟩
  have a2 := a1.below hB2
  have hB02 := hB1.trans ((alloc_below hB2).mono hB1.size)
  have b2 := Z3.new w2 89
  have hs1 := hB1.size
  have hs2 := hB02.size
  clear a1 hB1 hB2
  go_wp2_with fail
  refine Calls.mono (ns_last _) ?_
  rintro e w3 ⟨rfl, hB3⟩
  have a3 := (a2.alloc _).below hB3
  have b3 := b2.below hB3
  have hB03 := hB02.trans ((alloc_below hB3).mono hB02.size)
  have c3 := Z3.new w3 89
  have hs3 := hB03.size
  clear a2 b2 hB3 hB02
  go_wp2_with fail
  refine Calls.mono (nr_last _) ?_
  rintro e w4 ⟨rfl, hB4⟩
  have a4 := (a3.alloc _).below hB4
  have b4 := (b3.alloc _).below hB4
  have c4 := c3.below hB4
  have hB04 := hB03.trans ((alloc_below hB4).mono hB03.size)
  have d4 := Z3.new w4 89
  have hs4 := hB04.size
  clear a3 b3 c3 hB4 hB03
  go_wp2_with fail
  refine Calls.mono (ns_len _) ?_
  rintro e w5 ⟨rfl, hB5⟩
  have a5 := (a4.alloc _).below hB5
  have b5 := (b4.alloc _).below hB5
  have c5 := (c4.alloc _).below hB5
  have d5 := d4.below hB5
  have hB05 := hB04.trans ((alloc_below hB5).mono hB04.size)
  clear a4 b4 c4 d4 hB5 hB04
  go_wp2_with fail
  refine Calls.mono (nr_len _) ?_
  rintro e w6 ⟨rfl, hB6⟩
  have a6 := a5.below hB6
  have b6 := b5.below hB6
  have c6 := c5.below hB6
  have d6 := d5.below hB6
  have hB06 := hB05.trans (hB6.mono hB05.size)
  clear a5 b5 c5 d5 hB6 hB05
  obtain ⟨va, vc, rfl, hvc, hvt⟩ : ∃ va vc, v = .slice va tl.length vc ∧ tl.length ≤ vc ∧ (tl.length = 0 ∨ ∃ b, va = some ⟨b, 0, none⟩ ∧ b < w.heap.size ∧ ∀ i x, tl[i]? = some x → w.cell? ⟨b, i, none⟩ = some (.int .i64 x)) := by
    rcases h.2 with ⟨e, e0⟩ | ⟨g, cap, cur, e1, _, hg, hc, _⟩
    · exact ⟨none, 0, by rw [e, e0], by omega, Or.inl e0⟩
    · refine ⟨some ⟨g, 0, none⟩, cap, e1, hc, Or.inr ⟨g, rfl, (World.ownsRow.lt h g (by rw [e1]; rfl)).2, fun i x hx => ?_⟩⟩
      have := World.ownsRow.cells h (g := g) (by rw [e1]; rfl) i (.int .i64 x) (by unfold encT; rw [List.getElem?_map, hx]; rfl)
      rw [smp_add, Nat.zero_add] at this; exact this
  have hvtH : Hid _ := hvt
  have hlen : Hid (∀ i, i < tl.length → ∃ x, tl[i]? = some x) := fun i hi => ⟨_, List.getElem?_eq_getElem hi⟩
  clear h hvt
  generalize tl.length = n at *
  generalize w1.heap.size = H1 at *
  generalize w2.heap.size = H2 at *
  generalize w3.heap.size = H3 at *
  generalize w4.heap.size = H4 at *
  have hZ6 : Hid (Z4 H1 H2 H3 H4 w w6) := ⟨a6, b6, c6, d6, hB06, hs1, hs2, hs3, hs4⟩
  obtain ⟨a0, a1, a2, a3, a4, a5, a7⟩ := id a6
  obtain ⟨b0, b1, b2, b3, b4, b5, b7⟩ := id b6
  obtain ⟨c0, c1, c2, c3, c4, c5, c7⟩ := id c6
  obtain ⟨d0, d1, d2, d3, d4, d5, d7⟩ := id d6
  go_wp2_with fail
  clear a0 a1 a2 a3 a4 a5 a6 a7 b0 b1 b2 b3 b4 b5 b6 b7 c0 c1 c2 c3 c4 c5 c6 c7 d0 d1 d2 d3 d4 d5 d6 d7 hB06
  go_loopw [8, 10, 12, 14, 15] (fun f g h i k wr => f = .bool false ∧ g = .bool false ∧ h = .bool false ∧ i = .bool false ∧ ∃ q : Nat, q ≤ n ∧ k = .int .i64 (q : Int) ∧ Hid (Z4 H1 H2 H3 H4 w wr)) (fun _ _ _ _ k _ => n - (intOf k).toNat)
  case atStart => exact ⟨rfl, rfl, rfl, rfl, 0, by omega, rfl, hZ6.out⟩
  case round =>
    obtain ⟨rfl, rfl, rfl, rfl, q, hq, rfl, hZ⟩ := hrel
    clear hZ6
    by_cases hqn : q < n
    · have hqI : (q : Int) < (n : Int) := by omega
      have q0 : (0 : Int) ≤ (q : Int) := by omega
      obtain ⟨x, hx⟩ := hlen.out q hqn
      obtain ⟨tb, rfl, htb, hcc⟩ : ∃ b, va = some ⟨b, 0, none⟩ ∧ b < w.heap.size ∧ ∀ i x, tl[i]? = some x → w.cell? ⟨b, i, none⟩ = some (.int .i64 x) := by
        rcases hvtH.out with h0 | h1
        · omega
        · exact h1
      have t1 := (hZ.out.b.cell (p := ⟨tb, q, none⟩) htb).trans (hcc q x hx)
      clear hx
      go_wp2_with fail
      refine Calls.mono (ns_get _ _) ?_
      rintro e w7 ⟨rfl, hB7⟩
      have hZ7 : Hid (Z4 H1 H2 H3 H4 w w7) := Z4.below hZ.out hB7
      clear t1 hB7
      go_wp2_with fail
      refine Calls.mono (nr_get _ _) ?_
      rintro e w8 ⟨rfl, hB8⟩
      obtain ⟨r0, r1, _, _, hz⟩ := res_cells hB8
      have hZ8 : Hid (Z4 H1 H2 H3 H4 w w8) := Z4.below hZ7.out (alloc_below hB8)
      clear hB8 hZ7
      have hZ8' : Hid (Z4 H1 H2 H3 H4 w (w8.alloc (.cells #[.int .u8 0, .int .i64 0] 61))) := Z4.below hZ8.out ((Below.refl _ _).alloc (Nat.le_refl _) _)
      go_wp2_with fail
      refine Calls.mono (ns_before _ _) ?_
      rintro e w9 ⟨rfl, hB9⟩
      have hZ9 : Hid (Z4 H1 H2 H3 H4 w w9) := Z4.below hZ8'.out hB9
      obtain ⟨a0, a1, a2, a3, a4, a5, a7⟩ := hZ9.out.z1
      clear hB9 hZ8' hZ8 r0 r1
      go_wp2_with fail
      refine Calls.mono (nr_before _ _) ?_
      rintro e w10 ⟨rfl, hB10⟩
      have hZ10 : Hid (Z4 H1 H2 H3 H4 w w10) := Z4.below (Z4.put (G := H1) hZ9.out hZ9.out.h1) hB10
      obtain ⟨b0, b1, b2, b3, b4, b5, b7⟩ := hZ10.out.z2
      clear hB10 hZ9 a0 a1 a2 a3 a4 a5 a7
      go_wp2_with fail
      refine Calls.mono (ns_behind _ _) ?_
      rintro e w11 ⟨rfl, hB11⟩
      have hZ11 : Hid (Z4 H1 H2 H3 H4 w w11) := Z4.below (Z4.put (G := H2) hZ10.out hZ10.out.h2) hB11
      obtain ⟨c0, c1, c2, c3, c4, c5, c7⟩ := hZ11.out.z3
      clear hB11 hZ10 b0 b1 b2 b3 b4 b5 b7
      go_wp2_with fail
      refine Calls.mono (nr_behind _ _) ?_
      rintro e w12 ⟨rfl, hB12⟩
      have hZ12 : Hid (Z4 H1 H2 H3 H4 w w12) := Z4.below (Z4.put (G := H3) hZ11.out hZ11.out.h3) hB12
      obtain ⟨d0, d1, d2, d3, d4, d5, d7⟩ := hZ12.out.z4
      clear hB12 hZ11 c0 c1 c2 c3 c4 c5 c7
      have hZ13 : Hid (Z4 H1 H2 H3 H4 w (((w12.setCell ⟨H4, 0, none⟩ (.int .i64 0)).setCell ⟨H4, 1, none⟩ (.int .u8 0)).setCell ⟨H4, 2, none⟩ (.int .i64 0))) := Z4.put (G := H4) hZ12.out hZ12.out.h4
      obtain ⟨a0, a1, a2, a3, a4, a5, a7⟩ := hZ13.out.z1
      obtain ⟨b0, b1, b2, b3, b4, b5, b7⟩ := hZ13.out.z2
      obtain ⟨c0, c1, c2, c3, c4, c5, c7⟩ := hZ13.out.z3
      obtain ⟨e0, e1, e2, e3, e4, e5, e7⟩ := hZ13.out.z4
      generalize hW13 : ((w12.setCell ⟨H4, 0, none⟩ (.int .i64 0)).setCell ⟨H4, 1, none⟩ (.int .u8 0)).setCell ⟨H4, 2, none⟩ (.int .i64 0) = w13 at *
      go_wp2_with (rw [hW13])
      clear a0 a1 a2 a3 a4 a5 a7 b0 b1 b2 b3 b4 b5 b7 c0 c1 c2 c3 c4 c5 c7 d0 d1 d2 d3 d4 d5 d7 e0 e1 e2 e3 e4 e5 e7 hZ12
      go_loopw [21] (fun nn wx => ∃ m : Nat, m ≤ n ∧ nn = .int .i64 (m : Int) ∧ Hid (Z4 H1 H2 H3 H4 w wx)) (fun nn _ => n - (intOf nn).toNat)
      case atStart => exact ⟨0, by omega, rfl, (by first | exact hZ13.out | (rw [hW13]; exact hZ13.out))⟩
      case round =>
        obtain ⟨m, hm, rfl, hZm⟩ := hrel
        by_cases hmn : m < n
        · have hmI : (m : Int) < (n : Int) := by omega
          have m0 : (0 : Int) ≤ (m : Int) := by omega
          obtain ⟨y, hy⟩ := hlen.out m hmn
          have t1 := (hZm.out.b.cell (p := ⟨tb, m, none⟩) htb).trans (hcc m y hy)
          clear hy
          have hS : ∀ W w', (W.cell? ⟨tb, m, none⟩ = some (.int .i64 y) ∧ Z4 H1 H2 H3 H4 w W) → Below W.heap.size W w' → (w'.cell? ⟨tb, m, none⟩ = some (.int .i64 y) ∧ Z4 H1 H2 H3 H4 w w') := fun W w' h hb => ⟨(hb.cell (p := ⟨tb, m, none⟩) (Nat.lt_of_lt_of_le htb h.2.b.size)).trans h.1, Z4.below h.2 hb⟩
          have k1 : Hid (∀ W, (W.cell? ⟨tb, m, none⟩ = some (.int .i64 y) ∧ Z4 H1 H2 H3 H4 w W) → Calls Tryz.prog 14 #[.pointer none, .int .i64 x, .int .i64 y] W fun e w' => e = .returned (.slice none 0 0) ∧ (w'.cell? ⟨tb, m, none⟩ = some (.int .i64 y) ∧ Z4 H1 H2 H3 H4 w w')) := fun W hW => Calls.mono (ns_range x y W) (by rintro e w' ⟨rfl, hb⟩; exact ⟨rfl, hS _ _ hW hb⟩)
          have k2 : Hid (∀ W, (W.cell? ⟨tb, m, none⟩ = some (.int .i64 y) ∧ Z4 H1 H2 H3 H4 w W) → Calls Tryz.prog 23 #[.pointer none, .int .i64 x, .int .i64 y] W fun e w' => e = .returned (.slice none 0 0) ∧ (w'.cell? ⟨tb, m, none⟩ = some (.int .i64 y) ∧ Z4 H1 H2 H3 H4 w w')) := fun W hW => Calls.mono (nr_range x y W) (by rintro e w' ⟨rfl, hb⟩; exact ⟨rfl, hS _ _ hW hb⟩)
          have k3 : Hid (∀ W, (W.cell? ⟨tb, m, none⟩ = some (.int .i64 y) ∧ Z4 H1 H2 H3 H4 w W) → Calls Tryz.prog 35 #[.slice none 0 0, .slice none 0 0] W fun e w' => e = .returned (.bool true) ∧ (w'.cell? ⟨tb, m, none⟩ = some (.int .i64 y) ∧ Z4 H1 H2 H3 H4 w w')) := fun W hW => Calls.mono (sameS_nil W) (by rintro e w' ⟨rfl, hb⟩; exact ⟨rfl, hS _ _ hW hb⟩)
          have S0 := And.intro t1 hZm.out
          have S1 := hS _ _ S0 ((Below.refl _ _).drew)
          clear hS hZm t1 hcc
          go_wp2_with fail
          go_region_held3 (fun w' => w'.cell? ⟨tb, m, none⟩ = some (.int .i64 y) ∧ Z4 H1 H2 H3 H4 w w') (first | assumption)
            (first
              | (go_at_call 14; (with_reducible refine Calls.mono (k1.out _ (by assumption)) ?_); rintro e w14 ⟨rfl, S2⟩)
              | (go_at_call 23; (with_reducible refine Calls.mono (k2.out _ (by assumption)) ?_); rintro e w15 ⟨rfl, S3⟩)
              | (go_at_call 35; (with_reducible refine Calls.mono (k3.out _ (by assumption)) ?_); rintro e w16 ⟨rfl, S4⟩))
          all_goals
            go_wp2_with fail
            go_roundw
            case rel => exact ⟨m + 1, by omega, by go_num, S4.2⟩
            case measure => simp [intOf]; omega
        · obtain rfl : m = n := by omega
          go_wp2_with fail
          go_roundw
          case rel => exact ⟨rfl, rfl, rfl, rfl, q + 1, by omega, by go_num, hZm.out⟩
          case measure => simp [intOf]; omega
    · obtain rfl : q = n := by omega
      go_wp2_with fail
      go_ret
      exact ⟨rfl, hZ.out.b⟩
end Go.Proofs.YticgapplpfaigaaGreat
