
import Derived.Test.YtbojljmacheccaaGreatDoorZz
import Derived.Test.YtbojljmacheccaaGreatDoorLaH
import Derived.Test.YtbojljmacheccaaGreatDoorLaA
import Derived.Test.YtbojljmacheccaaGreatDoorLaD
namespace Go.Proofs.YtbojljmacheccaaGreatDoor.Ln
open Go.RowKit Go.Shelf
attribute [local go_sem] Oper.semAt_some
set_option linter.unusedVariables false
set_option linter.unusedSimpArgs false
set_option maxRecDepth 100000
theorem pieceD_eq (l : By) (k : Nat) : pieceD unK l (k, none) = match uneT (l.drop k) with
    | .ok t n => if t = [] then ([], (k, some (k : Int))) else (t, (k + n, none))
    | .bad p => ([], (k, some ((k : Int) + p))) := by
  unfold pieceD
  rw [if_pos rfl]
  unfold pieceL unK
  dsimp only
  cases uneT (l.drop k) with
  | bad p => rfl
  | ok t n => dsimp only; by_cases ht : t = [] <;> simp [ht]
/-- the reader's three cells that a piece reads. -/
theorem RdE.cells {N : Nat} {s : ByteArray} {k : Nat} {W : World} (h : RdE N s (k, none) W) : W.cell? ⟨N, 0, none⟩ = some (.string s) ∧ W.cell? ⟨N, 1, none⟩ = some (.int .i64 (k : Int)) ∧ W.cell? ⟨N, 2, none⟩ = some (.int .i64 0) ∧ W.frozen? ⟨N, 1, none⟩ = false := ⟨h.2.1.1, h.2.1.2.1, h.2.1.2.2.1, h.2.2 1 (by omega)⟩
/-- a new Bad's cells. -/
abbrev BdC (K : Nat) (w : World) : Prop := w.cell? ⟨K, 0, none⟩ = some (.int .i64 0) ∧ w.cell? ⟨K, 1, none⟩ = some (.int .i64 0) ∧ w.cell? ⟨K, 2, none⟩ = some (.int .i64 0) ∧ w.cell? ⟨K, 3, none⟩ = some (.bool false) ∧ w.cell? ⟨K, 4, none⟩ = some (.bool false) ∧ w.frozen? ⟨K, 0, none⟩ = false ∧ w.frozen? ⟨K, 1, none⟩ = false ∧ w.frozen? ⟨K, 2, none⟩ = false ∧ w.frozen? ⟨K, 3, none⟩ = false ∧ w.frozen? ⟨K, 4, none⟩ = false
theorem bdC_new (W : World) : BdC W.heap.size (W.alloc (.cells #[.int .i64 0, .int .i64 0, .int .i64 0, .bool false, .bool false] 35)) := by
  refine ⟨?_, ?_, ?_, ?_, ?_, ?_, ?_, ?_, ?_, ?_⟩ <;> simp [go_sem]
theorem bdC_of {W w : World} (h : Below (W.alloc (.cells #[.int .i64 0, .int .i64 0, .int .i64 0, .bool false, .bool false] 35)).drew.heap.size (W.alloc (.cells #[.int .i64 0, .int .i64 0, .int .i64 0, .bool false, .bool false] 35)).drew w) : BdC W.heap.size w := by
  have e : w.heap[W.heap.size]? = some (.cells #[.int .i64 0, .int .i64 0, .int .i64 0, .bool false, .bool false] 35) := (h.block _ (by simp)).trans (World.alloc_heap_new W _)
  refine ⟨?_, ?_, ?_, ?_, ?_, ?_, ?_, ?_, ?_, ?_⟩ <;> simp [World.cell?, World.frozen?, e]
theorem set5_cells {w2 : World} {K : Nat} (x0 : w2.cell? ⟨K, 0, none⟩ = some (.int .i64 0)) (x1 : w2.cell? ⟨K, 1, none⟩ = some (.int .i64 0)) (x2 : w2.cell? ⟨K, 2, none⟩ = some (.int .i64 0)) (x3 : w2.cell? ⟨K, 3, none⟩ = some (.bool false)) (x4 : w2.cell? ⟨K, 4, none⟩ = some (.bool false)) (a b c d e : Value) :
    (((((w2.setCell ⟨K, 0, none⟩ (a)).setCell ⟨K, 1, none⟩ (b)).setCell ⟨K, 2, none⟩ (c)).setCell ⟨K, 3, none⟩ (d)).setCell ⟨K, 4, none⟩ (e)).cell? ⟨K, 0, none⟩ = some a ∧ (((((w2.setCell ⟨K, 0, none⟩ (a)).setCell ⟨K, 1, none⟩ (b)).setCell ⟨K, 2, none⟩ (c)).setCell ⟨K, 3, none⟩ (d)).setCell ⟨K, 4, none⟩ (e)).cell? ⟨K, 1, none⟩ = some b := by
  refine ⟨?_, ?_⟩ <;> simp [go_sem, x0, x1, x2, x3, x4]
set_option maxHeartbeats 8000000 in
theorem piece_r (N : Nat) (s : ByteArray) (st : DSt) (W : World) (h : RdE N s st W) (hst : st.1 ≤ s.size) (hs : s.size ≤ 1048576) : Calls Tryz.prog 123 #[.pointer (some ⟨N, 0, none⟩)] W fun e w' => e = .returned (.string (ba (pieceD unK s.data.toList st).1)) ∧ RdE N s (pieceD unK s.data.toList st).2 w' ∧ W.grownBy w' (some N) := by
  obtain ⟨k, fl⟩ := st
  dsimp only at hst
  have hh : Hid (RdE N s (k, fl) W) := h
  have h0 := h.1
  have hd1 : Hid (RdE N s (k, fl) W ∧ W.grownBy W (some N)) := ⟨hh.out, grown_refl _ _⟩
  cases fl with
  | some q =>
    have h3 : W.cell? ⟨N, 2, none⟩ = some (.int .i64 60) := h.2.1.2.2.1
    have e : pieceD unK s.data.toList (k, some q) = ([], (k, some q)) := rfl
    rw [e]
    clear h
    go_enter Tryz.func123, Tryz.ntmps123
    go_wp2_with fail
    go_ret
    exact ⟨rfl, hd1.out⟩
  | none =>
    obtain ⟨c1, c2, c3, z1⟩ := h.cells
    have hkI : (k : Int) ≤ (s.size : Int) := by omega
    have k0 : (0 : Int) ≤ (k : Int) := by omega
    rw [pieceD_eq]
    have hlen := lenB s
    have hz : (s.extract k s.size).size ≤ s.size := by rw [Lib.size_eq, ex_list, List.length_drop, hlen]; omega
    have cU : ∀ W', Calls Tryz.prog 157 #[.string (s.extract k s.size)] W' fun e w' => e = .returned (outR (uneT (s.data.toList.drop k))) ∧ Below W'.heap.size W' w' := fun W' => by
      have := runescape_any (s.extract k s.size) W' (by omega)
      rw [ex_list] at this
      exact this
    clear h
    have keep : Hid (∀ w1, Below W.heap.size W w1 → RdE N s (k, none) w1) := fun w1 b => hh.out.below b h0
    have hcel : Hid (∀ w1, Below W.heap.size W w1 → w1.cell? ⟨N, 0, none⟩ = some (.string s) ∧ w1.cell? ⟨N, 1, none⟩ = some (.int .i64 (k : Int))) := fun w1 b => ⟨(keep.out _ b).cells.1, (keep.out _ b).cells.2.1⟩
    have hb0 : Hid (Below W.heap.size W W.drew) := (Below.refl _ W).drew
    have hb1 : Hid (Below W.heap.size W (W.alloc (.cells #[.int .i64 0, .int .i64 0, .int .i64 0, .bool false, .bool false] 35)).drew) := ((Below.refl _ W).alloc (Nat.le_refl _) _).drew
    cases hu : uneT (s.data.toList.drop k) with
    | bad p =>
      rw [hu] at cU
      have cUH : Hid (∀ W', Below W.heap.size W W' → Calls Tryz.prog 157 #[.string (s.extract k s.size)] W' fun e w' => e = .returned (.tuple #[.string ⟨#[]⟩, .int .i64 0, .agg #[.int .i64 53, .int .i64 p, .int .i64 0, .bool true, .bool false]]) ∧ Below W.heap.size W w' ∧ Below W'.heap.size W' w') := fun W' b => (cU W').mono fun e w' q => ⟨q.1, b.trans (q.2.mono b.size), q.2⟩
      have cUb : Hid (Calls Tryz.prog 157 #[.string (s.extract k s.size)] W.drew fun e w' => e = .returned (.tuple #[.string ⟨#[]⟩, .int .i64 0, .agg #[.int .i64 53, .int .i64 p, .int .i64 0, .bool true, .bool false]]) ∧ Below W.heap.size W w') := (cUH.out _ hb0.out).mono fun e w' q => ⟨q.1, q.2.1⟩
      have cUa : Hid (Calls Tryz.prog 157 #[.string (s.extract k s.size)] (W.alloc (.cells #[.int .i64 0, .int .i64 0, .int .i64 0, .bool false, .bool false] 35)).drew fun e w' => e = .returned (.tuple #[.string ⟨#[]⟩, .int .i64 0, .agg #[.int .i64 53, .int .i64 p, .int .i64 0, .bool true, .bool false]]) ∧ Below W.heap.size W w' ∧ BdC W.heap.size w') := (cUH.out _ hb1.out).mono fun e w' q => ⟨q.1, q.2.1, bdC_of q.2.2⟩
      have hp := uneT_bad hu
      rw [List.length_drop, hlen] at hp
      have wk : wrap64 ((k : Int) + p) = (k : Int) + p := IntWalk.wrap64_in _ (by omega)
      have wi : IntKind.i64.wrap ((k : Int) + p) = (k : Int) + p := IntWalk.i64_in _ (by omega)
      have cF : Hid (∀ w3, RdE N s (k, none) w3 → Calls Tryz.prog 127 #[.pointer (some ⟨N, 0, none⟩), .int .i64 ((k : Int) + p)] w3 fun e w' => e = .returned undef ∧ RdE N s (k, some ((k : Int) + p)) w' ∧ w3.grownBy w' (some N)) := fun w3 r => fail_r N s (k, none) _ w3 r
      clear hp
      clear cU hu hz hlen cUH
      have S0 : W.cell? ⟨N, 0, none⟩ = some (.string s) ∧ W.cell? ⟨N, 1, none⟩ = some (.int .i64 (k : Int)) := ⟨c1, c2⟩
      go_enter Tryz.func123, Tryz.ntmps123
      go_wp2_with fail
      refine wp_region_last (S := fun W0 => W0.cell? ⟨N, 0, none⟩ = some (.string s) ∧ W0.cell? ⟨N, 1, none⟩ = some (.int .i64 (k : Int))) 17 (by kernel_rfl) (by kernel_rfl) (by kernel_rfl) 17 rfl S0 (fun hHeld => ?_)
      refine zT 0 (v := ?_) rfl ?_ ?_
      rotate_left 1
      · (intro w0 hSw; (try dsimp only at hSw); obtain ⟨s1, s2⟩ := hSw; go_simp; try with_reducible rfl)
      (try simp only [z1, z2, z3]); (try simp only [Act.put, z4, z5, z6])
      refine zT 1 (v := ?_) rfl ?_ ?_
      rotate_left 1
      · (intro w0 hSw; (try dsimp only at hSw); obtain ⟨s1, s2⟩ := hSw; go_simp; try with_reducible rfl)
      (try simp only [z1, z2, z3]); (try simp only [Act.put, z4, z5, z6])
      refine zT 2 (v := ?_) rfl ?_ ?_
      rotate_left 1
      · (intro w0 hSw; (try dsimp only at hSw); obtain ⟨s1, s2⟩ := hSw; go_simp; try with_reducible rfl)
      (try simp only [z1, z2, z3]); (try simp only [Act.put, z4, z5, z6])
      refine zT 3 (v := ?_) rfl ?_ ?_
      rotate_left 1
      · (intro w0 hSw; (try dsimp only at hSw); obtain ⟨s1, s2⟩ := hSw; go_simp; try with_reducible rfl)
      (try simp only [z1, z2, z3]); (try simp only [Act.put, z4, z5, z6])
      refine zT 4 (v := ?_) rfl ?_ ?_
      rotate_left 1
      · (intro w0 hSw; (try dsimp only at hSw); obtain ⟨s1, s2⟩ := hSw; go_simp; try with_reducible rfl)
      (try simp only [z1, z2, z3]); (try simp only [Act.put, z4, z5, z6])
      refine zT 5 (v := ?_) rfl ?_ ?_
      rotate_left 1
      · (intro w0 hSw; (try dsimp only at hSw); obtain ⟨s1, s2⟩ := hSw; go_simp; try with_reducible rfl)
      (try simp only [z1, z2, z3]); (try simp only [Act.put, z4, z5, z6])
      refine zT 6 (v := ?_) rfl ?_ ?_
      rotate_left 1
      · (intro w0 hSw; (try dsimp only at hSw); obtain ⟨s1, s2⟩ := hSw; go_simp; try with_reducible rfl)
      (try simp only [z1, z2, z3]); (try simp only [Act.put, z4, z5, z6])
      refine zT 7 (v := ?_) rfl ?_ ?_
      rotate_left 1
      · (intro w0 hSw; (try dsimp only at hSw); obtain ⟨s1, s2⟩ := hSw; go_simp; try with_reducible rfl)
      (try simp only [z1, z2, z3]); (try simp only [Act.put, z4, z5, z6])
      refine zT 8 (v := ?_) rfl ?_ ?_
      rotate_left 1
      · (intro w0 hSw; (try dsimp only at hSw); obtain ⟨s1, s2⟩ := hSw; go_simp; try with_reducible rfl)
      (try simp only [z1, z2, z3]); (try simp only [Act.put, z4, z5, z6])
      refine wpAnyH_ready (rs := [9, 14]) (by kernel_rfl) (by simp) ?_
      refine AllReadyH.cons (o := _) rfl (fun K1 hK => ?_) ?_
      · go_simp
        go_at_call 157
        refine Calls.mono cUb.out ?_
        rintro e w1 ⟨rfl, B0⟩
        have S1 := hcel.out _ B0
        try dsimp only
        refine hK.out _ _ S1 (fun hHeld => ?_)
        clear hK K1
        (try simp only [z1, z2, z3]); (try simp only [Act.put, z4, z5, z6])
        refine zT 10 (v := ?_) rfl ?_ ?_
        rotate_left 1
        · (intro w0 hSw; (try dsimp only at hSw); obtain ⟨s1, s2⟩ := hSw; go_simp; try with_reducible rfl)
        (try simp only [z1, z2, z3]); (try simp only [Act.put, z4, z5, z6])
        refine zT 11 (v := ?_) rfl ?_ ?_
        rotate_left 1
        · (intro w0 hSw; (try dsimp only at hSw); obtain ⟨s1, s2⟩ := hSw; go_simp; try with_reducible rfl)
        (try simp only [z1, z2, z3]); (try simp only [Act.put, z4, z5, z6])
        refine zT 12 (v := ?_) rfl ?_ ?_
        rotate_left 1
        · (intro w0 hSw; (try dsimp only at hSw); obtain ⟨s1, s2⟩ := hSw; go_simp; try with_reducible rfl)
        (try simp only [z1, z2, z3]); (try simp only [Act.put, z4, z5, z6])
        refine zT 13 (v := ?_) rfl ?_ ?_
        rotate_left 1
        · (intro w0 hSw; (try dsimp only at hSw); obtain ⟨s1, s2⟩ := hSw; go_simp; try with_reducible rfl)
        (try simp only [z1, z2, z3]); (try simp only [Act.put, z4, z5, z6])
        refine wpAnyH_ready (rs := [14]) (by kernel_rfl) (by simp) ?_
        refine AllReadyH.cons (o := _) rfl (fun K1 hK => ?_) AllReadyH.nil
        go_simp
        try dsimp only
        have B2 : Below W.heap.size W (w1.alloc (.cells #[.int .i64 0, .int .i64 0, .int .i64 0, .bool false, .bool false] 35)) := B0.alloc B0.size _
        have S2 := hcel.out _ B2
        refine hK.out _ _ S2 (fun hHeld => ?_)
        clear hK K1
        (try simp only [z1, z2, z3]); (try simp only [Act.put, z4, z5, z6])
        refine zT 15 (v := ?_) rfl ?_ ?_
        rotate_left 1
        · (intro w0 hSw; (try dsimp only at hSw); obtain ⟨s1, s2⟩ := hSw; go_simp; try with_reducible rfl)
        (try simp only [z1, z2, z3]); (try simp only [Act.put, z4, z5, z6])
        refine zT 16 (v := ?_) rfl ?_ ?_
        rotate_left 1
        · (intro w0 hSw; (try dsimp only at hSw); obtain ⟨s1, s2⟩ := hSw; go_simp; try with_reducible rfl)
        (try simp only [z1, z2, z3]); (try simp only [Act.put, z4, z5, z6])
        have C2 : BdC w1.heap.size (w1.alloc (.cells #[.int .i64 0, .int .i64 0, .int .i64 0, .bool false, .bool false] 35)) := bdC_new w1
        have hK1 : W.heap.size ≤ w1.heap.size := B0.size
        generalize w1.heap.size = K at *
        generalize w1.alloc (.cells #[.int .i64 0, .int .i64 0, .int .i64 0, .bool false, .bool false] 35) = w2 at *
        obtain ⟨x0, x1, x2, x3, x4, y0, y1, y2, y3, y4⟩ := C2
        refine wpAnyH_done (by kernel_rfl) ?_ _
        refine lastQ_run (o := _) rfl (fun K1 hK => ?_)
        go_simp
        try dsimp only
        refine hK.out _ _ ?_
        clear hK K1
        (try simp only [z1, z2, z3]); (try simp only [Act.put, z4, z5, z6])
        have B3 : Below W.heap.size W (((((w2.setCell ⟨K, 0, none⟩ (.int .i64 53)).setCell ⟨K, 1, none⟩ (.int .i64 p)).setCell ⟨K, 2, none⟩ (.int .i64 0)).setCell ⟨K, 3, none⟩ (.bool true)).setCell ⟨K, 4, none⟩ (.bool false)) := ((((B2.setCell (p := ⟨K, 0, none⟩) hK1 _).setCell (p := ⟨K, 1, none⟩) hK1 _).setCell (p := ⟨K, 2, none⟩) hK1 _).setCell (p := ⟨K, 3, none⟩) hK1 _).setCell (p := ⟨K, 4, none⟩) hK1 _
        obtain ⟨u0, u1⟩ := set5_cells x0 x1 x2 x3 x4 (.int .i64 53) (.int .i64 p) (.int .i64 0) (.bool true) (.bool false)
        generalize (((((w2.setCell ⟨K, 0, none⟩ (.int .i64 53)).setCell ⟨K, 1, none⟩ (.int .i64 p)).setCell ⟨K, 2, none⟩ (.int .i64 0)).setCell ⟨K, 3, none⟩ (.bool true)).setCell ⟨K, 4, none⟩ (.bool false)) = w3 at *
        have R3 := keep.out _ B3
        have R3H : Hid (RdE N s (k, none) w3) := R3
        have B3H : Hid (Below W.heap.size W w3) := B3
        obtain ⟨q0, q1, q2, z3⟩ := R3.cells
        clear x0 x1 x2 x3 x4 y0 y1 y2 y3 y4 B2 S2 B3 R3 hHeld
        go_wp2_with fail
        refine wp_region_noPanic ?_
        have hKN : K ≠ N := by omega
        refine wp_region_held_drew (S := fun W0 => W0.cell? ⟨N, 1, none⟩ = some (.int .i64 (k : Int)) ∧ W0.cell? ⟨K, 1, none⟩ = some (.int .i64 p)) (by kernel_rfl) ⟨q1, u1⟩ (fun hHeld => ?_)
        refine zT 0 (v := ?_) rfl ?_ ?_
        rotate_left 1
        · (intro w0 hSw; (try dsimp only at hSw); obtain ⟨s1, s2⟩ := hSw; go_simp; try with_reducible rfl)
        (try simp only [z1, z2, z3]); (try simp only [Act.put, z4, z5, z6])
        refine zT 1 (v := ?_) rfl ?_ ?_
        rotate_left 1
        · (intro w0 hSw; (try dsimp only at hSw); obtain ⟨s1, s2⟩ := hSw; go_simp; try with_reducible rfl)
        (try simp only [z1, z2, z3]); (try simp only [Act.put, z4, z5, z6])
        refine zT 2 (v := ?_) rfl ?_ ?_
        rotate_left 1
        · (intro w0 hSw; (try dsimp only at hSw); obtain ⟨s1, s2⟩ := hSw; go_simp; try with_reducible rfl)
        (try simp only [z1, z2, z3]); (try simp only [Act.put, z4, z5, z6])
        refine zT 3 (v := ?_) rfl ?_ ?_
        rotate_left 1
        · (intro w0 hSw; (try dsimp only at hSw); obtain ⟨s1, s2⟩ := hSw; go_simp; try with_reducible rfl)
        (try simp only [z1, z2, z3]); (try simp only [Act.put, z4, z5, z6])
        refine zT 4 (v := ?_) rfl ?_ ?_
        rotate_left 1
        · (intro w0 hSw; (try dsimp only at hSw); obtain ⟨s1, s2⟩ := hSw; go_simp; try with_reducible rfl)
        (try simp only [z1, z2, z3]); (try simp only [Act.put, z4, z5, z6])
        refine zT 5 (v := ?_) rfl ?_ ?_
        rotate_left 1
        · (intro w0 hSw; (try dsimp only at hSw); obtain ⟨s1, s2⟩ := hSw; go_simp; try with_reducible rfl)
        (try simp only [z1, z2, z3]); (try simp only [Act.put, z4, z5, z6])
        refine zT 6 (v := ?_) rfl ?_ ?_
        rotate_left 1
        · (intro w0 hSw; (try dsimp only at hSw); obtain ⟨s1, s2⟩ := hSw; go_simp; try with_reducible rfl)
        (try simp only [z1, z2, z3]); (try simp only [Act.put, z4, z5, z6])
        refine zT 7 (v := ?_) rfl ?_ ?_
        rotate_left 1
        · (intro w0 hSw; (try dsimp only at hSw); obtain ⟨s1, s2⟩ := hSw; go_simp; try with_reducible rfl)
        (try simp only [z1, z2, z3]); (try simp only [Act.put, z4, z5, z6])
        refine wpAnyH_ready (rs := [8]) (by kernel_rfl) (by simp) ?_
        refine AllReadyH.cons (o := _) rfl (fun K1 hK => ?_) AllReadyH.nil
        go_simp
        go_at_call 127
        refine Calls.mono (cF.out w3.drew (R3H.out.below (Below.refl _ w3).drew R3H.out.1)) ?_
        rintro e w4 ⟨rfl, R4, G4⟩
        have S4 : w4.cell? ⟨N, 1, none⟩ = some (.int .i64 (k : Int)) ∧ w4.cell? ⟨K, 1, none⟩ = some (.int .i64 p) := ⟨R4.2.1.2.1, (grown_cellL G4 (p := ⟨K, 1, none⟩) (World.block_lt_of_cell? w3 ⟨K, 1, none⟩ u1) hKN).trans u1⟩
        have FH : Hid (RdE N s (k, some ((k : Int) + p)) w4 ∧ W.grownBy w4 (some N)) := ⟨R4, grown_trans (grown_of_below N B3H.out.drew) G4⟩
        clear R4 G4
        try dsimp only
        refine hK _ _ S4 (fun hHeld => ?_)
        clear hK K1
        (try simp only [z1, z2, z3]); (try simp only [Act.put, z4, z5, z6])
        refine wpAnyH_done (by kernel_rfl) ?_ _
        refine NoPanic.normal ?_
        go_wp2_with fail
        go_ret
        exact ⟨rfl, FH.out⟩
      · refine AllReadyH.cons (o := _) rfl (fun K1 hK => ?_) AllReadyH.nil
        go_simp
        try dsimp only
        refine hK.out _ _ (hcel.out _ hb1.out) (fun hHeld => ?_)
        clear hK K1
        (try simp only [z1, z2, z3]); (try simp only [Act.put, z4, z5, z6])
        refine wpAnyH_ready (rs := [9]) (by kernel_rfl) (by simp) ?_
        refine AllReadyH.cons (o := _) rfl (fun K1 hK => ?_) AllReadyH.nil
        go_simp
        go_at_call 157
        refine Calls.mono cUa.out ?_
        rintro e w2 ⟨rfl, B2, C2⟩
        have S2 := hcel.out _ B2
        try dsimp only
        refine hK.out _ _ S2 (fun hHeld => ?_)
        clear hK K1
        (try simp only [z1, z2, z3]); (try simp only [Act.put, z4, z5, z6])
        refine zT 10 (v := ?_) rfl ?_ ?_
        rotate_left 1
        · (intro w0 hSw; (try dsimp only at hSw); obtain ⟨s1, s2⟩ := hSw; go_simp; try with_reducible rfl)
        (try simp only [z1, z2, z3]); (try simp only [Act.put, z4, z5, z6])
        refine zT 11 (v := ?_) rfl ?_ ?_
        rotate_left 1
        · (intro w0 hSw; (try dsimp only at hSw); obtain ⟨s1, s2⟩ := hSw; go_simp; try with_reducible rfl)
        (try simp only [z1, z2, z3]); (try simp only [Act.put, z4, z5, z6])
        refine zT 12 (v := ?_) rfl ?_ ?_
        rotate_left 1
        · (intro w0 hSw; (try dsimp only at hSw); obtain ⟨s1, s2⟩ := hSw; go_simp; try with_reducible rfl)
        (try simp only [z1, z2, z3]); (try simp only [Act.put, z4, z5, z6])
        refine zT 13 (v := ?_) rfl ?_ ?_
        rotate_left 1
        · (intro w0 hSw; (try dsimp only at hSw); obtain ⟨s1, s2⟩ := hSw; go_simp; try with_reducible rfl)
        (try simp only [z1, z2, z3]); (try simp only [Act.put, z4, z5, z6])
        refine zT 15 (v := ?_) rfl ?_ ?_
        rotate_left 1
        · (intro w0 hSw; (try dsimp only at hSw); obtain ⟨s1, s2⟩ := hSw; go_simp; try with_reducible rfl)
        (try simp only [z1, z2, z3]); (try simp only [Act.put, z4, z5, z6])
        refine zT 16 (v := ?_) rfl ?_ ?_
        rotate_left 1
        · (intro w0 hSw; (try dsimp only at hSw); obtain ⟨s1, s2⟩ := hSw; go_simp; try with_reducible rfl)
        (try simp only [z1, z2, z3]); (try simp only [Act.put, z4, z5, z6])
        obtain ⟨K, hKe⟩ : ∃ K, W.heap.size = K := ⟨_, rfl⟩
        have hK1 : W.heap.size ≤ K := by omega
        rw [hKe] at C2 ⊢
        obtain ⟨x0, x1, x2, x3, x4, y0, y1, y2, y3, y4⟩ := C2
        refine wpAnyH_done (by kernel_rfl) ?_ _
        refine lastQ_run (o := _) rfl (fun K1 hK => ?_)
        go_simp
        try dsimp only
        refine hK.out _ _ ?_
        clear hK K1
        (try simp only [z1, z2, z3]); (try simp only [Act.put, z4, z5, z6])
        have B3 : Below W.heap.size W (((((w2.setCell ⟨K, 0, none⟩ (.int .i64 53)).setCell ⟨K, 1, none⟩ (.int .i64 p)).setCell ⟨K, 2, none⟩ (.int .i64 0)).setCell ⟨K, 3, none⟩ (.bool true)).setCell ⟨K, 4, none⟩ (.bool false)) := ((((B2.setCell (p := ⟨K, 0, none⟩) hK1 _).setCell (p := ⟨K, 1, none⟩) hK1 _).setCell (p := ⟨K, 2, none⟩) hK1 _).setCell (p := ⟨K, 3, none⟩) hK1 _).setCell (p := ⟨K, 4, none⟩) hK1 _
        obtain ⟨u0, u1⟩ := set5_cells x0 x1 x2 x3 x4 (.int .i64 53) (.int .i64 p) (.int .i64 0) (.bool true) (.bool false)
        generalize (((((w2.setCell ⟨K, 0, none⟩ (.int .i64 53)).setCell ⟨K, 1, none⟩ (.int .i64 p)).setCell ⟨K, 2, none⟩ (.int .i64 0)).setCell ⟨K, 3, none⟩ (.bool true)).setCell ⟨K, 4, none⟩ (.bool false)) = w3 at *
        have R3 := keep.out _ B3
        have R3H : Hid (RdE N s (k, none) w3) := R3
        have B3H : Hid (Below W.heap.size W w3) := B3
        obtain ⟨q0, q1, q2, z3⟩ := R3.cells
        clear x0 x1 x2 x3 x4 y0 y1 y2 y3 y4 B2 S2 B3 R3 hHeld
        go_wp2_with fail
        refine wp_region_noPanic ?_
        have hKN : K ≠ N := by omega
        refine wp_region_held_drew (S := fun W0 => W0.cell? ⟨N, 1, none⟩ = some (.int .i64 (k : Int)) ∧ W0.cell? ⟨K, 1, none⟩ = some (.int .i64 p)) (by kernel_rfl) ⟨q1, u1⟩ (fun hHeld => ?_)
        refine zT 0 (v := ?_) rfl ?_ ?_
        rotate_left 1
        · (intro w0 hSw; (try dsimp only at hSw); obtain ⟨s1, s2⟩ := hSw; go_simp; try with_reducible rfl)
        (try simp only [z1, z2, z3]); (try simp only [Act.put, z4, z5, z6])
        refine zT 1 (v := ?_) rfl ?_ ?_
        rotate_left 1
        · (intro w0 hSw; (try dsimp only at hSw); obtain ⟨s1, s2⟩ := hSw; go_simp; try with_reducible rfl)
        (try simp only [z1, z2, z3]); (try simp only [Act.put, z4, z5, z6])
        refine zT 2 (v := ?_) rfl ?_ ?_
        rotate_left 1
        · (intro w0 hSw; (try dsimp only at hSw); obtain ⟨s1, s2⟩ := hSw; go_simp; try with_reducible rfl)
        (try simp only [z1, z2, z3]); (try simp only [Act.put, z4, z5, z6])
        refine zT 3 (v := ?_) rfl ?_ ?_
        rotate_left 1
        · (intro w0 hSw; (try dsimp only at hSw); obtain ⟨s1, s2⟩ := hSw; go_simp; try with_reducible rfl)
        (try simp only [z1, z2, z3]); (try simp only [Act.put, z4, z5, z6])
        refine zT 4 (v := ?_) rfl ?_ ?_
        rotate_left 1
        · (intro w0 hSw; (try dsimp only at hSw); obtain ⟨s1, s2⟩ := hSw; go_simp; try with_reducible rfl)
        (try simp only [z1, z2, z3]); (try simp only [Act.put, z4, z5, z6])
        refine zT 5 (v := ?_) rfl ?_ ?_
        rotate_left 1
        · (intro w0 hSw; (try dsimp only at hSw); obtain ⟨s1, s2⟩ := hSw; go_simp; try with_reducible rfl)
        (try simp only [z1, z2, z3]); (try simp only [Act.put, z4, z5, z6])
        refine zT 6 (v := ?_) rfl ?_ ?_
        rotate_left 1
        · (intro w0 hSw; (try dsimp only at hSw); obtain ⟨s1, s2⟩ := hSw; go_simp; try with_reducible rfl)
        (try simp only [z1, z2, z3]); (try simp only [Act.put, z4, z5, z6])
        refine zT 7 (v := ?_) rfl ?_ ?_
        rotate_left 1
        · (intro w0 hSw; (try dsimp only at hSw); obtain ⟨s1, s2⟩ := hSw; go_simp; try with_reducible rfl)
        (try simp only [z1, z2, z3]); (try simp only [Act.put, z4, z5, z6])
        refine wpAnyH_ready (rs := [8]) (by kernel_rfl) (by simp) ?_
        refine AllReadyH.cons (o := _) rfl (fun K1 hK => ?_) AllReadyH.nil
        go_simp
        go_at_call 127
        refine Calls.mono (cF.out w3.drew (R3H.out.below (Below.refl _ w3).drew R3H.out.1)) ?_
        rintro e w4 ⟨rfl, R4, G4⟩
        have S4 : w4.cell? ⟨N, 1, none⟩ = some (.int .i64 (k : Int)) ∧ w4.cell? ⟨K, 1, none⟩ = some (.int .i64 p) := ⟨R4.2.1.2.1, (grown_cellL G4 (p := ⟨K, 1, none⟩) (World.block_lt_of_cell? w3 ⟨K, 1, none⟩ u1) hKN).trans u1⟩
        have FH : Hid (RdE N s (k, some ((k : Int) + p)) w4 ∧ W.grownBy w4 (some N)) := ⟨R4, grown_trans (grown_of_below N B3H.out.drew) G4⟩
        clear R4 G4
        try dsimp only
        refine hK _ _ S4 (fun hHeld => ?_)
        clear hK K1
        (try simp only [z1, z2, z3]); (try simp only [Act.put, z4, z5, z6])
        refine wpAnyH_done (by kernel_rfl) ?_ _
        refine NoPanic.normal ?_
        go_wp2_with fail
        go_ret
        exact ⟨rfl, FH.out⟩
    | ok t n =>
      rw [hu] at cU
      dsimp only
      by_cases ht : t = []
      · subst ht
        rw [if_pos rfl]
        have cUH : Hid (∀ W', Below W.heap.size W W' → Calls Tryz.prog 157 #[.string (s.extract k s.size)] W' fun e w' => e = .returned (.tuple #[.string ⟨#[]⟩, .int .i64 (n : Int), .agg #[.int .i64 0, .int .i64 0, .int .i64 0, .bool false, .bool false]]) ∧ Below W.heap.size W w' ∧ Below W'.heap.size W' w') := fun W' b => (cU W').mono fun e w' q => ⟨q.1, b.trans (q.2.mono b.size), q.2⟩
        have cUb : Hid (Calls Tryz.prog 157 #[.string (s.extract k s.size)] W.drew fun e w' => e = .returned (.tuple #[.string ⟨#[]⟩, .int .i64 (n : Int), .agg #[.int .i64 0, .int .i64 0, .int .i64 0, .bool false, .bool false]]) ∧ Below W.heap.size W w') := (cUH.out _ hb0.out).mono fun e w' q => ⟨q.1, q.2.1⟩
        have cUa : Hid (Calls Tryz.prog 157 #[.string (s.extract k s.size)] (W.alloc (.cells #[.int .i64 0, .int .i64 0, .int .i64 0, .bool false, .bool false] 35)).drew fun e w' => e = .returned (.tuple #[.string ⟨#[]⟩, .int .i64 (n : Int), .agg #[.int .i64 0, .int .i64 0, .int .i64 0, .bool false, .bool false]]) ∧ Below W.heap.size W w' ∧ BdC W.heap.size w') := (cUH.out _ hb1.out).mono fun e w' q => ⟨q.1, q.2.1, bdC_of q.2.2⟩
        have cF : Hid (∀ w3, RdE N s (k, none) w3 → Calls Tryz.prog 127 #[.pointer (some ⟨N, 0, none⟩), .int .i64 (k : Int)] w3 fun e w' => e = .returned undef ∧ RdE N s (k, some (k : Int)) w' ∧ w3.grownBy w' (some N)) := fun w3 r => fail_r N s (k, none) _ w3 r
        clear cU hu hz hlen cUH
        have S0 : W.cell? ⟨N, 0, none⟩ = some (.string s) ∧ W.cell? ⟨N, 1, none⟩ = some (.int .i64 (k : Int)) := ⟨c1, c2⟩
        go_enter Tryz.func123, Tryz.ntmps123
        go_wp2_with fail
        refine wp_region_last (S := fun W0 => W0.cell? ⟨N, 0, none⟩ = some (.string s) ∧ W0.cell? ⟨N, 1, none⟩ = some (.int .i64 (k : Int))) 17 (by kernel_rfl) (by kernel_rfl) (by kernel_rfl) 17 rfl S0 (fun hHeld => ?_)
        refine zT 0 (v := ?_) rfl ?_ ?_
        rotate_left 1
        · (intro w0 hSw; (try dsimp only at hSw); obtain ⟨s1, s2⟩ := hSw; go_simp; try with_reducible rfl)
        (try simp only [z1, z2, z3]); (try simp only [Act.put, z4, z5, z6])
        refine zT 1 (v := ?_) rfl ?_ ?_
        rotate_left 1
        · (intro w0 hSw; (try dsimp only at hSw); obtain ⟨s1, s2⟩ := hSw; go_simp; try with_reducible rfl)
        (try simp only [z1, z2, z3]); (try simp only [Act.put, z4, z5, z6])
        refine zT 2 (v := ?_) rfl ?_ ?_
        rotate_left 1
        · (intro w0 hSw; (try dsimp only at hSw); obtain ⟨s1, s2⟩ := hSw; go_simp; try with_reducible rfl)
        (try simp only [z1, z2, z3]); (try simp only [Act.put, z4, z5, z6])
        refine zT 3 (v := ?_) rfl ?_ ?_
        rotate_left 1
        · (intro w0 hSw; (try dsimp only at hSw); obtain ⟨s1, s2⟩ := hSw; go_simp; try with_reducible rfl)
        (try simp only [z1, z2, z3]); (try simp only [Act.put, z4, z5, z6])
        refine zT 4 (v := ?_) rfl ?_ ?_
        rotate_left 1
        · (intro w0 hSw; (try dsimp only at hSw); obtain ⟨s1, s2⟩ := hSw; go_simp; try with_reducible rfl)
        (try simp only [z1, z2, z3]); (try simp only [Act.put, z4, z5, z6])
        refine zT 5 (v := ?_) rfl ?_ ?_
        rotate_left 1
        · (intro w0 hSw; (try dsimp only at hSw); obtain ⟨s1, s2⟩ := hSw; go_simp; try with_reducible rfl)
        (try simp only [z1, z2, z3]); (try simp only [Act.put, z4, z5, z6])
        refine zT 6 (v := ?_) rfl ?_ ?_
        rotate_left 1
        · (intro w0 hSw; (try dsimp only at hSw); obtain ⟨s1, s2⟩ := hSw; go_simp; try with_reducible rfl)
        (try simp only [z1, z2, z3]); (try simp only [Act.put, z4, z5, z6])
        refine zT 7 (v := ?_) rfl ?_ ?_
        rotate_left 1
        · (intro w0 hSw; (try dsimp only at hSw); obtain ⟨s1, s2⟩ := hSw; go_simp; try with_reducible rfl)
        (try simp only [z1, z2, z3]); (try simp only [Act.put, z4, z5, z6])
        refine zT 8 (v := ?_) rfl ?_ ?_
        rotate_left 1
        · (intro w0 hSw; (try dsimp only at hSw); obtain ⟨s1, s2⟩ := hSw; go_simp; try with_reducible rfl)
        (try simp only [z1, z2, z3]); (try simp only [Act.put, z4, z5, z6])
        refine wpAnyH_ready (rs := [9, 14]) (by kernel_rfl) (by simp) ?_
        refine AllReadyH.cons (o := _) rfl (fun K1 hK => ?_) ?_
        · go_simp
          go_at_call 157
          refine Calls.mono cUb.out ?_
          rintro e w1 ⟨rfl, B0⟩
          have S1 := hcel.out _ B0
          try dsimp only
          refine hK.out _ _ S1 (fun hHeld => ?_)
          clear hK K1
          (try simp only [z1, z2, z3]); (try simp only [Act.put, z4, z5, z6])
          refine zT 10 (v := ?_) rfl ?_ ?_
          rotate_left 1
          · (intro w0 hSw; (try dsimp only at hSw); obtain ⟨s1, s2⟩ := hSw; go_simp; try with_reducible rfl)
          (try simp only [z1, z2, z3]); (try simp only [Act.put, z4, z5, z6])
          refine zT 11 (v := ?_) rfl ?_ ?_
          rotate_left 1
          · (intro w0 hSw; (try dsimp only at hSw); obtain ⟨s1, s2⟩ := hSw; go_simp; try with_reducible rfl)
          (try simp only [z1, z2, z3]); (try simp only [Act.put, z4, z5, z6])
          refine zT 12 (v := ?_) rfl ?_ ?_
          rotate_left 1
          · (intro w0 hSw; (try dsimp only at hSw); obtain ⟨s1, s2⟩ := hSw; go_simp; try with_reducible rfl)
          (try simp only [z1, z2, z3]); (try simp only [Act.put, z4, z5, z6])
          refine zT 13 (v := ?_) rfl ?_ ?_
          rotate_left 1
          · (intro w0 hSw; (try dsimp only at hSw); obtain ⟨s1, s2⟩ := hSw; go_simp; try with_reducible rfl)
          (try simp only [z1, z2, z3]); (try simp only [Act.put, z4, z5, z6])
          refine wpAnyH_ready (rs := [14]) (by kernel_rfl) (by simp) ?_
          refine AllReadyH.cons (o := _) rfl (fun K1 hK => ?_) AllReadyH.nil
          go_simp
          try dsimp only
          have B2 : Below W.heap.size W (w1.alloc (.cells #[.int .i64 0, .int .i64 0, .int .i64 0, .bool false, .bool false] 35)) := B0.alloc B0.size _
          have S2 := hcel.out _ B2
          refine hK.out _ _ S2 (fun hHeld => ?_)
          clear hK K1
          (try simp only [z1, z2, z3]); (try simp only [Act.put, z4, z5, z6])
          refine zT 15 (v := ?_) rfl ?_ ?_
          rotate_left 1
          · (intro w0 hSw; (try dsimp only at hSw); obtain ⟨s1, s2⟩ := hSw; go_simp; try with_reducible rfl)
          (try simp only [z1, z2, z3]); (try simp only [Act.put, z4, z5, z6])
          refine zT 16 (v := ?_) rfl ?_ ?_
          rotate_left 1
          · (intro w0 hSw; (try dsimp only at hSw); obtain ⟨s1, s2⟩ := hSw; go_simp; try with_reducible rfl)
          (try simp only [z1, z2, z3]); (try simp only [Act.put, z4, z5, z6])
          have C2 : BdC w1.heap.size (w1.alloc (.cells #[.int .i64 0, .int .i64 0, .int .i64 0, .bool false, .bool false] 35)) := bdC_new w1
          have hK1 : W.heap.size ≤ w1.heap.size := B0.size
          generalize w1.heap.size = K at *
          generalize w1.alloc (.cells #[.int .i64 0, .int .i64 0, .int .i64 0, .bool false, .bool false] 35) = w2 at *
          obtain ⟨x0, x1, x2, x3, x4, y0, y1, y2, y3, y4⟩ := C2
          refine wpAnyH_done (by kernel_rfl) ?_ _
          refine lastQ_run (o := _) rfl (fun K1 hK => ?_)
          go_simp
          try dsimp only
          refine hK.out _ _ ?_
          clear hK K1
          (try simp only [z1, z2, z3]); (try simp only [Act.put, z4, z5, z6])
          have B3 : Below W.heap.size W (((((w2.setCell ⟨K, 0, none⟩ (.int .i64 0)).setCell ⟨K, 1, none⟩ (.int .i64 0)).setCell ⟨K, 2, none⟩ (.int .i64 0)).setCell ⟨K, 3, none⟩ (.bool false)).setCell ⟨K, 4, none⟩ (.bool false)) := ((((B2.setCell (p := ⟨K, 0, none⟩) hK1 _).setCell (p := ⟨K, 1, none⟩) hK1 _).setCell (p := ⟨K, 2, none⟩) hK1 _).setCell (p := ⟨K, 3, none⟩) hK1 _).setCell (p := ⟨K, 4, none⟩) hK1 _
          obtain ⟨u0, u1⟩ := set5_cells x0 x1 x2 x3 x4 (.int .i64 0) (.int .i64 0) (.int .i64 0) (.bool false) (.bool false)
          generalize (((((w2.setCell ⟨K, 0, none⟩ (.int .i64 0)).setCell ⟨K, 1, none⟩ (.int .i64 0)).setCell ⟨K, 2, none⟩ (.int .i64 0)).setCell ⟨K, 3, none⟩ (.bool false)).setCell ⟨K, 4, none⟩ (.bool false)) = w3 at *
          have R3 := keep.out _ B3
          have R3H : Hid (RdE N s (k, none) w3) := R3
          have B3H : Hid (Below W.heap.size W w3) := B3
          obtain ⟨q0, q1, q2, z3⟩ := R3.cells
          clear x0 x1 x2 x3 x4 y0 y1 y2 y3 y4 B2 S2 B3 R3 hHeld
          go_wp2_with fail
          refine Calls.mono (cF.out w3 R3H.out) ?_
          rintro e w4 ⟨rfl, R4, G4⟩
          have FH : Hid (RdE N s (k, some (k : Int)) w4 ∧ W.grownBy w4 (some N)) := ⟨R4, grown_trans (grown_of_below N B3H.out) G4⟩
          clear R4 G4
          go_wp2_with fail
          go_ret
          exact ⟨rfl, FH.out⟩
        · refine AllReadyH.cons (o := _) rfl (fun K1 hK => ?_) AllReadyH.nil
          go_simp
          try dsimp only
          refine hK.out _ _ (hcel.out _ hb1.out) (fun hHeld => ?_)
          clear hK K1
          (try simp only [z1, z2, z3]); (try simp only [Act.put, z4, z5, z6])
          refine wpAnyH_ready (rs := [9]) (by kernel_rfl) (by simp) ?_
          refine AllReadyH.cons (o := _) rfl (fun K1 hK => ?_) AllReadyH.nil
          go_simp
          go_at_call 157
          refine Calls.mono cUa.out ?_
          rintro e w2 ⟨rfl, B2, C2⟩
          have S2 := hcel.out _ B2
          try dsimp only
          refine hK.out _ _ S2 (fun hHeld => ?_)
          clear hK K1
          (try simp only [z1, z2, z3]); (try simp only [Act.put, z4, z5, z6])
          refine zT 10 (v := ?_) rfl ?_ ?_
          rotate_left 1
          · (intro w0 hSw; (try dsimp only at hSw); obtain ⟨s1, s2⟩ := hSw; go_simp; try with_reducible rfl)
          (try simp only [z1, z2, z3]); (try simp only [Act.put, z4, z5, z6])
          refine zT 11 (v := ?_) rfl ?_ ?_
          rotate_left 1
          · (intro w0 hSw; (try dsimp only at hSw); obtain ⟨s1, s2⟩ := hSw; go_simp; try with_reducible rfl)
          (try simp only [z1, z2, z3]); (try simp only [Act.put, z4, z5, z6])
          refine zT 12 (v := ?_) rfl ?_ ?_
          rotate_left 1
          · (intro w0 hSw; (try dsimp only at hSw); obtain ⟨s1, s2⟩ := hSw; go_simp; try with_reducible rfl)
          (try simp only [z1, z2, z3]); (try simp only [Act.put, z4, z5, z6])
          refine zT 13 (v := ?_) rfl ?_ ?_
          rotate_left 1
          · (intro w0 hSw; (try dsimp only at hSw); obtain ⟨s1, s2⟩ := hSw; go_simp; try with_reducible rfl)
          (try simp only [z1, z2, z3]); (try simp only [Act.put, z4, z5, z6])
          refine zT 15 (v := ?_) rfl ?_ ?_
          rotate_left 1
          · (intro w0 hSw; (try dsimp only at hSw); obtain ⟨s1, s2⟩ := hSw; go_simp; try with_reducible rfl)
          (try simp only [z1, z2, z3]); (try simp only [Act.put, z4, z5, z6])
          refine zT 16 (v := ?_) rfl ?_ ?_
          rotate_left 1
          · (intro w0 hSw; (try dsimp only at hSw); obtain ⟨s1, s2⟩ := hSw; go_simp; try with_reducible rfl)
          (try simp only [z1, z2, z3]); (try simp only [Act.put, z4, z5, z6])
          obtain ⟨K, hKe⟩ : ∃ K, W.heap.size = K := ⟨_, rfl⟩
          have hK1 : W.heap.size ≤ K := by omega
          rw [hKe] at C2 ⊢
          obtain ⟨x0, x1, x2, x3, x4, y0, y1, y2, y3, y4⟩ := C2
          refine wpAnyH_done (by kernel_rfl) ?_ _
          refine lastQ_run (o := _) rfl (fun K1 hK => ?_)
          go_simp
          try dsimp only
          refine hK.out _ _ ?_
          clear hK K1
          (try simp only [z1, z2, z3]); (try simp only [Act.put, z4, z5, z6])
          have B3 : Below W.heap.size W (((((w2.setCell ⟨K, 0, none⟩ (.int .i64 0)).setCell ⟨K, 1, none⟩ (.int .i64 0)).setCell ⟨K, 2, none⟩ (.int .i64 0)).setCell ⟨K, 3, none⟩ (.bool false)).setCell ⟨K, 4, none⟩ (.bool false)) := ((((B2.setCell (p := ⟨K, 0, none⟩) hK1 _).setCell (p := ⟨K, 1, none⟩) hK1 _).setCell (p := ⟨K, 2, none⟩) hK1 _).setCell (p := ⟨K, 3, none⟩) hK1 _).setCell (p := ⟨K, 4, none⟩) hK1 _
          obtain ⟨u0, u1⟩ := set5_cells x0 x1 x2 x3 x4 (.int .i64 0) (.int .i64 0) (.int .i64 0) (.bool false) (.bool false)
          generalize (((((w2.setCell ⟨K, 0, none⟩ (.int .i64 0)).setCell ⟨K, 1, none⟩ (.int .i64 0)).setCell ⟨K, 2, none⟩ (.int .i64 0)).setCell ⟨K, 3, none⟩ (.bool false)).setCell ⟨K, 4, none⟩ (.bool false)) = w3 at *
          have R3 := keep.out _ B3
          have R3H : Hid (RdE N s (k, none) w3) := R3
          have B3H : Hid (Below W.heap.size W w3) := B3
          obtain ⟨q0, q1, q2, z3⟩ := R3.cells
          clear x0 x1 x2 x3 x4 y0 y1 y2 y3 y4 B2 S2 B3 R3 hHeld
          go_wp2_with fail
          refine Calls.mono (cF.out w3 R3H.out) ?_
          rintro e w4 ⟨rfl, R4, G4⟩
          have FH : Hid (RdE N s (k, some (k : Int)) w4 ∧ W.grownBy w4 (some N)) := ⟨R4, grown_trans (grown_of_below N B3H.out) G4⟩
          clear R4 G4
          go_wp2_with fail
          go_ret
          exact ⟨rfl, FH.out⟩
      · rw [if_neg ht]
        have cUH : Hid (∀ W', Below W.heap.size W W' → Calls Tryz.prog 157 #[.string (s.extract k s.size)] W' fun e w' => e = .returned (.tuple #[.string ⟨t.toArray⟩, .int .i64 (n : Int), .agg #[.int .i64 0, .int .i64 0, .int .i64 0, .bool false, .bool false]]) ∧ Below W.heap.size W w' ∧ Below W'.heap.size W' w') := fun W' b => (cU W').mono fun e w' q => ⟨q.1, b.trans (q.2.mono b.size), q.2⟩
        have cUb : Hid (Calls Tryz.prog 157 #[.string (s.extract k s.size)] W.drew fun e w' => e = .returned (.tuple #[.string ⟨t.toArray⟩, .int .i64 (n : Int), .agg #[.int .i64 0, .int .i64 0, .int .i64 0, .bool false, .bool false]]) ∧ Below W.heap.size W w') := (cUH.out _ hb0.out).mono fun e w' q => ⟨q.1, q.2.1⟩
        have cUa : Hid (Calls Tryz.prog 157 #[.string (s.extract k s.size)] (W.alloc (.cells #[.int .i64 0, .int .i64 0, .int .i64 0, .bool false, .bool false] 35)).drew fun e w' => e = .returned (.tuple #[.string ⟨t.toArray⟩, .int .i64 (n : Int), .agg #[.int .i64 0, .int .i64 0, .int .i64 0, .bool false, .bool false]]) ∧ Below W.heap.size W w' ∧ BdC W.heap.size w') := (cUH.out _ hb1.out).mono fun e w' q => ⟨q.1, q.2.1, bdC_of q.2.2⟩
        have hn : k + n ≤ s.size := by
          have h9 := (uneT_ok hu).1
          rw [List.length_drop, hlen] at h9
          omega
        have wk : wrap64 ((k : Int) + (n : Int)) = (k : Int) + (n : Int) := IntWalk.wrap64_in _ (by omega)
        have wi : IntKind.i64.wrap ((k : Int) + (n : Int)) = (k : Int) + (n : Int) := IntWalk.i64_in _ (by omega)
        have hte : t.isEmpty = false := by cases t with | nil => exact absurd rfl ht | cons a r => rfl
        clear hn
        clear cU hu hz hlen cUH
        have S0 : W.cell? ⟨N, 0, none⟩ = some (.string s) ∧ W.cell? ⟨N, 1, none⟩ = some (.int .i64 (k : Int)) := ⟨c1, c2⟩
        go_enter Tryz.func123, Tryz.ntmps123
        go_wp2_with fail
        refine wp_region_last (S := fun W0 => W0.cell? ⟨N, 0, none⟩ = some (.string s) ∧ W0.cell? ⟨N, 1, none⟩ = some (.int .i64 (k : Int))) 17 (by kernel_rfl) (by kernel_rfl) (by kernel_rfl) 17 rfl S0 (fun hHeld => ?_)
        refine zT 0 (v := ?_) rfl ?_ ?_
        rotate_left 1
        · (intro w0 hSw; (try dsimp only at hSw); obtain ⟨s1, s2⟩ := hSw; go_simp; try with_reducible rfl)
        (try simp only [z1, z2, z3]); (try simp only [Act.put, z4, z5, z6])
        refine zT 1 (v := ?_) rfl ?_ ?_
        rotate_left 1
        · (intro w0 hSw; (try dsimp only at hSw); obtain ⟨s1, s2⟩ := hSw; go_simp; try with_reducible rfl)
        (try simp only [z1, z2, z3]); (try simp only [Act.put, z4, z5, z6])
        refine zT 2 (v := ?_) rfl ?_ ?_
        rotate_left 1
        · (intro w0 hSw; (try dsimp only at hSw); obtain ⟨s1, s2⟩ := hSw; go_simp; try with_reducible rfl)
        (try simp only [z1, z2, z3]); (try simp only [Act.put, z4, z5, z6])
        refine zT 3 (v := ?_) rfl ?_ ?_
        rotate_left 1
        · (intro w0 hSw; (try dsimp only at hSw); obtain ⟨s1, s2⟩ := hSw; go_simp; try with_reducible rfl)
        (try simp only [z1, z2, z3]); (try simp only [Act.put, z4, z5, z6])
        refine zT 4 (v := ?_) rfl ?_ ?_
        rotate_left 1
        · (intro w0 hSw; (try dsimp only at hSw); obtain ⟨s1, s2⟩ := hSw; go_simp; try with_reducible rfl)
        (try simp only [z1, z2, z3]); (try simp only [Act.put, z4, z5, z6])
        refine zT 5 (v := ?_) rfl ?_ ?_
        rotate_left 1
        · (intro w0 hSw; (try dsimp only at hSw); obtain ⟨s1, s2⟩ := hSw; go_simp; try with_reducible rfl)
        (try simp only [z1, z2, z3]); (try simp only [Act.put, z4, z5, z6])
        refine zT 6 (v := ?_) rfl ?_ ?_
        rotate_left 1
        · (intro w0 hSw; (try dsimp only at hSw); obtain ⟨s1, s2⟩ := hSw; go_simp; try with_reducible rfl)
        (try simp only [z1, z2, z3]); (try simp only [Act.put, z4, z5, z6])
        refine zT 7 (v := ?_) rfl ?_ ?_
        rotate_left 1
        · (intro w0 hSw; (try dsimp only at hSw); obtain ⟨s1, s2⟩ := hSw; go_simp; try with_reducible rfl)
        (try simp only [z1, z2, z3]); (try simp only [Act.put, z4, z5, z6])
        refine zT 8 (v := ?_) rfl ?_ ?_
        rotate_left 1
        · (intro w0 hSw; (try dsimp only at hSw); obtain ⟨s1, s2⟩ := hSw; go_simp; try with_reducible rfl)
        (try simp only [z1, z2, z3]); (try simp only [Act.put, z4, z5, z6])
        refine wpAnyH_ready (rs := [9, 14]) (by kernel_rfl) (by simp) ?_
        refine AllReadyH.cons (o := _) rfl (fun K1 hK => ?_) ?_
        · go_simp
          go_at_call 157
          refine Calls.mono cUb.out ?_
          rintro e w1 ⟨rfl, B0⟩
          have S1 := hcel.out _ B0
          try dsimp only
          refine hK.out _ _ S1 (fun hHeld => ?_)
          clear hK K1
          (try simp only [z1, z2, z3]); (try simp only [Act.put, z4, z5, z6])
          refine zT 10 (v := ?_) rfl ?_ ?_
          rotate_left 1
          · (intro w0 hSw; (try dsimp only at hSw); obtain ⟨s1, s2⟩ := hSw; go_simp; try with_reducible rfl)
          (try simp only [z1, z2, z3]); (try simp only [Act.put, z4, z5, z6])
          refine zT 11 (v := ?_) rfl ?_ ?_
          rotate_left 1
          · (intro w0 hSw; (try dsimp only at hSw); obtain ⟨s1, s2⟩ := hSw; go_simp; try with_reducible rfl)
          (try simp only [z1, z2, z3]); (try simp only [Act.put, z4, z5, z6])
          refine zT 12 (v := ?_) rfl ?_ ?_
          rotate_left 1
          · (intro w0 hSw; (try dsimp only at hSw); obtain ⟨s1, s2⟩ := hSw; go_simp; try with_reducible rfl)
          (try simp only [z1, z2, z3]); (try simp only [Act.put, z4, z5, z6])
          refine zT 13 (v := ?_) rfl ?_ ?_
          rotate_left 1
          · (intro w0 hSw; (try dsimp only at hSw); obtain ⟨s1, s2⟩ := hSw; go_simp; try with_reducible rfl)
          (try simp only [z1, z2, z3]); (try simp only [Act.put, z4, z5, z6])
          refine wpAnyH_ready (rs := [14]) (by kernel_rfl) (by simp) ?_
          refine AllReadyH.cons (o := _) rfl (fun K1 hK => ?_) AllReadyH.nil
          go_simp
          try dsimp only
          have B2 : Below W.heap.size W (w1.alloc (.cells #[.int .i64 0, .int .i64 0, .int .i64 0, .bool false, .bool false] 35)) := B0.alloc B0.size _
          have S2 := hcel.out _ B2
          refine hK.out _ _ S2 (fun hHeld => ?_)
          clear hK K1
          (try simp only [z1, z2, z3]); (try simp only [Act.put, z4, z5, z6])
          refine zT 15 (v := ?_) rfl ?_ ?_
          rotate_left 1
          · (intro w0 hSw; (try dsimp only at hSw); obtain ⟨s1, s2⟩ := hSw; go_simp; try with_reducible rfl)
          (try simp only [z1, z2, z3]); (try simp only [Act.put, z4, z5, z6])
          refine zT 16 (v := ?_) rfl ?_ ?_
          rotate_left 1
          · (intro w0 hSw; (try dsimp only at hSw); obtain ⟨s1, s2⟩ := hSw; go_simp; try with_reducible rfl)
          (try simp only [z1, z2, z3]); (try simp only [Act.put, z4, z5, z6])
          have C2 : BdC w1.heap.size (w1.alloc (.cells #[.int .i64 0, .int .i64 0, .int .i64 0, .bool false, .bool false] 35)) := bdC_new w1
          have hK1 : W.heap.size ≤ w1.heap.size := B0.size
          generalize w1.heap.size = K at *
          generalize w1.alloc (.cells #[.int .i64 0, .int .i64 0, .int .i64 0, .bool false, .bool false] 35) = w2 at *
          obtain ⟨x0, x1, x2, x3, x4, y0, y1, y2, y3, y4⟩ := C2
          refine wpAnyH_done (by kernel_rfl) ?_ _
          refine lastQ_run (o := _) rfl (fun K1 hK => ?_)
          go_simp
          try dsimp only
          refine hK.out _ _ ?_
          clear hK K1
          (try simp only [z1, z2, z3]); (try simp only [Act.put, z4, z5, z6])
          have B3 : Below W.heap.size W (((((w2.setCell ⟨K, 0, none⟩ (.int .i64 0)).setCell ⟨K, 1, none⟩ (.int .i64 0)).setCell ⟨K, 2, none⟩ (.int .i64 0)).setCell ⟨K, 3, none⟩ (.bool false)).setCell ⟨K, 4, none⟩ (.bool false)) := ((((B2.setCell (p := ⟨K, 0, none⟩) hK1 _).setCell (p := ⟨K, 1, none⟩) hK1 _).setCell (p := ⟨K, 2, none⟩) hK1 _).setCell (p := ⟨K, 3, none⟩) hK1 _).setCell (p := ⟨K, 4, none⟩) hK1 _
          obtain ⟨u0, u1⟩ := set5_cells x0 x1 x2 x3 x4 (.int .i64 0) (.int .i64 0) (.int .i64 0) (.bool false) (.bool false)
          generalize (((((w2.setCell ⟨K, 0, none⟩ (.int .i64 0)).setCell ⟨K, 1, none⟩ (.int .i64 0)).setCell ⟨K, 2, none⟩ (.int .i64 0)).setCell ⟨K, 3, none⟩ (.bool false)).setCell ⟨K, 4, none⟩ (.bool false)) = w3 at *
          have R3 := keep.out _ B3
          have R3H : Hid (RdE N s (k, none) w3) := R3
          have B3H : Hid (Below W.heap.size W w3) := B3
          obtain ⟨q0, q1, q2, z3⟩ := R3.cells
          clear x0 x1 x2 x3 x4 y0 y1 y2 y3 y4 B2 S2 B3 R3 hHeld
          have FH : Hid (RdE N s (k + n, none) (w3.setCell ⟨N, 1, none⟩ (.int .i64 ((k : Int) + (n : Int)))) ∧ W.grownBy (w3.setCell ⟨N, 1, none⟩ (.int .i64 ((k : Int) + (n : Int)))) (some N)) := ⟨R3H.out.set1 (k + n), grown_trans (grown_of_below N B3H.out) (grown_set _ N 1 _)⟩
          go_wp2_with fail
          go_ret
          exact ⟨rfl, FH.out⟩
        · refine AllReadyH.cons (o := _) rfl (fun K1 hK => ?_) AllReadyH.nil
          go_simp
          try dsimp only
          refine hK.out _ _ (hcel.out _ hb1.out) (fun hHeld => ?_)
          clear hK K1
          (try simp only [z1, z2, z3]); (try simp only [Act.put, z4, z5, z6])
          refine wpAnyH_ready (rs := [9]) (by kernel_rfl) (by simp) ?_
          refine AllReadyH.cons (o := _) rfl (fun K1 hK => ?_) AllReadyH.nil
          go_simp
          go_at_call 157
          refine Calls.mono cUa.out ?_
          rintro e w2 ⟨rfl, B2, C2⟩
          have S2 := hcel.out _ B2
          try dsimp only
          refine hK.out _ _ S2 (fun hHeld => ?_)
          clear hK K1
          (try simp only [z1, z2, z3]); (try simp only [Act.put, z4, z5, z6])
          refine zT 10 (v := ?_) rfl ?_ ?_
          rotate_left 1
          · (intro w0 hSw; (try dsimp only at hSw); obtain ⟨s1, s2⟩ := hSw; go_simp; try with_reducible rfl)
          (try simp only [z1, z2, z3]); (try simp only [Act.put, z4, z5, z6])
          refine zT 11 (v := ?_) rfl ?_ ?_
          rotate_left 1
          · (intro w0 hSw; (try dsimp only at hSw); obtain ⟨s1, s2⟩ := hSw; go_simp; try with_reducible rfl)
          (try simp only [z1, z2, z3]); (try simp only [Act.put, z4, z5, z6])
          refine zT 12 (v := ?_) rfl ?_ ?_
          rotate_left 1
          · (intro w0 hSw; (try dsimp only at hSw); obtain ⟨s1, s2⟩ := hSw; go_simp; try with_reducible rfl)
          (try simp only [z1, z2, z3]); (try simp only [Act.put, z4, z5, z6])
          refine zT 13 (v := ?_) rfl ?_ ?_
          rotate_left 1
          · (intro w0 hSw; (try dsimp only at hSw); obtain ⟨s1, s2⟩ := hSw; go_simp; try with_reducible rfl)
          (try simp only [z1, z2, z3]); (try simp only [Act.put, z4, z5, z6])
          refine zT 15 (v := ?_) rfl ?_ ?_
          rotate_left 1
          · (intro w0 hSw; (try dsimp only at hSw); obtain ⟨s1, s2⟩ := hSw; go_simp; try with_reducible rfl)
          (try simp only [z1, z2, z3]); (try simp only [Act.put, z4, z5, z6])
          refine zT 16 (v := ?_) rfl ?_ ?_
          rotate_left 1
          · (intro w0 hSw; (try dsimp only at hSw); obtain ⟨s1, s2⟩ := hSw; go_simp; try with_reducible rfl)
          (try simp only [z1, z2, z3]); (try simp only [Act.put, z4, z5, z6])
          obtain ⟨K, hKe⟩ : ∃ K, W.heap.size = K := ⟨_, rfl⟩
          have hK1 : W.heap.size ≤ K := by omega
          rw [hKe] at C2 ⊢
          obtain ⟨x0, x1, x2, x3, x4, y0, y1, y2, y3, y4⟩ := C2
          refine wpAnyH_done (by kernel_rfl) ?_ _
          refine lastQ_run (o := _) rfl (fun K1 hK => ?_)
          go_simp
          try dsimp only
          refine hK.out _ _ ?_
          clear hK K1
          (try simp only [z1, z2, z3]); (try simp only [Act.put, z4, z5, z6])
          have B3 : Below W.heap.size W (((((w2.setCell ⟨K, 0, none⟩ (.int .i64 0)).setCell ⟨K, 1, none⟩ (.int .i64 0)).setCell ⟨K, 2, none⟩ (.int .i64 0)).setCell ⟨K, 3, none⟩ (.bool false)).setCell ⟨K, 4, none⟩ (.bool false)) := ((((B2.setCell (p := ⟨K, 0, none⟩) hK1 _).setCell (p := ⟨K, 1, none⟩) hK1 _).setCell (p := ⟨K, 2, none⟩) hK1 _).setCell (p := ⟨K, 3, none⟩) hK1 _).setCell (p := ⟨K, 4, none⟩) hK1 _
          obtain ⟨u0, u1⟩ := set5_cells x0 x1 x2 x3 x4 (.int .i64 0) (.int .i64 0) (.int .i64 0) (.bool false) (.bool false)
          generalize (((((w2.setCell ⟨K, 0, none⟩ (.int .i64 0)).setCell ⟨K, 1, none⟩ (.int .i64 0)).setCell ⟨K, 2, none⟩ (.int .i64 0)).setCell ⟨K, 3, none⟩ (.bool false)).setCell ⟨K, 4, none⟩ (.bool false)) = w3 at *
          have R3 := keep.out _ B3
          have R3H : Hid (RdE N s (k, none) w3) := R3
          have B3H : Hid (Below W.heap.size W w3) := B3
          obtain ⟨q0, q1, q2, z3⟩ := R3.cells
          clear x0 x1 x2 x3 x4 y0 y1 y2 y3 y4 B2 S2 B3 R3 hHeld
          have FH : Hid (RdE N s (k + n, none) (w3.setCell ⟨N, 1, none⟩ (.int .i64 ((k : Int) + (n : Int)))) ∧ W.grownBy (w3.setCell ⟨N, 1, none⟩ (.int .i64 ((k : Int) + (n : Int)))) (some N)) := ⟨R3H.out.set1 (k + n), grown_trans (grown_of_below N B3H.out) (grown_set _ N 1 _)⟩
          go_wp2_with fail
          go_ret
          exact ⟨rfl, FH.out⟩
end Go.Proofs.YtbojljmacheccaaGreatDoor.Ln
