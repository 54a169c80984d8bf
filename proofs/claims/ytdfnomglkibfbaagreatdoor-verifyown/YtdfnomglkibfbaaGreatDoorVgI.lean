
import Derived.Test.YtdfnomglkibfbaaGreatDoorVgH
import Derived.Deep.CutRange
import Derived.BigGuard
namespace Go.Proofs.YtdfnomglkibfbaaGreatDoor.Vf
open Go.RowKit
set_option linter.unusedVariables false
set_option linter.unusedSimpArgs false
set_option maxRecDepth 100000
theorem make_int (n : Nat) (h : n ≤ 1048576) (w : World) : (Instr.makeSlice 39 (.int .i64 (n : Int)) (.int .i64 (n : Int))).run Tryz.prog w = .ok (.slice (some ⟨w.heap.size, 0, none⟩) n n) (w.alloc (.cells (madeCells #[.int .i64 0] n) 3)) := by
  have hi : (Tryz.prog.info? 3).map (fun i => (i.zero, i.bytes, i.size)) = some (some (.int .i64 0), 8, 1) := by kernel_rfl
  obtain ⟨i, i1, i0⟩ := Option.map_eq_some_iff.1 hi
  have i2 : i.zero = some (.int .i64 0) := congrArg (·.1) i0
  have i3 : i.bytes = 8 := congrArg (·.2.1) i0
  have i4 : i.size = 1 := congrArg (·.2.2) i0
  have := run_make (P := Tryz.prog) w 39 3 i (.int .i64 0) Tryz.underlying39 i1 i2 .i64 .i64 (n : Int) (n : Int) (by omega) (by omega) (by rw [i3]; omega) (by omega)
  rw [i4] at this
  simpa [Value.cells] using this
theorem make_bool (n : Nat) (h : n ≤ 1048576) (w : World) : (Instr.makeSlice 49 (.int .i64 (n : Int)) (.int .i64 (n : Int))).run Tryz.prog w = .ok (.slice (some ⟨w.heap.size, 0, none⟩) n n) (w.alloc (.cells (madeCells #[.bool false] n) 4)) := by
  have hi : (Tryz.prog.info? 4).map (fun i => (i.zero, i.bytes, i.size)) = some (some (.bool false), 1, 1) := by kernel_rfl
  obtain ⟨i, i1, i0⟩ := Option.map_eq_some_iff.1 hi
  have i2 : i.zero = some (.bool false) := congrArg (·.1) i0
  have i3 : i.bytes = 1 := congrArg (·.2.1) i0
  have i4 : i.size = 1 := congrArg (·.2.2) i0
  have := run_make (P := Tryz.prog) w 49 4 i (.bool false) Tryz.underlying49 i1 i2 .i64 .i64 (n : Int) (n : Int) (by omega) (by omega) (by rw [i3]; omega) (by omega)
  rw [i4] at this
  simpa [Value.cells] using this
/-- an error stored whole, a row beside it. -/
theorem store_bad2 {W : World} {g r n : Nat} {G : Nat → Value} (h : Bd5 W g) (hr : RW W r n G) (hne : g ≠ r) (c p : Int) (b : Bool) : ∃ W2, (Instr.storeAt 36 (.pointer (some ⟨g, 0, none⟩)) (badV c p b)).run Tryz.prog W = .ok () W2 ∧ W2.cell? ⟨g, 0, none⟩ = some (.int .i64 c) ∧ W2.cell? ⟨g, 1, none⟩ = some (.int .i64 p) ∧ W2.cell? ⟨g, 2, none⟩ = some (.int .i64 0) ∧ W2.cell? ⟨g, 3, none⟩ = some (.bool b) ∧ W2.cell? ⟨g, 4, none⟩ = some (.bool false) ∧ (∀ (n : Nat) (w : World), Below n w W → n ≤ g → Below n w W2) ∧ RW W2 r n G := by
  obtain ⟨h1, hf, k0, k1, k2, k3, k4⟩ := h
  have f0 := hf 0 (by omega)
  have f1 := hf 1 (by omega)
  have f2 := hf 2 (by omega)
  have f3 := hf 3 (by omega)
  have f4 := hf 4 (by omega)
  refine ⟨((((W.setCell ⟨g, 0, none⟩ (.int .i64 c)).setCell ⟨g, 1, none⟩ (.int .i64 p)).setCell ⟨g, 2, none⟩ (.int .i64 0)).setCell ⟨g, 3, none⟩ (.bool b)).setCell ⟨g, 4, none⟩ (.bool false), ?_, ?_, ?_, ?_, ?_, ?_, fun n w hb hn => set5_below hb hn _ _ _ _ _, ((((hr.far hne _).far hne _).far hne _).far hne _).far hne _⟩
  · unfold badV
    simp [go_sem, k0, k1, k2, k3, k4, f0, f1, f2, f3, f4, Tryz.sizeOf36, Instr.storeAt, storeVar]
  all_goals simp [go_sem, k0, k1, k2, k3, k4]
/-- while the heights are begun. -/
def D1 (w : World) (n i : Nat) (W : World) : Prop := Below w.heap.size w W ∧ Bd5 W w.heap.size ∧ RW W (w.heap.size + 1) n (fun j => .int .i64 (if j < i then -1 else 0)) ∧ W.heap.size = w.heap.size + 2
theorem D1.start (w : World) (n : Nat) : D1 w n 0 ((w.alloc (.cells #[.int .i64 0, .int .i64 0, .int .i64 0, .bool false, .bool false] 36)).alloc (.cells (madeCells #[.int .i64 0] n) 3)) := by
  have h1 := Bd5.new w
  have h2 := RW.made (w.alloc (.cells #[.int .i64 0, .int .i64 0, .int .i64 0, .bool false, .bool false] 36)) n (.int .i64 0) 3
  rw [World.size_alloc] at h2
  refine ⟨((Below.refl _ w).alloc (Nat.le_refl _) _).alloc (by simp) _, h1.below (n := w.heap.size + 1) ((Below.refl _ _).alloc (by simp) _) (by omega), h2.congr (fun k hk => by simp), by simp⟩
theorem Bd5.far {w : World} {g b j : Nat} (h : Bd5 w g) (hg : b ≠ g) (v : Value) : Bd5 (w.setCell ⟨b, j, none⟩ v) g := by
  obtain ⟨h1, h2, h3, h4, h5, h6, h7⟩ := h
  have e : ∀ k, (w.setCell ⟨b, j, none⟩ v).cell? ⟨g, k, none⟩ = w.cell? ⟨g, k, none⟩ := fun k => World.cell?_setCell_other _ _ _ _ (by intro h; injection h; omega)
  exact ⟨by simpa using h1, fun k hk => by simp [go_sem, h2 k hk], by rw [e]; exact h3, by rw [e]; exact h4, by rw [e]; exact h5, by rw [e]; exact h6, by rw [e]; exact h7⟩
theorem D1.step {w W : World} {n i : Nat} (h : D1 w n i W) (hi : i < n) : D1 w n (i + 1) (W.setCell ⟨w.heap.size + 1, i, none⟩ (.int .i64 (-1))) := by
  refine ⟨h.1.setCell (p := ⟨w.heap.size + 1, i, none⟩) (by simp) _, h.2.1.far (by omega) _, (h.2.2.1.set hi _).congr (fun k hk => ?_), by simpa using h.2.2.2⟩
  unfold upG
  dsimp only
  by_cases e : k = i
  · rw [if_pos e, if_pos (by omega)]
  · rw [if_neg e]
    by_cases c : k < i
    · rw [if_pos c, if_pos (by omega)]
    · rw [if_neg c, if_neg (by omega)]
/-- while the heights are found. -/
structure DH (w : World) (n : Nat) (s : StD) (W : World) : Prop where
  b : Below w.heap.size w W
  bd : Bd5 W w.heap.size
  o : RW W (w.heap.size + 1) n (fun j => .int .i64 (s.1 j))
  q : RW W (w.heap.size + 2) n (fun j => .bool (s.2 j))
  sz : w.heap.size + 3 ≤ W.heap.size
  bnd : ∀ j, -1 ≤ s.1 j ∧ s.1 j ≤ 200
theorem D1.go {w W : World} {n : Nat} (h : D1 w n n W) (hn : 0 < n) : DH w n s0 ((W.setCell ⟨w.heap.size + 1, 0, none⟩ (.int .i64 0)).alloc (.cells (madeCells #[.bool false] n) 4)) := by
  have h2 := RW.made (W.setCell ⟨w.heap.size + 1, 0, none⟩ (.int .i64 0)) n (.bool false) 4
  have hsz : (W.setCell ⟨w.heap.size + 1, 0, none⟩ (.int .i64 0)).heap.size = w.heap.size + 2 := by simpa using h.2.2.2
  have hb : Below (w.heap.size + 2) (W.setCell ⟨w.heap.size + 1, 0, none⟩ (.int .i64 0)) ((W.setCell ⟨w.heap.size + 1, 0, none⟩ (.int .i64 0)).alloc (.cells (madeCells #[.bool false] n) 4)) := (Below.refl _ _).alloc (by omega) _
  rw [hsz] at h2
  refine ⟨(h.1.setCell (p := ⟨w.heap.size + 1, 0, none⟩) (by simp) _).alloc (by omega) _, (h.2.1.far (by omega) _).below hb (by omega), ((h.2.2.1.set hn _).below hb (by omega)).congr (fun k hk => ?_), h2, by simp [hsz], fun j => ?_⟩
  · unfold upG s0
    dsimp only
    by_cases e : k = 0
    · rw [if_pos e]; simp [e]
    · rw [if_neg e, if_pos hk]; simp [e]
  · unfold s0; simp only; split <;> omega
theorem DH.below {w W W' : World} {n : Nat} {s : StD} (h : DH w n s W) (hb : Below W.heap.size W W') : DH w n s W' :=
  ⟨h.b.trans (hb.mono h.b.size), h.bd.below hb (by have := h.sz; omega), h.o.below hb (by have := h.sz; omega), h.q.below hb (by have := h.sz; omega), Nat.le_trans h.sz hb.size, h.bnd⟩
/-- one more way. -/
theorem DH.bring {w W : World} {n : Nat} {s : StD} (h : DH w n s W) {j : Nat} (hj : j < n) {v : Int} (hv : -1 ≤ v ∧ v ≤ 200) {pv : Bool} (hp : pv = (s.2 j || (decide (0 ≤ s.1 j) && decide (s.1 j ≠ v)))) : DH w n (bringD s j v) ((W.setCell ⟨w.heap.size + 2, j, none⟩ (.bool pv)).setCell ⟨w.heap.size + 1, j, none⟩ (.int .i64 v)) := by
  refine ⟨(h.b.setCell (p := ⟨w.heap.size + 2, j, none⟩) (by simp) _).setCell (p := ⟨w.heap.size + 1, j, none⟩) (by simp) _, (h.bd.far (by omega) _).far (by omega) _, ((h.o.far (by omega) _).set hj _).congr (fun k hk => ?_), ((h.q.set hj _).far (by omega) _).congr (fun k hk => ?_), by simpa using h.sz, fun k => ?_⟩
  · unfold upG bringD; simp only; split <;> rfl
  · unfold upG bringD; simp only
    by_cases e : k = j
    · rw [if_pos e, if_pos e, hp]
    · rw [if_neg e, if_neg e]
  · unfold bringD; simp only; split
    · exact hv
    · exact h.bnd k
/-- the state behind the first of the ways. -/
def sj (s : StD) (k : Nat) (v : Int) (ja : Nat) : Nat → StD
  | 0 => s
  | 1 => bringD s (k + 1) v
  | _ => bringD (bringD s (k + 1) v) ja v
/-- while ways are gone. -/
structure NX3 (w : World) (n : Nat) (s : StD) (k : Nat) (v : Int) (ja X m : Nat) (tj : Nat → Nat) (j : Nat) (W : World) : Prop where
  dh : DH w n (sj s k v ja j) W
  nx : RW W X m (fun i => .int .i64 (tj i : Int))
  lo : w.heap.size + 3 ≤ X
theorem row_one (w : World) (x : Value) (T : TypeId) : RW (w.alloc (.cells #[x] T)) w.heap.size 1 (fun _ => x) := by
  refine ⟨by simp, fun k hk => ⟨?_, frozen_of_row _ w.heap.size k _ T (heap_alloc_new w _)⟩⟩
  have e : k = 0 := by omega
  subst e
  simp [go_sem]
theorem row_two (w : World) (x y : Value) (T : TypeId) : RW (w.alloc (.cells #[x, y] T)) w.heap.size 2 (fun i => if i = 0 then x else y) := by
  refine ⟨by simp, fun k hk => ⟨?_, frozen_of_row _ w.heap.size k _ T (heap_alloc_new w _)⟩⟩
  have e : k = 0 ∨ k = 1 := by omega
  rcases e with e | e <;> subst e <;> simp [go_sem]
theorem NX3.one {w W : World} {n k : Nat} {s : StD} {v : Int} (h : DH w n s W) : NX3 w n s k v 0 W.heap.size 1 (fun _ => k + 1) 0 (W.alloc (.cells #[.int .i64 ((k + 1 : Nat) : Int)] 3)) :=
  ⟨h.below ((Below.refl _ _).alloc (Nat.le_refl _) _), row_one _ _ _, h.sz⟩
theorem NX3.two {w W : World} {n k ja : Nat} {s : StD} {v : Int} (h : DH w n s W) : NX3 w n s k v ja (W.heap.size + 1) 2 (fun i => if i = 0 then k + 1 else ja) 0 ((W.alloc (.cells #[.int .i64 ((k + 1 : Nat) : Int)] 3)).alloc (.cells #[.int .i64 ((k + 1 : Nat) : Int), .int .i64 (ja : Int)] 3)) := by
  have r := row_two (W.alloc (.cells #[.int .i64 ((k + 1 : Nat) : Int)] 3)) (.int .i64 ((k + 1 : Nat) : Int)) (.int .i64 (ja : Int)) 3
  rw [World.size_alloc] at r
  exact ⟨(h.below ((Below.refl _ _).alloc (Nat.le_refl _) _)).below ((Below.refl _ _).alloc (Nat.le_refl _) _), r.congr (fun i hi => by split <;> rfl), by have := h.sz; omega⟩
theorem sj_step (s : StD) (k : Nat) (v : Int) (ja j : Nat) (hj : j < 2) : sj s k v ja (j + 1) = bringD (sj s k v ja j) (if j = 0 then k + 1 else ja) v := by
  have e : j = 0 ∨ j = 1 := by omega
  rcases e with e | e <;> subst e <;> rfl
theorem NX3.step {w W : World} {n k ja X m j tt : Nat} {tj : Nat → Nat} {s : StD} {v : Int} (h : NX3 w n s k v ja X m tj j W) (hj : j < m) (ht : tj j = tt) (htn : tt < n) (hv : -1 ≤ v ∧ v ≤ 200) {pv : Bool} (hp : pv = ((sj s k v ja j).2 tt || (decide (0 ≤ (sj s k v ja j).1 tt) && decide ((sj s k v ja j).1 tt ≠ v)))) (hm : j < 2 ∧ tt = if j = 0 then k + 1 else ja) : NX3 w n s k v ja X m tj (j + 1) ((W.setCell ⟨w.heap.size + 2, tt, none⟩ (.bool pv)).setCell ⟨w.heap.size + 1, tt, none⟩ (.int .i64 v)) := by
  refine ⟨?_, (h.nx.far (by have := h.lo; omega) _).far (by have := h.lo; omega) _, h.lo⟩
  rw [sj_step _ _ _ _ _ hm.1, ← hm.2]
  exact h.dh.bring htn hv hp
/-- what is told of heights. -/
def HtR (w : World) (n begin_ : Nat) (r : StD × Option Nat) (e : Ending) (w' : World) : Prop := match r.2 with
  | some k => e = .returned (.tuple #[.slice none 0 0, badV 190 ((begin_ : Int) + (k : Int)) true])
  | none => ∃ ob, w.heap.size ≤ ob ∧ e = .returned (.tuple #[.slice (some ⟨ob, 0, none⟩) n n, badV 0 0 false]) ∧ RW w' ob n (fun j => .int .i64 (r.1.1 j))
theorem hgtD_drop {l : List InP} {k : Nat} {t : InP} (s : StD) (h : l[k]? = some t) : hgtD (l.drop k) k s = if errD s k t.c then (s, some k) else hgtD (l.drop (k + 1)) (k + 1) (nextD s k t (bhd (s.1 k) t.c)) := by
  obtain ⟨hl, he⟩ := List.getElem?_eq_some_iff.1 h
  rw [List.drop_eq_getElem_cons hl, he]; rfl
theorem en_code {c : Nat} (h0 : 1 ≤ c) (h1 : c ≤ 24) : (rowF c).en = true ↔ c = 13 ∨ c = 24 := by
  match c, h0, h1 with
  | 1, _, _ | 2, _, _ | 3, _, _ | 4, _, _ | 5, _, _ | 6, _, _ | 7, _, _ | 8, _, _ | 9, _, _ | 10, _, _ | 11, _, _ | 12, _, _ | 13, _, _ | 14, _, _ | 15, _, _ | 16, _, _ | 17, _, _ | 18, _, _ | 19, _, _ | 20, _, _ | 21, _, _ | 22, _, _ | 23, _, _ | 24, _, _ => simp [rowF, rowsL]
  | c + 25, _, h => omega
theorem jump_code {c : Nat} (h0 : 1 ≤ c) (h1 : c ≤ 24) : (rowF c).a = 9 ↔ c = 10 ∨ c = 11 := by
  match c, h0, h1 with
  | 1, _, _ | 2, _, _ | 3, _, _ | 4, _, _ | 5, _, _ | 6, _, _ | 7, _, _ | 8, _, _ | 9, _, _ | 10, _, _ | 11, _, _ | 12, _, _ | 13, _, _ | 14, _, _ | 15, _, _ | 16, _, _ | 17, _, _ | 18, _, _ | 19, _, _ | 20, _, _ | 21, _, _ | 22, _, _ | 23, _, _ | 24, _, _ => simp [rowF, rowsL]
  | c + 25, _, h => omega
theorem row_small {c : Nat} : (rowF c).tk ≤ 2 ∧ (rowF c).pt ≤ 1 := by
  rcases Nat.lt_or_ge 24 c with q | q
  · rw [row_big q]; simp [noR]
  · match c, q with
    | 0, _ | 1, _ | 2, _ | 3, _ | 4, _ | 5, _ | 6, _ | 7, _ | 8, _ | 9, _ | 10, _ | 11, _ | 12, _ | 13, _ | 14, _ | 15, _ | 16, _ | 17, _ | 18, _ | 19, _ | 20, _ | 21, _ | 22, _ | 23, _ | 24, _ => simp [rowF, rowsL, noR]
    | c + 25, q => omega

set_option maxHeartbeats 16000000 in
theorem dheights_any {z : SzP} (l : List InP) (hF : Fmd z l) (a : Option Addr) (c : Nat) (hn : l.length ≤ 65536) (begin_ : Nat) (hbe : begin_ ≤ 1152921504606846976) (w : World) (hI : InIn w a l) : Calls Tryz.prog 31 #[.slice a l.length c, .int .i64 (begin_ : Int)] w fun e w' => HtR w l.length begin_ (hgtD l 0 s0) e w' ∧ Below w.heap.size w w' := by
  obtain ⟨R, hR⟩ : ∃ R, hgtD l 0 s0 = R := ⟨_, rfl⟩
  have hRH : Hid (hgtD l 0 s0 = R) := hR
  rw [hR]
  have hFH : Hid (Fmd z l) := hF
  have hIH : Hid (InIn w a l) := hI
  obtain ⟨n, hnn⟩ : ∃ n, l.length = n := ⟨_, rfl⟩
  have hnH : Hid (l.length = n) := hnn
  have hpos : 0 < n := by have := hF.pos; omega
  have hposI : (0 : Int) < (n : Int) := by omega
  rw [hnn] at hn ⊢
  have mk1 : ∀ W, (Instr.makeSlice 39 (.int .i64 (n : Int)) (.int .i64 (n : Int))).run Tryz.prog W = .ok (.slice (some ⟨W.heap.size, 0, none⟩) n n) (W.alloc (.cells (madeCells #[.int .i64 0] n) 3)) := fun W => make_int n (by omega) W
  have mk2 : ∀ W, (Instr.makeSlice 49 (.int .i64 (n : Int)) (.int .i64 (n : Int))).run Tryz.prog W = .ok (.slice (some ⟨W.heap.size, 0, none⟩) n n) (W.alloc (.cells (madeCells #[.bool false] n) 4)) := fun W => make_bool n (by omega) W
  have d0 : Hid (D1 w n 0 ((w.alloc (.cells #[.int .i64 0, .int .i64 0, .int .i64 0, .bool false, .bool false] 36)).alloc (.cells (madeCells #[.int .i64 0] n) 3))) := D1.start w n
  clear hR hF hI hnn
  go_enter Tryz.func31, Tryz.ntmps31
  go_wp2_with fail
  generalize hW : World.alloc (World.alloc w _) _ = W1 at d0 ⊢
  clear hW mk1
  go_loopw [7] (fun v7 wr => ∃ i : Nat, v7 = .int .i64 (i : Int) ∧ i ≤ n ∧ Hid (D1 w n i wr)) (fun v7 _ => n - (intOf v7).toNat)
  case atStart => exact ⟨0, rfl, Nat.zero_le _, d0⟩
  case round =>
    clear d0
    obtain ⟨i, rfl, hin, hd⟩ := hrel
    have i0 : (0 : Int) ≤ (i : Int) := by omega
    by_cases hi : i < n
    · have iI : (i : Int) < (n : Int) := by omega
      have iw : IntKind.i64.wrap ((i : Int) + 1) = ((i + 1 : Nat) : Int) := IntWalk.i64_in _ (by omega)
      obtain ⟨x1, x2⟩ := hd.out.2.2.1.2 i hi
      dsimp only at x1
      have NX : Hid (D1 w n (i + 1) (wr.setCell ⟨w.heap.size + 1, i, none⟩ (.int .i64 (-1)))) := hd.out.step hi
      clear hd
      go_wp2_with fail
      exact ⟨⟨i + 1, by first | rfl | (rw [iw]), by omega, NX⟩, by first | (simp [intOf]; done) | (simp [intOf]; omega)⟩
    · have iI : ¬ (i : Int) < (n : Int) := by omega
      have e : n = i := by omega
      subst e
      obtain ⟨x1, x2⟩ := hd.out.2.2.1.2 0 hpos
      dsimp only at x1
      have NX : Hid (DH w n s0 ((wr.setCell ⟨w.heap.size + 1, 0, none⟩ (.int .i64 0)).alloc (.cells (madeCells #[.bool false] n) 4))) := hd.out.go hpos
      have hsz : wr.heap.size = w.heap.size + 2 := hd.out.2.2.2
      clear hd
      go_wp2_with fail
      try rw [hsz]
      clear hsz x1 x2
      generalize hW : World.alloc _ _ = W3 at NX ⊢
      clear hW mk2
      go_loopw [9] (fun v9 wr => ∃ (k : Nat) (s : StD), v9 = .int .i64 (k : Int) ∧ k ≤ n ∧ Hid (hgtD (l.drop k) k s = R) ∧ Hid (DH w n s wr)) (fun v9 _ => n - (intOf v9).toNat)
      case atStart => exact ⟨0, s0, rfl, Nat.zero_le _, hRH, NX⟩
      case round =>
        clear NX
        obtain ⟨k, s, rfl, hkn, hrr, hdh⟩ := hrel
        have k0 : (0 : Int) ≤ (k : Int) := by omega
        by_cases hk : k < n
        · have kI : (k : Int) < (n : Int) := by omega
          have kw : IntKind.i64.wrap ((k : Int) + 1) = ((k + 1 : Nat) : Int) := IntWalk.i64_in _ (by omega)
          have bw : IntKind.i64.wrap ((begin_ : Int) + (k : Int)) = (begin_ : Int) + (k : Int) := IntWalk.i64_in _ (by omega)
          obtain ⟨g, off, t, et, ea, gl, c1, c2, c3⟩ := (hIH.out.below hdh.out.b (Nat.le_refl _)).at (k := k) (by rw [hnH.out]; exact hk)
          subst ea
          obtain ⟨tc, ta, tb⟩ := t
          have ST : Hid (R = if errD s k tc then (s, some k) else hgtD (l.drop (k + 1)) (k + 1) (nextD s k ⟨tc, ta, tb⟩ (bhd (s.1 k) tc))) := by rw [← hrr.out]; exact hgtD_drop s et
          obtain ⟨tc1, tc2⟩ := hFH.out.code k _ et
          have hjmp : Hid ((rowF tc).a = 9 → (k : Int) < ta ∧ ta < (n : Int)) := by rw [← hnH.out]; exact hFH.out.jump k _ et
          have hend : Hid ((rowF tc).en = false → k + 1 < n) := fun h => by
            rcases Nat.lt_or_ge (k + 1) n with q | q
            · exact q
            · have := hFH.out.more k _ et (by rw [hnH.out]; omega)
              simp only at this
              rw [h] at this; cases this
          have enI := en_code tc1 tc2
          have juI := jump_code tc1 tc2
          have enH : Hid ((rowF tc).en = true ↔ tc = 13 ∨ tc = 24) := enI
          have juH : Hid ((rowF tc).a = 9 ↔ tc = 10 ∨ tc = 11) := juI
          have cM0 := fun W => moves_any tc tc1 tc2 W
          obtain ⟨rs1, rs2⟩ := row_small (c := tc)
          obtain ⟨o1, o2⟩ := hdh.out.o.2 k hk
          obtain ⟨q1, q2⟩ := hdh.out.q.2 k hk
          dsimp only at o1 q1
          obtain ⟨hb1, hb2⟩ := hdh.out.bnd k
          have errH : Hid (errD s k tc ↔ (s.2 k = true ∨ s.1 k < ((rowF tc).tk : Int) ∨ 200 < s.1 k - ((rowF tc).tk : Int) + ((rowF tc).pt : Int) ∨ ((rowF tc).en = true ∧ s.1 k - ((rowF tc).tk : Int) + ((rowF tc).pt : Int) ≠ 0))) := Iff.rfl
          have bhH : Hid (bhd (s.1 k) tc = s.1 k - ((rowF tc).tk : Int) + ((rowF tc).pt : Int)) := rfl
          generalize (rowF tc).tk = tk at *
          generalize (rowF tc).pt = pt at *
          generalize hv1 : s.1 k = hv at *
          generalize hv2 : s.2 k = pv at *
          obtain ⟨nw, hnw⟩ : ∃ nw : Int, hv - (tk : Int) + (pt : Int) = nw := ⟨_, rfl⟩
          have nwI : IntKind.i64.wrap (IntKind.i64.wrap (hv - (tk : Int)) + (pt : Int)) = nw := by
            rw [IntWalk.i64_in (hv - (tk : Int)) (by omega), IntWalk.i64_in _ (by omega)]; exact hnw
          have nwI2 : wrap64 (wrap64 (hv - (tk : Int)) + (pt : Int)) = nw := by
            rw [IntWalk.wrap64_in (hv - (tk : Int)) (by omega), IntWalk.wrap64_in _ (by omega)]; exact hnw
          have nwB : Hid (¬ hv < (tk : Int) → ¬ 200 < nw → -1 ≤ nw ∧ nw ≤ 200) := fun h1 h2 => by omega
          rw [hnw] at errH bhH
          have cM : Hid (∀ W, Calls Tryz.prog 37 #[.int .u8 (tc : Int)] W fun e w' => e = .returned (.tuple #[.int .i64 (tk : Int), .int .i64 (pt : Int)]) ∧ W = w') := fun W => (cM0 W).mono (fun _ _ h => ⟨h.1, h.2.symm⟩)
          have cAt : Hid (∀ W, Calls Tryz.prog 81 #[.int .i64 ((begin_ : Int) + (k : Int)), .int .i64 190] W fun ev w' => ev = .returned (badV 190 ((begin_ : Int) + (k : Int)) true) ∧ Below W.heap.size W w') := fun W => refAt_any _ 190 (by decide) W
          clear cM0 et hrr hnw rs1 rs2 enI juI hb1 hb2
          by_cases h13 : tc = 13
          · have enT : Hid ((rowF tc).en = true) := enH.out.2 (by omega)
            have d13 : decide ((tc : Int) = 13) = true := decide_eq_true (by omega)
            have b13 : ((tc : Int) == 13) = true := by rw [beq_iff_eq]; omega
            cases pv with
            | true =>
              have VV : Hid (R.2 = some k) := hid (by rw [ST.out, if_pos (errH.out.2 (by first | exact Or.inl rfl | exact Or.inr (Or.inl (by assumption)) | exact Or.inr (Or.inr (Or.inl (by assumption))) | exact Or.inr (Or.inr (Or.inr ⟨enT.out, by assumption⟩))))])
              clear ST errH bhH nwB hjmp hend hRH hFH hIH hnH enH juH h13
              go_wp2_with (first
                  | (go_at_call 37; with_reducible refine Calls.mono (cM.out _) ?_; rintro e w' ⟨rfl, rfl⟩))
              with_reducible refine Calls.mono (cAt.out _) ?_
              rintro e w5 ⟨rfl, b5⟩
              have d5 : Hid (DH w n s w5) := hdh.out.below b5
              clear b5 hdh cAt cM o1 o2 q1 q2 c1 c2 c3 gl nwI nwI2
              obtain ⟨W2, hst0, y0, y1, y2, y3, y4, bb0⟩ := store_bad d5.out.bd 190 ((begin_ : Int) + (k : Int)) true
              have hst : Hid ((Instr.storeAt 36 (.pointer (some ⟨w.heap.size, 0, none⟩)) (.agg #[.int .i64 190, .int .i64 ((begin_ : Int) + (k : Int)), .int .i64 0, .bool true, .bool false])).run Tryz.prog w5 = .ok () W2) := hst0
              have finB : Hid (Below w.heap.size w W2) := bb0 _ _ d5.out.b (Nat.le_refl _)
              clear hst0 bb0 d5
              unfold badV
              go_wp2_with (refine wpList_store_run (by rfl) _ _ _ (by rfl) _ _ _ (by rfl) (by rfl) hst.out ?_)
              clear hst
              simp [bodyPost, results, Tryz.results31, go_sem, y0, y1, y2, y3, y4]
              refine ⟨?_, finB.out⟩
              unfold HtR
              rw [VV.out]
              rfl
            | false =>
              by_cases e2 : hv < (tk : Int)
              · have VV : Hid (R.2 = some k) := hid (by rw [ST.out, if_pos (errH.out.2 (by first | exact Or.inl rfl | exact Or.inr (Or.inl (by assumption)) | exact Or.inr (Or.inr (Or.inl (by assumption))) | exact Or.inr (Or.inr (Or.inr ⟨enT.out, by assumption⟩))))])
                clear ST errH bhH nwB hjmp hend hRH hFH hIH hnH enH juH h13
                go_wp2_with (first
                    | (go_at_call 37; with_reducible refine Calls.mono (cM.out _) ?_; rintro e w' ⟨rfl, rfl⟩))
                with_reducible refine Calls.mono (cAt.out _) ?_
                rintro e w5 ⟨rfl, b5⟩
                have d5 : Hid (DH w n s w5) := hdh.out.below b5
                clear b5 hdh cAt cM o1 o2 q1 q2 c1 c2 c3 gl nwI nwI2
                obtain ⟨W2, hst0, y0, y1, y2, y3, y4, bb0⟩ := store_bad d5.out.bd 190 ((begin_ : Int) + (k : Int)) true
                have hst : Hid ((Instr.storeAt 36 (.pointer (some ⟨w.heap.size, 0, none⟩)) (.agg #[.int .i64 190, .int .i64 ((begin_ : Int) + (k : Int)), .int .i64 0, .bool true, .bool false])).run Tryz.prog w5 = .ok () W2) := hst0
                have finB : Hid (Below w.heap.size w W2) := bb0 _ _ d5.out.b (Nat.le_refl _)
                clear hst0 bb0 d5
                unfold badV
                go_wp2_with (refine wpList_store_run (by rfl) _ _ _ (by rfl) _ _ _ (by rfl) (by rfl) hst.out ?_)
                clear hst
                simp [bodyPost, results, Tryz.results31, go_sem, y0, y1, y2, y3, y4]
                refine ⟨?_, finB.out⟩
                unfold HtR
                rw [VV.out]
                rfl
              by_cases e3 : (200 : Int) < nw
              · have VV : Hid (R.2 = some k) := hid (by rw [ST.out, if_pos (errH.out.2 (by first | exact Or.inl rfl | exact Or.inr (Or.inl (by assumption)) | exact Or.inr (Or.inr (Or.inl (by assumption))) | exact Or.inr (Or.inr (Or.inr ⟨enT.out, by assumption⟩))))])
                clear ST errH bhH nwB hjmp hend hRH hFH hIH hnH enH juH h13
                go_wp2_with (first
                    | (go_at_call 37; with_reducible refine Calls.mono (cM.out _) ?_; rintro e w' ⟨rfl, rfl⟩))
                with_reducible refine Calls.mono (cAt.out _) ?_
                rintro e w5 ⟨rfl, b5⟩
                have d5 : Hid (DH w n s w5) := hdh.out.below b5
                clear b5 hdh cAt cM o1 o2 q1 q2 c1 c2 c3 gl nwI nwI2
                obtain ⟨W2, hst0, y0, y1, y2, y3, y4, bb0⟩ := store_bad d5.out.bd 190 ((begin_ : Int) + (k : Int)) true
                have hst : Hid ((Instr.storeAt 36 (.pointer (some ⟨w.heap.size, 0, none⟩)) (.agg #[.int .i64 190, .int .i64 ((begin_ : Int) + (k : Int)), .int .i64 0, .bool true, .bool false])).run Tryz.prog w5 = .ok () W2) := hst0
                have finB : Hid (Below w.heap.size w W2) := bb0 _ _ d5.out.b (Nat.le_refl _)
                clear hst0 bb0 d5
                unfold badV
                go_wp2_with (refine wpList_store_run (by rfl) _ _ _ (by rfl) _ _ _ (by rfl) (by rfl) hst.out ?_)
                clear hst
                simp [bodyPost, results, Tryz.results31, go_sem, y0, y1, y2, y3, y4]
                refine ⟨?_, finB.out⟩
                unfold HtR
                rw [VV.out]
                rfl
              by_cases e4 : nw ≠ 0
              · have e5 : ¬ nw = 0 := e4
                have e6 : (nw != 0) = true := by rw [bne_iff_ne]; exact e4
                have e7 : (nw == 0) = false := by rw [beq_eq_false_iff_ne]; exact e4
                have VV : Hid (R.2 = some k) := hid (by rw [ST.out, if_pos (errH.out.2 (by first | exact Or.inl rfl | exact Or.inr (Or.inl (by assumption)) | exact Or.inr (Or.inr (Or.inl (by assumption))) | exact Or.inr (Or.inr (Or.inr ⟨enT.out, by assumption⟩))))])
                clear ST errH bhH nwB hjmp hend hRH hFH hIH hnH enH juH h13
                go_wp2_with (first
                    | (go_at_call 37; with_reducible refine Calls.mono (cM.out _) ?_; rintro e w' ⟨rfl, rfl⟩))
                with_reducible refine Calls.mono (cAt.out _) ?_
                rintro e w5 ⟨rfl, b5⟩
                have d5 : Hid (DH w n s w5) := hdh.out.below b5
                clear b5 hdh cAt cM o1 o2 q1 q2 c1 c2 c3 gl nwI nwI2
                obtain ⟨W2, hst0, y0, y1, y2, y3, y4, bb0⟩ := store_bad d5.out.bd 190 ((begin_ : Int) + (k : Int)) true
                have hst : Hid ((Instr.storeAt 36 (.pointer (some ⟨w.heap.size, 0, none⟩)) (.agg #[.int .i64 190, .int .i64 ((begin_ : Int) + (k : Int)), .int .i64 0, .bool true, .bool false])).run Tryz.prog w5 = .ok () W2) := hst0
                have finB : Hid (Below w.heap.size w W2) := bb0 _ _ d5.out.b (Nat.le_refl _)
                clear hst0 bb0 d5
                unfold badV
                go_wp2_with (refine wpList_store_run (by rfl) _ _ _ (by rfl) _ _ _ (by rfl) (by rfl) hst.out ?_)
                clear hst
                simp [bodyPost, results, Tryz.results31, go_sem, y0, y1, y2, y3, y4]
                refine ⟨?_, finB.out⟩
                unfold HtR
                rw [VV.out]
                rfl
              have e5 : nw = 0 := Classical.not_not.1 e4
              have n10 : decide ((tc : Int) = 10) = false := decide_eq_false (by have := enH.out.1 enT.out; omega)
              have n11 : decide ((tc : Int) = 11) = false := decide_eq_false (by have := enH.out.1 enT.out; omega)
              have m10 : ((tc : Int) == 10) = false := by rw [beq_eq_false_iff_ne]; have := enH.out.1 enT.out; omega
              have m11 : ((tc : Int) == 11) = false := by rw [beq_eq_false_iff_ne]; have := enH.out.1 enT.out; omega
              have nb := nwB.out e2 e3
              have NOT : Hid (¬ errD s k tc) := hid (fun h => by
                rcases errH.out.1 h with q | q | q | ⟨q, q2⟩
                · cases q
                · exact e2 q
                · exact e3 q
                · exact e4 q2)
              have RN : Hid (hgtD (l.drop (k + 1)) (k + 1) (nextD s k ⟨tc, ta, tb⟩ nw) = R) := hid (by rw [ST.out, if_neg NOT.out, bhH.out])
              have sN : Hid (nextD s k ⟨tc, ta, tb⟩ nw = s) := hid (by unfold nextD; rw [if_pos enT.out])
              rw [sN.out] at RN
              have dN : Hid (DH w n s (wr.alloc (.cells #[.int .i64 ((k + 1 : Nat) : Int)] 3))) := hdh.out.below ((Below.refl _ _).alloc (Nat.le_refl _) _)
              clear ST errH bhH nwB hjmp hend hRH NOT sN cAt
              clear enH juH hv1 hv2 h13
              go_wp2_with (first
                  | (go_at_call 37; with_reducible refine Calls.mono (cM.out _) ?_; rintro e w' ⟨rfl, rfl⟩))
              go_loopw [15] (fun v15 wx => v15 = .int .i64 0 ∧ Hid (DH w n s wx)) (fun _ _ => 0)
              case atStart => exact ⟨rfl, by first | exact dN | (rw [← kw]; exact dN)⟩
              case round =>
                obtain ⟨rfl, hd5⟩ := hrel
                go_wp2_with fail
                exact ⟨⟨k + 1, s, by first | rfl | (rw [kw]), by omega, RN, hd5⟩, by first | (simp [intOf]; done) | (simp [intOf]; omega)⟩
          by_cases h24 : tc = 24
          · have enT : Hid ((rowF tc).en = true) := enH.out.2 (by omega)
            have d13 : decide ((tc : Int) = 13) = false := decide_eq_false (by omega)
            have b13 : ((tc : Int) == 13) = false := by rw [beq_eq_false_iff_ne]; omega
            have d24 : decide ((tc : Int) = 24) = true := decide_eq_true (by omega)
            have b24 : ((tc : Int) == 24) = true := by rw [beq_iff_eq]; omega
            cases pv with
            | true =>
              have VV : Hid (R.2 = some k) := hid (by rw [ST.out, if_pos (errH.out.2 (by first | exact Or.inl rfl | exact Or.inr (Or.inl (by assumption)) | exact Or.inr (Or.inr (Or.inl (by assumption))) | exact Or.inr (Or.inr (Or.inr ⟨enT.out, by assumption⟩))))])
              clear ST errH bhH nwB hjmp hend hRH hFH hIH hnH enH juH h24
              go_wp2_with (first
                  | (go_at_call 37; with_reducible refine Calls.mono (cM.out _) ?_; rintro e w' ⟨rfl, rfl⟩))
              with_reducible refine Calls.mono (cAt.out _) ?_
              rintro e w5 ⟨rfl, b5⟩
              have d5 : Hid (DH w n s w5) := hdh.out.below b5
              clear b5 hdh cAt cM o1 o2 q1 q2 c1 c2 c3 gl nwI nwI2
              obtain ⟨W2, hst0, y0, y1, y2, y3, y4, bb0⟩ := store_bad d5.out.bd 190 ((begin_ : Int) + (k : Int)) true
              have hst : Hid ((Instr.storeAt 36 (.pointer (some ⟨w.heap.size, 0, none⟩)) (.agg #[.int .i64 190, .int .i64 ((begin_ : Int) + (k : Int)), .int .i64 0, .bool true, .bool false])).run Tryz.prog w5 = .ok () W2) := hst0
              have finB : Hid (Below w.heap.size w W2) := bb0 _ _ d5.out.b (Nat.le_refl _)
              clear hst0 bb0 d5
              unfold badV
              go_wp2_with (refine wpList_store_run (by rfl) _ _ _ (by rfl) _ _ _ (by rfl) (by rfl) hst.out ?_)
              clear hst
              simp [bodyPost, results, Tryz.results31, go_sem, y0, y1, y2, y3, y4]
              refine ⟨?_, finB.out⟩
              unfold HtR
              rw [VV.out]
              rfl
            | false =>
              by_cases e2 : hv < (tk : Int)
              · have VV : Hid (R.2 = some k) := hid (by rw [ST.out, if_pos (errH.out.2 (by first | exact Or.inl rfl | exact Or.inr (Or.inl (by assumption)) | exact Or.inr (Or.inr (Or.inl (by assumption))) | exact Or.inr (Or.inr (Or.inr ⟨enT.out, by assumption⟩))))])
                clear ST errH bhH nwB hjmp hend hRH hFH hIH hnH enH juH h24
                go_wp2_with (first
                    | (go_at_call 37; with_reducible refine Calls.mono (cM.out _) ?_; rintro e w' ⟨rfl, rfl⟩))
                with_reducible refine Calls.mono (cAt.out _) ?_
                rintro e w5 ⟨rfl, b5⟩
                have d5 : Hid (DH w n s w5) := hdh.out.below b5
                clear b5 hdh cAt cM o1 o2 q1 q2 c1 c2 c3 gl nwI nwI2
                obtain ⟨W2, hst0, y0, y1, y2, y3, y4, bb0⟩ := store_bad d5.out.bd 190 ((begin_ : Int) + (k : Int)) true
                have hst : Hid ((Instr.storeAt 36 (.pointer (some ⟨w.heap.size, 0, none⟩)) (.agg #[.int .i64 190, .int .i64 ((begin_ : Int) + (k : Int)), .int .i64 0, .bool true, .bool false])).run Tryz.prog w5 = .ok () W2) := hst0
                have finB : Hid (Below w.heap.size w W2) := bb0 _ _ d5.out.b (Nat.le_refl _)
                clear hst0 bb0 d5
                unfold badV
                go_wp2_with (refine wpList_store_run (by rfl) _ _ _ (by rfl) _ _ _ (by rfl) (by rfl) hst.out ?_)
                clear hst
                simp [bodyPost, results, Tryz.results31, go_sem, y0, y1, y2, y3, y4]
                refine ⟨?_, finB.out⟩
                unfold HtR
                rw [VV.out]
                rfl
              by_cases e3 : (200 : Int) < nw
              · have VV : Hid (R.2 = some k) := hid (by rw [ST.out, if_pos (errH.out.2 (by first | exact Or.inl rfl | exact Or.inr (Or.inl (by assumption)) | exact Or.inr (Or.inr (Or.inl (by assumption))) | exact Or.inr (Or.inr (Or.inr ⟨enT.out, by assumption⟩))))])
                clear ST errH bhH nwB hjmp hend hRH hFH hIH hnH enH juH h24
                go_wp2_with (first
                    | (go_at_call 37; with_reducible refine Calls.mono (cM.out _) ?_; rintro e w' ⟨rfl, rfl⟩))
                with_reducible refine Calls.mono (cAt.out _) ?_
                rintro e w5 ⟨rfl, b5⟩
                have d5 : Hid (DH w n s w5) := hdh.out.below b5
                clear b5 hdh cAt cM o1 o2 q1 q2 c1 c2 c3 gl nwI nwI2
                obtain ⟨W2, hst0, y0, y1, y2, y3, y4, bb0⟩ := store_bad d5.out.bd 190 ((begin_ : Int) + (k : Int)) true
                have hst : Hid ((Instr.storeAt 36 (.pointer (some ⟨w.heap.size, 0, none⟩)) (.agg #[.int .i64 190, .int .i64 ((begin_ : Int) + (k : Int)), .int .i64 0, .bool true, .bool false])).run Tryz.prog w5 = .ok () W2) := hst0
                have finB : Hid (Below w.heap.size w W2) := bb0 _ _ d5.out.b (Nat.le_refl _)
                clear hst0 bb0 d5
                unfold badV
                go_wp2_with (refine wpList_store_run (by rfl) _ _ _ (by rfl) _ _ _ (by rfl) (by rfl) hst.out ?_)
                clear hst
                simp [bodyPost, results, Tryz.results31, go_sem, y0, y1, y2, y3, y4]
                refine ⟨?_, finB.out⟩
                unfold HtR
                rw [VV.out]
                rfl
              by_cases e4 : nw ≠ 0
              · have e5 : ¬ nw = 0 := e4
                have e6 : (nw != 0) = true := by rw [bne_iff_ne]; exact e4
                have e7 : (nw == 0) = false := by rw [beq_eq_false_iff_ne]; exact e4
                have VV : Hid (R.2 = some k) := hid (by rw [ST.out, if_pos (errH.out.2 (by first | exact Or.inl rfl | exact Or.inr (Or.inl (by assumption)) | exact Or.inr (Or.inr (Or.inl (by assumption))) | exact Or.inr (Or.inr (Or.inr ⟨enT.out, by assumption⟩))))])
                clear ST errH bhH nwB hjmp hend hRH hFH hIH hnH enH juH h24
                go_wp2_with (first
                    | (go_at_call 37; with_reducible refine Calls.mono (cM.out _) ?_; rintro e w' ⟨rfl, rfl⟩))
                with_reducible refine Calls.mono (cAt.out _) ?_
                rintro e w5 ⟨rfl, b5⟩
                have d5 : Hid (DH w n s w5) := hdh.out.below b5
                clear b5 hdh cAt cM o1 o2 q1 q2 c1 c2 c3 gl nwI nwI2
                obtain ⟨W2, hst0, y0, y1, y2, y3, y4, bb0⟩ := store_bad d5.out.bd 190 ((begin_ : Int) + (k : Int)) true
                have hst : Hid ((Instr.storeAt 36 (.pointer (some ⟨w.heap.size, 0, none⟩)) (.agg #[.int .i64 190, .int .i64 ((begin_ : Int) + (k : Int)), .int .i64 0, .bool true, .bool false])).run Tryz.prog w5 = .ok () W2) := hst0
                have finB : Hid (Below w.heap.size w W2) := bb0 _ _ d5.out.b (Nat.le_refl _)
                clear hst0 bb0 d5
                unfold badV
                go_wp2_with (refine wpList_store_run (by rfl) _ _ _ (by rfl) _ _ _ (by rfl) (by rfl) hst.out ?_)
                clear hst
                simp [bodyPost, results, Tryz.results31, go_sem, y0, y1, y2, y3, y4]
                refine ⟨?_, finB.out⟩
                unfold HtR
                rw [VV.out]
                rfl
              have e5 : nw = 0 := Classical.not_not.1 e4
              have n10 : decide ((tc : Int) = 10) = false := decide_eq_false (by have := enH.out.1 enT.out; omega)
              have n11 : decide ((tc : Int) = 11) = false := decide_eq_false (by have := enH.out.1 enT.out; omega)
              have m10 : ((tc : Int) == 10) = false := by rw [beq_eq_false_iff_ne]; have := enH.out.1 enT.out; omega
              have m11 : ((tc : Int) == 11) = false := by rw [beq_eq_false_iff_ne]; have := enH.out.1 enT.out; omega
              have nb := nwB.out e2 e3
              have NOT : Hid (¬ errD s k tc) := hid (fun h => by
                rcases errH.out.1 h with q | q | q | ⟨q, q2⟩
                · cases q
                · exact e2 q
                · exact e3 q
                · exact e4 q2)
              have RN : Hid (hgtD (l.drop (k + 1)) (k + 1) (nextD s k ⟨tc, ta, tb⟩ nw) = R) := hid (by rw [ST.out, if_neg NOT.out, bhH.out])
              have sN : Hid (nextD s k ⟨tc, ta, tb⟩ nw = s) := hid (by unfold nextD; rw [if_pos enT.out])
              rw [sN.out] at RN
              have dN : Hid (DH w n s (wr.alloc (.cells #[.int .i64 ((k + 1 : Nat) : Int)] 3))) := hdh.out.below ((Below.refl _ _).alloc (Nat.le_refl _) _)
              clear ST errH bhH nwB hjmp hend hRH NOT sN cAt
              clear enH juH hv1 hv2 h24
              go_wp2_with (first
                  | (go_at_call 37; with_reducible refine Calls.mono (cM.out _) ?_; rintro e w' ⟨rfl, rfl⟩))
              go_loopw [15] (fun v15 wx => v15 = .int .i64 0 ∧ Hid (DH w n s wx)) (fun _ _ => 0)
              case atStart => exact ⟨rfl, by first | exact dN | (rw [← kw]; exact dN)⟩
              case round =>
                obtain ⟨rfl, hd5⟩ := hrel
                go_wp2_with fail
                exact ⟨⟨k + 1, s, by first | rfl | (rw [kw]), by omega, RN, hd5⟩, by first | (simp [intOf]; done) | (simp [intOf]; omega)⟩
          have enF : Hid ((rowF tc).en = false) := hid (by rw [← Bool.not_eq_true]; intro q; have := enH.out.1 q; omega)
          have d13 : decide ((tc : Int) = 13) = false := decide_eq_false (by omega)
          have b13 : ((tc : Int) == 13) = false := by rw [beq_eq_false_iff_ne]; omega
          have d24 : decide ((tc : Int) = 24) = false := decide_eq_false (by omega)
          have b24 : ((tc : Int) == 24) = false := by rw [beq_eq_false_iff_ne]; omega
          cases pv with
          | true =>
            have VV : Hid (R.2 = some k) := hid (by rw [ST.out, if_pos (errH.out.2 (by first | exact Or.inl rfl | exact Or.inr (Or.inl (by assumption)) | exact Or.inr (Or.inr (Or.inl (by assumption))) | exact Or.inr (Or.inr (Or.inr ⟨enT.out, by assumption⟩))))])
            clear ST errH bhH nwB hjmp hend hRH hFH hIH hnH enH juH 
            go_wp2_with (first
                | (go_at_call 37; with_reducible refine Calls.mono (cM.out _) ?_; rintro e w' ⟨rfl, rfl⟩))
            with_reducible refine Calls.mono (cAt.out _) ?_
            rintro e w5 ⟨rfl, b5⟩
            have d5 : Hid (DH w n s w5) := hdh.out.below b5
            clear b5 hdh cAt cM o1 o2 q1 q2 c1 c2 c3 gl nwI nwI2
            obtain ⟨W2, hst0, y0, y1, y2, y3, y4, bb0⟩ := store_bad d5.out.bd 190 ((begin_ : Int) + (k : Int)) true
            have hst : Hid ((Instr.storeAt 36 (.pointer (some ⟨w.heap.size, 0, none⟩)) (.agg #[.int .i64 190, .int .i64 ((begin_ : Int) + (k : Int)), .int .i64 0, .bool true, .bool false])).run Tryz.prog w5 = .ok () W2) := hst0
            have finB : Hid (Below w.heap.size w W2) := bb0 _ _ d5.out.b (Nat.le_refl _)
            clear hst0 bb0 d5
            unfold badV
            go_wp2_with (refine wpList_store_run (by rfl) _ _ _ (by rfl) _ _ _ (by rfl) (by rfl) hst.out ?_)
            clear hst
            simp [bodyPost, results, Tryz.results31, go_sem, y0, y1, y2, y3, y4]
            refine ⟨?_, finB.out⟩
            unfold HtR
            rw [VV.out]
            rfl
          | false =>
            by_cases e2 : hv < (tk : Int)
            · have VV : Hid (R.2 = some k) := hid (by rw [ST.out, if_pos (errH.out.2 (by first | exact Or.inl rfl | exact Or.inr (Or.inl (by assumption)) | exact Or.inr (Or.inr (Or.inl (by assumption))) | exact Or.inr (Or.inr (Or.inr ⟨enT.out, by assumption⟩))))])
              clear ST errH bhH nwB hjmp hend hRH hFH hIH hnH enH juH 
              go_wp2_with (first
                  | (go_at_call 37; with_reducible refine Calls.mono (cM.out _) ?_; rintro e w' ⟨rfl, rfl⟩))
              with_reducible refine Calls.mono (cAt.out _) ?_
              rintro e w5 ⟨rfl, b5⟩
              have d5 : Hid (DH w n s w5) := hdh.out.below b5
              clear b5 hdh cAt cM o1 o2 q1 q2 c1 c2 c3 gl nwI nwI2
              obtain ⟨W2, hst0, y0, y1, y2, y3, y4, bb0⟩ := store_bad d5.out.bd 190 ((begin_ : Int) + (k : Int)) true
              have hst : Hid ((Instr.storeAt 36 (.pointer (some ⟨w.heap.size, 0, none⟩)) (.agg #[.int .i64 190, .int .i64 ((begin_ : Int) + (k : Int)), .int .i64 0, .bool true, .bool false])).run Tryz.prog w5 = .ok () W2) := hst0
              have finB : Hid (Below w.heap.size w W2) := bb0 _ _ d5.out.b (Nat.le_refl _)
              clear hst0 bb0 d5
              unfold badV
              go_wp2_with (refine wpList_store_run (by rfl) _ _ _ (by rfl) _ _ _ (by rfl) (by rfl) hst.out ?_)
              clear hst
              simp [bodyPost, results, Tryz.results31, go_sem, y0, y1, y2, y3, y4]
              refine ⟨?_, finB.out⟩
              unfold HtR
              rw [VV.out]
              rfl
            by_cases e3 : (200 : Int) < nw
            · have VV : Hid (R.2 = some k) := hid (by rw [ST.out, if_pos (errH.out.2 (by first | exact Or.inl rfl | exact Or.inr (Or.inl (by assumption)) | exact Or.inr (Or.inr (Or.inl (by assumption))) | exact Or.inr (Or.inr (Or.inr ⟨enT.out, by assumption⟩))))])
              clear ST errH bhH nwB hjmp hend hRH hFH hIH hnH enH juH 
              go_wp2_with (first
                  | (go_at_call 37; with_reducible refine Calls.mono (cM.out _) ?_; rintro e w' ⟨rfl, rfl⟩))
              with_reducible refine Calls.mono (cAt.out _) ?_
              rintro e w5 ⟨rfl, b5⟩
              have d5 : Hid (DH w n s w5) := hdh.out.below b5
              clear b5 hdh cAt cM o1 o2 q1 q2 c1 c2 c3 gl nwI nwI2
              obtain ⟨W2, hst0, y0, y1, y2, y3, y4, bb0⟩ := store_bad d5.out.bd 190 ((begin_ : Int) + (k : Int)) true
              have hst : Hid ((Instr.storeAt 36 (.pointer (some ⟨w.heap.size, 0, none⟩)) (.agg #[.int .i64 190, .int .i64 ((begin_ : Int) + (k : Int)), .int .i64 0, .bool true, .bool false])).run Tryz.prog w5 = .ok () W2) := hst0
              have finB : Hid (Below w.heap.size w W2) := bb0 _ _ d5.out.b (Nat.le_refl _)
              clear hst0 bb0 d5
              unfold badV
              go_wp2_with (refine wpList_store_run (by rfl) _ _ _ (by rfl) _ _ _ (by rfl) (by rfl) hst.out ?_)
              clear hst
              simp [bodyPost, results, Tryz.results31, go_sem, y0, y1, y2, y3, y4]
              refine ⟨?_, finB.out⟩
              unfold HtR
              rw [VV.out]
              rfl
            by_cases h10 : tc = 10
            · have juT : Hid ((rowF tc).a = 9) := juH.out.2 (by omega)
              have d10 : decide ((tc : Int) = 10) = true := decide_eq_true (by omega)
              have b10 : ((tc : Int) == 10) = true := by rw [beq_iff_eq]; omega
              have nb := nwB.out e2 e3
              have NOT : Hid (¬ errD s k tc) := hid (fun h => by
                rcases errH.out.1 h with q | q | q | ⟨q, q2⟩
                · cases q
                · exact e2 q
                · exact e3 q
                · rw [enF.out] at q; cases q)
              have RN : Hid (hgtD (l.drop (k + 1)) (k + 1) (nextD s k ⟨tc, ta, tb⟩ nw) = R) := hid (by rw [ST.out, if_neg NOT.out, bhH.out])
              have sN : Hid (nextD s k ⟨tc, ta, tb⟩ nw = bringD (bringD s (k + 1) nw) ta.toNat nw) := hid (by unfold nextD; rw [if_neg (by rw [enF.out]; simp), if_pos juT.out])
              rw [sN.out] at RN
              have kn1 := hend.out enF.out
              obtain ⟨ja, hja⟩ : ∃ ja : Nat, ta = (ja : Int) := ⟨ta.toNat, by have := hjmp.out juT.out; omega⟩
              have hjaN : Hid (ta.toNat = ja) := hid (by omega)
              rw [hjaN.out] at RN
              have jan : ja < n := by have := hjmp.out juT.out; omega
              have N0 : Hid (NX3 w n s k nw ja (wr.heap.size + 1) 2 (fun i : Nat => if i = 0 then k + 1 else ja) 0 ((wr.alloc (.cells #[.int .i64 ((k : Int) + 1)] 3)).alloc (.cells #[.int .i64 ((k : Int) + 1), .int .i64 (ja : Int)] 3))) := NX3.two hdh.out
              clear ST errH bhH nwB hjmp hend hRH NOT sN cAt
              clear enH juH hv1 hv2  h10
              subst hja
              go_wp2_with (first
                  | (go_at_call 37; with_reducible refine Calls.mono (cM.out _) ?_; rintro e w' ⟨rfl, rfl⟩))
              clear c1 c2 c3 o1 o2 q1 q2 cM
              generalize hWX : World.alloc _ _ = WX at N0 ⊢
              clear hWX
              go_loopw [15] (fun v15 wx => ∃ j : Nat, v15 = .int .i64 (j : Int) ∧ j ≤ 2 ∧ Hid (NX3 w n s k nw ja (wr.heap.size + 1) 2 (fun i : Nat => if i = 0 then k + 1 else ja) j wx)) (fun v15 _ => 2 - (intOf v15).toNat)
              case atStart => exact ⟨0, rfl, by omega, N0⟩
              case round =>
                clear N0
                obtain ⟨j, rfl, hjm, hd5⟩ := hrel
                have j0 : (0 : Int) ≤ (j : Int) := by omega
                by_cases hj : j < 2
                · have jI : (j : Int) < 2 := by omega
                  have jw : IntKind.i64.wrap ((j : Int) + 1) = ((j + 1 : Nat) : Int) := IntWalk.i64_in _ (by omega)
                  obtain ⟨z1, z2⟩ := hd5.out.nx.2 j hj
                  obtain ⟨tt, htt⟩ : ∃ tt : Nat, (fun i : Nat => if i = 0 then k + 1 else ja) j = tt := ⟨_, rfl⟩
                  have ttn : tt < n := by rw [← htt]; first | omega | (dsimp only; split <;> omega)
                  have ttI : (tt : Int) < (n : Int) := by omega
                  have tt0 : (0 : Int) ≤ (tt : Int) := by omega
                  have httH : Hid ((fun i : Nat => if i = 0 then k + 1 else ja) j = tt) := htt
                  have htt2 := htt
                  dsimp only at z1 htt2
                  rw [htt2] at z1
                  clear htt2
                  obtain ⟨oo1, oo2⟩ := hd5.out.dh.o.2 tt ttn
                  obtain ⟨qq1, qq2⟩ := hd5.out.dh.q.2 tt ttn
                  dsimp only at oo1 qq1
                  have NEX : Hid (∀ pv : Bool, pv = ((sj s k nw ja j).2 tt || (decide (0 ≤ (sj s k nw ja j).1 tt) && decide ((sj s k nw ja j).1 tt ≠ nw))) → NX3 w n s k nw ja (_) 2 (fun i : Nat => if i = 0 then k + 1 else ja) (j + 1) ((wr.setCell ⟨w.heap.size + 2, tt, none⟩ (.bool pv)).setCell ⟨w.heap.size + 1, tt, none⟩ (.int .i64 nw))) := fun pv hp => hd5.out.step hj htt ttn nb hp ⟨by omega, by rw [← htt]⟩
                  clear htt httH hd5
                  generalize (sj s k nw ja j).1 tt = ov at *
                  generalize (sj s k nw ja j).2 tt = pb at *
                  cases pb with
                  | true =>
                    go_wp2_with fail
                    exact ⟨⟨j + 1, by first | rfl | (rw [jw]), by omega, NEX.out _ (by simp [*])⟩, by first | (simp [intOf]; done) | (simp [intOf]; omega)⟩
                  | false =>
                    by_cases g1 : (0 : Int) ≤ ov
                    · by_cases g2 : ov = nw
                      · have g3 : decide (ov = nw) = true := decide_eq_true g2
                        have g4 : (ov == nw) = true := by rw [beq_iff_eq]; exact g2
                        subst g2
                        go_wp2_with fail
                        exact ⟨⟨j + 1, by first | rfl | (rw [jw]), by omega, NEX.out _ (by simp [*])⟩, by first | (simp [intOf]; done) | (simp [intOf]; omega)⟩
                      · have g3 : decide (ov = nw) = false := decide_eq_false g2
                        go_wp2_with fail
                        exact ⟨⟨j + 1, by first | rfl | (rw [jw]), by omega, NEX.out _ (by simp [*])⟩, by first | (simp [intOf]; done) | (simp [intOf]; omega)⟩
                    · go_wp2_with fail
                      exact ⟨⟨j + 1, by first | rfl | (rw [jw]), by omega, NEX.out _ (by simp [*])⟩, by first | (simp [intOf]; done) | (simp [intOf]; omega)⟩
                · have jI : ¬ (j : Int) < 2 := by omega
                  have ej : j = 2 := by omega
                  have dL : Hid (DH w n (sj s k nw ja 2) wr) := by rw [← ej]; exact hd5.out.dh
                  clear hd5 ej
                  go_wp2_with fail
                  exact ⟨⟨k + 1, sj s k nw ja 2, by first | rfl | (rw [kw]), by omega, RN, dL⟩, by first | (simp [intOf]; done) | (simp [intOf]; omega)⟩
            by_cases h11 : tc = 11
            · have juT : Hid ((rowF tc).a = 9) := juH.out.2 (by omega)
              have d10 : decide ((tc : Int) = 10) = false := decide_eq_false (by omega)
              have b10 : ((tc : Int) == 10) = false := by rw [beq_eq_false_iff_ne]; omega
              have d11 : decide ((tc : Int) = 11) = true := decide_eq_true (by omega)
              have b11 : ((tc : Int) == 11) = true := by rw [beq_iff_eq]; omega
              have nb := nwB.out e2 e3
              have NOT : Hid (¬ errD s k tc) := hid (fun h => by
                rcases errH.out.1 h with q | q | q | ⟨q, q2⟩
                · cases q
                · exact e2 q
                · exact e3 q
                · rw [enF.out] at q; cases q)
              have RN : Hid (hgtD (l.drop (k + 1)) (k + 1) (nextD s k ⟨tc, ta, tb⟩ nw) = R) := hid (by rw [ST.out, if_neg NOT.out, bhH.out])
              have sN : Hid (nextD s k ⟨tc, ta, tb⟩ nw = bringD (bringD s (k + 1) nw) ta.toNat nw) := hid (by unfold nextD; rw [if_neg (by rw [enF.out]; simp), if_pos juT.out])
              rw [sN.out] at RN
              have kn1 := hend.out enF.out
              obtain ⟨ja, hja⟩ : ∃ ja : Nat, ta = (ja : Int) := ⟨ta.toNat, by have := hjmp.out juT.out; omega⟩
              have hjaN : Hid (ta.toNat = ja) := hid (by omega)
              rw [hjaN.out] at RN
              have jan : ja < n := by have := hjmp.out juT.out; omega
              have N0 : Hid (NX3 w n s k nw ja (wr.heap.size + 1) 2 (fun i : Nat => if i = 0 then k + 1 else ja) 0 ((wr.alloc (.cells #[.int .i64 ((k : Int) + 1)] 3)).alloc (.cells #[.int .i64 ((k : Int) + 1), .int .i64 (ja : Int)] 3))) := NX3.two hdh.out
              clear ST errH bhH nwB hjmp hend hRH NOT sN cAt
              clear enH juH hv1 hv2  h11
              subst hja
              go_wp2_with (first
                  | (go_at_call 37; with_reducible refine Calls.mono (cM.out _) ?_; rintro e w' ⟨rfl, rfl⟩))
              clear c1 c2 c3 o1 o2 q1 q2 cM
              generalize hWX : World.alloc _ _ = WX at N0 ⊢
              clear hWX
              go_loopw [15] (fun v15 wx => ∃ j : Nat, v15 = .int .i64 (j : Int) ∧ j ≤ 2 ∧ Hid (NX3 w n s k nw ja (wr.heap.size + 1) 2 (fun i : Nat => if i = 0 then k + 1 else ja) j wx)) (fun v15 _ => 2 - (intOf v15).toNat)
              case atStart => exact ⟨0, rfl, by omega, N0⟩
              case round =>
                clear N0
                obtain ⟨j, rfl, hjm, hd5⟩ := hrel
                have j0 : (0 : Int) ≤ (j : Int) := by omega
                by_cases hj : j < 2
                · have jI : (j : Int) < 2 := by omega
                  have jw : IntKind.i64.wrap ((j : Int) + 1) = ((j + 1 : Nat) : Int) := IntWalk.i64_in _ (by omega)
                  obtain ⟨z1, z2⟩ := hd5.out.nx.2 j hj
                  obtain ⟨tt, htt⟩ : ∃ tt : Nat, (fun i : Nat => if i = 0 then k + 1 else ja) j = tt := ⟨_, rfl⟩
                  have ttn : tt < n := by rw [← htt]; first | omega | (dsimp only; split <;> omega)
                  have ttI : (tt : Int) < (n : Int) := by omega
                  have tt0 : (0 : Int) ≤ (tt : Int) := by omega
                  have httH : Hid ((fun i : Nat => if i = 0 then k + 1 else ja) j = tt) := htt
                  have htt2 := htt
                  dsimp only at z1 htt2
                  rw [htt2] at z1
                  clear htt2
                  obtain ⟨oo1, oo2⟩ := hd5.out.dh.o.2 tt ttn
                  obtain ⟨qq1, qq2⟩ := hd5.out.dh.q.2 tt ttn
                  dsimp only at oo1 qq1
                  have NEX : Hid (∀ pv : Bool, pv = ((sj s k nw ja j).2 tt || (decide (0 ≤ (sj s k nw ja j).1 tt) && decide ((sj s k nw ja j).1 tt ≠ nw))) → NX3 w n s k nw ja (_) 2 (fun i : Nat => if i = 0 then k + 1 else ja) (j + 1) ((wr.setCell ⟨w.heap.size + 2, tt, none⟩ (.bool pv)).setCell ⟨w.heap.size + 1, tt, none⟩ (.int .i64 nw))) := fun pv hp => hd5.out.step hj htt ttn nb hp ⟨by omega, by rw [← htt]⟩
                  clear htt httH hd5
                  generalize (sj s k nw ja j).1 tt = ov at *
                  generalize (sj s k nw ja j).2 tt = pb at *
                  cases pb with
                  | true =>
                    go_wp2_with fail
                    exact ⟨⟨j + 1, by first | rfl | (rw [jw]), by omega, NEX.out _ (by simp [*])⟩, by first | (simp [intOf]; done) | (simp [intOf]; omega)⟩
                  | false =>
                    by_cases g1 : (0 : Int) ≤ ov
                    · by_cases g2 : ov = nw
                      · have g3 : decide (ov = nw) = true := decide_eq_true g2
                        have g4 : (ov == nw) = true := by rw [beq_iff_eq]; exact g2
                        subst g2
                        go_wp2_with fail
                        exact ⟨⟨j + 1, by first | rfl | (rw [jw]), by omega, NEX.out _ (by simp [*])⟩, by first | (simp [intOf]; done) | (simp [intOf]; omega)⟩
                      · have g3 : decide (ov = nw) = false := decide_eq_false g2
                        go_wp2_with fail
                        exact ⟨⟨j + 1, by first | rfl | (rw [jw]), by omega, NEX.out _ (by simp [*])⟩, by first | (simp [intOf]; done) | (simp [intOf]; omega)⟩
                    · go_wp2_with fail
                      exact ⟨⟨j + 1, by first | rfl | (rw [jw]), by omega, NEX.out _ (by simp [*])⟩, by first | (simp [intOf]; done) | (simp [intOf]; omega)⟩
                · have jI : ¬ (j : Int) < 2 := by omega
                  have ej : j = 2 := by omega
                  have dL : Hid (DH w n (sj s k nw ja 2) wr) := by rw [← ej]; exact hd5.out.dh
                  clear hd5 ej
                  go_wp2_with fail
                  exact ⟨⟨k + 1, sj s k nw ja 2, by first | rfl | (rw [kw]), by omega, RN, dL⟩, by first | (simp [intOf]; done) | (simp [intOf]; omega)⟩
            have juF : Hid (¬ (rowF tc).a = 9) := hid (fun q => by have := juH.out.1 q; omega)
            have d10 : decide ((tc : Int) = 10) = false := decide_eq_false (by omega)
            have b10 : ((tc : Int) == 10) = false := by rw [beq_eq_false_iff_ne]; omega
            have d11 : decide ((tc : Int) = 11) = false := decide_eq_false (by omega)
            have b11 : ((tc : Int) == 11) = false := by rw [beq_eq_false_iff_ne]; omega
            clear h10 h11
            have nb := nwB.out e2 e3
            have NOT : Hid (¬ errD s k tc) := hid (fun h => by
              rcases errH.out.1 h with q | q | q | ⟨q, q2⟩
              · cases q
              · exact e2 q
              · exact e3 q
              · rw [enF.out] at q; cases q)
            have RN : Hid (hgtD (l.drop (k + 1)) (k + 1) (nextD s k ⟨tc, ta, tb⟩ nw) = R) := hid (by rw [ST.out, if_neg NOT.out, bhH.out])
            have sN : Hid (nextD s k ⟨tc, ta, tb⟩ nw = bringD s (k + 1) nw) := hid (by unfold nextD; rw [if_neg (by rw [enF.out]; simp), if_neg juF.out])
            rw [sN.out] at RN
            have kn1 := hend.out enF.out
            have N0 : Hid (NX3 w n s k nw 0 (wr.heap.size) 1 (fun i : Nat => k + 1) 0 (wr.alloc (.cells #[.int .i64 ((k : Int) + 1)] 3))) := NX3.one hdh.out
            clear ST errH bhH nwB hjmp hend hRH NOT sN cAt
            clear enH juH hv1 hv2 
            go_wp2_with (first
                | (go_at_call 37; with_reducible refine Calls.mono (cM.out _) ?_; rintro e w' ⟨rfl, rfl⟩))
            clear c1 c2 c3 o1 o2 q1 q2 cM
            generalize hWX : World.alloc _ _ = WX at N0 ⊢
            clear hWX
            go_loopw [15] (fun v15 wx => ∃ j : Nat, v15 = .int .i64 (j : Int) ∧ j ≤ 1 ∧ Hid (NX3 w n s k nw 0 (wr.heap.size) 1 (fun i : Nat => k + 1) j wx)) (fun v15 _ => 1 - (intOf v15).toNat)
            case atStart => exact ⟨0, rfl, by omega, N0⟩
            case round =>
              clear N0
              obtain ⟨j, rfl, hjm, hd5⟩ := hrel
              have j0 : (0 : Int) ≤ (j : Int) := by omega
              by_cases hj : j < 1
              · have jI : (j : Int) < 1 := by omega
                have jw : IntKind.i64.wrap ((j : Int) + 1) = ((j + 1 : Nat) : Int) := IntWalk.i64_in _ (by omega)
                obtain ⟨z1, z2⟩ := hd5.out.nx.2 j hj
                obtain ⟨tt, htt⟩ : ∃ tt : Nat, (fun i : Nat => k + 1) j = tt := ⟨_, rfl⟩
                have ttn : tt < n := by rw [← htt]; first | omega | (dsimp only; split <;> omega)
                have ttI : (tt : Int) < (n : Int) := by omega
                have tt0 : (0 : Int) ≤ (tt : Int) := by omega
                have httH : Hid ((fun i : Nat => k + 1) j = tt) := htt
                have htt2 := htt
                dsimp only at z1 htt2
                rw [htt2] at z1
                clear htt2
                obtain ⟨oo1, oo2⟩ := hd5.out.dh.o.2 tt ttn
                obtain ⟨qq1, qq2⟩ := hd5.out.dh.q.2 tt ttn
                dsimp only at oo1 qq1
                have NEX : Hid (∀ pv : Bool, pv = ((sj s k nw 0 j).2 tt || (decide (0 ≤ (sj s k nw 0 j).1 tt) && decide ((sj s k nw 0 j).1 tt ≠ nw))) → NX3 w n s k nw 0 (_) 1 (fun i : Nat => k + 1) (j + 1) ((wr.setCell ⟨w.heap.size + 2, tt, none⟩ (.bool pv)).setCell ⟨w.heap.size + 1, tt, none⟩ (.int .i64 nw))) := fun pv hp => hd5.out.step hj htt ttn nb hp ⟨by omega, by rw [← htt]; have e : j = 0 := (by omega); rw [if_pos e]⟩
                clear htt httH hd5
                generalize (sj s k nw 0 j).1 tt = ov at *
                generalize (sj s k nw 0 j).2 tt = pb at *
                cases pb with
                | true =>
                  go_wp2_with fail
                  exact ⟨⟨j + 1, by first | rfl | (rw [jw]), by omega, NEX.out _ (by simp [*])⟩, by first | (simp [intOf]; done) | (simp [intOf]; omega)⟩
                | false =>
                  by_cases g1 : (0 : Int) ≤ ov
                  · by_cases g2 : ov = nw
                    · have g3 : decide (ov = nw) = true := decide_eq_true g2
                      have g4 : (ov == nw) = true := by rw [beq_iff_eq]; exact g2
                      subst g2
                      go_wp2_with fail
                      exact ⟨⟨j + 1, by first | rfl | (rw [jw]), by omega, NEX.out _ (by simp [*])⟩, by first | (simp [intOf]; done) | (simp [intOf]; omega)⟩
                    · have g3 : decide (ov = nw) = false := decide_eq_false g2
                      go_wp2_with fail
                      exact ⟨⟨j + 1, by first | rfl | (rw [jw]), by omega, NEX.out _ (by simp [*])⟩, by first | (simp [intOf]; done) | (simp [intOf]; omega)⟩
                  · go_wp2_with fail
                    exact ⟨⟨j + 1, by first | rfl | (rw [jw]), by omega, NEX.out _ (by simp [*])⟩, by first | (simp [intOf]; done) | (simp [intOf]; omega)⟩
              · have jI : ¬ (j : Int) < 1 := by omega
                have ej : j = 1 := by omega
                have dL : Hid (DH w n (sj s k nw 0 1) wr) := by rw [← ej]; exact hd5.out.dh
                clear hd5 ej
                go_wp2_with fail
                exact ⟨⟨k + 1, sj s k nw 0 1, by first | rfl | (rw [kw]), by omega, RN, dL⟩, by first | (simp [intOf]; done) | (simp [intOf]; omega)⟩
        · have kI : ¬ (k : Int) < (n : Int) := by omega
          have R2 : Hid ((s, (none : Option Nat)) = R) := by
            have h2 := hrr.out
            rw [List.drop_eq_nil_of_le (by rw [hnH.out]; omega)] at h2
            exact h2
          obtain ⟨W2, hst0, y0, y1, y2, y3, y4, bb0, rw0⟩ := store_bad2 hdh.out.bd hdh.out.o (by omega) 0 0 false
          have hst : Hid ((Instr.storeAt 36 (.pointer (some ⟨w.heap.size, 0, none⟩)) (.agg #[.int .i64 0, .int .i64 0, .int .i64 0, .bool false, .bool false])).run Tryz.prog wr = .ok () W2) := hst0
          have finB : Hid (Below w.heap.size w W2) := bb0 _ _ hdh.out.b (Nat.le_refl _)
          have finR : Hid (RW W2 (w.heap.size + 1) n (fun j => .int .i64 (s.1 j))) := rw0
          clear hst0 bb0 rw0 hdh hrr hRH hFH hIH hnH
          go_wp2_with (refine wpList_store_run (by rfl) _ _ _ (by rfl) _ _ _ (by rfl) (by rfl) hst.out ?_)
          clear hst
          simp [bodyPost, results, Tryz.results31, go_sem, y0, y1, y2, y3, y4]
          refine ⟨?_, finB.out⟩
          unfold HtR
          rw [← R2.out]
          exact ⟨w.heap.size + 1, by omega, rfl, finR.out⟩
end Go.Proofs.YtdfnomglkibfbaaGreatDoor.Vf
