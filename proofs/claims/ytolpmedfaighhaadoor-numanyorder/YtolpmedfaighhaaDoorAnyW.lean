
import Derived.Test.YtolpmedfaighhaaDoorAnyA
import Derived.Deep.RegionWith
import Derived.Deep.RegionHeld3
namespace Go.Proofs.YtolpmedfaighhaaDoor
open Go.RowKit Go.Shelf
set_option linter.unusedVariables false
set_option linter.unusedSimpArgs false
theorem bool_info : (Tryd.prog.info? 4).map (fun i => (i.zero, i.bytes, i.size)) = some (some (.bool false), 1, 1) := by kernel_rfl
theorem make_used (n : Nat) (h : n ≤ 281474976710656) (w : World) : (Instr.makeSlice 51 (.int .i64 (n : Int)) (.int .i64 (n : Int))).run Tryd.prog w = .ok (.slice (some ⟨w.heap.size, 0, none⟩) n n) (w.alloc (.cells (madeCells #[.bool false] n) 4)) := by
  obtain ⟨i, h1, h0⟩ := Option.map_eq_some_iff.1 bool_info
  have h2 : i.zero = some (.bool false) := congrArg (·.1) h0
  have h3 : i.bytes = 1 := congrArg (·.2.1) h0
  have h4 : i.size = 1 := congrArg (·.2.2) h0
  have := run_make (P := Tryd.prog) w 51 4 i (.bool false) Tryd.underlying51 h1 h2 .i64 .i64 (n : Int) (n : Int) (by omega) (by omega) (by rw [h3]; omega) (by omega)
  rw [h4] at this
  simpa [Value.cells] using this
theorem minus_back (v n : Int) (hv : S128 v) (hn : I64 n) (w : World) :
    Calls Tryd.prog 10 #[.agg #[.int .i64 (sH (v + n)), .int .u64 (sL (v + n))], .int .i64 n] w fun e w' => e = .returned (.agg #[.int .i64 (sH v), .int .u64 (sL v)]) ∧ Below w.heap.size w w' := by
  have e : v + n - n = v := by omega
  have := minus_next (v + n) n (by rw [e]; exact hv) hn w
  rw [e] at this; exact this
theorem minus_zero (v : Int) (hv : S128 v) (w : World) :
    Calls Tryd.prog 10 #[.agg #[.int .i64 (sH v), .int .u64 (sL v)], .int .i64 0] w fun e w' => e = .returned (.agg #[.int .i64 (sH v), .int .u64 (sL v)]) ∧ Below w.heap.size w w' := by
  have := minus_next v 0 (by rw [Int.sub_zero]; exact hv) ⟨by omega, by omega⟩ w
  rw [Int.sub_zero] at this; exact this
theorem cmp_up (v n : Int) (h : 0 < n) : cmpI (v + n) v = 1 := by unfold cmpI; rw [if_neg (by omega), if_pos (by omega)]
theorem cmp_dn (v n : Int) (h : n < 0) : cmpI (v + n) v = -1 := by unfold cmpI; rw [if_pos (by omega)]
theorem cmp_at (v n : Int) (h : n = 0) : cmpI (v + n) v = 0 := by unfold cmpI; rw [if_neg (by omega), if_neg (by omega)]
set_option maxRecDepth 100000 in
set_option maxHeartbeats 8000000 in
theorem anyOrder_some (b off len cap : Nat) (ap : Option Addr) (lp cp : Nat) (z y : Nat → Int) (w : World) (hlen : 0 < len) (hmax : len ≤ 281474976710656) (hz : ∀ i, I64 (z i)) (hbk : b < w.heap.size)
    (hcell : ∀ i, i < len → w.cell? ⟨b, off + i, none⟩ = some (.int .i64 (z i))) (hlp : lp ≤ 9223372036854775807) (hperm : lp = 0 ∨ ∃ pb po, ap = some ⟨pb, po, none⟩ ∧ pb < w.heap.size ∧ ∀ i, i < lp → w.cell? ⟨pb, po + i, none⟩ = some (.int .i64 (y i))) (hg : ET w) :
    Calls Tryd.prog 6 #[.slice (some ⟨b, off, none⟩) len cap, .slice ap lp cp] w fun e w' => e = .returned (.bool true) ∧ Below w.heap.size w w' := by
  have hmk := make_used len hmax
  have hperm' : Hid _ := hperm
  clear hperm
  go_enter Tryd.func6, Tryd.ntmps6
  go_wp2_with fail
  refine (live_any _ hg).mono ?_
  rintro e w1 ⟨rfl, hb1⟩
  go_wp2_with fail
  clear hmk
  go_loopw [8] (fun i wr => ∃ (k : Nat), k ≤ len ∧ i = .int .i64 k ∧ AO w1.heap.size w1 len (sumTo z k) 0 (fun _ => false) wr) (fun i _ => len - (intOf i).toNat)
  case atStart =>
    exact ⟨0, Nat.zero_le _, rfl, AO.start w1 len _⟩
  case round =>
    obtain ⟨k, hk, rfl, hI⟩ := hrel
    by_cases hlt : k < len
    · have hbl : b < w1.heap.size := by have := hb1.size; omega
      have hzk : ∀ wy, Below w1.heap.size w1 wy → wy.cell? ⟨b, off + k, none⟩ = some (.int .i64 (z k)) := fun wy hB => by
        rw [hB.cell (p := ⟨b, off + k, none⟩) hbl, hb1.cell (p := ⟨b, off + k, none⟩) hbk]; exact hcell k hlt
      have hltI : (k : Int) < (len : Int) := by omega
      have z0 := hzk _ hI.b
      have hI1 := hI.alloc (.cells #[.int .i64 (sH (sumTo z k)), .int .u64 (sL (sumTo z k))] 24)
      have z1 := hzk _ hI1.b
      have hzI := hz k
      have S0 := sumTo_S128 z hz k (by omega)
      have S1 : S128 (sumTo z k + z k) := sumTo_S128 z hz (k + 1) (by omega)
      have szw := hI.sz
      have c0 : (wr.alloc (.cells #[.int .i64 (sH (sumTo z k)), .int .u64 (sL (sumTo z k))] 24)).cell? ⟨wr.heap.size, 0, none⟩ = some (.int .i64 (sH (sumTo z k))) := by simp
      have c1 : (wr.alloc (.cells #[.int .i64 (sH (sumTo z k)), .int .u64 (sL (sumTo z k))] 24)).cell? ⟨wr.heap.size, 1, none⟩ = some (.int .u64 (sL (sumTo z k))) := by simp
      obtain ⟨a0, a1, b0, b1, us, fa0, fa1, fb0, fb1, fu, hB, sz⟩ := hI
      clear us fu
      have hzk' : Hid _ := hzk
      clear hzk hcell
      go_wp2_with fail
      have a01 := hI1.a0
      have a11 := hI1.a1
      clear a0 a1 b0 b1 fa0 fa1 fb0 fb1
      go_region_with (first | (go_at_call 8; refine (plus_next (sumTo z k) (z k) S1 hzI _).mono ?_; rintro e w2 ⟨rfl, hB2⟩; have I2 := hI1.drew.below hB2; have Y2 := I2; obtain ⟨x0, x1, x2, x3, x4, x5, x6, x7, x8, x9, x10, x11⟩ := I2))
      all_goals
        have I3 := (Y2.setA (sumTo z k + z k))
        have y0 : ((w2.setCell ⟨w1.heap.size, 0, none⟩ (.int .i64 (sH (sumTo z k + z k)))).setCell ⟨w1.heap.size, 1, none⟩ (.int .u64 (sL (sumTo z k + z k)))).cell? ⟨wr.heap.size, 0, none⟩ = some (.int .i64 (sH (sumTo z k))) := by
          rw [World.cell?_setCell_other _ _ _ _ (by intro e; injection e with e1; omega), World.cell?_setCell_other _ _ _ _ (by intro e; injection e with e1; omega), hB2.cell (p := ⟨wr.heap.size, 0, none⟩) (by simp)]; exact c0
        have y1 : ((w2.setCell ⟨w1.heap.size, 0, none⟩ (.int .i64 (sH (sumTo z k + z k)))).setCell ⟨w1.heap.size, 1, none⟩ (.int .u64 (sL (sumTo z k + z k)))).cell? ⟨wr.heap.size, 1, none⟩ = some (.int .u64 (sL (sumTo z k))) := by
          rw [World.cell?_setCell_other _ _ _ _ (by intro e; injection e with e1; omega), World.cell?_setCell_other _ _ _ _ (by intro e; injection e with e1; omega), hB2.cell (p := ⟨wr.heap.size, 1, none⟩) (by simp)]; exact c1
        have hzl : wr.heap.size < ((w2.setCell ⟨w1.heap.size, 0, none⟩ (.int .i64 (sH (sumTo z k + z k)))).setCell ⟨w1.heap.size, 1, none⟩ (.int .u64 (sL (sumTo z k + z k)))).heap.size := by
          have := hB2.size; simp at this ⊢; omega
        clear x0 x1 x2 x3 x4 x5 x6 x7 x8 x9 x10 x11 c0 c1 a01 a11 hI1 Y2
        generalize ((w2.setCell ⟨w1.heap.size, 0, none⟩ (.int .i64 (sH (sumTo z k + z k)))).setCell ⟨w1.heap.size, 1, none⟩ (.int .u64 (sL (sumTo z k + z k)))) = W3 at I3 y0 y1 hzl ⊢
        clear hB2
        have a03 := I3.a0
        have a13 := I3.a1
        go_wp2_with fail
        refine (cmp_next (sumTo z k + z k) (sumTo z k) _).mono ?_
        rintro e W4 ⟨rfl, hB4⟩
        have I4 := I3.below hB4
        have v0 := (hB4.cell (p := ⟨wr.heap.size, 0, none⟩) hzl).trans y0
        have v1 := (hB4.cell (p := ⟨wr.heap.size, 1, none⟩) hzl).trans y1
        have hzl4 : wr.heap.size < W4.heap.size := Nat.lt_of_lt_of_le hzl hB4.size
        have z4 := hzk'.out _ I4.b
        have a04 := I4.a0
        have a14 := I4.a1
        clear y0 y1 hzl hB4 a03 a13 I3 z0 z1
        have hb4 := hzk'
        rcases Int.lt_trichotomy (z k) 0 with hs | hs | hs
        · rw [cmp_dn _ _ hs]
          go_wp2_with fail
          have q1 : ¬ 0 < z k := by omega
          have q2 : z k < 0 := by omega
          have q3 : ¬ z k = 0 := by omega
          have q4 : (z k == 0) = false := beq_eq_false_iff_ne.2 q3
          refine wp_region_noPanic ?_
          refine wp_region_held_drew (S := (fun w' => (w'.cell? ⟨w1.heap.size, 0, none⟩ = some (.int .i64 (sH (sumTo z k + z k))) ∧ w'.cell? ⟨w1.heap.size, 1, none⟩ = some (.int .u64 (sL (sumTo z k + z k))) ∧ w'.cell? ⟨wr.heap.size, 0, none⟩ = some (.int .i64 (sH (sumTo z k))) ∧ w'.cell? ⟨wr.heap.size, 1, none⟩ = some (.int .u64 (sL (sumTo z k))) ∧ w'.cell? ⟨b, off + k, none⟩ = some (.int .i64 (z k)) ∧ Hid (AO w1.heap.size w1 len (sumTo z k + z k) 0 (fun _ => false) w' ∧ wr.heap.size < w'.heap.size)))) (by kernel_rfl) ?_ (fun hHeld => ?_)
          · exact ⟨a04, a14, v0, v1, z4, I4.drew, hzl4⟩
          refine wpAnyH_take (i := 0) (oi := { dst := some 35, op := Op.move (Operand.tmp 0), type := 49, pos := "law.go:146", after := #[], guard := none }) (v := ?_) rfl (by kernel_rfl) (by kernel_rfl) (by kernel_rfl) (fun _ _ _ h => h) (Or.inl ⟨by rfl, ?_⟩) (by assumption) ?_
          rotate_left 1
          · (intro w0 hSw; (try dsimp only at hSw); go_simp; try with_reducible rfl)
          (try simp only [Act.put, List.setIfInBounds_toArray, List.set_cons_zero, List.set_cons_succ])
          refine wpAnyH_take (i := 1) (oi := { dst := some 36, op := Op.move (Operand.tmp 8), type := 3, pos := "law.go:146", after := #[], guard := none }) (v := ?_) rfl (by kernel_rfl) (by kernel_rfl) (by kernel_rfl) (fun _ _ _ h => h) (Or.inl ⟨by rfl, ?_⟩) (by assumption) ?_
          rotate_left 1
          · (intro w0 hSw; (try dsimp only at hSw); go_simp; try with_reducible rfl)
          (try simp only [Act.put, List.setIfInBounds_toArray, List.set_cons_zero, List.set_cons_succ])
          refine wpAnyH_take (i := 2) (oi := { dst := some 37, op := Op.indexAddr 49 (Operand.tmp 35) (Operand.tmp 36), type := 0, pos := "law.go:146", after := #[{ on := 0, ground := Ground.data }, { on := 1, ground := Ground.data }], guard := none }) (v := ?_) rfl (by kernel_rfl) (by kernel_rfl) (by kernel_rfl) (fun _ _ _ h => h) (Or.inl ⟨by rfl, ?_⟩) (by assumption) ?_
          rotate_left 1
          · (intro w0 hSw; (try dsimp only at hSw); go_simp; try with_reducible rfl)
          (try simp only [Act.put, List.setIfInBounds_toArray, List.set_cons_zero, List.set_cons_succ])
          refine wpAnyH_take (i := 3) (oi := { dst := some 38, op := Op.load 2 (Operand.tmp 37), type := 2, pos := "law.go:146", after := #[{ on := 2, ground := Ground.data }], guard := none }) (v := ?_) rfl (by kernel_rfl) (by kernel_rfl) (by kernel_rfl) (fun _ _ _ h => h) (Or.inl ⟨by rfl, ?_⟩) (by assumption) ?_
          rotate_left 1
          · (intro w0 hSw; (try dsimp only at hSw); go_simp; try with_reducible rfl)
          (try simp only [Act.put, List.setIfInBounds_toArray, List.set_cons_zero, List.set_cons_succ])
          refine wpAnyH_take (i := 4) (oi := { dst := some 39, op := Op.binOp BinOp.gtr 2 (Operand.tmp 38) (Operand.const (Value.int IntKind.i64 0)) 2, type := 4, pos := "law.go:146", after := #[{ on := 3, ground := Ground.data }], guard := none }) (v := ?_) rfl (by kernel_rfl) (by kernel_rfl) (by kernel_rfl) (fun _ _ _ h => h) (Or.inl ⟨by rfl, ?_⟩) (by assumption) ?_
          rotate_left 1
          · (intro w0 hSw; (try dsimp only at hSw); go_simp; try with_reducible rfl)
          (try simp only [Act.put, List.setIfInBounds_toArray, List.set_cons_zero, List.set_cons_succ])
          refine wpAnyH_take (i := 5) (oi := { dst := some 40, op := Op.move (Operand.tmp 39), type := 4, pos := "law.go:146", after := #[{ on := 4, ground := Ground.data }], guard := none }) (v := ?_) rfl (by kernel_rfl) (by kernel_rfl) (by kernel_rfl) (fun _ _ _ h => h) (Or.inl ⟨by rfl, ?_⟩) (by assumption) ?_
          rotate_left 1
          · (intro w0 hSw; (try dsimp only at hSw); go_simp; try with_reducible rfl)
          (try simp only [Act.put, List.setIfInBounds_toArray, List.set_cons_zero, List.set_cons_succ])
          refine wpAnyH_take (i := 6) (oi := { dst := some 41, op := Op.move (Operand.tmp 10), type := 3, pos := "law.go:146", after := #[{ on := 5, ground := Ground.guard }], guard := some (5, true) }) (v := undef) rfl (by kernel_rfl) (by kernel_rfl) (by kernel_rfl) (fun _ _ _ h => h) (Or.inr ⟨by rfl, rfl⟩) (by assumption) ?_
          (try simp only [Act.put, List.setIfInBounds_toArray, List.set_cons_zero, List.set_cons_succ])
          refine wpAnyH_take (i := 7) (oi := { dst := some 42, op := Op.binOp BinOp.neq 3 (Operand.tmp 41) (Operand.const (Value.int IntKind.i64 1)) 3, type := 4, pos := "law.go:146", after := #[{ on := 6, ground := Ground.data }, { on := 5, ground := Ground.guard }], guard := some (5, true) }) (v := undef) rfl (by kernel_rfl) (by kernel_rfl) (by kernel_rfl) (fun _ _ _ h => h) (Or.inr ⟨by rfl, rfl⟩) (by assumption) ?_
          (try simp only [Act.put, List.setIfInBounds_toArray, List.set_cons_zero, List.set_cons_succ])
          refine wpAnyH_take (i := 8) (oi := { dst := some 43, op := Op.pick (Operand.tmp 40) (Operand.tmp 42) (Operand.const (Value.bool false)), type := 4, pos := "law.go:146", after := #[{ on := 5, ground := Ground.data }, { on := 7, ground := Ground.data }], guard := none }) (v := ?_) rfl (by kernel_rfl) (by kernel_rfl) (by kernel_rfl) (fun _ _ _ h => h) (Or.inl ⟨by rfl, ?_⟩) (by assumption) ?_
          rotate_left 1
          · (intro w0 hSw; (try dsimp only at hSw); go_simp; try with_reducible rfl)
          (try simp only [Act.put, List.setIfInBounds_toArray, List.set_cons_zero, List.set_cons_succ])
          refine wpAnyH_take (i := 9) (oi := { dst := some 44, op := Op.move (Operand.tmp 43), type := 4, pos := "law.go:146", after := #[{ on := 8, ground := Ground.data }, { on := 5, ground := Ground.chain }], guard := none }) (v := ?_) rfl (by kernel_rfl) (by kernel_rfl) (by kernel_rfl) (fun _ _ _ h => h) (Or.inl ⟨by rfl, ?_⟩) (by assumption) ?_
          rotate_left 1
          · (intro w0 hSw; (try dsimp only at hSw); go_simp; try with_reducible rfl)
          (try simp only [Act.put, List.setIfInBounds_toArray, List.set_cons_zero, List.set_cons_succ])
          refine wpAnyH_take (i := 10) (oi := { dst := some 45, op := Op.move (Operand.tmp 0), type := 49, pos := "law.go:146", after := #[{ on := 9, ground := Ground.guard }], guard := some (9, false) }) (v := ?_) rfl (by kernel_rfl) (by kernel_rfl) (by kernel_rfl) (fun _ _ _ h => h) (Or.inl ⟨by rfl, ?_⟩) (by assumption) ?_
          rotate_left 1
          · (intro w0 hSw; (try dsimp only at hSw); go_simp; try with_reducible rfl)
          (try simp only [Act.put, List.setIfInBounds_toArray, List.set_cons_zero, List.set_cons_succ])
          refine wpAnyH_take (i := 11) (oi := { dst := some 46, op := Op.move (Operand.tmp 8), type := 3, pos := "law.go:146", after := #[{ on := 9, ground := Ground.guard }], guard := some (9, false) }) (v := ?_) rfl (by kernel_rfl) (by kernel_rfl) (by kernel_rfl) (fun _ _ _ h => h) (Or.inl ⟨by rfl, ?_⟩) (by assumption) ?_
          rotate_left 1
          · (intro w0 hSw; (try dsimp only at hSw); go_simp; try with_reducible rfl)
          (try simp only [Act.put, List.setIfInBounds_toArray, List.set_cons_zero, List.set_cons_succ])
          refine wpAnyH_take (i := 12) (oi := { dst := some 47, op := Op.indexAddr 49 (Operand.tmp 45) (Operand.tmp 46), type := 0, pos := "law.go:146", after := #[{ on := 10, ground := Ground.data }, { on := 11, ground := Ground.data }, { on := 9, ground := Ground.guard }], guard := some (9, false) }) (v := ?_) rfl (by kernel_rfl) (by kernel_rfl) (by kernel_rfl) (fun _ _ _ h => h) (Or.inl ⟨by rfl, ?_⟩) (by assumption) ?_
          rotate_left 1
          · (intro w0 hSw; (try dsimp only at hSw); go_simp; try with_reducible rfl)
          (try simp only [Act.put, List.setIfInBounds_toArray, List.set_cons_zero, List.set_cons_succ])
          refine wpAnyH_take (i := 13) (oi := { dst := some 48, op := Op.load 2 (Operand.tmp 47), type := 2, pos := "law.go:146", after := #[{ on := 12, ground := Ground.data }, { on := 9, ground := Ground.guard }], guard := some (9, false) }) (v := ?_) rfl (by kernel_rfl) (by kernel_rfl) (by kernel_rfl) (fun _ _ _ h => h) (Or.inl ⟨by rfl, ?_⟩) (by assumption) ?_
          rotate_left 1
          · (intro w0 hSw; (try dsimp only at hSw); go_simp; try with_reducible rfl)
          (try simp only [Act.put, List.setIfInBounds_toArray, List.set_cons_zero, List.set_cons_succ])
          refine wpAnyH_take (i := 14) (oi := { dst := some 49, op := Op.binOp BinOp.lss 2 (Operand.tmp 48) (Operand.const (Value.int IntKind.i64 0)) 2, type := 4, pos := "law.go:146", after := #[{ on := 13, ground := Ground.data }, { on := 9, ground := Ground.guard }], guard := some (9, false) }) (v := ?_) rfl (by kernel_rfl) (by kernel_rfl) (by kernel_rfl) (fun _ _ _ h => h) (Or.inl ⟨by rfl, ?_⟩) (by assumption) ?_
          rotate_left 1
          · (intro w0 hSw; (try dsimp only at hSw); go_simp; try with_reducible rfl)
          (try simp only [Act.put, List.setIfInBounds_toArray, List.set_cons_zero, List.set_cons_succ])
          refine wpAnyH_take (i := 15) (oi := { dst := some 50, op := Op.move (Operand.tmp 49), type := 4, pos := "law.go:146", after := #[{ on := 14, ground := Ground.data }, { on := 9, ground := Ground.chain }, { on := 9, ground := Ground.guard }], guard := some (9, false) }) (v := ?_) rfl (by kernel_rfl) (by kernel_rfl) (by kernel_rfl) (fun _ _ _ h => h) (Or.inl ⟨by rfl, ?_⟩) (by assumption) ?_
          rotate_left 1
          · (intro w0 hSw; (try dsimp only at hSw); go_simp; try with_reducible rfl)
          (try simp only [Act.put, List.setIfInBounds_toArray, List.set_cons_zero, List.set_cons_succ])
          refine wpAnyH_take (i := 16) (oi := { dst := some 51, op := Op.move (Operand.tmp 10), type := 3, pos := "law.go:146", after := #[{ on := 15, ground := Ground.guard }], guard := some (15, true) }) (v := ?_) rfl (by kernel_rfl) (by kernel_rfl) (by kernel_rfl) (fun _ _ _ h => h) (Or.inl ⟨by rfl, ?_⟩) (by assumption) ?_
          rotate_left 1
          · (intro w0 hSw; (try dsimp only at hSw); go_simp; try with_reducible rfl)
          (try simp only [Act.put, List.setIfInBounds_toArray, List.set_cons_zero, List.set_cons_succ])
          refine wpAnyH_take (i := 17) (oi := { dst := some 52, op := Op.binOp BinOp.neq 3 (Operand.tmp 51) (Operand.const (Value.int IntKind.i64 (-1))) 3, type := 4, pos := "law.go:146", after := #[{ on := 16, ground := Ground.data }, { on := 15, ground := Ground.guard }], guard := some (15, true) }) (v := ?_) rfl (by kernel_rfl) (by kernel_rfl) (by kernel_rfl) (fun _ _ _ h => h) (Or.inl ⟨by rfl, ?_⟩) (by assumption) ?_
          rotate_left 1
          · (intro w0 hSw; (try dsimp only at hSw); go_simp; try with_reducible rfl)
          (try simp only [Act.put, List.setIfInBounds_toArray, List.set_cons_zero, List.set_cons_succ])
          refine wpAnyH_take (i := 18) (oi := { dst := some 53, op := Op.pick (Operand.tmp 50) (Operand.tmp 52) (Operand.const (Value.bool false)), type := 4, pos := "law.go:146", after := #[{ on := 15, ground := Ground.data }, { on := 17, ground := Ground.data }, { on := 9, ground := Ground.guard }], guard := some (9, false) }) (v := ?_) rfl (by kernel_rfl) (by kernel_rfl) (by kernel_rfl) (fun _ _ _ h => h) (Or.inl ⟨by rfl, ?_⟩) (by assumption) ?_
          rotate_left 1
          · (intro w0 hSw; (try dsimp only at hSw); go_simp; try with_reducible rfl)
          (try simp only [Act.put, List.setIfInBounds_toArray, List.set_cons_zero, List.set_cons_succ])
          refine wpAnyH_take (i := 19) (oi := { dst := some 54, op := Op.pick (Operand.tmp 44) (Operand.const (Value.bool true)) (Operand.tmp 53), type := 4, pos := "law.go:146", after := #[{ on := 9, ground := Ground.data }, { on := 18, ground := Ground.data }], guard := none }) (v := ?_) rfl (by kernel_rfl) (by kernel_rfl) (by kernel_rfl) (fun _ _ _ h => h) (Or.inl ⟨by rfl, ?_⟩) (by assumption) ?_
          rotate_left 1
          · (intro w0 hSw; (try dsimp only at hSw); go_simp; try with_reducible rfl)
          (try simp only [Act.put, List.setIfInBounds_toArray, List.set_cons_zero, List.set_cons_succ])
          refine wpAnyH_take (i := 20) (oi := { dst := some 55, op := Op.move (Operand.tmp 54), type := 4, pos := "law.go:146", after := #[{ on := 19, ground := Ground.data }, { on := 15, ground := Ground.chain }], guard := none }) (v := ?_) rfl (by kernel_rfl) (by kernel_rfl) (by kernel_rfl) (fun _ _ _ h => h) (Or.inl ⟨by rfl, ?_⟩) (by assumption) ?_
          rotate_left 1
          · (intro w0 hSw; (try dsimp only at hSw); go_simp; try with_reducible rfl)
          (try simp only [Act.put, List.setIfInBounds_toArray, List.set_cons_zero, List.set_cons_succ])
          refine wpAnyH_take (i := 21) (oi := { dst := some 56, op := Op.move (Operand.tmp 0), type := 49, pos := "law.go:146", after := #[{ on := 20, ground := Ground.guard }], guard := some (20, false) }) (v := ?_) rfl (by kernel_rfl) (by kernel_rfl) (by kernel_rfl) (fun _ _ _ h => h) (Or.inl ⟨by rfl, ?_⟩) (by assumption) ?_
          rotate_left 1
          · (intro w0 hSw; (try dsimp only at hSw); go_simp; try with_reducible rfl)
          (try simp only [Act.put, List.setIfInBounds_toArray, List.set_cons_zero, List.set_cons_succ])
          refine wpAnyH_take (i := 22) (oi := { dst := some 57, op := Op.move (Operand.tmp 8), type := 3, pos := "law.go:146", after := #[{ on := 20, ground := Ground.guard }], guard := some (20, false) }) (v := ?_) rfl (by kernel_rfl) (by kernel_rfl) (by kernel_rfl) (fun _ _ _ h => h) (Or.inl ⟨by rfl, ?_⟩) (by assumption) ?_
          rotate_left 1
          · (intro w0 hSw; (try dsimp only at hSw); go_simp; try with_reducible rfl)
          (try simp only [Act.put, List.setIfInBounds_toArray, List.set_cons_zero, List.set_cons_succ])
          refine wpAnyH_take (i := 23) (oi := { dst := some 58, op := Op.indexAddr 49 (Operand.tmp 56) (Operand.tmp 57), type := 0, pos := "law.go:146", after := #[{ on := 21, ground := Ground.data }, { on := 22, ground := Ground.data }, { on := 20, ground := Ground.guard }], guard := some (20, false) }) (v := ?_) rfl (by kernel_rfl) (by kernel_rfl) (by kernel_rfl) (fun _ _ _ h => h) (Or.inl ⟨by rfl, ?_⟩) (by assumption) ?_
          rotate_left 1
          · (intro w0 hSw; (try dsimp only at hSw); go_simp; try with_reducible rfl)
          (try simp only [Act.put, List.setIfInBounds_toArray, List.set_cons_zero, List.set_cons_succ])
          refine wpAnyH_take (i := 24) (oi := { dst := some 59, op := Op.load 2 (Operand.tmp 58), type := 2, pos := "law.go:146", after := #[{ on := 23, ground := Ground.data }, { on := 20, ground := Ground.guard }], guard := some (20, false) }) (v := ?_) rfl (by kernel_rfl) (by kernel_rfl) (by kernel_rfl) (fun _ _ _ h => h) (Or.inl ⟨by rfl, ?_⟩) (by assumption) ?_
          rotate_left 1
          · (intro w0 hSw; (try dsimp only at hSw); go_simp; try with_reducible rfl)
          (try simp only [Act.put, List.setIfInBounds_toArray, List.set_cons_zero, List.set_cons_succ])
          refine wpAnyH_take (i := 25) (oi := { dst := some 60, op := Op.binOp BinOp.eql 2 (Operand.tmp 59) (Operand.const (Value.int IntKind.i64 0)) 2, type := 4, pos := "law.go:146", after := #[{ on := 24, ground := Ground.data }, { on := 20, ground := Ground.guard }], guard := some (20, false) }) (v := ?_) rfl (by kernel_rfl) (by kernel_rfl) (by kernel_rfl) (fun _ _ _ h => h) (Or.inl ⟨by rfl, ?_⟩) (by assumption) ?_
          rotate_left 1
          · (intro w0 hSw; (try dsimp only at hSw); go_simp; try with_reducible rfl)
          (try simp only [Act.put, List.setIfInBounds_toArray, List.set_cons_zero, List.set_cons_succ])
          refine wpAnyH_take (i := 26) (oi := { dst := some 61, op := Op.move (Operand.tmp 60), type := 4, pos := "law.go:146", after := #[{ on := 25, ground := Ground.data }, { on := 20, ground := Ground.chain }, { on := 20, ground := Ground.guard }], guard := some (20, false) }) (v := ?_) rfl (by kernel_rfl) (by kernel_rfl) (by kernel_rfl) (fun _ _ _ h => h) (Or.inl ⟨by rfl, ?_⟩) (by assumption) ?_
          rotate_left 1
          · (intro w0 hSw; (try dsimp only at hSw); go_simp; try with_reducible rfl)
          (try simp only [Act.put, List.setIfInBounds_toArray, List.set_cons_zero, List.set_cons_succ])
          refine wpAnyH_take (i := 27) (oi := { dst := some 62, op := Op.move (Operand.tmp 10), type := 3, pos := "law.go:146", after := #[{ on := 26, ground := Ground.guard }], guard := some (26, true) }) (v := undef) rfl (by kernel_rfl) (by kernel_rfl) (by kernel_rfl) (fun _ _ _ h => h) (Or.inr ⟨by rfl, rfl⟩) (by assumption) ?_
          (try simp only [Act.put, List.setIfInBounds_toArray, List.set_cons_zero, List.set_cons_succ])
          refine wpAnyH_take (i := 28) (oi := { dst := some 63, op := Op.binOp BinOp.neq 3 (Operand.tmp 62) (Operand.const (Value.int IntKind.i64 0)) 3, type := 4, pos := "law.go:146", after := #[{ on := 27, ground := Ground.data }, { on := 26, ground := Ground.guard }], guard := some (26, true) }) (v := undef) rfl (by kernel_rfl) (by kernel_rfl) (by kernel_rfl) (fun _ _ _ h => h) (Or.inr ⟨by rfl, rfl⟩) (by assumption) ?_
          (try simp only [Act.put, List.setIfInBounds_toArray, List.set_cons_zero, List.set_cons_succ])
          refine wpAnyH_take (i := 29) (oi := { dst := some 64, op := Op.pick (Operand.tmp 61) (Operand.tmp 63) (Operand.const (Value.bool false)), type := 4, pos := "law.go:146", after := #[{ on := 26, ground := Ground.data }, { on := 28, ground := Ground.data }, { on := 20, ground := Ground.guard }], guard := some (20, false) }) (v := ?_) rfl (by kernel_rfl) (by kernel_rfl) (by kernel_rfl) (fun _ _ _ h => h) (Or.inl ⟨by rfl, ?_⟩) (by assumption) ?_
          rotate_left 1
          · (intro w0 hSw; (try dsimp only at hSw); go_simp; try with_reducible rfl)
          (try simp only [Act.put, List.setIfInBounds_toArray, List.set_cons_zero, List.set_cons_succ])
          refine wpAnyH_take (i := 30) (oi := { dst := some 65, op := Op.pick (Operand.tmp 55) (Operand.const (Value.bool true)) (Operand.tmp 64), type := 4, pos := "law.go:146", after := #[{ on := 20, ground := Ground.data }, { on := 29, ground := Ground.data }], guard := none }) (v := ?_) rfl (by kernel_rfl) (by kernel_rfl) (by kernel_rfl) (fun _ _ _ h => h) (Or.inl ⟨by rfl, ?_⟩) (by assumption) ?_
          rotate_left 1
          · (intro w0 hSw; (try dsimp only at hSw); go_simp; try with_reducible rfl)
          (try simp only [Act.put, List.setIfInBounds_toArray, List.set_cons_zero, List.set_cons_succ])
          refine wpAnyH_take (i := 31) (oi := { dst := some 66, op := Op.move (Operand.tmp 65), type := 4, pos := "law.go:146", after := #[{ on := 30, ground := Ground.data }, { on := 26, ground := Ground.chain }], guard := none }) (v := ?_) rfl (by kernel_rfl) (by kernel_rfl) (by kernel_rfl) (fun _ _ _ h => h) (Or.inl ⟨by rfl, ?_⟩) (by assumption) ?_
          rotate_left 1
          · (intro w0 hSw; (try dsimp only at hSw); go_simp; try with_reducible rfl)
          (try simp only [Act.put, List.setIfInBounds_toArray, List.set_cons_zero, List.set_cons_succ])
          refine wpAnyH_take (i := 32) (oi := { dst := some 67, op := Op.load 24 (Operand.tmp 5), type := 24, pos := "law.go:146", after := #[{ on := 31, ground := Ground.guard }], guard := some (31, false) }) (v := ?_) rfl (by kernel_rfl) (by kernel_rfl) (by kernel_rfl) (fun _ _ _ h => h) (Or.inl ⟨by rfl, ?_⟩) (by assumption) ?_
          rotate_left 1
          · (intro w0 hSw; (try dsimp only at hSw); go_simp; try with_reducible rfl)
          (try simp only [Act.put, List.setIfInBounds_toArray, List.set_cons_zero, List.set_cons_succ])
          refine wpAnyH_take (i := 33) (oi := { dst := some 68, op := Op.move (Operand.tmp 0), type := 49, pos := "law.go:146", after := #[{ on := 31, ground := Ground.guard }], guard := some (31, false) }) (v := ?_) rfl (by kernel_rfl) (by kernel_rfl) (by kernel_rfl) (fun _ _ _ h => h) (Or.inl ⟨by rfl, ?_⟩) (by assumption) ?_
          rotate_left 1
          · (intro w0 hSw; (try dsimp only at hSw); go_simp; try with_reducible rfl)
          (try simp only [Act.put, List.setIfInBounds_toArray, List.set_cons_zero, List.set_cons_succ])
          refine wpAnyH_take (i := 34) (oi := { dst := some 69, op := Op.move (Operand.tmp 8), type := 3, pos := "law.go:146", after := #[{ on := 31, ground := Ground.guard }], guard := some (31, false) }) (v := ?_) rfl (by kernel_rfl) (by kernel_rfl) (by kernel_rfl) (fun _ _ _ h => h) (Or.inl ⟨by rfl, ?_⟩) (by assumption) ?_
          rotate_left 1
          · (intro w0 hSw; (try dsimp only at hSw); go_simp; try with_reducible rfl)
          (try simp only [Act.put, List.setIfInBounds_toArray, List.set_cons_zero, List.set_cons_succ])
          refine wpAnyH_take (i := 35) (oi := { dst := some 70, op := Op.indexAddr 49 (Operand.tmp 68) (Operand.tmp 69), type := 0, pos := "law.go:146", after := #[{ on := 33, ground := Ground.data }, { on := 34, ground := Ground.data }, { on := 31, ground := Ground.guard }], guard := some (31, false) }) (v := ?_) rfl (by kernel_rfl) (by kernel_rfl) (by kernel_rfl) (fun _ _ _ h => h) (Or.inl ⟨by rfl, ?_⟩) (by assumption) ?_
          rotate_left 1
          · (intro w0 hSw; (try dsimp only at hSw); go_simp; try with_reducible rfl)
          (try simp only [Act.put, List.setIfInBounds_toArray, List.set_cons_zero, List.set_cons_succ])
          refine wpAnyH_take (i := 36) (oi := { dst := some 71, op := Op.load 2 (Operand.tmp 70), type := 2, pos := "law.go:146", after := #[{ on := 35, ground := Ground.data }, { on := 31, ground := Ground.guard }], guard := some (31, false) }) (v := ?_) rfl (by kernel_rfl) (by kernel_rfl) (by kernel_rfl) (fun _ _ _ h => h) (Or.inl ⟨by rfl, ?_⟩) (by assumption) ?_
          rotate_left 1
          · (intro w0 hSw; (try dsimp only at hSw); go_simp; try with_reducible rfl)
          (try simp only [Act.put, List.setIfInBounds_toArray, List.set_cons_zero, List.set_cons_succ])
          refine wpAnyH_take (i := 38) (oi := { dst := some 73, op := Op.load 24 (Operand.tmp 9), type := 24, pos := "law.go:146", after := #[{ on := 31, ground := Ground.guard }], guard := some (31, false) }) (v := ?_) rfl (by kernel_rfl) (by kernel_rfl) (by kernel_rfl) (fun _ _ _ h => h) (Or.inl ⟨by rfl, ?_⟩) (by assumption) ?_
          rotate_left 1
          · (intro w0 hSw; (try dsimp only at hSw); go_simp; try with_reducible rfl)
          (try simp only [Act.put, List.setIfInBounds_toArray, List.set_cons_zero, List.set_cons_succ])
          refine wpAnyH_ready (rs := [37]) (by kernel_rfl) (by simp) ?_
          refine AllReadyH.cons (o := { dst := some 72, op := Op.call { callee := Callee.value (Operand.func 10), args := #[Operand.tmp 67, Operand.tmp 71], argTypes := #[24, 2] }, type := 24, pos := "law.go:146", after := #[{ on := 32, ground := Ground.data }, { on := 36, ground := Ground.data }, { on := 31, ground := Ground.chain }, { on := 31, ground := Ground.guard }], guard := some (31, false) }) rfl (fun K hK => ?_) AllReadyH.nil
          go_simp
          go_at_call 10
          refine (minus_back (sumTo z k) (z k) S0 hzI _).mono ?_
          rintro e W5 ⟨rfl, hB5⟩
          have I5 := I4.drew.below hB5
          have v05 := (hB5.cell (p := ⟨wr.heap.size, 0, none⟩) hzl4).trans v0
          have v15 := (hB5.cell (p := ⟨wr.heap.size, 1, none⟩) hzl4).trans v1
          have z5 := hzk'.out _ I5.b
          have hzl5 : wr.heap.size < W5.heap.size := Nat.lt_of_lt_of_le hzl4 hB5.size
          try dsimp only
          refine hK.out _ _ ?_ (fun hHeld => ?_)
          · exact ⟨I5.a0, I5.a1, v05, v15, z5, I5, hzl5⟩
          clear hK K
          (try simp only [Act.put, List.setIfInBounds_toArray, List.set_cons_zero, List.set_cons_succ])
          refine wpAnyH_take (i := 39) (oi := { dst := some 74, op := Op.binOp BinOp.neq 24 (Operand.tmp 72) (Operand.tmp 73) 24, type := 4, pos := "law.go:146", after := #[{ on := 37, ground := Ground.data }, { on := 38, ground := Ground.data }, { on := 31, ground := Ground.guard }], guard := some (31, false) }) (v := ?_) rfl (by kernel_rfl) (by kernel_rfl) (by kernel_rfl) (fun _ _ _ h => h) (Or.inl ⟨by rfl, ?_⟩) (by assumption) ?_
          rotate_left 1
          · (intro w0 hSw; (try dsimp only at hSw); go_simp; try with_reducible rfl)
          (try simp only [Act.put, List.setIfInBounds_toArray, List.set_cons_zero, List.set_cons_succ])
          refine wpAnyH_take (i := 40) (oi := { dst := some 75, op := Op.pick (Operand.tmp 66) (Operand.const (Value.bool true)) (Operand.tmp 74), type := 4, pos := "law.go:146", after := #[{ on := 31, ground := Ground.data }, { on := 39, ground := Ground.data }], guard := none }) (v := ?_) rfl (by kernel_rfl) (by kernel_rfl) (by kernel_rfl) (fun _ _ _ h => h) (Or.inl ⟨by rfl, ?_⟩) (by assumption) ?_
          rotate_left 1
          · (intro w0 hSw; (try dsimp only at hSw); go_simp; try with_reducible rfl)
          (try simp only [Act.put, List.setIfInBounds_toArray, List.set_cons_zero, List.set_cons_succ])
          refine wpAnyH_done (by kernel_rfl) ?_ _
          refine NoPanic.normal ?_
          go_wp2_with fail
          go_roundw
          case rel => exact ⟨k + 1, by omega, by go_num, I5⟩
          case measure => simp [intOf]; omega
        · rw [cmp_at _ _ hs]
          have hs0 : Hid _ := hs
          rw [hs, Int.add_zero] at I4 a04 a14
          rw [hs] at z4
          go_wp2_with fail
          clear hs
          refine wp_region_noPanic ?_
          refine wp_region_held_drew (S := (fun w' => (w'.cell? ⟨w1.heap.size, 0, none⟩ = some (.int .i64 (sH (sumTo z k))) ∧ w'.cell? ⟨w1.heap.size, 1, none⟩ = some (.int .u64 (sL (sumTo z k))) ∧ w'.cell? ⟨wr.heap.size, 0, none⟩ = some (.int .i64 (sH (sumTo z k))) ∧ w'.cell? ⟨wr.heap.size, 1, none⟩ = some (.int .u64 (sL (sumTo z k))) ∧ w'.cell? ⟨b, off + k, none⟩ = some (.int .i64 (0)) ∧ Hid (AO w1.heap.size w1 len (sumTo z k) 0 (fun _ => false) w' ∧ wr.heap.size < w'.heap.size)))) (by kernel_rfl) ?_ (fun hHeld => ?_)
          · exact ⟨a04, a14, v0, v1, z4, I4.drew, hzl4⟩
          refine wpAnyH_take (i := 0) (oi := { dst := some 35, op := Op.move (Operand.tmp 0), type := 49, pos := "law.go:146", after := #[], guard := none }) (v := ?_) rfl (by kernel_rfl) (by kernel_rfl) (by kernel_rfl) (fun _ _ _ h => h) (Or.inl ⟨by rfl, ?_⟩) (by assumption) ?_
          rotate_left 1
          · (intro w0 hSw; (try dsimp only at hSw); go_simp; try with_reducible rfl)
          (try simp only [Act.put, List.setIfInBounds_toArray, List.set_cons_zero, List.set_cons_succ])
          refine wpAnyH_take (i := 1) (oi := { dst := some 36, op := Op.move (Operand.tmp 8), type := 3, pos := "law.go:146", after := #[], guard := none }) (v := ?_) rfl (by kernel_rfl) (by kernel_rfl) (by kernel_rfl) (fun _ _ _ h => h) (Or.inl ⟨by rfl, ?_⟩) (by assumption) ?_
          rotate_left 1
          · (intro w0 hSw; (try dsimp only at hSw); go_simp; try with_reducible rfl)
          (try simp only [Act.put, List.setIfInBounds_toArray, List.set_cons_zero, List.set_cons_succ])
          refine wpAnyH_take (i := 2) (oi := { dst := some 37, op := Op.indexAddr 49 (Operand.tmp 35) (Operand.tmp 36), type := 0, pos := "law.go:146", after := #[{ on := 0, ground := Ground.data }, { on := 1, ground := Ground.data }], guard := none }) (v := ?_) rfl (by kernel_rfl) (by kernel_rfl) (by kernel_rfl) (fun _ _ _ h => h) (Or.inl ⟨by rfl, ?_⟩) (by assumption) ?_
          rotate_left 1
          · (intro w0 hSw; (try dsimp only at hSw); go_simp; try with_reducible rfl)
          (try simp only [Act.put, List.setIfInBounds_toArray, List.set_cons_zero, List.set_cons_succ])
          refine wpAnyH_take (i := 3) (oi := { dst := some 38, op := Op.load 2 (Operand.tmp 37), type := 2, pos := "law.go:146", after := #[{ on := 2, ground := Ground.data }], guard := none }) (v := ?_) rfl (by kernel_rfl) (by kernel_rfl) (by kernel_rfl) (fun _ _ _ h => h) (Or.inl ⟨by rfl, ?_⟩) (by assumption) ?_
          rotate_left 1
          · (intro w0 hSw; (try dsimp only at hSw); go_simp; try with_reducible rfl)
          (try simp only [Act.put, List.setIfInBounds_toArray, List.set_cons_zero, List.set_cons_succ])
          refine wpAnyH_take (i := 4) (oi := { dst := some 39, op := Op.binOp BinOp.gtr 2 (Operand.tmp 38) (Operand.const (Value.int IntKind.i64 0)) 2, type := 4, pos := "law.go:146", after := #[{ on := 3, ground := Ground.data }], guard := none }) (v := ?_) rfl (by kernel_rfl) (by kernel_rfl) (by kernel_rfl) (fun _ _ _ h => h) (Or.inl ⟨by rfl, ?_⟩) (by assumption) ?_
          rotate_left 1
          · (intro w0 hSw; (try dsimp only at hSw); go_simp; try with_reducible rfl)
          (try simp only [Act.put, List.setIfInBounds_toArray, List.set_cons_zero, List.set_cons_succ])
          refine wpAnyH_take (i := 5) (oi := { dst := some 40, op := Op.move (Operand.tmp 39), type := 4, pos := "law.go:146", after := #[{ on := 4, ground := Ground.data }], guard := none }) (v := ?_) rfl (by kernel_rfl) (by kernel_rfl) (by kernel_rfl) (fun _ _ _ h => h) (Or.inl ⟨by rfl, ?_⟩) (by assumption) ?_
          rotate_left 1
          · (intro w0 hSw; (try dsimp only at hSw); go_simp; try with_reducible rfl)
          (try simp only [Act.put, List.setIfInBounds_toArray, List.set_cons_zero, List.set_cons_succ])
          refine wpAnyH_take (i := 6) (oi := { dst := some 41, op := Op.move (Operand.tmp 10), type := 3, pos := "law.go:146", after := #[{ on := 5, ground := Ground.guard }], guard := some (5, true) }) (v := undef) rfl (by kernel_rfl) (by kernel_rfl) (by kernel_rfl) (fun _ _ _ h => h) (Or.inr ⟨by rfl, rfl⟩) (by assumption) ?_
          (try simp only [Act.put, List.setIfInBounds_toArray, List.set_cons_zero, List.set_cons_succ])
          refine wpAnyH_take (i := 7) (oi := { dst := some 42, op := Op.binOp BinOp.neq 3 (Operand.tmp 41) (Operand.const (Value.int IntKind.i64 1)) 3, type := 4, pos := "law.go:146", after := #[{ on := 6, ground := Ground.data }, { on := 5, ground := Ground.guard }], guard := some (5, true) }) (v := undef) rfl (by kernel_rfl) (by kernel_rfl) (by kernel_rfl) (fun _ _ _ h => h) (Or.inr ⟨by rfl, rfl⟩) (by assumption) ?_
          (try simp only [Act.put, List.setIfInBounds_toArray, List.set_cons_zero, List.set_cons_succ])
          refine wpAnyH_take (i := 8) (oi := { dst := some 43, op := Op.pick (Operand.tmp 40) (Operand.tmp 42) (Operand.const (Value.bool false)), type := 4, pos := "law.go:146", after := #[{ on := 5, ground := Ground.data }, { on := 7, ground := Ground.data }], guard := none }) (v := ?_) rfl (by kernel_rfl) (by kernel_rfl) (by kernel_rfl) (fun _ _ _ h => h) (Or.inl ⟨by rfl, ?_⟩) (by assumption) ?_
          rotate_left 1
          · (intro w0 hSw; (try dsimp only at hSw); go_simp; try with_reducible rfl)
          (try simp only [Act.put, List.setIfInBounds_toArray, List.set_cons_zero, List.set_cons_succ])
          refine wpAnyH_take (i := 9) (oi := { dst := some 44, op := Op.move (Operand.tmp 43), type := 4, pos := "law.go:146", after := #[{ on := 8, ground := Ground.data }, { on := 5, ground := Ground.chain }], guard := none }) (v := ?_) rfl (by kernel_rfl) (by kernel_rfl) (by kernel_rfl) (fun _ _ _ h => h) (Or.inl ⟨by rfl, ?_⟩) (by assumption) ?_
          rotate_left 1
          · (intro w0 hSw; (try dsimp only at hSw); go_simp; try with_reducible rfl)
          (try simp only [Act.put, List.setIfInBounds_toArray, List.set_cons_zero, List.set_cons_succ])
          refine wpAnyH_take (i := 10) (oi := { dst := some 45, op := Op.move (Operand.tmp 0), type := 49, pos := "law.go:146", after := #[{ on := 9, ground := Ground.guard }], guard := some (9, false) }) (v := ?_) rfl (by kernel_rfl) (by kernel_rfl) (by kernel_rfl) (fun _ _ _ h => h) (Or.inl ⟨by rfl, ?_⟩) (by assumption) ?_
          rotate_left 1
          · (intro w0 hSw; (try dsimp only at hSw); go_simp; try with_reducible rfl)
          (try simp only [Act.put, List.setIfInBounds_toArray, List.set_cons_zero, List.set_cons_succ])
          refine wpAnyH_take (i := 11) (oi := { dst := some 46, op := Op.move (Operand.tmp 8), type := 3, pos := "law.go:146", after := #[{ on := 9, ground := Ground.guard }], guard := some (9, false) }) (v := ?_) rfl (by kernel_rfl) (by kernel_rfl) (by kernel_rfl) (fun _ _ _ h => h) (Or.inl ⟨by rfl, ?_⟩) (by assumption) ?_
          rotate_left 1
          · (intro w0 hSw; (try dsimp only at hSw); go_simp; try with_reducible rfl)
          (try simp only [Act.put, List.setIfInBounds_toArray, List.set_cons_zero, List.set_cons_succ])
          refine wpAnyH_take (i := 12) (oi := { dst := some 47, op := Op.indexAddr 49 (Operand.tmp 45) (Operand.tmp 46), type := 0, pos := "law.go:146", after := #[{ on := 10, ground := Ground.data }, { on := 11, ground := Ground.data }, { on := 9, ground := Ground.guard }], guard := some (9, false) }) (v := ?_) rfl (by kernel_rfl) (by kernel_rfl) (by kernel_rfl) (fun _ _ _ h => h) (Or.inl ⟨by rfl, ?_⟩) (by assumption) ?_
          rotate_left 1
          · (intro w0 hSw; (try dsimp only at hSw); go_simp; try with_reducible rfl)
          (try simp only [Act.put, List.setIfInBounds_toArray, List.set_cons_zero, List.set_cons_succ])
          refine wpAnyH_take (i := 13) (oi := { dst := some 48, op := Op.load 2 (Operand.tmp 47), type := 2, pos := "law.go:146", after := #[{ on := 12, ground := Ground.data }, { on := 9, ground := Ground.guard }], guard := some (9, false) }) (v := ?_) rfl (by kernel_rfl) (by kernel_rfl) (by kernel_rfl) (fun _ _ _ h => h) (Or.inl ⟨by rfl, ?_⟩) (by assumption) ?_
          rotate_left 1
          · (intro w0 hSw; (try dsimp only at hSw); go_simp; try with_reducible rfl)
          (try simp only [Act.put, List.setIfInBounds_toArray, List.set_cons_zero, List.set_cons_succ])
          refine wpAnyH_take (i := 14) (oi := { dst := some 49, op := Op.binOp BinOp.lss 2 (Operand.tmp 48) (Operand.const (Value.int IntKind.i64 0)) 2, type := 4, pos := "law.go:146", after := #[{ on := 13, ground := Ground.data }, { on := 9, ground := Ground.guard }], guard := some (9, false) }) (v := ?_) rfl (by kernel_rfl) (by kernel_rfl) (by kernel_rfl) (fun _ _ _ h => h) (Or.inl ⟨by rfl, ?_⟩) (by assumption) ?_
          rotate_left 1
          · (intro w0 hSw; (try dsimp only at hSw); go_simp; try with_reducible rfl)
          (try simp only [Act.put, List.setIfInBounds_toArray, List.set_cons_zero, List.set_cons_succ])
          refine wpAnyH_take (i := 15) (oi := { dst := some 50, op := Op.move (Operand.tmp 49), type := 4, pos := "law.go:146", after := #[{ on := 14, ground := Ground.data }, { on := 9, ground := Ground.chain }, { on := 9, ground := Ground.guard }], guard := some (9, false) }) (v := ?_) rfl (by kernel_rfl) (by kernel_rfl) (by kernel_rfl) (fun _ _ _ h => h) (Or.inl ⟨by rfl, ?_⟩) (by assumption) ?_
          rotate_left 1
          · (intro w0 hSw; (try dsimp only at hSw); go_simp; try with_reducible rfl)
          (try simp only [Act.put, List.setIfInBounds_toArray, List.set_cons_zero, List.set_cons_succ])
          refine wpAnyH_take (i := 16) (oi := { dst := some 51, op := Op.move (Operand.tmp 10), type := 3, pos := "law.go:146", after := #[{ on := 15, ground := Ground.guard }], guard := some (15, true) }) (v := undef) rfl (by kernel_rfl) (by kernel_rfl) (by kernel_rfl) (fun _ _ _ h => h) (Or.inr ⟨by rfl, rfl⟩) (by assumption) ?_
          (try simp only [Act.put, List.setIfInBounds_toArray, List.set_cons_zero, List.set_cons_succ])
          refine wpAnyH_take (i := 17) (oi := { dst := some 52, op := Op.binOp BinOp.neq 3 (Operand.tmp 51) (Operand.const (Value.int IntKind.i64 (-1))) 3, type := 4, pos := "law.go:146", after := #[{ on := 16, ground := Ground.data }, { on := 15, ground := Ground.guard }], guard := some (15, true) }) (v := undef) rfl (by kernel_rfl) (by kernel_rfl) (by kernel_rfl) (fun _ _ _ h => h) (Or.inr ⟨by rfl, rfl⟩) (by assumption) ?_
          (try simp only [Act.put, List.setIfInBounds_toArray, List.set_cons_zero, List.set_cons_succ])
          refine wpAnyH_take (i := 18) (oi := { dst := some 53, op := Op.pick (Operand.tmp 50) (Operand.tmp 52) (Operand.const (Value.bool false)), type := 4, pos := "law.go:146", after := #[{ on := 15, ground := Ground.data }, { on := 17, ground := Ground.data }, { on := 9, ground := Ground.guard }], guard := some (9, false) }) (v := ?_) rfl (by kernel_rfl) (by kernel_rfl) (by kernel_rfl) (fun _ _ _ h => h) (Or.inl ⟨by rfl, ?_⟩) (by assumption) ?_
          rotate_left 1
          · (intro w0 hSw; (try dsimp only at hSw); go_simp; try with_reducible rfl)
          (try simp only [Act.put, List.setIfInBounds_toArray, List.set_cons_zero, List.set_cons_succ])
          refine wpAnyH_take (i := 19) (oi := { dst := some 54, op := Op.pick (Operand.tmp 44) (Operand.const (Value.bool true)) (Operand.tmp 53), type := 4, pos := "law.go:146", after := #[{ on := 9, ground := Ground.data }, { on := 18, ground := Ground.data }], guard := none }) (v := ?_) rfl (by kernel_rfl) (by kernel_rfl) (by kernel_rfl) (fun _ _ _ h => h) (Or.inl ⟨by rfl, ?_⟩) (by assumption) ?_
          rotate_left 1
          · (intro w0 hSw; (try dsimp only at hSw); go_simp; try with_reducible rfl)
          (try simp only [Act.put, List.setIfInBounds_toArray, List.set_cons_zero, List.set_cons_succ])
          refine wpAnyH_take (i := 20) (oi := { dst := some 55, op := Op.move (Operand.tmp 54), type := 4, pos := "law.go:146", after := #[{ on := 19, ground := Ground.data }, { on := 15, ground := Ground.chain }], guard := none }) (v := ?_) rfl (by kernel_rfl) (by kernel_rfl) (by kernel_rfl) (fun _ _ _ h => h) (Or.inl ⟨by rfl, ?_⟩) (by assumption) ?_
          rotate_left 1
          · (intro w0 hSw; (try dsimp only at hSw); go_simp; try with_reducible rfl)
          (try simp only [Act.put, List.setIfInBounds_toArray, List.set_cons_zero, List.set_cons_succ])
          refine wpAnyH_take (i := 21) (oi := { dst := some 56, op := Op.move (Operand.tmp 0), type := 49, pos := "law.go:146", after := #[{ on := 20, ground := Ground.guard }], guard := some (20, false) }) (v := ?_) rfl (by kernel_rfl) (by kernel_rfl) (by kernel_rfl) (fun _ _ _ h => h) (Or.inl ⟨by rfl, ?_⟩) (by assumption) ?_
          rotate_left 1
          · (intro w0 hSw; (try dsimp only at hSw); go_simp; try with_reducible rfl)
          (try simp only [Act.put, List.setIfInBounds_toArray, List.set_cons_zero, List.set_cons_succ])
          refine wpAnyH_take (i := 22) (oi := { dst := some 57, op := Op.move (Operand.tmp 8), type := 3, pos := "law.go:146", after := #[{ on := 20, ground := Ground.guard }], guard := some (20, false) }) (v := ?_) rfl (by kernel_rfl) (by kernel_rfl) (by kernel_rfl) (fun _ _ _ h => h) (Or.inl ⟨by rfl, ?_⟩) (by assumption) ?_
          rotate_left 1
          · (intro w0 hSw; (try dsimp only at hSw); go_simp; try with_reducible rfl)
          (try simp only [Act.put, List.setIfInBounds_toArray, List.set_cons_zero, List.set_cons_succ])
          refine wpAnyH_take (i := 23) (oi := { dst := some 58, op := Op.indexAddr 49 (Operand.tmp 56) (Operand.tmp 57), type := 0, pos := "law.go:146", after := #[{ on := 21, ground := Ground.data }, { on := 22, ground := Ground.data }, { on := 20, ground := Ground.guard }], guard := some (20, false) }) (v := ?_) rfl (by kernel_rfl) (by kernel_rfl) (by kernel_rfl) (fun _ _ _ h => h) (Or.inl ⟨by rfl, ?_⟩) (by assumption) ?_
          rotate_left 1
          · (intro w0 hSw; (try dsimp only at hSw); go_simp; try with_reducible rfl)
          (try simp only [Act.put, List.setIfInBounds_toArray, List.set_cons_zero, List.set_cons_succ])
          refine wpAnyH_take (i := 24) (oi := { dst := some 59, op := Op.load 2 (Operand.tmp 58), type := 2, pos := "law.go:146", after := #[{ on := 23, ground := Ground.data }, { on := 20, ground := Ground.guard }], guard := some (20, false) }) (v := ?_) rfl (by kernel_rfl) (by kernel_rfl) (by kernel_rfl) (fun _ _ _ h => h) (Or.inl ⟨by rfl, ?_⟩) (by assumption) ?_
          rotate_left 1
          · (intro w0 hSw; (try dsimp only at hSw); go_simp; try with_reducible rfl)
          (try simp only [Act.put, List.setIfInBounds_toArray, List.set_cons_zero, List.set_cons_succ])
          refine wpAnyH_take (i := 25) (oi := { dst := some 60, op := Op.binOp BinOp.eql 2 (Operand.tmp 59) (Operand.const (Value.int IntKind.i64 0)) 2, type := 4, pos := "law.go:146", after := #[{ on := 24, ground := Ground.data }, { on := 20, ground := Ground.guard }], guard := some (20, false) }) (v := ?_) rfl (by kernel_rfl) (by kernel_rfl) (by kernel_rfl) (fun _ _ _ h => h) (Or.inl ⟨by rfl, ?_⟩) (by assumption) ?_
          rotate_left 1
          · (intro w0 hSw; (try dsimp only at hSw); go_simp; try with_reducible rfl)
          (try simp only [Act.put, List.setIfInBounds_toArray, List.set_cons_zero, List.set_cons_succ])
          refine wpAnyH_take (i := 26) (oi := { dst := some 61, op := Op.move (Operand.tmp 60), type := 4, pos := "law.go:146", after := #[{ on := 25, ground := Ground.data }, { on := 20, ground := Ground.chain }, { on := 20, ground := Ground.guard }], guard := some (20, false) }) (v := ?_) rfl (by kernel_rfl) (by kernel_rfl) (by kernel_rfl) (fun _ _ _ h => h) (Or.inl ⟨by rfl, ?_⟩) (by assumption) ?_
          rotate_left 1
          · (intro w0 hSw; (try dsimp only at hSw); go_simp; try with_reducible rfl)
          (try simp only [Act.put, List.setIfInBounds_toArray, List.set_cons_zero, List.set_cons_succ])
          refine wpAnyH_take (i := 27) (oi := { dst := some 62, op := Op.move (Operand.tmp 10), type := 3, pos := "law.go:146", after := #[{ on := 26, ground := Ground.guard }], guard := some (26, true) }) (v := ?_) rfl (by kernel_rfl) (by kernel_rfl) (by kernel_rfl) (fun _ _ _ h => h) (Or.inl ⟨by rfl, ?_⟩) (by assumption) ?_
          rotate_left 1
          · (intro w0 hSw; (try dsimp only at hSw); go_simp; try with_reducible rfl)
          (try simp only [Act.put, List.setIfInBounds_toArray, List.set_cons_zero, List.set_cons_succ])
          refine wpAnyH_take (i := 28) (oi := { dst := some 63, op := Op.binOp BinOp.neq 3 (Operand.tmp 62) (Operand.const (Value.int IntKind.i64 0)) 3, type := 4, pos := "law.go:146", after := #[{ on := 27, ground := Ground.data }, { on := 26, ground := Ground.guard }], guard := some (26, true) }) (v := ?_) rfl (by kernel_rfl) (by kernel_rfl) (by kernel_rfl) (fun _ _ _ h => h) (Or.inl ⟨by rfl, ?_⟩) (by assumption) ?_
          rotate_left 1
          · (intro w0 hSw; (try dsimp only at hSw); go_simp; try with_reducible rfl)
          (try simp only [Act.put, List.setIfInBounds_toArray, List.set_cons_zero, List.set_cons_succ])
          refine wpAnyH_take (i := 29) (oi := { dst := some 64, op := Op.pick (Operand.tmp 61) (Operand.tmp 63) (Operand.const (Value.bool false)), type := 4, pos := "law.go:146", after := #[{ on := 26, ground := Ground.data }, { on := 28, ground := Ground.data }, { on := 20, ground := Ground.guard }], guard := some (20, false) }) (v := ?_) rfl (by kernel_rfl) (by kernel_rfl) (by kernel_rfl) (fun _ _ _ h => h) (Or.inl ⟨by rfl, ?_⟩) (by assumption) ?_
          rotate_left 1
          · (intro w0 hSw; (try dsimp only at hSw); go_simp; try with_reducible rfl)
          (try simp only [Act.put, List.setIfInBounds_toArray, List.set_cons_zero, List.set_cons_succ])
          refine wpAnyH_take (i := 30) (oi := { dst := some 65, op := Op.pick (Operand.tmp 55) (Operand.const (Value.bool true)) (Operand.tmp 64), type := 4, pos := "law.go:146", after := #[{ on := 20, ground := Ground.data }, { on := 29, ground := Ground.data }], guard := none }) (v := ?_) rfl (by kernel_rfl) (by kernel_rfl) (by kernel_rfl) (fun _ _ _ h => h) (Or.inl ⟨by rfl, ?_⟩) (by assumption) ?_
          rotate_left 1
          · (intro w0 hSw; (try dsimp only at hSw); go_simp; try with_reducible rfl)
          (try simp only [Act.put, List.setIfInBounds_toArray, List.set_cons_zero, List.set_cons_succ])
          refine wpAnyH_take (i := 31) (oi := { dst := some 66, op := Op.move (Operand.tmp 65), type := 4, pos := "law.go:146", after := #[{ on := 30, ground := Ground.data }, { on := 26, ground := Ground.chain }], guard := none }) (v := ?_) rfl (by kernel_rfl) (by kernel_rfl) (by kernel_rfl) (fun _ _ _ h => h) (Or.inl ⟨by rfl, ?_⟩) (by assumption) ?_
          rotate_left 1
          · (intro w0 hSw; (try dsimp only at hSw); go_simp; try with_reducible rfl)
          (try simp only [Act.put, List.setIfInBounds_toArray, List.set_cons_zero, List.set_cons_succ])
          refine wpAnyH_take (i := 32) (oi := { dst := some 67, op := Op.load 24 (Operand.tmp 5), type := 24, pos := "law.go:146", after := #[{ on := 31, ground := Ground.guard }], guard := some (31, false) }) (v := ?_) rfl (by kernel_rfl) (by kernel_rfl) (by kernel_rfl) (fun _ _ _ h => h) (Or.inl ⟨by rfl, ?_⟩) (by assumption) ?_
          rotate_left 1
          · (intro w0 hSw; (try dsimp only at hSw); go_simp; try with_reducible rfl)
          (try simp only [Act.put, List.setIfInBounds_toArray, List.set_cons_zero, List.set_cons_succ])
          refine wpAnyH_take (i := 33) (oi := { dst := some 68, op := Op.move (Operand.tmp 0), type := 49, pos := "law.go:146", after := #[{ on := 31, ground := Ground.guard }], guard := some (31, false) }) (v := ?_) rfl (by kernel_rfl) (by kernel_rfl) (by kernel_rfl) (fun _ _ _ h => h) (Or.inl ⟨by rfl, ?_⟩) (by assumption) ?_
          rotate_left 1
          · (intro w0 hSw; (try dsimp only at hSw); go_simp; try with_reducible rfl)
          (try simp only [Act.put, List.setIfInBounds_toArray, List.set_cons_zero, List.set_cons_succ])
          refine wpAnyH_take (i := 34) (oi := { dst := some 69, op := Op.move (Operand.tmp 8), type := 3, pos := "law.go:146", after := #[{ on := 31, ground := Ground.guard }], guard := some (31, false) }) (v := ?_) rfl (by kernel_rfl) (by kernel_rfl) (by kernel_rfl) (fun _ _ _ h => h) (Or.inl ⟨by rfl, ?_⟩) (by assumption) ?_
          rotate_left 1
          · (intro w0 hSw; (try dsimp only at hSw); go_simp; try with_reducible rfl)
          (try simp only [Act.put, List.setIfInBounds_toArray, List.set_cons_zero, List.set_cons_succ])
          refine wpAnyH_take (i := 35) (oi := { dst := some 70, op := Op.indexAddr 49 (Operand.tmp 68) (Operand.tmp 69), type := 0, pos := "law.go:146", after := #[{ on := 33, ground := Ground.data }, { on := 34, ground := Ground.data }, { on := 31, ground := Ground.guard }], guard := some (31, false) }) (v := ?_) rfl (by kernel_rfl) (by kernel_rfl) (by kernel_rfl) (fun _ _ _ h => h) (Or.inl ⟨by rfl, ?_⟩) (by assumption) ?_
          rotate_left 1
          · (intro w0 hSw; (try dsimp only at hSw); go_simp; try with_reducible rfl)
          (try simp only [Act.put, List.setIfInBounds_toArray, List.set_cons_zero, List.set_cons_succ])
          refine wpAnyH_take (i := 36) (oi := { dst := some 71, op := Op.load 2 (Operand.tmp 70), type := 2, pos := "law.go:146", after := #[{ on := 35, ground := Ground.data }, { on := 31, ground := Ground.guard }], guard := some (31, false) }) (v := ?_) rfl (by kernel_rfl) (by kernel_rfl) (by kernel_rfl) (fun _ _ _ h => h) (Or.inl ⟨by rfl, ?_⟩) (by assumption) ?_
          rotate_left 1
          · (intro w0 hSw; (try dsimp only at hSw); go_simp; try with_reducible rfl)
          (try simp only [Act.put, List.setIfInBounds_toArray, List.set_cons_zero, List.set_cons_succ])
          refine wpAnyH_take (i := 38) (oi := { dst := some 73, op := Op.load 24 (Operand.tmp 9), type := 24, pos := "law.go:146", after := #[{ on := 31, ground := Ground.guard }], guard := some (31, false) }) (v := ?_) rfl (by kernel_rfl) (by kernel_rfl) (by kernel_rfl) (fun _ _ _ h => h) (Or.inl ⟨by rfl, ?_⟩) (by assumption) ?_
          rotate_left 1
          · (intro w0 hSw; (try dsimp only at hSw); go_simp; try with_reducible rfl)
          (try simp only [Act.put, List.setIfInBounds_toArray, List.set_cons_zero, List.set_cons_succ])
          refine wpAnyH_ready (rs := [37]) (by kernel_rfl) (by simp) ?_
          refine AllReadyH.cons (o := { dst := some 72, op := Op.call { callee := Callee.value (Operand.func 10), args := #[Operand.tmp 67, Operand.tmp 71], argTypes := #[24, 2] }, type := 24, pos := "law.go:146", after := #[{ on := 32, ground := Ground.data }, { on := 36, ground := Ground.data }, { on := 31, ground := Ground.chain }, { on := 31, ground := Ground.guard }], guard := some (31, false) }) rfl (fun K hK => ?_) AllReadyH.nil
          go_simp
          go_at_call 10
          refine (minus_zero (sumTo z k) S0 _).mono ?_
          rintro e W5 ⟨rfl, hB5⟩
          have I5 := I4.drew.below hB5
          have v05 := (hB5.cell (p := ⟨wr.heap.size, 0, none⟩) hzl4).trans v0
          have v15 := (hB5.cell (p := ⟨wr.heap.size, 1, none⟩) hzl4).trans v1
          have z5 := hzk'.out _ I5.b; rw [hs0.out] at z5
          have hzl5 : wr.heap.size < W5.heap.size := Nat.lt_of_lt_of_le hzl4 hB5.size
          try dsimp only
          refine hK.out _ _ ?_ (fun hHeld => ?_)
          · exact ⟨I5.a0, I5.a1, v05, v15, z5, I5, hzl5⟩
          clear hK K
          (try simp only [Act.put, List.setIfInBounds_toArray, List.set_cons_zero, List.set_cons_succ])
          refine wpAnyH_take (i := 39) (oi := { dst := some 74, op := Op.binOp BinOp.neq 24 (Operand.tmp 72) (Operand.tmp 73) 24, type := 4, pos := "law.go:146", after := #[{ on := 37, ground := Ground.data }, { on := 38, ground := Ground.data }, { on := 31, ground := Ground.guard }], guard := some (31, false) }) (v := ?_) rfl (by kernel_rfl) (by kernel_rfl) (by kernel_rfl) (fun _ _ _ h => h) (Or.inl ⟨by rfl, ?_⟩) (by assumption) ?_
          rotate_left 1
          · (intro w0 hSw; (try dsimp only at hSw); go_simp; try with_reducible rfl)
          (try simp only [Act.put, List.setIfInBounds_toArray, List.set_cons_zero, List.set_cons_succ])
          refine wpAnyH_take (i := 40) (oi := { dst := some 75, op := Op.pick (Operand.tmp 66) (Operand.const (Value.bool true)) (Operand.tmp 74), type := 4, pos := "law.go:146", after := #[{ on := 31, ground := Ground.data }, { on := 39, ground := Ground.data }], guard := none }) (v := ?_) rfl (by kernel_rfl) (by kernel_rfl) (by kernel_rfl) (fun _ _ _ h => h) (Or.inl ⟨by rfl, ?_⟩) (by assumption) ?_
          rotate_left 1
          · (intro w0 hSw; (try dsimp only at hSw); go_simp; try with_reducible rfl)
          (try simp only [Act.put, List.setIfInBounds_toArray, List.set_cons_zero, List.set_cons_succ])
          refine wpAnyH_done (by kernel_rfl) ?_ _
          refine NoPanic.normal ?_
          go_wp2_with fail
          go_roundw
          case rel => exact ⟨k + 1, by omega, by go_num, by rw [show sumTo z (k + 1) = sumTo z k by rw [sumTo, hs0.out, Int.add_zero]]; exact I5⟩
          case measure => simp [intOf]; omega
        · rw [cmp_up _ _ hs]
          go_wp2_with fail
          have q1 : 0 < z k := by omega
          have q2 : ¬ z k < 0 := by omega
          have q3 : ¬ z k = 0 := by omega
          have q4 : (z k == 0) = false := beq_eq_false_iff_ne.2 q3
          refine wp_region_noPanic ?_
          refine wp_region_held_drew (S := (fun w' => (w'.cell? ⟨w1.heap.size, 0, none⟩ = some (.int .i64 (sH (sumTo z k + z k))) ∧ w'.cell? ⟨w1.heap.size, 1, none⟩ = some (.int .u64 (sL (sumTo z k + z k))) ∧ w'.cell? ⟨wr.heap.size, 0, none⟩ = some (.int .i64 (sH (sumTo z k))) ∧ w'.cell? ⟨wr.heap.size, 1, none⟩ = some (.int .u64 (sL (sumTo z k))) ∧ w'.cell? ⟨b, off + k, none⟩ = some (.int .i64 (z k)) ∧ Hid (AO w1.heap.size w1 len (sumTo z k + z k) 0 (fun _ => false) w' ∧ wr.heap.size < w'.heap.size)))) (by kernel_rfl) ?_ (fun hHeld => ?_)
          · exact ⟨a04, a14, v0, v1, z4, I4.drew, hzl4⟩
          refine wpAnyH_take (i := 0) (oi := { dst := some 35, op := Op.move (Operand.tmp 0), type := 49, pos := "law.go:146", after := #[], guard := none }) (v := ?_) rfl (by kernel_rfl) (by kernel_rfl) (by kernel_rfl) (fun _ _ _ h => h) (Or.inl ⟨by rfl, ?_⟩) (by assumption) ?_
          rotate_left 1
          · (intro w0 hSw; (try dsimp only at hSw); go_simp; try with_reducible rfl)
          (try simp only [Act.put, List.setIfInBounds_toArray, List.set_cons_zero, List.set_cons_succ])
          refine wpAnyH_take (i := 1) (oi := { dst := some 36, op := Op.move (Operand.tmp 8), type := 3, pos := "law.go:146", after := #[], guard := none }) (v := ?_) rfl (by kernel_rfl) (by kernel_rfl) (by kernel_rfl) (fun _ _ _ h => h) (Or.inl ⟨by rfl, ?_⟩) (by assumption) ?_
          rotate_left 1
          · (intro w0 hSw; (try dsimp only at hSw); go_simp; try with_reducible rfl)
          (try simp only [Act.put, List.setIfInBounds_toArray, List.set_cons_zero, List.set_cons_succ])
          refine wpAnyH_take (i := 2) (oi := { dst := some 37, op := Op.indexAddr 49 (Operand.tmp 35) (Operand.tmp 36), type := 0, pos := "law.go:146", after := #[{ on := 0, ground := Ground.data }, { on := 1, ground := Ground.data }], guard := none }) (v := ?_) rfl (by kernel_rfl) (by kernel_rfl) (by kernel_rfl) (fun _ _ _ h => h) (Or.inl ⟨by rfl, ?_⟩) (by assumption) ?_
          rotate_left 1
          · (intro w0 hSw; (try dsimp only at hSw); go_simp; try with_reducible rfl)
          (try simp only [Act.put, List.setIfInBounds_toArray, List.set_cons_zero, List.set_cons_succ])
          refine wpAnyH_take (i := 3) (oi := { dst := some 38, op := Op.load 2 (Operand.tmp 37), type := 2, pos := "law.go:146", after := #[{ on := 2, ground := Ground.data }], guard := none }) (v := ?_) rfl (by kernel_rfl) (by kernel_rfl) (by kernel_rfl) (fun _ _ _ h => h) (Or.inl ⟨by rfl, ?_⟩) (by assumption) ?_
          rotate_left 1
          · (intro w0 hSw; (try dsimp only at hSw); go_simp; try with_reducible rfl)
          (try simp only [Act.put, List.setIfInBounds_toArray, List.set_cons_zero, List.set_cons_succ])
          refine wpAnyH_take (i := 4) (oi := { dst := some 39, op := Op.binOp BinOp.gtr 2 (Operand.tmp 38) (Operand.const (Value.int IntKind.i64 0)) 2, type := 4, pos := "law.go:146", after := #[{ on := 3, ground := Ground.data }], guard := none }) (v := ?_) rfl (by kernel_rfl) (by kernel_rfl) (by kernel_rfl) (fun _ _ _ h => h) (Or.inl ⟨by rfl, ?_⟩) (by assumption) ?_
          rotate_left 1
          · (intro w0 hSw; (try dsimp only at hSw); go_simp; try with_reducible rfl)
          (try simp only [Act.put, List.setIfInBounds_toArray, List.set_cons_zero, List.set_cons_succ])
          refine wpAnyH_take (i := 5) (oi := { dst := some 40, op := Op.move (Operand.tmp 39), type := 4, pos := "law.go:146", after := #[{ on := 4, ground := Ground.data }], guard := none }) (v := ?_) rfl (by kernel_rfl) (by kernel_rfl) (by kernel_rfl) (fun _ _ _ h => h) (Or.inl ⟨by rfl, ?_⟩) (by assumption) ?_
          rotate_left 1
          · (intro w0 hSw; (try dsimp only at hSw); go_simp; try with_reducible rfl)
          (try simp only [Act.put, List.setIfInBounds_toArray, List.set_cons_zero, List.set_cons_succ])
          refine wpAnyH_take (i := 6) (oi := { dst := some 41, op := Op.move (Operand.tmp 10), type := 3, pos := "law.go:146", after := #[{ on := 5, ground := Ground.guard }], guard := some (5, true) }) (v := ?_) rfl (by kernel_rfl) (by kernel_rfl) (by kernel_rfl) (fun _ _ _ h => h) (Or.inl ⟨by rfl, ?_⟩) (by assumption) ?_
          rotate_left 1
          · (intro w0 hSw; (try dsimp only at hSw); go_simp; try with_reducible rfl)
          (try simp only [Act.put, List.setIfInBounds_toArray, List.set_cons_zero, List.set_cons_succ])
          refine wpAnyH_take (i := 7) (oi := { dst := some 42, op := Op.binOp BinOp.neq 3 (Operand.tmp 41) (Operand.const (Value.int IntKind.i64 1)) 3, type := 4, pos := "law.go:146", after := #[{ on := 6, ground := Ground.data }, { on := 5, ground := Ground.guard }], guard := some (5, true) }) (v := ?_) rfl (by kernel_rfl) (by kernel_rfl) (by kernel_rfl) (fun _ _ _ h => h) (Or.inl ⟨by rfl, ?_⟩) (by assumption) ?_
          rotate_left 1
          · (intro w0 hSw; (try dsimp only at hSw); go_simp; try with_reducible rfl)
          (try simp only [Act.put, List.setIfInBounds_toArray, List.set_cons_zero, List.set_cons_succ])
          refine wpAnyH_take (i := 8) (oi := { dst := some 43, op := Op.pick (Operand.tmp 40) (Operand.tmp 42) (Operand.const (Value.bool false)), type := 4, pos := "law.go:146", after := #[{ on := 5, ground := Ground.data }, { on := 7, ground := Ground.data }], guard := none }) (v := ?_) rfl (by kernel_rfl) (by kernel_rfl) (by kernel_rfl) (fun _ _ _ h => h) (Or.inl ⟨by rfl, ?_⟩) (by assumption) ?_
          rotate_left 1
          · (intro w0 hSw; (try dsimp only at hSw); go_simp; try with_reducible rfl)
          (try simp only [Act.put, List.setIfInBounds_toArray, List.set_cons_zero, List.set_cons_succ])
          refine wpAnyH_take (i := 9) (oi := { dst := some 44, op := Op.move (Operand.tmp 43), type := 4, pos := "law.go:146", after := #[{ on := 8, ground := Ground.data }, { on := 5, ground := Ground.chain }], guard := none }) (v := ?_) rfl (by kernel_rfl) (by kernel_rfl) (by kernel_rfl) (fun _ _ _ h => h) (Or.inl ⟨by rfl, ?_⟩) (by assumption) ?_
          rotate_left 1
          · (intro w0 hSw; (try dsimp only at hSw); go_simp; try with_reducible rfl)
          (try simp only [Act.put, List.setIfInBounds_toArray, List.set_cons_zero, List.set_cons_succ])
          refine wpAnyH_take (i := 10) (oi := { dst := some 45, op := Op.move (Operand.tmp 0), type := 49, pos := "law.go:146", after := #[{ on := 9, ground := Ground.guard }], guard := some (9, false) }) (v := ?_) rfl (by kernel_rfl) (by kernel_rfl) (by kernel_rfl) (fun _ _ _ h => h) (Or.inl ⟨by rfl, ?_⟩) (by assumption) ?_
          rotate_left 1
          · (intro w0 hSw; (try dsimp only at hSw); go_simp; try with_reducible rfl)
          (try simp only [Act.put, List.setIfInBounds_toArray, List.set_cons_zero, List.set_cons_succ])
          refine wpAnyH_take (i := 11) (oi := { dst := some 46, op := Op.move (Operand.tmp 8), type := 3, pos := "law.go:146", after := #[{ on := 9, ground := Ground.guard }], guard := some (9, false) }) (v := ?_) rfl (by kernel_rfl) (by kernel_rfl) (by kernel_rfl) (fun _ _ _ h => h) (Or.inl ⟨by rfl, ?_⟩) (by assumption) ?_
          rotate_left 1
          · (intro w0 hSw; (try dsimp only at hSw); go_simp; try with_reducible rfl)
          (try simp only [Act.put, List.setIfInBounds_toArray, List.set_cons_zero, List.set_cons_succ])
          refine wpAnyH_take (i := 12) (oi := { dst := some 47, op := Op.indexAddr 49 (Operand.tmp 45) (Operand.tmp 46), type := 0, pos := "law.go:146", after := #[{ on := 10, ground := Ground.data }, { on := 11, ground := Ground.data }, { on := 9, ground := Ground.guard }], guard := some (9, false) }) (v := ?_) rfl (by kernel_rfl) (by kernel_rfl) (by kernel_rfl) (fun _ _ _ h => h) (Or.inl ⟨by rfl, ?_⟩) (by assumption) ?_
          rotate_left 1
          · (intro w0 hSw; (try dsimp only at hSw); go_simp; try with_reducible rfl)
          (try simp only [Act.put, List.setIfInBounds_toArray, List.set_cons_zero, List.set_cons_succ])
          refine wpAnyH_take (i := 13) (oi := { dst := some 48, op := Op.load 2 (Operand.tmp 47), type := 2, pos := "law.go:146", after := #[{ on := 12, ground := Ground.data }, { on := 9, ground := Ground.guard }], guard := some (9, false) }) (v := ?_) rfl (by kernel_rfl) (by kernel_rfl) (by kernel_rfl) (fun _ _ _ h => h) (Or.inl ⟨by rfl, ?_⟩) (by assumption) ?_
          rotate_left 1
          · (intro w0 hSw; (try dsimp only at hSw); go_simp; try with_reducible rfl)
          (try simp only [Act.put, List.setIfInBounds_toArray, List.set_cons_zero, List.set_cons_succ])
          refine wpAnyH_take (i := 14) (oi := { dst := some 49, op := Op.binOp BinOp.lss 2 (Operand.tmp 48) (Operand.const (Value.int IntKind.i64 0)) 2, type := 4, pos := "law.go:146", after := #[{ on := 13, ground := Ground.data }, { on := 9, ground := Ground.guard }], guard := some (9, false) }) (v := ?_) rfl (by kernel_rfl) (by kernel_rfl) (by kernel_rfl) (fun _ _ _ h => h) (Or.inl ⟨by rfl, ?_⟩) (by assumption) ?_
          rotate_left 1
          · (intro w0 hSw; (try dsimp only at hSw); go_simp; try with_reducible rfl)
          (try simp only [Act.put, List.setIfInBounds_toArray, List.set_cons_zero, List.set_cons_succ])
          refine wpAnyH_take (i := 15) (oi := { dst := some 50, op := Op.move (Operand.tmp 49), type := 4, pos := "law.go:146", after := #[{ on := 14, ground := Ground.data }, { on := 9, ground := Ground.chain }, { on := 9, ground := Ground.guard }], guard := some (9, false) }) (v := ?_) rfl (by kernel_rfl) (by kernel_rfl) (by kernel_rfl) (fun _ _ _ h => h) (Or.inl ⟨by rfl, ?_⟩) (by assumption) ?_
          rotate_left 1
          · (intro w0 hSw; (try dsimp only at hSw); go_simp; try with_reducible rfl)
          (try simp only [Act.put, List.setIfInBounds_toArray, List.set_cons_zero, List.set_cons_succ])
          refine wpAnyH_take (i := 16) (oi := { dst := some 51, op := Op.move (Operand.tmp 10), type := 3, pos := "law.go:146", after := #[{ on := 15, ground := Ground.guard }], guard := some (15, true) }) (v := undef) rfl (by kernel_rfl) (by kernel_rfl) (by kernel_rfl) (fun _ _ _ h => h) (Or.inr ⟨by rfl, rfl⟩) (by assumption) ?_
          (try simp only [Act.put, List.setIfInBounds_toArray, List.set_cons_zero, List.set_cons_succ])
          refine wpAnyH_take (i := 17) (oi := { dst := some 52, op := Op.binOp BinOp.neq 3 (Operand.tmp 51) (Operand.const (Value.int IntKind.i64 (-1))) 3, type := 4, pos := "law.go:146", after := #[{ on := 16, ground := Ground.data }, { on := 15, ground := Ground.guard }], guard := some (15, true) }) (v := undef) rfl (by kernel_rfl) (by kernel_rfl) (by kernel_rfl) (fun _ _ _ h => h) (Or.inr ⟨by rfl, rfl⟩) (by assumption) ?_
          (try simp only [Act.put, List.setIfInBounds_toArray, List.set_cons_zero, List.set_cons_succ])
          refine wpAnyH_take (i := 18) (oi := { dst := some 53, op := Op.pick (Operand.tmp 50) (Operand.tmp 52) (Operand.const (Value.bool false)), type := 4, pos := "law.go:146", after := #[{ on := 15, ground := Ground.data }, { on := 17, ground := Ground.data }, { on := 9, ground := Ground.guard }], guard := some (9, false) }) (v := ?_) rfl (by kernel_rfl) (by kernel_rfl) (by kernel_rfl) (fun _ _ _ h => h) (Or.inl ⟨by rfl, ?_⟩) (by assumption) ?_
          rotate_left 1
          · (intro w0 hSw; (try dsimp only at hSw); go_simp; try with_reducible rfl)
          (try simp only [Act.put, List.setIfInBounds_toArray, List.set_cons_zero, List.set_cons_succ])
          refine wpAnyH_take (i := 19) (oi := { dst := some 54, op := Op.pick (Operand.tmp 44) (Operand.const (Value.bool true)) (Operand.tmp 53), type := 4, pos := "law.go:146", after := #[{ on := 9, ground := Ground.data }, { on := 18, ground := Ground.data }], guard := none }) (v := ?_) rfl (by kernel_rfl) (by kernel_rfl) (by kernel_rfl) (fun _ _ _ h => h) (Or.inl ⟨by rfl, ?_⟩) (by assumption) ?_
          rotate_left 1
          · (intro w0 hSw; (try dsimp only at hSw); go_simp; try with_reducible rfl)
          (try simp only [Act.put, List.setIfInBounds_toArray, List.set_cons_zero, List.set_cons_succ])
          refine wpAnyH_take (i := 20) (oi := { dst := some 55, op := Op.move (Operand.tmp 54), type := 4, pos := "law.go:146", after := #[{ on := 19, ground := Ground.data }, { on := 15, ground := Ground.chain }], guard := none }) (v := ?_) rfl (by kernel_rfl) (by kernel_rfl) (by kernel_rfl) (fun _ _ _ h => h) (Or.inl ⟨by rfl, ?_⟩) (by assumption) ?_
          rotate_left 1
          · (intro w0 hSw; (try dsimp only at hSw); go_simp; try with_reducible rfl)
          (try simp only [Act.put, List.setIfInBounds_toArray, List.set_cons_zero, List.set_cons_succ])
          refine wpAnyH_take (i := 21) (oi := { dst := some 56, op := Op.move (Operand.tmp 0), type := 49, pos := "law.go:146", after := #[{ on := 20, ground := Ground.guard }], guard := some (20, false) }) (v := ?_) rfl (by kernel_rfl) (by kernel_rfl) (by kernel_rfl) (fun _ _ _ h => h) (Or.inl ⟨by rfl, ?_⟩) (by assumption) ?_
          rotate_left 1
          · (intro w0 hSw; (try dsimp only at hSw); go_simp; try with_reducible rfl)
          (try simp only [Act.put, List.setIfInBounds_toArray, List.set_cons_zero, List.set_cons_succ])
          refine wpAnyH_take (i := 22) (oi := { dst := some 57, op := Op.move (Operand.tmp 8), type := 3, pos := "law.go:146", after := #[{ on := 20, ground := Ground.guard }], guard := some (20, false) }) (v := ?_) rfl (by kernel_rfl) (by kernel_rfl) (by kernel_rfl) (fun _ _ _ h => h) (Or.inl ⟨by rfl, ?_⟩) (by assumption) ?_
          rotate_left 1
          · (intro w0 hSw; (try dsimp only at hSw); go_simp; try with_reducible rfl)
          (try simp only [Act.put, List.setIfInBounds_toArray, List.set_cons_zero, List.set_cons_succ])
          refine wpAnyH_take (i := 23) (oi := { dst := some 58, op := Op.indexAddr 49 (Operand.tmp 56) (Operand.tmp 57), type := 0, pos := "law.go:146", after := #[{ on := 21, ground := Ground.data }, { on := 22, ground := Ground.data }, { on := 20, ground := Ground.guard }], guard := some (20, false) }) (v := ?_) rfl (by kernel_rfl) (by kernel_rfl) (by kernel_rfl) (fun _ _ _ h => h) (Or.inl ⟨by rfl, ?_⟩) (by assumption) ?_
          rotate_left 1
          · (intro w0 hSw; (try dsimp only at hSw); go_simp; try with_reducible rfl)
          (try simp only [Act.put, List.setIfInBounds_toArray, List.set_cons_zero, List.set_cons_succ])
          refine wpAnyH_take (i := 24) (oi := { dst := some 59, op := Op.load 2 (Operand.tmp 58), type := 2, pos := "law.go:146", after := #[{ on := 23, ground := Ground.data }, { on := 20, ground := Ground.guard }], guard := some (20, false) }) (v := ?_) rfl (by kernel_rfl) (by kernel_rfl) (by kernel_rfl) (fun _ _ _ h => h) (Or.inl ⟨by rfl, ?_⟩) (by assumption) ?_
          rotate_left 1
          · (intro w0 hSw; (try dsimp only at hSw); go_simp; try with_reducible rfl)
          (try simp only [Act.put, List.setIfInBounds_toArray, List.set_cons_zero, List.set_cons_succ])
          refine wpAnyH_take (i := 25) (oi := { dst := some 60, op := Op.binOp BinOp.eql 2 (Operand.tmp 59) (Operand.const (Value.int IntKind.i64 0)) 2, type := 4, pos := "law.go:146", after := #[{ on := 24, ground := Ground.data }, { on := 20, ground := Ground.guard }], guard := some (20, false) }) (v := ?_) rfl (by kernel_rfl) (by kernel_rfl) (by kernel_rfl) (fun _ _ _ h => h) (Or.inl ⟨by rfl, ?_⟩) (by assumption) ?_
          rotate_left 1
          · (intro w0 hSw; (try dsimp only at hSw); go_simp; try with_reducible rfl)
          (try simp only [Act.put, List.setIfInBounds_toArray, List.set_cons_zero, List.set_cons_succ])
          refine wpAnyH_take (i := 26) (oi := { dst := some 61, op := Op.move (Operand.tmp 60), type := 4, pos := "law.go:146", after := #[{ on := 25, ground := Ground.data }, { on := 20, ground := Ground.chain }, { on := 20, ground := Ground.guard }], guard := some (20, false) }) (v := ?_) rfl (by kernel_rfl) (by kernel_rfl) (by kernel_rfl) (fun _ _ _ h => h) (Or.inl ⟨by rfl, ?_⟩) (by assumption) ?_
          rotate_left 1
          · (intro w0 hSw; (try dsimp only at hSw); go_simp; try with_reducible rfl)
          (try simp only [Act.put, List.setIfInBounds_toArray, List.set_cons_zero, List.set_cons_succ])
          refine wpAnyH_take (i := 27) (oi := { dst := some 62, op := Op.move (Operand.tmp 10), type := 3, pos := "law.go:146", after := #[{ on := 26, ground := Ground.guard }], guard := some (26, true) }) (v := undef) rfl (by kernel_rfl) (by kernel_rfl) (by kernel_rfl) (fun _ _ _ h => h) (Or.inr ⟨by rfl, rfl⟩) (by assumption) ?_
          (try simp only [Act.put, List.setIfInBounds_toArray, List.set_cons_zero, List.set_cons_succ])
          refine wpAnyH_take (i := 28) (oi := { dst := some 63, op := Op.binOp BinOp.neq 3 (Operand.tmp 62) (Operand.const (Value.int IntKind.i64 0)) 3, type := 4, pos := "law.go:146", after := #[{ on := 27, ground := Ground.data }, { on := 26, ground := Ground.guard }], guard := some (26, true) }) (v := undef) rfl (by kernel_rfl) (by kernel_rfl) (by kernel_rfl) (fun _ _ _ h => h) (Or.inr ⟨by rfl, rfl⟩) (by assumption) ?_
          (try simp only [Act.put, List.setIfInBounds_toArray, List.set_cons_zero, List.set_cons_succ])
          refine wpAnyH_take (i := 29) (oi := { dst := some 64, op := Op.pick (Operand.tmp 61) (Operand.tmp 63) (Operand.const (Value.bool false)), type := 4, pos := "law.go:146", after := #[{ on := 26, ground := Ground.data }, { on := 28, ground := Ground.data }, { on := 20, ground := Ground.guard }], guard := some (20, false) }) (v := ?_) rfl (by kernel_rfl) (by kernel_rfl) (by kernel_rfl) (fun _ _ _ h => h) (Or.inl ⟨by rfl, ?_⟩) (by assumption) ?_
          rotate_left 1
          · (intro w0 hSw; (try dsimp only at hSw); go_simp; try with_reducible rfl)
          (try simp only [Act.put, List.setIfInBounds_toArray, List.set_cons_zero, List.set_cons_succ])
          refine wpAnyH_take (i := 30) (oi := { dst := some 65, op := Op.pick (Operand.tmp 55) (Operand.const (Value.bool true)) (Operand.tmp 64), type := 4, pos := "law.go:146", after := #[{ on := 20, ground := Ground.data }, { on := 29, ground := Ground.data }], guard := none }) (v := ?_) rfl (by kernel_rfl) (by kernel_rfl) (by kernel_rfl) (fun _ _ _ h => h) (Or.inl ⟨by rfl, ?_⟩) (by assumption) ?_
          rotate_left 1
          · (intro w0 hSw; (try dsimp only at hSw); go_simp; try with_reducible rfl)
          (try simp only [Act.put, List.setIfInBounds_toArray, List.set_cons_zero, List.set_cons_succ])
          refine wpAnyH_take (i := 31) (oi := { dst := some 66, op := Op.move (Operand.tmp 65), type := 4, pos := "law.go:146", after := #[{ on := 30, ground := Ground.data }, { on := 26, ground := Ground.chain }], guard := none }) (v := ?_) rfl (by kernel_rfl) (by kernel_rfl) (by kernel_rfl) (fun _ _ _ h => h) (Or.inl ⟨by rfl, ?_⟩) (by assumption) ?_
          rotate_left 1
          · (intro w0 hSw; (try dsimp only at hSw); go_simp; try with_reducible rfl)
          (try simp only [Act.put, List.setIfInBounds_toArray, List.set_cons_zero, List.set_cons_succ])
          refine wpAnyH_take (i := 32) (oi := { dst := some 67, op := Op.load 24 (Operand.tmp 5), type := 24, pos := "law.go:146", after := #[{ on := 31, ground := Ground.guard }], guard := some (31, false) }) (v := ?_) rfl (by kernel_rfl) (by kernel_rfl) (by kernel_rfl) (fun _ _ _ h => h) (Or.inl ⟨by rfl, ?_⟩) (by assumption) ?_
          rotate_left 1
          · (intro w0 hSw; (try dsimp only at hSw); go_simp; try with_reducible rfl)
          (try simp only [Act.put, List.setIfInBounds_toArray, List.set_cons_zero, List.set_cons_succ])
          refine wpAnyH_take (i := 33) (oi := { dst := some 68, op := Op.move (Operand.tmp 0), type := 49, pos := "law.go:146", after := #[{ on := 31, ground := Ground.guard }], guard := some (31, false) }) (v := ?_) rfl (by kernel_rfl) (by kernel_rfl) (by kernel_rfl) (fun _ _ _ h => h) (Or.inl ⟨by rfl, ?_⟩) (by assumption) ?_
          rotate_left 1
          · (intro w0 hSw; (try dsimp only at hSw); go_simp; try with_reducible rfl)
          (try simp only [Act.put, List.setIfInBounds_toArray, List.set_cons_zero, List.set_cons_succ])
          refine wpAnyH_take (i := 34) (oi := { dst := some 69, op := Op.move (Operand.tmp 8), type := 3, pos := "law.go:146", after := #[{ on := 31, ground := Ground.guard }], guard := some (31, false) }) (v := ?_) rfl (by kernel_rfl) (by kernel_rfl) (by kernel_rfl) (fun _ _ _ h => h) (Or.inl ⟨by rfl, ?_⟩) (by assumption) ?_
          rotate_left 1
          · (intro w0 hSw; (try dsimp only at hSw); go_simp; try with_reducible rfl)
          (try simp only [Act.put, List.setIfInBounds_toArray, List.set_cons_zero, List.set_cons_succ])
          refine wpAnyH_take (i := 35) (oi := { dst := some 70, op := Op.indexAddr 49 (Operand.tmp 68) (Operand.tmp 69), type := 0, pos := "law.go:146", after := #[{ on := 33, ground := Ground.data }, { on := 34, ground := Ground.data }, { on := 31, ground := Ground.guard }], guard := some (31, false) }) (v := ?_) rfl (by kernel_rfl) (by kernel_rfl) (by kernel_rfl) (fun _ _ _ h => h) (Or.inl ⟨by rfl, ?_⟩) (by assumption) ?_
          rotate_left 1
          · (intro w0 hSw; (try dsimp only at hSw); go_simp; try with_reducible rfl)
          (try simp only [Act.put, List.setIfInBounds_toArray, List.set_cons_zero, List.set_cons_succ])
          refine wpAnyH_take (i := 36) (oi := { dst := some 71, op := Op.load 2 (Operand.tmp 70), type := 2, pos := "law.go:146", after := #[{ on := 35, ground := Ground.data }, { on := 31, ground := Ground.guard }], guard := some (31, false) }) (v := ?_) rfl (by kernel_rfl) (by kernel_rfl) (by kernel_rfl) (fun _ _ _ h => h) (Or.inl ⟨by rfl, ?_⟩) (by assumption) ?_
          rotate_left 1
          · (intro w0 hSw; (try dsimp only at hSw); go_simp; try with_reducible rfl)
          (try simp only [Act.put, List.setIfInBounds_toArray, List.set_cons_zero, List.set_cons_succ])
          refine wpAnyH_take (i := 38) (oi := { dst := some 73, op := Op.load 24 (Operand.tmp 9), type := 24, pos := "law.go:146", after := #[{ on := 31, ground := Ground.guard }], guard := some (31, false) }) (v := ?_) rfl (by kernel_rfl) (by kernel_rfl) (by kernel_rfl) (fun _ _ _ h => h) (Or.inl ⟨by rfl, ?_⟩) (by assumption) ?_
          rotate_left 1
          · (intro w0 hSw; (try dsimp only at hSw); go_simp; try with_reducible rfl)
          (try simp only [Act.put, List.setIfInBounds_toArray, List.set_cons_zero, List.set_cons_succ])
          refine wpAnyH_ready (rs := [37]) (by kernel_rfl) (by simp) ?_
          refine AllReadyH.cons (o := { dst := some 72, op := Op.call { callee := Callee.value (Operand.func 10), args := #[Operand.tmp 67, Operand.tmp 71], argTypes := #[24, 2] }, type := 24, pos := "law.go:146", after := #[{ on := 32, ground := Ground.data }, { on := 36, ground := Ground.data }, { on := 31, ground := Ground.chain }, { on := 31, ground := Ground.guard }], guard := some (31, false) }) rfl (fun K hK => ?_) AllReadyH.nil
          go_simp
          go_at_call 10
          refine (minus_back (sumTo z k) (z k) S0 hzI _).mono ?_
          rintro e W5 ⟨rfl, hB5⟩
          have I5 := I4.drew.below hB5
          have v05 := (hB5.cell (p := ⟨wr.heap.size, 0, none⟩) hzl4).trans v0
          have v15 := (hB5.cell (p := ⟨wr.heap.size, 1, none⟩) hzl4).trans v1
          have z5 := hzk'.out _ I5.b
          have hzl5 : wr.heap.size < W5.heap.size := Nat.lt_of_lt_of_le hzl4 hB5.size
          try dsimp only
          refine hK.out _ _ ?_ (fun hHeld => ?_)
          · exact ⟨I5.a0, I5.a1, v05, v15, z5, I5, hzl5⟩
          clear hK K
          (try simp only [Act.put, List.setIfInBounds_toArray, List.set_cons_zero, List.set_cons_succ])
          refine wpAnyH_take (i := 39) (oi := { dst := some 74, op := Op.binOp BinOp.neq 24 (Operand.tmp 72) (Operand.tmp 73) 24, type := 4, pos := "law.go:146", after := #[{ on := 37, ground := Ground.data }, { on := 38, ground := Ground.data }, { on := 31, ground := Ground.guard }], guard := some (31, false) }) (v := ?_) rfl (by kernel_rfl) (by kernel_rfl) (by kernel_rfl) (fun _ _ _ h => h) (Or.inl ⟨by rfl, ?_⟩) (by assumption) ?_
          rotate_left 1
          · (intro w0 hSw; (try dsimp only at hSw); go_simp; try with_reducible rfl)
          (try simp only [Act.put, List.setIfInBounds_toArray, List.set_cons_zero, List.set_cons_succ])
          refine wpAnyH_take (i := 40) (oi := { dst := some 75, op := Op.pick (Operand.tmp 66) (Operand.const (Value.bool true)) (Operand.tmp 74), type := 4, pos := "law.go:146", after := #[{ on := 31, ground := Ground.data }, { on := 39, ground := Ground.data }], guard := none }) (v := ?_) rfl (by kernel_rfl) (by kernel_rfl) (by kernel_rfl) (fun _ _ _ h => h) (Or.inl ⟨by rfl, ?_⟩) (by assumption) ?_
          rotate_left 1
          · (intro w0 hSw; (try dsimp only at hSw); go_simp; try with_reducible rfl)
          (try simp only [Act.put, List.setIfInBounds_toArray, List.set_cons_zero, List.set_cons_succ])
          refine wpAnyH_done (by kernel_rfl) ?_ _
          refine NoPanic.normal ?_
          go_wp2_with fail
          go_roundw
          case rel => exact ⟨k + 1, by omega, by go_num, I5⟩
          case measure => simp [intOf]; omega
    · have hk' : len = k := by omega
      subst hk'
      clear hlt hk
      go_wp2_with fail
      rcases hperm'.out with h0 | ⟨pb, po, hap, hpb, hpc⟩
      · have hJ0 := hI
        obtain ⟨u, hJ⟩ : ∃ u, AO w1.heap.size w1 len (sumTo z len) (sumU u z len) u wr := ⟨fun _ => false, by rw [sumU_none]; exact hI⟩
        clear hI hJ0
        subst h0
        go_loopw [11] (fun i wr => ∃ (m : Nat), m = 0 ∧ i = .int .i64 m ∧ AO w1.heap.size w1 len (sumTo z len) (sumU u z len) u wr) (fun i _ => 0)
        case atStart => exact ⟨0, rfl, rfl, hJ⟩
        case round =>
          clear hJ
          obtain ⟨m, rfl, rfl, hJ⟩ := hrel
          go_wp2_with fail
          go_loopw [12] (fun i wr => ∃ (n : Nat), n ≤ len ∧ i = .int .i64 n ∧ AO w1.heap.size w1 len (sumTo z len) (sumU u z len + sumU (fun i => !u i) z n) u wr) (fun i _ => len - (intOf i).toNat)
          case atStart =>
            refine ⟨0, Nat.zero_le _, rfl, ?_⟩
            show AO _ _ _ _ (sumU u z len + 0) _ _
            rw [Int.add_zero]; exact hJ
          case round =>
            clear hJ
            obtain ⟨n, hn, rfl, hJ⟩ := hrel
            by_cases hlt : n < len
            · have hbl : b < w1.heap.size := by have := hb1.size; omega
              have hzn : ∀ wy, Below w1.heap.size w1 wy → wy.cell? ⟨b, off + n, none⟩ = some (.int .i64 (z n)) := fun wy hB => by
                rw [hB.cell (p := ⟨b, off + n, none⟩) hbl, hb1.cell (p := ⟨b, off + n, none⟩) hbk]; exact hcell n hlt
              have hltI : (n : Int) < (len : Int) := by omega
              have hun := hJ.us n hlt
              have hzI := hz n
              by_cases c3 : u n = true
              · have e : sumU (fun i => !u i) z (n + 1) = sumU (fun i => !u i) z n := by simp [sumU, c3]
                rw [c3] at hun
                clear hcell hzn
                go_wp2_with fail
                go_roundw
                case rel => exact ⟨n + 1, by omega, by go_num, by rw [e]; exact hJ⟩
                case measure => simp [intOf]; omega
              · have c3' : u n = false := by simpa using c3
                have e : sumU u z len + sumU (fun i => !u i) z (n + 1) = sumU u z len + sumU (fun i => !u i) z n + z n := by simp [sumU, c3']; omega
                rw [c3'] at hun
                have S1 : S128 (sumU u z len + sumU (fun i => !u i) z n + z n) := by
                  rw [← e]
                  have h1 := sumU_bd u z hz len
                  have h2 := sumU_bd (fun i => !u i) z hz (n + 1)
                  unfold S128; omega
                have z1 := hzn _ hJ.b
                have hJ1 : Hid _ := hJ
                have b0 := hJ.b0
                have b1 := hJ.b1
                generalize hv : sumU u z len + sumU (fun i => !u i) z n = v at *
                clear hcell hzn c3
                go_wp2_with fail
                go_region_with (first | (go_at_call 8; refine (plus_next v (z n) S1 hzI _).mono ?_; rintro e w2 ⟨rfl, hB2⟩; have I2 := hJ1.out.drew.below hB2; have Y2 := I2; obtain ⟨x0, x1, x2, x3, x4, x5, x6, x7, x8, x9, x10, x11⟩ := I2))
                all_goals
                  have I3 := Y2.setB (v + z n)
                  go_wp2_with fail
                  go_roundw
                  case rel => exact ⟨n + 1, by omega, by go_num, by rw [e]; exact I3⟩
                  case measure => simp [intOf]; omega
            · have hn' : len = n := by omega
              subst hn'
              have ev := sumU_all u z len
              rw [ev] at hJ
              have a0 := hJ.a0
              have a1 := hJ.a1
              have b0 := hJ.b0
              have b1 := hJ.b1
              have hJ1 : Hid _ := hJ
              clear hlt hn hJ
              go_wp2_with fail
              clear a0 a1 b0 b1
              go_loopw [13] (fun i wr => ∃ (n : Nat), n ≤ len ∧ i = .int .i64 n ∧ AO w1.heap.size w1 len (sumTo z len - sumTo z n) (sumTo z len) u wr) (fun i _ => len - (intOf i).toNat)
              case atStart =>
                refine ⟨0, Nat.zero_le _, rfl, ?_⟩
                show AO _ _ _ (sumTo z len - 0) _ _ _
                rw [Int.sub_zero]; exact hJ1.out
              case round =>
                clear hJ1
                obtain ⟨n, hn, rfl, hJ⟩ := hrel
                by_cases hlt : n < len
                · have hbl : b < w1.heap.size := by have := hb1.size; omega
                  have hzn : ∀ wy, Below w1.heap.size w1 wy → wy.cell? ⟨b, off + n, none⟩ = some (.int .i64 (z n)) := fun wy hB => by
                    rw [hB.cell (p := ⟨b, off + n, none⟩) hbl, hb1.cell (p := ⟨b, off + n, none⟩) hbk]; exact hcell n hlt
                  have hltI : (n : Int) < (len : Int) := by omega
                  have hzI := hz n
                  have e : sumTo z len - sumTo z (n + 1) = sumTo z len - sumTo z n - z n := by simp only [sumTo]; omega
                  have S1 : S128 (sumTo z len - sumTo z n - z n) := by
                    rw [← e]
                    have h1 := sumTo_bd z hz len
                    have h2 := sumTo_bd z hz (n + 1)
                    unfold S128; omega
                  have z1 := hzn _ hJ.b
                  have hJ1 : Hid _ := hJ
                  have a0 := hJ.a0
                  have a1 := hJ.a1
                  generalize hv : sumTo z len - sumTo z n = v at *
                  clear hcell hzn
                  go_wp2_with fail
                  go_region_with (first | (go_at_call 10; refine (minus_next v (z n) S1 hzI _).mono ?_; rintro e w2 ⟨rfl, hB2⟩; have I2 := hJ1.out.drew.below hB2; have Y2 := I2; obtain ⟨x0, x1, x2, x3, x4, x5, x6, x7, x8, x9, x10, x11⟩ := I2))
                  all_goals
                    have I3 := Y2.setA (v - z n)
                    go_wp2_with fail
                    go_roundw
                    case rel => exact ⟨n + 1, by omega, by go_num, by rw [e]; exact I3⟩
                    case measure => simp [intOf]; omega
                · have hn' : len = n := by omega
                  subst hn'
                  rw [Int.sub_self] at hJ
                  have a0 := hJ.a0
                  have a1 := hJ.a1
                  have e1 : sH 0 = 0 := by unfold sH; omega
                  have e2 : sL 0 = 0 := by unfold sL; omega
                  rw [e1] at a0
                  rw [e2] at a1
                  have hB := hJ.b
                  clear hlt hn hcell hJ
                  go_wp2_with fail
                  go_ret
                  exact ⟨rfl, hb1.trans (hB.mono hb1.size)⟩
      · rw [hap]
        clear hap
        go_loopw [11] (fun i wr => ∃ (m : Nat) (u : Nat → Bool), m ≤ lp ∧ i = .int .i64 m ∧ AO w1.heap.size w1 len (sumTo z len) (sumU u z len) u wr) (fun i _ => lp - (intOf i).toNat)
        case atStart =>
          refine ⟨0, fun _ => false, Nat.zero_le _, rfl, ?_⟩
          rw [sumU_none]; exact hI
        case round =>
          clear hI
          obtain ⟨m, u, hm, rfl, hJ⟩ := hrel
          by_cases hlt : m < lp
          · have hbl : b < w1.heap.size := by have := hb1.size; omega
            have hpl : pb < w1.heap.size := by have := hb1.size; omega
            have hym : ∀ wy, Below w1.heap.size w1 wy → wy.cell? ⟨pb, po + m, none⟩ = some (.int .i64 (y m)) := fun wy hB => by
              rw [hB.cell (p := ⟨pb, po + m, none⟩) hpl, hb1.cell (p := ⟨pb, po + m, none⟩) hpb]; exact hpc m hlt
            have hltI : (m : Int) < (lp : Int) := by omega
            have y0 := hym _ hJ.b
            by_cases c1 : 0 ≤ y m
            · by_cases c2 : y m < (len : Int)
              · obtain ⟨j, hj⟩ := Int.eq_ofNat_of_zero_le c1
                rw [hj] at y0 c1 c2
                have c2' : j < len := by omega
                have hju := hJ.us j c2'
                by_cases c3 : u j = true
                · rw [c3] at hju
                  clear hcell
                  go_wp2_with fail
                  go_roundw
                  case rel => exact ⟨m + 1, u, by omega, by go_num, hJ⟩
                  case measure => simp [intOf]; omega
                · have c3' : u j = false := by simpa using c3
                  rw [c3'] at hju
                  have hfu := hJ.fu j c2'
                  have em := sumU_mark u z j len c2' c3'
                  have S1 : S128 (sumU u z len + z j) := by
                    rw [← em]; have h1 := sumU_bd (markU u j) z hz len; unfold S128; omega
                  have hzI := hz j
                  have hK := hJ.setU j c2'
                  have z1 : (wr.setCell ⟨w1.heap.size + 1 + 1, j, none⟩ (.bool true)).cell? ⟨b, off + j, none⟩ = some (.int .i64 (z j)) := by
                    rw [hK.b.cell (p := ⟨b, off + j, none⟩) hbl, hb1.cell (p := ⟨b, off + j, none⟩) hbk]; exact hcell j c2'
                  have y1 := hym _ hK.b
                  have b0 := hK.b0
                  have b1 := hK.b1
                  have hK' : Hid _ := hK
                  generalize hv : sumU u z len = v at *
                  clear hcell hym hK c3 hJ
                  go_wp2_with fail
                  go_region_with (first | (go_at_call 8; refine (plus_next v (z j) S1 hzI _).mono ?_; rintro e w2 ⟨rfl, hB2⟩; have I2 := hK'.out.drew.below hB2; have Y2 := I2; obtain ⟨x0, x1, x2, x3, x4, x5, x6, x7, x8, x9, x10, x11⟩ := I2))
                  all_goals
                    have I3 := Y2.setB (v + z j)
                    go_wp2_with fail
                    go_roundw
                    case rel => exact ⟨m + 1, markU u j, by omega, by go_num, by rw [em]; exact I3⟩
                    case measure => simp [intOf]; omega
              · go_wp2_with fail
                go_roundw
                case rel => exact ⟨m + 1, u, by omega, by go_num, hJ⟩
                case measure => simp [intOf]; omega
            · go_wp2_with fail
              go_roundw
              case rel => exact ⟨m + 1, u, by omega, by go_num, hJ⟩
              case measure => simp [intOf]; omega
          · clear hpc
            go_wp2_with fail
            go_loopw [12] (fun i wr => ∃ (n : Nat), n ≤ len ∧ i = .int .i64 n ∧ AO w1.heap.size w1 len (sumTo z len) (sumU u z len + sumU (fun i => !u i) z n) u wr) (fun i _ => len - (intOf i).toNat)
            case atStart =>
              refine ⟨0, Nat.zero_le _, rfl, ?_⟩
              show AO _ _ _ _ (sumU u z len + 0) _ _
              rw [Int.add_zero]; exact hJ
            case round =>
              clear hJ
              obtain ⟨n, hn, rfl, hJ⟩ := hrel
              by_cases hlt : n < len
              · have hbl : b < w1.heap.size := by have := hb1.size; omega
                have hzn : ∀ wy, Below w1.heap.size w1 wy → wy.cell? ⟨b, off + n, none⟩ = some (.int .i64 (z n)) := fun wy hB => by
                  rw [hB.cell (p := ⟨b, off + n, none⟩) hbl, hb1.cell (p := ⟨b, off + n, none⟩) hbk]; exact hcell n hlt
                have hltI : (n : Int) < (len : Int) := by omega
                have hun := hJ.us n hlt
                have hzI := hz n
                by_cases c3 : u n = true
                · have e : sumU (fun i => !u i) z (n + 1) = sumU (fun i => !u i) z n := by simp [sumU, c3]
                  rw [c3] at hun
                  clear hcell hzn
                  go_wp2_with fail
                  go_roundw
                  case rel => exact ⟨n + 1, by omega, by go_num, by rw [e]; exact hJ⟩
                  case measure => simp [intOf]; omega
                · have c3' : u n = false := by simpa using c3
                  have e : sumU u z len + sumU (fun i => !u i) z (n + 1) = sumU u z len + sumU (fun i => !u i) z n + z n := by simp [sumU, c3']; omega
                  rw [c3'] at hun
                  have S1 : S128 (sumU u z len + sumU (fun i => !u i) z n + z n) := by
                    rw [← e]
                    have h1 := sumU_bd u z hz len
                    have h2 := sumU_bd (fun i => !u i) z hz (n + 1)
                    unfold S128; omega
                  have z1 := hzn _ hJ.b
                  have hJ1 : Hid _ := hJ
                  have b0 := hJ.b0
                  have b1 := hJ.b1
                  generalize hv : sumU u z len + sumU (fun i => !u i) z n = v at *
                  clear hcell hzn c3
                  go_wp2_with fail
                  go_region_with (first | (go_at_call 8; refine (plus_next v (z n) S1 hzI _).mono ?_; rintro e w2 ⟨rfl, hB2⟩; have I2 := hJ1.out.drew.below hB2; have Y2 := I2; obtain ⟨x0, x1, x2, x3, x4, x5, x6, x7, x8, x9, x10, x11⟩ := I2))
                  all_goals
                    have I3 := Y2.setB (v + z n)
                    go_wp2_with fail
                    go_roundw
                    case rel => exact ⟨n + 1, by omega, by go_num, by rw [e]; exact I3⟩
                    case measure => simp [intOf]; omega
              · have hn' : len = n := by omega
                subst hn'
                have ev := sumU_all u z len
                rw [ev] at hJ
                have a0 := hJ.a0
                have a1 := hJ.a1
                have b0 := hJ.b0
                have b1 := hJ.b1
                have hJ1 : Hid _ := hJ
                clear hlt hn hJ
                go_wp2_with fail
                clear a0 a1 b0 b1
                go_loopw [13] (fun i wr => ∃ (n : Nat), n ≤ len ∧ i = .int .i64 n ∧ AO w1.heap.size w1 len (sumTo z len - sumTo z n) (sumTo z len) u wr) (fun i _ => len - (intOf i).toNat)
                case atStart =>
                  refine ⟨0, Nat.zero_le _, rfl, ?_⟩
                  show AO _ _ _ (sumTo z len - 0) _ _ _
                  rw [Int.sub_zero]; exact hJ1.out
                case round =>
                  clear hJ1
                  obtain ⟨n, hn, rfl, hJ⟩ := hrel
                  by_cases hlt : n < len
                  · have hbl : b < w1.heap.size := by have := hb1.size; omega
                    have hzn : ∀ wy, Below w1.heap.size w1 wy → wy.cell? ⟨b, off + n, none⟩ = some (.int .i64 (z n)) := fun wy hB => by
                      rw [hB.cell (p := ⟨b, off + n, none⟩) hbl, hb1.cell (p := ⟨b, off + n, none⟩) hbk]; exact hcell n hlt
                    have hltI : (n : Int) < (len : Int) := by omega
                    have hzI := hz n
                    have e : sumTo z len - sumTo z (n + 1) = sumTo z len - sumTo z n - z n := by simp only [sumTo]; omega
                    have S1 : S128 (sumTo z len - sumTo z n - z n) := by
                      rw [← e]
                      have h1 := sumTo_bd z hz len
                      have h2 := sumTo_bd z hz (n + 1)
                      unfold S128; omega
                    have z1 := hzn _ hJ.b
                    have hJ1 : Hid _ := hJ
                    have a0 := hJ.a0
                    have a1 := hJ.a1
                    generalize hv : sumTo z len - sumTo z n = v at *
                    clear hcell hzn
                    go_wp2_with fail
                    go_region_with (first | (go_at_call 10; refine (minus_next v (z n) S1 hzI _).mono ?_; rintro e w2 ⟨rfl, hB2⟩; have I2 := hJ1.out.drew.below hB2; have Y2 := I2; obtain ⟨x0, x1, x2, x3, x4, x5, x6, x7, x8, x9, x10, x11⟩ := I2))
                    all_goals
                      have I3 := Y2.setA (v - z n)
                      go_wp2_with fail
                      go_roundw
                      case rel => exact ⟨n + 1, by omega, by go_num, by rw [e]; exact I3⟩
                      case measure => simp [intOf]; omega
                  · have hn' : len = n := by omega
                    subst hn'
                    rw [Int.sub_self] at hJ
                    have a0 := hJ.a0
                    have a1 := hJ.a1
                    have e1 : sH 0 = 0 := by unfold sH; omega
                    have e2 : sL 0 = 0 := by unfold sL; omega
                    rw [e1] at a0
                    rw [e2] at a1
                    have hB := hJ.b
                    clear hlt hn hcell hJ
                    go_wp2_with fail
                    go_ret
                    exact ⟨rfl, hb1.trans (hB.mono hb1.size)⟩
end Go.Proofs.YtolpmedfaighhaaDoor
