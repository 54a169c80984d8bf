
import Derived.Test.YtfijagdbdbbbpaaDoorBuD
import Derived.Deep.RegionHeld3
namespace Go.Proofs.YtfijagdbdbbbpaaDoor
open Go.RowKit
set_option linter.unusedVariables false
set_option linter.unusedSimpArgs false
theorem lowest_z (x r now : Nat) (hx : x < 18446744073709551616) (hk : now ≤ 8) (z y : Int) (hz : z = ((x / 2 ^ r : Nat) : Int)) (hy : y = (now : Int)) (w : World) : Calls Tryd.prog 70 #[.int .u64 z, .int .i64 y] w fun e w' => e = .returned (.int .u8 ((x / 2 ^ r % 2 ^ now : Nat) : Int)) ∧ w' = w := by
  subst hz hy
  exact lowest_any _ now (Nat.lt_of_le_of_lt (Nat.div_le_self _ _) hx) hk w
set_option maxRecDepth 100000 in
set_option maxHeartbeats 8000000 in
theorem wbits_fr (N : Nat) (w1 : World) (b : Nat) (v : Value) (l : List Nat) (w : World) (h : WS N w1 (((8 - b) % 8 : Nat) : Int) v l.length (enc l) w) (hcl : CL l b) (x : Nat) (hx : x < 18446744073709551616) (k : Int) (hb : l.length + 64 ≤ 140737488355328) :
    Calls Tryd.prog 22 #[.pointer (some ⟨N, 0, none⟩), .int .u64 (x : Int), .int .i64 k] w fun e w' => e = .returned undef ∧ ∃ v', WS N w1 (((8 - (bitsOn x (broughtN k) (l, b)).2) % 8 : Nat) : Int) v' (bitsOn x (broughtN k) (l, b)).1.length (enc (bitsOn x (broughtN k) (l, b)).1) w' ∧ Fr N v v' w w' ∧ CL (bitsOn x (broughtN k) (l, b)).1 (bitsOn x (broughtN k) (l, b)).2 := by
  have hbk := broughtN_le k
  obtain ⟨c, hcc⟩ : ∃ c, c = broughtN k := ⟨_, rfl⟩
  rw [← hcc] at hbk ⊢
  go_enter Tryd.func22, Tryd.ntmps22
  go_wp2_with fail
  refine (within_any k _).mono ?_
  rintro e w2 ⟨rfl, hw2⟩
  have hw3 := hw2.symm
  subst hw3
  rw [← hcc]
  clear hcc hw2
  go_wp2_with fail
  go_loopw [2] (fun i wr => ∃ (j b' : Nat) (v' : Value) (l' : List Nat), i = .int .i64 (j : Int) ∧ j ≤ 64 ∧ CL l' b' ∧ l'.length + j ≤ l.length + 64 ∧ WS N w1 (((8 - b') % 8 : Nat) : Int) v' l'.length (enc l') wr ∧ Fr N v v' w wr ∧ bitsOn x j (l', b') = bitsOn x c (l, b)) (fun i _ => (intOf i).toNat)
  case atStart => exact ⟨c, b, v, l, rfl, hbk, hcl, by omega, h, Fr.refl _ _ _, rfl⟩
  case round =>
    obtain ⟨j, b', v', l', rfl, hj, hC, hlen, hW, hF, heq⟩ := hrel
    rcases j with _ | j
    · have heq' : Hid _ := (show (l', b') = bitsOn x c (l, b) from heq)
      clear heq
      go_wp2_with fail
      first | go_end0 | (simp only [Exit.inBlock, Exit.then]; refine bodyPost_ret (results_none rfl _ _ _) rfl ?_) | refine bodyPost_ret (results_none rfl _ _ _) rfl ?_
      refine ⟨rfl, v', ?_, hF, ?_⟩
      · rw [← heq'.out]; exact hW
      · rw [← heq'.out]; exact hC
    · have hjI : (0 : Int) < ((j + 1 : Nat) : Int) := by omega
      obtain ⟨j1, hj1⟩ : ∃ j1, j1 = j + 1 := ⟨_, rfl⟩
      rw [← hj1] at hj hlen heq hjI ⊢
      have hj0 : 1 ≤ j1 := by omega
      clear hj1 h hcl
      have heqH : Hid _ := heq
      clear heq
      by_cases hz : b' = 0
      · have z1 : wr.cell? ⟨N, 1, none⟩ = some (.int .i64 0) := by have := hW.c1; rw [hz] at this; exact this
        have hs0 := hW.sz
        go_wp2_with fail
        refine (whole1 N w1 _ v' l'.length (enc l') wr hW 0 _ rfl (by omega)).mono ?_
        rintro e w3 ⟨rfl, v3, h3, F3⟩
        rw [enc_append] at h3
        obtain ⟨m, hmn0⟩ : ∃ m, m = l'.length + 1 := ⟨_, rfl⟩
        rw [← hmn0] at h3
        obtain ⟨g, cap, rfl, hg, hgl⟩ := h3.own.form (by omega)
        obtain ⟨hX, F4⟩ := h3.freeF 8
        have d1 := h3.c1
        have g1 := h3.f1
        have s3 := h3.sz
        have k1 := hX.c1
        have k2 := hX.f1
        have FXp := (hF.trans F3).trans F4
        obtain ⟨n, hnL⟩ : ∃ n, n = l'.length := ⟨_, rfl⟩
        have hmn : m = n + 1 := by omega
        obtain ⟨F, hFE0⟩ : ∃ F, F = 8 := ⟨_, rfl⟩
        obtain ⟨a, hae⟩ : ∃ a, a = 0 := ⟨_, rfl⟩
        obtain ⟨L, hLe⟩ : ∃ L, L = l' := ⟨_, rfl⟩
        have hX0 := hX
        clear hX
        have hX : WS N w1 8 (.slice (some ⟨g, 0, none⟩) m cap) m (enc (L ++ [a])) (w3.setCell ⟨N, 1, none⟩ (.int .i64 8)) := by rw [hae, hLe]; exact hX0
        clear hX0
        rw [← hLe] at hnL
        have hF8 : F ≤ 8 := by omega
        have ha : a < 256 := by omega
        have hza : a % 2 ^ F = 0 := by rw [hae]; simp
        have hFE : (8 : Int) = (F : Int) := by omega
        have hLb : ∀ y ∈ L, y < 256 := by rw [hLe]; exact hC.2.1
        have hlen2 : L.length + j1 ≤ l.length + 64 := by rw [hLe]; exact hlen
        have hstep : ∀ now r, 1 ≤ now → now ≤ F → now + r = j1 → bitsOn x j1 (l', b') = bitsOn x r (L ++ [a + x / 2 ^ r % 2 ^ now * 2 ^ (F - now)], (b' + now) % 8) := fun now r h1 h2 h3 => by
          rw [hz, bitsOn_begin x now j1 l' h1 (by omega) (by omega), show j1 - now = r by omega, hFE0, hae, hLe, Nat.zero_add, Nat.zero_add]
        have hbz : b' + F = 8 := by omega
        clear F3 F4 h3 hF hW hC hLe z1 hmn0 hae hFE0
        by_cases hcF : j1 ≤ F
        · obtain ⟨now, hnow⟩ : ∃ now, now = j1 := ⟨_, rfl⟩
          obtain ⟨r, hr⟩ : ∃ r, r = 0 := ⟨_, rfl⟩
          obtain ⟨f2, hf2⟩ : ∃ f2, f2 = F - j1 := ⟨_, rfl⟩
          have hcase : (j1 : Int) ≤ 8 := by omega
          have hfr : 8 - (j1 : Int) = (f2 : Int) := by omega
          have q1 : 1 ≤ now := by omega
          have q2 : now ≤ F := by omega
          have q3 : now + r = j1 := by omega
          have q4 : f2 = F - now := by omega
          obtain ⟨C, hC0⟩ : ∃ C, C = x / 2 ^ r % 2 ^ now := ⟨_, rfl⟩
          obtain ⟨D, hD⟩ : ∃ D, D = C * 2 ^ f2 := ⟨_, rfl⟩
          have ch := chunk_or x r now F a q1 q2 hF8 ha hza
          rw [← q4, ← hC0, ← hD] at ch
          have hlow : Hid (∀ w, Calls Tryd.prog 70 #[.int .u64 (x : Int), .int .i64 (j1 : Int)] w fun e w' => e = .returned (.int .u8 (C : Int)) ∧ w' = w) := fun w => by
            rw [hC0]; exact lowest_z x r now hx (by omega) _ _ (by rw [hr]; simp) (by rw [hnow]) w
          have hsh : IntKind.u8.wrap ((C : Int) * 2 ^ f2) = (D : Int) := by
            rw [show ((C : Int) * 2 ^ f2) = (D : Int) by rw [hD]; simp, IntKind.wrap_u8]; omega
          have hsh0 : f2 = 0 → IntKind.u8.wrap (C : Int) = (D : Int) := fun h0 => by rw [h0] at hsh; simpa using hsh
          have hor : bits .or .u8 (a : Int) (D : Int) = ((a + D : Nat) : Int) := by rw [u8_or_nat a D ha ch.1, ch.2.1]
          obtain ⟨A2, hA2⟩ : ∃ A2, A2 = a + D := ⟨_, rfl⟩
          rw [← hA2] at hor
          obtain ⟨h5, F5⟩ := hX.freeF (f2 : Int)
          obtain ⟨h6, F6⟩ := h5.byteF n A2
          obtain ⟨W, hW4⟩ : ∃ W, W = (w3.setCell ⟨N, 1, none⟩ (.int .i64 8)).setCell ⟨N, 1, none⟩ (.int .i64 (f2 : Int)) := ⟨_, rfl⟩
          rw [← hW4] at h5 F5 h6 F6
          have hW4H : Hid _ := hW4
          have hbits : bitsOn x j1 (l', b') = bitsOn x r (L ++ [A2], (b' + now) % 8) := by
            rw [hA2, hD, hC0, q4]
            exact hstep now r q1 q2 q3
          have hset : (L ++ [a]).set n A2 = L ++ [A2] := by rw [hnL]; simp
          rw [hset] at h6
          have hrel2 : Hid (∃ (j b' : Nat) (v' : Value) (l' : List Nat), Value.int .i64 0 = .int .i64 (j : Int) ∧ j ≤ 64 ∧ CL l' b' ∧ l'.length + j ≤ l.length + 64 ∧ WS N w1 (((8 - b') % 8 : Nat) : Int) v' l'.length (enc l') (W.setCell ⟨g, n, none⟩ (.int .u8 (A2 : Int))).drew ∧ Fr N v v' w (W.setCell ⟨g, n, none⟩ (.int .u8 (A2 : Int))).drew ∧ bitsOn x j (l', b') = bitsOn x c (l, b)) := by
            refine ⟨r, (b' + now) % 8, .slice (some ⟨g, 0, none⟩) m cap, L ++ [A2], by rw [hr]; rfl, by omega, ⟨by omega, ?_, ?_⟩, ?_, ?_, ((FXp.trans F5).trans F6).drew, ?_⟩
            · intro y hy
              rcases List.mem_append.1 hy with hy | hy
              · exact hLb y hy
              · rw [List.mem_singleton.1 hy, hA2]; exact ch.2.2.1
            · intro hne
              exact ⟨L, A2, rfl, by rw [show 8 - (b' + now) % 8 = f2 by omega, hA2]; exact ch.2.2.2⟩
            · rw [List.length_append, List.length_singleton]; omega
            · rw [List.length_append, List.length_singleton, ← hnL, ← hmn, show (((8 - (b' + now) % 8) % 8 : Nat) : Int) = (f2 : Int) by omega]; exact h6.drew
            · rw [← hbits]; exact heqH.out
          have m0 := h5.c0
          have m1 := h5.c1
          have rc : W.cell? ⟨g, n, none⟩ = some (.int .u8 (a : Int)) := by
            rw [h5.own.cellAt n (by omega), hnL]
            simp [enc]
          have rf : W.frozen? ⟨g, n, none⟩ = false := h5.own.frozenAt n
          have n0 : IntKind.i64.wrap ((m : Int) - 1) = (n : Int) := by rw [show (m : Int) - 1 = (n : Int) by omega]; exact IntWalk.i64_in _ (by omega)
          have n2 : (0 : Int) ≤ (n : Int) := by omega
          have n3 : (n : Int) < (m : Int) := by omega
          have n4 : n < m := by omega
          have hne : (⟨g, n, none⟩ : Addr) ≠ ⟨N, 0, none⟩ := by intro e; injection e with e1; omega
          have hne1 : (⟨g, n, none⟩ : Addr) ≠ ⟨N, 1, none⟩ := by intro e; injection e with e1; omega
          have hsh1 : Hid (f2 = 0) ∨ True := Or.inr trivial
          have wz : IntKind.i64.wrap 0 = 0 := by decide
          skip
          clear hbits hset hW4 F5 F6 h5 h6 FXp heqH hstep hLb hlen hnL hmn ch hA2 hD hC0 q1 q2 q3 q4 hX hnow hsh1 hFE hr hsh0 hf2
          go_wp2_with fail
          rw [← hW4H.out]
          refine wp_region_noPanic ?_
          refine wp_region_held_drew (S := fun w' => w'.cell? ⟨N, 0, none⟩ = some (.slice (some ⟨g, 0, none⟩) m cap) ∧ w'.cell? ⟨N, 1, none⟩ = some (.int .i64 (f2 : Int))) (by kernel_rfl) ?_ (fun hHeld => ?_)
          · exact ⟨m0, m1⟩
          refine wpAnyH_take (i := 0) (oi := { dst := some 41, op := Op.move (Operand.tmp 0), type := 85, pos := "wire.go:75", after := #[], guard := none }) (v := ?_) rfl (by kernel_rfl) (by kernel_rfl) (by kernel_rfl) (fun _ _ _ h => h) (Or.inl ⟨by rfl, ?_⟩) (by assumption) ?_
          rotate_left 1
          · (intro w0 hSw; (try dsimp only at hSw); go_simp; try with_reducible rfl)
          (try simp only [Act.put, List.setIfInBounds_toArray, List.set_cons_zero, List.set_cons_succ])
          refine wpAnyH_take (i := 1) (oi := { dst := some 42, op := Op.nilCheck (Operand.tmp 41), type := 0, pos := "wire.go:75", after := #[{ on := 0, ground := Ground.data }], guard := none }) (v := ?_) rfl (by kernel_rfl) (by kernel_rfl) (by kernel_rfl) (fun _ _ _ h => h) (Or.inl ⟨by rfl, ?_⟩) (by assumption) ?_
          rotate_left 1
          · (intro w0 hSw; (try dsimp only at hSw); go_simp; try with_reducible rfl)
          (try simp only [Act.put, List.setIfInBounds_toArray, List.set_cons_zero, List.set_cons_succ])
          refine wpAnyH_take (i := 2) (oi := { dst := some 43, op := Op.fieldAddr 80 (Operand.tmp 42) 0, type := 0, pos := "wire.go:75", after := #[{ on := 1, ground := Ground.data }], guard := none }) (v := ?_) rfl (by kernel_rfl) (by kernel_rfl) (by kernel_rfl) (fun _ _ _ h => h) (Or.inl ⟨by rfl, ?_⟩) (by assumption) ?_
          rotate_left 1
          · (intro w0 hSw; (try dsimp only at hSw); go_simp; try with_reducible rfl)
          (try simp only [Act.put, List.setIfInBounds_toArray, List.set_cons_zero, List.set_cons_succ])
          refine wpAnyH_take (i := 3) (oi := { dst := some 44, op := Op.load 60 (Operand.tmp 43), type := 60, pos := "wire.go:75", after := #[{ on := 2, ground := Ground.data }], guard := none }) (v := ?_) rfl (by kernel_rfl) (by kernel_rfl) (by kernel_rfl) (fun _ _ _ h => h) (Or.inl ⟨by rfl, ?_⟩) (by assumption) ?_
          rotate_left 1
          · (intro w0 hSw; (try dsimp only at hSw); go_simp; try with_reducible rfl)
          (try simp only [Act.put, List.setIfInBounds_toArray, List.set_cons_zero, List.set_cons_succ])
          refine wpAnyH_take (i := 4) (oi := { dst := some 45, op := Op.move (Operand.tmp 0), type := 85, pos := "wire.go:75", after := #[], guard := none }) (v := ?_) rfl (by kernel_rfl) (by kernel_rfl) (by kernel_rfl) (fun _ _ _ h => h) (Or.inl ⟨by rfl, ?_⟩) (by assumption) ?_
          rotate_left 1
          · (intro w0 hSw; (try dsimp only at hSw); go_simp; try with_reducible rfl)
          (try simp only [Act.put, List.setIfInBounds_toArray, List.set_cons_zero, List.set_cons_succ])
          refine wpAnyH_take (i := 5) (oi := { dst := some 46, op := Op.nilCheck (Operand.tmp 45), type := 0, pos := "wire.go:75", after := #[{ on := 4, ground := Ground.data }], guard := none }) (v := ?_) rfl (by kernel_rfl) (by kernel_rfl) (by kernel_rfl) (fun _ _ _ h => h) (Or.inl ⟨by rfl, ?_⟩) (by assumption) ?_
          rotate_left 1
          · (intro w0 hSw; (try dsimp only at hSw); go_simp; try with_reducible rfl)
          (try simp only [Act.put, List.setIfInBounds_toArray, List.set_cons_zero, List.set_cons_succ])
          refine wpAnyH_take (i := 6) (oi := { dst := some 47, op := Op.fieldAddr 80 (Operand.tmp 46) 0, type := 0, pos := "wire.go:75", after := #[{ on := 5, ground := Ground.data }], guard := none }) (v := ?_) rfl (by kernel_rfl) (by kernel_rfl) (by kernel_rfl) (fun _ _ _ h => h) (Or.inl ⟨by rfl, ?_⟩) (by assumption) ?_
          rotate_left 1
          · (intro w0 hSw; (try dsimp only at hSw); go_simp; try with_reducible rfl)
          (try simp only [Act.put, List.setIfInBounds_toArray, List.set_cons_zero, List.set_cons_succ])
          refine wpAnyH_take (i := 7) (oi := { dst := some 48, op := Op.load 60 (Operand.tmp 47), type := 60, pos := "wire.go:75", after := #[{ on := 6, ground := Ground.data }], guard := none }) (v := ?_) rfl (by kernel_rfl) (by kernel_rfl) (by kernel_rfl) (fun _ _ _ h => h) (Or.inl ⟨by rfl, ?_⟩) (by assumption) ?_
          rotate_left 1
          · (intro w0 hSw; (try dsimp only at hSw); go_simp; try with_reducible rfl)
          (try simp only [Act.put, List.setIfInBounds_toArray, List.set_cons_zero, List.set_cons_succ])
          refine wpAnyH_take (i := 8) (oi := { dst := some 49, op := Op.call { callee := Callee.builtin Builtin.len, args := #[Operand.tmp 48], argTypes := #[60] }, type := 3, pos := "wire.go:75", after := #[{ on := 7, ground := Ground.data }], guard := none }) (v := ?_) rfl (by kernel_rfl) (by kernel_rfl) (by kernel_rfl) (fun _ _ _ h => h) (Or.inl ⟨by rfl, ?_⟩) (by assumption) ?_
          rotate_left 1
          · (intro w0 hSw; (try dsimp only at hSw); go_simp; try with_reducible rfl)
          (try simp only [Act.put, List.setIfInBounds_toArray, List.set_cons_zero, List.set_cons_succ])
          refine wpAnyH_take (i := 9) (oi := { dst := some 50, op := Op.binOp BinOp.sub 3 (Operand.tmp 49) (Operand.const (Value.int IntKind.i64 1)) 3, type := 3, pos := "wire.go:75", after := #[{ on := 8, ground := Ground.data }], guard := none }) (v := ?_) rfl (by kernel_rfl) (by kernel_rfl) (by kernel_rfl) (fun _ _ _ h => h) (Or.inl ⟨by rfl, ?_⟩) (by assumption) ?_
          rotate_left 1
          · (intro w0 hSw; (try dsimp only at hSw); go_simp; try with_reducible rfl)
          (try simp only [Act.put, List.setIfInBounds_toArray, List.set_cons_zero, List.set_cons_succ])
          refine wpAnyH_take (i := 10) (oi := { dst := some 51, op := Op.indexAddr 60 (Operand.tmp 44) (Operand.tmp 50), type := 0, pos := "wire.go:75", after := #[{ on := 3, ground := Ground.data }, { on := 9, ground := Ground.data }], guard := none }) (v := ?_) rfl (by kernel_rfl) (by kernel_rfl) (by kernel_rfl) (fun _ _ _ h => h) (Or.inl ⟨by rfl, ?_⟩) (by assumption) ?_
          rotate_left 1
          · (intro w0 hSw; (try dsimp only at hSw); go_simp; try with_reducible rfl)
          (try simp only [Act.put, List.setIfInBounds_toArray, List.set_cons_zero, List.set_cons_succ])
          refine wpAnyH_take (i := 12) (oi := { dst := some 53, op := Op.move (Operand.tmp 1), type := 82, pos := "wire.go:75", after := #[], guard := none }) (v := ?_) rfl (by kernel_rfl) (by kernel_rfl) (by kernel_rfl) (fun _ _ _ h => h) (Or.inl ⟨by rfl, ?_⟩) (by assumption) ?_
          rotate_left 1
          · (intro w0 hSw; (try dsimp only at hSw); go_simp; try with_reducible rfl)
          (try simp only [Act.put, List.setIfInBounds_toArray, List.set_cons_zero, List.set_cons_succ])
          refine wpAnyH_take (i := 13) (oi := { dst := some 54, op := Op.move (Operand.tmp 2), type := 3, pos := "wire.go:75", after := #[], guard := none }) (v := ?_) rfl (by kernel_rfl) (by kernel_rfl) (by kernel_rfl) (fun _ _ _ h => h) (Or.inl ⟨by rfl, ?_⟩) (by assumption) ?_
          rotate_left 1
          · (intro w0 hSw; (try dsimp only at hSw); go_simp; try with_reducible rfl)
          (try simp only [Act.put, List.setIfInBounds_toArray, List.set_cons_zero, List.set_cons_succ])
          refine wpAnyH_take (i := 14) (oi := { dst := some 55, op := Op.binOp BinOp.shr 82 (Operand.tmp 53) (Operand.tmp 54) 3, type := 82, pos := "wire.go:75", after := #[{ on := 12, ground := Ground.data }, { on := 13, ground := Ground.data }], guard := none }) (v := ?_) rfl (by kernel_rfl) (by kernel_rfl) (by kernel_rfl) (fun _ _ _ h => h) (Or.inl ⟨by rfl, ?_⟩) (by assumption) ?_
          rotate_left 1
          · (intro w0 hSw; (try dsimp only at hSw); go_simp; try with_reducible rfl)
          (try simp only [Act.put, List.setIfInBounds_toArray, List.set_cons_zero, List.set_cons_succ])
          refine wpAnyH_take (i := 15) (oi := { dst := some 56, op := Op.move (Operand.tmp 6), type := 3, pos := "wire.go:75", after := #[], guard := none }) (v := ?_) rfl (by kernel_rfl) (by kernel_rfl) (by kernel_rfl) (fun _ _ _ h => h) (Or.inl ⟨by rfl, ?_⟩) (by assumption) ?_
          rotate_left 1
          · (intro w0 hSw; (try dsimp only at hSw); go_simp; try with_reducible rfl)
          (try simp only [Act.put, List.setIfInBounds_toArray, List.set_cons_zero, List.set_cons_succ])
          refine wpAnyH_take (i := 17) (oi := { dst := some 58, op := Op.move (Operand.tmp 0), type := 85, pos := "wire.go:75", after := #[], guard := none }) (v := ?_) rfl (by kernel_rfl) (by kernel_rfl) (by kernel_rfl) (fun _ _ _ h => h) (Or.inl ⟨by rfl, ?_⟩) (by assumption) ?_
          rotate_left 1
          · (intro w0 hSw; (try dsimp only at hSw); go_simp; try with_reducible rfl)
          (try simp only [Act.put, List.setIfInBounds_toArray, List.set_cons_zero, List.set_cons_succ])
          refine wpAnyH_take (i := 18) (oi := { dst := some 59, op := Op.nilCheck (Operand.tmp 58), type := 0, pos := "wire.go:75", after := #[{ on := 17, ground := Ground.data }], guard := none }) (v := ?_) rfl (by kernel_rfl) (by kernel_rfl) (by kernel_rfl) (fun _ _ _ h => h) (Or.inl ⟨by rfl, ?_⟩) (by assumption) ?_
          rotate_left 1
          · (intro w0 hSw; (try dsimp only at hSw); go_simp; try with_reducible rfl)
          (try simp only [Act.put, List.setIfInBounds_toArray, List.set_cons_zero, List.set_cons_succ])
          refine wpAnyH_take (i := 19) (oi := { dst := some 60, op := Op.fieldAddr 80 (Operand.tmp 59) 1, type := 0, pos := "wire.go:75", after := #[{ on := 18, ground := Ground.data }], guard := none }) (v := ?_) rfl (by kernel_rfl) (by kernel_rfl) (by kernel_rfl) (fun _ _ _ h => h) (Or.inl ⟨by rfl, ?_⟩) (by assumption) ?_
          rotate_left 1
          · (intro w0 hSw; (try dsimp only at hSw); go_simp; try with_reducible rfl)
          (try simp only [Act.put, List.setIfInBounds_toArray, List.set_cons_zero, List.set_cons_succ])
          refine wpAnyH_take (i := 20) (oi := { dst := some 61, op := Op.load 3 (Operand.tmp 60), type := 3, pos := "wire.go:75", after := #[{ on := 19, ground := Ground.data }], guard := none }) (v := ?_) rfl (by kernel_rfl) (by kernel_rfl) (by kernel_rfl) (fun _ _ _ h => h) (Or.inl ⟨by rfl, ?_⟩) (by assumption) ?_
          rotate_left 1
          · (intro w0 hSw; (try dsimp only at hSw); go_simp; try with_reducible rfl)
          (try simp only [Act.put, List.setIfInBounds_toArray, List.set_cons_zero, List.set_cons_succ])
          refine wpAnyH_ready (rs := [11, 16]) (by kernel_rfl) (by simp) ?_
          refine AllReadyH.cons (o := { dst := some 52, op := Op.load 5 (Operand.tmp 51), type := 5, pos := "wire.go:75", after := #[{ on := 10, ground := Ground.data }], guard := none }) rfl (fun K hK => ?_) ?_
          · go_simp
            try dsimp only
            refine hK.out _ _ ?_ (fun hHeld => ?_)
            · exact hHeld
            clear hK K
            (try simp only [Act.put, List.setIfInBounds_toArray, List.set_cons_zero, List.set_cons_succ])
            refine wpAnyH_ready (rs := [16]) (by kernel_rfl) (by simp) ?_
            refine AllReadyH.cons (o := { dst := some 57, op := Op.call { callee := Callee.value (Operand.func 70), args := #[Operand.tmp 55, Operand.tmp 56], argTypes := #[82, 3] }, type := 5, pos := "wire.go:75", after := #[{ on := 14, ground := Ground.data }, { on := 15, ground := Ground.data }], guard := none }) rfl (fun K hK => ?_) AllReadyH.nil
            go_simp
            go_at_call 70
            refine (hlow.out _).mono ?_
            rintro e w' ⟨rfl, rfl⟩
            try dsimp only
            refine hK.out _ _ ?_ (fun hHeld => ?_)
            · exact hHeld
            clear hK K
            (try simp only [Act.put, List.setIfInBounds_toArray, List.set_cons_zero, List.set_cons_succ])
            refine wpAnyH_take (i := 21) (oi := { dst := some 62, op := Op.binOp BinOp.shl 5 (Operand.tmp 57) (Operand.tmp 61) 3, type := 5, pos := "wire.go:75", after := #[{ on := 16, ground := Ground.data }, { on := 20, ground := Ground.data }], guard := none }) (v := ?_) rfl (by kernel_rfl) (by kernel_rfl) (by kernel_rfl) (fun _ _ _ h => h) (Or.inl ⟨by rfl, ?_⟩) (by assumption) ?_
            rotate_left 1
            · (intro w0 hSw; (try dsimp only at hSw); go_simp; try with_reducible rfl)
            (try simp only [Act.put, List.setIfInBounds_toArray, List.set_cons_zero, List.set_cons_succ])
            refine wpAnyH_take (i := 22) (oi := { dst := some 63, op := Op.binOp BinOp.or 5 (Operand.tmp 52) (Operand.tmp 62) 5, type := 5, pos := "wire.go:75", after := #[{ on := 11, ground := Ground.data }, { on := 21, ground := Ground.data }], guard := none }) (v := ?_) rfl (by kernel_rfl) (by kernel_rfl) (by kernel_rfl) (fun _ _ _ h => h) (Or.inl ⟨by rfl, ?_⟩) (by assumption) ?_
            rotate_left 1
            · (intro w0 hSw; (try dsimp only at hSw); go_simp; try with_reducible rfl)
            (try simp only [Act.put, List.setIfInBounds_toArray, List.set_cons_zero, List.set_cons_succ])
            refine wpAnyH_take (i := 23) (oi := { dst := some 64, op := Op.indexAddr 60 (Operand.tmp 44) (Operand.tmp 50), type := 0, pos := "wire.go:75", after := #[{ on := 3, ground := Ground.data }, { on := 9, ground := Ground.data }, { on := 0, ground := Ground.phase }, { on := 1, ground := Ground.phase }, { on := 2, ground := Ground.phase }, { on := 3, ground := Ground.phase }, { on := 4, ground := Ground.phase }, { on := 5, ground := Ground.phase }, { on := 6, ground := Ground.phase }, { on := 7, ground := Ground.phase }, { on := 8, ground := Ground.phase }, { on := 9, ground := Ground.phase }, { on := 10, ground := Ground.phase }, { on := 11, ground := Ground.phase }, { on := 12, ground := Ground.phase }, { on := 13, ground := Ground.phase }, { on := 14, ground := Ground.phase }, { on := 15, ground := Ground.phase }, { on := 16, ground := Ground.phase }, { on := 17, ground := Ground.phase }, { on := 18, ground := Ground.phase }, { on := 19, ground := Ground.phase }, { on := 20, ground := Ground.phase }, { on := 21, ground := Ground.phase }, { on := 22, ground := Ground.phase }], guard := none }) (v := ?_) rfl (by kernel_rfl) (by kernel_rfl) (by kernel_rfl) (fun _ _ _ h => h) (Or.inl ⟨by rfl, ?_⟩) (by assumption) ?_
            rotate_left 1
            · (intro w0 hSw; (try dsimp only at hSw); go_simp; try with_reducible rfl)
            (try simp only [Act.put, List.setIfInBounds_toArray, List.set_cons_zero, List.set_cons_succ])
            refine wpAnyH_ready (rs := [24]) (by kernel_rfl) (by simp) ?_
            refine AllReadyH.cons (o := { dst := none, op := Op.store 5 (Operand.tmp 64) (Operand.tmp 63), type := 0, pos := "wire.go:75", after := #[{ on := 23, ground := Ground.data }, { on := 22, ground := Ground.data }, { on := 16, ground := Ground.chain }, { on := 0, ground := Ground.phase }, { on := 1, ground := Ground.phase }, { on := 2, ground := Ground.phase }, { on := 3, ground := Ground.phase }, { on := 4, ground := Ground.phase }, { on := 5, ground := Ground.phase }, { on := 6, ground := Ground.phase }, { on := 7, ground := Ground.phase }, { on := 8, ground := Ground.phase }, { on := 9, ground := Ground.phase }, { on := 10, ground := Ground.phase }, { on := 11, ground := Ground.phase }, { on := 12, ground := Ground.phase }, { on := 13, ground := Ground.phase }, { on := 14, ground := Ground.phase }, { on := 15, ground := Ground.phase }, { on := 16, ground := Ground.phase }, { on := 17, ground := Ground.phase }, { on := 18, ground := Ground.phase }, { on := 19, ground := Ground.phase }, { on := 20, ground := Ground.phase }, { on := 21, ground := Ground.phase }, { on := 22, ground := Ground.phase }], guard := none }) rfl (fun K hK => ?_) AllReadyH.nil
            go_simp
            refine hK.out _ _ ?_ (fun hHeld => ?_)
            · exact ⟨by rw [World.cell?_drew, World.cell?_setCell_other _ _ _ _ hne]; exact m0, by rw [World.cell?_drew, World.cell?_setCell_other _ _ _ _ hne1]; exact m1⟩
            clear hK K
            (try simp only [Act.put, List.setIfInBounds_toArray, List.set_cons_zero, List.set_cons_succ])
            refine wpAnyH_done (by kernel_rfl) ?_ _
            refine NoPanic.normal ?_
            go_wp2_with fail
            go_roundw
            case rel => exact hrel2.out
            case measure => simp [intOf] <;> omega
          · refine AllReadyH.cons (o := { dst := some 57, op := Op.call { callee := Callee.value (Operand.func 70), args := #[Operand.tmp 55, Operand.tmp 56], argTypes := #[82, 3] }, type := 5, pos := "wire.go:75", after := #[{ on := 14, ground := Ground.data }, { on := 15, ground := Ground.data }], guard := none }) rfl (fun K hK => ?_) AllReadyH.nil
            go_simp
            go_at_call 70
            refine (hlow.out _).mono ?_
            rintro e w' ⟨rfl, rfl⟩
            try dsimp only
            refine hK.out _ _ ?_ (fun hHeld => ?_)
            · exact hHeld
            clear hK K
            (try simp only [Act.put, List.setIfInBounds_toArray, List.set_cons_zero, List.set_cons_succ])
            refine wpAnyH_take (i := 21) (oi := { dst := some 62, op := Op.binOp BinOp.shl 5 (Operand.tmp 57) (Operand.tmp 61) 3, type := 5, pos := "wire.go:75", after := #[{ on := 16, ground := Ground.data }, { on := 20, ground := Ground.data }], guard := none }) (v := ?_) rfl (by kernel_rfl) (by kernel_rfl) (by kernel_rfl) (fun _ _ _ h => h) (Or.inl ⟨by rfl, ?_⟩) (by assumption) ?_
            rotate_left 1
            · (intro w0 hSw; (try dsimp only at hSw); go_simp; try with_reducible rfl)
            (try simp only [Act.put, List.setIfInBounds_toArray, List.set_cons_zero, List.set_cons_succ])
            refine wpAnyH_ready (rs := [11]) (by kernel_rfl) (by simp) ?_
            refine AllReadyH.cons (o := { dst := some 52, op := Op.load 5 (Operand.tmp 51), type := 5, pos := "wire.go:75", after := #[{ on := 10, ground := Ground.data }], guard := none }) rfl (fun K hK => ?_) AllReadyH.nil
            go_simp
            try dsimp only
            refine hK.out _ _ ?_ (fun hHeld => ?_)
            · exact hHeld
            clear hK K
            (try simp only [Act.put, List.setIfInBounds_toArray, List.set_cons_zero, List.set_cons_succ])
            refine wpAnyH_take (i := 22) (oi := { dst := some 63, op := Op.binOp BinOp.or 5 (Operand.tmp 52) (Operand.tmp 62) 5, type := 5, pos := "wire.go:75", after := #[{ on := 11, ground := Ground.data }, { on := 21, ground := Ground.data }], guard := none }) (v := ?_) rfl (by kernel_rfl) (by kernel_rfl) (by kernel_rfl) (fun _ _ _ h => h) (Or.inl ⟨by rfl, ?_⟩) (by assumption) ?_
            rotate_left 1
            · (intro w0 hSw; (try dsimp only at hSw); go_simp; try with_reducible rfl)
            (try simp only [Act.put, List.setIfInBounds_toArray, List.set_cons_zero, List.set_cons_succ])
            refine wpAnyH_take (i := 23) (oi := { dst := some 64, op := Op.indexAddr 60 (Operand.tmp 44) (Operand.tmp 50), type := 0, pos := "wire.go:75", after := #[{ on := 3, ground := Ground.data }, { on := 9, ground := Ground.data }, { on := 0, ground := Ground.phase }, { on := 1, ground := Ground.phase }, { on := 2, ground := Ground.phase }, { on := 3, ground := Ground.phase }, { on := 4, ground := Ground.phase }, { on := 5, ground := Ground.phase }, { on := 6, ground := Ground.phase }, { on := 7, ground := Ground.phase }, { on := 8, ground := Ground.phase }, { on := 9, ground := Ground.phase }, { on := 10, ground := Ground.phase }, { on := 11, ground := Ground.phase }, { on := 12, ground := Ground.phase }, { on := 13, ground := Ground.phase }, { on := 14, ground := Ground.phase }, { on := 15, ground := Ground.phase }, { on := 16, ground := Ground.phase }, { on := 17, ground := Ground.phase }, { on := 18, ground := Ground.phase }, { on := 19, ground := Ground.phase }, { on := 20, ground := Ground.phase }, { on := 21, ground := Ground.phase }, { on := 22, ground := Ground.phase }], guard := none }) (v := ?_) rfl (by kernel_rfl) (by kernel_rfl) (by kernel_rfl) (fun _ _ _ h => h) (Or.inl ⟨by rfl, ?_⟩) (by assumption) ?_
            rotate_left 1
            · (intro w0 hSw; (try dsimp only at hSw); go_simp; try with_reducible rfl)
            (try simp only [Act.put, List.setIfInBounds_toArray, List.set_cons_zero, List.set_cons_succ])
            refine wpAnyH_ready (rs := [24]) (by kernel_rfl) (by simp) ?_
            refine AllReadyH.cons (o := { dst := none, op := Op.store 5 (Operand.tmp 64) (Operand.tmp 63), type := 0, pos := "wire.go:75", after := #[{ on := 23, ground := Ground.data }, { on := 22, ground := Ground.data }, { on := 16, ground := Ground.chain }, { on := 0, ground := Ground.phase }, { on := 1, ground := Ground.phase }, { on := 2, ground := Ground.phase }, { on := 3, ground := Ground.phase }, { on := 4, ground := Ground.phase }, { on := 5, ground := Ground.phase }, { on := 6, ground := Ground.phase }, { on := 7, ground := Ground.phase }, { on := 8, ground := Ground.phase }, { on := 9, ground := Ground.phase }, { on := 10, ground := Ground.phase }, { on := 11, ground := Ground.phase }, { on := 12, ground := Ground.phase }, { on := 13, ground := Ground.phase }, { on := 14, ground := Ground.phase }, { on := 15, ground := Ground.phase }, { on := 16, ground := Ground.phase }, { on := 17, ground := Ground.phase }, { on := 18, ground := Ground.phase }, { on := 19, ground := Ground.phase }, { on := 20, ground := Ground.phase }, { on := 21, ground := Ground.phase }, { on := 22, ground := Ground.phase }], guard := none }) rfl (fun K hK => ?_) AllReadyH.nil
            go_simp
            refine hK.out _ _ ?_ (fun hHeld => ?_)
            · exact ⟨by rw [World.cell?_drew, World.cell?_setCell_other _ _ _ _ hne]; exact m0, by rw [World.cell?_drew, World.cell?_setCell_other _ _ _ _ hne1]; exact m1⟩
            clear hK K
            (try simp only [Act.put, List.setIfInBounds_toArray, List.set_cons_zero, List.set_cons_succ])
            refine wpAnyH_done (by kernel_rfl) ?_ _
            refine NoPanic.normal ?_
            go_wp2_with fail
            go_roundw
            case rel => exact hrel2.out
            case measure => simp [intOf] <;> omega
        · skip
          obtain ⟨now, hnow⟩ : ∃ now, now = F := ⟨_, rfl⟩
          obtain ⟨r, hr⟩ : ∃ r, r = j1 - F := ⟨_, rfl⟩
          obtain ⟨f2, hf2⟩ : ∃ f2, f2 = 0 := ⟨_, rfl⟩
          have hcase : 8 < (j1 : Int) := by omega
          have hcase2 : ¬ (j1 : Int) ≤ 8 := by omega
          have hrI : (j1 : Int) - 8 = (r : Int) := by omega
          have hr0 : (0 : Int) ≤ (r : Int) := by omega
          have q1 : 1 ≤ now := by omega
          have q2 : now ≤ F := by omega
          have q3 : now + r = j1 := by omega
          have q4 : f2 = F - now := by omega
          obtain ⟨C, hC0⟩ : ∃ C, C = x / 2 ^ r % 2 ^ now := ⟨_, rfl⟩
          obtain ⟨D, hD⟩ : ∃ D, D = C * 2 ^ f2 := ⟨_, rfl⟩
          have ch := chunk_or x r now F a q1 q2 hF8 ha hza
          rw [← q4, ← hC0, ← hD] at ch
          have hlow : Hid (∀ w, Calls Tryd.prog 70 #[.int .u64 ((x : Int) / 2 ^ r), .int .i64 8] w fun e w' => e = .returned (.int .u8 (C : Int)) ∧ w' = w) := fun w => by
            rw [hC0]; exact lowest_z x r now hx (by omega) _ _ (by simp) (by rw [hnow, hFE]) w
          have hsh : IntKind.u8.wrap ((C : Int) * 2 ^ f2) = (D : Int) := by
            rw [show ((C : Int) * 2 ^ f2) = (D : Int) by rw [hD]; simp, IntKind.wrap_u8]; omega
          have hsh0 : f2 = 0 → IntKind.u8.wrap (C : Int) = (D : Int) := fun h0 => by rw [h0] at hsh; simpa using hsh
          have hor : bits .or .u8 (a : Int) (D : Int) = ((a + D : Nat) : Int) := by rw [u8_or_nat a D ha ch.1, ch.2.1]
          obtain ⟨A2, hA2⟩ : ∃ A2, A2 = a + D := ⟨_, rfl⟩
          rw [← hA2] at hor
          obtain ⟨h5, F5⟩ := hX.freeF 0
          obtain ⟨h6, F6⟩ := h5.byteF n A2
          obtain ⟨W, hW4⟩ : ∃ W, W = (w3.setCell ⟨N, 1, none⟩ (.int .i64 8)).setCell ⟨N, 1, none⟩ (.int .i64 0) := ⟨_, rfl⟩
          rw [← hW4] at h5 F5 h6 F6
          have hW4H : Hid _ := hW4
          have hbits : bitsOn x j1 (l', b') = bitsOn x r (L ++ [A2], (b' + now) % 8) := by
            rw [hA2, hD, hC0, q4]
            exact hstep now r q1 q2 q3
          have hset : (L ++ [a]).set n A2 = L ++ [A2] := by rw [hnL]; simp
          rw [hset] at h6
          have hrel2 : Hid (∃ (j b' : Nat) (v' : Value) (l' : List Nat), Value.int .i64 (r : Int) = .int .i64 (j : Int) ∧ j ≤ 64 ∧ CL l' b' ∧ l'.length + j ≤ l.length + 64 ∧ WS N w1 (((8 - b') % 8 : Nat) : Int) v' l'.length (enc l') (W.setCell ⟨g, n, none⟩ (.int .u8 (A2 : Int))).drew ∧ Fr N v v' w (W.setCell ⟨g, n, none⟩ (.int .u8 (A2 : Int))).drew ∧ bitsOn x j (l', b') = bitsOn x c (l, b)) := by
            refine ⟨r, (b' + now) % 8, .slice (some ⟨g, 0, none⟩) m cap, L ++ [A2], rfl, by omega, ⟨by omega, ?_, ?_⟩, ?_, ?_, ((FXp.trans F5).trans F6).drew, ?_⟩
            · intro y hy
              rcases List.mem_append.1 hy with hy | hy
              · exact hLb y hy
              · rw [List.mem_singleton.1 hy, hA2]; exact ch.2.2.1
            · intro hne
              exact ⟨L, A2, rfl, by rw [show 8 - (b' + now) % 8 = f2 by omega, hA2]; exact ch.2.2.2⟩
            · rw [List.length_append, List.length_singleton]; omega
            · rw [List.length_append, List.length_singleton, ← hnL, ← hmn, show (((8 - (b' + now) % 8) % 8 : Nat) : Int) = 0 by omega]; exact h6.drew
            · rw [← hbits]; exact heqH.out
          have m0 := h5.c0
          have m1 := h5.c1
          have rc : W.cell? ⟨g, n, none⟩ = some (.int .u8 (a : Int)) := by
            rw [h5.own.cellAt n (by omega), hnL]
            simp [enc]
          have rf : W.frozen? ⟨g, n, none⟩ = false := h5.own.frozenAt n
          have n0 : IntKind.i64.wrap ((m : Int) - 1) = (n : Int) := by rw [show (m : Int) - 1 = (n : Int) by omega]; exact IntWalk.i64_in _ (by omega)
          have n2 : (0 : Int) ≤ (n : Int) := by omega
          have n3 : (n : Int) < (m : Int) := by omega
          have n4 : n < m := by omega
          have hne : (⟨g, n, none⟩ : Addr) ≠ ⟨N, 0, none⟩ := by intro e; injection e with e1; omega
          have hne1 : (⟨g, n, none⟩ : Addr) ≠ ⟨N, 1, none⟩ := by intro e; injection e with e1; omega
          have hsh1 : Hid (f2 = 0) ∨ True := Or.inr trivial
          have wz : IntKind.i64.wrap 0 = 0 := by decide
          have hshz := hsh0 hf2
          clear hbits hset hW4 F5 F6 h5 h6 FXp heqH hstep hLb hlen hnL hmn ch hA2 hD hC0 q1 q2 q3 q4 hX hnow hsh1 hFE hr hsh hsh0 hf2
          go_wp2_with fail
          rw [← hW4H.out]
          refine wp_region_noPanic ?_
          refine wp_region_held_drew (S := fun w' => w'.cell? ⟨N, 0, none⟩ = some (.slice (some ⟨g, 0, none⟩) m cap) ∧ w'.cell? ⟨N, 1, none⟩ = some (.int .i64 0)) (by kernel_rfl) ?_ (fun hHeld => ?_)
          · exact ⟨m0, m1⟩
          refine wpAnyH_take (i := 0) (oi := { dst := some 41, op := Op.move (Operand.tmp 0), type := 85, pos := "wire.go:75", after := #[], guard := none }) (v := ?_) rfl (by kernel_rfl) (by kernel_rfl) (by kernel_rfl) (fun _ _ _ h => h) (Or.inl ⟨by rfl, ?_⟩) (by assumption) ?_
          rotate_left 1
          · (intro w0 hSw; (try dsimp only at hSw); go_simp; try with_reducible rfl)
          (try simp only [Act.put, List.setIfInBounds_toArray, List.set_cons_zero, List.set_cons_succ])
          refine wpAnyH_take (i := 1) (oi := { dst := some 42, op := Op.nilCheck (Operand.tmp 41), type := 0, pos := "wire.go:75", after := #[{ on := 0, ground := Ground.data }], guard := none }) (v := ?_) rfl (by kernel_rfl) (by kernel_rfl) (by kernel_rfl) (fun _ _ _ h => h) (Or.inl ⟨by rfl, ?_⟩) (by assumption) ?_
          rotate_left 1
          · (intro w0 hSw; (try dsimp only at hSw); go_simp; try with_reducible rfl)
          (try simp only [Act.put, List.setIfInBounds_toArray, List.set_cons_zero, List.set_cons_succ])
          refine wpAnyH_take (i := 2) (oi := { dst := some 43, op := Op.fieldAddr 80 (Operand.tmp 42) 0, type := 0, pos := "wire.go:75", after := #[{ on := 1, ground := Ground.data }], guard := none }) (v := ?_) rfl (by kernel_rfl) (by kernel_rfl) (by kernel_rfl) (fun _ _ _ h => h) (Or.inl ⟨by rfl, ?_⟩) (by assumption) ?_
          rotate_left 1
          · (intro w0 hSw; (try dsimp only at hSw); go_simp; try with_reducible rfl)
          (try simp only [Act.put, List.setIfInBounds_toArray, List.set_cons_zero, List.set_cons_succ])
          refine wpAnyH_take (i := 3) (oi := { dst := some 44, op := Op.load 60 (Operand.tmp 43), type := 60, pos := "wire.go:75", after := #[{ on := 2, ground := Ground.data }], guard := none }) (v := ?_) rfl (by kernel_rfl) (by kernel_rfl) (by kernel_rfl) (fun _ _ _ h => h) (Or.inl ⟨by rfl, ?_⟩) (by assumption) ?_
          rotate_left 1
          · (intro w0 hSw; (try dsimp only at hSw); go_simp; try with_reducible rfl)
          (try simp only [Act.put, List.setIfInBounds_toArray, List.set_cons_zero, List.set_cons_succ])
          refine wpAnyH_take (i := 4) (oi := { dst := some 45, op := Op.move (Operand.tmp 0), type := 85, pos := "wire.go:75", after := #[], guard := none }) (v := ?_) rfl (by kernel_rfl) (by kernel_rfl) (by kernel_rfl) (fun _ _ _ h => h) (Or.inl ⟨by rfl, ?_⟩) (by assumption) ?_
          rotate_left 1
          · (intro w0 hSw; (try dsimp only at hSw); go_simp; try with_reducible rfl)
          (try simp only [Act.put, List.setIfInBounds_toArray, List.set_cons_zero, List.set_cons_succ])
          refine wpAnyH_take (i := 5) (oi := { dst := some 46, op := Op.nilCheck (Operand.tmp 45), type := 0, pos := "wire.go:75", after := #[{ on := 4, ground := Ground.data }], guard := none }) (v := ?_) rfl (by kernel_rfl) (by kernel_rfl) (by kernel_rfl) (fun _ _ _ h => h) (Or.inl ⟨by rfl, ?_⟩) (by assumption) ?_
          rotate_left 1
          · (intro w0 hSw; (try dsimp only at hSw); go_simp; try with_reducible rfl)
          (try simp only [Act.put, List.setIfInBounds_toArray, List.set_cons_zero, List.set_cons_succ])
          refine wpAnyH_take (i := 6) (oi := { dst := some 47, op := Op.fieldAddr 80 (Operand.tmp 46) 0, type := 0, pos := "wire.go:75", after := #[{ on := 5, ground := Ground.data }], guard := none }) (v := ?_) rfl (by kernel_rfl) (by kernel_rfl) (by kernel_rfl) (fun _ _ _ h => h) (Or.inl ⟨by rfl, ?_⟩) (by assumption) ?_
          rotate_left 1
          · (intro w0 hSw; (try dsimp only at hSw); go_simp; try with_reducible rfl)
          (try simp only [Act.put, List.setIfInBounds_toArray, List.set_cons_zero, List.set_cons_succ])
          refine wpAnyH_take (i := 7) (oi := { dst := some 48, op := Op.load 60 (Operand.tmp 47), type := 60, pos := "wire.go:75", after := #[{ on := 6, ground := Ground.data }], guard := none }) (v := ?_) rfl (by kernel_rfl) (by kernel_rfl) (by kernel_rfl) (fun _ _ _ h => h) (Or.inl ⟨by rfl, ?_⟩) (by assumption) ?_
          rotate_left 1
          · (intro w0 hSw; (try dsimp only at hSw); go_simp; try with_reducible rfl)
          (try simp only [Act.put, List.setIfInBounds_toArray, List.set_cons_zero, List.set_cons_succ])
          refine wpAnyH_take (i := 8) (oi := { dst := some 49, op := Op.call { callee := Callee.builtin Builtin.len, args := #[Operand.tmp 48], argTypes := #[60] }, type := 3, pos := "wire.go:75", after := #[{ on := 7, ground := Ground.data }], guard := none }) (v := ?_) rfl (by kernel_rfl) (by kernel_rfl) (by kernel_rfl) (fun _ _ _ h => h) (Or.inl ⟨by rfl, ?_⟩) (by assumption) ?_
          rotate_left 1
          · (intro w0 hSw; (try dsimp only at hSw); go_simp; try with_reducible rfl)
          (try simp only [Act.put, List.setIfInBounds_toArray, List.set_cons_zero, List.set_cons_succ])
          refine wpAnyH_take (i := 9) (oi := { dst := some 50, op := Op.binOp BinOp.sub 3 (Operand.tmp 49) (Operand.const (Value.int IntKind.i64 1)) 3, type := 3, pos := "wire.go:75", after := #[{ on := 8, ground := Ground.data }], guard := none }) (v := ?_) rfl (by kernel_rfl) (by kernel_rfl) (by kernel_rfl) (fun _ _ _ h => h) (Or.inl ⟨by rfl, ?_⟩) (by assumption) ?_
          rotate_left 1
          · (intro w0 hSw; (try dsimp only at hSw); go_simp; try with_reducible rfl)
          (try simp only [Act.put, List.setIfInBounds_toArray, List.set_cons_zero, List.set_cons_succ])
          refine wpAnyH_take (i := 10) (oi := { dst := some 51, op := Op.indexAddr 60 (Operand.tmp 44) (Operand.tmp 50), type := 0, pos := "wire.go:75", after := #[{ on := 3, ground := Ground.data }, { on := 9, ground := Ground.data }], guard := none }) (v := ?_) rfl (by kernel_rfl) (by kernel_rfl) (by kernel_rfl) (fun _ _ _ h => h) (Or.inl ⟨by rfl, ?_⟩) (by assumption) ?_
          rotate_left 1
          · (intro w0 hSw; (try dsimp only at hSw); go_simp; try with_reducible rfl)
          (try simp only [Act.put, List.setIfInBounds_toArray, List.set_cons_zero, List.set_cons_succ])
          refine wpAnyH_take (i := 12) (oi := { dst := some 53, op := Op.move (Operand.tmp 1), type := 82, pos := "wire.go:75", after := #[], guard := none }) (v := ?_) rfl (by kernel_rfl) (by kernel_rfl) (by kernel_rfl) (fun _ _ _ h => h) (Or.inl ⟨by rfl, ?_⟩) (by assumption) ?_
          rotate_left 1
          · (intro w0 hSw; (try dsimp only at hSw); go_simp; try with_reducible rfl)
          (try simp only [Act.put, List.setIfInBounds_toArray, List.set_cons_zero, List.set_cons_succ])
          refine wpAnyH_take (i := 13) (oi := { dst := some 54, op := Op.move (Operand.tmp 2), type := 3, pos := "wire.go:75", after := #[], guard := none }) (v := ?_) rfl (by kernel_rfl) (by kernel_rfl) (by kernel_rfl) (fun _ _ _ h => h) (Or.inl ⟨by rfl, ?_⟩) (by assumption) ?_
          rotate_left 1
          · (intro w0 hSw; (try dsimp only at hSw); go_simp; try with_reducible rfl)
          (try simp only [Act.put, List.setIfInBounds_toArray, List.set_cons_zero, List.set_cons_succ])
          refine wpAnyH_take (i := 14) (oi := { dst := some 55, op := Op.binOp BinOp.shr 82 (Operand.tmp 53) (Operand.tmp 54) 3, type := 82, pos := "wire.go:75", after := #[{ on := 12, ground := Ground.data }, { on := 13, ground := Ground.data }], guard := none }) (v := ?_) rfl (by kernel_rfl) (by kernel_rfl) (by kernel_rfl) (fun _ _ _ h => h) (Or.inl ⟨by rfl, ?_⟩) (by assumption) ?_
          rotate_left 1
          · (intro w0 hSw; (try dsimp only at hSw); go_simp; try with_reducible rfl)
          (try simp only [Act.put, List.setIfInBounds_toArray, List.set_cons_zero, List.set_cons_succ])
          refine wpAnyH_take (i := 15) (oi := { dst := some 56, op := Op.move (Operand.tmp 6), type := 3, pos := "wire.go:75", after := #[], guard := none }) (v := ?_) rfl (by kernel_rfl) (by kernel_rfl) (by kernel_rfl) (fun _ _ _ h => h) (Or.inl ⟨by rfl, ?_⟩) (by assumption) ?_
          rotate_left 1
          · (intro w0 hSw; (try dsimp only at hSw); go_simp; try with_reducible rfl)
          (try simp only [Act.put, List.setIfInBounds_toArray, List.set_cons_zero, List.set_cons_succ])
          refine wpAnyH_take (i := 17) (oi := { dst := some 58, op := Op.move (Operand.tmp 0), type := 85, pos := "wire.go:75", after := #[], guard := none }) (v := ?_) rfl (by kernel_rfl) (by kernel_rfl) (by kernel_rfl) (fun _ _ _ h => h) (Or.inl ⟨by rfl, ?_⟩) (by assumption) ?_
          rotate_left 1
          · (intro w0 hSw; (try dsimp only at hSw); go_simp; try with_reducible rfl)
          (try simp only [Act.put, List.setIfInBounds_toArray, List.set_cons_zero, List.set_cons_succ])
          refine wpAnyH_take (i := 18) (oi := { dst := some 59, op := Op.nilCheck (Operand.tmp 58), type := 0, pos := "wire.go:75", after := #[{ on := 17, ground := Ground.data }], guard := none }) (v := ?_) rfl (by kernel_rfl) (by kernel_rfl) (by kernel_rfl) (fun _ _ _ h => h) (Or.inl ⟨by rfl, ?_⟩) (by assumption) ?_
          rotate_left 1
          · (intro w0 hSw; (try dsimp only at hSw); go_simp; try with_reducible rfl)
          (try simp only [Act.put, List.setIfInBounds_toArray, List.set_cons_zero, List.set_cons_succ])
          refine wpAnyH_take (i := 19) (oi := { dst := some 60, op := Op.fieldAddr 80 (Operand.tmp 59) 1, type := 0, pos := "wire.go:75", after := #[{ on := 18, ground := Ground.data }], guard := none }) (v := ?_) rfl (by kernel_rfl) (by kernel_rfl) (by kernel_rfl) (fun _ _ _ h => h) (Or.inl ⟨by rfl, ?_⟩) (by assumption) ?_
          rotate_left 1
          · (intro w0 hSw; (try dsimp only at hSw); go_simp; try with_reducible rfl)
          (try simp only [Act.put, List.setIfInBounds_toArray, List.set_cons_zero, List.set_cons_succ])
          refine wpAnyH_take (i := 20) (oi := { dst := some 61, op := Op.load 3 (Operand.tmp 60), type := 3, pos := "wire.go:75", after := #[{ on := 19, ground := Ground.data }], guard := none }) (v := ?_) rfl (by kernel_rfl) (by kernel_rfl) (by kernel_rfl) (fun _ _ _ h => h) (Or.inl ⟨by rfl, ?_⟩) (by assumption) ?_
          rotate_left 1
          · (intro w0 hSw; (try dsimp only at hSw); go_simp; try with_reducible rfl)
          (try simp only [Act.put, List.setIfInBounds_toArray, List.set_cons_zero, List.set_cons_succ])
          refine wpAnyH_ready (rs := [11, 16]) (by kernel_rfl) (by simp) ?_
          refine AllReadyH.cons (o := { dst := some 52, op := Op.load 5 (Operand.tmp 51), type := 5, pos := "wire.go:75", after := #[{ on := 10, ground := Ground.data }], guard := none }) rfl (fun K hK => ?_) ?_
          · go_simp
            try dsimp only
            refine hK.out _ _ ?_ (fun hHeld => ?_)
            · exact hHeld
            clear hK K
            (try simp only [Act.put, List.setIfInBounds_toArray, List.set_cons_zero, List.set_cons_succ])
            refine wpAnyH_ready (rs := [16]) (by kernel_rfl) (by simp) ?_
            refine AllReadyH.cons (o := { dst := some 57, op := Op.call { callee := Callee.value (Operand.func 70), args := #[Operand.tmp 55, Operand.tmp 56], argTypes := #[82, 3] }, type := 5, pos := "wire.go:75", after := #[{ on := 14, ground := Ground.data }, { on := 15, ground := Ground.data }], guard := none }) rfl (fun K hK => ?_) AllReadyH.nil
            go_simp
            go_at_call 70
            refine (hlow.out _).mono ?_
            rintro e w' ⟨rfl, rfl⟩
            try dsimp only
            refine hK.out _ _ ?_ (fun hHeld => ?_)
            · exact hHeld
            clear hK K
            (try simp only [Act.put, List.setIfInBounds_toArray, List.set_cons_zero, List.set_cons_succ])
            refine wpAnyH_take (i := 21) (oi := { dst := some 62, op := Op.binOp BinOp.shl 5 (Operand.tmp 57) (Operand.tmp 61) 3, type := 5, pos := "wire.go:75", after := #[{ on := 16, ground := Ground.data }, { on := 20, ground := Ground.data }], guard := none }) (v := ?_) rfl (by kernel_rfl) (by kernel_rfl) (by kernel_rfl) (fun _ _ _ h => h) (Or.inl ⟨by rfl, ?_⟩) (by assumption) ?_
            rotate_left 1
            · (intro w0 hSw; (try dsimp only at hSw); go_simp; try with_reducible rfl)
            (try simp only [Act.put, List.setIfInBounds_toArray, List.set_cons_zero, List.set_cons_succ])
            refine wpAnyH_take (i := 22) (oi := { dst := some 63, op := Op.binOp BinOp.or 5 (Operand.tmp 52) (Operand.tmp 62) 5, type := 5, pos := "wire.go:75", after := #[{ on := 11, ground := Ground.data }, { on := 21, ground := Ground.data }], guard := none }) (v := ?_) rfl (by kernel_rfl) (by kernel_rfl) (by kernel_rfl) (fun _ _ _ h => h) (Or.inl ⟨by rfl, ?_⟩) (by assumption) ?_
            rotate_left 1
            · (intro w0 hSw; (try dsimp only at hSw); go_simp; try with_reducible rfl)
            (try simp only [Act.put, List.setIfInBounds_toArray, List.set_cons_zero, List.set_cons_succ])
            refine wpAnyH_take (i := 23) (oi := { dst := some 64, op := Op.indexAddr 60 (Operand.tmp 44) (Operand.tmp 50), type := 0, pos := "wire.go:75", after := #[{ on := 3, ground := Ground.data }, { on := 9, ground := Ground.data }, { on := 0, ground := Ground.phase }, { on := 1, ground := Ground.phase }, { on := 2, ground := Ground.phase }, { on := 3, ground := Ground.phase }, { on := 4, ground := Ground.phase }, { on := 5, ground := Ground.phase }, { on := 6, ground := Ground.phase }, { on := 7, ground := Ground.phase }, { on := 8, ground := Ground.phase }, { on := 9, ground := Ground.phase }, { on := 10, ground := Ground.phase }, { on := 11, ground := Ground.phase }, { on := 12, ground := Ground.phase }, { on := 13, ground := Ground.phase }, { on := 14, ground := Ground.phase }, { on := 15, ground := Ground.phase }, { on := 16, ground := Ground.phase }, { on := 17, ground := Ground.phase }, { on := 18, ground := Ground.phase }, { on := 19, ground := Ground.phase }, { on := 20, ground := Ground.phase }, { on := 21, ground := Ground.phase }, { on := 22, ground := Ground.phase }], guard := none }) (v := ?_) rfl (by kernel_rfl) (by kernel_rfl) (by kernel_rfl) (fun _ _ _ h => h) (Or.inl ⟨by rfl, ?_⟩) (by assumption) ?_
            rotate_left 1
            · (intro w0 hSw; (try dsimp only at hSw); go_simp; try with_reducible rfl)
            (try simp only [Act.put, List.setIfInBounds_toArray, List.set_cons_zero, List.set_cons_succ])
            refine wpAnyH_ready (rs := [24]) (by kernel_rfl) (by simp) ?_
            refine AllReadyH.cons (o := { dst := none, op := Op.store 5 (Operand.tmp 64) (Operand.tmp 63), type := 0, pos := "wire.go:75", after := #[{ on := 23, ground := Ground.data }, { on := 22, ground := Ground.data }, { on := 16, ground := Ground.chain }, { on := 0, ground := Ground.phase }, { on := 1, ground := Ground.phase }, { on := 2, ground := Ground.phase }, { on := 3, ground := Ground.phase }, { on := 4, ground := Ground.phase }, { on := 5, ground := Ground.phase }, { on := 6, ground := Ground.phase }, { on := 7, ground := Ground.phase }, { on := 8, ground := Ground.phase }, { on := 9, ground := Ground.phase }, { on := 10, ground := Ground.phase }, { on := 11, ground := Ground.phase }, { on := 12, ground := Ground.phase }, { on := 13, ground := Ground.phase }, { on := 14, ground := Ground.phase }, { on := 15, ground := Ground.phase }, { on := 16, ground := Ground.phase }, { on := 17, ground := Ground.phase }, { on := 18, ground := Ground.phase }, { on := 19, ground := Ground.phase }, { on := 20, ground := Ground.phase }, { on := 21, ground := Ground.phase }, { on := 22, ground := Ground.phase }], guard := none }) rfl (fun K hK => ?_) AllReadyH.nil
            go_simp
            refine hK.out _ _ ?_ (fun hHeld => ?_)
            · exact ⟨by rw [World.cell?_drew, World.cell?_setCell_other _ _ _ _ hne]; exact m0, by rw [World.cell?_drew, World.cell?_setCell_other _ _ _ _ hne1]; exact m1⟩
            clear hK K
            (try simp only [Act.put, List.setIfInBounds_toArray, List.set_cons_zero, List.set_cons_succ])
            refine wpAnyH_done (by kernel_rfl) ?_ _
            refine NoPanic.normal ?_
            go_wp2_with fail
            go_roundw
            case rel => exact hrel2.out
            case measure => simp [intOf] <;> omega
          · refine AllReadyH.cons (o := { dst := some 57, op := Op.call { callee := Callee.value (Operand.func 70), args := #[Operand.tmp 55, Operand.tmp 56], argTypes := #[82, 3] }, type := 5, pos := "wire.go:75", after := #[{ on := 14, ground := Ground.data }, { on := 15, ground := Ground.data }], guard := none }) rfl (fun K hK => ?_) AllReadyH.nil
            go_simp
            go_at_call 70
            refine (hlow.out _).mono ?_
            rintro e w' ⟨rfl, rfl⟩
            try dsimp only
            refine hK.out _ _ ?_ (fun hHeld => ?_)
            · exact hHeld
            clear hK K
            (try simp only [Act.put, List.setIfInBounds_toArray, List.set_cons_zero, List.set_cons_succ])
            refine wpAnyH_take (i := 21) (oi := { dst := some 62, op := Op.binOp BinOp.shl 5 (Operand.tmp 57) (Operand.tmp 61) 3, type := 5, pos := "wire.go:75", after := #[{ on := 16, ground := Ground.data }, { on := 20, ground := Ground.data }], guard := none }) (v := ?_) rfl (by kernel_rfl) (by kernel_rfl) (by kernel_rfl) (fun _ _ _ h => h) (Or.inl ⟨by rfl, ?_⟩) (by assumption) ?_
            rotate_left 1
            · (intro w0 hSw; (try dsimp only at hSw); go_simp; try with_reducible rfl)
            (try simp only [Act.put, List.setIfInBounds_toArray, List.set_cons_zero, List.set_cons_succ])
            refine wpAnyH_ready (rs := [11]) (by kernel_rfl) (by simp) ?_
            refine AllReadyH.cons (o := { dst := some 52, op := Op.load 5 (Operand.tmp 51), type := 5, pos := "wire.go:75", after := #[{ on := 10, ground := Ground.data }], guard := none }) rfl (fun K hK => ?_) AllReadyH.nil
            go_simp
            try dsimp only
            refine hK.out _ _ ?_ (fun hHeld => ?_)
            · exact hHeld
            clear hK K
            (try simp only [Act.put, List.setIfInBounds_toArray, List.set_cons_zero, List.set_cons_succ])
            refine wpAnyH_take (i := 22) (oi := { dst := some 63, op := Op.binOp BinOp.or 5 (Operand.tmp 52) (Operand.tmp 62) 5, type := 5, pos := "wire.go:75", after := #[{ on := 11, ground := Ground.data }, { on := 21, ground := Ground.data }], guard := none }) (v := ?_) rfl (by kernel_rfl) (by kernel_rfl) (by kernel_rfl) (fun _ _ _ h => h) (Or.inl ⟨by rfl, ?_⟩) (by assumption) ?_
            rotate_left 1
            · (intro w0 hSw; (try dsimp only at hSw); go_simp; try with_reducible rfl)
            (try simp only [Act.put, List.setIfInBounds_toArray, List.set_cons_zero, List.set_cons_succ])
            refine wpAnyH_take (i := 23) (oi := { dst := some 64, op := Op.indexAddr 60 (Operand.tmp 44) (Operand.tmp 50), type := 0, pos := "wire.go:75", after := #[{ on := 3, ground := Ground.data }, { on := 9, ground := Ground.data }, { on := 0, ground := Ground.phase }, { on := 1, ground := Ground.phase }, { on := 2, ground := Ground.phase }, { on := 3, ground := Ground.phase }, { on := 4, ground := Ground.phase }, { on := 5, ground := Ground.phase }, { on := 6, ground := Ground.phase }, { on := 7, ground := Ground.phase }, { on := 8, ground := Ground.phase }, { on := 9, ground := Ground.phase }, { on := 10, ground := Ground.phase }, { on := 11, ground := Ground.phase }, { on := 12, ground := Ground.phase }, { on := 13, ground := Ground.phase }, { on := 14, ground := Ground.phase }, { on := 15, ground := Ground.phase }, { on := 16, ground := Ground.phase }, { on := 17, ground := Ground.phase }, { on := 18, ground := Ground.phase }, { on := 19, ground := Ground.phase }, { on := 20, ground := Ground.phase }, { on := 21, ground := Ground.phase }, { on := 22, ground := Ground.phase }], guard := none }) (v := ?_) rfl (by kernel_rfl) (by kernel_rfl) (by kernel_rfl) (fun _ _ _ h => h) (Or.inl ⟨by rfl, ?_⟩) (by assumption) ?_
            rotate_left 1
            · (intro w0 hSw; (try dsimp only at hSw); go_simp; try with_reducible rfl)
            (try simp only [Act.put, List.setIfInBounds_toArray, List.set_cons_zero, List.set_cons_succ])
            refine wpAnyH_ready (rs := [24]) (by kernel_rfl) (by simp) ?_
            refine AllReadyH.cons (o := { dst := none, op := Op.store 5 (Operand.tmp 64) (Operand.tmp 63), type := 0, pos := "wire.go:75", after := #[{ on := 23, ground := Ground.data }, { on := 22, ground := Ground.data }, { on := 16, ground := Ground.chain }, { on := 0, ground := Ground.phase }, { on := 1, ground := Ground.phase }, { on := 2, ground := Ground.phase }, { on := 3, ground := Ground.phase }, { on := 4, ground := Ground.phase }, { on := 5, ground := Ground.phase }, { on := 6, ground := Ground.phase }, { on := 7, ground := Ground.phase }, { on := 8, ground := Ground.phase }, { on := 9, ground := Ground.phase }, { on := 10, ground := Ground.phase }, { on := 11, ground := Ground.phase }, { on := 12, ground := Ground.phase }, { on := 13, ground := Ground.phase }, { on := 14, ground := Ground.phase }, { on := 15, ground := Ground.phase }, { on := 16, ground := Ground.phase }, { on := 17, ground := Ground.phase }, { on := 18, ground := Ground.phase }, { on := 19, ground := Ground.phase }, { on := 20, ground := Ground.phase }, { on := 21, ground := Ground.phase }, { on := 22, ground := Ground.phase }], guard := none }) rfl (fun K hK => ?_) AllReadyH.nil
            go_simp
            refine hK.out _ _ ?_ (fun hHeld => ?_)
            · exact ⟨by rw [World.cell?_drew, World.cell?_setCell_other _ _ _ _ hne]; exact m0, by rw [World.cell?_drew, World.cell?_setCell_other _ _ _ _ hne1]; exact m1⟩
            clear hK K
            (try simp only [Act.put, List.setIfInBounds_toArray, List.set_cons_zero, List.set_cons_succ])
            refine wpAnyH_done (by kernel_rfl) ?_ _
            refine NoPanic.normal ?_
            go_wp2_with fail
            go_roundw
            case rel => exact hrel2.out
            case measure => simp [intOf] <;> omega
      · have hC8 := hC.1
        obtain ⟨L, a, rfl, hza0⟩ := hC.2.2 hz
        obtain ⟨F, hFE0⟩ : ∃ F, F = 8 - b' := ⟨_, rfl⟩
        rw [← hFE0] at hza0
        have hza : a % 2 ^ F = 0 := hza0
        obtain ⟨n, hnL⟩ : ∃ n, n = L.length := ⟨_, rfl⟩
        obtain ⟨m, hmn⟩ : ∃ m, m = n + 1 := ⟨_, rfl⟩
        have hlm : (L ++ [a]).length = m := by rw [List.length_append, List.length_singleton]; omega
        rw [hlm, show (8 - b') % 8 = F by omega] at hW
        obtain ⟨g, cap, hv', hg, hgl⟩ := hW.own.form (by omega)
        subst hv'
        have hX := hW
        have FXp := hF
        have z1 := hX.c1
        have z2 := hX.f1
        have s3 := hX.sz
        have hF8 : F ≤ 8 := by omega
        have ha : a < 256 := hC.2.1 a (by simp)
        have hFE : (F : Int) = (F : Int) := rfl
        have hF0 : ¬ (F : Int) = 0 := by omega
        have hLb : ∀ y ∈ L, y < 256 := fun y hy => hC.2.1 y (by simp [hy])
        have hlen2 : L.length + j1 ≤ l.length + 64 := by rw [hlm] at hlen; omega
        obtain ⟨l', hl'⟩ : ∃ l', l' = L ++ [a] := ⟨_, rfl⟩
        have hstep : ∀ now r, 1 ≤ now → now ≤ F → now + r = j1 → bitsOn x j1 (l', b') = bitsOn x r (L ++ [a + x / 2 ^ r % 2 ^ now * 2 ^ (F - now)], (b' + now) % 8) := fun now r h1 h2 h3 => by
          rw [hl', bitsOn_chunk x now b' j1 L a (by omega) hC8 (by omega) (by omega) ha (by rw [← hFE0]; exact hza), show j1 - now = r by omega, hFE0]
        rw [← hl'] at heqH
        have hbz : b' + F = 8 := by omega
        clear hF hW hC hl' hFE0 hza0
        by_cases hcF : j1 ≤ F
        · obtain ⟨now, hnow⟩ : ∃ now, now = j1 := ⟨_, rfl⟩
          obtain ⟨r, hr⟩ : ∃ r, r = 0 := ⟨_, rfl⟩
          obtain ⟨f2, hf2⟩ : ∃ f2, f2 = F - j1 := ⟨_, rfl⟩
          have hcase : (j1 : Int) ≤ (F : Int) := by omega
          have hfr : (F : Int) - (j1 : Int) = (f2 : Int) := by omega
          have q1 : 1 ≤ now := by omega
          have q2 : now ≤ F := by omega
          have q3 : now + r = j1 := by omega
          have q4 : f2 = F - now := by omega
          obtain ⟨C, hC0⟩ : ∃ C, C = x / 2 ^ r % 2 ^ now := ⟨_, rfl⟩
          obtain ⟨D, hD⟩ : ∃ D, D = C * 2 ^ f2 := ⟨_, rfl⟩
          have ch := chunk_or x r now F a q1 q2 hF8 ha hza
          rw [← q4, ← hC0, ← hD] at ch
          have hlow : Hid (∀ w, Calls Tryd.prog 70 #[.int .u64 (x : Int), .int .i64 (j1 : Int)] w fun e w' => e = .returned (.int .u8 (C : Int)) ∧ w' = w) := fun w => by
            rw [hC0]; exact lowest_z x r now hx (by omega) _ _ (by rw [hr]; simp) (by rw [hnow]) w
          have hsh : IntKind.u8.wrap ((C : Int) * 2 ^ f2) = (D : Int) := by
            rw [show ((C : Int) * 2 ^ f2) = (D : Int) by rw [hD]; simp, IntKind.wrap_u8]; omega
          have hsh0 : f2 = 0 → IntKind.u8.wrap (C : Int) = (D : Int) := fun h0 => by rw [h0] at hsh; simpa using hsh
          have hor : bits .or .u8 (a : Int) (D : Int) = ((a + D : Nat) : Int) := by rw [u8_or_nat a D ha ch.1, ch.2.1]
          obtain ⟨A2, hA2⟩ : ∃ A2, A2 = a + D := ⟨_, rfl⟩
          rw [← hA2] at hor
          obtain ⟨h5, F5⟩ := hX.freeF (f2 : Int)
          obtain ⟨h6, F6⟩ := h5.byteF n A2
          obtain ⟨W, hW4⟩ : ∃ W, W = wr.setCell ⟨N, 1, none⟩ (.int .i64 (f2 : Int)) := ⟨_, rfl⟩
          rw [← hW4] at h5 F5 h6 F6
          have hW4H : Hid _ := hW4
          have hbits : bitsOn x j1 (l', b') = bitsOn x r (L ++ [A2], (b' + now) % 8) := by
            rw [hA2, hD, hC0, q4]
            exact hstep now r q1 q2 q3
          have hset : (L ++ [a]).set n A2 = L ++ [A2] := by rw [hnL]; simp
          rw [hset] at h6
          have hrel2 : Hid (∃ (j b' : Nat) (v' : Value) (l' : List Nat), Value.int .i64 0 = .int .i64 (j : Int) ∧ j ≤ 64 ∧ CL l' b' ∧ l'.length + j ≤ l.length + 64 ∧ WS N w1 (((8 - b') % 8 : Nat) : Int) v' l'.length (enc l') (W.setCell ⟨g, n, none⟩ (.int .u8 (A2 : Int))).drew ∧ Fr N v v' w (W.setCell ⟨g, n, none⟩ (.int .u8 (A2 : Int))).drew ∧ bitsOn x j (l', b') = bitsOn x c (l, b)) := by
            refine ⟨r, (b' + now) % 8, .slice (some ⟨g, 0, none⟩) m cap, L ++ [A2], by rw [hr]; rfl, by omega, ⟨by omega, ?_, ?_⟩, ?_, ?_, ((FXp.trans F5).trans F6).drew, ?_⟩
            · intro y hy
              rcases List.mem_append.1 hy with hy | hy
              · exact hLb y hy
              · rw [List.mem_singleton.1 hy, hA2]; exact ch.2.2.1
            · intro hne
              exact ⟨L, A2, rfl, by rw [show 8 - (b' + now) % 8 = f2 by omega, hA2]; exact ch.2.2.2⟩
            · rw [List.length_append, List.length_singleton]; omega
            · rw [List.length_append, List.length_singleton, ← hnL, ← hmn, show (((8 - (b' + now) % 8) % 8 : Nat) : Int) = (f2 : Int) by omega]; exact h6.drew
            · rw [← hbits]; exact heqH.out
          have m0 := h5.c0
          have m1 := h5.c1
          have rc : W.cell? ⟨g, n, none⟩ = some (.int .u8 (a : Int)) := by
            rw [h5.own.cellAt n (by omega), hnL]
            simp [enc]
          have rf : W.frozen? ⟨g, n, none⟩ = false := h5.own.frozenAt n
          have n0 : IntKind.i64.wrap ((m : Int) - 1) = (n : Int) := by rw [show (m : Int) - 1 = (n : Int) by omega]; exact IntWalk.i64_in _ (by omega)
          have n2 : (0 : Int) ≤ (n : Int) := by omega
          have n3 : (n : Int) < (m : Int) := by omega
          have n4 : n < m := by omega
          have hne : (⟨g, n, none⟩ : Addr) ≠ ⟨N, 0, none⟩ := by intro e; injection e with e1; omega
          have hne1 : (⟨g, n, none⟩ : Addr) ≠ ⟨N, 1, none⟩ := by intro e; injection e with e1; omega
          have hsh1 : Hid (f2 = 0) ∨ True := Or.inr trivial
          have wz : IntKind.i64.wrap 0 = 0 := by decide
          skip
          clear hbits hset hW4 F5 F6 h5 h6 FXp heqH hstep hLb hlen hnL hmn ch hA2 hD hC0 q1 q2 q3 q4 hX hnow hsh1 hFE hr hsh0 hf2
          go_wp2_with fail
          rw [← hW4H.out]
          refine wp_region_noPanic ?_
          refine wp_region_held_drew (S := fun w' => w'.cell? ⟨N, 0, none⟩ = some (.slice (some ⟨g, 0, none⟩) m cap) ∧ w'.cell? ⟨N, 1, none⟩ = some (.int .i64 (f2 : Int))) (by kernel_rfl) ?_ (fun hHeld => ?_)
          · exact ⟨m0, m1⟩
          refine wpAnyH_take (i := 0) (oi := { dst := some 41, op := Op.move (Operand.tmp 0), type := 85, pos := "wire.go:75", after := #[], guard := none }) (v := ?_) rfl (by kernel_rfl) (by kernel_rfl) (by kernel_rfl) (fun _ _ _ h => h) (Or.inl ⟨by rfl, ?_⟩) (by assumption) ?_
          rotate_left 1
          · (intro w0 hSw; (try dsimp only at hSw); go_simp; try with_reducible rfl)
          (try simp only [Act.put, List.setIfInBounds_toArray, List.set_cons_zero, List.set_cons_succ])
          refine wpAnyH_take (i := 1) (oi := { dst := some 42, op := Op.nilCheck (Operand.tmp 41), type := 0, pos := "wire.go:75", after := #[{ on := 0, ground := Ground.data }], guard := none }) (v := ?_) rfl (by kernel_rfl) (by kernel_rfl) (by kernel_rfl) (fun _ _ _ h => h) (Or.inl ⟨by rfl, ?_⟩) (by assumption) ?_
          rotate_left 1
          · (intro w0 hSw; (try dsimp only at hSw); go_simp; try with_reducible rfl)
          (try simp only [Act.put, List.setIfInBounds_toArray, List.set_cons_zero, List.set_cons_succ])
          refine wpAnyH_take (i := 2) (oi := { dst := some 43, op := Op.fieldAddr 80 (Operand.tmp 42) 0, type := 0, pos := "wire.go:75", after := #[{ on := 1, ground := Ground.data }], guard := none }) (v := ?_) rfl (by kernel_rfl) (by kernel_rfl) (by kernel_rfl) (fun _ _ _ h => h) (Or.inl ⟨by rfl, ?_⟩) (by assumption) ?_
          rotate_left 1
          · (intro w0 hSw; (try dsimp only at hSw); go_simp; try with_reducible rfl)
          (try simp only [Act.put, List.setIfInBounds_toArray, List.set_cons_zero, List.set_cons_succ])
          refine wpAnyH_take (i := 3) (oi := { dst := some 44, op := Op.load 60 (Operand.tmp 43), type := 60, pos := "wire.go:75", after := #[{ on := 2, ground := Ground.data }], guard := none }) (v := ?_) rfl (by kernel_rfl) (by kernel_rfl) (by kernel_rfl) (fun _ _ _ h => h) (Or.inl ⟨by rfl, ?_⟩) (by assumption) ?_
          rotate_left 1
          · (intro w0 hSw; (try dsimp only at hSw); go_simp; try with_reducible rfl)
          (try simp only [Act.put, List.setIfInBounds_toArray, List.set_cons_zero, List.set_cons_succ])
          refine wpAnyH_take (i := 4) (oi := { dst := some 45, op := Op.move (Operand.tmp 0), type := 85, pos := "wire.go:75", after := #[], guard := none }) (v := ?_) rfl (by kernel_rfl) (by kernel_rfl) (by kernel_rfl) (fun _ _ _ h => h) (Or.inl ⟨by rfl, ?_⟩) (by assumption) ?_
          rotate_left 1
          · (intro w0 hSw; (try dsimp only at hSw); go_simp; try with_reducible rfl)
          (try simp only [Act.put, List.setIfInBounds_toArray, List.set_cons_zero, List.set_cons_succ])
          refine wpAnyH_take (i := 5) (oi := { dst := some 46, op := Op.nilCheck (Operand.tmp 45), type := 0, pos := "wire.go:75", after := #[{ on := 4, ground := Ground.data }], guard := none }) (v := ?_) rfl (by kernel_rfl) (by kernel_rfl) (by kernel_rfl) (fun _ _ _ h => h) (Or.inl ⟨by rfl, ?_⟩) (by assumption) ?_
          rotate_left 1
          · (intro w0 hSw; (try dsimp only at hSw); go_simp; try with_reducible rfl)
          (try simp only [Act.put, List.setIfInBounds_toArray, List.set_cons_zero, List.set_cons_succ])
          refine wpAnyH_take (i := 6) (oi := { dst := some 47, op := Op.fieldAddr 80 (Operand.tmp 46) 0, type := 0, pos := "wire.go:75", after := #[{ on := 5, ground := Ground.data }], guard := none }) (v := ?_) rfl (by kernel_rfl) (by kernel_rfl) (by kernel_rfl) (fun _ _ _ h => h) (Or.inl ⟨by rfl, ?_⟩) (by assumption) ?_
          rotate_left 1
          · (intro w0 hSw; (try dsimp only at hSw); go_simp; try with_reducible rfl)
          (try simp only [Act.put, List.setIfInBounds_toArray, List.set_cons_zero, List.set_cons_succ])
          refine wpAnyH_take (i := 7) (oi := { dst := some 48, op := Op.load 60 (Operand.tmp 47), type := 60, pos := "wire.go:75", after := #[{ on := 6, ground := Ground.data }], guard := none }) (v := ?_) rfl (by kernel_rfl) (by kernel_rfl) (by kernel_rfl) (fun _ _ _ h => h) (Or.inl ⟨by rfl, ?_⟩) (by assumption) ?_
          rotate_left 1
          · (intro w0 hSw; (try dsimp only at hSw); go_simp; try with_reducible rfl)
          (try simp only [Act.put, List.setIfInBounds_toArray, List.set_cons_zero, List.set_cons_succ])
          refine wpAnyH_take (i := 8) (oi := { dst := some 49, op := Op.call { callee := Callee.builtin Builtin.len, args := #[Operand.tmp 48], argTypes := #[60] }, type := 3, pos := "wire.go:75", after := #[{ on := 7, ground := Ground.data }], guard := none }) (v := ?_) rfl (by kernel_rfl) (by kernel_rfl) (by kernel_rfl) (fun _ _ _ h => h) (Or.inl ⟨by rfl, ?_⟩) (by assumption) ?_
          rotate_left 1
          · (intro w0 hSw; (try dsimp only at hSw); go_simp; try with_reducible rfl)
          (try simp only [Act.put, List.setIfInBounds_toArray, List.set_cons_zero, List.set_cons_succ])
          refine wpAnyH_take (i := 9) (oi := { dst := some 50, op := Op.binOp BinOp.sub 3 (Operand.tmp 49) (Operand.const (Value.int IntKind.i64 1)) 3, type := 3, pos := "wire.go:75", after := #[{ on := 8, ground := Ground.data }], guard := none }) (v := ?_) rfl (by kernel_rfl) (by kernel_rfl) (by kernel_rfl) (fun _ _ _ h => h) (Or.inl ⟨by rfl, ?_⟩) (by assumption) ?_
          rotate_left 1
          · (intro w0 hSw; (try dsimp only at hSw); go_simp; try with_reducible rfl)
          (try simp only [Act.put, List.setIfInBounds_toArray, List.set_cons_zero, List.set_cons_succ])
          refine wpAnyH_take (i := 10) (oi := { dst := some 51, op := Op.indexAddr 60 (Operand.tmp 44) (Operand.tmp 50), type := 0, pos := "wire.go:75", after := #[{ on := 3, ground := Ground.data }, { on := 9, ground := Ground.data }], guard := none }) (v := ?_) rfl (by kernel_rfl) (by kernel_rfl) (by kernel_rfl) (fun _ _ _ h => h) (Or.inl ⟨by rfl, ?_⟩) (by assumption) ?_
          rotate_left 1
          · (intro w0 hSw; (try dsimp only at hSw); go_simp; try with_reducible rfl)
          (try simp only [Act.put, List.setIfInBounds_toArray, List.set_cons_zero, List.set_cons_succ])
          refine wpAnyH_take (i := 12) (oi := { dst := some 53, op := Op.move (Operand.tmp 1), type := 82, pos := "wire.go:75", after := #[], guard := none }) (v := ?_) rfl (by kernel_rfl) (by kernel_rfl) (by kernel_rfl) (fun _ _ _ h => h) (Or.inl ⟨by rfl, ?_⟩) (by assumption) ?_
          rotate_left 1
          · (intro w0 hSw; (try dsimp only at hSw); go_simp; try with_reducible rfl)
          (try simp only [Act.put, List.setIfInBounds_toArray, List.set_cons_zero, List.set_cons_succ])
          refine wpAnyH_take (i := 13) (oi := { dst := some 54, op := Op.move (Operand.tmp 2), type := 3, pos := "wire.go:75", after := #[], guard := none }) (v := ?_) rfl (by kernel_rfl) (by kernel_rfl) (by kernel_rfl) (fun _ _ _ h => h) (Or.inl ⟨by rfl, ?_⟩) (by assumption) ?_
          rotate_left 1
          · (intro w0 hSw; (try dsimp only at hSw); go_simp; try with_reducible rfl)
          (try simp only [Act.put, List.setIfInBounds_toArray, List.set_cons_zero, List.set_cons_succ])
          refine wpAnyH_take (i := 14) (oi := { dst := some 55, op := Op.binOp BinOp.shr 82 (Operand.tmp 53) (Operand.tmp 54) 3, type := 82, pos := "wire.go:75", after := #[{ on := 12, ground := Ground.data }, { on := 13, ground := Ground.data }], guard := none }) (v := ?_) rfl (by kernel_rfl) (by kernel_rfl) (by kernel_rfl) (fun _ _ _ h => h) (Or.inl ⟨by rfl, ?_⟩) (by assumption) ?_
          rotate_left 1
          · (intro w0 hSw; (try dsimp only at hSw); go_simp; try with_reducible rfl)
          (try simp only [Act.put, List.setIfInBounds_toArray, List.set_cons_zero, List.set_cons_succ])
          refine wpAnyH_take (i := 15) (oi := { dst := some 56, op := Op.move (Operand.tmp 6), type := 3, pos := "wire.go:75", after := #[], guard := none }) (v := ?_) rfl (by kernel_rfl) (by kernel_rfl) (by kernel_rfl) (fun _ _ _ h => h) (Or.inl ⟨by rfl, ?_⟩) (by assumption) ?_
          rotate_left 1
          · (intro w0 hSw; (try dsimp only at hSw); go_simp; try with_reducible rfl)
          (try simp only [Act.put, List.setIfInBounds_toArray, List.set_cons_zero, List.set_cons_succ])
          refine wpAnyH_take (i := 17) (oi := { dst := some 58, op := Op.move (Operand.tmp 0), type := 85, pos := "wire.go:75", after := #[], guard := none }) (v := ?_) rfl (by kernel_rfl) (by kernel_rfl) (by kernel_rfl) (fun _ _ _ h => h) (Or.inl ⟨by rfl, ?_⟩) (by assumption) ?_
          rotate_left 1
          · (intro w0 hSw; (try dsimp only at hSw); go_simp; try with_reducible rfl)
          (try simp only [Act.put, List.setIfInBounds_toArray, List.set_cons_zero, List.set_cons_succ])
          refine wpAnyH_take (i := 18) (oi := { dst := some 59, op := Op.nilCheck (Operand.tmp 58), type := 0, pos := "wire.go:75", after := #[{ on := 17, ground := Ground.data }], guard := none }) (v := ?_) rfl (by kernel_rfl) (by kernel_rfl) (by kernel_rfl) (fun _ _ _ h => h) (Or.inl ⟨by rfl, ?_⟩) (by assumption) ?_
          rotate_left 1
          · (intro w0 hSw; (try dsimp only at hSw); go_simp; try with_reducible rfl)
          (try simp only [Act.put, List.setIfInBounds_toArray, List.set_cons_zero, List.set_cons_succ])
          refine wpAnyH_take (i := 19) (oi := { dst := some 60, op := Op.fieldAddr 80 (Operand.tmp 59) 1, type := 0, pos := "wire.go:75", after := #[{ on := 18, ground := Ground.data }], guard := none }) (v := ?_) rfl (by kernel_rfl) (by kernel_rfl) (by kernel_rfl) (fun _ _ _ h => h) (Or.inl ⟨by rfl, ?_⟩) (by assumption) ?_
          rotate_left 1
          · (intro w0 hSw; (try dsimp only at hSw); go_simp; try with_reducible rfl)
          (try simp only [Act.put, List.setIfInBounds_toArray, List.set_cons_zero, List.set_cons_succ])
          refine wpAnyH_take (i := 20) (oi := { dst := some 61, op := Op.load 3 (Operand.tmp 60), type := 3, pos := "wire.go:75", after := #[{ on := 19, ground := Ground.data }], guard := none }) (v := ?_) rfl (by kernel_rfl) (by kernel_rfl) (by kernel_rfl) (fun _ _ _ h => h) (Or.inl ⟨by rfl, ?_⟩) (by assumption) ?_
          rotate_left 1
          · (intro w0 hSw; (try dsimp only at hSw); go_simp; try with_reducible rfl)
          (try simp only [Act.put, List.setIfInBounds_toArray, List.set_cons_zero, List.set_cons_succ])
          refine wpAnyH_ready (rs := [11, 16]) (by kernel_rfl) (by simp) ?_
          refine AllReadyH.cons (o := { dst := some 52, op := Op.load 5 (Operand.tmp 51), type := 5, pos := "wire.go:75", after := #[{ on := 10, ground := Ground.data }], guard := none }) rfl (fun K hK => ?_) ?_
          · go_simp
            try dsimp only
            refine hK.out _ _ ?_ (fun hHeld => ?_)
            · exact hHeld
            clear hK K
            (try simp only [Act.put, List.setIfInBounds_toArray, List.set_cons_zero, List.set_cons_succ])
            refine wpAnyH_ready (rs := [16]) (by kernel_rfl) (by simp) ?_
            refine AllReadyH.cons (o := { dst := some 57, op := Op.call { callee := Callee.value (Operand.func 70), args := #[Operand.tmp 55, Operand.tmp 56], argTypes := #[82, 3] }, type := 5, pos := "wire.go:75", after := #[{ on := 14, ground := Ground.data }, { on := 15, ground := Ground.data }], guard := none }) rfl (fun K hK => ?_) AllReadyH.nil
            go_simp
            go_at_call 70
            refine (hlow.out _).mono ?_
            rintro e w' ⟨rfl, rfl⟩
            try dsimp only
            refine hK.out _ _ ?_ (fun hHeld => ?_)
            · exact hHeld
            clear hK K
            (try simp only [Act.put, List.setIfInBounds_toArray, List.set_cons_zero, List.set_cons_succ])
            refine wpAnyH_take (i := 21) (oi := { dst := some 62, op := Op.binOp BinOp.shl 5 (Operand.tmp 57) (Operand.tmp 61) 3, type := 5, pos := "wire.go:75", after := #[{ on := 16, ground := Ground.data }, { on := 20, ground := Ground.data }], guard := none }) (v := ?_) rfl (by kernel_rfl) (by kernel_rfl) (by kernel_rfl) (fun _ _ _ h => h) (Or.inl ⟨by rfl, ?_⟩) (by assumption) ?_
            rotate_left 1
            · (intro w0 hSw; (try dsimp only at hSw); go_simp; try with_reducible rfl)
            (try simp only [Act.put, List.setIfInBounds_toArray, List.set_cons_zero, List.set_cons_succ])
            refine wpAnyH_take (i := 22) (oi := { dst := some 63, op := Op.binOp BinOp.or 5 (Operand.tmp 52) (Operand.tmp 62) 5, type := 5, pos := "wire.go:75", after := #[{ on := 11, ground := Ground.data }, { on := 21, ground := Ground.data }], guard := none }) (v := ?_) rfl (by kernel_rfl) (by kernel_rfl) (by kernel_rfl) (fun _ _ _ h => h) (Or.inl ⟨by rfl, ?_⟩) (by assumption) ?_
            rotate_left 1
            · (intro w0 hSw; (try dsimp only at hSw); go_simp; try with_reducible rfl)
            (try simp only [Act.put, List.setIfInBounds_toArray, List.set_cons_zero, List.set_cons_succ])
            refine wpAnyH_take (i := 23) (oi := { dst := some 64, op := Op.indexAddr 60 (Operand.tmp 44) (Operand.tmp 50), type := 0, pos := "wire.go:75", after := #[{ on := 3, ground := Ground.data }, { on := 9, ground := Ground.data }, { on := 0, ground := Ground.phase }, { on := 1, ground := Ground.phase }, { on := 2, ground := Ground.phase }, { on := 3, ground := Ground.phase }, { on := 4, ground := Ground.phase }, { on := 5, ground := Ground.phase }, { on := 6, ground := Ground.phase }, { on := 7, ground := Ground.phase }, { on := 8, ground := Ground.phase }, { on := 9, ground := Ground.phase }, { on := 10, ground := Ground.phase }, { on := 11, ground := Ground.phase }, { on := 12, ground := Ground.phase }, { on := 13, ground := Ground.phase }, { on := 14, ground := Ground.phase }, { on := 15, ground := Ground.phase }, { on := 16, ground := Ground.phase }, { on := 17, ground := Ground.phase }, { on := 18, ground := Ground.phase }, { on := 19, ground := Ground.phase }, { on := 20, ground := Ground.phase }, { on := 21, ground := Ground.phase }, { on := 22, ground := Ground.phase }], guard := none }) (v := ?_) rfl (by kernel_rfl) (by kernel_rfl) (by kernel_rfl) (fun _ _ _ h => h) (Or.inl ⟨by rfl, ?_⟩) (by assumption) ?_
            rotate_left 1
            · (intro w0 hSw; (try dsimp only at hSw); go_simp; try with_reducible rfl)
            (try simp only [Act.put, List.setIfInBounds_toArray, List.set_cons_zero, List.set_cons_succ])
            refine wpAnyH_ready (rs := [24]) (by kernel_rfl) (by simp) ?_
            refine AllReadyH.cons (o := { dst := none, op := Op.store 5 (Operand.tmp 64) (Operand.tmp 63), type := 0, pos := "wire.go:75", after := #[{ on := 23, ground := Ground.data }, { on := 22, ground := Ground.data }, { on := 16, ground := Ground.chain }, { on := 0, ground := Ground.phase }, { on := 1, ground := Ground.phase }, { on := 2, ground := Ground.phase }, { on := 3, ground := Ground.phase }, { on := 4, ground := Ground.phase }, { on := 5, ground := Ground.phase }, { on := 6, ground := Ground.phase }, { on := 7, ground := Ground.phase }, { on := 8, ground := Ground.phase }, { on := 9, ground := Ground.phase }, { on := 10, ground := Ground.phase }, { on := 11, ground := Ground.phase }, { on := 12, ground := Ground.phase }, { on := 13, ground := Ground.phase }, { on := 14, ground := Ground.phase }, { on := 15, ground := Ground.phase }, { on := 16, ground := Ground.phase }, { on := 17, ground := Ground.phase }, { on := 18, ground := Ground.phase }, { on := 19, ground := Ground.phase }, { on := 20, ground := Ground.phase }, { on := 21, ground := Ground.phase }, { on := 22, ground := Ground.phase }], guard := none }) rfl (fun K hK => ?_) AllReadyH.nil
            go_simp
            refine hK.out _ _ ?_ (fun hHeld => ?_)
            · exact ⟨by rw [World.cell?_drew, World.cell?_setCell_other _ _ _ _ hne]; exact m0, by rw [World.cell?_drew, World.cell?_setCell_other _ _ _ _ hne1]; exact m1⟩
            clear hK K
            (try simp only [Act.put, List.setIfInBounds_toArray, List.set_cons_zero, List.set_cons_succ])
            refine wpAnyH_done (by kernel_rfl) ?_ _
            refine NoPanic.normal ?_
            go_wp2_with fail
            go_roundw
            case rel => exact hrel2.out
            case measure => simp [intOf] <;> omega
          · refine AllReadyH.cons (o := { dst := some 57, op := Op.call { callee := Callee.value (Operand.func 70), args := #[Operand.tmp 55, Operand.tmp 56], argTypes := #[82, 3] }, type := 5, pos := "wire.go:75", after := #[{ on := 14, ground := Ground.data }, { on := 15, ground := Ground.data }], guard := none }) rfl (fun K hK => ?_) AllReadyH.nil
            go_simp
            go_at_call 70
            refine (hlow.out _).mono ?_
            rintro e w' ⟨rfl, rfl⟩
            try dsimp only
            refine hK.out _ _ ?_ (fun hHeld => ?_)
            · exact hHeld
            clear hK K
            (try simp only [Act.put, List.setIfInBounds_toArray, List.set_cons_zero, List.set_cons_succ])
            refine wpAnyH_take (i := 21) (oi := { dst := some 62, op := Op.binOp BinOp.shl 5 (Operand.tmp 57) (Operand.tmp 61) 3, type := 5, pos := "wire.go:75", after := #[{ on := 16, ground := Ground.data }, { on := 20, ground := Ground.data }], guard := none }) (v := ?_) rfl (by kernel_rfl) (by kernel_rfl) (by kernel_rfl) (fun _ _ _ h => h) (Or.inl ⟨by rfl, ?_⟩) (by assumption) ?_
            rotate_left 1
            · (intro w0 hSw; (try dsimp only at hSw); go_simp; try with_reducible rfl)
            (try simp only [Act.put, List.setIfInBounds_toArray, List.set_cons_zero, List.set_cons_succ])
            refine wpAnyH_ready (rs := [11]) (by kernel_rfl) (by simp) ?_
            refine AllReadyH.cons (o := { dst := some 52, op := Op.load 5 (Operand.tmp 51), type := 5, pos := "wire.go:75", after := #[{ on := 10, ground := Ground.data }], guard := none }) rfl (fun K hK => ?_) AllReadyH.nil
            go_simp
            try dsimp only
            refine hK.out _ _ ?_ (fun hHeld => ?_)
            · exact hHeld
            clear hK K
            (try simp only [Act.put, List.setIfInBounds_toArray, List.set_cons_zero, List.set_cons_succ])
            refine wpAnyH_take (i := 22) (oi := { dst := some 63, op := Op.binOp BinOp.or 5 (Operand.tmp 52) (Operand.tmp 62) 5, type := 5, pos := "wire.go:75", after := #[{ on := 11, ground := Ground.data }, { on := 21, ground := Ground.data }], guard := none }) (v := ?_) rfl (by kernel_rfl) (by kernel_rfl) (by kernel_rfl) (fun _ _ _ h => h) (Or.inl ⟨by rfl, ?_⟩) (by assumption) ?_
            rotate_left 1
            · (intro w0 hSw; (try dsimp only at hSw); go_simp; try with_reducible rfl)
            (try simp only [Act.put, List.setIfInBounds_toArray, List.set_cons_zero, List.set_cons_succ])
            refine wpAnyH_take (i := 23) (oi := { dst := some 64, op := Op.indexAddr 60 (Operand.tmp 44) (Operand.tmp 50), type := 0, pos := "wire.go:75", after := #[{ on := 3, ground := Ground.data }, { on := 9, ground := Ground.data }, { on := 0, ground := Ground.phase }, { on := 1, ground := Ground.phase }, { on := 2, ground := Ground.phase }, { on := 3, ground := Ground.phase }, { on := 4, ground := Ground.phase }, { on := 5, ground := Ground.phase }, { on := 6, ground := Ground.phase }, { on := 7, ground := Ground.phase }, { on := 8, ground := Ground.phase }, { on := 9, ground := Ground.phase }, { on := 10, ground := Ground.phase }, { on := 11, ground := Ground.phase }, { on := 12, ground := Ground.phase }, { on := 13, ground := Ground.phase }, { on := 14, ground := Ground.phase }, { on := 15, ground := Ground.phase }, { on := 16, ground := Ground.phase }, { on := 17, ground := Ground.phase }, { on := 18, ground := Ground.phase }, { on := 19, ground := Ground.phase }, { on := 20, ground := Ground.phase }, { on := 21, ground := Ground.phase }, { on := 22, ground := Ground.phase }], guard := none }) (v := ?_) rfl (by kernel_rfl) (by kernel_rfl) (by kernel_rfl) (fun _ _ _ h => h) (Or.inl ⟨by rfl, ?_⟩) (by assumption) ?_
            rotate_left 1
            · (intro w0 hSw; (try dsimp only at hSw); go_simp; try with_reducible rfl)
            (try simp only [Act.put, List.setIfInBounds_toArray, List.set_cons_zero, List.set_cons_succ])
            refine wpAnyH_ready (rs := [24]) (by kernel_rfl) (by simp) ?_
            refine AllReadyH.cons (o := { dst := none, op := Op.store 5 (Operand.tmp 64) (Operand.tmp 63), type := 0, pos := "wire.go:75", after := #[{ on := 23, ground := Ground.data }, { on := 22, ground := Ground.data }, { on := 16, ground := Ground.chain }, { on := 0, ground := Ground.phase }, { on := 1, ground := Ground.phase }, { on := 2, ground := Ground.phase }, { on := 3, ground := Ground.phase }, { on := 4, ground := Ground.phase }, { on := 5, ground := Ground.phase }, { on := 6, ground := Ground.phase }, { on := 7, ground := Ground.phase }, { on := 8, ground := Ground.phase }, { on := 9, ground := Ground.phase }, { on := 10, ground := Ground.phase }, { on := 11, ground := Ground.phase }, { on := 12, ground := Ground.phase }, { on := 13, ground := Ground.phase }, { on := 14, ground := Ground.phase }, { on := 15, ground := Ground.phase }, { on := 16, ground := Ground.phase }, { on := 17, ground := Ground.phase }, { on := 18, ground := Ground.phase }, { on := 19, ground := Ground.phase }, { on := 20, ground := Ground.phase }, { on := 21, ground := Ground.phase }, { on := 22, ground := Ground.phase }], guard := none }) rfl (fun K hK => ?_) AllReadyH.nil
            go_simp
            refine hK.out _ _ ?_ (fun hHeld => ?_)
            · exact ⟨by rw [World.cell?_drew, World.cell?_setCell_other _ _ _ _ hne]; exact m0, by rw [World.cell?_drew, World.cell?_setCell_other _ _ _ _ hne1]; exact m1⟩
            clear hK K
            (try simp only [Act.put, List.setIfInBounds_toArray, List.set_cons_zero, List.set_cons_succ])
            refine wpAnyH_done (by kernel_rfl) ?_ _
            refine NoPanic.normal ?_
            go_wp2_with fail
            go_roundw
            case rel => exact hrel2.out
            case measure => simp [intOf] <;> omega
        · skip
          obtain ⟨now, hnow⟩ : ∃ now, now = F := ⟨_, rfl⟩
          obtain ⟨r, hr⟩ : ∃ r, r = j1 - F := ⟨_, rfl⟩
          obtain ⟨f2, hf2⟩ : ∃ f2, f2 = 0 := ⟨_, rfl⟩
          have hcase : (F : Int) < (j1 : Int) := by omega
          have hcase2 : ¬ (j1 : Int) ≤ (F : Int) := by omega
          have hrI : (j1 : Int) - (F : Int) = (r : Int) := by omega
          have hr0 : (0 : Int) ≤ (r : Int) := by omega
          have q1 : 1 ≤ now := by omega
          have q2 : now ≤ F := by omega
          have q3 : now + r = j1 := by omega
          have q4 : f2 = F - now := by omega
          obtain ⟨C, hC0⟩ : ∃ C, C = x / 2 ^ r % 2 ^ now := ⟨_, rfl⟩
          obtain ⟨D, hD⟩ : ∃ D, D = C * 2 ^ f2 := ⟨_, rfl⟩
          have ch := chunk_or x r now F a q1 q2 hF8 ha hza
          rw [← q4, ← hC0, ← hD] at ch
          have hlow : Hid (∀ w, Calls Tryd.prog 70 #[.int .u64 ((x : Int) / 2 ^ r), .int .i64 (F : Int)] w fun e w' => e = .returned (.int .u8 (C : Int)) ∧ w' = w) := fun w => by
            rw [hC0]; exact lowest_z x r now hx (by omega) _ _ (by simp) (by rw [hnow, hFE]) w
          have hsh : IntKind.u8.wrap ((C : Int) * 2 ^ f2) = (D : Int) := by
            rw [show ((C : Int) * 2 ^ f2) = (D : Int) by rw [hD]; simp, IntKind.wrap_u8]; omega
          have hsh0 : f2 = 0 → IntKind.u8.wrap (C : Int) = (D : Int) := fun h0 => by rw [h0] at hsh; simpa using hsh
          have hor : bits .or .u8 (a : Int) (D : Int) = ((a + D : Nat) : Int) := by rw [u8_or_nat a D ha ch.1, ch.2.1]
          obtain ⟨A2, hA2⟩ : ∃ A2, A2 = a + D := ⟨_, rfl⟩
          rw [← hA2] at hor
          obtain ⟨h5, F5⟩ := hX.freeF 0
          obtain ⟨h6, F6⟩ := h5.byteF n A2
          obtain ⟨W, hW4⟩ : ∃ W, W = wr.setCell ⟨N, 1, none⟩ (.int .i64 0) := ⟨_, rfl⟩
          rw [← hW4] at h5 F5 h6 F6
          have hW4H : Hid _ := hW4
          have hbits : bitsOn x j1 (l', b') = bitsOn x r (L ++ [A2], (b' + now) % 8) := by
            rw [hA2, hD, hC0, q4]
            exact hstep now r q1 q2 q3
          have hset : (L ++ [a]).set n A2 = L ++ [A2] := by rw [hnL]; simp
          rw [hset] at h6
          have hrel2 : Hid (∃ (j b' : Nat) (v' : Value) (l' : List Nat), Value.int .i64 (r : Int) = .int .i64 (j : Int) ∧ j ≤ 64 ∧ CL l' b' ∧ l'.length + j ≤ l.length + 64 ∧ WS N w1 (((8 - b') % 8 : Nat) : Int) v' l'.length (enc l') (W.setCell ⟨g, n, none⟩ (.int .u8 (A2 : Int))).drew ∧ Fr N v v' w (W.setCell ⟨g, n, none⟩ (.int .u8 (A2 : Int))).drew ∧ bitsOn x j (l', b') = bitsOn x c (l, b)) := by
            refine ⟨r, (b' + now) % 8, .slice (some ⟨g, 0, none⟩) m cap, L ++ [A2], rfl, by omega, ⟨by omega, ?_, ?_⟩, ?_, ?_, ((FXp.trans F5).trans F6).drew, ?_⟩
            · intro y hy
              rcases List.mem_append.1 hy with hy | hy
              · exact hLb y hy
              · rw [List.mem_singleton.1 hy, hA2]; exact ch.2.2.1
            · intro hne
              exact ⟨L, A2, rfl, by rw [show 8 - (b' + now) % 8 = f2 by omega, hA2]; exact ch.2.2.2⟩
            · rw [List.length_append, List.length_singleton]; omega
            · rw [List.length_append, List.length_singleton, ← hnL, ← hmn, show (((8 - (b' + now) % 8) % 8 : Nat) : Int) = 0 by omega]; exact h6.drew
            · rw [← hbits]; exact heqH.out
          have m0 := h5.c0
          have m1 := h5.c1
          have rc : W.cell? ⟨g, n, none⟩ = some (.int .u8 (a : Int)) := by
            rw [h5.own.cellAt n (by omega), hnL]
            simp [enc]
          have rf : W.frozen? ⟨g, n, none⟩ = false := h5.own.frozenAt n
          have n0 : IntKind.i64.wrap ((m : Int) - 1) = (n : Int) := by rw [show (m : Int) - 1 = (n : Int) by omega]; exact IntWalk.i64_in _ (by omega)
          have n2 : (0 : Int) ≤ (n : Int) := by omega
          have n3 : (n : Int) < (m : Int) := by omega
          have n4 : n < m := by omega
          have hne : (⟨g, n, none⟩ : Addr) ≠ ⟨N, 0, none⟩ := by intro e; injection e with e1; omega
          have hne1 : (⟨g, n, none⟩ : Addr) ≠ ⟨N, 1, none⟩ := by intro e; injection e with e1; omega
          have hsh1 : Hid (f2 = 0) ∨ True := Or.inr trivial
          have wz : IntKind.i64.wrap 0 = 0 := by decide
          have hshz := hsh0 hf2
          clear hbits hset hW4 F5 F6 h5 h6 FXp heqH hstep hLb hlen hnL hmn ch hA2 hD hC0 q1 q2 q3 q4 hX hnow hsh1 hFE hr hsh hsh0 hf2
          go_wp2_with fail
          rw [← hW4H.out]
          refine wp_region_noPanic ?_
          refine wp_region_held_drew (S := fun w' => w'.cell? ⟨N, 0, none⟩ = some (.slice (some ⟨g, 0, none⟩) m cap) ∧ w'.cell? ⟨N, 1, none⟩ = some (.int .i64 0)) (by kernel_rfl) ?_ (fun hHeld => ?_)
          · exact ⟨m0, m1⟩
          refine wpAnyH_take (i := 0) (oi := { dst := some 41, op := Op.move (Operand.tmp 0), type := 85, pos := "wire.go:75", after := #[], guard := none }) (v := ?_) rfl (by kernel_rfl) (by kernel_rfl) (by kernel_rfl) (fun _ _ _ h => h) (Or.inl ⟨by rfl, ?_⟩) (by assumption) ?_
          rotate_left 1
          · (intro w0 hSw; (try dsimp only at hSw); go_simp; try with_reducible rfl)
          (try simp only [Act.put, List.setIfInBounds_toArray, List.set_cons_zero, List.set_cons_succ])
          refine wpAnyH_take (i := 1) (oi := { dst := some 42, op := Op.nilCheck (Operand.tmp 41), type := 0, pos := "wire.go:75", after := #[{ on := 0, ground := Ground.data }], guard := none }) (v := ?_) rfl (by kernel_rfl) (by kernel_rfl) (by kernel_rfl) (fun _ _ _ h => h) (Or.inl ⟨by rfl, ?_⟩) (by assumption) ?_
          rotate_left 1
          · (intro w0 hSw; (try dsimp only at hSw); go_simp; try with_reducible rfl)
          (try simp only [Act.put, List.setIfInBounds_toArray, List.set_cons_zero, List.set_cons_succ])
          refine wpAnyH_take (i := 2) (oi := { dst := some 43, op := Op.fieldAddr 80 (Operand.tmp 42) 0, type := 0, pos := "wire.go:75", after := #[{ on := 1, ground := Ground.data }], guard := none }) (v := ?_) rfl (by kernel_rfl) (by kernel_rfl) (by kernel_rfl) (fun _ _ _ h => h) (Or.inl ⟨by rfl, ?_⟩) (by assumption) ?_
          rotate_left 1
          · (intro w0 hSw; (try dsimp only at hSw); go_simp; try with_reducible rfl)
          (try simp only [Act.put, List.setIfInBounds_toArray, List.set_cons_zero, List.set_cons_succ])
          refine wpAnyH_take (i := 3) (oi := { dst := some 44, op := Op.load 60 (Operand.tmp 43), type := 60, pos := "wire.go:75", after := #[{ on := 2, ground := Ground.data }], guard := none }) (v := ?_) rfl (by kernel_rfl) (by kernel_rfl) (by kernel_rfl) (fun _ _ _ h => h) (Or.inl ⟨by rfl, ?_⟩) (by assumption) ?_
          rotate_left 1
          · (intro w0 hSw; (try dsimp only at hSw); go_simp; try with_reducible rfl)
          (try simp only [Act.put, List.setIfInBounds_toArray, List.set_cons_zero, List.set_cons_succ])
          refine wpAnyH_take (i := 4) (oi := { dst := some 45, op := Op.move (Operand.tmp 0), type := 85, pos := "wire.go:75", after := #[], guard := none }) (v := ?_) rfl (by kernel_rfl) (by kernel_rfl) (by kernel_rfl) (fun _ _ _ h => h) (Or.inl ⟨by rfl, ?_⟩) (by assumption) ?_
          rotate_left 1
          · (intro w0 hSw; (try dsimp only at hSw); go_simp; try with_reducible rfl)
          (try simp only [Act.put, List.setIfInBounds_toArray, List.set_cons_zero, List.set_cons_succ])
          refine wpAnyH_take (i := 5) (oi := { dst := some 46, op := Op.nilCheck (Operand.tmp 45), type := 0, pos := "wire.go:75", after := #[{ on := 4, ground := Ground.data }], guard := none }) (v := ?_) rfl (by kernel_rfl) (by kernel_rfl) (by kernel_rfl) (fun _ _ _ h => h) (Or.inl ⟨by rfl, ?_⟩) (by assumption) ?_
          rotate_left 1
          · (intro w0 hSw; (try dsimp only at hSw); go_simp; try with_reducible rfl)
          (try simp only [Act.put, List.setIfInBounds_toArray, List.set_cons_zero, List.set_cons_succ])
          refine wpAnyH_take (i := 6) (oi := { dst := some 47, op := Op.fieldAddr 80 (Operand.tmp 46) 0, type := 0, pos := "wire.go:75", after := #[{ on := 5, ground := Ground.data }], guard := none }) (v := ?_) rfl (by kernel_rfl) (by kernel_rfl) (by kernel_rfl) (fun _ _ _ h => h) (Or.inl ⟨by rfl, ?_⟩) (by assumption) ?_
          rotate_left 1
          · (intro w0 hSw; (try dsimp only at hSw); go_simp; try with_reducible rfl)
          (try simp only [Act.put, List.setIfInBounds_toArray, List.set_cons_zero, List.set_cons_succ])
          refine wpAnyH_take (i := 7) (oi := { dst := some 48, op := Op.load 60 (Operand.tmp 47), type := 60, pos := "wire.go:75", after := #[{ on := 6, ground := Ground.data }], guard := none }) (v := ?_) rfl (by kernel_rfl) (by kernel_rfl) (by kernel_rfl) (fun _ _ _ h => h) (Or.inl ⟨by rfl, ?_⟩) (by assumption) ?_
          rotate_left 1
          · (intro w0 hSw; (try dsimp only at hSw); go_simp; try with_reducible rfl)
          (try simp only [Act.put, List.setIfInBounds_toArray, List.set_cons_zero, List.set_cons_succ])
          refine wpAnyH_take (i := 8) (oi := { dst := some 49, op := Op.call { callee := Callee.builtin Builtin.len, args := #[Operand.tmp 48], argTypes := #[60] }, type := 3, pos := "wire.go:75", after := #[{ on := 7, ground := Ground.data }], guard := none }) (v := ?_) rfl (by kernel_rfl) (by kernel_rfl) (by kernel_rfl) (fun _ _ _ h => h) (Or.inl ⟨by rfl, ?_⟩) (by assumption) ?_
          rotate_left 1
          · (intro w0 hSw; (try dsimp only at hSw); go_simp; try with_reducible rfl)
          (try simp only [Act.put, List.setIfInBounds_toArray, List.set_cons_zero, List.set_cons_succ])
          refine wpAnyH_take (i := 9) (oi := { dst := some 50, op := Op.binOp BinOp.sub 3 (Operand.tmp 49) (Operand.const (Value.int IntKind.i64 1)) 3, type := 3, pos := "wire.go:75", after := #[{ on := 8, ground := Ground.data }], guard := none }) (v := ?_) rfl (by kernel_rfl) (by kernel_rfl) (by kernel_rfl) (fun _ _ _ h => h) (Or.inl ⟨by rfl, ?_⟩) (by assumption) ?_
          rotate_left 1
          · (intro w0 hSw; (try dsimp only at hSw); go_simp; try with_reducible rfl)
          (try simp only [Act.put, List.setIfInBounds_toArray, List.set_cons_zero, List.set_cons_succ])
          refine wpAnyH_take (i := 10) (oi := { dst := some 51, op := Op.indexAddr 60 (Operand.tmp 44) (Operand.tmp 50), type := 0, pos := "wire.go:75", after := #[{ on := 3, ground := Ground.data }, { on := 9, ground := Ground.data }], guard := none }) (v := ?_) rfl (by kernel_rfl) (by kernel_rfl) (by kernel_rfl) (fun _ _ _ h => h) (Or.inl ⟨by rfl, ?_⟩) (by assumption) ?_
          rotate_left 1
          · (intro w0 hSw; (try dsimp only at hSw); go_simp; try with_reducible rfl)
          (try simp only [Act.put, List.setIfInBounds_toArray, List.set_cons_zero, List.set_cons_succ])
          refine wpAnyH_take (i := 12) (oi := { dst := some 53, op := Op.move (Operand.tmp 1), type := 82, pos := "wire.go:75", after := #[], guard := none }) (v := ?_) rfl (by kernel_rfl) (by kernel_rfl) (by kernel_rfl) (fun _ _ _ h => h) (Or.inl ⟨by rfl, ?_⟩) (by assumption) ?_
          rotate_left 1
          · (intro w0 hSw; (try dsimp only at hSw); go_simp; try with_reducible rfl)
          (try simp only [Act.put, List.setIfInBounds_toArray, List.set_cons_zero, List.set_cons_succ])
          refine wpAnyH_take (i := 13) (oi := { dst := some 54, op := Op.move (Operand.tmp 2), type := 3, pos := "wire.go:75", after := #[], guard := none }) (v := ?_) rfl (by kernel_rfl) (by kernel_rfl) (by kernel_rfl) (fun _ _ _ h => h) (Or.inl ⟨by rfl, ?_⟩) (by assumption) ?_
          rotate_left 1
          · (intro w0 hSw; (try dsimp only at hSw); go_simp; try with_reducible rfl)
          (try simp only [Act.put, List.setIfInBounds_toArray, List.set_cons_zero, List.set_cons_succ])
          refine wpAnyH_take (i := 14) (oi := { dst := some 55, op := Op.binOp BinOp.shr 82 (Operand.tmp 53) (Operand.tmp 54) 3, type := 82, pos := "wire.go:75", after := #[{ on := 12, ground := Ground.data }, { on := 13, ground := Ground.data }], guard := none }) (v := ?_) rfl (by kernel_rfl) (by kernel_rfl) (by kernel_rfl) (fun _ _ _ h => h) (Or.inl ⟨by rfl, ?_⟩) (by assumption) ?_
          rotate_left 1
          · (intro w0 hSw; (try dsimp only at hSw); go_simp; try with_reducible rfl)
          (try simp only [Act.put, List.setIfInBounds_toArray, List.set_cons_zero, List.set_cons_succ])
          refine wpAnyH_take (i := 15) (oi := { dst := some 56, op := Op.move (Operand.tmp 6), type := 3, pos := "wire.go:75", after := #[], guard := none }) (v := ?_) rfl (by kernel_rfl) (by kernel_rfl) (by kernel_rfl) (fun _ _ _ h => h) (Or.inl ⟨by rfl, ?_⟩) (by assumption) ?_
          rotate_left 1
          · (intro w0 hSw; (try dsimp only at hSw); go_simp; try with_reducible rfl)
          (try simp only [Act.put, List.setIfInBounds_toArray, List.set_cons_zero, List.set_cons_succ])
          refine wpAnyH_take (i := 17) (oi := { dst := some 58, op := Op.move (Operand.tmp 0), type := 85, pos := "wire.go:75", after := #[], guard := none }) (v := ?_) rfl (by kernel_rfl) (by kernel_rfl) (by kernel_rfl) (fun _ _ _ h => h) (Or.inl ⟨by rfl, ?_⟩) (by assumption) ?_
          rotate_left 1
          · (intro w0 hSw; (try dsimp only at hSw); go_simp; try with_reducible rfl)
          (try simp only [Act.put, List.setIfInBounds_toArray, List.set_cons_zero, List.set_cons_succ])
          refine wpAnyH_take (i := 18) (oi := { dst := some 59, op := Op.nilCheck (Operand.tmp 58), type := 0, pos := "wire.go:75", after := #[{ on := 17, ground := Ground.data }], guard := none }) (v := ?_) rfl (by kernel_rfl) (by kernel_rfl) (by kernel_rfl) (fun _ _ _ h => h) (Or.inl ⟨by rfl, ?_⟩) (by assumption) ?_
          rotate_left 1
          · (intro w0 hSw; (try dsimp only at hSw); go_simp; try with_reducible rfl)
          (try simp only [Act.put, List.setIfInBounds_toArray, List.set_cons_zero, List.set_cons_succ])
          refine wpAnyH_take (i := 19) (oi := { dst := some 60, op := Op.fieldAddr 80 (Operand.tmp 59) 1, type := 0, pos := "wire.go:75", after := #[{ on := 18, ground := Ground.data }], guard := none }) (v := ?_) rfl (by kernel_rfl) (by kernel_rfl) (by kernel_rfl) (fun _ _ _ h => h) (Or.inl ⟨by rfl, ?_⟩) (by assumption) ?_
          rotate_left 1
          · (intro w0 hSw; (try dsimp only at hSw); go_simp; try with_reducible rfl)
          (try simp only [Act.put, List.setIfInBounds_toArray, List.set_cons_zero, List.set_cons_succ])
          refine wpAnyH_take (i := 20) (oi := { dst := some 61, op := Op.load 3 (Operand.tmp 60), type := 3, pos := "wire.go:75", after := #[{ on := 19, ground := Ground.data }], guard := none }) (v := ?_) rfl (by kernel_rfl) (by kernel_rfl) (by kernel_rfl) (fun _ _ _ h => h) (Or.inl ⟨by rfl, ?_⟩) (by assumption) ?_
          rotate_left 1
          · (intro w0 hSw; (try dsimp only at hSw); go_simp; try with_reducible rfl)
          (try simp only [Act.put, List.setIfInBounds_toArray, List.set_cons_zero, List.set_cons_succ])
          refine wpAnyH_ready (rs := [11, 16]) (by kernel_rfl) (by simp) ?_
          refine AllReadyH.cons (o := { dst := some 52, op := Op.load 5 (Operand.tmp 51), type := 5, pos := "wire.go:75", after := #[{ on := 10, ground := Ground.data }], guard := none }) rfl (fun K hK => ?_) ?_
          · go_simp
            try dsimp only
            refine hK.out _ _ ?_ (fun hHeld => ?_)
            · exact hHeld
            clear hK K
            (try simp only [Act.put, List.setIfInBounds_toArray, List.set_cons_zero, List.set_cons_succ])
            refine wpAnyH_ready (rs := [16]) (by kernel_rfl) (by simp) ?_
            refine AllReadyH.cons (o := { dst := some 57, op := Op.call { callee := Callee.value (Operand.func 70), args := #[Operand.tmp 55, Operand.tmp 56], argTypes := #[82, 3] }, type := 5, pos := "wire.go:75", after := #[{ on := 14, ground := Ground.data }, { on := 15, ground := Ground.data }], guard := none }) rfl (fun K hK => ?_) AllReadyH.nil
            go_simp
            go_at_call 70
            refine (hlow.out _).mono ?_
            rintro e w' ⟨rfl, rfl⟩
            try dsimp only
            refine hK.out _ _ ?_ (fun hHeld => ?_)
            · exact hHeld
            clear hK K
            (try simp only [Act.put, List.setIfInBounds_toArray, List.set_cons_zero, List.set_cons_succ])
            refine wpAnyH_take (i := 21) (oi := { dst := some 62, op := Op.binOp BinOp.shl 5 (Operand.tmp 57) (Operand.tmp 61) 3, type := 5, pos := "wire.go:75", after := #[{ on := 16, ground := Ground.data }, { on := 20, ground := Ground.data }], guard := none }) (v := ?_) rfl (by kernel_rfl) (by kernel_rfl) (by kernel_rfl) (fun _ _ _ h => h) (Or.inl ⟨by rfl, ?_⟩) (by assumption) ?_
            rotate_left 1
            · (intro w0 hSw; (try dsimp only at hSw); go_simp; try with_reducible rfl)
            (try simp only [Act.put, List.setIfInBounds_toArray, List.set_cons_zero, List.set_cons_succ])
            refine wpAnyH_take (i := 22) (oi := { dst := some 63, op := Op.binOp BinOp.or 5 (Operand.tmp 52) (Operand.tmp 62) 5, type := 5, pos := "wire.go:75", after := #[{ on := 11, ground := Ground.data }, { on := 21, ground := Ground.data }], guard := none }) (v := ?_) rfl (by kernel_rfl) (by kernel_rfl) (by kernel_rfl) (fun _ _ _ h => h) (Or.inl ⟨by rfl, ?_⟩) (by assumption) ?_
            rotate_left 1
            · (intro w0 hSw; (try dsimp only at hSw); go_simp; try with_reducible rfl)
            (try simp only [Act.put, List.setIfInBounds_toArray, List.set_cons_zero, List.set_cons_succ])
            refine wpAnyH_take (i := 23) (oi := { dst := some 64, op := Op.indexAddr 60 (Operand.tmp 44) (Operand.tmp 50), type := 0, pos := "wire.go:75", after := #[{ on := 3, ground := Ground.data }, { on := 9, ground := Ground.data }, { on := 0, ground := Ground.phase }, { on := 1, ground := Ground.phase }, { on := 2, ground := Ground.phase }, { on := 3, ground := Ground.phase }, { on := 4, ground := Ground.phase }, { on := 5, ground := Ground.phase }, { on := 6, ground := Ground.phase }, { on := 7, ground := Ground.phase }, { on := 8, ground := Ground.phase }, { on := 9, ground := Ground.phase }, { on := 10, ground := Ground.phase }, { on := 11, ground := Ground.phase }, { on := 12, ground := Ground.phase }, { on := 13, ground := Ground.phase }, { on := 14, ground := Ground.phase }, { on := 15, ground := Ground.phase }, { on := 16, ground := Ground.phase }, { on := 17, ground := Ground.phase }, { on := 18, ground := Ground.phase }, { on := 19, ground := Ground.phase }, { on := 20, ground := Ground.phase }, { on := 21, ground := Ground.phase }, { on := 22, ground := Ground.phase }], guard := none }) (v := ?_) rfl (by kernel_rfl) (by kernel_rfl) (by kernel_rfl) (fun _ _ _ h => h) (Or.inl ⟨by rfl, ?_⟩) (by assumption) ?_
            rotate_left 1
            · (intro w0 hSw; (try dsimp only at hSw); go_simp; try with_reducible rfl)
            (try simp only [Act.put, List.setIfInBounds_toArray, List.set_cons_zero, List.set_cons_succ])
            refine wpAnyH_ready (rs := [24]) (by kernel_rfl) (by simp) ?_
            refine AllReadyH.cons (o := { dst := none, op := Op.store 5 (Operand.tmp 64) (Operand.tmp 63), type := 0, pos := "wire.go:75", after := #[{ on := 23, ground := Ground.data }, { on := 22, ground := Ground.data }, { on := 16, ground := Ground.chain }, { on := 0, ground := Ground.phase }, { on := 1, ground := Ground.phase }, { on := 2, ground := Ground.phase }, { on := 3, ground := Ground.phase }, { on := 4, ground := Ground.phase }, { on := 5, ground := Ground.phase }, { on := 6, ground := Ground.phase }, { on := 7, ground := Ground.phase }, { on := 8, ground := Ground.phase }, { on := 9, ground := Ground.phase }, { on := 10, ground := Ground.phase }, { on := 11, ground := Ground.phase }, { on := 12, ground := Ground.phase }, { on := 13, ground := Ground.phase }, { on := 14, ground := Ground.phase }, { on := 15, ground := Ground.phase }, { on := 16, ground := Ground.phase }, { on := 17, ground := Ground.phase }, { on := 18, ground := Ground.phase }, { on := 19, ground := Ground.phase }, { on := 20, ground := Ground.phase }, { on := 21, ground := Ground.phase }, { on := 22, ground := Ground.phase }], guard := none }) rfl (fun K hK => ?_) AllReadyH.nil
            go_simp
            refine hK.out _ _ ?_ (fun hHeld => ?_)
            · exact ⟨by rw [World.cell?_drew, World.cell?_setCell_other _ _ _ _ hne]; exact m0, by rw [World.cell?_drew, World.cell?_setCell_other _ _ _ _ hne1]; exact m1⟩
            clear hK K
            (try simp only [Act.put, List.setIfInBounds_toArray, List.set_cons_zero, List.set_cons_succ])
            refine wpAnyH_done (by kernel_rfl) ?_ _
            refine NoPanic.normal ?_
            go_wp2_with fail
            go_roundw
            case rel => exact hrel2.out
            case measure => simp [intOf] <;> omega
          · refine AllReadyH.cons (o := { dst := some 57, op := Op.call { callee := Callee.value (Operand.func 70), args := #[Operand.tmp 55, Operand.tmp 56], argTypes := #[82, 3] }, type := 5, pos := "wire.go:75", after := #[{ on := 14, ground := Ground.data }, { on := 15, ground := Ground.data }], guard := none }) rfl (fun K hK => ?_) AllReadyH.nil
            go_simp
            go_at_call 70
            refine (hlow.out _).mono ?_
            rintro e w' ⟨rfl, rfl⟩
            try dsimp only
            refine hK.out _ _ ?_ (fun hHeld => ?_)
            · exact hHeld
            clear hK K
            (try simp only [Act.put, List.setIfInBounds_toArray, List.set_cons_zero, List.set_cons_succ])
            refine wpAnyH_take (i := 21) (oi := { dst := some 62, op := Op.binOp BinOp.shl 5 (Operand.tmp 57) (Operand.tmp 61) 3, type := 5, pos := "wire.go:75", after := #[{ on := 16, ground := Ground.data }, { on := 20, ground := Ground.data }], guard := none }) (v := ?_) rfl (by kernel_rfl) (by kernel_rfl) (by kernel_rfl) (fun _ _ _ h => h) (Or.inl ⟨by rfl, ?_⟩) (by assumption) ?_
            rotate_left 1
            · (intro w0 hSw; (try dsimp only at hSw); go_simp; try with_reducible rfl)
            (try simp only [Act.put, List.setIfInBounds_toArray, List.set_cons_zero, List.set_cons_succ])
            refine wpAnyH_ready (rs := [11]) (by kernel_rfl) (by simp) ?_
            refine AllReadyH.cons (o := { dst := some 52, op := Op.load 5 (Operand.tmp 51), type := 5, pos := "wire.go:75", after := #[{ on := 10, ground := Ground.data }], guard := none }) rfl (fun K hK => ?_) AllReadyH.nil
            go_simp
            try dsimp only
            refine hK.out _ _ ?_ (fun hHeld => ?_)
            · exact hHeld
            clear hK K
            (try simp only [Act.put, List.setIfInBounds_toArray, List.set_cons_zero, List.set_cons_succ])
            refine wpAnyH_take (i := 22) (oi := { dst := some 63, op := Op.binOp BinOp.or 5 (Operand.tmp 52) (Operand.tmp 62) 5, type := 5, pos := "wire.go:75", after := #[{ on := 11, ground := Ground.data }, { on := 21, ground := Ground.data }], guard := none }) (v := ?_) rfl (by kernel_rfl) (by kernel_rfl) (by kernel_rfl) (fun _ _ _ h => h) (Or.inl ⟨by rfl, ?_⟩) (by assumption) ?_
            rotate_left 1
            · (intro w0 hSw; (try dsimp only at hSw); go_simp; try with_reducible rfl)
            (try simp only [Act.put, List.setIfInBounds_toArray, List.set_cons_zero, List.set_cons_succ])
            refine wpAnyH_take (i := 23) (oi := { dst := some 64, op := Op.indexAddr 60 (Operand.tmp 44) (Operand.tmp 50), type := 0, pos := "wire.go:75", after := #[{ on := 3, ground := Ground.data }, { on := 9, ground := Ground.data }, { on := 0, ground := Ground.phase }, { on := 1, ground := Ground.phase }, { on := 2, ground := Ground.phase }, { on := 3, ground := Ground.phase }, { on := 4, ground := Ground.phase }, { on := 5, ground := Ground.phase }, { on := 6, ground := Ground.phase }, { on := 7, ground := Ground.phase }, { on := 8, ground := Ground.phase }, { on := 9, ground := Ground.phase }, { on := 10, ground := Ground.phase }, { on := 11, ground := Ground.phase }, { on := 12, ground := Ground.phase }, { on := 13, ground := Ground.phase }, { on := 14, ground := Ground.phase }, { on := 15, ground := Ground.phase }, { on := 16, ground := Ground.phase }, { on := 17, ground := Ground.phase }, { on := 18, ground := Ground.phase }, { on := 19, ground := Ground.phase }, { on := 20, ground := Ground.phase }, { on := 21, ground := Ground.phase }, { on := 22, ground := Ground.phase }], guard := none }) (v := ?_) rfl (by kernel_rfl) (by kernel_rfl) (by kernel_rfl) (fun _ _ _ h => h) (Or.inl ⟨by rfl, ?_⟩) (by assumption) ?_
            rotate_left 1
            · (intro w0 hSw; (try dsimp only at hSw); go_simp; try with_reducible rfl)
            (try simp only [Act.put, List.setIfInBounds_toArray, List.set_cons_zero, List.set_cons_succ])
            refine wpAnyH_ready (rs := [24]) (by kernel_rfl) (by simp) ?_
            refine AllReadyH.cons (o := { dst := none, op := Op.store 5 (Operand.tmp 64) (Operand.tmp 63), type := 0, pos := "wire.go:75", after := #[{ on := 23, ground := Ground.data }, { on := 22, ground := Ground.data }, { on := 16, ground := Ground.chain }, { on := 0, ground := Ground.phase }, { on := 1, ground := Ground.phase }, { on := 2, ground := Ground.phase }, { on := 3, ground := Ground.phase }, { on := 4, ground := Ground.phase }, { on := 5, ground := Ground.phase }, { on := 6, ground := Ground.phase }, { on := 7, ground := Ground.phase }, { on := 8, ground := Ground.phase }, { on := 9, ground := Ground.phase }, { on := 10, ground := Ground.phase }, { on := 11, ground := Ground.phase }, { on := 12, ground := Ground.phase }, { on := 13, ground := Ground.phase }, { on := 14, ground := Ground.phase }, { on := 15, ground := Ground.phase }, { on := 16, ground := Ground.phase }, { on := 17, ground := Ground.phase }, { on := 18, ground := Ground.phase }, { on := 19, ground := Ground.phase }, { on := 20, ground := Ground.phase }, { on := 21, ground := Ground.phase }, { on := 22, ground := Ground.phase }], guard := none }) rfl (fun K hK => ?_) AllReadyH.nil
            go_simp
            refine hK.out _ _ ?_ (fun hHeld => ?_)
            · exact ⟨by rw [World.cell?_drew, World.cell?_setCell_other _ _ _ _ hne]; exact m0, by rw [World.cell?_drew, World.cell?_setCell_other _ _ _ _ hne1]; exact m1⟩
            clear hK K
            (try simp only [Act.put, List.setIfInBounds_toArray, List.set_cons_zero, List.set_cons_succ])
            refine wpAnyH_done (by kernel_rfl) ?_ _
            refine NoPanic.normal ?_
            go_wp2_with fail
            go_roundw
            case rel => exact hrel2.out
            case measure => simp [intOf] <;> omega
end Go.Proofs.YtfijagdbdbbbpaaDoor
