
import Derived.Test.YtipahdplkmmofaaGreatDoorSpV
namespace Go.Proofs.YtipahdplkmmofaaGreatDoor
open Go.RowKit Go.Shelf
set_option linter.unusedVariables false
set_option linter.unusedSimpArgs false
def letF (N : Nat) : Value := .func (.func 109) #[] #[.pointer (some ⟨N, 0, none⟩)]
/-- pieces that were made. -/
def MADE (C : Nat) (W : World) (L : List (Value × Pc)) : Prop := ∀ x ∈ L, PcAt C W x.1 x.2
theorem made_cons {C : Nat} {W w' : World} {L : List (Value × Pc)} {f : Value} {p : Pc} (h : MADE C W L) (hb : Below W.heap.size W w') (hp : PcAt C w' f p) : MADE C w' ((f, p) :: L) := by
  intro x hx
  rcases List.mem_cons.1 hx with e | e
  · rw [e]; exact hp
  · exact (h x e).grown (grown_of_below C hb)
theorem number_e (C size i : Nat) (lo hi : Int) (W : World) (hC : C < W.heap.size) (hi' : i < 10) (hs : 1 ≤ size ∧ size ≤ 18) : Calls Tryz.prog 75 #[.int .i64 (size : Int), .int .i64 lo, .int .i64 hi, .pointer (some ⟨C, i, none⟩)] W fun e w' =>
    ∃ cap, e = .returned (.func (.func 107) #[] cap) ∧ PcAt C w' (.func (.func 107) #[] cap) (numPc size lo hi (setC i)) ∧ Below W.heap.size W w' :=
  (number_any C size i lo hi hi' hs W hC).mono fun e w' h => ⟨_, h.1, h.2.1, h.2.2⟩
theorem letter_e (C : Nat) (x : UInt8) (W : World) (hC : C < W.heap.size) : Calls Tryz.prog 76 #[.string ⟨#[x]⟩] W fun e w' =>
    ∃ cap, e = .returned (.func (.func 109) #[] cap) ∧ PcAt C w' (.func (.func 109) #[] cap) (letPc x) ∧ Below W.heap.size W w' :=
  (letter_any C x W hC).mono fun e w' h => ⟨_, h.1, h.2.1, h.2.2⟩
theorem lt_later {C : Nat} {W w' : World} (h : C < W.heap.size) (hb : Below W.heap.size W w') : C < w'.heap.size := Nat.lt_of_lt_of_le h hb.size
set_option maxRecDepth 100000 in
set_option maxHeartbeats 8000000 in
theorem zone_any (C : Nat) (w : World) (hC : C < w.heap.size) : Calls Tryz.prog 36 #[.pointer (some ⟨C, 0, none⟩)] w fun e w' =>
    ∃ (S : Nat) (fs : List Value), e = .returned (.slice (some ⟨S, 0, none⟩) 3 3) ∧ S ≠ C ∧ fs.length = 3 ∧ (∀ (i : Nat) (h : i < fs.length), w'.cell? ⟨S, i, none⟩ = some fs[i]) ∧ (∀ (i : Nat) (h1 : i < fs.length) (h2 : i < zonP.length), PcAt C w' fs[i] zonP[i]) ∧ Below w.heap.size w w' := by
  have hmf : ∀ (fn : Fn) (first cap : Array Value) (w : World), (Instr.makeFunc fn first cap).run Tryz.prog w = .ok (.func fn first cap) w := fun _ _ _ _ => rfl
  have q1 : Hid (∀ W, C < W.heap.size → Calls Tryz.prog 75 #[.int .i64 2, .int .i64 0, .int .i64 23, .pointer (some ⟨C, 8, none⟩)] W fun e w' => ∃ cap, e = .returned (.func (.func 107) #[] cap) ∧ PcAt C w' (.func (.func 107) #[] cap) (numPc 2 0 23 (setC 8)) ∧ Below W.heap.size W w') := fun W h => number_e C 2 8 0 23 W h (by omega) (by omega)
  have q2 : Hid (∀ W, C < W.heap.size → Calls Tryz.prog 76 #[.string ⟨#[58]⟩] W fun e w' => ∃ cap, e = .returned (.func (.func 109) #[] cap) ∧ PcAt C w' (.func (.func 109) #[] cap) (letPc 58) ∧ Below W.heap.size W w') := fun W h => letter_e C 58 W h
  have q3 : Hid (∀ W, C < W.heap.size → Calls Tryz.prog 75 #[.int .i64 2, .int .i64 0, .int .i64 59, .pointer (some ⟨C, 9, none⟩)] W fun e w' => ∃ cap, e = .returned (.func (.func 107) #[] cap) ∧ PcAt C w' (.func (.func 107) #[] cap) (numPc 2 0 59 (setC 9)) ∧ Below W.heap.size W w') := fun W h => number_e C 2 9 0 59 W h (by omega) (by omega)
  have S0 : Below w.heap.size w w.drew := (Below.refl w.heap.size w).drew
  have C0 : C < w.drew.heap.size := hC
  have M0 : MADE C w.drew [] := fun x hx => by cases hx
  go_enter Tryz.func36, Tryz.ntmps36
  go_wp2
  go_region_held3 (fun W => Below w.heap.size w W) (first | assumption | exact below_new (by assumption) _)
    (first | (go_at_call 75; (with_reducible refine Calls.mono (q1.out _ C0) ?_); rintro e w1 ⟨N1, rfl, P1, B1⟩; have S1 := below_then S0 B1; have C1 := lt_later C0 B1; have M1 := made_cons M0 B1 P1) | (go_at_call 76; (with_reducible refine Calls.mono (q2.out _ C1) ?_); rintro e w2 ⟨N2, rfl, P2, B2⟩; have S2 := below_then S1 B2; have C2 := lt_later C1 B2; have M2 := made_cons M1 B2 P2) | (go_at_call 75; (with_reducible refine Calls.mono (q3.out _ C2) ?_); rintro e w3 ⟨N3, rfl, P3, B3⟩; have S3 := below_then S2 B3; have C3 := lt_later C2 B3; have M3 := made_cons M2 B3 P3))
  all_goals
    go_wp2
    go_ret
    refine ⟨w3.heap.size, [.func (.func 107) #[] N1, .func (.func 109) #[] N2, .func (.func 107) #[] N3], rfl, by omega, rfl, ?_, ?_, below_new S3 _⟩
    · intro i h
      have hc : i = 0 ∨ i = 1 ∨ i = 2 := by simp only [List.length_cons, List.length_nil] at h; omega
      rcases hc with e | e | e <;> subst e <;> simp [go_sem]
    · intro i h1 h2
      have hc : i = 0 ∨ i = 1 ∨ i = 2 := by simp only [List.length_cons, List.length_nil] at h1; omega
      rcases hc with e | e | e
      · subst e; exact (M3 _ (List.Mem.tail _ (List.Mem.tail _ (List.Mem.head _)))).grown (grown_alloc _ _ C)
      · subst e; exact (M3 _ (List.Mem.tail _ (List.Mem.head _))).grown (grown_alloc _ _ C)
      · subst e; exact (M3 _ (List.Mem.head _)).grown (grown_alloc _ _ C)
set_option maxRecDepth 100000 in
set_option maxHeartbeats 8000000 in
theorem local_any (C : Nat) (w : World) (hC : C < w.heap.size) : Calls Tryz.prog 35 #[.pointer (some ⟨C, 0, none⟩)] w fun e w' =>
    ∃ (S : Nat) (fs : List Value), e = .returned (.slice (some ⟨S, 0, none⟩) 13 13) ∧ S ≠ C ∧ fs.length = 13 ∧ (∀ (i : Nat) (h : i < fs.length), w'.cell? ⟨S, i, none⟩ = some fs[i]) ∧ (∀ (i : Nat) (h1 : i < fs.length) (h2 : i < locP.length), PcAt C w' fs[i] locP[i]) ∧ Below w.heap.size w w' := by
  have hmf : ∀ (fn : Fn) (first cap : Array Value) (w : World), (Instr.makeFunc fn first cap).run Tryz.prog w = .ok (.func fn first cap) w := fun _ _ _ _ => rfl
  have q1 : Hid (∀ W, C < W.heap.size → Calls Tryz.prog 75 #[.int .i64 4, .int .i64 0, .int .i64 9999, .pointer (some ⟨C, 0, none⟩)] W fun e w' => ∃ cap, e = .returned (.func (.func 107) #[] cap) ∧ PcAt C w' (.func (.func 107) #[] cap) (numPc 4 0 9999 (setC 0)) ∧ Below W.heap.size W w') := fun W h => number_e C 4 0 0 9999 W h (by omega) (by omega)
  have q2 : Hid (∀ W, C < W.heap.size → Calls Tryz.prog 76 #[.string ⟨#[45]⟩] W fun e w' => ∃ cap, e = .returned (.func (.func 109) #[] cap) ∧ PcAt C w' (.func (.func 109) #[] cap) (letPc 45) ∧ Below W.heap.size W w') := fun W h => letter_e C 45 W h
  have q3 : Hid (∀ W, C < W.heap.size → Calls Tryz.prog 75 #[.int .i64 2, .int .i64 1, .int .i64 12, .pointer (some ⟨C, 1, none⟩)] W fun e w' => ∃ cap, e = .returned (.func (.func 107) #[] cap) ∧ PcAt C w' (.func (.func 107) #[] cap) (numPc 2 1 12 (setC 1)) ∧ Below W.heap.size W w') := fun W h => number_e C 2 1 1 12 W h (by omega) (by omega)
  have q4 : Hid (∀ W, C < W.heap.size → Calls Tryz.prog 76 #[.string ⟨#[45]⟩] W fun e w' => ∃ cap, e = .returned (.func (.func 109) #[] cap) ∧ PcAt C w' (.func (.func 109) #[] cap) (letPc 45) ∧ Below W.heap.size W w') := fun W h => letter_e C 45 W h
  have q5 : Hid (∀ W, C < W.heap.size → Calls Tryz.prog 76 #[.string ⟨#[84]⟩] W fun e w' => ∃ cap, e = .returned (.func (.func 109) #[] cap) ∧ PcAt C w' (.func (.func 109) #[] cap) (letPc 84) ∧ Below W.heap.size W w') := fun W h => letter_e C 84 W h
  have q6 : Hid (∀ W, C < W.heap.size → Calls Tryz.prog 75 #[.int .i64 2, .int .i64 0, .int .i64 23, .pointer (some ⟨C, 3, none⟩)] W fun e w' => ∃ cap, e = .returned (.func (.func 107) #[] cap) ∧ PcAt C w' (.func (.func 107) #[] cap) (numPc 2 0 23 (setC 3)) ∧ Below W.heap.size W w') := fun W h => number_e C 2 3 0 23 W h (by omega) (by omega)
  have q7 : Hid (∀ W, C < W.heap.size → Calls Tryz.prog 76 #[.string ⟨#[58]⟩] W fun e w' => ∃ cap, e = .returned (.func (.func 109) #[] cap) ∧ PcAt C w' (.func (.func 109) #[] cap) (letPc 58) ∧ Below W.heap.size W w') := fun W h => letter_e C 58 W h
  have q8 : Hid (∀ W, C < W.heap.size → Calls Tryz.prog 75 #[.int .i64 2, .int .i64 0, .int .i64 59, .pointer (some ⟨C, 4, none⟩)] W fun e w' => ∃ cap, e = .returned (.func (.func 107) #[] cap) ∧ PcAt C w' (.func (.func 107) #[] cap) (numPc 2 0 59 (setC 4)) ∧ Below W.heap.size W w') := fun W h => number_e C 2 4 0 59 W h (by omega) (by omega)
  have q9 : Hid (∀ W, C < W.heap.size → Calls Tryz.prog 76 #[.string ⟨#[58]⟩] W fun e w' => ∃ cap, e = .returned (.func (.func 109) #[] cap) ∧ PcAt C w' (.func (.func 109) #[] cap) (letPc 58) ∧ Below W.heap.size W w') := fun W h => letter_e C 58 W h
  have q10 : Hid (∀ W, C < W.heap.size → Calls Tryz.prog 75 #[.int .i64 2, .int .i64 0, .int .i64 59, .pointer (some ⟨C, 5, none⟩)] W fun e w' => ∃ cap, e = .returned (.func (.func 107) #[] cap) ∧ PcAt C w' (.func (.func 107) #[] cap) (numPc 2 0 59 (setC 5)) ∧ Below W.heap.size W w') := fun W h => number_e C 2 5 0 59 W h (by omega) (by omega)
  have S0 : Below w.heap.size w w.drew := (Below.refl w.heap.size w).drew
  have C0 : C < w.drew.heap.size := hC
  have M0 : MADE C w.drew [] := fun x hx => by cases hx
  go_enter Tryz.func35, Tryz.ntmps35
  go_wp2
  refine wp_region_held_drew (S := fun W => Below w.heap.size w W) (by kernel_rfl) S0 (fun hHeld => ?_)
  refine wpAnyH_take (i := 14) (oi := { dst := some 17, op := Op.move (Operand.tmp 0), type := 137, pos := "time.go:72", after := #[], guard := none }) (v := ?_) rfl (by kernel_rfl) (by kernel_rfl) (by kernel_rfl) (fun _ _ _ h => h) (Or.inl ⟨by rfl, ?_⟩) (by with_reducible assumption) ?_
  rotate_left 1
  · (intro w0 hSw; (try dsimp only at hSw); go_simp; try with_reducible rfl)
  (try simp only [Act.put, List.setIfInBounds_toArray, List.set_cons_zero, List.set_cons_succ])
  refine wpAnyH_take (i := 15) (oi := { dst := some 18, op := Op.makeFunc (Fn.func 77) #[Operand.tmp 17] #[], type := 134, pos := "time.go:72", after := #[{ on := 14, ground := Ground.data }], guard := none }) (v := ?_) rfl (by kernel_rfl) (by kernel_rfl) (by kernel_rfl) (fun _ _ _ h => h) (Or.inl ⟨by rfl, ?_⟩) (by with_reducible assumption) ?_
  rotate_left 1
  · (intro w0 hSw; (try dsimp only at hSw); go_simp; try with_reducible rfl)
  (try simp only [Act.put, List.setIfInBounds_toArray, List.set_cons_zero, List.set_cons_succ])
  refine wpAnyH_take (i := 38) (oi := { dst := some 41, op := Op.move (Operand.tmp 0), type := 137, pos := "time.go:72", after := #[], guard := none }) (v := ?_) rfl (by kernel_rfl) (by kernel_rfl) (by kernel_rfl) (fun _ _ _ h => h) (Or.inl ⟨by rfl, ?_⟩) (by with_reducible assumption) ?_
  rotate_left 1
  · (intro w0 hSw; (try dsimp only at hSw); go_simp; try with_reducible rfl)
  (try simp only [Act.put, List.setIfInBounds_toArray, List.set_cons_zero, List.set_cons_succ])
  refine wpAnyH_take (i := 39) (oi := { dst := some 42, op := Op.makeFunc (Fn.func 78) #[Operand.tmp 41] #[], type := 134, pos := "time.go:72", after := #[{ on := 38, ground := Ground.data }], guard := none }) (v := ?_) rfl (by kernel_rfl) (by kernel_rfl) (by kernel_rfl) (fun _ _ _ h => h) (Or.inl ⟨by rfl, ?_⟩) (by with_reducible assumption) ?_
  rotate_left 1
  · (intro w0 hSw; (try dsimp only at hSw); go_simp; try with_reducible rfl)
  (try simp only [Act.put, List.setIfInBounds_toArray, List.set_cons_zero, List.set_cons_succ])
  refine wpAnyH_take (i := 41) (oi := { dst := some 44, op := Op.move (Operand.tmp 0), type := 137, pos := "time.go:72", after := #[], guard := none }) (v := ?_) rfl (by kernel_rfl) (by kernel_rfl) (by kernel_rfl) (fun _ _ _ h => h) (Or.inl ⟨by rfl, ?_⟩) (by with_reducible assumption) ?_
  rotate_left 1
  · (intro w0 hSw; (try dsimp only at hSw); go_simp; try with_reducible rfl)
  (try simp only [Act.put, List.setIfInBounds_toArray, List.set_cons_zero, List.set_cons_succ])
  refine wpAnyH_take (i := 42) (oi := { dst := some 45, op := Op.makeFunc (Fn.func 79) #[Operand.tmp 44] #[], type := 134, pos := "time.go:72", after := #[{ on := 41, ground := Ground.data }], guard := none }) (v := ?_) rfl (by kernel_rfl) (by kernel_rfl) (by kernel_rfl) (fun _ _ _ h => h) (Or.inl ⟨by rfl, ?_⟩) (by with_reducible assumption) ?_
  rotate_left 1
  · (intro w0 hSw; (try dsimp only at hSw); go_simp; try with_reducible rfl)
  (try simp only [Act.put, List.setIfInBounds_toArray, List.set_cons_zero, List.set_cons_succ])
  refine wpAnyH_take (i := 0) (oi := { dst := some 3, op := Op.move (Operand.tmp 0), type := 137, pos := "time.go:72", after := #[], guard := none }) (v := ?_) rfl (by kernel_rfl) (by kernel_rfl) (by kernel_rfl) (fun _ _ _ h => h) (Or.inl ⟨by rfl, ?_⟩) (by with_reducible assumption) ?_
  rotate_left 1
  · (intro w0 hSw; (try dsimp only at hSw); go_simp; try with_reducible rfl)
  (try simp only [Act.put, List.setIfInBounds_toArray, List.set_cons_zero, List.set_cons_succ])
  refine wpAnyH_take (i := 1) (oi := { dst := some 4, op := Op.nilCheck (Operand.tmp 3), type := 0, pos := "time.go:72", after := #[{ on := 0, ground := Ground.data }], guard := none }) (v := ?_) rfl (by kernel_rfl) (by kernel_rfl) (by kernel_rfl) (fun _ _ _ h => h) (Or.inl ⟨by rfl, ?_⟩) (by with_reducible assumption) ?_
  rotate_left 1
  · (intro w0 hSw; (try dsimp only at hSw); go_simp; try with_reducible rfl)
  (try simp only [Act.put, List.setIfInBounds_toArray, List.set_cons_zero, List.set_cons_succ])
  refine wpAnyH_take (i := 2) (oi := { dst := some 5, op := Op.fieldAddr 78 (Operand.tmp 4) 0, type := 0, pos := "time.go:72", after := #[{ on := 1, ground := Ground.data }], guard := none }) (v := ?_) rfl (by kernel_rfl) (by kernel_rfl) (by kernel_rfl) (fun _ _ _ h => h) (Or.inl ⟨by rfl, ?_⟩) (by with_reducible assumption) ?_
  rotate_left 1
  · (intro w0 hSw; (try dsimp only at hSw); go_simp; try with_reducible rfl)
  (try simp only [Act.put, List.setIfInBounds_toArray, List.set_cons_zero, List.set_cons_succ])
  refine wpAnyH_take (i := 7) (oi := { dst := some 10, op := Op.move (Operand.tmp 0), type := 137, pos := "time.go:72", after := #[], guard := none }) (v := ?_) rfl (by kernel_rfl) (by kernel_rfl) (by kernel_rfl) (fun _ _ _ h => h) (Or.inl ⟨by rfl, ?_⟩) (by with_reducible assumption) ?_
  rotate_left 1
  · (intro w0 hSw; (try dsimp only at hSw); go_simp; try with_reducible rfl)
  (try simp only [Act.put, List.setIfInBounds_toArray, List.set_cons_zero, List.set_cons_succ])
  refine wpAnyH_take (i := 8) (oi := { dst := some 11, op := Op.nilCheck (Operand.tmp 10), type := 0, pos := "time.go:72", after := #[{ on := 7, ground := Ground.data }], guard := none }) (v := ?_) rfl (by kernel_rfl) (by kernel_rfl) (by kernel_rfl) (fun _ _ _ h => h) (Or.inl ⟨by rfl, ?_⟩) (by with_reducible assumption) ?_
  rotate_left 1
  · (intro w0 hSw; (try dsimp only at hSw); go_simp; try with_reducible rfl)
  (try simp only [Act.put, List.setIfInBounds_toArray, List.set_cons_zero, List.set_cons_succ])
  refine wpAnyH_take (i := 9) (oi := { dst := some 12, op := Op.fieldAddr 78 (Operand.tmp 11) 1, type := 0, pos := "time.go:72", after := #[{ on := 8, ground := Ground.data }], guard := none }) (v := ?_) rfl (by kernel_rfl) (by kernel_rfl) (by kernel_rfl) (fun _ _ _ h => h) (Or.inl ⟨by rfl, ?_⟩) (by with_reducible assumption) ?_
  rotate_left 1
  · (intro w0 hSw; (try dsimp only at hSw); go_simp; try with_reducible rfl)
  (try simp only [Act.put, List.setIfInBounds_toArray, List.set_cons_zero, List.set_cons_succ])
  refine wpAnyH_take (i := 16) (oi := { dst := some 19, op := Op.build 136 #[(0, Operand.tmp 18)], type := 136, pos := "time.go:72", after := #[{ on := 15, ground := Ground.data }], guard := none }) (v := ?_) rfl (by kernel_rfl) (by kernel_rfl) (by kernel_rfl) (fun _ _ _ h => h) (Or.inl ⟨by rfl, ?_⟩) (by with_reducible assumption) ?_
  rotate_left 1
  · (intro w0 hSw; (try dsimp only at hSw); go_simp; try with_reducible rfl)
  (try simp only [Act.put, List.setIfInBounds_toArray, List.set_cons_zero, List.set_cons_succ])
  refine wpAnyH_take (i := 19) (oi := { dst := some 22, op := Op.move (Operand.tmp 0), type := 137, pos := "time.go:72", after := #[], guard := none }) (v := ?_) rfl (by kernel_rfl) (by kernel_rfl) (by kernel_rfl) (fun _ _ _ h => h) (Or.inl ⟨by rfl, ?_⟩) (by with_reducible assumption) ?_
  rotate_left 1
  · (intro w0 hSw; (try dsimp only at hSw); go_simp; try with_reducible rfl)
  (try simp only [Act.put, List.setIfInBounds_toArray, List.set_cons_zero, List.set_cons_succ])
  refine wpAnyH_take (i := 20) (oi := { dst := some 23, op := Op.nilCheck (Operand.tmp 22), type := 0, pos := "time.go:72", after := #[{ on := 19, ground := Ground.data }], guard := none }) (v := ?_) rfl (by kernel_rfl) (by kernel_rfl) (by kernel_rfl) (fun _ _ _ h => h) (Or.inl ⟨by rfl, ?_⟩) (by with_reducible assumption) ?_
  rotate_left 1
  · (intro w0 hSw; (try dsimp only at hSw); go_simp; try with_reducible rfl)
  (try simp only [Act.put, List.setIfInBounds_toArray, List.set_cons_zero, List.set_cons_succ])
  refine wpAnyH_take (i := 21) (oi := { dst := some 24, op := Op.fieldAddr 78 (Operand.tmp 23) 3, type := 0, pos := "time.go:72", after := #[{ on := 20, ground := Ground.data }], guard := none }) (v := ?_) rfl (by kernel_rfl) (by kernel_rfl) (by kernel_rfl) (fun _ _ _ h => h) (Or.inl ⟨by rfl, ?_⟩) (by with_reducible assumption) ?_
  rotate_left 1
  · (intro w0 hSw; (try dsimp only at hSw); go_simp; try with_reducible rfl)
  (try simp only [Act.put, List.setIfInBounds_toArray, List.set_cons_zero, List.set_cons_succ])
  refine wpAnyH_take (i := 26) (oi := { dst := some 29, op := Op.move (Operand.tmp 0), type := 137, pos := "time.go:72", after := #[], guard := none }) (v := ?_) rfl (by kernel_rfl) (by kernel_rfl) (by kernel_rfl) (fun _ _ _ h => h) (Or.inl ⟨by rfl, ?_⟩) (by with_reducible assumption) ?_
  rotate_left 1
  · (intro w0 hSw; (try dsimp only at hSw); go_simp; try with_reducible rfl)
  (try simp only [Act.put, List.setIfInBounds_toArray, List.set_cons_zero, List.set_cons_succ])
  refine wpAnyH_take (i := 27) (oi := { dst := some 30, op := Op.nilCheck (Operand.tmp 29), type := 0, pos := "time.go:72", after := #[{ on := 26, ground := Ground.data }], guard := none }) (v := ?_) rfl (by kernel_rfl) (by kernel_rfl) (by kernel_rfl) (fun _ _ _ h => h) (Or.inl ⟨by rfl, ?_⟩) (by with_reducible assumption) ?_
  rotate_left 1
  · (intro w0 hSw; (try dsimp only at hSw); go_simp; try with_reducible rfl)
  (try simp only [Act.put, List.setIfInBounds_toArray, List.set_cons_zero, List.set_cons_succ])
  refine wpAnyH_take (i := 28) (oi := { dst := some 31, op := Op.fieldAddr 78 (Operand.tmp 30) 4, type := 0, pos := "time.go:72", after := #[{ on := 27, ground := Ground.data }], guard := none }) (v := ?_) rfl (by kernel_rfl) (by kernel_rfl) (by kernel_rfl) (fun _ _ _ h => h) (Or.inl ⟨by rfl, ?_⟩) (by with_reducible assumption) ?_
  rotate_left 1
  · (intro w0 hSw; (try dsimp only at hSw); go_simp; try with_reducible rfl)
  (try simp only [Act.put, List.setIfInBounds_toArray, List.set_cons_zero, List.set_cons_succ])
  refine wpAnyH_take (i := 33) (oi := { dst := some 36, op := Op.move (Operand.tmp 0), type := 137, pos := "time.go:72", after := #[], guard := none }) (v := ?_) rfl (by kernel_rfl) (by kernel_rfl) (by kernel_rfl) (fun _ _ _ h => h) (Or.inl ⟨by rfl, ?_⟩) (by with_reducible assumption) ?_
  rotate_left 1
  · (intro w0 hSw; (try dsimp only at hSw); go_simp; try with_reducible rfl)
  (try simp only [Act.put, List.setIfInBounds_toArray, List.set_cons_zero, List.set_cons_succ])
  refine wpAnyH_take (i := 34) (oi := { dst := some 37, op := Op.nilCheck (Operand.tmp 36), type := 0, pos := "time.go:72", after := #[{ on := 33, ground := Ground.data }], guard := none }) (v := ?_) rfl (by kernel_rfl) (by kernel_rfl) (by kernel_rfl) (fun _ _ _ h => h) (Or.inl ⟨by rfl, ?_⟩) (by with_reducible assumption) ?_
  rotate_left 1
  · (intro w0 hSw; (try dsimp only at hSw); go_simp; try with_reducible rfl)
  (try simp only [Act.put, List.setIfInBounds_toArray, List.set_cons_zero, List.set_cons_succ])
  refine wpAnyH_take (i := 35) (oi := { dst := some 38, op := Op.fieldAddr 78 (Operand.tmp 37) 5, type := 0, pos := "time.go:72", after := #[{ on := 34, ground := Ground.data }], guard := none }) (v := ?_) rfl (by kernel_rfl) (by kernel_rfl) (by kernel_rfl) (fun _ _ _ h => h) (Or.inl ⟨by rfl, ?_⟩) (by with_reducible assumption) ?_
  rotate_left 1
  · (intro w0 hSw; (try dsimp only at hSw); go_simp; try with_reducible rfl)
  (try simp only [Act.put, List.setIfInBounds_toArray, List.set_cons_zero, List.set_cons_succ])
  refine wpAnyH_take (i := 40) (oi := { dst := some 43, op := Op.build 136 #[(0, Operand.tmp 42)], type := 136, pos := "time.go:72", after := #[{ on := 39, ground := Ground.data }], guard := none }) (v := ?_) rfl (by kernel_rfl) (by kernel_rfl) (by kernel_rfl) (fun _ _ _ h => h) (Or.inl ⟨by rfl, ?_⟩) (by with_reducible assumption) ?_
  rotate_left 1
  · (intro w0 hSw; (try dsimp only at hSw); go_simp; try with_reducible rfl)
  (try simp only [Act.put, List.setIfInBounds_toArray, List.set_cons_zero, List.set_cons_succ])
  refine wpAnyH_take (i := 43) (oi := { dst := some 46, op := Op.build 136 #[(0, Operand.tmp 45)], type := 136, pos := "time.go:72", after := #[{ on := 42, ground := Ground.data }], guard := none }) (v := ?_) rfl (by kernel_rfl) (by kernel_rfl) (by kernel_rfl) (fun _ _ _ h => h) (Or.inl ⟨by rfl, ?_⟩) (by with_reducible assumption) ?_
  rotate_left 1
  · (intro w0 hSw; (try dsimp only at hSw); go_simp; try with_reducible rfl)
  (try simp only [Act.put, List.setIfInBounds_toArray, List.set_cons_zero, List.set_cons_succ])
  refine wpAnyH_ready (rs := [3]) (by kernel_rfl) (by simp) ?_
  refine AllReadyH.cons (o := { dst := some 6, op := Op.call { callee := Callee.value (Operand.func 75), args := #[Operand.const (Value.int IntKind.i64 4), Operand.const (Value.int IntKind.i64 0), Operand.const (Value.int IntKind.i64 9999), Operand.tmp 5], argTypes := #[3, 3, 3, 139] }, type := 134, pos := "time.go:73", after := #[{ on := 2, ground := Ground.data }], guard := none }) rfl (fun K hK => ?_) AllReadyH.nil
  go_simp
  go_at_call 75
  with_reducible refine Calls.mono (q1.out _ C0) ?_
  rintro e w1 ⟨N1, rfl, P1, B1⟩
  have S1 := below_then S0 B1
  have C1 := lt_later C0 B1
  have M1 := made_cons M0 B1 P1
  clear hHeld S0 C0 M0 B1 P1
  try dsimp only
  refine hK.out _ _ S1 (fun hHeld => ?_)
  clear hK K
  (try simp only [Act.put, List.setIfInBounds_toArray, List.set_cons_zero, List.set_cons_succ])
  refine wpAnyH_take (i := 4) (oi := { dst := some 7, op := Op.build 136 #[(0, Operand.tmp 6)], type := 136, pos := "time.go:72", after := #[{ on := 3, ground := Ground.data }], guard := none }) (v := ?_) rfl (by kernel_rfl) (by kernel_rfl) (by kernel_rfl) (fun _ _ _ h => h) (Or.inl ⟨by rfl, ?_⟩) (by with_reducible assumption) ?_
  rotate_left 1
  · (intro w0 hSw; (try dsimp only at hSw); go_simp; try with_reducible rfl)
  (try simp only [Act.put, List.setIfInBounds_toArray, List.set_cons_zero, List.set_cons_succ])
  refine wpAnyH_ready (rs := [5]) (by kernel_rfl) (by simp) ?_
  refine AllReadyH.cons (o := { dst := some 8, op := Op.call { callee := Callee.value (Operand.func 76), args := #[Operand.const (Value.string { data := #[45] })], argTypes := #[9] }, type := 134, pos := "time.go:74", after := #[{ on := 3, ground := Ground.chain }], guard := none }) rfl (fun K hK => ?_) AllReadyH.nil
  go_simp
  go_at_call 76
  with_reducible refine Calls.mono (q2.out _ C1) ?_
  rintro e w2 ⟨N2, rfl, P2, B2⟩
  have S2 := below_then S1 B2
  have C2 := lt_later C1 B2
  have M2 := made_cons M1 B2 P2
  clear hHeld S1 C1 M1 B2 P2
  try dsimp only
  refine hK.out _ _ S2 (fun hHeld => ?_)
  clear hK K
  (try simp only [Act.put, List.setIfInBounds_toArray, List.set_cons_zero, List.set_cons_succ])
  refine wpAnyH_take (i := 6) (oi := { dst := some 9, op := Op.build 136 #[(0, Operand.tmp 8)], type := 136, pos := "time.go:72", after := #[{ on := 5, ground := Ground.data }], guard := none }) (v := ?_) rfl (by kernel_rfl) (by kernel_rfl) (by kernel_rfl) (fun _ _ _ h => h) (Or.inl ⟨by rfl, ?_⟩) (by with_reducible assumption) ?_
  rotate_left 1
  · (intro w0 hSw; (try dsimp only at hSw); go_simp; try with_reducible rfl)
  (try simp only [Act.put, List.setIfInBounds_toArray, List.set_cons_zero, List.set_cons_succ])
  refine wpAnyH_ready (rs := [10]) (by kernel_rfl) (by simp) ?_
  refine AllReadyH.cons (o := { dst := some 13, op := Op.call { callee := Callee.value (Operand.func 75), args := #[Operand.const (Value.int IntKind.i64 2), Operand.const (Value.int IntKind.i64 1), Operand.const (Value.int IntKind.i64 12), Operand.tmp 12], argTypes := #[3, 3, 3, 139] }, type := 134, pos := "time.go:75", after := #[{ on := 9, ground := Ground.data }, { on := 5, ground := Ground.chain }], guard := none }) rfl (fun K hK => ?_) AllReadyH.nil
  go_simp
  go_at_call 75
  with_reducible refine Calls.mono (q3.out _ C2) ?_
  rintro e w3 ⟨N3, rfl, P3, B3⟩
  have S3 := below_then S2 B3
  have C3 := lt_later C2 B3
  have M3 := made_cons M2 B3 P3
  clear hHeld S2 C2 M2 B3 P3
  try dsimp only
  refine hK.out _ _ S3 (fun hHeld => ?_)
  clear hK K
  (try simp only [Act.put, List.setIfInBounds_toArray, List.set_cons_zero, List.set_cons_succ])
  refine wpAnyH_take (i := 11) (oi := { dst := some 14, op := Op.build 136 #[(0, Operand.tmp 13)], type := 136, pos := "time.go:72", after := #[{ on := 10, ground := Ground.data }], guard := none }) (v := ?_) rfl (by kernel_rfl) (by kernel_rfl) (by kernel_rfl) (fun _ _ _ h => h) (Or.inl ⟨by rfl, ?_⟩) (by with_reducible assumption) ?_
  rotate_left 1
  · (intro w0 hSw; (try dsimp only at hSw); go_simp; try with_reducible rfl)
  (try simp only [Act.put, List.setIfInBounds_toArray, List.set_cons_zero, List.set_cons_succ])
  refine wpAnyH_ready (rs := [12]) (by kernel_rfl) (by simp) ?_
  refine AllReadyH.cons (o := { dst := some 15, op := Op.call { callee := Callee.value (Operand.func 76), args := #[Operand.const (Value.string { data := #[45] })], argTypes := #[9] }, type := 134, pos := "time.go:76", after := #[{ on := 10, ground := Ground.chain }], guard := none }) rfl (fun K hK => ?_) AllReadyH.nil
  go_simp
  go_at_call 76
  with_reducible refine Calls.mono (q4.out _ C3) ?_
  rintro e w4 ⟨N4, rfl, P4, B4⟩
  have S4 := below_then S3 B4
  have C4 := lt_later C3 B4
  have M4 := made_cons M3 B4 P4
  clear hHeld S3 C3 M3 B4 P4
  try dsimp only
  refine hK.out _ _ S4 (fun hHeld => ?_)
  clear hK K
  (try simp only [Act.put, List.setIfInBounds_toArray, List.set_cons_zero, List.set_cons_succ])
  refine wpAnyH_take (i := 13) (oi := { dst := some 16, op := Op.build 136 #[(0, Operand.tmp 15)], type := 136, pos := "time.go:72", after := #[{ on := 12, ground := Ground.data }], guard := none }) (v := ?_) rfl (by kernel_rfl) (by kernel_rfl) (by kernel_rfl) (fun _ _ _ h => h) (Or.inl ⟨by rfl, ?_⟩) (by with_reducible assumption) ?_
  rotate_left 1
  · (intro w0 hSw; (try dsimp only at hSw); go_simp; try with_reducible rfl)
  (try simp only [Act.put, List.setIfInBounds_toArray, List.set_cons_zero, List.set_cons_succ])
  refine wpAnyH_ready (rs := [17]) (by kernel_rfl) (by simp) ?_
  refine AllReadyH.cons (o := { dst := some 20, op := Op.call { callee := Callee.value (Operand.func 76), args := #[Operand.const (Value.string { data := #[84] })], argTypes := #[9] }, type := 134, pos := "time.go:78", after := #[{ on := 12, ground := Ground.chain }], guard := none }) rfl (fun K hK => ?_) AllReadyH.nil
  go_simp
  go_at_call 76
  with_reducible refine Calls.mono (q5.out _ C4) ?_
  rintro e w5 ⟨N5, rfl, P5, B5⟩
  have S5 := below_then S4 B5
  have C5 := lt_later C4 B5
  have M5 := made_cons M4 B5 P5
  clear hHeld S4 C4 M4 B5 P5
  try dsimp only
  refine hK.out _ _ S5 (fun hHeld => ?_)
  clear hK K
  (try simp only [Act.put, List.setIfInBounds_toArray, List.set_cons_zero, List.set_cons_succ])
  refine wpAnyH_take (i := 18) (oi := { dst := some 21, op := Op.build 136 #[(0, Operand.tmp 20)], type := 136, pos := "time.go:72", after := #[{ on := 17, ground := Ground.data }], guard := none }) (v := ?_) rfl (by kernel_rfl) (by kernel_rfl) (by kernel_rfl) (fun _ _ _ h => h) (Or.inl ⟨by rfl, ?_⟩) (by with_reducible assumption) ?_
  rotate_left 1
  · (intro w0 hSw; (try dsimp only at hSw); go_simp; try with_reducible rfl)
  (try simp only [Act.put, List.setIfInBounds_toArray, List.set_cons_zero, List.set_cons_succ])
  refine wpAnyH_ready (rs := [22]) (by kernel_rfl) (by simp) ?_
  refine AllReadyH.cons (o := { dst := some 25, op := Op.call { callee := Callee.value (Operand.func 75), args := #[Operand.const (Value.int IntKind.i64 2), Operand.const (Value.int IntKind.i64 0), Operand.const (Value.int IntKind.i64 23), Operand.tmp 24], argTypes := #[3, 3, 3, 139] }, type := 134, pos := "time.go:79", after := #[{ on := 21, ground := Ground.data }, { on := 17, ground := Ground.chain }], guard := none }) rfl (fun K hK => ?_) AllReadyH.nil
  go_simp
  go_at_call 75
  with_reducible refine Calls.mono (q6.out _ C5) ?_
  rintro e w6 ⟨N6, rfl, P6, B6⟩
  have S6 := below_then S5 B6
  have C6 := lt_later C5 B6
  have M6 := made_cons M5 B6 P6
  clear hHeld S5 C5 M5 B6 P6
  try dsimp only
  refine hK.out _ _ S6 (fun hHeld => ?_)
  clear hK K
  (try simp only [Act.put, List.setIfInBounds_toArray, List.set_cons_zero, List.set_cons_succ])
  refine wpAnyH_take (i := 23) (oi := { dst := some 26, op := Op.build 136 #[(0, Operand.tmp 25)], type := 136, pos := "time.go:72", after := #[{ on := 22, ground := Ground.data }], guard := none }) (v := ?_) rfl (by kernel_rfl) (by kernel_rfl) (by kernel_rfl) (fun _ _ _ h => h) (Or.inl ⟨by rfl, ?_⟩) (by with_reducible assumption) ?_
  rotate_left 1
  · (intro w0 hSw; (try dsimp only at hSw); go_simp; try with_reducible rfl)
  (try simp only [Act.put, List.setIfInBounds_toArray, List.set_cons_zero, List.set_cons_succ])
  refine wpAnyH_ready (rs := [24]) (by kernel_rfl) (by simp) ?_
  refine AllReadyH.cons (o := { dst := some 27, op := Op.call { callee := Callee.value (Operand.func 76), args := #[Operand.const (Value.string { data := #[58] })], argTypes := #[9] }, type := 134, pos := "time.go:80", after := #[{ on := 22, ground := Ground.chain }], guard := none }) rfl (fun K hK => ?_) AllReadyH.nil
  go_simp
  go_at_call 76
  with_reducible refine Calls.mono (q7.out _ C6) ?_
  rintro e w7 ⟨N7, rfl, P7, B7⟩
  have S7 := below_then S6 B7
  have C7 := lt_later C6 B7
  have M7 := made_cons M6 B7 P7
  clear hHeld S6 C6 M6 B7 P7
  try dsimp only
  refine hK.out _ _ S7 (fun hHeld => ?_)
  clear hK K
  (try simp only [Act.put, List.setIfInBounds_toArray, List.set_cons_zero, List.set_cons_succ])
  refine wpAnyH_take (i := 25) (oi := { dst := some 28, op := Op.build 136 #[(0, Operand.tmp 27)], type := 136, pos := "time.go:72", after := #[{ on := 24, ground := Ground.data }], guard := none }) (v := ?_) rfl (by kernel_rfl) (by kernel_rfl) (by kernel_rfl) (fun _ _ _ h => h) (Or.inl ⟨by rfl, ?_⟩) (by with_reducible assumption) ?_
  rotate_left 1
  · (intro w0 hSw; (try dsimp only at hSw); go_simp; try with_reducible rfl)
  (try simp only [Act.put, List.setIfInBounds_toArray, List.set_cons_zero, List.set_cons_succ])
  refine wpAnyH_ready (rs := [29]) (by kernel_rfl) (by simp) ?_
  refine AllReadyH.cons (o := { dst := some 32, op := Op.call { callee := Callee.value (Operand.func 75), args := #[Operand.const (Value.int IntKind.i64 2), Operand.const (Value.int IntKind.i64 0), Operand.const (Value.int IntKind.i64 59), Operand.tmp 31], argTypes := #[3, 3, 3, 139] }, type := 134, pos := "time.go:81", after := #[{ on := 28, ground := Ground.data }, { on := 24, ground := Ground.chain }], guard := none }) rfl (fun K hK => ?_) AllReadyH.nil
  go_simp
  go_at_call 75
  with_reducible refine Calls.mono (q8.out _ C7) ?_
  rintro e w8 ⟨N8, rfl, P8, B8⟩
  have S8 := below_then S7 B8
  have C8 := lt_later C7 B8
  have M8 := made_cons M7 B8 P8
  clear hHeld S7 C7 M7 B8 P8
  try dsimp only
  refine hK.out _ _ S8 (fun hHeld => ?_)
  clear hK K
  (try simp only [Act.put, List.setIfInBounds_toArray, List.set_cons_zero, List.set_cons_succ])
  refine wpAnyH_take (i := 30) (oi := { dst := some 33, op := Op.build 136 #[(0, Operand.tmp 32)], type := 136, pos := "time.go:72", after := #[{ on := 29, ground := Ground.data }], guard := none }) (v := ?_) rfl (by kernel_rfl) (by kernel_rfl) (by kernel_rfl) (fun _ _ _ h => h) (Or.inl ⟨by rfl, ?_⟩) (by with_reducible assumption) ?_
  rotate_left 1
  · (intro w0 hSw; (try dsimp only at hSw); go_simp; try with_reducible rfl)
  (try simp only [Act.put, List.setIfInBounds_toArray, List.set_cons_zero, List.set_cons_succ])
  refine wpAnyH_ready (rs := [31]) (by kernel_rfl) (by simp) ?_
  refine AllReadyH.cons (o := { dst := some 34, op := Op.call { callee := Callee.value (Operand.func 76), args := #[Operand.const (Value.string { data := #[58] })], argTypes := #[9] }, type := 134, pos := "time.go:82", after := #[{ on := 29, ground := Ground.chain }], guard := none }) rfl (fun K hK => ?_) AllReadyH.nil
  go_simp
  go_at_call 76
  with_reducible refine Calls.mono (q9.out _ C8) ?_
  rintro e w9 ⟨N9, rfl, P9, B9⟩
  have S9 := below_then S8 B9
  have C9 := lt_later C8 B9
  have M9 := made_cons M8 B9 P9
  clear hHeld S8 C8 M8 B9 P9
  try dsimp only
  refine hK.out _ _ S9 (fun hHeld => ?_)
  clear hK K
  (try simp only [Act.put, List.setIfInBounds_toArray, List.set_cons_zero, List.set_cons_succ])
  refine wpAnyH_take (i := 32) (oi := { dst := some 35, op := Op.build 136 #[(0, Operand.tmp 34)], type := 136, pos := "time.go:72", after := #[{ on := 31, ground := Ground.data }], guard := none }) (v := ?_) rfl (by kernel_rfl) (by kernel_rfl) (by kernel_rfl) (fun _ _ _ h => h) (Or.inl ⟨by rfl, ?_⟩) (by with_reducible assumption) ?_
  rotate_left 1
  · (intro w0 hSw; (try dsimp only at hSw); go_simp; try with_reducible rfl)
  (try simp only [Act.put, List.setIfInBounds_toArray, List.set_cons_zero, List.set_cons_succ])
  refine wpAnyH_ready (rs := [36]) (by kernel_rfl) (by simp) ?_
  refine AllReadyH.cons (o := { dst := some 39, op := Op.call { callee := Callee.value (Operand.func 75), args := #[Operand.const (Value.int IntKind.i64 2), Operand.const (Value.int IntKind.i64 0), Operand.const (Value.int IntKind.i64 59), Operand.tmp 38], argTypes := #[3, 3, 3, 139] }, type := 134, pos := "time.go:83", after := #[{ on := 35, ground := Ground.data }, { on := 31, ground := Ground.chain }], guard := none }) rfl (fun K hK => ?_) AllReadyH.nil
  go_simp
  go_at_call 75
  with_reducible refine Calls.mono (q10.out _ C9) ?_
  rintro e w10 ⟨N10, rfl, P10, B10⟩
  have S10 := below_then S9 B10
  have C10 := lt_later C9 B10
  have M10 := made_cons M9 B10 P10
  clear hHeld S9 C9 M9 B10 P10
  try dsimp only
  refine hK.out _ _ S10 (fun hHeld => ?_)
  clear hK K
  (try simp only [Act.put, List.setIfInBounds_toArray, List.set_cons_zero, List.set_cons_succ])
  refine wpAnyH_take (i := 37) (oi := { dst := some 40, op := Op.build 136 #[(0, Operand.tmp 39)], type := 136, pos := "time.go:72", after := #[{ on := 36, ground := Ground.data }], guard := none }) (v := ?_) rfl (by kernel_rfl) (by kernel_rfl) (by kernel_rfl) (fun _ _ _ h => h) (Or.inl ⟨by rfl, ?_⟩) (by with_reducible assumption) ?_
  rotate_left 1
  · (intro w0 hSw; (try dsimp only at hSw); go_simp; try with_reducible rfl)
  (try simp only [Act.put, List.setIfInBounds_toArray, List.set_cons_zero, List.set_cons_succ])
  refine wpAnyH_ready (rs := [44]) (by kernel_rfl) (by simp) ?_
  refine AllReadyH.cons (o := { dst := some 47, op := Op.buildSlice 81 13 #[(0, Operand.tmp 7), (1, Operand.tmp 9), (2, Operand.tmp 14), (3, Operand.tmp 16), (4, Operand.tmp 19), (5, Operand.tmp 21), (6, Operand.tmp 26), (7, Operand.tmp 28), (8, Operand.tmp 33), (9, Operand.tmp 35), (10, Operand.tmp 40), (11, Operand.tmp 43), (12, Operand.tmp 46)], type := 81, pos := "time.go:72", after := #[{ on := 4, ground := Ground.data }, { on := 6, ground := Ground.data }, { on := 11, ground := Ground.data }, { on := 13, ground := Ground.data }, { on := 16, ground := Ground.data }, { on := 18, ground := Ground.data }, { on := 23, ground := Ground.data }, { on := 25, ground := Ground.data }, { on := 30, ground := Ground.data }, { on := 32, ground := Ground.data }, { on := 37, ground := Ground.data }, { on := 40, ground := Ground.data }, { on := 43, ground := Ground.data }], guard := none }) rfl (fun K hK => ?_) AllReadyH.nil
  go_simp
  try dsimp only
  refine hK.out _ _ (below_new S10 _) (fun hHeld => ?_)
  clear hK K
  (try simp only [Act.put, List.setIfInBounds_toArray, List.set_cons_zero, List.set_cons_succ])
  refine wpAnyH_take (i := 45) (oi := { dst := some 2, op := Op.assign (Operand.tmp 47), type := 81, pos := "time.go:72", after := #[{ on := 44, ground := Ground.data }, { on := 36, ground := Ground.chain }, { on := 0, ground := Ground.phase }, { on := 1, ground := Ground.phase }, { on := 2, ground := Ground.phase }, { on := 3, ground := Ground.phase }, { on := 4, ground := Ground.phase }, { on := 5, ground := Ground.phase }, { on := 6, ground := Ground.phase }, { on := 7, ground := Ground.phase }, { on := 8, ground := Ground.phase }, { on := 9, ground := Ground.phase }, { on := 10, ground := Ground.phase }, { on := 11, ground := Ground.phase }, { on := 12, ground := Ground.phase }, { on := 13, ground := Ground.phase }, { on := 14, ground := Ground.phase }, { on := 15, ground := Ground.phase }, { on := 16, ground := Ground.phase }, { on := 17, ground := Ground.phase }, { on := 18, ground := Ground.phase }, { on := 19, ground := Ground.phase }, { on := 20, ground := Ground.phase }, { on := 21, ground := Ground.phase }, { on := 22, ground := Ground.phase }, { on := 23, ground := Ground.phase }, { on := 24, ground := Ground.phase }, { on := 25, ground := Ground.phase }, { on := 26, ground := Ground.phase }, { on := 27, ground := Ground.phase }, { on := 28, ground := Ground.phase }, { on := 29, ground := Ground.phase }, { on := 30, ground := Ground.phase }, { on := 31, ground := Ground.phase }, { on := 32, ground := Ground.phase }, { on := 33, ground := Ground.phase }, { on := 34, ground := Ground.phase }, { on := 35, ground := Ground.phase }, { on := 36, ground := Ground.phase }, { on := 37, ground := Ground.phase }, { on := 38, ground := Ground.phase }, { on := 39, ground := Ground.phase }, { on := 40, ground := Ground.phase }, { on := 41, ground := Ground.phase }, { on := 42, ground := Ground.phase }, { on := 43, ground := Ground.phase }, { on := 44, ground := Ground.phase }], guard := none }) (v := ?_) rfl (by kernel_rfl) (by kernel_rfl) (by kernel_rfl) (fun _ _ _ h => h) (Or.inl ⟨by rfl, ?_⟩) (by with_reducible assumption) ?_
  rotate_left 1
  · (intro w0 hSw; (try dsimp only at hSw); go_simp; try with_reducible rfl)
  (try simp only [Act.put, List.setIfInBounds_toArray, List.set_cons_zero, List.set_cons_succ])
  refine wpAnyH_done (by kernel_rfl) ?_ _
  clear hHeld
  all_goals
    go_wp2
    go_ret
    refine ⟨w10.heap.size, [.func (.func 107) #[] N1, .func (.func 109) #[] N2, .func (.func 107) #[] N3, .func (.func 109) #[] N4, .func (.func 77) #[.pointer (some ⟨C, 0, none⟩)] #[], .func (.func 109) #[] N5, .func (.func 107) #[] N6, .func (.func 109) #[] N7, .func (.func 107) #[] N8, .func (.func 109) #[] N9, .func (.func 107) #[] N10, .func (.func 78) #[.pointer (some ⟨C, 0, none⟩)] #[], .func (.func 79) #[.pointer (some ⟨C, 0, none⟩)] #[]], rfl, by omega, rfl, ?_, ?_, below_new S10 _⟩
    · intro i h
      have hc : i = 0 ∨ i = 1 ∨ i = 2 ∨ i = 3 ∨ i = 4 ∨ i = 5 ∨ i = 6 ∨ i = 7 ∨ i = 8 ∨ i = 9 ∨ i = 10 ∨ i = 11 ∨ i = 12 := by simp only [List.length_cons, List.length_nil] at h; omega
      rcases hc with e | e | e | e | e | e | e | e | e | e | e | e | e <;> subst e <;> simp [go_sem]
    · intro i h1 h2
      have hc : i = 0 ∨ i = 1 ∨ i = 2 ∨ i = 3 ∨ i = 4 ∨ i = 5 ∨ i = 6 ∨ i = 7 ∨ i = 8 ∨ i = 9 ∨ i = 10 ∨ i = 11 ∨ i = 12 := by simp only [List.length_cons, List.length_nil] at h1; omega
      rcases hc with e | e | e | e | e | e | e | e | e | e | e | e | e
      · subst e; exact (M10 _ (List.Mem.tail _ (List.Mem.tail _ (List.Mem.tail _ (List.Mem.tail _ (List.Mem.tail _ (List.Mem.tail _ (List.Mem.tail _ (List.Mem.tail _ (List.Mem.tail _ (List.Mem.head _))))))))))).grown (grown_alloc _ _ C)
      · subst e; exact (M10 _ (List.Mem.tail _ (List.Mem.tail _ (List.Mem.tail _ (List.Mem.tail _ (List.Mem.tail _ (List.Mem.tail _ (List.Mem.tail _ (List.Mem.tail _ (List.Mem.head _)))))))))).grown (grown_alloc _ _ C)
      · subst e; exact (M10 _ (List.Mem.tail _ (List.Mem.tail _ (List.Mem.tail _ (List.Mem.tail _ (List.Mem.tail _ (List.Mem.tail _ (List.Mem.tail _ (List.Mem.head _))))))))).grown (grown_alloc _ _ C)
      · subst e; exact (M10 _ (List.Mem.tail _ (List.Mem.tail _ (List.Mem.tail _ (List.Mem.tail _ (List.Mem.tail _ (List.Mem.tail _ (List.Mem.head _)))))))).grown (grown_alloc _ _ C)
      · subst e; exact .day
      · subst e; exact (M10 _ (List.Mem.tail _ (List.Mem.tail _ (List.Mem.tail _ (List.Mem.tail _ (List.Mem.tail _ (List.Mem.head _))))))).grown (grown_alloc _ _ C)
      · subst e; exact (M10 _ (List.Mem.tail _ (List.Mem.tail _ (List.Mem.tail _ (List.Mem.tail _ (List.Mem.head _)))))).grown (grown_alloc _ _ C)
      · subst e; exact (M10 _ (List.Mem.tail _ (List.Mem.tail _ (List.Mem.tail _ (List.Mem.head _))))).grown (grown_alloc _ _ C)
      · subst e; exact (M10 _ (List.Mem.tail _ (List.Mem.tail _ (List.Mem.head _)))).grown (grown_alloc _ _ C)
      · subst e; exact (M10 _ (List.Mem.tail _ (List.Mem.head _))).grown (grown_alloc _ _ C)
      · subst e; exact (M10 _ (List.Mem.head _)).grown (grown_alloc _ _ C)
      · subst e; exact .frac
      · subst e; exact .zone
end Go.Proofs.YtipahdplkmmofaaGreatDoor
