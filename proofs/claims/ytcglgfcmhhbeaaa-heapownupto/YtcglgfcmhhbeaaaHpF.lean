
import Derived.Test.YtcglgfcmhhbeaaaHpE
namespace Go.Proofs.Ytcglgfcmhhbeaaa.Hp
open Go.RowKit Go.Maps
set_option linter.unusedVariables false
set_option linter.unusedSimpArgs false
set_option maxRecDepth 100000
theorem step_append_runH {P : Program} {ops : Array Oper} {o : Oper} {a : Act} {w : World} {K : Act → World → Prop} {Q : Exit → Act → World → Prop} {E : Prop}
    (hg : o.guard = none) (s x : Operand) (t : TypeId) (hop : o.op = Op.call { callee := Callee.builtin Builtin.append, args := #[s, x], argTypes := #[t, t] })
    (v y v' : Value) (w' : World) (hs : a.eval s = v) (hx : a.eval x = y) (hr : (Builtin.append_ #[t, t] o.type #[v, y]).run P w = .ok v' w') (hK : K (a.put o.dst v') w') :
    if Region.wanted o (yielded ops a.tmps) = true then Oper.wp P o a w K Q else E := by
  have hw : Region.wanted o (yielded ops a.tmps) = true := by simp [Region.wanted, hg]
  rw [if_pos hw]
  unfold Oper.wp execOp
  simp only [hop, resolve, invoke, builtin, Sem.run_bind, Sem.run_pure, Result.andThen_ok, List.map_toArray, List.map_cons, List.map_nil, hs, hx, hr]
  exact hK
theorem nums_n (n : Nat) (hn : n + 1 ≤ 1099511627776) : IntKind.i64.wrap ((n : Int) + 1 - 1) = (n : Int) ∧ IntKind.i64.wrap (((n + 1 : Nat) : Int) - 1) = (n : Int) ∧ wrap64 (n : Int) = (n : Int) ∧ IntKind.i64.wrap (n : Int) = (n : Int) :=
  ⟨by rw [show (n : Int) + 1 - 1 = (n : Int) by omega]; exact IntWalk.i64_in _ (by omega), by rw [show ((n + 1 : Nat) : Int) - 1 = (n : Int) by omega]; exact IntWalk.i64_in _ (by omega), IntWalk.wrap64_in _ (by omega), IntWalk.i64_in _ (by omega)⟩
/-- behind push. -/
structure PU (w : World) (B hp mb : Nat) (most : Bool) (v : Value) (f : ByteArray → Option Nat) (L : List Ent) (mv : Int) (w' : World) : Prop where
  hs : ∃ v', HS w' B hp mb most v' none f L mv ∧ (v'.ownBlock = v.ownBlock ∨ ∃ k, v'.ownBlock = some k ∧ w.heap.size ≤ k)
  fr : HF hp mb v.ownBlock w w'
theorem grow_fact {W : World} {B : Nat} {v : Value} {L : List Ent} (h : W.ownsRow B 24 2 v L.length (encE L)) (hB : B ≤ W.heap.size) (x : Ent) (hn : L.length + 1 ≤ 1099511627776) :
    ∃ g cap w', (Builtin.append_ #[28, 28] 28 #[v, .slice (some ⟨W.heap.size, 0, none⟩) 1 1]).run Try.prog (W.alloc (.cells #[.int .i64 x.1, .string x.2] 24)) = .ok (.slice (some ⟨g, 0, none⟩) (L.length + 1) cap) w' ∧ w'.ownsRow B 24 2 (.slice (some ⟨g, 0, none⟩) (L.length + 1) cap) (L ++ [x]).length (encE (L ++ [x])) ∧ W.grownBy w' v.ownBlock ∧ (v.ownBlock = some g ∨ W.heap.size < g) := by
  obtain ⟨W1, hW1⟩ : ∃ W1, W1 = W.alloc (.cells #[.int .i64 x.1, .string x.2] 24) := ⟨_, rfl⟩
  have b1 : Below W.heap.size W W1 := by rw [hW1]; exact (Below.refl _ W).alloc (Nat.le_refl _) _
  have s1 : W1.heap.size = W.heap.size + 1 := by rw [hW1]; simp
  obtain ⟨i, i1, i0⟩ := Option.map_eq_some_iff.1 en_info
  have i2 : i.zero = some (.agg #[.int .i64 0, .string ⟨#[]⟩]) := congrArg (·.1) i0
  have i3 : i.bytes = 24 := congrArg (·.2.1) i0
  have i4 : i.size = 2 := congrArg (·.2.2) i0
  have hml : maxLen = 9223372036854775807 := by decide
  obtain ⟨g, cap, w', hr, own, gr, hat, hlt⟩ := run_append_lies (P := Try.prog) W1 28 28 B 24 i (.agg #[.int .i64 0, .string ⟨#[]⟩]) 2 24 Try.underlying28 i1 i2 i4 i3 rfl (by omega) v L.length (encE L) (by rw [hW1]; exact h.alloc _) ⟨W.heap.size, 0, none⟩ 1 1 (encE [x]) rfl (fun j u hj => by
    rw [hW1]
    rcases j with _ | _ | j <;> simp [encE] at hj <;> (try (subst hj; simp [go_sem]))) (encE_one _) (by omega) (by omega) (by omega) (by omega) _ rfl
  refine ⟨g, cap, w', by rw [← hW1]; exact hr, ?_, ⟨gr.os.trans b1.os, gr.tape.trans b1.tape, gr.output.trans b1.output, Nat.le_trans b1.size gr.size, fun k hk q => by rw [gr.block k (Nat.lt_of_lt_of_le hk b1.size) q]; exact b1.block k hk⟩, by rcases hat with e | e; exact Or.inl e; exact Or.inr (by omega)⟩
  rw [List.length_append, List.length_singleton, encE_append]; exact own
set_option maxRecDepth 100000 in
set_option maxHeartbeats 8000000 in
theorem push_any {w : World} {B hp mb : Nat} {most : Bool} {v : Value} {f : ByteArray → Option Nat} {L : List Ent} {mv : Int} (h : HS w B hp mb most v none f L mv) (hBw : B ≤ w.heap.size) (x : Ent) (hx : x.2.size ≤ 9223372036854775807) (hf : f x.2 = none) (hn : L.length + 1 ≤ 1099511627776) :
    Calls Try.prog 23 #[.pointer (some ⟨hp, 0, none⟩), eV x] w fun e w' => e = .returned undef ∧ PU w B hp mb most v (upd f x.2 (some L.length)) (L ++ [x]) mv w' := by
  obtain ⟨K, hK⟩ : ∃ K, K = w.heap.size := ⟨_, rfl⟩
  obtain ⟨W1, hW1⟩ : ∃ W1, W1 = w.alloc (.cells #[.int .i64 x.1, .string x.2] 24) := ⟨_, rfl⟩
  have b1 : Below w.heap.size w W1 := by rw [hW1]; exact (Below.refl _ w).alloc (Nat.le_refl _) _
  have s1 : W1.heap.size = K + 1 := by rw [hW1, hK]; simp
  have x1 : W1.cell? ⟨K, 0, none⟩ = some (.int .i64 x.1) := by rw [hW1, hK]; simp [go_sem]
  have x2 : W1.cell? ⟨K, 1, none⟩ = some (.string x.2) := by rw [hW1, hK]; simp [go_sem]
  have h1 := h.below b1
  have hl := h.hl
  have hne := h.hw.ne
  obtain ⟨av, capv, rfl, _⟩ := h.form
  obtain ⟨g, cap2, w8, rA, row8, g8, hat⟩ := grow_fact (W := W1.drew) h1.row.drew (by show B ≤ W1.heap.size; omega) x hn
  have hB : hp ≠ g := by
    rcases hat with q | q
    · exact (h.hw.sp g q).1
    · have : W1.drew.heap.size = W1.heap.size := rfl
      omega
  have mB : mb ≠ g := by
    rcases hat with q | q
    · exact (h.hw.sp g q).2
    · have : W1.drew.heap.size = W1.heap.size := rfl
      obtain ⟨_, m', _⟩ := h.mp
      have := m'.lt
      omega
  have hwn : HW (some g) hp mb := ⟨fun k e => by injection e with e; subst e; exact ⟨hB, mB⟩, hne⟩
  have rbB : ∀ k, (Value.slice av L.length capv).ownBlock = some k → B ≤ k ∧ k < w.heap.size := fun k e => World.ownsRow.lt h.row k e
  have gB : B ≤ g := (World.ownsRow.lt row8 g rfl).1
  have k8 : ∀ b, b < W1.heap.size → (∀ k, (Value.slice av L.length capv).ownBlock = some k → k ≠ b) → w8.heap[b]? = W1.heap[b]? := fun b hb q => g8.block b hb (fun e => q b e.symm rfl)
  have k8K : w8.heap[K]? = W1.heap[K]? := k8 K (by omega) (fun k e => by have := (rbB k e).2; omega)
  have k8h : w8.heap[hp]? = W1.heap[hp]? := k8 hp (by omega) (fun k e => (h.hw.sp k e).1.symm)
  have sz8 : W1.heap.size ≤ w8.heap.size := g8.size
  -- the header is stored
  obtain ⟨W3, hW3⟩ : ∃ W3, W3 = w8.setCell ⟨hp, 0, none⟩ (.slice (some ⟨g, 0, none⟩) (L.length + 1) cap2) := ⟨_, rfl⟩
  have o3 : w8.grownBy W3 (some hp) := by
    rw [hW3]
    exact ⟨rfl, rfl, rfl, by simp, fun k hk q => Below.heap_setCell _ _ _ _ (fun e => q (by rw [e]))⟩
  have c8 : ∀ o, w8.cell? ⟨hp, o, none⟩ = W1.cell? ⟨hp, o, none⟩ := fun o => World.cell?_of_block (w := W1) (a := ⟨hp, o, none⟩) k8h
  have z8 : ∀ o, w8.frozen? ⟨hp, o, none⟩ = W1.frozen? ⟨hp, o, none⟩ := fun o => by simp [World.frozen?, k8h]
  have d0 : W3.cell? ⟨hp, 0, none⟩ = some (.slice (some ⟨g, 0, none⟩) (L.length + 1) cap2) := by rw [hW3]; exact World.cell?_setCell_same _ _ _ (by rw [c8]; exact h1.c0)
  have dO : ∀ o, o ≠ 0 → W3.cell? ⟨hp, o, none⟩ = W1.cell? ⟨hp, o, none⟩ := fun o ho => by rw [hW3, World.cell?_setCell_other _ _ _ _ (by intro e; injection e; omega), c8]
  have row3 : W3.ownsRow B 24 2 (.slice (some ⟨g, 0, none⟩) (L.length + 1) cap2) (L ++ [x]).length (encE (L ++ [x])) := by rw [hW3]; exact ownsRow_setCell_ne row8 _ (fun k e => by injection e with e; subst e; exact hB) _
  obtain ⟨c, mp, hc⟩ := h1.mp
  have mlt : mb < w.heap.size := by obtain ⟨c', m', _⟩ := h.mp; exact m'.lt
  have mp3 : MP W3.drew mb f c := mp.keep (by
    show W3.heap[mb]? = _
    rw [o3.block mb (by omega) (fun e => hne (by injection e with e; exact e.symm))]
    exact k8 mb (by omega) (fun k e => (h.hw.sp k e).2.symm))
  have y1 : W3.cell? ⟨K, 0, none⟩ = some (.int .i64 x.1) := by rw [World.cell?_of_block (w := w8) (a := ⟨K, 0, none⟩) (o3.block K (by omega) (fun e => by injection e; omega)), World.cell?_of_block (w := W1) (a := ⟨K, 0, none⟩) k8K]; exact x1
  have y2 : W3.cell? ⟨K, 1, none⟩ = some (.string x.2) := by rw [World.cell?_of_block (w := w8) (a := ⟨K, 1, none⟩) (o3.block K (by omega) (fun e => by injection e; omega)), World.cell?_of_block (w := W1) (a := ⟨K, 1, none⟩) k8K]; exact x2
  have hl3 : hp < W3.heap.size := Nat.lt_of_lt_of_le (Nat.lt_of_lt_of_le h1.hl sz8) o3.size
  have LL : (L ++ [x]).length = L.length + 1 := by simp
  have Lset : (L ++ [x]).set L.length x = L ++ [x] := by rw [List.set_append_right _ _ (Nat.le_refl _), Nat.sub_self]; rfl
  have FR : HF hp mb (Value.slice av L.length capv).ownBlock w W3 := ((HF.below b1).trans (HF.grown (show W1.grownBy w8 _ from ⟨g8.os, g8.tape, g8.output, g8.size, g8.block⟩) (Or.inr (Or.inr rfl)))).trans (HF.grown o3 (Or.inl rfl))
  have CL : Hid (Calls Try.prog 62 #[.pointer (some ⟨hp, 0, none⟩), .int .i64 (L.length : Int), eV x] W3.drew fun e w' => e = .returned undef ∧ LY W3.drew hp mb (.slice (some ⟨g, 0, none⟩) (L.length + 1) cap2) B (L ++ [x]) (upd f x.2 (some L.length)) (L.length + 1) w') := by
    have := lay_any (w := W3.drew) hwn hl3 d0 (by show W3.cell? _ = _; rw [dO 1 (by omega)]; exact h1.c1) row3.drew mp3 L.length (by rw [LL]; omega) (by rw [LL]; omega) x hx (by rw [hf]; show c + 1 ≤ L.length + 1; have hc' : c ≤ L.length + 0 := hc; omega) (by have hc' : c ≤ L.length + 0 := hc; omega)
    rw [Lset] at this
    exact this
  have sL : Hid (∀ w', LY W3.drew hp mb (.slice (some ⟨g, 0, none⟩) (L.length + 1) cap2) B (L ++ [x]) (upd f x.2 (some L.length)) (L.length + 1) w' → w'.cell? ⟨hp, 0, none⟩ = some (.slice (some ⟨g, 0, none⟩) (L.length + 1) cap2) ∧ w'.cell? ⟨K, 0, none⟩ = some (.int .i64 x.1) ∧ w'.cell? ⟨K, 1, none⟩ = some (.string x.2)) := fun w' ly => by
    have sz3 : K < W3.heap.size := by have := o3.size; omega
    have kK : w'.heap[K]? = W3.heap[K]? := ly.fr.keep K sz3 (by omega) (by omega) (fun e => by
      have e2 : some K = some g := e
      injection e2 with e2
      rcases hat with q | q
      · have := (rbB g q).2; omega
      · have : W1.drew.heap.size = W1.heap.size := rfl
        omega)
    exact ⟨by rw [(ly.cs 0).1]; exact d0, by rw [World.cell?_of_block (w := W3) (a := ⟨K, 0, none⟩) kK]; exact y1, by rw [World.cell?_of_block (w := W3) (a := ⟨K, 1, none⟩) kK]; exact y2⟩
  have FIN : Hid (∀ w', LY W3.drew hp mb (.slice (some ⟨g, 0, none⟩) (L.length + 1) cap2) B (L ++ [x]) (upd f x.2 (some L.length)) (L.length + 1) w' → PU w B hp mb most (.slice av L.length capv) (upd f x.2 (some L.length)) (L ++ [x]) mv w') := fun w' ly => by
    have cs : ∀ o, o ≠ 0 → w'.cell? ⟨hp, o, none⟩ = W1.cell? ⟨hp, o, none⟩ := fun o ho => (ly.cs o).1.trans (dO o ho)
    have zs : ∀ o, w'.frozen? ⟨hp, o, none⟩ = W1.frozen? ⟨hp, o, none⟩ := fun o => by
      rw [(ly.cs o).2, show W3.drew.frozen? ⟨hp, o, none⟩ = w8.frozen? ⟨hp, o, none⟩ by rw [hW3]; exact World.frozen?_setCell _ _ _ _, z8]
    refine ⟨⟨.slice (some ⟨g, 0, none⟩) (L.length + 1) cap2, ⟨by rw [(ly.cs 0).1]; exact d0, by rw [cs 1 (by omega)]; exact h1.c1, by rw [cs 2 (by omega)]; exact h1.c2, by rw [cs 3 (by omega)]; exact h1.c3, by rw [zs]; exact h1.z0, by rw [zs]; exact h1.z3, ly.row, (by rw [LL]; exact ly.mp), h.pl.push hf, hwn, fun e he => ?_, Nat.lt_of_lt_of_le hl3 ly.fr.size, fun s hs => by cases hs⟩, ?_⟩, ?_⟩
    · rcases List.mem_append.1 he with q | q
      · exact h.nm e q
      · rw [List.mem_singleton.1 q]; exact hx
    · rcases hat with q | q
      · exact Or.inl q.symm
      · exact Or.inr ⟨g, rfl, by have : W1.drew.heap.size = W1.heap.size := rfl; omega⟩
    · refine ⟨Nat.le_trans FR.size ly.fr.size, fun k hk q1 q2 q3 => ?_, ly.fr.same.1.trans FR.same.1, ly.fr.same.2.1.trans FR.same.2.1, ly.fr.same.2.2.trans FR.same.2.2⟩
      rw [ly.fr.keep k (Nat.lt_of_lt_of_le hk FR.size) q1 q2 (fun e => by
        have e2 : some k = some g := e
        injection e2 with e2
        rcases hat with q | q
        · exact q3 (by rw [q, e2])
        · have : W1.drew.heap.size = W1.heap.size := rfl
          omega)]
      exact FR.keep k hk q1 q2 q3
  unfold eV at CL
  -- the region's worlds
  have sS : Hid (W1.drew.cell? ⟨K, 0, none⟩ = some (.int .i64 x.1) ∧ W1.drew.cell? ⟨K, 1, none⟩ = some (.string x.2)) := ⟨x1, x2⟩
  have bA : Below W1.heap.size W1.drew (W1.drew.alloc (.cells #[.int .i64 x.1, .string x.2] 24)) := (Below.refl _ W1.drew).alloc (Nat.le_refl _) _
  have Kl : K < W1.heap.size := by omega
  have hl1 : hp < W1.heap.size := h1.hl
  have sA : Hid ((W1.drew.alloc (.cells #[.int .i64 x.1, .string x.2] 24)).cell? ⟨K, 0, none⟩ = some (.int .i64 x.1) ∧ (W1.drew.alloc (.cells #[.int .i64 x.1, .string x.2] 24)).cell? ⟨K, 1, none⟩ = some (.string x.2)) := ⟨by rw [bA.cell (p := ⟨K, 0, none⟩) Kl]; exact x1, by rw [bA.cell (p := ⟨K, 1, none⟩) Kl]; exact x2⟩
  have sB : Hid (w8.cell? ⟨K, 0, none⟩ = some (.int .i64 x.1) ∧ w8.cell? ⟨K, 1, none⟩ = some (.string x.2)) := ⟨by rw [World.cell?_of_block (w := W1) (a := ⟨K, 0, none⟩) k8K]; exact x1, by rw [World.cell?_of_block (w := W1) (a := ⟨K, 1, none⟩) k8K]; exact x2⟩
  have sC : Hid ((w8.setCell ⟨hp, 0, none⟩ (.slice (some ⟨g, 0, none⟩) (L.length + 1) cap2)).cell? ⟨K, 0, none⟩ = some (.int .i64 x.1) ∧ (w8.setCell ⟨hp, 0, none⟩ (.slice (some ⟨g, 0, none⟩) (L.length + 1) cap2)).cell? ⟨K, 1, none⟩ = some (.string x.2)) := by rw [← hW3]; exact ⟨y1, y2⟩
  have rF : Hid (∀ W, W = W1.drew.alloc (.cells #[.int .i64 x.1, .string x.2] 24) → (Builtin.append_ #[28, 28] 28 #[.slice av L.length capv, .slice (some ⟨W1.heap.size, 0, none⟩) 1 1]).run Try.prog W = .ok (.slice (some ⟨g, 0, none⟩) (L.length + 1) cap2) w8) := fun W e => by subst e; exact rA
  have c0 : W1.cell? ⟨hp, 0, none⟩ = some (.slice av L.length capv) := h1.c0
  have c0a : (W1.drew.alloc (.cells #[.int .i64 x.1, .string x.2] 24)).cell? ⟨hp, 0, none⟩ = some (.slice av L.length capv) := by rw [bA.cell (p := ⟨hp, 0, none⟩) hl1]; exact h1.c0
  have c0b : w8.cell? ⟨hp, 0, none⟩ = some (.slice av L.length capv) := by rw [c8]; exact h1.c0
  have z0b : w8.frozen? ⟨hp, 0, none⟩ = false := by rw [z8]; exact h1.z0
  have sM : Hid (W3.cell? ⟨hp, 0, none⟩ = some (.slice (some ⟨g, 0, none⟩) (L.length + 1) cap2) ∧ W3.cell? ⟨K, 0, none⟩ = some (.int .i64 x.1) ∧ W3.cell? ⟨K, 1, none⟩ = some (.string x.2)) := ⟨d0, y1, y2⟩
  have hW3H : Hid (W3 = w8.setCell ⟨hp, 0, none⟩ (.slice (some ⟨g, 0, none⟩) (L.length + 1) cap2)) := hW3
  obtain ⟨nw, nw2, nw3, nw4⟩ := nums_n L.length hn
  unfold eV
  generalize upd f x.2 (some L.length) = F2 at *
  generalize L ++ [x] = L2 at *
  generalize L.length = n at *
  clear h h1 hx hf hn hBw hB mB hne row8 g8 hat rbB gB k8 k8K k8h sz8 o3 c8 z8 d0 dO row3 mp mp3 hc mlt y1 y2 hl3 LL Lset FR bA rA x1 x2 b1 s1 hW3
  go_enter Try.func23, Try.ntmps23
  go_wp2_with fail
  rw [← hW1, ← hK]
  clear hW1 hK
  refine wp_region_noPanic ?_
  refine wp_region_held_drew (S := fun W => W.cell? ⟨K, 0, none⟩ = some (.int .i64 x.1) ∧ W.cell? ⟨K, 1, none⟩ = some (.string x.2)) (by kernel_rfl) sS.out (fun hHeld => ?_)
  refine wpAnyH_take (i := 0) (oi := _) (v := ?_) rfl (by kernel_rfl) (by kernel_rfl) (by kernel_rfl) (fun _ _ _ h => h) (Or.inl ⟨by rfl, ?_⟩) (by assumption) ?_
  rotate_left 1
  · (intro w0 hSw; (try dsimp only at hSw); obtain ⟨s1, s2⟩ := hSw; go_simp; try with_reducible rfl)
  (try simp only [List.getElem_toArray, List.getElem_cons_succ, List.getElem_cons_zero]); (try simp only [Act.put, List.setIfInBounds_toArray, List.set_cons_zero, List.set_cons_succ])
  refine wpAnyH_take (i := 1) (oi := _) (v := ?_) rfl (by kernel_rfl) (by kernel_rfl) (by kernel_rfl) (fun _ _ _ h => h) (Or.inl ⟨by rfl, ?_⟩) (by assumption) ?_
  rotate_left 1
  · (intro w0 hSw; (try dsimp only at hSw); obtain ⟨s1, s2⟩ := hSw; go_simp; try with_reducible rfl)
  (try simp only [List.getElem_toArray, List.getElem_cons_succ, List.getElem_cons_zero]); (try simp only [Act.put, List.setIfInBounds_toArray, List.set_cons_zero, List.set_cons_succ])
  refine wpAnyH_take (i := 2) (oi := _) (v := ?_) rfl (by kernel_rfl) (by kernel_rfl) (by kernel_rfl) (fun _ _ _ h => h) (Or.inl ⟨by rfl, ?_⟩) (by assumption) ?_
  rotate_left 1
  · (intro w0 hSw; (try dsimp only at hSw); obtain ⟨s1, s2⟩ := hSw; go_simp; try with_reducible rfl)
  (try simp only [List.getElem_toArray, List.getElem_cons_succ, List.getElem_cons_zero]); (try simp only [Act.put, List.setIfInBounds_toArray, List.set_cons_zero, List.set_cons_succ])
  refine wpAnyH_take (i := 3) (oi := _) (v := ?_) rfl (by kernel_rfl) (by kernel_rfl) (by kernel_rfl) (fun _ _ _ h => h) (Or.inl ⟨by rfl, ?_⟩) (by assumption) ?_
  rotate_left 1
  · (intro w0 hSw; (try dsimp only at hSw); obtain ⟨s1, s2⟩ := hSw; go_simp; try with_reducible rfl)
  (try simp only [List.getElem_toArray, List.getElem_cons_succ, List.getElem_cons_zero]); (try simp only [Act.put, List.setIfInBounds_toArray, List.set_cons_zero, List.set_cons_succ])
  refine wpAnyH_take (i := 5) (oi := _) (v := ?_) rfl (by kernel_rfl) (by kernel_rfl) (by kernel_rfl) (fun _ _ _ h => h) (Or.inl ⟨by rfl, ?_⟩) (by assumption) ?_
  rotate_left 1
  · (intro w0 hSw; (try dsimp only at hSw); obtain ⟨s1, s2⟩ := hSw; go_simp; try with_reducible rfl)
  (try simp only [List.getElem_toArray, List.getElem_cons_succ, List.getElem_cons_zero]); (try simp only [Act.put, List.setIfInBounds_toArray, List.set_cons_zero, List.set_cons_succ])
  refine wpAnyH_ready (rs := [4, 6]) (by kernel_rfl) (by simp) ?_
  refine AllReadyH.cons (o := _) rfl (fun K1 hK => ?_) ?_
  · go_simp
    try dsimp only
    refine hK _ _ sS.out (fun hHeld => ?_)
    clear hK K1
    (try simp only [List.getElem_toArray, List.getElem_cons_succ, List.getElem_cons_zero]); (try simp only [Act.put, List.setIfInBounds_toArray, List.set_cons_zero, List.set_cons_succ])
    refine wpAnyH_ready (rs := [6]) (by kernel_rfl) (by simp) ?_
    refine AllReadyH.cons (o := _) rfl (fun K1 hK => ?_) AllReadyH.nil
    go_simp
    try dsimp only
    refine hK _ _ sA.out (fun hHeld => ?_)
    clear hK K1
    (try simp only [List.getElem_toArray, List.getElem_cons_succ, List.getElem_cons_zero]); (try simp only [Act.put, List.setIfInBounds_toArray, List.set_cons_zero, List.set_cons_succ])
    refine wpAnyH_ready (rs := [7]) (by kernel_rfl) (by simp) ?_
    refine AllReadyH.cons (o := _) rfl (fun K1 hK => ?_) AllReadyH.nil
    refine step_append_runH rfl (.tmp 8) (.tmp 10) 28 rfl _ _ _ _ rfl rfl (rF.out _ rfl) ?_
    refine hK _ _ sB.out (fun hHeld => ?_)
    clear hK K1
    (try simp only [List.getElem_toArray, List.getElem_cons_succ, List.getElem_cons_zero]); (try simp only [Act.put, List.setIfInBounds_toArray, List.set_cons_zero, List.set_cons_succ])
    refine wpAnyH_take (i := 8) (oi := _) (v := ?_) rfl (by kernel_rfl) (by kernel_rfl) (by kernel_rfl) (fun _ _ _ h => h) (Or.inl ⟨by rfl, ?_⟩) (by assumption) ?_
    rotate_left 1
    · (intro w0 hSw; (try dsimp only at hSw); obtain ⟨s1, s2⟩ := hSw; go_simp; try with_reducible rfl)
    (try simp only [List.getElem_toArray, List.getElem_cons_succ, List.getElem_cons_zero]); (try simp only [Act.put, List.setIfInBounds_toArray, List.set_cons_zero, List.set_cons_succ])
    refine wpAnyH_take (i := 9) (oi := _) (v := ?_) rfl (by kernel_rfl) (by kernel_rfl) (by kernel_rfl) (fun _ _ _ h => h) (Or.inl ⟨by rfl, ?_⟩) (by assumption) ?_
    rotate_left 1
    · (intro w0 hSw; (try dsimp only at hSw); obtain ⟨s1, s2⟩ := hSw; go_simp; try with_reducible rfl)
    (try simp only [List.getElem_toArray, List.getElem_cons_succ, List.getElem_cons_zero]); (try simp only [Act.put, List.setIfInBounds_toArray, List.set_cons_zero, List.set_cons_succ])
    refine wpAnyH_ready (rs := [10]) (by kernel_rfl) (by simp) ?_
    refine AllReadyH.cons (o := _) rfl (fun K1 hK => ?_) AllReadyH.nil
    go_simp
    try dsimp only
    refine hK _ _ sC.out (fun hHeld => ?_)
    clear hK K1
    (try simp only [List.getElem_toArray, List.getElem_cons_succ, List.getElem_cons_zero]); (try simp only [Act.put, List.setIfInBounds_toArray, List.set_cons_zero, List.set_cons_succ])
    refine wpAnyH_done (by kernel_rfl) ?_ _
    refine NoPanic.normal ?_
    clear sS sA sB sC rF c0 c0a c0b z0b hHeld
    go_wp2_with fail
    rw [← hW3H.out]
    clear hW3H
    obtain ⟨m0, m1, m2⟩ := sM.out
    clear sM
    refine wp_region_noPanic ?_
    refine wp_region_held_drew (S := fun W => W.cell? ⟨hp, 0, none⟩ = some (.slice (some ⟨g, 0, none⟩) (n + 1) cap2) ∧ W.cell? ⟨K, 0, none⟩ = some (.int .i64 x.1) ∧ W.cell? ⟨K, 1, none⟩ = some (.string x.2)) (by kernel_rfl) ⟨m0, m1, m2⟩ (fun hHeld => ?_)
    refine wpAnyH_take (i := 0) (oi := _) (v := ?_) rfl (by kernel_rfl) (by kernel_rfl) (by kernel_rfl) (fun _ _ _ h => h) (Or.inl ⟨by rfl, ?_⟩) (by assumption) ?_
    rotate_left 1
    · (intro w0 hSw; (try dsimp only at hSw); obtain ⟨s1, s2, s3⟩ := hSw; go_simp; try with_reducible rfl)
    (try simp only [List.getElem_toArray, List.getElem_cons_succ, List.getElem_cons_zero]); (try simp only [Act.put, List.setIfInBounds_toArray, List.set_cons_zero, List.set_cons_succ])
    refine wpAnyH_take (i := 1) (oi := _) (v := ?_) rfl (by kernel_rfl) (by kernel_rfl) (by kernel_rfl) (fun _ _ _ h => h) (Or.inl ⟨by rfl, ?_⟩) (by assumption) ?_
    rotate_left 1
    · (intro w0 hSw; (try dsimp only at hSw); obtain ⟨s1, s2, s3⟩ := hSw; go_simp; try with_reducible rfl)
    (try simp only [List.getElem_toArray, List.getElem_cons_succ, List.getElem_cons_zero]); (try simp only [Act.put, List.setIfInBounds_toArray, List.set_cons_zero, List.set_cons_succ])
    refine wpAnyH_take (i := 2) (oi := _) (v := ?_) rfl (by kernel_rfl) (by kernel_rfl) (by kernel_rfl) (fun _ _ _ h => h) (Or.inl ⟨by rfl, ?_⟩) (by assumption) ?_
    rotate_left 1
    · (intro w0 hSw; (try dsimp only at hSw); obtain ⟨s1, s2, s3⟩ := hSw; go_simp; try with_reducible rfl)
    (try simp only [List.getElem_toArray, List.getElem_cons_succ, List.getElem_cons_zero]); (try simp only [Act.put, List.setIfInBounds_toArray, List.set_cons_zero, List.set_cons_succ])
    refine wpAnyH_take (i := 3) (oi := _) (v := ?_) rfl (by kernel_rfl) (by kernel_rfl) (by kernel_rfl) (fun _ _ _ h => h) (Or.inl ⟨by rfl, ?_⟩) (by assumption) ?_
    rotate_left 1
    · (intro w0 hSw; (try dsimp only at hSw); obtain ⟨s1, s2, s3⟩ := hSw; go_simp; try with_reducible rfl)
    (try simp only [List.getElem_toArray, List.getElem_cons_succ, List.getElem_cons_zero]); (try simp only [Act.put, List.setIfInBounds_toArray, List.set_cons_zero, List.set_cons_succ])
    refine wpAnyH_take (i := 4) (oi := _) (v := ?_) rfl (by kernel_rfl) (by kernel_rfl) (by kernel_rfl) (fun _ _ _ h => h) (Or.inl ⟨by rfl, ?_⟩) (by assumption) ?_
    rotate_left 1
    · (intro w0 hSw; (try dsimp only at hSw); obtain ⟨s1, s2, s3⟩ := hSw; go_simp; try with_reducible rfl)
    (try simp only [List.getElem_toArray, List.getElem_cons_succ, List.getElem_cons_zero]); (try simp only [Act.put, List.setIfInBounds_toArray, List.set_cons_zero, List.set_cons_succ])
    refine wpAnyH_take (i := 5) (oi := _) (v := ?_) rfl (by kernel_rfl) (by kernel_rfl) (by kernel_rfl) (fun _ _ _ h => h) (Or.inl ⟨by rfl, ?_⟩) (by assumption) ?_
    rotate_left 1
    · (intro w0 hSw; (try dsimp only at hSw); obtain ⟨s1, s2, s3⟩ := hSw; go_simp; try with_reducible rfl)
    (try simp only [List.getElem_toArray, List.getElem_cons_succ, List.getElem_cons_zero]); (try simp only [Act.put, List.setIfInBounds_toArray, List.set_cons_zero, List.set_cons_succ])
    refine wpAnyH_take (i := 6) (oi := _) (v := ?_) rfl (by kernel_rfl) (by kernel_rfl) (by kernel_rfl) (fun _ _ _ h => h) (Or.inl ⟨by rfl, ?_⟩) (by assumption) ?_
    rotate_left 1
    · (intro w0 hSw; (try dsimp only at hSw); obtain ⟨s1, s2, s3⟩ := hSw; go_simp; try with_reducible rfl)
    (try simp only [List.getElem_toArray, List.getElem_cons_succ, List.getElem_cons_zero]); (try simp only [Act.put, List.setIfInBounds_toArray, List.set_cons_zero, List.set_cons_succ])
    refine wpAnyH_take (i := 7) (oi := _) (v := ?_) rfl (by kernel_rfl) (by kernel_rfl) (by kernel_rfl) (fun _ _ _ h => h) (Or.inl ⟨by rfl, ?_⟩) (by assumption) ?_
    rotate_left 1
    · (intro w0 hSw; (try dsimp only at hSw); obtain ⟨s1, s2, s3⟩ := hSw; go_simp; try with_reducible rfl)
    (try simp only [List.getElem_toArray, List.getElem_cons_succ, List.getElem_cons_zero]); (try simp only [Act.put, List.setIfInBounds_toArray, List.set_cons_zero, List.set_cons_succ])
    refine wpAnyH_ready (rs := [8]) (by kernel_rfl) (by simp) ?_
    refine AllReadyH.cons (o := _) rfl (fun K hK => ?_) AllReadyH.nil
    go_simp
    refine Calls.mono (CL.out) ?_
    rintro e w' ⟨rfl, BB⟩
    try dsimp only
    refine hK _ _ ?_ (fun hHeld => ?_)
    · exact (sL.out _ BB)
    clear hK K
    (try simp only [List.getElem_toArray, List.getElem_cons_succ, List.getElem_cons_zero]); (try simp only [Act.put, List.setIfInBounds_toArray, List.set_cons_zero, List.set_cons_succ])
    refine wpAnyH_done (by kernel_rfl) ?_ _
    refine NoPanic.normal ?_
    have fin : Hid _ := FIN.out w' BB
    clear BB FIN CL sL
    go_wp2_with fail
    first | go_end0 | (simp only [Exit.inBlock, Exit.then]; refine bodyPost_ret (results_none rfl _ _ _) rfl ?_) | refine bodyPost_ret (results_none rfl _ _ _) rfl ?_
    exact ⟨rfl, fin.out⟩
  refine AllReadyH.cons (o := _) rfl (fun K1 hK => ?_) AllReadyH.nil
  go_simp
  try dsimp only
  refine hK _ _ sA.out (fun hHeld => ?_)
  clear hK K1
  (try simp only [List.getElem_toArray, List.getElem_cons_succ, List.getElem_cons_zero]); (try simp only [Act.put, List.setIfInBounds_toArray, List.set_cons_zero, List.set_cons_succ])
  refine wpAnyH_ready (rs := [4]) (by kernel_rfl) (by simp) ?_
  refine AllReadyH.cons (o := _) rfl (fun K1 hK => ?_) AllReadyH.nil
  go_simp
  try dsimp only
  refine hK _ _ sA.out (fun hHeld => ?_)
  clear hK K1
  (try simp only [List.getElem_toArray, List.getElem_cons_succ, List.getElem_cons_zero]); (try simp only [Act.put, List.setIfInBounds_toArray, List.set_cons_zero, List.set_cons_succ])
  refine wpAnyH_ready (rs := [7]) (by kernel_rfl) (by simp) ?_
  refine AllReadyH.cons (o := _) rfl (fun K1 hK => ?_) AllReadyH.nil
  refine step_append_runH rfl (.tmp 8) (.tmp 10) 28 rfl _ _ _ _ rfl rfl (rF.out _ rfl) ?_
  refine hK _ _ sB.out (fun hHeld => ?_)
  clear hK K1
  (try simp only [List.getElem_toArray, List.getElem_cons_succ, List.getElem_cons_zero]); (try simp only [Act.put, List.setIfInBounds_toArray, List.set_cons_zero, List.set_cons_succ])
  refine wpAnyH_take (i := 8) (oi := _) (v := ?_) rfl (by kernel_rfl) (by kernel_rfl) (by kernel_rfl) (fun _ _ _ h => h) (Or.inl ⟨by rfl, ?_⟩) (by assumption) ?_
  rotate_left 1
  · (intro w0 hSw; (try dsimp only at hSw); obtain ⟨s1, s2⟩ := hSw; go_simp; try with_reducible rfl)
  (try simp only [List.getElem_toArray, List.getElem_cons_succ, List.getElem_cons_zero]); (try simp only [Act.put, List.setIfInBounds_toArray, List.set_cons_zero, List.set_cons_succ])
  refine wpAnyH_take (i := 9) (oi := _) (v := ?_) rfl (by kernel_rfl) (by kernel_rfl) (by kernel_rfl) (fun _ _ _ h => h) (Or.inl ⟨by rfl, ?_⟩) (by assumption) ?_
  rotate_left 1
  · (intro w0 hSw; (try dsimp only at hSw); obtain ⟨s1, s2⟩ := hSw; go_simp; try with_reducible rfl)
  (try simp only [List.getElem_toArray, List.getElem_cons_succ, List.getElem_cons_zero]); (try simp only [Act.put, List.setIfInBounds_toArray, List.set_cons_zero, List.set_cons_succ])
  refine wpAnyH_ready (rs := [10]) (by kernel_rfl) (by simp) ?_
  refine AllReadyH.cons (o := _) rfl (fun K1 hK => ?_) AllReadyH.nil
  go_simp
  try dsimp only
  refine hK _ _ sC.out (fun hHeld => ?_)
  clear hK K1
  (try simp only [List.getElem_toArray, List.getElem_cons_succ, List.getElem_cons_zero]); (try simp only [Act.put, List.setIfInBounds_toArray, List.set_cons_zero, List.set_cons_succ])
  refine wpAnyH_done (by kernel_rfl) ?_ _
  refine NoPanic.normal ?_
  clear sS sA sB sC rF c0 c0a c0b z0b hHeld
  go_wp2_with fail
  rw [← hW3H.out]
  clear hW3H
  obtain ⟨m0, m1, m2⟩ := sM.out
  clear sM
  refine wp_region_noPanic ?_
  refine wp_region_held_drew (S := fun W => W.cell? ⟨hp, 0, none⟩ = some (.slice (some ⟨g, 0, none⟩) (n + 1) cap2) ∧ W.cell? ⟨K, 0, none⟩ = some (.int .i64 x.1) ∧ W.cell? ⟨K, 1, none⟩ = some (.string x.2)) (by kernel_rfl) ⟨m0, m1, m2⟩ (fun hHeld => ?_)
  refine wpAnyH_take (i := 0) (oi := _) (v := ?_) rfl (by kernel_rfl) (by kernel_rfl) (by kernel_rfl) (fun _ _ _ h => h) (Or.inl ⟨by rfl, ?_⟩) (by assumption) ?_
  rotate_left 1
  · (intro w0 hSw; (try dsimp only at hSw); obtain ⟨s1, s2, s3⟩ := hSw; go_simp; try with_reducible rfl)
  (try simp only [List.getElem_toArray, List.getElem_cons_succ, List.getElem_cons_zero]); (try simp only [Act.put, List.setIfInBounds_toArray, List.set_cons_zero, List.set_cons_succ])
  refine wpAnyH_take (i := 1) (oi := _) (v := ?_) rfl (by kernel_rfl) (by kernel_rfl) (by kernel_rfl) (fun _ _ _ h => h) (Or.inl ⟨by rfl, ?_⟩) (by assumption) ?_
  rotate_left 1
  · (intro w0 hSw; (try dsimp only at hSw); obtain ⟨s1, s2, s3⟩ := hSw; go_simp; try with_reducible rfl)
  (try simp only [List.getElem_toArray, List.getElem_cons_succ, List.getElem_cons_zero]); (try simp only [Act.put, List.setIfInBounds_toArray, List.set_cons_zero, List.set_cons_succ])
  refine wpAnyH_take (i := 2) (oi := _) (v := ?_) rfl (by kernel_rfl) (by kernel_rfl) (by kernel_rfl) (fun _ _ _ h => h) (Or.inl ⟨by rfl, ?_⟩) (by assumption) ?_
  rotate_left 1
  · (intro w0 hSw; (try dsimp only at hSw); obtain ⟨s1, s2, s3⟩ := hSw; go_simp; try with_reducible rfl)
  (try simp only [List.getElem_toArray, List.getElem_cons_succ, List.getElem_cons_zero]); (try simp only [Act.put, List.setIfInBounds_toArray, List.set_cons_zero, List.set_cons_succ])
  refine wpAnyH_take (i := 3) (oi := _) (v := ?_) rfl (by kernel_rfl) (by kernel_rfl) (by kernel_rfl) (fun _ _ _ h => h) (Or.inl ⟨by rfl, ?_⟩) (by assumption) ?_
  rotate_left 1
  · (intro w0 hSw; (try dsimp only at hSw); obtain ⟨s1, s2, s3⟩ := hSw; go_simp; try with_reducible rfl)
  (try simp only [List.getElem_toArray, List.getElem_cons_succ, List.getElem_cons_zero]); (try simp only [Act.put, List.setIfInBounds_toArray, List.set_cons_zero, List.set_cons_succ])
  refine wpAnyH_take (i := 4) (oi := _) (v := ?_) rfl (by kernel_rfl) (by kernel_rfl) (by kernel_rfl) (fun _ _ _ h => h) (Or.inl ⟨by rfl, ?_⟩) (by assumption) ?_
  rotate_left 1
  · (intro w0 hSw; (try dsimp only at hSw); obtain ⟨s1, s2, s3⟩ := hSw; go_simp; try with_reducible rfl)
  (try simp only [List.getElem_toArray, List.getElem_cons_succ, List.getElem_cons_zero]); (try simp only [Act.put, List.setIfInBounds_toArray, List.set_cons_zero, List.set_cons_succ])
  refine wpAnyH_take (i := 5) (oi := _) (v := ?_) rfl (by kernel_rfl) (by kernel_rfl) (by kernel_rfl) (fun _ _ _ h => h) (Or.inl ⟨by rfl, ?_⟩) (by assumption) ?_
  rotate_left 1
  · (intro w0 hSw; (try dsimp only at hSw); obtain ⟨s1, s2, s3⟩ := hSw; go_simp; try with_reducible rfl)
  (try simp only [List.getElem_toArray, List.getElem_cons_succ, List.getElem_cons_zero]); (try simp only [Act.put, List.setIfInBounds_toArray, List.set_cons_zero, List.set_cons_succ])
  refine wpAnyH_take (i := 6) (oi := _) (v := ?_) rfl (by kernel_rfl) (by kernel_rfl) (by kernel_rfl) (fun _ _ _ h => h) (Or.inl ⟨by rfl, ?_⟩) (by assumption) ?_
  rotate_left 1
  · (intro w0 hSw; (try dsimp only at hSw); obtain ⟨s1, s2, s3⟩ := hSw; go_simp; try with_reducible rfl)
  (try simp only [List.getElem_toArray, List.getElem_cons_succ, List.getElem_cons_zero]); (try simp only [Act.put, List.setIfInBounds_toArray, List.set_cons_zero, List.set_cons_succ])
  refine wpAnyH_take (i := 7) (oi := _) (v := ?_) rfl (by kernel_rfl) (by kernel_rfl) (by kernel_rfl) (fun _ _ _ h => h) (Or.inl ⟨by rfl, ?_⟩) (by assumption) ?_
  rotate_left 1
  · (intro w0 hSw; (try dsimp only at hSw); obtain ⟨s1, s2, s3⟩ := hSw; go_simp; try with_reducible rfl)
  (try simp only [List.getElem_toArray, List.getElem_cons_succ, List.getElem_cons_zero]); (try simp only [Act.put, List.setIfInBounds_toArray, List.set_cons_zero, List.set_cons_succ])
  refine wpAnyH_ready (rs := [8]) (by kernel_rfl) (by simp) ?_
  refine AllReadyH.cons (o := _) rfl (fun K hK => ?_) AllReadyH.nil
  go_simp
  refine Calls.mono (CL.out) ?_
  rintro e w' ⟨rfl, BB⟩
  try dsimp only
  refine hK _ _ ?_ (fun hHeld => ?_)
  · exact (sL.out _ BB)
  clear hK K
  (try simp only [List.getElem_toArray, List.getElem_cons_succ, List.getElem_cons_zero]); (try simp only [Act.put, List.setIfInBounds_toArray, List.set_cons_zero, List.set_cons_succ])
  refine wpAnyH_done (by kernel_rfl) ?_ _
  refine NoPanic.normal ?_
  have fin : Hid _ := FIN.out w' BB
  clear BB FIN CL sL
  go_wp2_with fail
  first | go_end0 | (simp only [Exit.inBlock, Exit.then]; refine bodyPost_ret (results_none rfl _ _ _) rfl ?_) | refine bodyPost_ret (results_none rfl _ _ _) rfl ?_
  exact ⟨rfl, fin.out⟩
end Go.Proofs.Ytcglgfcmhhbeaaa.Hp
