
import Derived.Test.YtboacnpbicedfaaGreatDoorByB
namespace Go.Proofs.YtboacnpbicedfaaGreatDoor.Hp
open Go.RowKit Go.Maps
set_option linter.unusedVariables false
set_option linter.unusedSimpArgs false
set_option maxRecDepth 100000
theorem step_append_runH {P : Program} {ops : Array Oper} {o : Oper} {a : Act} {w : World} {K : Act → World → Prop} {Q : Exit → Act → World → Prop} {E : Prop}
    (hg : o.guard = none) (s x : Operand) (t : TypeId) (hop : o.op = Op.call { callee := Callee.builtin Builtin.append, args := #[s, x], argTypes := #[t, t] })
    (v y v' : Value) (w' : World) (hs : a.eval s = v) (hx : a.eval x = y) (hr : (Builtin.append_ #[t, t] o.type #[v, y]).run P w = .ok v' w') (hK : K (a.put o.dst v') w') :
    if Region.wanted o (yielded ops a.tmps) = true then Oper.wp P o a w K Q else E := by
  have hw : Region.wanted o (yielded ops a.tmps) = true := by simp [Region.wanted, hg]
  rw [if_pos hw]
  unfold Oper.wp execOp
  simp only [hop, resolve, invoke, builtin, Sem.run_bind, Sem.run_pure, Result.andThen_ok, List.map_toArray, List.map_cons, List.map_nil, hs, hx, hr]
  exact hK
theorem nums_n (n : Nat) (hn : n + 1 ≤ 1099511627776) : IntKind.i64.wrap ((n : Int) + 1 - 1) = (n : Int) ∧ IntKind.i64.wrap (((n + 1 : Nat) : Int) - 1) = (n : Int) ∧ wrap64 (n : Int) = (n : Int) ∧ IntKind.i64.wrap (n : Int) = (n : Int) :=
  ⟨by rw [show (n : Int) + 1 - 1 = (n : Int) by omega]; exact IntWalk.i64_in _ (by omega), by rw [show ((n + 1 : Nat) : Int) - 1 = (n : Int) by omega]; exact IntWalk.i64_in _ (by omega), IntWalk.wrap64_in _ (by omega), IntWalk.i64_in _ (by omega)⟩
/-- behind push. -/
structure PU (w : World) (B hp mb : Nat) (most : Bool) (v : Value) (f : ByteArray → Option Nat) (L : List Ent) (mv : Int) (w' : World) : Prop where
  hs : ∃ v', HS w' B hp mb most v' none f L mv ∧ (v'.ownBlock = v.ownBlock ∨ ∃ k, v'.ownBlock = some k ∧ w.heap.size ≤ k)
  fr : HF hp mb v.ownBlock w w'
theorem grow_fact {W : World} {B : Nat} {v : Value} {L : List Ent} (h : W.ownsRow B 30 2 v L.length (encE L)) (hB : B ≤ W.heap.size) (x : Ent) (hn : L.length + 1 ≤ 1099511627776) :
    ∃ g cap w', (Builtin.append_ #[31, 31] 31 #[v, .slice (some ⟨W.heap.size, 0, none⟩) 1 1]).run Tryz.prog (W.alloc (.cells #[.int .i64 x.1, .string x.2] 30)) = .ok (.slice (some ⟨g, 0, none⟩) (L.length + 1) cap) w' ∧ w'.ownsRow B 30 2 (.slice (some ⟨g, 0, none⟩) (L.length + 1) cap) (L ++ [x]).length (encE (L ++ [x])) ∧ W.grownBy w' v.ownBlock ∧ (v.ownBlock = some g ∨ W.heap.size < g) := by
  obtain ⟨W1, hW1⟩ : ∃ W1, W1 = W.alloc (.cells #[.int .i64 x.1, .string x.2] 30) := ⟨_, rfl⟩
  have b1 : Below W.heap.size W W1 := by rw [hW1]; exact (Below.refl _ W).alloc (Nat.le_refl _) _
  have s1 : W1.heap.size = W.heap.size + 1 := by rw [hW1]; simp
  obtain ⟨i, i1, i0⟩ := Option.map_eq_some_iff.1 en_info
  have i2 : i.zero = some (.agg #[.int .i64 0, .string ⟨#[]⟩]) := congrArg (·.1) i0
  have i3 : i.bytes = 24 := congrArg (·.2.1) i0
  have i4 : i.size = 2 := congrArg (·.2.2) i0
  have hml : maxLen = 9223372036854775807 := by decide
  obtain ⟨g, cap, w', hr, own, gr, hat, hlt⟩ := run_append_lies (P := Tryz.prog) W1 31 31 B 30 i (.agg #[.int .i64 0, .string ⟨#[]⟩]) 2 24 Tryz.underlying31 i1 i2 i4 i3 rfl (by omega) v L.length (encE L) (by rw [hW1]; exact h.alloc _) ⟨W.heap.size, 0, none⟩ 1 1 (encE [x]) rfl (fun j u hj => by
    rw [hW1]
    rcases j with _ | _ | j <;> simp [encE] at hj <;> (try (subst hj; simp [go_sem]))) (encE_one _) (by omega) (by omega) (by omega) (by omega) _ rfl
  refine ⟨g, cap, w', by rw [← hW1]; exact hr, ?_, ⟨gr.os.trans b1.os, gr.tape.trans b1.tape, gr.output.trans b1.output, Nat.le_trans b1.size gr.size, fun k hk q => by rw [gr.block k (Nat.lt_of_lt_of_le hk b1.size) q]; exact b1.block k hk⟩, by rcases hat with e | e; exact Or.inl e; exact Or.inr (by omega)⟩
  rw [List.length_append, List.length_singleton, encE_append]; exact own
set_option maxRecDepth 100000 in
set_option maxHeartbeats 8000000 in
theorem push_any {w : World} {B hp mb : Nat} {most : Bool} {v : Value} {f : ByteArray → Option Nat} {L : List Ent} {mv : Int} (h : HS w B hp mb most v none f L mv) (hBw : B ≤ w.heap.size) (x : Ent) (hx : x.2.size ≤ 9223372036854775807) (hf : f x.2 = none) (hn : L.length + 1 ≤ 1099511627776) :
    Calls Tryz.prog 21 #[.pointer (some ⟨hp, 0, none⟩), eV x] w fun e w' => e = .returned undef ∧ PU w B hp mb most v (upd f x.2 (some L.length)) (L ++ [x]) mv w' := by
  obtain ⟨K, hK⟩ : ∃ K, K = w.heap.size := ⟨_, rfl⟩
  obtain ⟨W1, hW1⟩ : ∃ W1, W1 = w.alloc (.cells #[.int .i64 x.1, .string x.2] 30) := ⟨_, rfl⟩
  have b1 : Below w.heap.size w W1 := by rw [hW1]; exact (Below.refl _ w).alloc (Nat.le_refl _) _
  have s1 : W1.heap.size = K + 1 := by rw [hW1, hK]; simp
  have x1 : W1.cell? ⟨K, 0, none⟩ = some (.int .i64 x.1) := by rw [hW1, hK]; simp [go_sem]
  have x2 : W1.cell? ⟨K, 1, none⟩ = some (.string x.2) := by rw [hW1, hK]; simp [go_sem]
  have h1 := h.below b1
  have hl := h.hl
  have hne := h.hw.ne
  obtain ⟨av, capv, rfl, _⟩ := h.form
  obtain ⟨g, cap2, w8, rA, row8, g8, hat⟩ := grow_fact (W := W1.drew) h1.row.drew (by show B ≤ W1.heap.size; omega) x hn
  have hB : hp ≠ g := by
    rcases hat with q | q
    · exact (h.hw.sp g q).1
    · have : W1.drew.heap.size = W1.heap.size := rfl
      omega
  have mB : mb ≠ g := by
    rcases hat with q | q
    · exact (h.hw.sp g q).2
    · have : W1.drew.heap.size = W1.heap.size := rfl
      obtain ⟨_, m', _⟩ := h.mp
      have := m'.lt
      omega
  have hwn : HW (some g) hp mb := ⟨fun k e => by injection e with e; subst e; exact ⟨hB, mB⟩, hne⟩
  have rbB : ∀ k, (Value.slice av L.length capv).ownBlock = some k → B ≤ k ∧ k < w.heap.size := fun k e => World.ownsRow.lt h.row k e
  have gB : B ≤ g := (World.ownsRow.lt row8 g rfl).1
  have k8 : ∀ b, b < W1.heap.size → (∀ k, (Value.slice av L.length capv).ownBlock = some k → k ≠ b) → w8.heap[b]? = W1.heap[b]? := fun b hb q => g8.block b hb (fun e => q b e.symm rfl)
  have k8K : w8.heap[K]? = W1.heap[K]? := k8 K (by omega) (fun k e => by have := (rbB k e).2; omega)
  have k8h : w8.heap[hp]? = W1.heap[hp]? := k8 hp (by omega) (fun k e => (h.hw.sp k e).1.symm)
  have sz8 : W1.heap.size ≤ w8.heap.size := g8.size
  -- the header is stored
  obtain ⟨W3, hW3⟩ : ∃ W3, W3 = w8.setCell ⟨hp, 0, none⟩ (.slice (some ⟨g, 0, none⟩) (L.length + 1) cap2) := ⟨_, rfl⟩
  have o3 : w8.grownBy W3 (some hp) := by
    rw [hW3]
    exact ⟨rfl, rfl, rfl, by simp, fun k hk q => Below.heap_setCell _ _ _ _ (fun e => q (by rw [e]))⟩
  have c8 : ∀ o, w8.cell? ⟨hp, o, none⟩ = W1.cell? ⟨hp, o, none⟩ := fun o => World.cell?_of_block (w := W1) (a := ⟨hp, o, none⟩) k8h
  have z8 : ∀ o, w8.frozen? ⟨hp, o, none⟩ = W1.frozen? ⟨hp, o, none⟩ := fun o => by simp [World.frozen?, k8h]
  have d0 : W3.cell? ⟨hp, 0, none⟩ = some (.slice (some ⟨g, 0, none⟩) (L.length + 1) cap2) := by rw [hW3]; exact World.cell?_setCell_same _ _ _ (by rw [c8]; exact h1.c0)
  have dO : ∀ o, o ≠ 0 → W3.cell? ⟨hp, o, none⟩ = W1.cell? ⟨hp, o, none⟩ := fun o ho => by rw [hW3, World.cell?_setCell_other _ _ _ _ (by intro e; injection e; omega), c8]
  have row3 : W3.ownsRow B 30 2 (.slice (some ⟨g, 0, none⟩) (L.length + 1) cap2) (L ++ [x]).length (encE (L ++ [x])) := by rw [hW3]; exact ownsRow_setCell_ne row8 _ (fun k e => by injection e with e; subst e; exact hB) _
  obtain ⟨c, mp, hc⟩ := h1.mp
  have mlt : mb < w.heap.size := by obtain ⟨c', m', _⟩ := h.mp; exact m'.lt
  have mp3 : MP W3.drew mb f c := mp.keep (by
    show W3.heap[mb]? = _
    rw [o3.block mb (by omega) (fun e => hne (by injection e with e; exact e.symm))]
    exact k8 mb (by omega) (fun k e => (h.hw.sp k e).2.symm))
  have y1 : W3.cell? ⟨K, 0, none⟩ = some (.int .i64 x.1) := by rw [World.cell?_of_block (w := w8) (a := ⟨K, 0, none⟩) (o3.block K (by omega) (fun e => by injection e; omega)), World.cell?_of_block (w := W1) (a := ⟨K, 0, none⟩) k8K]; exact x1
  have y2 : W3.cell? ⟨K, 1, none⟩ = some (.string x.2) := by rw [World.cell?_of_block (w := w8) (a := ⟨K, 1, none⟩) (o3.block K (by omega) (fun e => by injection e; omega)), World.cell?_of_block (w := W1) (a := ⟨K, 1, none⟩) k8K]; exact x2
  have hl3 : hp < W3.heap.size := Nat.lt_of_lt_of_le (Nat.lt_of_lt_of_le h1.hl sz8) o3.size
  have LL : (L ++ [x]).length = L.length + 1 := by simp
  have Lset : (L ++ [x]).set L.length x = L ++ [x] := by rw [List.set_append_right _ _ (Nat.le_refl _), Nat.sub_self]; rfl
  have FR : HF hp mb (Value.slice av L.length capv).ownBlock w W3 := ((HF.below b1).trans (HF.grown (show W1.grownBy w8 _ from ⟨g8.os, g8.tape, g8.output, g8.size, g8.block⟩) (Or.inr (Or.inr rfl)))).trans (HF.grown o3 (Or.inl rfl))
  have CL : Hid (Calls Tryz.prog 49 #[.pointer (some ⟨hp, 0, none⟩), .int .i64 (L.length : Int), eV x] W3.drew fun e w' => e = .returned undef ∧ LY W3.drew hp mb (.slice (some ⟨g, 0, none⟩) (L.length + 1) cap2) B (L ++ [x]) (upd f x.2 (some L.length)) (L.length + 1) w') := by
    have := lay_any (w := W3.drew) hwn hl3 d0 (by show W3.cell? _ = _; rw [dO 1 (by omega)]; exact h1.c1) row3.drew mp3 L.length (by rw [LL]; omega) (by rw [LL]; omega) x hx (by rw [hf]; show c + 1 ≤ L.length + 1; have hc' : c ≤ L.length + 0 := hc; omega) (by have hc' : c ≤ L.length + 0 := hc; omega)
    rw [Lset] at this
    exact this
  have sL : Hid (∀ w', LY W3.drew hp mb (.slice (some ⟨g, 0, none⟩) (L.length + 1) cap2) B (L ++ [x]) (upd f x.2 (some L.length)) (L.length + 1) w' → w'.cell? ⟨hp, 0, none⟩ = some (.slice (some ⟨g, 0, none⟩) (L.length + 1) cap2) ∧ w'.cell? ⟨K, 0, none⟩ = some (.int .i64 x.1) ∧ w'.cell? ⟨K, 1, none⟩ = some (.string x.2)) := fun w' ly => by
    have sz3 : K < W3.heap.size := by have := o3.size; omega
    have kK : w'.heap[K]? = W3.heap[K]? := ly.fr.keep K sz3 (by omega) (by omega) (fun e => by
      have e2 : some K = some g := e
      injection e2 with e2
      rcases hat with q | q
      · have := (rbB g q).2; omega
      · have : W1.drew.heap.size = W1.heap.size := rfl
        omega)
    exact ⟨by rw [(ly.cs 0).1]; exact d0, by rw [World.cell?_of_block (w := W3) (a := ⟨K, 0, none⟩) kK]; exact y1, by rw [World.cell?_of_block (w := W3) (a := ⟨K, 1, none⟩) kK]; exact y2⟩
  have FIN : Hid (∀ w', LY W3.drew hp mb (.slice (some ⟨g, 0, none⟩) (L.length + 1) cap2) B (L ++ [x]) (upd f x.2 (some L.length)) (L.length + 1) w' → PU w B hp mb most (.slice av L.length capv) (upd f x.2 (some L.length)) (L ++ [x]) mv w') := fun w' ly => by
    have cs : ∀ o, o ≠ 0 → w'.cell? ⟨hp, o, none⟩ = W1.cell? ⟨hp, o, none⟩ := fun o ho => (ly.cs o).1.trans (dO o ho)
    have zs : ∀ o, w'.frozen? ⟨hp, o, none⟩ = W1.frozen? ⟨hp, o, none⟩ := fun o => by
      rw [(ly.cs o).2, show W3.drew.frozen? ⟨hp, o, none⟩ = w8.frozen? ⟨hp, o, none⟩ by rw [hW3]; exact World.frozen?_setCell _ _ _ _, z8]
    refine ⟨⟨.slice (some ⟨g, 0, none⟩) (L.length + 1) cap2, ⟨by rw [(ly.cs 0).1]; exact d0, by rw [cs 1 (by omega)]; exact h1.c1, by rw [cs 2 (by omega)]; exact h1.c2, by rw [cs 3 (by omega)]; exact h1.c3, by rw [zs]; exact h1.z0, by rw [zs]; exact h1.z3, ly.row, (by rw [LL]; exact ly.mp), h.pl.push hf, hwn, fun e he => ?_, Nat.lt_of_lt_of_le hl3 ly.fr.size, fun s hs => by cases hs⟩, ?_⟩, ?_⟩
    · rcases List.mem_append.1 he with q | q
      · exact h.nm e q
      · rw [List.mem_singleton.1 q]; exact hx
    · rcases hat with q | q
      · exact Or.inl q.symm
      · exact Or.inr ⟨g, rfl, by have : W1.drew.heap.size = W1.heap.size := rfl; omega⟩
    · refine ⟨Nat.le_trans FR.size ly.fr.size, fun k hk q1 q2 q3 => ?_, ly.fr.same.1.trans FR.same.1, ly.fr.same.2.1.trans FR.same.2.1, ly.fr.same.2.2.trans FR.same.2.2⟩
      rw [ly.fr.keep k (Nat.lt_of_lt_of_le hk FR.size) q1 q2 (fun e => by
        have e2 : some k = some g := e
        injection e2 with e2
        rcases hat with q | q
        · exact q3 (by rw [q, e2])
        · have : W1.drew.heap.size = W1.heap.size := rfl
          omega)]
      exact FR.keep k hk q1 q2 q3
  unfold eV at CL
  -- the region's worlds
  have sS : Hid (W1.drew.cell? ⟨K, 0, none⟩ = some (.int .i64 x.1) ∧ W1.drew.cell? ⟨K, 1, none⟩ = some (.string x.2)) := ⟨x1, x2⟩
  have bA : Below W1.heap.size W1.drew (W1.drew.alloc (.cells #[.int .i64 x.1, .string x.2] 30)) := (Below.refl _ W1.drew).alloc (Nat.le_refl _) _
  have Kl : K < W1.heap.size := by omega
  have hl1 : hp < W1.heap.size := h1.hl
  have sA : Hid ((W1.drew.alloc (.cells #[.int .i64 x.1, .string x.2] 30)).cell? ⟨K, 0, none⟩ = some (.int .i64 x.1) ∧ (W1.drew.alloc (.cells #[.int .i64 x.1, .string x.2] 30)).cell? ⟨K, 1, none⟩ = some (.string x.2)) := ⟨by rw [bA.cell (p := ⟨K, 0, none⟩) Kl]; exact x1, by rw [bA.cell (p := ⟨K, 1, none⟩) Kl]; exact x2⟩
  have sB : Hid (w8.cell? ⟨K, 0, none⟩ = some (.int .i64 x.1) ∧ w8.cell? ⟨K, 1, none⟩ = some (.string x.2)) := ⟨by rw [World.cell?_of_block (w := W1) (a := ⟨K, 0, none⟩) k8K]; exact x1, by rw [World.cell?_of_block (w := W1) (a := ⟨K, 1, none⟩) k8K]; exact x2⟩
  have sC : Hid ((w8.setCell ⟨hp, 0, none⟩ (.slice (some ⟨g, 0, none⟩) (L.length + 1) cap2)).cell? ⟨K, 0, none⟩ = some (.int .i64 x.1) ∧ (w8.setCell ⟨hp, 0, none⟩ (.slice (some ⟨g, 0, none⟩) (L.length + 1) cap2)).cell? ⟨K, 1, none⟩ = some (.string x.2)) := by rw [← hW3]; exact ⟨y1, y2⟩
  have rF : Hid (∀ W, W = W1.drew.alloc (.cells #[.int .i64 x.1, .string x.2] 30) → (Builtin.append_ #[31, 31] 31 #[.slice av L.length capv, .slice (some ⟨W1.heap.size, 0, none⟩) 1 1]).run Tryz.prog W = .ok (.slice (some ⟨g, 0, none⟩) (L.length + 1) cap2) w8) := fun W e => by subst e; exact rA
  have c0 : W1.cell? ⟨hp, 0, none⟩ = some (.slice av L.length capv) := h1.c0
  have c0a : (W1.drew.alloc (.cells #[.int .i64 x.1, .string x.2] 30)).cell? ⟨hp, 0, none⟩ = some (.slice av L.length capv) := by rw [bA.cell (p := ⟨hp, 0, none⟩) hl1]; exact h1.c0
  have c0b : w8.cell? ⟨hp, 0, none⟩ = some (.slice av L.length capv) := by rw [c8]; exact h1.c0
  have z0b : w8.frozen? ⟨hp, 0, none⟩ = false := by rw [z8]; exact h1.z0
  have sM : Hid (W3.cell? ⟨hp, 0, none⟩ = some (.slice (some ⟨g, 0, none⟩) (L.length + 1) cap2) ∧ W3.cell? ⟨K, 0, none⟩ = some (.int .i64 x.1) ∧ W3.cell? ⟨K, 1, none⟩ = some (.string x.2)) := ⟨d0, y1, y2⟩
  have hW3H : Hid (W3 = w8.setCell ⟨hp, 0, none⟩ (.slice (some ⟨g, 0, none⟩) (L.length + 1) cap2)) := hW3
  obtain ⟨nw, nw2, nw3, nw4⟩ := nums_n L.length hn
  unfold eV
  generalize upd f x.2 (some L.length) = F2 at *
  generalize L ++ [x] = L2 at *
  generalize L.length = n at *
  clear h h1 hx hf hn hBw hB mB hne row8 g8 hat rbB gB k8 k8K k8h sz8 o3 c8 z8 d0 dO row3 mp mp3 hc mlt y1 y2 hl3 LL Lset FR bA rA x1 x2 b1 s1 hW3
  go_enter Tryz.func21, Tryz.ntmps21
  go_wp2_with fail
  rw [← hW1, ← hK]
  clear hW1 hK
  refine wp_region_noPanic ?_
  refine wp_region_held_drew (S := fun W => W.cell? ⟨K, 0, none⟩ = some (.int .i64 x.1) ∧ W.cell? ⟨K, 1, none⟩ = some (.string x.2)) (by kernel_rfl) sS.out (fun hHeld => ?_)
  refine wpAnyH_take (i := 0) (oi := _) (v := ?_) rfl (by kernel_rfl) (by kernel_rfl) (by kernel_rfl) (fun _ _ _ h => h) (Or.inl ⟨by rfl, ?_⟩) (by assumption) ?_
  rotate_left 1
  · (intro w0 hSw; (try dsimp only at hSw); obtain ⟨s1, s2⟩ := hSw; go_simp; try with_reducible rfl)
  (try simp only [List.getElem_toArray, List.getElem_cons_succ, List.getElem_cons_zero]); (try simp only [Act.put, List.setIfInBounds_toArray, List.set_cons_zero, List.set_cons_succ])
  refine wpAnyH_take (i := 1) (oi := _) (v := ?_) rfl (by kernel_rfl) (by kernel_rfl) (by kernel_rfl) (fun _ _ _ h => h) (Or.inl ⟨by rfl, ?_⟩) (by assumption) ?_
  rotate_left 1
  · (intro w0 hSw; (try dsimp only at hSw); obtain ⟨s1, s2⟩ := hSw; go_simp; try with_reducible rfl)
  (try simp only [List.getElem_toArray, List.getElem_cons_succ, List.getElem_cons_zero]); (try simp only [Act.put, List.setIfInBounds_toArray, List.set_cons_zero, List.set_cons_succ])
  refine wpAnyH_take (i := 2) (oi := _) (v := ?_) rfl (by kernel_rfl) (by kernel_rfl) (by kernel_rfl) (fun _ _ _ h => h) (Or.inl ⟨by rfl, ?_⟩) (by assumption) ?_
  rotate_left 1
  · (intro w0 hSw; (try dsimp only at hSw); obtain ⟨s1, s2⟩ := hSw; go_simp; try with_reducible rfl)
  (try simp only [List.getElem_toArray, List.getElem_cons_succ, List.getElem_cons_zero]); (try simp only [Act.put, List.setIfInBounds_toArray, List.set_cons_zero, List.set_cons_succ])
  refine wpAnyH_take (i := 3) (oi := _) (v := ?_) rfl (by kernel_rfl) (by kernel_rfl) (by kernel_rfl) (fun _ _ _ h => h) (Or.inl ⟨by rfl, ?_⟩) (by assumption) ?_
  rotate_left 1
  · (intro w0 hSw; (try dsimp only at hSw); obtain ⟨s1, s2⟩ := hSw; go_simp; try with_reducible rfl)
  (try simp only [List.getElem_toArray, List.getElem_cons_succ, List.getElem_cons_zero]); (try simp only [Act.put, List.setIfInBounds_toArray, List.set_cons_zero, List.set_cons_succ])
  refine wpAnyH_take (i := 5) (oi := _) (v := ?_) rfl (by kernel_rfl) (by kernel_rfl) (by kernel_rfl) (fun _ _ _ h => h) (Or.inl ⟨by rfl, ?_⟩) (by assumption) ?_
  rotate_left 1
  · (intro w0 hSw; (try dsimp only at hSw); obtain ⟨s1, s2⟩ := hSw; go_simp; try with_reducible rfl)
  (try simp only [List.getElem_toArray, List.getElem_cons_succ, List.getElem_cons_zero]); (try simp only [Act.put, List.setIfInBounds_toArray, List.set_cons_zero, List.set_cons_succ])
  refine wpAnyH_ready (rs := [4, 6]) (by kernel_rfl) (by simp) ?_
  refine AllReadyH.cons (o := _) rfl (fun K1 hK => ?_) ?_
  · go_simp
    try dsimp only
    refine hK _ _ sS.out (fun hHeld => ?_)
    clear hK K1
    (try simp only [List.getElem_toArray, List.getElem_cons_succ, List.getElem_cons_zero]); (try simp only [Act.put, List.setIfInBounds_toArray, List.set_cons_zero, List.set_cons_succ])
    refine wpAnyH_ready (rs := [6]) (by kernel_rfl) (by simp) ?_
    refine AllReadyH.cons (o := _) rfl (fun K1 hK => ?_) AllReadyH.nil
    go_simp
    try dsimp only
    refine hK _ _ sA.out (fun hHeld => ?_)
    clear hK K1
    (try simp only [List.getElem_toArray, List.getElem_cons_succ, List.getElem_cons_zero]); (try simp only [Act.put, List.setIfInBounds_toArray, List.set_cons_zero, List.set_cons_succ])
    refine wpAnyH_ready (rs := [7]) (by kernel_rfl) (by simp) ?_
    refine AllReadyH.cons (o := _) rfl (fun K1 hK => ?_) AllReadyH.nil
    refine step_append_runH rfl (.tmp 8) (.tmp 10) 31 rfl _ _ _ _ rfl rfl (rF.out _ rfl) ?_
    refine hK _ _ sB.out (fun hHeld => ?_)
    clear hK K1
    (try simp only [List.getElem_toArray, List.getElem_cons_succ, List.getElem_cons_zero]); (try simp only [Act.put, List.setIfInBounds_toArray, List.set_cons_zero, List.set_cons_succ])
    refine wpAnyH_take (i := 8) (oi := _) (v := ?_) rfl (by kernel_rfl) (by kernel_rfl) (by kernel_rfl) (fun _ _ _ h => h) (Or.inl ⟨by rfl, ?_⟩) (by assumption) ?_
    rotate_left 1
    · (intro w0 hSw; (try dsimp only at hSw); obtain ⟨s1, s2⟩ := hSw; go_simp; try with_reducible rfl)
    (try simp only [List.getElem_toArray, List.getElem_cons_succ, List.getElem_cons_zero]); (try simp only [Act.put, List.setIfInBounds_toArray, List.set_cons_zero, List.set_cons_succ])
    refine wpAnyH_take (i := 9) (oi := _) (v := ?_) rfl (by kernel_rfl) (by kernel_rfl) (by kernel_rfl) (fun _ _ _ h => h) (Or.inl ⟨by rfl, ?_⟩) (by assumption) ?_
    rotate_left 1
    · (intro w0 hSw; (try dsimp only at hSw); obtain ⟨s1, s2⟩ := hSw; go_simp; try with_reducible rfl)
    (try simp only [List.getElem_toArray, List.getElem_cons_succ, List.getElem_cons_zero]); (try simp only [Act.put, List.setIfInBounds_toArray, List.set_cons_zero, List.set_cons_succ])
    refine wpAnyH_ready (rs := [10]) (by kernel_rfl) (by simp) ?_
    refine AllReadyH.cons (o := _) rfl (fun K1 hK => ?_) AllReadyH.nil
    go_simp
    try dsimp only
    refine hK _ _ sC.out (fun hHeld => ?_)
    clear hK K1
    (try simp only [List.getElem_toArray, List.getElem_cons_succ, List.getElem_cons_zero]); (try simp only [Act.put, List.setIfInBounds_toArray, List.set_cons_zero, List.set_cons_succ])
    refine wpAnyH_done (by kernel_rfl) ?_ _
    refine NoPanic.normal ?_
    clear sS sA sB sC rF c0 c0a c0b z0b hHeld
    go_wp2_with fail
    rw [← hW3H.out]
    clear hW3H
    obtain ⟨m0, m1, m2⟩ := sM.out
    clear sM
    refine wp_region_noPanic ?_
    refine wp_region_held_drew (S := fun W => W.cell? ⟨hp, 0, none⟩ = some (.slice (some ⟨g, 0, none⟩) (n + 1) cap2) ∧ W.cell? ⟨K, 0, none⟩ = some (.int .i64 x.1) ∧ W.cell? ⟨K, 1, none⟩ = some (.string x.2)) (by kernel_rfl) ⟨m0, m1, m2⟩ (fun hHeld => ?_)
    refine wpAnyH_take (i := 0) (oi := _) (v := ?_) rfl (by kernel_rfl) (by kernel_rfl) (by kernel_rfl) (fun _ _ _ h => h) (Or.inl ⟨by rfl, ?_⟩) (by assumption) ?_
    rotate_left 1
    · (intro w0 hSw; (try dsimp only at hSw); obtain ⟨s1, s2, s3⟩ := hSw; go_simp; try with_reducible rfl)
    (try simp only [List.getElem_toArray, List.getElem_cons_succ, List.getElem_cons_zero]); (try simp only [Act.put, List.setIfInBounds_toArray, List.set_cons_zero, List.set_cons_succ])
    refine wpAnyH_take (i := 1) (oi := _) (v := ?_) rfl (by kernel_rfl) (by kernel_rfl) (by kernel_rfl) (fun _ _ _ h => h) (Or.inl ⟨by rfl, ?_⟩) (by assumption) ?_
    rotate_left 1
    · (intro w0 hSw; (try dsimp only at hSw); obtain ⟨s1, s2, s3⟩ := hSw; go_simp; try with_reducible rfl)
    (try simp only [List.getElem_toArray, List.getElem_cons_succ, List.getElem_cons_zero]); (try simp only [Act.put, List.setIfInBounds_toArray, List.set_cons_zero, List.set_cons_succ])
    refine wpAnyH_take (i := 2) (oi := _) (v := ?_) rfl (by kernel_rfl) (by kernel_rfl) (by kernel_rfl) (fun _ _ _ h => h) (Or.inl ⟨by rfl, ?_⟩) (by assumption) ?_
    rotate_left 1
    · (intro w0 hSw; (try dsimp only at hSw); obtain ⟨s1, s2, s3⟩ := hSw; go_simp; try with_reducible rfl)
    (try simp only [List.getElem_toArray, List.getElem_cons_succ, List.getElem_cons_zero]); (try simp only [Act.put, List.setIfInBounds_toArray, List.set_cons_zero, List.set_cons_succ])
    refine wpAnyH_take (i := 3) (oi := _) (v := ?_) rfl (by kernel_rfl) (by kernel_rfl) (by kernel_rfl) (fun _ _ _ h => h) (Or.inl ⟨by rfl, ?_⟩) (by assumption) ?_
    rotate_left 1
    · (intro w0 hSw; (try dsimp only at hSw); obtain ⟨s1, s2, s3⟩ := hSw; go_simp; try with_reducible rfl)
    (try simp only [List.getElem_toArray, List.getElem_cons_succ, List.getElem_cons_zero]); (try simp only [Act.put, List.setIfInBounds_toArray, List.set_cons_zero, List.set_cons_succ])
    refine wpAnyH_take (i := 4) (oi := _) (v := ?_) rfl (by kernel_rfl) (by kernel_rfl) (by kernel_rfl) (fun _ _ _ h => h) (Or.inl ⟨by rfl, ?_⟩) (by assumption) ?_
    rotate_left 1
    · (intro w0 hSw; (try dsimp only at hSw); obtain ⟨s1, s2, s3⟩ := hSw; go_simp; try with_reducible rfl)
    (try simp only [List.getElem_toArray, List.getElem_cons_succ, List.getElem_cons_zero]); (try simp only [Act.put, List.setIfInBounds_toArray, List.set_cons_zero, List.set_cons_succ])
    refine wpAnyH_take (i := 5) (oi := _) (v := ?_) rfl (by kernel_rfl) (by kernel_rfl) (by kernel_rfl) (fun _ _ _ h => h) (Or.inl ⟨by rfl, ?_⟩) (by assumption) ?_
    rotate_left 1
    · (intro w0 hSw; (try dsimp only at hSw); obtain ⟨s1, s2, s3⟩ := hSw; go_simp; try with_reducible rfl)
    (try simp only [List.getElem_toArray, List.getElem_cons_succ, List.getElem_cons_zero]); (try simp only [Act.put, List.setIfInBounds_toArray, List.set_cons_zero, List.set_cons_succ])
    refine wpAnyH_take (i := 6) (oi := _) (v := ?_) rfl (by kernel_rfl) (by kernel_rfl) (by kernel_rfl) (fun _ _ _ h => h) (Or.inl ⟨by rfl, ?_⟩) (by assumption) ?_
    rotate_left 1
    · (intro w0 hSw; (try dsimp only at hSw); obtain ⟨s1, s2, s3⟩ := hSw; go_simp; try with_reducible rfl)
    (try simp only [List.getElem_toArray, List.getElem_cons_succ, List.getElem_cons_zero]); (try simp only [Act.put, List.setIfInBounds_toArray, List.set_cons_zero, List.set_cons_succ])
    refine wpAnyH_take (i := 7) (oi := _) (v := ?_) rfl (by kernel_rfl) (by kernel_rfl) (by kernel_rfl) (fun _ _ _ h => h) (Or.inl ⟨by rfl, ?_⟩) (by assumption) ?_
    rotate_left 1
    · (intro w0 hSw; (try dsimp only at hSw); obtain ⟨s1, s2, s3⟩ := hSw; go_simp; try with_reducible rfl)
    (try simp only [List.getElem_toArray, List.getElem_cons_succ, List.getElem_cons_zero]); (try simp only [Act.put, List.setIfInBounds_toArray, List.set_cons_zero, List.set_cons_succ])
    refine wpAnyH_ready (rs := [8]) (by kernel_rfl) (by simp) ?_
    refine AllReadyH.cons (o := _) rfl (fun K hK => ?_) AllReadyH.nil
    go_simp
    refine Calls.mono (CL.out) ?_
    rintro e w' ⟨rfl, BB⟩
    try dsimp only
    refine hK _ _ ?_ (fun hHeld => ?_)
    · exact (sL.out _ BB)
    clear hK K
    (try simp only [List.getElem_toArray, List.getElem_cons_succ, List.getElem_cons_zero]); (try simp only [Act.put, List.setIfInBounds_toArray, List.set_cons_zero, List.set_cons_succ])
    refine wpAnyH_done (by kernel_rfl) ?_ _
    refine NoPanic.normal ?_
    have fin : Hid _ := FIN.out w' BB
    clear BB FIN CL sL
    go_wp2_with fail
    first | go_end0 | (simp only [Exit.inBlock, Exit.then]; refine bodyPost_ret (results_none rfl _ _ _) rfl ?_) | refine bodyPost_ret (results_none rfl _ _ _) rfl ?_
    exact ⟨rfl, fin.out⟩
  refine AllReadyH.cons (o := _) rfl (fun K1 hK => ?_) AllReadyH.nil
  go_simp
  try dsimp only
  refine hK _ _ sA.out (fun hHeld => ?_)
  clear hK K1
  (try simp only [List.getElem_toArray, List.getElem_cons_succ, List.getElem_cons_zero]); (try simp only [Act.put, List.setIfInBounds_toArray, List.set_cons_zero, List.set_cons_succ])
  refine wpAnyH_ready (rs := [4]) (by kernel_rfl) (by simp) ?_
  refine AllReadyH.cons (o := _) rfl (fun K1 hK => ?_) AllReadyH.nil
  go_simp
  try dsimp only
  refine hK _ _ sA.out (fun hHeld => ?_)
  clear hK K1
  (try simp only [List.getElem_toArray, List.getElem_cons_succ, List.getElem_cons_zero]); (try simp only [Act.put, List.setIfInBounds_toArray, List.set_cons_zero, List.set_cons_succ])
  refine wpAnyH_ready (rs := [7]) (by kernel_rfl) (by simp) ?_
  refine AllReadyH.cons (o := _) rfl (fun K1 hK => ?_) AllReadyH.nil
  refine step_append_runH rfl (.tmp 8) (.tmp 10) 31 rfl _ _ _ _ rfl rfl (rF.out _ rfl) ?_
  refine hK _ _ sB.out (fun hHeld => ?_)
  clear hK K1
  (try simp only [List.getElem_toArray, List.getElem_cons_succ, List.getElem_cons_zero]); (try simp only [Act.put, List.setIfInBounds_toArray, List.set_cons_zero, List.set_cons_succ])
  refine wpAnyH_take (i := 8) (oi := _) (v := ?_) rfl (by kernel_rfl) (by kernel_rfl) (by kernel_rfl) (fun _ _ _ h => h) (Or.inl ⟨by rfl, ?_⟩) (by assumption) ?_
  rotate_left 1
  · (intro w0 hSw; (try dsimp only at hSw); obtain ⟨s1, s2⟩ := hSw; go_simp; try with_reducible rfl)
  (try simp only [List.getElem_toArray, List.getElem_cons_succ, List.getElem_cons_zero]); (try simp only [Act.put, List.setIfInBounds_toArray, List.set_cons_zero, List.set_cons_succ])
  refine wpAnyH_take (i := 9) (oi := _) (v := ?_) rfl (by kernel_rfl) (by kernel_rfl) (by kernel_rfl) (fun _ _ _ h => h) (Or.inl ⟨by rfl, ?_⟩) (by assumption) ?_
  rotate_left 1
  · (intro w0 hSw; (try dsimp only at hSw); obtain ⟨s1, s2⟩ := hSw; go_simp; try with_reducible rfl)
  (try simp only [List.getElem_toArray, List.getElem_cons_succ, List.getElem_cons_zero]); (try simp only [Act.put, List.setIfInBounds_toArray, List.set_cons_zero, List.set_cons_succ])
  refine wpAnyH_ready (rs := [10]) (by kernel_rfl) (by simp) ?_
  refine AllReadyH.cons (o := _) rfl (fun K1 hK => ?_) AllReadyH.nil
  go_simp
  try dsimp only
  refine hK _ _ sC.out (fun hHeld => ?_)
  clear hK K1
  (try simp only [List.getElem_toArray, List.getElem_cons_succ, List.getElem_cons_zero]); (try simp only [Act.put, List.setIfInBounds_toArray, List.set_cons_zero, List.set_cons_succ])
  refine wpAnyH_done (by kernel_rfl) ?_ _
  refine NoPanic.normal ?_
  clear sS sA sB sC rF c0 c0a c0b z0b hHeld
  go_wp2_with fail
  rw [← hW3H.out]
  clear hW3H
  obtain ⟨m0, m1, m2⟩ := sM.out
  clear sM
  refine wp_region_noPanic ?_
  refine wp_region_held_drew (S := fun W => W.cell? ⟨hp, 0, none⟩ = some (.slice (some ⟨g, 0, none⟩) (n + 1) cap2) ∧ W.cell? ⟨K, 0, none⟩ = some (.int .i64 x.1) ∧ W.cell? ⟨K, 1, none⟩ = some (.string x.2)) (by kernel_rfl) ⟨m0, m1, m2⟩ (fun hHeld => ?_)
  refine wpAnyH_take (i := 0) (oi := _) (v := ?_) rfl (by kernel_rfl) (by kernel_rfl) (by kernel_rfl) (fun _ _ _ h => h) (Or.inl ⟨by rfl, ?_⟩) (by assumption) ?_
  rotate_left 1
  · (intro w0 hSw; (try dsimp only at hSw); obtain ⟨s1, s2, s3⟩ := hSw; go_simp; try with_reducible rfl)
  (try simp only [List.getElem_toArray, List.getElem_cons_succ, List.getElem_cons_zero]); (try simp only [Act.put, List.setIfInBounds_toArray, List.set_cons_zero, List.set_cons_succ])
  refine wpAnyH_take (i := 1) (oi := _) (v := ?_) rfl (by kernel_rfl) (by kernel_rfl) (by kernel_rfl) (fun _ _ _ h => h) (Or.inl ⟨by rfl, ?_⟩) (by assumption) ?_
  rotate_left 1
  · (intro w0 hSw; (try dsimp only at hSw); obtain ⟨s1, s2, s3⟩ := hSw; go_simp; try with_reducible rfl)
  (try simp only [List.getElem_toArray, List.getElem_cons_succ, List.getElem_cons_zero]); (try simp only [Act.put, List.setIfInBounds_toArray, List.set_cons_zero, List.set_cons_succ])
  refine wpAnyH_take (i := 2) (oi := _) (v := ?_) rfl (by kernel_rfl) (by kernel_rfl) (by kernel_rfl) (fun _ _ _ h => h) (Or.inl ⟨by rfl, ?_⟩) (by assumption) ?_
  rotate_left 1
  · (intro w0 hSw; (try dsimp only at hSw); obtain ⟨s1, s2, s3⟩ := hSw; go_simp; try with_reducible rfl)
  (try simp only [List.getElem_toArray, List.getElem_cons_succ, List.getElem_cons_zero]); (try simp only [Act.put, List.setIfInBounds_toArray, List.set_cons_zero, List.set_cons_succ])
  refine wpAnyH_take (i := 3) (oi := _) (v := ?_) rfl (by kernel_rfl) (by kernel_rfl) (by kernel_rfl) (fun _ _ _ h => h) (Or.inl ⟨by rfl, ?_⟩) (by assumption) ?_
  rotate_left 1
  · (intro w0 hSw; (try dsimp only at hSw); obtain ⟨s1, s2, s3⟩ := hSw; go_simp; try with_reducible rfl)
  (try simp only [List.getElem_toArray, List.getElem_cons_succ, List.getElem_cons_zero]); (try simp only [Act.put, List.setIfInBounds_toArray, List.set_cons_zero, List.set_cons_succ])
  refine wpAnyH_take (i := 4) (oi := _) (v := ?_) rfl (by kernel_rfl) (by kernel_rfl) (by kernel_rfl) (fun _ _ _ h => h) (Or.inl ⟨by rfl, ?_⟩) (by assumption) ?_
  rotate_left 1
  · (intro w0 hSw; (try dsimp only at hSw); obtain ⟨s1, s2, s3⟩ := hSw; go_simp; try with_reducible rfl)
  (try simp only [List.getElem_toArray, List.getElem_cons_succ, List.getElem_cons_zero]); (try simp only [Act.put, List.setIfInBounds_toArray, List.set_cons_zero, List.set_cons_succ])
  refine wpAnyH_take (i := 5) (oi := _) (v := ?_) rfl (by kernel_rfl) (by kernel_rfl) (by kernel_rfl) (fun _ _ _ h => h) (Or.inl ⟨by rfl, ?_⟩) (by assumption) ?_
  rotate_left 1
  · (intro w0 hSw; (try dsimp only at hSw); obtain ⟨s1, s2, s3⟩ := hSw; go_simp; try with_reducible rfl)
  (try simp only [List.getElem_toArray, List.getElem_cons_succ, List.getElem_cons_zero]); (try simp only [Act.put, List.setIfInBounds_toArray, List.set_cons_zero, List.set_cons_succ])
  refine wpAnyH_take (i := 6) (oi := _) (v := ?_) rfl (by kernel_rfl) (by kernel_rfl) (by kernel_rfl) (fun _ _ _ h => h) (Or.inl ⟨by rfl, ?_⟩) (by assumption) ?_
  rotate_left 1
  · (intro w0 hSw; (try dsimp only at hSw); obtain ⟨s1, s2, s3⟩ := hSw; go_simp; try with_reducible rfl)
  (try simp only [List.getElem_toArray, List.getElem_cons_succ, List.getElem_cons_zero]); (try simp only [Act.put, List.setIfInBounds_toArray, List.set_cons_zero, List.set_cons_succ])
  refine wpAnyH_take (i := 7) (oi := _) (v := ?_) rfl (by kernel_rfl) (by kernel_rfl) (by kernel_rfl) (fun _ _ _ h => h) (Or.inl ⟨by rfl, ?_⟩) (by assumption) ?_
  rotate_left 1
  · (intro w0 hSw; (try dsimp only at hSw); obtain ⟨s1, s2, s3⟩ := hSw; go_simp; try with_reducible rfl)
  (try simp only [List.getElem_toArray, List.getElem_cons_succ, List.getElem_cons_zero]); (try simp only [Act.put, List.setIfInBounds_toArray, List.set_cons_zero, List.set_cons_succ])
  refine wpAnyH_ready (rs := [8]) (by kernel_rfl) (by simp) ?_
  refine AllReadyH.cons (o := _) rfl (fun K hK => ?_) AllReadyH.nil
  go_simp
  refine Calls.mono (CL.out) ?_
  rintro e w' ⟨rfl, BB⟩
  try dsimp only
  refine hK _ _ ?_ (fun hHeld => ?_)
  · exact (sL.out _ BB)
  clear hK K
  (try simp only [List.getElem_toArray, List.getElem_cons_succ, List.getElem_cons_zero]); (try simp only [Act.put, List.setIfInBounds_toArray, List.set_cons_zero, List.set_cons_succ])
  refine wpAnyH_done (by kernel_rfl) ?_ _
  refine NoPanic.normal ?_
  have fin : Hid _ := FIN.out w' BB
  clear BB FIN CL sL
  go_wp2_with fail
  first | go_end0 | (simp only [Exit.inBlock, Exit.then]; refine bodyPost_ret (results_none rfl _ _ _) rfl ?_) | refine bodyPost_ret (results_none rfl _ _ _) rfl ?_
  exact ⟨rfl, fin.out⟩
end Go.Proofs.YtboacnpbicedfaaGreatDoor.Hp

namespace Go.Proofs.YtboacnpbicedfaaGreatDoor.Hp
open Go.RowKit Go.Maps
set_option linter.unusedVariables false
set_option linter.unusedSimpArgs false
set_option maxRecDepth 100000
theorem fnew_any (c : Int) (h : (c == 0) = false) (w : World) : Calls Tryz.prog 20 #[.int .i64 c] w fun e w' => e = .returned (.iface 41 (.int .i64 c)) ∧ w' = w := by
  go_enter Tryz.func20, Tryz.ntmps20
  go_wp2
  go_ret
  exact ⟨rfl, rfl⟩
theorem nums_c (n cap : Nat) (h : n ≤ cap) : n ≤ cap ∧ (0 : Int) ≤ (n : Int) ∧ (n : Int) < (n : Int) + 1 ∧ (n : Int) ≤ (cap : Int) := ⟨h, by omega, by omega, by omega⟩
theorem len_any {w : World} {B hp mb : Nat} {most : Bool} {v : Value} {ex : Option ByteArray} {f : ByteArray → Option Nat} {L : List Ent} {mv : Int} (h : HS w B hp mb most v ex f L mv) :
    Calls Tryz.prog 40 #[.pointer (some ⟨hp, 0, none⟩)] w fun e w' => e = .returned (.int .i64 (L.length : Int)) ∧ w' = w := by
  obtain ⟨a, cap, rfl, _⟩ := h.form
  have c0 := h.c0
  clear h
  go_enter Tryz.func40, Tryz.ntmps40
  go_wp2_with fail
  go_ret
  exact ⟨rfl, rfl⟩
theorem moves_any {w : World} {B hp mb : Nat} {most : Bool} {v : Value} {ex : Option ByteArray} {f : ByteArray → Option Nat} {L : List Ent} {mv : Int} (h : HS w B hp mb most v ex f L mv) :
    Calls Tryz.prog 46 #[.pointer (some ⟨hp, 0, none⟩)] w fun e w' => e = .returned (.int .i64 mv) ∧ w' = w := by
  have c3 := h.c3
  clear h
  go_enter Tryz.func46, Tryz.ntmps46
  go_wp2_with fail
  go_ret
  exact ⟨rfl, rfl⟩
theorem find_none {w : World} {B hp mb : Nat} {most : Bool} {v : Value} {ex : Option ByteArray} {f : ByteArray → Option Nat} {L : List Ent} {mv : Int} (h : HS w B hp mb most v ex f L mv) (s : ByteArray) (hs : s.size ≤ 9223372036854775807) (hf : f s = none) :
    Calls Tryz.prog 61 #[.pointer (some ⟨hp, 0, none⟩), .string s] w fun e w' => e = .returned (.tuple #[.int .i64 0, .iface 41 (.int .i64 4)]) ∧ w' = w := by
  obtain ⟨c, mp, _⟩ := h.mp
  obtain ⟨x, r, _⟩ := mp.look s hs
  rw [hf] at r
  simp only [Option.isSome_none] at r
  have c1 := h.c1
  have kN : Hid (∀ W, Calls Tryz.prog 20 #[.int .i64 4] W fun e w' => e = .returned (.iface 41 (.int .i64 4)) ∧ w' = W) := fnew_any 4 (by decide)
  clear h mp hf
  go_enter Tryz.func61, Tryz.ntmps61
  go_wp2_with fail
  refine Calls.mono (kN.out _) ?_
  rintro e w1 ⟨rfl, hw1⟩
  subst hw1
  go_wp2_with fail
  simp [bodyPost, results, Tryz.results61, go_sem]
theorem find_some {w : World} {B hp mb : Nat} {most : Bool} {v : Value} {ex : Option ByteArray} {f : ByteArray → Option Nat} {L : List Ent} {mv : Int} (h : HS w B hp mb most v ex f L mv) (s : ByteArray) (hs : s.size ≤ 9223372036854775807) (i : Nat) (hf : f s = some i) :
    Calls Tryz.prog 61 #[.pointer (some ⟨hp, 0, none⟩), .string s] w fun e w' => e = .returned (.tuple #[.int .i64 (i : Int), .nilIface]) ∧ w' = w := by
  obtain ⟨c, mp, _⟩ := h.mp
  obtain ⟨x, r, hx⟩ := mp.look s hs
  rw [hf] at r
  simp only [Option.isSome_some] at r
  have c1 := h.c1
  have e1 := hx i hf
  subst e1
  clear h mp hf hx
  go_enter Tryz.func61, Tryz.ntmps61
  go_wp2_with fail
  simp [bodyPost, results, Tryz.results61, go_sem]
theorem top_none {w : World} {B hp mb : Nat} {most : Bool} {v : Value} {ex : Option ByteArray} {f : ByteArray → Option Nat} {mv : Int} (h : HS w B hp mb most v ex f [] mv) :
    Calls Tryz.prog 36 #[.pointer (some ⟨hp, 0, none⟩)] w fun e w' => e = .returned (.tuple #[eV (0, ⟨#[]⟩), .bool false]) ∧ Below w.heap.size w w' := by
  have CL : Hid (∀ W, Below w.heap.size w W → Calls Tryz.prog 40 #[.pointer (some ⟨hp, 0, none⟩)] W fun e w' => e = .returned (.int .i64 0) ∧ w' = W) := fun W hW => len_any (h.below hW)
  have b1 : Hid (Below w.heap.size w (w.alloc (.cells #[.int .i64 0, .string ⟨#[]⟩] 30))) := (Below.refl _ w).alloc (Nat.le_refl _) _
  clear h
  unfold eV
  go_enter Tryz.func36, Tryz.ntmps36
  go_wp2_with fail
  refine Calls.mono (CL.out _ b1.out) ?_
  rintro e w1 ⟨rfl, hw1⟩
  subst hw1
  go_wp2_with fail
  simp [bodyPost, results, Tryz.results36, go_sem]
  exact b1.out
theorem top_some {w : World} {B hp mb : Nat} {most : Bool} {v : Value} {ex : Option ByteArray} {f : ByteArray → Option Nat} {L : List Ent} {mv : Int} (h : HS w B hp mb most v ex f L mv) (hL : 0 < L.length) :
    Calls Tryz.prog 36 #[.pointer (some ⟨hp, 0, none⟩)] w fun e w' => e = .returned (.tuple #[eV (atE L 0), .bool true]) ∧ Below w.heap.size w w' := by
  have CL : Hid (∀ W, Below w.heap.size w W → Calls Tryz.prog 40 #[.pointer (some ⟨hp, 0, none⟩)] W fun e w' => e = .returned (.int .i64 (L.length : Int)) ∧ w' = W) := fun W hW => len_any (h.below hW)
  have b1 : Below w.heap.size w (w.alloc (.cells #[.int .i64 0, .string ⟨#[]⟩] 30)) := (Below.refl _ w).alloc (Nat.le_refl _) _
  obtain ⟨a, cap, rfl, hg⟩ := h.form
  obtain ⟨g, rfl⟩ := hg hL
  have h1 := h.below b1
  have c0 := h1.c0
  obtain ⟨a1, a2⟩ := h1.at hL
  have hN : (L.length : Int) ≠ 0 := by omega
  have hN2 : ¬ (L.length : Int) = 0 := by omega
  have iI : (0 : Int) < (L.length : Int) := by omega
  simp only [Nat.zero_mul, Nat.zero_add] at a1 a2
  have b1H : Hid _ := b1
  generalize L.length = n at *
  generalize atE L 0 = x at *
  clear h h1 hg b1 hL
  unfold eV
  go_enter Tryz.func36, Tryz.ntmps36
  go_wp2_with fail
  refine Calls.mono (CL.out _ b1H.out) ?_
  rintro e w1 ⟨rfl, hw1⟩
  subst hw1
  go_wp2_with fail
  simp [bodyPost, results, Tryz.results36, go_sem]
  exact (Below.refl _ w).alloc (Nat.le_refl _) _
theorem hnew_any (most : Bool) (w : World) : Calls Tryz.prog 4 #[.bool most] w fun e w' => e = .returned (.pointer (some ⟨w.heap.size + 1, 0, none⟩)) ∧ HS w' (w.heap.size + 2) (w.heap.size + 1) w.heap.size most (.slice none 0 0) none (fun _ => none) [] 0 ∧ Below w.heap.size w w' := by
  have hmk : ∀ W, (Instr.makeMap 51 none).run Tryz.prog W = .ok (.map (some W.heap.size)) (W.alloc (.map #[] 0)) := fun W => by
    first | exact run_makeMap_none W | (simp [Instr.makeMap, go_sem]; done) | (unfold Instr.makeMap; simp [newObj, go_sem])
  have hst : ∀ (W : World) (a : Addr) (k : Nat), (store a (.func (.func k) #[] #[])).run Tryz.prog W = stored Tryz.prog W a (.func (.func k) #[] #[]) .plain := fun W a k => run_store Tryz.prog W a (.func (.func k) #[] #[]) .plain rfl
  have RES : Hid (∀ W, W = (w.alloc (.map #[] 0)).alloc (.cells #[.slice none 0 0, .map (some w.heap.size), .func (.func (fnM most)) #[] #[], .int .i64 0] 54) → HS W (w.heap.size + 2) (w.heap.size + 1) w.heap.size most (.slice none 0 0) none (fun _ => none) [] 0 ∧ Below w.heap.size w W) := fun W e => by
    have hb : Below w.heap.size w W := by rw [e]; exact ((Below.refl _ w).alloc (Nat.le_refl _) _).alloc (by simp) _
    refine ⟨⟨?_, ?_, ?_, ?_, ?_, ?_, ⟨rfl, Or.inl ⟨rfl, rfl⟩⟩, ⟨0, ?_, by omega⟩, ⟨fun _ h => by (cases h), fun s i _ => ⟨fun h => by (cases h), fun h => by simp at h⟩⟩, ⟨fun _ e => by (cases e), by omega⟩, fun _ h => by (cases h), ?_, fun s hs => by (cases hs)⟩, hb⟩
    all_goals first | (rw [e]; simp [go_sem]; done) | skip
    · rw [e]; exact (MP.start w).keep (((Below.refl _ (w.alloc (.map #[] 0))).alloc (Nat.le_refl _) _).block _ (by simp))
  cases most
  all_goals
    unfold fnM at RES
    simp only [if_true, if_false, Bool.false_eq_true] at RES
    go_enter Tryz.func4, Tryz.ntmps4
    go_wp2_with fail
    go_ret
    exact ⟨rfl, RES.out _ rfl⟩
/-- behind cut: the row is one shorter, the map as it was. -/
structure CT (w : World) (B hp mb g cap : Nat) (L : List Ent) (w' : World) : Prop where
  row : w'.ownsRow B 30 2 (.slice (some ⟨g, 0, none⟩) L.length cap) L.length (encE L)
  c0 : w'.cell? ⟨hp, 0, none⟩ = some (.slice (some ⟨g, 0, none⟩) L.length cap)
  cs : ∀ o, o ≠ 0 → w'.cell? ⟨hp, o, none⟩ = w.cell? ⟨hp, o, none⟩
  zs : ∀ o, w'.frozen? ⟨hp, o, none⟩ = w.frozen? ⟨hp, o, none⟩
  keep : ∀ b, b < w.heap.size → b ≠ hp → b ≠ g → w'.heap[b]? = w.heap[b]?
  size : w.heap.size ≤ w'.heap.size
  same : w'.os = w.os ∧ w'.tape = w.tape ∧ w'.output = w.output
set_option maxRecDepth 100000 in
set_option maxHeartbeats 4000000 in
theorem cut_any {w : World} {B hp mb g cap : Nat} {most : Bool} {ex : Option ByteArray} {f : ByteArray → Option Nat} {L : List Ent} {x : Ent} {mv : Int} (h : HS w B hp mb most (.slice (some ⟨g, 0, none⟩) (L.length + 1) cap) ex f (L ++ [x]) mv) (hn : L.length + 1 ≤ 1099511627776) :
    Calls Tryz.prog 62 #[.pointer (some ⟨hp, 0, none⟩)] w fun e w' => e = .returned (eV x) ∧ CT w B hp mb g cap L w' := by
  have LL : (L ++ [x]).length = L.length + 1 := by simp
  obtain ⟨ll, ncap, gB, gl, lc⟩ := h.len
  have c0 := h.c0
  have z0 := h.z0
  have hl := h.hl
  have hB := (h.hw.sp g rfl).1
  obtain ⟨c1, c2⟩ := h.at (i := L.length) (by omega)
  rw [show atE (L ++ [x]) L.length = x from atE_get (by simp)] at c1 c2
  have row := h.row
  rw [LL] at row
  have z1 := World.ownsRow.frozenAt row (L.length * 2)
  have z2 := World.ownsRow.frozenAt row (L.length * 2 + 1)
  have ne : hp ≠ g := by omega
  have ne2 : g ≠ hp := by omega
  have t1 := World.ownsRow.stored row (L.length * 2) (.int .i64 0)
  have t2 := World.ownsRow.stored t1.1 (L.length * 2 + 1) (.string ⟨#[]⟩)
  rw [encE_put (L ++ [x]) L.length (0, ⟨#[]⟩) (by omega), List.set_append_right _ _ (Nat.le_refl _), Nat.sub_self, encE_append] at t2
  obtain ⟨W2, hW2⟩ : ∃ W2, W2 = (w.setCell ⟨g, L.length * 2, none⟩ (.int .i64 0)).setCell ⟨g, L.length * 2 + 1, none⟩ (.string ⟨#[]⟩) := ⟨_, rfl⟩
  rw [← hW2] at t2
  have g2 : w.grownBy W2 (some g) := ⟨t2.2.os.trans t1.2.os, t2.2.tape.trans t1.2.tape, t2.2.output.trans t1.2.output, Nat.le_trans t1.2.size t2.2.size, fun k hk q => by rw [t2.2.block k (Nat.lt_of_lt_of_le hk t1.2.size) q]; exact t1.2.block k hk q⟩
  have r2 := ownsRow_pop (encE_len L) t2.1
  have sz2 : W2.heap.size = w.heap.size := by rw [hW2]; simp
  obtain ⟨W3, hW3⟩ : ∃ W3, W3 = W2.setCell ⟨hp, 0, none⟩ (.slice (some ⟨g, 0, none⟩) L.length cap) := ⟨_, rfl⟩
  have r3 := ownsRow_setCell_ne r2 ⟨hp, 0, none⟩ (fun k e => by injection e with e; subst e; exact hB) (.slice (some ⟨g, 0, none⟩) L.length cap)
  rw [← hW3] at r3
  have sz3 : W3.heap.size = w.heap.size := by rw [hW3]; simp [sz2]
  have k2 : W2.heap[hp]? = w.heap[hp]? := g2.block hp hl (fun e => ne (by injection e))
  have c20 : ∀ o, W2.cell? ⟨hp, o, none⟩ = w.cell? ⟨hp, o, none⟩ := fun o => World.cell?_of_block (w := w) (a := ⟨hp, o, none⟩) k2
  have z20 : ∀ o, W2.frozen? ⟨hp, o, none⟩ = w.frozen? ⟨hp, o, none⟩ := fun o => by simp [World.frozen?, k2]
  have RES : Hid (∀ W, Below W3.heap.size W3 W → CT w B hp mb g cap L W) := fun W hb => by
    refine ⟨?_, ?_, fun o ho => ?_, fun o => ?_, fun b hb1 q1 q2 => ?_, by rw [← sz3]; exact hb.size, ?_⟩
    · exact ⟨r3.1, by
        rcases r3.2 with h2 | ⟨g', cap', cur, e1, e2, e3, e4⟩
        · exact Or.inl h2
        · exact Or.inr ⟨g', cap', cur, e1, e2, by rw [hb.block g' (Array.getElem?_eq_some_iff.1 e3).1]; exact e3, e4⟩⟩
    · rw [hb.cell (p := ⟨hp, 0, none⟩) (by rw [sz3]; exact hl), hW3]
      exact World.cell?_setCell_same _ _ _ (by rw [c20]; exact c0)
    · rw [hb.cell (p := ⟨hp, o, none⟩) (by rw [sz3]; exact hl), hW3, World.cell?_setCell_other _ _ _ _ (by intro e; injection e; omega), c20]
    · rw [hb.frozen (p := ⟨hp, o, none⟩) (by rw [sz3]; exact hl), hW3, World.frozen?_setCell, z20]
    · rw [hb.block b (by rw [sz3]; exact hb1), hW3, Below.heap_setCell _ _ _ _ (fun e => q1 e)]
      exact g2.block b hb1 (fun e => q2 (by injection e))
    · exact ⟨hb.os.trans (by rw [hW3]; exact g2.os), hb.tape.trans (by rw [hW3]; exact g2.tape), hb.output.trans (by rw [hW3]; exact g2.output)⟩
  obtain ⟨nw1, nw2, nw3, nw4⟩ := nums_n L.length hn
  obtain ⟨ncap2, i0, i1, i2⟩ := nums_c L.length cap (by rw [LL] at ncap; exact Nat.le_of_succ_le ncap)
  have eW : Hid (((w.setCell ⟨g, L.length * 2, none⟩ (.int .i64 0)).setCell ⟨g, L.length * 2 + 1, none⟩ (.string ⟨#[]⟩)).setCell ⟨hp, 0, none⟩ (.slice (some ⟨g, 0, none⟩) L.length cap) = W3) := by show _ = W3; rw [hW3, hW2]
  unfold eV
  clear ll lc h hW2 hW3 row t1 t2 r2 r3 g2 k2 c20 z20 sz2 sz3 hB gB hn LL ncap
  generalize L.length = n at *
  go_enter Tryz.func62, Tryz.ntmps62
  go_wp2_with fail
  simp [bodyPost, results, Tryz.results62, go_sem]
  rw [eW.out]
  exact RES.out _ (((Below.refl _ W3).alloc (Nat.le_refl _) _).alloc (by simp) _)
end Go.Proofs.YtboacnpbicedfaaGreatDoor.Hp

namespace Go.Proofs.YtboacnpbicedfaaGreatDoor.Hp
open Go.RowKit Go.Maps
set_option linter.unusedVariables false
set_option linter.unusedSimpArgs false
set_option maxRecDepth 100000
theorem HF.step {hp mb : Nat} {rb rc : Option Nat} {w w1 w2 : World} (h : HF hp mb rb w w1) (k : HF hp mb rc w1 w2) (e : rc = rb ∨ ∃ j, rc = some j ∧ w.heap.size ≤ j) : HF hp mb rb w w2 :=
  ⟨Nat.le_trans h.size k.size, fun j hj a b d => by
    rw [k.keep j (Nat.lt_of_lt_of_le hj h.size) a b (fun q => by
      rcases e with e | ⟨i, e, hi⟩
      · exact d (by rw [q, e])
      · rw [e] at q; injection q with q; omega)]
    exact h.keep j hj a b d, k.same.1.trans h.same.1, k.same.2.1.trans h.same.2.1, k.same.2.2.trans h.same.2.2⟩
theorem HS.setMoves {w : World} {B hp mb : Nat} {most : Bool} {v : Value} {ex : Option ByteArray} {f : ByteArray → Option Nat} {L : List Ent} {mv : Int} (h : HS w B hp mb most v ex f L mv) (m : Int) : HS (w.setCell ⟨hp, 3, none⟩ (.int .i64 m)) B hp mb most v ex f L m ∧ ∀ rb, HF hp mb rb w (w.setCell ⟨hp, 3, none⟩ (.int .i64 m)) := by
  have g : w.grownBy (w.setCell ⟨hp, 3, none⟩ (.int .i64 m)) (some hp) := ⟨rfl, rfl, rfl, by simp, fun k hk q => Below.heap_setCell _ _ _ _ (fun e => q (by rw [e]))⟩
  have co : ∀ o, o ≠ 3 → (w.setCell ⟨hp, 3, none⟩ (.int .i64 m)).cell? ⟨hp, o, none⟩ = w.cell? ⟨hp, o, none⟩ := fun o ho => World.cell?_setCell_other _ _ _ _ (by intro e; injection e; omega)
  obtain ⟨c, mp, hc⟩ := h.mp
  refine ⟨⟨by rw [co 0 (by omega)]; exact h.c0, by rw [co 1 (by omega)]; exact h.c1, by rw [co 2 (by omega)]; exact h.c2, World.cell?_setCell_same _ _ _ h.c3, by rw [World.frozen?_setCell]; exact h.z0, by rw [World.frozen?_setCell]; exact h.z3, ownsRow_setCell_ne h.row _ (fun g e => (h.hw.sp g e).1) _, ⟨c, mp.keep (g.block mb mp.lt (fun e => h.hw.ne (by injection e with e; exact e.symm))), hc⟩, h.pl, h.hw, h.nm, by simpa using h.hl, h.exs⟩, fun rb => HF.grown g (Or.inl rfl)⟩
/-- behind a call that changes a heap. -/
structure OP (w : World) (B hp mb : Nat) (most : Bool) (v : Value) (L : List Ent) (mv : Int) (w' : World) : Prop where
  hs : ∃ v' f, HS w' B hp mb most v' none f L mv ∧ (v'.ownBlock = v.ownBlock ∨ ∃ k, v'.ownBlock = some k ∧ w.heap.size ≤ k)
  fr : HF hp mb v.ownBlock w w'
set_option maxRecDepth 100000 in
set_option maxHeartbeats 8000000 in
theorem put_known {w : World} {B hp mb : Nat} {most : Bool} {v : Value} {f : ByteArray → Option Nat} {L : List Ent} {mv : Int} (h : HS w B hp mb most v none f L mv) (x : Ent) (hx : x.2.size ≤ 9223372036854775807) (hf : f x.2 ≠ none) :
    Calls Tryz.prog 28 #[.pointer (some ⟨hp, 0, none⟩), eV x] w fun e w' => e = .returned (.iface 41 (.int .i64 5)) ∧ Below w.heap.size w w' := by
  obtain ⟨K, hK⟩ : ∃ K, K = w.heap.size := ⟨_, rfl⟩
  obtain ⟨W1, hW1⟩ : ∃ W1, W1 = w.alloc (.cells #[.int .i64 x.1, .string x.2] 30) := ⟨_, rfl⟩
  have b1 : Below w.heap.size w W1.drew := by rw [hW1]; exact ((Below.refl _ w).alloc (Nat.le_refl _) _).drew
  have x2 : W1.drew.cell? ⟨K, 1, none⟩ = some (.string x.2) := by rw [hW1, hK]; simp [go_sem]
  have h1 := h.below b1
  obtain ⟨c, mp, _⟩ := h1.mp
  obtain ⟨y, r, _⟩ := mp.look x.2 hx
  rw [show (f x.2).isSome = true by rw [Option.isSome_iff_ne_none]; exact hf] at r
  have sS : Hid (W1.drew.cell? ⟨hp, 1, none⟩ = some (.map (some mb)) ∧ W1.drew.cell? ⟨K, 1, none⟩ = some (.string x.2) ∧ (Instr.lookup 51 (.map (some mb)) (.string x.2) true).run Tryz.prog W1.drew = .ok (.tuple #[.int .i64 y, .bool true]) W1.drew) := ⟨h1.c1, x2, r⟩
  have kN : Hid (∀ W, Calls Tryz.prog 20 #[.int .i64 5] W fun e w' => e = .returned (.iface 41 (.int .i64 5)) ∧ w' = W) := fnew_any 5 (by decide)
  have b1H : Hid (Below w.heap.size w W1.drew) := b1
  clear h h1 mp r x2 b1 hf
  unfold eV
  go_enter Tryz.func28, Tryz.ntmps28
  go_wp2_with fail
  rw [← hW1, ← hK]
  clear hW1 hK
  refine wp_region_noPanic ?_
  refine wp_region_held_drew (S := fun W => W.cell? ⟨hp, 1, none⟩ = some (.map (some mb)) ∧ W.cell? ⟨K, 1, none⟩ = some (.string x.2) ∧ (Instr.lookup 51 (.map (some mb)) (.string x.2) true).run Tryz.prog W = .ok (.tuple #[.int .i64 y, .bool true]) W) (by kernel_rfl) sS.out (fun hHeld => ?_)
  refine wpAnyH_take (i := 0) (oi := _) (v := ?_) rfl (by kernel_rfl) (by kernel_rfl) (by kernel_rfl) (fun _ _ _ h => h) (Or.inl ⟨by rfl, ?_⟩) (by assumption) ?_
  rotate_left 1
  · (intro w0 hSw; (try dsimp only at hSw); obtain ⟨s1, s2, s3⟩ := hSw; go_simp; try with_reducible rfl)
  (try simp only [List.getElem_toArray, List.getElem_cons_succ, List.getElem_cons_zero]); (try simp only [Act.put, List.setIfInBounds_toArray, List.set_cons_zero, List.set_cons_succ])
  refine wpAnyH_take (i := 1) (oi := _) (v := ?_) rfl (by kernel_rfl) (by kernel_rfl) (by kernel_rfl) (fun _ _ _ h => h) (Or.inl ⟨by rfl, ?_⟩) (by assumption) ?_
  rotate_left 1
  · (intro w0 hSw; (try dsimp only at hSw); obtain ⟨s1, s2, s3⟩ := hSw; go_simp; try with_reducible rfl)
  (try simp only [List.getElem_toArray, List.getElem_cons_succ, List.getElem_cons_zero]); (try simp only [Act.put, List.setIfInBounds_toArray, List.set_cons_zero, List.set_cons_succ])
  refine wpAnyH_take (i := 2) (oi := _) (v := ?_) rfl (by kernel_rfl) (by kernel_rfl) (by kernel_rfl) (fun _ _ _ h => h) (Or.inl ⟨by rfl, ?_⟩) (by assumption) ?_
  rotate_left 1
  · (intro w0 hSw; (try dsimp only at hSw); obtain ⟨s1, s2, s3⟩ := hSw; go_simp; try with_reducible rfl)
  (try simp only [List.getElem_toArray, List.getElem_cons_succ, List.getElem_cons_zero]); (try simp only [Act.put, List.setIfInBounds_toArray, List.set_cons_zero, List.set_cons_succ])
  refine wpAnyH_take (i := 3) (oi := _) (v := ?_) rfl (by kernel_rfl) (by kernel_rfl) (by kernel_rfl) (fun _ _ _ h => h) (Or.inl ⟨by rfl, ?_⟩) (by assumption) ?_
  rotate_left 1
  · (intro w0 hSw; (try dsimp only at hSw); obtain ⟨s1, s2, s3⟩ := hSw; go_simp; try with_reducible rfl)
  (try simp only [List.getElem_toArray, List.getElem_cons_succ, List.getElem_cons_zero]); (try simp only [Act.put, List.setIfInBounds_toArray, List.set_cons_zero, List.set_cons_succ])
  refine wpAnyH_take (i := 4) (oi := _) (v := ?_) rfl (by kernel_rfl) (by kernel_rfl) (by kernel_rfl) (fun _ _ _ h => h) (Or.inl ⟨by rfl, ?_⟩) (by assumption) ?_
  rotate_left 1
  · (intro w0 hSw; (try dsimp only at hSw); obtain ⟨s1, s2, s3⟩ := hSw; go_simp; try with_reducible rfl)
  (try simp only [List.getElem_toArray, List.getElem_cons_succ, List.getElem_cons_zero]); (try simp only [Act.put, List.setIfInBounds_toArray, List.set_cons_zero, List.set_cons_succ])
  refine wpAnyH_take (i := 5) (oi := _) (v := ?_) rfl (by kernel_rfl) (by kernel_rfl) (by kernel_rfl) (fun _ _ _ h => h) (Or.inl ⟨by rfl, ?_⟩) (by assumption) ?_
  rotate_left 1
  · (intro w0 hSw; (try dsimp only at hSw); obtain ⟨s1, s2, s3⟩ := hSw; go_simp; try with_reducible rfl)
  (try simp only [List.getElem_toArray, List.getElem_cons_succ, List.getElem_cons_zero]); (try simp only [Act.put, List.setIfInBounds_toArray, List.set_cons_zero, List.set_cons_succ])
  refine wpAnyH_take (i := 6) (oi := _) (v := ?_) rfl (by kernel_rfl) (by kernel_rfl) (by kernel_rfl) (fun _ _ _ h => h) (Or.inl ⟨by rfl, ?_⟩) (by assumption) ?_
  rotate_left 1
  · (intro w0 hSw; (try dsimp only at hSw); obtain ⟨s1, s2, s3⟩ := hSw; go_simp; try with_reducible rfl)
  (try simp only [List.getElem_toArray, List.getElem_cons_succ, List.getElem_cons_zero]); (try simp only [Act.put, List.setIfInBounds_toArray, List.set_cons_zero, List.set_cons_succ])
  refine wpAnyH_take (i := 7) (oi := _) (v := ?_) rfl (by kernel_rfl) (by kernel_rfl) (by kernel_rfl) (fun _ _ _ h => h) (Or.inl ⟨by rfl, ?_⟩) (by assumption) ?_
  rotate_left 1
  · (intro w0 hSw; (try dsimp only at hSw); obtain ⟨s1, s2, s3⟩ := hSw; go_simp; try with_reducible rfl)
  (try simp only [List.getElem_toArray, List.getElem_cons_succ, List.getElem_cons_zero]); (try simp only [Act.put, List.setIfInBounds_toArray, List.set_cons_zero, List.set_cons_succ])
  refine wpAnyH_take (i := 8) (oi := _) (v := ?_) rfl (by kernel_rfl) (by kernel_rfl) (by kernel_rfl) (fun _ _ _ h => h) (Or.inl ⟨by rfl, ?_⟩) (by assumption) ?_
  rotate_left 1
  · (intro w0 hSw; (try dsimp only at hSw); obtain ⟨s1, s2, s3⟩ := hSw; go_simp; try with_reducible rfl)
  (try simp only [List.getElem_toArray, List.getElem_cons_succ, List.getElem_cons_zero]); (try simp only [Act.put, List.setIfInBounds_toArray, List.set_cons_zero, List.set_cons_succ])
  refine wpAnyH_take (i := 9) (oi := _) (v := ?_) rfl (by kernel_rfl) (by kernel_rfl) (by kernel_rfl) (fun _ _ _ h => h) (Or.inl ⟨by rfl, ?_⟩) (by assumption) ?_
  rotate_left 1
  · (intro w0 hSw; (try dsimp only at hSw); obtain ⟨s1, s2, s3⟩ := hSw; go_simp; try with_reducible rfl)
  (try simp only [List.getElem_toArray, List.getElem_cons_succ, List.getElem_cons_zero]); (try simp only [Act.put, List.setIfInBounds_toArray, List.set_cons_zero, List.set_cons_succ])
  refine wpAnyH_take (i := 10) (oi := _) (v := ?_) rfl (by kernel_rfl) (by kernel_rfl) (by kernel_rfl) (fun _ _ _ h => h) (Or.inl ⟨by rfl, ?_⟩) (by assumption) ?_
  rotate_left 1
  · (intro w0 hSw; (try dsimp only at hSw); obtain ⟨s1, s2, s3⟩ := hSw; go_simp; try with_reducible rfl)
  (try simp only [List.getElem_toArray, List.getElem_cons_succ, List.getElem_cons_zero]); (try simp only [Act.put, List.setIfInBounds_toArray, List.set_cons_zero, List.set_cons_succ])
  refine wpAnyH_take (i := 11) (oi := _) (v := ?_) rfl (by kernel_rfl) (by kernel_rfl) (by kernel_rfl) (fun _ _ _ h => h) (Or.inl ⟨by rfl, ?_⟩) (by assumption) ?_
  rotate_left 1
  · (intro w0 hSw; (try dsimp only at hSw); obtain ⟨s1, s2, s3⟩ := hSw; go_simp; try with_reducible rfl)
  (try simp only [List.getElem_toArray, List.getElem_cons_succ, List.getElem_cons_zero]); (try simp only [Act.put, List.setIfInBounds_toArray, List.set_cons_zero, List.set_cons_succ])
  refine wpAnyH_done (by kernel_rfl) ?_ _
  refine NoPanic.normal ?_
  clear sS hHeld
  go_wp2_with fail
  refine Calls.mono (kN.out _) ?_
  rintro e w1 ⟨rfl, hw1⟩
  subst hw1
  go_wp2_with fail
  go_ret
  exact ⟨rfl, b1H.out⟩
set_option maxRecDepth 100000 in
set_option maxHeartbeats 8000000 in
theorem put_ok {w : World} {B hp mb : Nat} {most : Bool} {v : Value} {f : ByteArray → Option Nat} {L : List Ent} {mv : Int} (h : HS w B hp mb most v none f L mv) (hBw : B ≤ w.heap.size) (x : Ent) (hx : x.2.size ≤ 9223372036854775807) (hf : f x.2 = none) (hn : L.length + 1 ≤ 1099511627776) :
    Calls Tryz.prog 28 #[.pointer (some ⟨hp, 0, none⟩), eV x] w fun e w' => e = .returned .nilIface ∧ OP w B hp mb most v (upL (ahd most) (L ++ [x]) L.length).1 ((upL (ahd most) (L ++ [x]) L.length).2 : Nat) w' := by
  obtain ⟨K, hK⟩ : ∃ K, K = w.heap.size := ⟨_, rfl⟩
  obtain ⟨W1, hW1⟩ : ∃ W1, W1 = w.alloc (.cells #[.int .i64 x.1, .string x.2] 30) := ⟨_, rfl⟩
  have b1 : Below w.heap.size w W1.drew := by rw [hW1]; exact ((Below.refl _ w).alloc (Nat.le_refl _) _).drew
  have x1 : W1.drew.cell? ⟨K, 0, none⟩ = some (.int .i64 x.1) := by rw [hW1, hK]; simp [go_sem]
  have x2 : W1.drew.cell? ⟨K, 1, none⟩ = some (.string x.2) := by rw [hW1, hK]; simp [go_sem]
  have h1 := h.below b1
  obtain ⟨c, mp, _⟩ := h1.mp
  obtain ⟨y, r, _⟩ := mp.look x.2 hx
  rw [hf] at r
  simp only [Option.isSome_none] at r
  have sS : Hid (W1.drew.cell? ⟨hp, 1, none⟩ = some (.map (some mb)) ∧ W1.drew.cell? ⟨K, 1, none⟩ = some (.string x.2) ∧ (Instr.lookup 51 (.map (some mb)) (.string x.2) true).run Tryz.prog W1.drew = .ok (.tuple #[.int .i64 y, .bool false]) W1.drew) := ⟨h1.c1, x2, r⟩
  have CP : Hid _ := push_any h1 (Nat.le_trans hBw b1.size) x hx hf hn
  have NX : Hid (∀ w', PU W1.drew B hp mb most v (upd f x.2 (some L.length)) (L ++ [x]) mv w' → ∃ av cap, w'.cell? ⟨hp, 0, none⟩ = some (.slice av (L.length + 1) cap) ∧ Calls Tryz.prog 59 #[.pointer (some ⟨hp, 0, none⟩), .int .i64 (L.length : Int)] w' fun e w2 => e = .returned (.int .i64 (((upL (ahd most) (L ++ [x]) L.length).2 : Nat) : Int)) ∧ (w2.frozen? ⟨hp, 3, none⟩ = false ∧ w2.cell? ⟨hp, 3, none⟩ = some (.int .i64 mv)) ∧ OP w B hp mb most v (upL (ahd most) (L ++ [x]) L.length).1 ((upL (ahd most) (L ++ [x]) L.length).2 : Nat) (w2.setCell ⟨hp, 3, none⟩ (.int .i64 (((upL (ahd most) (L ++ [x]) L.length).2 : Nat) : Int)))) := fun w' pu => by
    obtain ⟨v', hs, ho⟩ := pu.hs
    obtain ⟨av, cap, rfl, _⟩ := hs.form
    have LL : (L ++ [x]).length = L.length + 1 := by simp
    refine ⟨av, cap, by rw [hs.c0, LL], ?_⟩
    have ud : UD w' B hp mb most (.slice av (L ++ [x]).length cap) none (L ++ [x]).length (L ++ [x]) mv w' := ⟨⟨_, hs⟩, HF.refl _ _ _ _, rfl⟩
    refine (up_any ud L.length (by omega) (by omega)).mono fun e w2 hh => ?_
    obtain ⟨rfl, u2⟩ := hh
    obtain ⟨f2, hs2⟩ := u2.hs
    obtain ⟨m1, m2⟩ := hs2.setMoves (((upL (ahd most) (L ++ [x]) L.length).2 : Nat) : Int)
    have hb := b1.size
    have ho2 : (Value.slice av (L ++ [x]).length cap).ownBlock = v.ownBlock ∨ ∃ k, (Value.slice av (L ++ [x]).length cap).ownBlock = some k ∧ w.heap.size ≤ k := by
      rcases ho with q | ⟨k, q1, q2⟩
      · exact Or.inl q
      · exact Or.inr ⟨k, q1, by omega⟩
    exact ⟨rfl, ⟨hs2.z3, hs2.c3⟩, ⟨⟨_, f2, m1, ho2⟩, ((HF.below b1).trans pu.fr).step (u2.fr.trans (m2 _)) ho2⟩⟩
  obtain ⟨nw, nw2, nw3, nw4⟩ := nums_n L.length hn
  unfold eV at CP
  unfold eV
  generalize upL (ahd most) (L ++ [x]) L.length = R at *
  generalize upd f x.2 (some L.length) = F2 at *
  generalize L ++ [x] = L2 at *
  generalize L.length = n at *
  clear h h1 mp r b1 hf hn hBw hx
  go_enter Tryz.func28, Tryz.ntmps28
  go_wp2_with fail
  rw [← hW1, ← hK]
  clear hW1 hK
  refine wp_region_noPanic ?_
  refine wp_region_held_drew (S := fun W => W.cell? ⟨hp, 1, none⟩ = some (.map (some mb)) ∧ W.cell? ⟨K, 1, none⟩ = some (.string x.2) ∧ (Instr.lookup 51 (.map (some mb)) (.string x.2) true).run Tryz.prog W = .ok (.tuple #[.int .i64 y, .bool false]) W) (by kernel_rfl) sS.out (fun hHeld => ?_)
  refine wpAnyH_take (i := 0) (oi := _) (v := ?_) rfl (by kernel_rfl) (by kernel_rfl) (by kernel_rfl) (fun _ _ _ h => h) (Or.inl ⟨by rfl, ?_⟩) (by assumption) ?_
  rotate_left 1
  · (intro w0 hSw; (try dsimp only at hSw); obtain ⟨s1, s2, s3⟩ := hSw; go_simp; try with_reducible rfl)
  (try simp only [List.getElem_toArray, List.getElem_cons_succ, List.getElem_cons_zero]); (try simp only [Act.put, List.setIfInBounds_toArray, List.set_cons_zero, List.set_cons_succ])
  refine wpAnyH_take (i := 1) (oi := _) (v := ?_) rfl (by kernel_rfl) (by kernel_rfl) (by kernel_rfl) (fun _ _ _ h => h) (Or.inl ⟨by rfl, ?_⟩) (by assumption) ?_
  rotate_left 1
  · (intro w0 hSw; (try dsimp only at hSw); obtain ⟨s1, s2, s3⟩ := hSw; go_simp; try with_reducible rfl)
  (try simp only [List.getElem_toArray, List.getElem_cons_succ, List.getElem_cons_zero]); (try simp only [Act.put, List.setIfInBounds_toArray, List.set_cons_zero, List.set_cons_succ])
  refine wpAnyH_take (i := 2) (oi := _) (v := ?_) rfl (by kernel_rfl) (by kernel_rfl) (by kernel_rfl) (fun _ _ _ h => h) (Or.inl ⟨by rfl, ?_⟩) (by assumption) ?_
  rotate_left 1
  · (intro w0 hSw; (try dsimp only at hSw); obtain ⟨s1, s2, s3⟩ := hSw; go_simp; try with_reducible rfl)
  (try simp only [List.getElem_toArray, List.getElem_cons_succ, List.getElem_cons_zero]); (try simp only [Act.put, List.setIfInBounds_toArray, List.set_cons_zero, List.set_cons_succ])
  refine wpAnyH_take (i := 3) (oi := _) (v := ?_) rfl (by kernel_rfl) (by kernel_rfl) (by kernel_rfl) (fun _ _ _ h => h) (Or.inl ⟨by rfl, ?_⟩) (by assumption) ?_
  rotate_left 1
  · (intro w0 hSw; (try dsimp only at hSw); obtain ⟨s1, s2, s3⟩ := hSw; go_simp; try with_reducible rfl)
  (try simp only [List.getElem_toArray, List.getElem_cons_succ, List.getElem_cons_zero]); (try simp only [Act.put, List.setIfInBounds_toArray, List.set_cons_zero, List.set_cons_succ])
  refine wpAnyH_take (i := 4) (oi := _) (v := ?_) rfl (by kernel_rfl) (by kernel_rfl) (by kernel_rfl) (fun _ _ _ h => h) (Or.inl ⟨by rfl, ?_⟩) (by assumption) ?_
  rotate_left 1
  · (intro w0 hSw; (try dsimp only at hSw); obtain ⟨s1, s2, s3⟩ := hSw; go_simp; try with_reducible rfl)
  (try simp only [List.getElem_toArray, List.getElem_cons_succ, List.getElem_cons_zero]); (try simp only [Act.put, List.setIfInBounds_toArray, List.set_cons_zero, List.set_cons_succ])
  refine wpAnyH_take (i := 5) (oi := _) (v := ?_) rfl (by kernel_rfl) (by kernel_rfl) (by kernel_rfl) (fun _ _ _ h => h) (Or.inl ⟨by rfl, ?_⟩) (by assumption) ?_
  rotate_left 1
  · (intro w0 hSw; (try dsimp only at hSw); obtain ⟨s1, s2, s3⟩ := hSw; go_simp; try with_reducible rfl)
  (try simp only [List.getElem_toArray, List.getElem_cons_succ, List.getElem_cons_zero]); (try simp only [Act.put, List.setIfInBounds_toArray, List.set_cons_zero, List.set_cons_succ])
  refine wpAnyH_take (i := 6) (oi := _) (v := ?_) rfl (by kernel_rfl) (by kernel_rfl) (by kernel_rfl) (fun _ _ _ h => h) (Or.inl ⟨by rfl, ?_⟩) (by assumption) ?_
  rotate_left 1
  · (intro w0 hSw; (try dsimp only at hSw); obtain ⟨s1, s2, s3⟩ := hSw; go_simp; try with_reducible rfl)
  (try simp only [List.getElem_toArray, List.getElem_cons_succ, List.getElem_cons_zero]); (try simp only [Act.put, List.setIfInBounds_toArray, List.set_cons_zero, List.set_cons_succ])
  refine wpAnyH_take (i := 7) (oi := _) (v := ?_) rfl (by kernel_rfl) (by kernel_rfl) (by kernel_rfl) (fun _ _ _ h => h) (Or.inl ⟨by rfl, ?_⟩) (by assumption) ?_
  rotate_left 1
  · (intro w0 hSw; (try dsimp only at hSw); obtain ⟨s1, s2, s3⟩ := hSw; go_simp; try with_reducible rfl)
  (try simp only [List.getElem_toArray, List.getElem_cons_succ, List.getElem_cons_zero]); (try simp only [Act.put, List.setIfInBounds_toArray, List.set_cons_zero, List.set_cons_succ])
  refine wpAnyH_take (i := 8) (oi := _) (v := ?_) rfl (by kernel_rfl) (by kernel_rfl) (by kernel_rfl) (fun _ _ _ h => h) (Or.inl ⟨by rfl, ?_⟩) (by assumption) ?_
  rotate_left 1
  · (intro w0 hSw; (try dsimp only at hSw); obtain ⟨s1, s2, s3⟩ := hSw; go_simp; try with_reducible rfl)
  (try simp only [List.getElem_toArray, List.getElem_cons_succ, List.getElem_cons_zero]); (try simp only [Act.put, List.setIfInBounds_toArray, List.set_cons_zero, List.set_cons_succ])
  refine wpAnyH_take (i := 9) (oi := _) (v := ?_) rfl (by kernel_rfl) (by kernel_rfl) (by kernel_rfl) (fun _ _ _ h => h) (Or.inl ⟨by rfl, ?_⟩) (by assumption) ?_
  rotate_left 1
  · (intro w0 hSw; (try dsimp only at hSw); obtain ⟨s1, s2, s3⟩ := hSw; go_simp; try with_reducible rfl)
  (try simp only [List.getElem_toArray, List.getElem_cons_succ, List.getElem_cons_zero]); (try simp only [Act.put, List.setIfInBounds_toArray, List.set_cons_zero, List.set_cons_succ])
  refine wpAnyH_take (i := 10) (oi := _) (v := ?_) rfl (by kernel_rfl) (by kernel_rfl) (by kernel_rfl) (fun _ _ _ h => h) (Or.inl ⟨by rfl, ?_⟩) (by assumption) ?_
  rotate_left 1
  · (intro w0 hSw; (try dsimp only at hSw); obtain ⟨s1, s2, s3⟩ := hSw; go_simp; try with_reducible rfl)
  (try simp only [List.getElem_toArray, List.getElem_cons_succ, List.getElem_cons_zero]); (try simp only [Act.put, List.setIfInBounds_toArray, List.set_cons_zero, List.set_cons_succ])
  refine wpAnyH_take (i := 11) (oi := _) (v := ?_) rfl (by kernel_rfl) (by kernel_rfl) (by kernel_rfl) (fun _ _ _ h => h) (Or.inl ⟨by rfl, ?_⟩) (by assumption) ?_
  rotate_left 1
  · (intro w0 hSw; (try dsimp only at hSw); obtain ⟨s1, s2, s3⟩ := hSw; go_simp; try with_reducible rfl)
  (try simp only [List.getElem_toArray, List.getElem_cons_succ, List.getElem_cons_zero]); (try simp only [Act.put, List.setIfInBounds_toArray, List.set_cons_zero, List.set_cons_succ])
  refine wpAnyH_done (by kernel_rfl) ?_ _
  refine NoPanic.normal ?_
  clear sS hHeld
  go_wp2_with fail
  refine Calls.mono CP.out ?_
  rintro e w1 ⟨rfl, pu⟩
  obtain ⟨av, cap, c0, CU0⟩ := NX.out w1 pu
  have CU : Hid _ := CU0
  clear CU0 NX CP pu x1 x2
  go_wp2_with fail
  refine Calls.mono CU.out ?_
  rintro e w2 ⟨rfl, ⟨z3, c3⟩, op0⟩
  have op : Hid _ := op0
  clear op0 CU c0
  go_wp2_with fail
  go_ret
  exact ⟨rfl, op.out⟩
end Go.Proofs.YtboacnpbicedfaaGreatDoor.Hp
