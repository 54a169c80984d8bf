
import Derived.Test.YtcglgfcmhhbeaaaHpG
namespace Go.Proofs.Ytcglgfcmhhbeaaa.Hp
open Go.RowKit Go.Maps
set_option linter.unusedVariables false
set_option linter.unusedSimpArgs false
set_option maxRecDepth 100000
theorem HF.step {hp mb : Nat} {rb rc : Option Nat} {w w1 w2 : World} (h : HF hp mb rb w w1) (k : HF hp mb rc w1 w2) (e : rc = rb ∨ ∃ j, rc = some j ∧ w.heap.size ≤ j) : HF hp mb rb w w2 :=
  ⟨Nat.le_trans h.size k.size, fun j hj a b d => by
    rw [k.keep j (Nat.lt_of_lt_of_le hj h.size) a b (fun q => by
      rcases e with e | ⟨i, e, hi⟩
      · exact d (by rw [q, e])
      · rw [e] at q; injection q with q; omega)]
    exact h.keep j hj a b d, k.same.1.trans h.same.1, k.same.2.1.trans h.same.2.1, k.same.2.2.trans h.same.2.2⟩
theorem HS.setMoves {w : World} {B hp mb : Nat} {most : Bool} {v : Value} {ex : Option ByteArray} {f : ByteArray → Option Nat} {L : List Ent} {mv : Int} (h : HS w B hp mb most v ex f L mv) (m : Int) : HS (w.setCell ⟨hp, 3, none⟩ (.int .i64 m)) B hp mb most v ex f L m ∧ ∀ rb, HF hp mb rb w (w.setCell ⟨hp, 3, none⟩ (.int .i64 m)) := by
  have g : w.grownBy (w.setCell ⟨hp, 3, none⟩ (.int .i64 m)) (some hp) := ⟨rfl, rfl, rfl, by simp, fun k hk q => Below.heap_setCell _ _ _ _ (fun e => q (by rw [e]))⟩
  have co : ∀ o, o ≠ 3 → (w.setCell ⟨hp, 3, none⟩ (.int .i64 m)).cell? ⟨hp, o, none⟩ = w.cell? ⟨hp, o, none⟩ := fun o ho => World.cell?_setCell_other _ _ _ _ (by intro e; injection e; omega)
  obtain ⟨c, mp, hc⟩ := h.mp
  refine ⟨⟨by rw [co 0 (by omega)]; exact h.c0, by rw [co 1 (by omega)]; exact h.c1, by rw [co 2 (by omega)]; exact h.c2, World.cell?_setCell_same _ _ _ h.c3, by rw [World.frozen?_setCell]; exact h.z0, by rw [World.frozen?_setCell]; exact h.z3, ownsRow_setCell_ne h.row _ (fun g e => (h.hw.sp g e).1) _, ⟨c, mp.keep (g.block mb mp.lt (fun e => h.hw.ne (by injection e with e; exact e.symm))), hc⟩, h.pl, h.hw, h.nm, by simpa using h.hl, h.exs⟩, fun rb => HF.grown g (Or.inl rfl)⟩
/-- behind a call that changes a heap. -/
structure OP (w : World) (B hp mb : Nat) (most : Bool) (v : Value) (L : List Ent) (mv : Int) (w' : World) : Prop where
  hs : ∃ v' f, HS w' B hp mb most v' none f L mv ∧ (v'.ownBlock = v.ownBlock ∨ ∃ k, v'.ownBlock = some k ∧ w.heap.size ≤ k)
  fr : HF hp mb v.ownBlock w w'
set_option maxRecDepth 100000 in
set_option maxHeartbeats 8000000 in
theorem put_known {w : World} {B hp mb : Nat} {most : Bool} {v : Value} {f : ByteArray → Option Nat} {L : List Ent} {mv : Int} (h : HS w B hp mb most v none f L mv) (x : Ent) (hx : x.2.size ≤ 9223372036854775807) (hf : f x.2 ≠ none) :
    Calls Try.prog 9 #[.pointer (some ⟨hp, 0, none⟩), eV x] w fun e w' => e = .returned (.iface 86 (.int .i64 5)) ∧ Below w.heap.size w w' := by
  obtain ⟨K, hK⟩ : ∃ K, K = w.heap.size := ⟨_, rfl⟩
  obtain ⟨W1, hW1⟩ : ∃ W1, W1 = w.alloc (.cells #[.int .i64 x.1, .string x.2] 24) := ⟨_, rfl⟩
  have b1 : Below w.heap.size w W1.drew := by rw [hW1]; exact ((Below.refl _ w).alloc (Nat.le_refl _) _).drew
  have x2 : W1.drew.cell? ⟨K, 1, none⟩ = some (.string x.2) := by rw [hW1, hK]; simp [go_sem]
  have h1 := h.below b1
  obtain ⟨c, mp, _⟩ := h1.mp
  obtain ⟨y, r, _⟩ := mp.look x.2 hx
  rw [show (f x.2).isSome = true by rw [Option.isSome_iff_ne_none]; exact hf] at r
  have sS : Hid (W1.drew.cell? ⟨hp, 1, none⟩ = some (.map (some mb)) ∧ W1.drew.cell? ⟨K, 1, none⟩ = some (.string x.2) ∧ (Instr.lookup 77 (.map (some mb)) (.string x.2) true).run Try.prog W1.drew = .ok (.tuple #[.int .i64 y, .bool true]) W1.drew) := ⟨h1.c1, x2, r⟩
  have kN : Hid (∀ W, Calls Try.prog 22 #[.int .i64 5] W fun e w' => e = .returned (.iface 86 (.int .i64 5)) ∧ w' = W) := fnew_any 5 (by decide)
  have b1H : Hid (Below w.heap.size w W1.drew) := b1
  clear h h1 mp r x2 b1 hf
  unfold eV
  go_enter Try.func9, Try.ntmps9
  go_wp2_with fail
  rw [← hW1, ← hK]
  clear hW1 hK
  refine wp_region_noPanic ?_
  refine wp_region_held_drew (S := fun W => W.cell? ⟨hp, 1, none⟩ = some (.map (some mb)) ∧ W.cell? ⟨K, 1, none⟩ = some (.string x.2) ∧ (Instr.lookup 77 (.map (some mb)) (.string x.2) true).run Try.prog W = .ok (.tuple #[.int .i64 y, .bool true]) W) (by kernel_rfl) sS.out (fun hHeld => ?_)
  refine wpAnyH_take (i := 0) (oi := _) (v := ?_) rfl (by kernel_rfl) (by kernel_rfl) (by kernel_rfl) (fun _ _ _ h => h) (Or.inl ⟨by rfl, ?_⟩) (by assumption) ?_
  rotate_left 1
  · (intro w0 hSw; (try dsimp only at hSw); obtain ⟨s1, s2, s3⟩ := hSw; go_simp; try with_reducible rfl)
  (try simp only [List.getElem_toArray, List.getElem_cons_succ, List.getElem_cons_zero]); (try simp only [Act.put, List.setIfInBounds_toArray, List.set_cons_zero, List.set_cons_succ])
  refine wpAnyH_take (i := 1) (oi := _) (v := ?_) rfl (by kernel_rfl) (by kernel_rfl) (by kernel_rfl) (fun _ _ _ h => h) (Or.inl ⟨by rfl, ?_⟩) (by assumption) ?_
  rotate_left 1
  · (intro w0 hSw; (try dsimp only at hSw); obtain ⟨s1, s2, s3⟩ := hSw; go_simp; try with_reducible rfl)
  (try simp only [List.getElem_toArray, List.getElem_cons_succ, List.getElem_cons_zero]); (try simp only [Act.put, List.setIfInBounds_toArray, List.set_cons_zero, List.set_cons_succ])
  refine wpAnyH_take (i := 2) (oi := _) (v := ?_) rfl (by kernel_rfl) (by kernel_rfl) (by kernel_rfl) (fun _ _ _ h => h) (Or.inl ⟨by rfl, ?_⟩) (by assumption) ?_
  rotate_left 1
  · (intro w0 hSw; (try dsimp only at hSw); obtain ⟨s1, s2, s3⟩ := hSw; go_simp; try with_reducible rfl)
  (try simp only [List.getElem_toArray, List.getElem_cons_succ, List.getElem_cons_zero]); (try simp only [Act.put, List.setIfInBounds_toArray, List.set_cons_zero, List.set_cons_succ])
  refine wpAnyH_take (i := 3) (oi := _) (v := ?_) rfl (by kernel_rfl) (by kernel_rfl) (by kernel_rfl) (fun _ _ _ h => h) (Or.inl ⟨by rfl, ?_⟩) (by assumption) ?_
  rotate_left 1
  · (intro w0 hSw; (try dsimp only at hSw); obtain ⟨s1, s2, s3⟩ := hSw; go_simp; try with_reducible rfl)
  (try simp only [List.getElem_toArray, List.getElem_cons_succ, List.getElem_cons_zero]); (try simp only [Act.put, List.setIfInBounds_toArray, List.set_cons_zero, List.set_cons_succ])
  refine wpAnyH_take (i := 4) (oi := _) (v := ?_) rfl (by kernel_rfl) (by kernel_rfl) (by kernel_rfl) (fun _ _ _ h => h) (Or.inl ⟨by rfl, ?_⟩) (by assumption) ?_
  rotate_left 1
  · (intro w0 hSw; (try dsimp only at hSw); obtain ⟨s1, s2, s3⟩ := hSw; go_simp; try with_reducible rfl)
  (try simp only [List.getElem_toArray, List.getElem_cons_succ, List.getElem_cons_zero]); (try simp only [Act.put, List.setIfInBounds_toArray, List.set_cons_zero, List.set_cons_succ])
  refine wpAnyH_take (i := 5) (oi := _) (v := ?_) rfl (by kernel_rfl) (by kernel_rfl) (by kernel_rfl) (fun _ _ _ h => h) (Or.inl ⟨by rfl, ?_⟩) (by assumption) ?_
  rotate_left 1
  · (intro w0 hSw; (try dsimp only at hSw); obtain ⟨s1, s2, s3⟩ := hSw; go_simp; try with_reducible rfl)
  (try simp only [List.getElem_toArray, List.getElem_cons_succ, List.getElem_cons_zero]); (try simp only [Act.put, List.setIfInBounds_toArray, List.set_cons_zero, List.set_cons_succ])
  refine wpAnyH_take (i := 6) (oi := _) (v := ?_) rfl (by kernel_rfl) (by kernel_rfl) (by kernel_rfl) (fun _ _ _ h => h) (Or.inl ⟨by rfl, ?_⟩) (by assumption) ?_
  rotate_left 1
  · (intro w0 hSw; (try dsimp only at hSw); obtain ⟨s1, s2, s3⟩ := hSw; go_simp; try with_reducible rfl)
  (try simp only [List.getElem_toArray, List.getElem_cons_succ, List.getElem_cons_zero]); (try simp only [Act.put, List.setIfInBounds_toArray, List.set_cons_zero, List.set_cons_succ])
  refine wpAnyH_take (i := 7) (oi := _) (v := ?_) rfl (by kernel_rfl) (by kernel_rfl) (by kernel_rfl) (fun _ _ _ h => h) (Or.inl ⟨by rfl, ?_⟩) (by assumption) ?_
  rotate_left 1
  · (intro w0 hSw; (try dsimp only at hSw); obtain ⟨s1, s2, s3⟩ := hSw; go_simp; try with_reducible rfl)
  (try simp only [List.getElem_toArray, List.getElem_cons_succ, List.getElem_cons_zero]); (try simp only [Act.put, List.setIfInBounds_toArray, List.set_cons_zero, List.set_cons_succ])
  refine wpAnyH_take (i := 8) (oi := _) (v := ?_) rfl (by kernel_rfl) (by kernel_rfl) (by kernel_rfl) (fun _ _ _ h => h) (Or.inl ⟨by rfl, ?_⟩) (by assumption) ?_
  rotate_left 1
  · (intro w0 hSw; (try dsimp only at hSw); obtain ⟨s1, s2, s3⟩ := hSw; go_simp; try with_reducible rfl)
  (try simp only [List.getElem_toArray, List.getElem_cons_succ, List.getElem_cons_zero]); (try simp only [Act.put, List.setIfInBounds_toArray, List.set_cons_zero, List.set_cons_succ])
  refine wpAnyH_take (i := 9) (oi := _) (v := ?_) rfl (by kernel_rfl) (by kernel_rfl) (by kernel_rfl) (fun _ _ _ h => h) (Or.inl ⟨by rfl, ?_⟩) (by assumption) ?_
  rotate_left 1
  · (intro w0 hSw; (try dsimp only at hSw); obtain ⟨s1, s2, s3⟩ := hSw; go_simp; try with_reducible rfl)
  (try simp only [List.getElem_toArray, List.getElem_cons_succ, List.getElem_cons_zero]); (try simp only [Act.put, List.setIfInBounds_toArray, List.set_cons_zero, List.set_cons_succ])
  refine wpAnyH_take (i := 10) (oi := _) (v := ?_) rfl (by kernel_rfl) (by kernel_rfl) (by kernel_rfl) (fun _ _ _ h => h) (Or.inl ⟨by rfl, ?_⟩) (by assumption) ?_
  rotate_left 1
  · (intro w0 hSw; (try dsimp only at hSw); obtain ⟨s1, s2, s3⟩ := hSw; go_simp; try with_reducible rfl)
  (try simp only [List.getElem_toArray, List.getElem_cons_succ, List.getElem_cons_zero]); (try simp only [Act.put, List.setIfInBounds_toArray, List.set_cons_zero, List.set_cons_succ])
  refine wpAnyH_take (i := 11) (oi := _) (v := ?_) rfl (by kernel_rfl) (by kernel_rfl) (by kernel_rfl) (fun _ _ _ h => h) (Or.inl ⟨by rfl, ?_⟩) (by assumption) ?_
  rotate_left 1
  · (intro w0 hSw; (try dsimp only at hSw); obtain ⟨s1, s2, s3⟩ := hSw; go_simp; try with_reducible rfl)
  (try simp only [List.getElem_toArray, List.getElem_cons_succ, List.getElem_cons_zero]); (try simp only [Act.put, List.setIfInBounds_toArray, List.set_cons_zero, List.set_cons_succ])
  refine wpAnyH_done (by kernel_rfl) ?_ _
  refine NoPanic.normal ?_
  clear sS hHeld
  go_wp2_with fail
  refine Calls.mono (kN.out _) ?_
  rintro e w1 ⟨rfl, hw1⟩
  subst hw1
  go_wp2_with fail
  go_ret
  exact ⟨rfl, b1H.out⟩
set_option maxRecDepth 100000 in
set_option maxHeartbeats 8000000 in
theorem put_ok {w : World} {B hp mb : Nat} {most : Bool} {v : Value} {f : ByteArray → Option Nat} {L : List Ent} {mv : Int} (h : HS w B hp mb most v none f L mv) (hBw : B ≤ w.heap.size) (x : Ent) (hx : x.2.size ≤ 9223372036854775807) (hf : f x.2 = none) (hn : L.length + 1 ≤ 1099511627776) :
    Calls Try.prog 9 #[.pointer (some ⟨hp, 0, none⟩), eV x] w fun e w' => e = .returned .nilIface ∧ OP w B hp mb most v (upL (ahd most) (L ++ [x]) L.length).1 ((upL (ahd most) (L ++ [x]) L.length).2 : Nat) w' := by
  obtain ⟨K, hK⟩ : ∃ K, K = w.heap.size := ⟨_, rfl⟩
  obtain ⟨W1, hW1⟩ : ∃ W1, W1 = w.alloc (.cells #[.int .i64 x.1, .string x.2] 24) := ⟨_, rfl⟩
  have b1 : Below w.heap.size w W1.drew := by rw [hW1]; exact ((Below.refl _ w).alloc (Nat.le_refl _) _).drew
  have x1 : W1.drew.cell? ⟨K, 0, none⟩ = some (.int .i64 x.1) := by rw [hW1, hK]; simp [go_sem]
  have x2 : W1.drew.cell? ⟨K, 1, none⟩ = some (.string x.2) := by rw [hW1, hK]; simp [go_sem]
  have h1 := h.below b1
  obtain ⟨c, mp, _⟩ := h1.mp
  obtain ⟨y, r, _⟩ := mp.look x.2 hx
  rw [hf] at r
  simp only [Option.isSome_none] at r
  have sS : Hid (W1.drew.cell? ⟨hp, 1, none⟩ = some (.map (some mb)) ∧ W1.drew.cell? ⟨K, 1, none⟩ = some (.string x.2) ∧ (Instr.lookup 77 (.map (some mb)) (.string x.2) true).run Try.prog W1.drew = .ok (.tuple #[.int .i64 y, .bool false]) W1.drew) := ⟨h1.c1, x2, r⟩
  have CP : Hid _ := push_any h1 (Nat.le_trans hBw b1.size) x hx hf hn
  have NX : Hid (∀ w', PU W1.drew B hp mb most v (upd f x.2 (some L.length)) (L ++ [x]) mv w' → ∃ av cap, w'.cell? ⟨hp, 0, none⟩ = some (.slice av (L.length + 1) cap) ∧ Calls Try.prog 24 #[.pointer (some ⟨hp, 0, none⟩), .int .i64 (L.length : Int)] w' fun e w2 => e = .returned (.int .i64 (((upL (ahd most) (L ++ [x]) L.length).2 : Nat) : Int)) ∧ (w2.frozen? ⟨hp, 3, none⟩ = false ∧ w2.cell? ⟨hp, 3, none⟩ = some (.int .i64 mv)) ∧ OP w B hp mb most v (upL (ahd most) (L ++ [x]) L.length).1 ((upL (ahd most) (L ++ [x]) L.length).2 : Nat) (w2.setCell ⟨hp, 3, none⟩ (.int .i64 (((upL (ahd most) (L ++ [x]) L.length).2 : Nat) : Int)))) := fun w' pu => by
    obtain ⟨v', hs, ho⟩ := pu.hs
    obtain ⟨av, cap, rfl, _⟩ := hs.form
    have LL : (L ++ [x]).length = L.length + 1 := by simp
    refine ⟨av, cap, by rw [hs.c0, LL], ?_⟩
    have ud : UD w' B hp mb most (.slice av (L ++ [x]).length cap) none (L ++ [x]).length (L ++ [x]) mv w' := ⟨⟨_, hs⟩, HF.refl _ _ _ _, rfl⟩
    refine (up_any ud L.length (by omega) (by omega)).mono fun e w2 hh => ?_
    obtain ⟨rfl, u2⟩ := hh
    obtain ⟨f2, hs2⟩ := u2.hs
    obtain ⟨m1, m2⟩ := hs2.setMoves (((upL (ahd most) (L ++ [x]) L.length).2 : Nat) : Int)
    have hb := b1.size
    have ho2 : (Value.slice av (L ++ [x]).length cap).ownBlock = v.ownBlock ∨ ∃ k, (Value.slice av (L ++ [x]).length cap).ownBlock = some k ∧ w.heap.size ≤ k := by
      rcases ho with q | ⟨k, q1, q2⟩
      · exact Or.inl q
      · exact Or.inr ⟨k, q1, by omega⟩
    exact ⟨rfl, ⟨hs2.z3, hs2.c3⟩, ⟨⟨_, f2, m1, ho2⟩, ((HF.below b1).trans pu.fr).step (u2.fr.trans (m2 _)) ho2⟩⟩
  obtain ⟨nw, nw2, nw3, nw4⟩ := nums_n L.length hn
  unfold eV at CP
  unfold eV
  generalize upL (ahd most) (L ++ [x]) L.length = R at *
  generalize upd f x.2 (some L.length) = F2 at *
  generalize L ++ [x] = L2 at *
  generalize L.length = n at *
  clear h h1 mp r b1 hf hn hBw hx
  go_enter Try.func9, Try.ntmps9
  go_wp2_with fail
  rw [← hW1, ← hK]
  clear hW1 hK
  refine wp_region_noPanic ?_
  refine wp_region_held_drew (S := fun W => W.cell? ⟨hp, 1, none⟩ = some (.map (some mb)) ∧ W.cell? ⟨K, 1, none⟩ = some (.string x.2) ∧ (Instr.lookup 77 (.map (some mb)) (.string x.2) true).run Try.prog W = .ok (.tuple #[.int .i64 y, .bool false]) W) (by kernel_rfl) sS.out (fun hHeld => ?_)
  refine wpAnyH_take (i := 0) (oi := _) (v := ?_) rfl (by kernel_rfl) (by kernel_rfl) (by kernel_rfl) (fun _ _ _ h => h) (Or.inl ⟨by rfl, ?_⟩) (by assumption) ?_
  rotate_left 1
  · (intro w0 hSw; (try dsimp only at hSw); obtain ⟨s1, s2, s3⟩ := hSw; go_simp; try with_reducible rfl)
  (try simp only [List.getElem_toArray, List.getElem_cons_succ, List.getElem_cons_zero]); (try simp only [Act.put, List.setIfInBounds_toArray, List.set_cons_zero, List.set_cons_succ])
  refine wpAnyH_take (i := 1) (oi := _) (v := ?_) rfl (by kernel_rfl) (by kernel_rfl) (by kernel_rfl) (fun _ _ _ h => h) (Or.inl ⟨by rfl, ?_⟩) (by assumption) ?_
  rotate_left 1
  · (intro w0 hSw; (try dsimp only at hSw); obtain ⟨s1, s2, s3⟩ := hSw; go_simp; try with_reducible rfl)
  (try simp only [List.getElem_toArray, List.getElem_cons_succ, List.getElem_cons_zero]); (try simp only [Act.put, List.setIfInBounds_toArray, List.set_cons_zero, List.set_cons_succ])
  refine wpAnyH_take (i := 2) (oi := _) (v := ?_) rfl (by kernel_rfl) (by kernel_rfl) (by kernel_rfl) (fun _ _ _ h => h) (Or.inl ⟨by rfl, ?_⟩) (by assumption) ?_
  rotate_left 1
  · (intro w0 hSw; (try dsimp only at hSw); obtain ⟨s1, s2, s3⟩ := hSw; go_simp; try with_reducible rfl)
  (try simp only [List.getElem_toArray, List.getElem_cons_succ, List.getElem_cons_zero]); (try simp only [Act.put, List.setIfInBounds_toArray, List.set_cons_zero, List.set_cons_succ])
  refine wpAnyH_take (i := 3) (oi := _) (v := ?_) rfl (by kernel_rfl) (by kernel_rfl) (by kernel_rfl) (fun _ _ _ h => h) (Or.inl ⟨by rfl, ?_⟩) (by assumption) ?_
  rotate_left 1
  · (intro w0 hSw; (try dsimp only at hSw); obtain ⟨s1, s2, s3⟩ := hSw; go_simp; try with_reducible rfl)
  (try simp only [List.getElem_toArray, List.getElem_cons_succ, List.getElem_cons_zero]); (try simp only [Act.put, List.setIfInBounds_toArray, List.set_cons_zero, List.set_cons_succ])
  refine wpAnyH_take (i := 4) (oi := _) (v := ?_) rfl (by kernel_rfl) (by kernel_rfl) (by kernel_rfl) (fun _ _ _ h => h) (Or.inl ⟨by rfl, ?_⟩) (by assumption) ?_
  rotate_left 1
  · (intro w0 hSw; (try dsimp only at hSw); obtain ⟨s1, s2, s3⟩ := hSw; go_simp; try with_reducible rfl)
  (try simp only [List.getElem_toArray, List.getElem_cons_succ, List.getElem_cons_zero]); (try simp only [Act.put, List.setIfInBounds_toArray, List.set_cons_zero, List.set_cons_succ])
  refine wpAnyH_take (i := 5) (oi := _) (v := ?_) rfl (by kernel_rfl) (by kernel_rfl) (by kernel_rfl) (fun _ _ _ h => h) (Or.inl ⟨by rfl, ?_⟩) (by assumption) ?_
  rotate_left 1
  · (intro w0 hSw; (try dsimp only at hSw); obtain ⟨s1, s2, s3⟩ := hSw; go_simp; try with_reducible rfl)
  (try simp only [List.getElem_toArray, List.getElem_cons_succ, List.getElem_cons_zero]); (try simp only [Act.put, List.setIfInBounds_toArray, List.set_cons_zero, List.set_cons_succ])
  refine wpAnyH_take (i := 6) (oi := _) (v := ?_) rfl (by kernel_rfl) (by kernel_rfl) (by kernel_rfl) (fun _ _ _ h => h) (Or.inl ⟨by rfl, ?_⟩) (by assumption) ?_
  rotate_left 1
  · (intro w0 hSw; (try dsimp only at hSw); obtain ⟨s1, s2, s3⟩ := hSw; go_simp; try with_reducible rfl)
  (try simp only [List.getElem_toArray, List.getElem_cons_succ, List.getElem_cons_zero]); (try simp only [Act.put, List.setIfInBounds_toArray, List.set_cons_zero, List.set_cons_succ])
  refine wpAnyH_take (i := 7) (oi := _) (v := ?_) rfl (by kernel_rfl) (by kernel_rfl) (by kernel_rfl) (fun _ _ _ h => h) (Or.inl ⟨by rfl, ?_⟩) (by assumption) ?_
  rotate_left 1
  · (intro w0 hSw; (try dsimp only at hSw); obtain ⟨s1, s2, s3⟩ := hSw; go_simp; try with_reducible rfl)
  (try simp only [List.getElem_toArray, List.getElem_cons_succ, List.getElem_cons_zero]); (try simp only [Act.put, List.setIfInBounds_toArray, List.set_cons_zero, List.set_cons_succ])
  refine wpAnyH_take (i := 8) (oi := _) (v := ?_) rfl (by kernel_rfl) (by kernel_rfl) (by kernel_rfl) (fun _ _ _ h => h) (Or.inl ⟨by rfl, ?_⟩) (by assumption) ?_
  rotate_left 1
  · (intro w0 hSw; (try dsimp only at hSw); obtain ⟨s1, s2, s3⟩ := hSw; go_simp; try with_reducible rfl)
  (try simp only [List.getElem_toArray, List.getElem_cons_succ, List.getElem_cons_zero]); (try simp only [Act.put, List.setIfInBounds_toArray, List.set_cons_zero, List.set_cons_succ])
  refine wpAnyH_take (i := 9) (oi := _) (v := ?_) rfl (by kernel_rfl) (by kernel_rfl) (by kernel_rfl) (fun _ _ _ h => h) (Or.inl ⟨by rfl, ?_⟩) (by assumption) ?_
  rotate_left 1
  · (intro w0 hSw; (try dsimp only at hSw); obtain ⟨s1, s2, s3⟩ := hSw; go_simp; try with_reducible rfl)
  (try simp only [List.getElem_toArray, List.getElem_cons_succ, List.getElem_cons_zero]); (try simp only [Act.put, List.setIfInBounds_toArray, List.set_cons_zero, List.set_cons_succ])
  refine wpAnyH_take (i := 10) (oi := _) (v := ?_) rfl (by kernel_rfl) (by kernel_rfl) (by kernel_rfl) (fun _ _ _ h => h) (Or.inl ⟨by rfl, ?_⟩) (by assumption) ?_
  rotate_left 1
  · (intro w0 hSw; (try dsimp only at hSw); obtain ⟨s1, s2, s3⟩ := hSw; go_simp; try with_reducible rfl)
  (try simp only [List.getElem_toArray, List.getElem_cons_succ, List.getElem_cons_zero]); (try simp only [Act.put, List.setIfInBounds_toArray, List.set_cons_zero, List.set_cons_succ])
  refine wpAnyH_take (i := 11) (oi := _) (v := ?_) rfl (by kernel_rfl) (by kernel_rfl) (by kernel_rfl) (fun _ _ _ h => h) (Or.inl ⟨by rfl, ?_⟩) (by assumption) ?_
  rotate_left 1
  · (intro w0 hSw; (try dsimp only at hSw); obtain ⟨s1, s2, s3⟩ := hSw; go_simp; try with_reducible rfl)
  (try simp only [List.getElem_toArray, List.getElem_cons_succ, List.getElem_cons_zero]); (try simp only [Act.put, List.setIfInBounds_toArray, List.set_cons_zero, List.set_cons_succ])
  refine wpAnyH_done (by kernel_rfl) ?_ _
  refine NoPanic.normal ?_
  clear sS hHeld
  go_wp2_with fail
  refine Calls.mono CP.out ?_
  rintro e w1 ⟨rfl, pu⟩
  obtain ⟨av, cap, c0, CU0⟩ := NX.out w1 pu
  have CU : Hid _ := CU0
  clear CU0 NX CP pu x1 x2
  go_wp2_with fail
  refine Calls.mono CU.out ?_
  rintro e w2 ⟨rfl, ⟨z3, c3⟩, op0⟩
  have op : Hid _ := op0
  clear op0 CU c0
  go_wp2_with fail
  go_ret
  exact ⟨rfl, op.out⟩
end Go.Proofs.Ytcglgfcmhhbeaaa.Hp
