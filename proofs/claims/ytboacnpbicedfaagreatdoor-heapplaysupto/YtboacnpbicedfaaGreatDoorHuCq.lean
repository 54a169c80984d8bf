
import Derived.Test.YtboacnpbicedfaaGreatDoorByF
namespace Go.Proofs.YtboacnpbicedfaaGreatDoor.Hp
open Go.RowKit Go.Maps
set_option linter.unusedVariables false
set_option linter.unusedSimpArgs false
set_option maxRecDepth 100000
set_option maxHeartbeats 4000000 in
theorem dnew_any (most : Bool) (w : World) : Calls Tryz.prog 5 #[.bool most] w fun e w' => e = .returned (.pointer (some ⟨w.heap.size, 0, none⟩)) ∧ DS w' (w.heap.size + 1) w.heap.size most (.slice none 0 0) [] 0 ∧ Below w.heap.size w w' := by
  have RES : Hid (∀ W, W = w.alloc (.cells #[.slice none 0 0, .bool most, .int .i64 0] 56) → DS W (w.heap.size + 1) w.heap.size most (.slice none 0 0) [] 0 ∧ Below w.heap.size w W) := fun W e => by
    have hb : Below w.heap.size w W := by rw [e]; exact (Below.refl _ w).alloc (Nat.le_refl _) _
    refine ⟨⟨?_, ?_, ?_, ?_, ?_, OE.nil _ _, fun _ e => by (cases e), ?_, ?_⟩, hb⟩
    all_goals first | (rw [e]; simp [go_sem]; done) | skip
  go_enter Tryz.func5, Tryz.ntmps5
  go_wp2_with fail
  go_ret
  exact ⟨by first | rfl | simp [go_sem], RES.out _ (by first | rfl | simp [go_sem])⟩
/-- where a name is. -/
def FR (L : List Ent) (s : ByteArray) : Option Nat → Prop
  | none => ∀ i, i < L.length → (atE L i).2 ≠ s
  | some i => i < L.length ∧ (atE L i).2 = s ∧ ∀ j, j < i → (atE L j).2 ≠ s
def rI : Option Nat → Int
  | none => -1
  | some i => i
theorem FR.none' {L : List Ent} {s : ByteArray} {r : Option Nat} (h : FR L s r) (k : Nat) (hk : L.length ≤ k) (hb : ∀ j, j < k → (atE L j).2 ≠ s) : rI r = -1 := by
  cases r with
  | none => rfl
  | some i => exact absurd h.2.1 (hb i (by have := h.1; omega))
theorem FR.here {L : List Ent} {s : ByteArray} {r : Option Nat} (h : FR L s r) (k : Nat) (hk : k < L.length) (hb : ∀ j, j < k → (atE L j).2 ≠ s) (e : (atE L k).2 = s) : rI r = (k : Int) := by
  cases r with
  | none => exact absurd e (h k hk)
  | some i =>
    have : i = k := by
      rcases Nat.lt_trichotomy i k with q | q | q
      · exact absurd h.2.1 (hb i q)
      · exact q
      · exact absurd e (h.2.2 k q)
    rw [this]; rfl
set_option maxHeartbeats 4000000 in
theorem dfind_nil (s : ByteArray) (w : World) : Calls Tryz.prog 23 #[.pointer none, .string s] w fun e w' => e = .returned (.int .i64 (-1)) ∧ w' = w := by
  go_enter Tryz.func23, Tryz.ntmps23
  go_wp2_with fail
  go_loopw [5] (fun v5 wr => wr = w) (fun _ _ => 0)
  case atStart => rfl
  case round =>
    subst hrel
    go_wp2_with fail
    go_ret
    exact ⟨rfl, rfl⟩
set_option maxHeartbeats 4000000 in
theorem dfind_any {w : World} {B dp : Nat} {most : Bool} {v : Value} {L : List Ent} {mv : Int} (h : DS w B dp most v L mv) (s : ByteArray) (r : Option Nat) (hr : FR L s r) (hL : L.length ≤ 1152921504606846976) :
    Calls Tryz.prog 23 #[.pointer (some ⟨dp, 0, none⟩), .string s] w fun e w' => e = .returned (.int .i64 (rI r)) ∧ w' = w := by
  obtain ⟨a, cap, rfl, hcap, hg⟩ := h.row.form
  have c0 := h.c0
  have hH : Hid _ := h
  have hR : Hid (FR L s r) := hr
  clear h hr
  go_enter Tryz.func23, Tryz.ntmps23
  go_wp2_with fail
  go_loopw [5] (fun v5 wr => wr = w ∧ ∃ k : Nat, v5 = .int .i64 (k : Int) ∧ k ≤ L.length ∧ Hid (∀ j, j < k → (atE L j).2 ≠ s)) (fun v5 _ => L.length - (intOf v5).toNat)
  case atStart => exact ⟨rfl, 0, rfl, Nat.zero_le _, fun j hj => by omega⟩
  case round =>
    obtain ⟨rfl, k, rfl, hkl, hb⟩ := hrel
    by_cases hk : k < L.length
    · obtain ⟨g, rfl⟩ := hg (by omega)
      obtain ⟨_, a2⟩ := hH.out.row.at hk
      have kI : (k : Int) < (L.length : Int) := by omega
      have k0 : (0 : Int) ≤ (k : Int) := by omega
      have kw : IntKind.i64.wrap ((k : Int) + 1) = ((k + 1 : Nat) : Int) := IntWalk.i64_in _ (by omega)
      by_cases hc : (atE L k).2 = s
      · have fin : Hid (rI r = (k : Int)) := hR.out.here k hk hb.out hc
        rw [hc] at a2
        clear hH hR hb hc
        generalize L.length = n at *
        go_wp2_with fail
        go_ret
        exact ⟨by rw [fin.out]; rfl, rfl⟩
      · have NX : Hid (∀ j, j < k + 1 → (atE L j).2 ≠ s) := fun j hj => by
          by_cases e : j = k
          · rw [e]; exact hc
          · exact hb.out j (by omega)
        have hnt : ¬ (atE L k).2.toList = s.toList := fun q => hc (ba_toList q)
        have hnb : ((atE L k).2.toList == s.toList) = false := by simpa using hnt
        clear hb hc
        generalize atE L k = y at *
        go_wp2_with fail
        exact ⟨⟨by first | trivial | rfl, k + 1, by first | rfl | (rw [kw]), hk, NX⟩, by first | (simp [intOf]; done) | (simp [intOf]; omega)⟩
    · have kI : ¬ (k : Int) < (L.length : Int) := by omega
      have fin : Hid (rI r = -1) := hR.out.none' k (by omega) hb.out
      clear hH hR hb
      go_wp2_with fail
      go_ret
      exact ⟨by rw [fin.out]; rfl, rfl⟩
theorem dmoves_any {w : World} {B dp : Nat} {most : Bool} {v : Value} {L : List Ent} {mv : Int} (h : DS w B dp most v L mv) : Calls Tryz.prog 47 #[.pointer (some ⟨dp, 0, none⟩)] w fun e w' => e = .returned (.int .i64 mv) ∧ w' = w := by
  have c2 := h.c2
  clear h
  go_enter Tryz.func47, Tryz.ntmps47
  go_wp2_with fail
  go_ret
  exact ⟨rfl, rfl⟩
theorem dmoves_nil (w : World) : Calls Tryz.prog 47 #[.pointer none] w fun e w' => e = .returned (.int .i64 0) ∧ w' = w := by
  go_enter Tryz.func47, Tryz.ntmps47
  go_wp2_with fail
  go_ret
  exact ⟨rfl, rfl⟩
theorem dlist_any {w : World} {B dp : Nat} {most : Bool} {v : Value} {L : List Ent} {mv : Int} (h : DS w B dp most v L mv) : Calls Tryz.prog 41 #[.pointer (some ⟨dp, 0, none⟩)] w fun e w' => e = .returned v ∧ w' = w := by
  obtain ⟨a, cap, rfl, hcap, hg⟩ := h.row.form
  have c0 := h.c0
  clear h
  go_enter Tryz.func41, Tryz.ntmps41
  go_wp2_with fail
  go_ret
  exact ⟨rfl, rfl⟩
theorem dlist_nil (w : World) : Calls Tryz.prog 41 #[.pointer none] w fun e w' => e = .returned (.slice none 0 0) ∧ w' = w := by
  go_enter Tryz.func41, Tryz.ntmps41
  go_wp2_with fail
  go_ret
  exact ⟨rfl, rfl⟩
theorem dsorted_nil (w : World) : Calls Tryz.prog 45 #[.pointer none] w fun e w' => e = .returned (.slice none 0 0) ∧ w' = w := by
  go_enter Tryz.func45, Tryz.ntmps45
  go_wp2_with fail
  go_ret
  exact ⟨rfl, rfl⟩
set_option maxHeartbeats 4000000 in
theorem dsorted_any {w : World} {B dp : Nat} {most : Bool} {v : Value} {L : List Ent} {mv : Int} (h : DS w B dp most v L mv) (hn : L.length ≤ 1099511627776) :
    Calls Tryz.prog 45 #[.pointer (some ⟨dp, 0, none⟩)] w fun e w' => ∃ u, e = .returned u ∧ OE w' w.heap.size u (srtL most L) ∧ Below w.heap.size w w' := by
  obtain ⟨a, cap, rfl, hcap, hE⟩ := h.row.ein
  have c0 := h.c0
  have c1 := h.c1
  have bd : Below w.heap.size w w.drew := (Below.refl _ w).drew
  have hl : dp < w.drew.heap.size := h.hl
  have hd := h.drew
  obtain ⟨a', cap', e', _, hE'⟩ := hd.row.ein
  injection e' with e1 e2 e3
  subst e1 e3
  have CR : Hid _ := rsorted_any most a cap L w.drew hE' hn
  clear h hE hE' e2 hd
  go_enter Tryz.func45, Tryz.ntmps45
  go_wp2_with fail
  refine wp_region_noPanic ?_
  refine wp_region_held_drew (S := fun W => W.cell? ⟨dp, 0, none⟩ = some (.slice a L.length cap) ∧ W.cell? ⟨dp, 1, none⟩ = some (.bool most)) (by kernel_rfl) ⟨c0, c1⟩ (fun hHeld => ?_)
  refine wpAnyH_take (i := 0) (oi := _) (v := ?_) rfl (by kernel_rfl) (by kernel_rfl) (by kernel_rfl) (fun _ _ _ h => h) (Or.inl ⟨by rfl, ?_⟩) (by assumption) ?_
  rotate_left 1
  · (intro w0 hSw; (try dsimp only at hSw); obtain ⟨s1, s2⟩ := hSw; go_simp; try with_reducible rfl)
  (try simp only [List.getElem_toArray, List.getElem_cons_succ, List.getElem_cons_zero]); (try simp only [Act.put, List.setIfInBounds_toArray, List.set_cons_zero, List.set_cons_succ])
  refine wpAnyH_take (i := 1) (oi := _) (v := ?_) rfl (by kernel_rfl) (by kernel_rfl) (by kernel_rfl) (fun _ _ _ h => h) (Or.inl ⟨by rfl, ?_⟩) (by assumption) ?_
  rotate_left 1
  · (intro w0 hSw; (try dsimp only at hSw); obtain ⟨s1, s2⟩ := hSw; go_simp; try with_reducible rfl)
  (try simp only [List.getElem_toArray, List.getElem_cons_succ, List.getElem_cons_zero]); (try simp only [Act.put, List.setIfInBounds_toArray, List.set_cons_zero, List.set_cons_succ])
  refine wpAnyH_take (i := 2) (oi := _) (v := ?_) rfl (by kernel_rfl) (by kernel_rfl) (by kernel_rfl) (fun _ _ _ h => h) (Or.inl ⟨by rfl, ?_⟩) (by assumption) ?_
  rotate_left 1
  · (intro w0 hSw; (try dsimp only at hSw); obtain ⟨s1, s2⟩ := hSw; go_simp; try with_reducible rfl)
  (try simp only [List.getElem_toArray, List.getElem_cons_succ, List.getElem_cons_zero]); (try simp only [Act.put, List.setIfInBounds_toArray, List.set_cons_zero, List.set_cons_succ])
  refine wpAnyH_take (i := 3) (oi := _) (v := ?_) rfl (by kernel_rfl) (by kernel_rfl) (by kernel_rfl) (fun _ _ _ h => h) (Or.inl ⟨by rfl, ?_⟩) (by assumption) ?_
  rotate_left 1
  · (intro w0 hSw; (try dsimp only at hSw); obtain ⟨s1, s2⟩ := hSw; go_simp; try with_reducible rfl)
  (try simp only [List.getElem_toArray, List.getElem_cons_succ, List.getElem_cons_zero]); (try simp only [Act.put, List.setIfInBounds_toArray, List.set_cons_zero, List.set_cons_succ])
  refine wpAnyH_take (i := 4) (oi := _) (v := ?_) rfl (by kernel_rfl) (by kernel_rfl) (by kernel_rfl) (fun _ _ _ h => h) (Or.inl ⟨by rfl, ?_⟩) (by assumption) ?_
  rotate_left 1
  · (intro w0 hSw; (try dsimp only at hSw); obtain ⟨s1, s2⟩ := hSw; go_simp; try with_reducible rfl)
  (try simp only [List.getElem_toArray, List.getElem_cons_succ, List.getElem_cons_zero]); (try simp only [Act.put, List.setIfInBounds_toArray, List.set_cons_zero, List.set_cons_succ])
  refine wpAnyH_take (i := 5) (oi := _) (v := ?_) rfl (by kernel_rfl) (by kernel_rfl) (by kernel_rfl) (fun _ _ _ h => h) (Or.inl ⟨by rfl, ?_⟩) (by assumption) ?_
  rotate_left 1
  · (intro w0 hSw; (try dsimp only at hSw); obtain ⟨s1, s2⟩ := hSw; go_simp; try with_reducible rfl)
  (try simp only [List.getElem_toArray, List.getElem_cons_succ, List.getElem_cons_zero]); (try simp only [Act.put, List.setIfInBounds_toArray, List.set_cons_zero, List.set_cons_succ])
  refine wpAnyH_take (i := 6) (oi := _) (v := ?_) rfl (by kernel_rfl) (by kernel_rfl) (by kernel_rfl) (fun _ _ _ h => h) (Or.inl ⟨by rfl, ?_⟩) (by assumption) ?_
  rotate_left 1
  · (intro w0 hSw; (try dsimp only at hSw); obtain ⟨s1, s2⟩ := hSw; go_simp; try with_reducible rfl)
  (try simp only [List.getElem_toArray, List.getElem_cons_succ, List.getElem_cons_zero]); (try simp only [Act.put, List.setIfInBounds_toArray, List.set_cons_zero, List.set_cons_succ])
  refine wpAnyH_take (i := 7) (oi := _) (v := ?_) rfl (by kernel_rfl) (by kernel_rfl) (by kernel_rfl) (fun _ _ _ h => h) (Or.inl ⟨by rfl, ?_⟩) (by assumption) ?_
  rotate_left 1
  · (intro w0 hSw; (try dsimp only at hSw); obtain ⟨s1, s2⟩ := hSw; go_simp; try with_reducible rfl)
  (try simp only [List.getElem_toArray, List.getElem_cons_succ, List.getElem_cons_zero]); (try simp only [Act.put, List.setIfInBounds_toArray, List.set_cons_zero, List.set_cons_succ])
  refine wpAnyH_ready (rs := [8]) (by kernel_rfl) (by simp) ?_
  refine AllReadyH.cons (o := _) rfl (fun K hK => ?_) AllReadyH.nil
  go_simp
  refine Calls.mono (CR.out) ?_
  rintro e w' ⟨u, rfl, o1, BB⟩
  have fin : Hid (OE w' w.heap.size u (srtL most L) ∧ Below w.heap.size w w') := ⟨o1, bd.trans BB⟩
  obtain ⟨au, cu, hu, _⟩ := o1.form
  subst hu
  clear o1 CR
  try dsimp only
  refine hK _ _ ?_ (fun hHeld => ?_)
  · exact ⟨by rw [BB.cell (p := ⟨dp, 0, none⟩) hl]; exact c0, by rw [BB.cell (p := ⟨dp, 1, none⟩) hl]; exact c1⟩
  clear hK K
  (try simp only [List.getElem_toArray, List.getElem_cons_succ, List.getElem_cons_zero]); (try simp only [Act.put, List.setIfInBounds_toArray, List.set_cons_zero, List.set_cons_succ])
  refine wpAnyH_take (i := 9) (oi := _) (v := ?_) rfl (by kernel_rfl) (by kernel_rfl) (by kernel_rfl) (fun _ _ _ h => h) (Or.inl ⟨by rfl, ?_⟩) (by assumption) ?_
  rotate_left 1
  · (intro w0 hSw; (try dsimp only at hSw); obtain ⟨s1, s2⟩ := hSw; go_simp; try with_reducible rfl)
  (try simp only [List.getElem_toArray, List.getElem_cons_succ, List.getElem_cons_zero]); (try simp only [Act.put, List.setIfInBounds_toArray, List.set_cons_zero, List.set_cons_succ])
  refine wpAnyH_done (by kernel_rfl) ?_ _
  refine NoPanic.normal ?_
  clear c0 c1 BB
  go_wp2_with fail
  go_ret
  exact ⟨_, rfl, fin.out⟩
set_option maxHeartbeats 4000000 in
theorem dtop_nil (w : World) : Calls Tryz.prog 37 #[.pointer none] w fun e w' => e = .returned (.tuple #[eV (0, ⟨#[]⟩), .bool false]) ∧ Below w.heap.size w w' := by
  unfold eV
  go_enter Tryz.func37, Tryz.ntmps37
  go_wp2_with fail
  simp [bodyPost, results, Tryz.results37, go_sem]
  exact (Below.refl _ w).alloc (Nat.le_refl _) _
set_option maxHeartbeats 4000000 in
theorem dtop_none {w : World} {B dp : Nat} {most : Bool} {v : Value} {mv : Int} (h : DS w B dp most v [] mv) : Calls Tryz.prog 37 #[.pointer (some ⟨dp, 0, none⟩)] w fun e w' => e = .returned (.tuple #[eV (0, ⟨#[]⟩), .bool false]) ∧ Below w.heap.size w w' := by
  have b1 : Below w.heap.size w (w.alloc (.cells #[.int .i64 0, .string ⟨#[]⟩] 30)) := (Below.refl _ w).alloc (Nat.le_refl _) _
  obtain ⟨a, cap, rfl, hcap, hg⟩ := h.row.form
  have c0 := (h.below b1).c0
  clear h b1
  simp only [List.length_nil] at c0
  unfold eV
  go_enter Tryz.func37, Tryz.ntmps37
  go_wp2_with fail
  simp [bodyPost, results, Tryz.results37, go_sem]
  exact (Below.refl _ w).alloc (Nat.le_refl _) _
set_option maxHeartbeats 4000000 in
theorem dtop_some {w : World} {B dp : Nat} {most : Bool} {v : Value} {L : List Ent} {mv : Int} (h : DS w B dp most v L mv) (hL : 0 < L.length) : Calls Tryz.prog 37 #[.pointer (some ⟨dp, 0, none⟩)] w fun e w' => e = .returned (.tuple #[eV (atE L 0), .bool true]) ∧ Below w.heap.size w w' := by
  have b1 : Below w.heap.size w (w.alloc (.cells #[.int .i64 0, .string ⟨#[]⟩] 30)) := (Below.refl _ w).alloc (Nat.le_refl _) _
  obtain ⟨a, cap, rfl, hcap, hg⟩ := h.row.form
  obtain ⟨g, rfl⟩ := hg hL
  have h1 := h.below b1
  have c0 := h1.c0
  obtain ⟨a1, a2⟩ := h1.row.at hL
  have hN : (L.length : Int) ≠ 0 := by omega
  have hN2 : ¬ (L.length : Int) = 0 := by omega
  have hN3 : ((L.length : Int) == 0) = false := by simpa using hN2
  have iI : (0 : Int) < (L.length : Int) := by omega
  simp only [Nat.zero_mul, Nat.zero_add] at a1 a2
  generalize L.length = n at *
  generalize atE L 0 = x at *
  clear h h1 hg b1 hL hcap
  unfold eV
  go_enter Tryz.func37, Tryz.ntmps37
  go_wp2_with fail
  simp [bodyPost, results, Tryz.results37, go_sem]
  exact (Below.refl _ w).alloc (Nat.le_refl _) _
set_option maxHeartbeats 4000000 in
theorem dget_nil (s : ByteArray) (w : World) : Calls Tryz.prog 39 #[.pointer none, .string s] w fun e w' => e = .returned (.tuple #[eV (0, ⟨#[]⟩), .bool false]) ∧ Below w.heap.size w w' := by
  have CF : Hid (∀ W, Calls Tryz.prog 23 #[.pointer none, .string s] W fun e w' => e = .returned (.int .i64 (-1)) ∧ w' = W) := dfind_nil s
  unfold eV
  go_enter Tryz.func39, Tryz.ntmps39
  go_wp2_with fail
  refine Calls.mono (CF.out _) ?_
  rintro e w1 ⟨rfl, hw1⟩
  subst hw1
  go_wp2_with fail
  simp [bodyPost, results, Tryz.results39, go_sem]
  exact (Below.refl _ w).alloc (Nat.le_refl _) _
set_option maxHeartbeats 4000000 in
theorem dget_none {w : World} {B dp : Nat} {most : Bool} {v : Value} {L : List Ent} {mv : Int} (h : DS w B dp most v L mv) (s : ByteArray) (hr : FR L s none) (hL : L.length ≤ 1152921504606846976) : Calls Tryz.prog 39 #[.pointer (some ⟨dp, 0, none⟩), .string s] w fun e w' => e = .returned (.tuple #[eV (0, ⟨#[]⟩), .bool false]) ∧ Below w.heap.size w w' := by
  have b1 : Below w.heap.size w (w.alloc (.cells #[.int .i64 0, .string ⟨#[]⟩] 30)) := (Below.refl _ w).alloc (Nat.le_refl _) _
  have CF : Hid _ := dfind_any (h.below b1) s none hr hL
  clear h hr b1
  unfold eV
  go_enter Tryz.func39, Tryz.ntmps39
  go_wp2_with fail
  refine Calls.mono CF.out ?_
  rintro e w1 ⟨rfl, hw1⟩
  subst hw1
  have hx : rI none = -1 := rfl
  rw [hx]
  clear CF
  go_wp2_with fail
  simp [bodyPost, results, Tryz.results39, go_sem]
  exact (Below.refl _ w).alloc (Nat.le_refl _) _
set_option maxHeartbeats 4000000 in
theorem dget_some {w : World} {B dp : Nat} {most : Bool} {v : Value} {L : List Ent} {mv : Int} (h : DS w B dp most v L mv) (s : ByteArray) (i : Nat) (hr : FR L s (some i)) (hL : L.length ≤ 1152921504606846976) : Calls Tryz.prog 39 #[.pointer (some ⟨dp, 0, none⟩), .string s] w fun e w' => e = .returned (.tuple #[eV (atE L i), .bool true]) ∧ Below w.heap.size w w' := by
  have b1 : Below w.heap.size w (w.alloc (.cells #[.int .i64 0, .string ⟨#[]⟩] 30)) := (Below.refl _ w).alloc (Nat.le_refl _) _
  have hi : i < L.length := hr.1
  obtain ⟨a, cap, rfl, hcap, hg⟩ := h.row.form
  obtain ⟨g, rfl⟩ := hg (by omega)
  have h1 := h.below b1
  have CF : Hid _ := dfind_any h1 s (some i) hr hL
  have c0 := h1.c0
  obtain ⟨a1, a2⟩ := h1.row.at hi
  have i0 : (0 : Int) ≤ (i : Int) := Int.natCast_nonneg i
  have i00 : ¬ (i : Int) < 0 := by omega
  have iI : (i : Int) < (L.length : Int) := Int.ofNat_lt.2 hi
  generalize L.length = n at *
  generalize atE L i = x at *
  clear h h1 hg hi hr b1 hcap
  unfold eV
  go_enter Tryz.func39, Tryz.ntmps39
  go_wp2_with fail
  refine Calls.mono CF.out ?_
  rintro e w1 ⟨rfl, hw1⟩
  subst hw1
  have hx : rI (some i) = (i : Int) := rfl
  rw [hx]
  clear CF
  go_wp2_with fail
  simp [bodyPost, results, Tryz.results39, go_sem]
  exact (Below.refl _ w).alloc (Nat.le_refl _) _
end Go.Proofs.YtboacnpbicedfaaGreatDoor.Hp
