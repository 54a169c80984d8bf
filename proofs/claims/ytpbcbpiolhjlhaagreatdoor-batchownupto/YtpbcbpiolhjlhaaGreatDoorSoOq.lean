
import Derived.Test.YtpbcbpiolhjlhaaGreatDoorBzAA
import Derived.Test.YtpbcbpiolhjlhaaGreatDoorBzAG

namespace Go.Proofs.YtpbcbpiolhjlhaaGreatDoor.So
open Go.RowKit
set_option linter.unusedVariables false
set_option linter.unusedSimpArgs false
/-! ### what CompactFunc leaves -/
theorem fsts_plain (F : Nat → Tg) : ∀ k, (∀ i, 1 ≤ i → i < k → (F (i - 1)).1 ≠ (F i).1) → fsts F k = (List.range k).map F
  | 0, _ => rfl
  | k + 1, h => by
    unfold fsts
    rw [fsts_plain F k fun i a b => h i a (by omega), List.range_succ, List.map_append]
    congr 1
    rcases Nat.eq_zero_or_pos k with e | e
    · rw [if_pos (Or.inl e)]; rfl
    · rw [if_pos (Or.inr (h k e (by omega)))]; rfl
theorem fsts_skip (F : Nat → Tg) {p : Nat} (hp : 1 ≤ p) (h : (F p).1 = (F (p - 1)).1) : fsts F (p + 1) = fsts F p := by
  conv => lhs; unfold fsts
  rw [if_neg (by rintro (e | e); omega; exact e h.symm), List.append_nil]
theorem fsts_new (F : Nat → Tg) {p : Nat} (h : (F p).1 ≠ (F (p - 1)).1) : fsts F (p + 1) = fsts F p ++ [F p] := by
  conv => lhs; unfold fsts
  rw [if_pos (Or.inr fun e => h e.symm)]
/-- the row while it is made: the first k are what is kept of the first p, the rest as it was. -/
structure CS (F H : Nat → Tg) (p k : Nat) : Prop where
  is : (List.range k).map H = fsts F p
  rest : ∀ i, k ≤ i → H i = F i
theorem CS.skip {F H : Nat → Tg} {p k : Nat} (h : CS F H p k) (hp : 1 ≤ p) (e : (F p).1 = (F (p - 1)).1) : CS F H (p + 1) k := ⟨by rw [fsts_skip F hp e]; exact h.is, h.rest⟩
theorem CS.new {F H : Nat → Tg} {p k : Nat} (h : CS F H p k) (e : (F p).1 ≠ (F (p - 1)).1) : CS F (upd H k (F p)) (p + 1) (k + 1) := by
  refine ⟨?_, fun i hi => ?_⟩
  · rw [fsts_new F e, ← h.is, List.range_succ, List.map_append]
    congr 1
    · apply List.map_congr_left
      intro i hi
      unfold upd
      rw [if_neg (by have := List.mem_range.1 hi; omega)]
    · simp [upd]
  · unfold upd
    rw [if_neg (by omega)]
    exact h.rest i (by omega)
/-- clear of a row of tags. -/
theorem tag_infoS : (Tryz.prog.info? 91).map (fun i => (i.zero, i.bytes, i.size)) = some (some (.agg #[.string ⟨#[]⟩, .string ⟨#[]⟩]), 32, 2) := by kernel_rfl
def noS (n : Nat) : List Value := List.replicate (n * 2) (.string ⟨#[]⟩)
theorem run_clearT (w : World) (ty : TypeId) (b o n c : Nat) (hn : 0 < n) (hc : ∀ j, j < n * 2 → (w.cell? ⟨b, o + j, none⟩).isSome = true) (hf : ∀ j, j < n * 2 → w.frozen? ⟨b, o + j, none⟩ = false) :
    (Builtin.clear_ #[66] ty #[.slice (some ⟨b, o, none⟩) n c]).run Tryz.prog w = .ok (.tuple #[]) (w.setCells b o (noS n)) := by
  obtain ⟨i, i1, i0⟩ := Option.map_eq_some_iff.1 tag_infoS
  have i2 : i.zero = some (.agg #[.string ⟨#[]⟩, .string ⟨#[]⟩]) := congrArg (·.1) i0
  have hv : ∀ w, (zeroValue 91).run Tryz.prog w = .ok (.agg #[.string ⟨#[]⟩, .string ⟨#[]⟩]) w := fun w => by simp [zeroValue, typeInfo, i1, i2]
  have hz : (Value.agg #[.string ⟨#[]⟩, .string ⟨#[]⟩]).cells = #[.string ⟨#[]⟩, .string ⟨#[]⟩] := by kernel_rfl
  have hzc : (Builtin.zeroCells (Value.agg #[.string ⟨#[]⟩, .string ⟨#[]⟩]).cells n).toList = noS n := by
    rw [hz]
    unfold noS
    simp [Builtin.zeroCells]
    apply List.ext_getElem
    · simp
    · intro i h1 h2
      rcases (by omega : i % 2 = 0 ∨ i % 2 = 1) with q | q <;> simp [q]
  have hst := run_storeCells_cells (P := Tryz.prog) b o (noS n) 0 w (by simpa [noS] using hc) (by simpa [noS] using hf) (by intro v hv'; rw [List.eq_of_mem_replicate hv']; rfl)
  simp only [Nat.add_zero] at hst
  obtain ⟨m, rfl⟩ : ∃ m, n = m + 1 := ⟨n - 1, by omega⟩
  simp [Builtin.clear_, run_underlying Tryz.underlying66, hv, hzc, hst]
theorem OB.sets {b : Nat} : ∀ (vs : List Value) (o : Nat) (w : World), OB b w (w.setCells b o vs)
  | [], _, w => OB.refl b w
  | v :: r, o, w => (OB.set w o v).trans (OB.sets r (o + 1) _)
theorem TR.cleared {w : World} {b off n k : Nat} {F : Nat → Tg} (h : TR w b off n F) (hk : k ≤ n) (vs : List Value) : TR (w.setCells b (off + k * 2) vs) b off k F := by
  refine ⟨Nat.lt_of_lt_of_le h.1 (OB.sets vs _ w).size, fun i hi => ?_⟩
  obtain ⟨⟨h1, h2⟩, h3, h4⟩ := h.2 i (by omega)
  refine ⟨⟨?_, ?_⟩, by rw [World.frozen?_setCells]; exact h3, by rw [World.frozen?_setCells]; exact h4⟩
  · rw [World.cell?_setCells_out _ _ _ _ _ (fun _ _ => Or.inl (by show off + i * 2 < _; omega))]; exact h1
  · rw [World.cell?_setCells_out _ _ _ _ _ (fun _ _ => Or.inl (by show off + i * 2 + 1 < _; omega))]; exact h2
set_option maxRecDepth 100000 in
set_option maxHeartbeats 4000000 in
theorem compact_any (b off n cap : Nat) (F : Nat → Tg) (w : World) (h : TR w b off n F) (hn : n ≤ 4611686018427387904) (hcap : n ≤ cap) :
    Calls Tryz.prog 65 #[.slice (some ⟨b, off, none⟩) n cap, .func (.func 66) #[] #[]] w fun e w' => ∃ (m : Nat) (G : Nat → Tg), e = .returned (.slice (some ⟨b, off, none⟩) m cap) ∧ m ≤ n ∧ TR w' b off m G ∧ (List.range m).map G = fsts F n ∧ OB b w w' := by
  have H0 : Hid (TR w b off n F) := h
  clear h
  by_cases hs : n < 2
  · have hsI : (n : Int) < 2 := by omega
    go_enter Tryz.func65, Tryz.ntmps65
    go_wp2_with fail
    go_ret
    exact ⟨n, F, rfl, Nat.le_refl _, H0.out, (fsts_plain F n fun i a b => by omega).symm, OB.refl _ _⟩
  · have hsI : ¬ (n : Int) < 2 := by omega
    go_enter Tryz.func65, Tryz.ntmps65
    go_wp2_with fail
    go_loopw [5] (fun vk wr => ∃ k : Nat, vk = .int .i64 (k : Int) ∧ 1 ≤ k ∧ k ≤ n ∧ Hid (∀ i, 1 ≤ i → i < k → (F (i - 1)).1 ≠ (F i).1) ∧ TR wr b off n F ∧ OB b w wr) (fun vk _ => n - (intOf vk).toNat)
    case atStart => exact ⟨1, rfl, Nat.le_refl _, by omega, fun i a b => by omega, H0.out, OB.refl _ _⟩
    case round =>
      clear H0 hsI
      obtain ⟨k, rfl, k1, kn, hall, hT, hO⟩ := hrel
      have hTH : Hid (TR wr b off n F) := hT
      have hOH : Hid (OB b w wr) := hO
      clear hO
      by_cases hk : k < n
      · have hkI : (k : Int) < (n : Int) := by omega
        have kw : IntKind.i64.wrap ((k : Int) + 1) = ((k + 1 : Nat) : Int) := IntWalk.i64_in _ (by omega)
        have kv : IntKind.i64.wrap ((k : Int) - 1) = (k : Int) - 1 := IntWalk.i64_in _ (by omega)
        have k0 : (0 : Int) ≤ (k : Int) := by omega
        have k2 : (0 : Int) ≤ (k : Int) - 1 := by omega
        have k3 : (k : Int) - 1 < (n : Int) := by omega
        have k4 : (1 : Int) ≤ (k : Int) := by omega
        obtain ⟨⟨a1, a2⟩, _, _⟩ := hT.2 k (by omega)
        obtain ⟨⟨b1, b2⟩, _, _⟩ := hT.2 (k - 1) (by omega)
        have bl : b < wr.heap.size := hT.1
        have CH := sameKey_any (F k) (F (k - 1))
        have hx : Hid (decide ((F k).1 = (F (k - 1)).1) = decide ((F k).1 = (F (k - 1)).1)) := rfl
        obtain ⟨bv, hbv⟩ : ∃ bv, decide ((F k).1 = (F (k - 1)).1) = bv := ⟨_, rfl⟩
        rw [hbv] at CH
        have hbH : Hid (decide ((F k).1 = (F (k - 1)).1) = bv) := hbv
        have CH : Hid _ := CH
        generalize F k = x at a1 a2 CH
        generalize F (k - 1) = y at b1 b2 CH
        clear hT hbv hx
        cases bv with
        | false =>
          go_wp2_with fail
          refine wp_region_noPanic ?_
          refine wp_region_held_drew (S := fun W => (W.cell? ⟨b, off + k * 2, none⟩ = some (.string x.1) ∧ W.cell? ⟨b, off + k * 2 + 1, none⟩ = some (.string x.2)) ∧ W.cell? ⟨b, off + (k - 1) * 2, none⟩ = some (.string y.1) ∧ W.cell? ⟨b, off + (k - 1) * 2 + 1, none⟩ = some (.string y.2)) (by kernel_rfl) ⟨⟨a1, a2⟩, b1, b2⟩ (fun hHeld => ?_)
          refine zT 0 (v := ?_) rfl ?_ ?_
          rotate_left 1
          · (intro w0 hSw; (try dsimp only at hSw); obtain ⟨⟨s1, s2⟩, s3, s4⟩ := hSw; go_simp; try with_reducible rfl)
          (try simp only [z1, z2, z3]); (try simp only [Act.put, z4, z5, z6])
          refine zT 1 (v := ?_) rfl ?_ ?_
          rotate_left 1
          · (intro w0 hSw; (try dsimp only at hSw); obtain ⟨⟨s1, s2⟩, s3, s4⟩ := hSw; go_simp; try with_reducible rfl)
          (try simp only [z1, z2, z3]); (try simp only [Act.put, z4, z5, z6])
          refine zT 2 (v := ?_) rfl ?_ ?_
          rotate_left 1
          · (intro w0 hSw; (try dsimp only at hSw); obtain ⟨⟨s1, s2⟩, s3, s4⟩ := hSw; go_simp; try with_reducible rfl)
          (try simp only [z1, z2, z3]); (try simp only [Act.put, z4, z5, z6])
          refine zT 3 (v := ?_) rfl ?_ ?_
          rotate_left 1
          · (intro w0 hSw; (try dsimp only at hSw); obtain ⟨⟨s1, s2⟩, s3, s4⟩ := hSw; go_simp; try with_reducible rfl)
          (try simp only [z1, z2, z3]); (try simp only [Act.put, z4, z5, z6])
          refine zT 4 (v := ?_) rfl ?_ ?_
          rotate_left 1
          · (intro w0 hSw; (try dsimp only at hSw); obtain ⟨⟨s1, s2⟩, s3, s4⟩ := hSw; go_simp; try with_reducible rfl)
          (try simp only [z1, z2, z3]); (try simp only [Act.put, z4, z5, z6])
          refine zT 5 (v := ?_) rfl ?_ ?_
          rotate_left 1
          · (intro w0 hSw; (try dsimp only at hSw); obtain ⟨⟨s1, s2⟩, s3, s4⟩ := hSw; go_simp; try with_reducible rfl)
          (try simp only [z1, z2, z3]); (try simp only [Act.put, z4, z5, z6])
          refine zT 6 (v := ?_) rfl ?_ ?_
          rotate_left 1
          · (intro w0 hSw; (try dsimp only at hSw); obtain ⟨⟨s1, s2⟩, s3, s4⟩ := hSw; go_simp; try with_reducible rfl)
          (try simp only [z1, z2, z3]); (try simp only [Act.put, z4, z5, z6])
          refine zT 7 (v := ?_) rfl ?_ ?_
          rotate_left 1
          · (intro w0 hSw; (try dsimp only at hSw); obtain ⟨⟨s1, s2⟩, s3, s4⟩ := hSw; go_simp; try with_reducible rfl)
          (try simp only [z1, z2, z3]); (try simp only [Act.put, z4, z5, z6])
          refine zT 8 (v := ?_) rfl ?_ ?_
          rotate_left 1
          · (intro w0 hSw; (try dsimp only at hSw); obtain ⟨⟨s1, s2⟩, s3, s4⟩ := hSw; go_simp; try with_reducible rfl)
          (try simp only [z1, z2, z3]); (try simp only [Act.put, z4, z5, z6])
          refine zT 9 (v := ?_) rfl ?_ ?_
          rotate_left 1
          · (intro w0 hSw; (try dsimp only at hSw); obtain ⟨⟨s1, s2⟩, s3, s4⟩ := hSw; go_simp; try with_reducible rfl)
          (try simp only [z1, z2, z3]); (try simp only [Act.put, z4, z5, z6])
          refine wpAnyH_ready (rs := [10]) (by kernel_rfl) (by simp) ?_
          refine AllReadyH.cons (o := _) rfl (fun K hK => ?_) AllReadyH.nil
          go_simp
          refine Calls.mono (CH.out _) ?_
          rintro e w' ⟨rfl, BB⟩
          try dsimp only
          refine hK _ _ ?_ (fun hHeld => ?_)
          · exact ⟨⟨by rw [BB.cell (p := ⟨b, off + k * 2, none⟩) bl]; exact a1, by rw [BB.cell (p := ⟨b, off + k * 2 + 1, none⟩) bl]; exact a2⟩, by rw [BB.cell (p := ⟨b, off + (k - 1) * 2, none⟩) bl]; exact b1, by rw [BB.cell (p := ⟨b, off + (k - 1) * 2 + 1, none⟩) bl]; exact b2⟩
          clear hK K
          (try simp only [z1, z2, z3]); (try simp only [Act.put, z4, z5, z6])
          refine wpAnyH_done (by kernel_rfl) ?_ _
          refine NoPanic.normal ?_
          have T2H : Hid (TR w' b off n F) := TR.below (show TR wr.drew b off n F from hTH.out) BB
          have O2 : Hid (OB b w w') := (show OB b w wr.drew from hOH.out.drew).trans (OB.below BB)
          have nx : Hid (∀ i, 1 ≤ i → i < k + 1 → (F (i - 1)).1 ≠ (F i).1) := fun i i1 i2 => by
            by_cases c : i < k
            · exact hall.out i i1 c
            · have : i = k := by omega
              subst this
              exact fun e => of_decide_eq_false hbH.out e.symm
          clear a1 a2 b1 b2 BB hTH hOH hall hbH CH
          go_wp2_with fail
          exact ⟨⟨k + 1, by first | rfl | simp, by omega, by omega, nx, T2H.out, O2.out⟩, by simp [intOf]; omega⟩
        | true =>
          go_wp2_with fail
          refine wp_region_noPanic ?_
          refine wp_region_held_drew (S := fun W => (W.cell? ⟨b, off + k * 2, none⟩ = some (.string x.1) ∧ W.cell? ⟨b, off + k * 2 + 1, none⟩ = some (.string x.2)) ∧ W.cell? ⟨b, off + (k - 1) * 2, none⟩ = some (.string y.1) ∧ W.cell? ⟨b, off + (k - 1) * 2 + 1, none⟩ = some (.string y.2)) (by kernel_rfl) ⟨⟨a1, a2⟩, b1, b2⟩ (fun hHeld => ?_)
          refine zT 0 (v := ?_) rfl ?_ ?_
          rotate_left 1
          · (intro w0 hSw; (try dsimp only at hSw); obtain ⟨⟨s1, s2⟩, s3, s4⟩ := hSw; go_simp; try with_reducible rfl)
          (try simp only [z1, z2, z3]); (try simp only [Act.put, z4, z5, z6])
          refine zT 1 (v := ?_) rfl ?_ ?_
          rotate_left 1
          · (intro w0 hSw; (try dsimp only at hSw); obtain ⟨⟨s1, s2⟩, s3, s4⟩ := hSw; go_simp; try with_reducible rfl)
          (try simp only [z1, z2, z3]); (try simp only [Act.put, z4, z5, z6])
          refine zT 2 (v := ?_) rfl ?_ ?_
          rotate_left 1
          · (intro w0 hSw; (try dsimp only at hSw); obtain ⟨⟨s1, s2⟩, s3, s4⟩ := hSw; go_simp; try with_reducible rfl)
          (try simp only [z1, z2, z3]); (try simp only [Act.put, z4, z5, z6])
          refine zT 3 (v := ?_) rfl ?_ ?_
          rotate_left 1
          · (intro w0 hSw; (try dsimp only at hSw); obtain ⟨⟨s1, s2⟩, s3, s4⟩ := hSw; go_simp; try with_reducible rfl)
          (try simp only [z1, z2, z3]); (try simp only [Act.put, z4, z5, z6])
          refine zT 4 (v := ?_) rfl ?_ ?_
          rotate_left 1
          · (intro w0 hSw; (try dsimp only at hSw); obtain ⟨⟨s1, s2⟩, s3, s4⟩ := hSw; go_simp; try with_reducible rfl)
          (try simp only [z1, z2, z3]); (try simp only [Act.put, z4, z5, z6])
          refine zT 5 (v := ?_) rfl ?_ ?_
          rotate_left 1
          · (intro w0 hSw; (try dsimp only at hSw); obtain ⟨⟨s1, s2⟩, s3, s4⟩ := hSw; go_simp; try with_reducible rfl)
          (try simp only [z1, z2, z3]); (try simp only [Act.put, z4, z5, z6])
          refine zT 6 (v := ?_) rfl ?_ ?_
          rotate_left 1
          · (intro w0 hSw; (try dsimp only at hSw); obtain ⟨⟨s1, s2⟩, s3, s4⟩ := hSw; go_simp; try with_reducible rfl)
          (try simp only [z1, z2, z3]); (try simp only [Act.put, z4, z5, z6])
          refine zT 7 (v := ?_) rfl ?_ ?_
          rotate_left 1
          · (intro w0 hSw; (try dsimp only at hSw); obtain ⟨⟨s1, s2⟩, s3, s4⟩ := hSw; go_simp; try with_reducible rfl)
          (try simp only [z1, z2, z3]); (try simp only [Act.put, z4, z5, z6])
          refine zT 8 (v := ?_) rfl ?_ ?_
          rotate_left 1
          · (intro w0 hSw; (try dsimp only at hSw); obtain ⟨⟨s1, s2⟩, s3, s4⟩ := hSw; go_simp; try with_reducible rfl)
          (try simp only [z1, z2, z3]); (try simp only [Act.put, z4, z5, z6])
          refine zT 9 (v := ?_) rfl ?_ ?_
          rotate_left 1
          · (intro w0 hSw; (try dsimp only at hSw); obtain ⟨⟨s1, s2⟩, s3, s4⟩ := hSw; go_simp; try with_reducible rfl)
          (try simp only [z1, z2, z3]); (try simp only [Act.put, z4, z5, z6])
          refine wpAnyH_ready (rs := [10]) (by kernel_rfl) (by simp) ?_
          refine AllReadyH.cons (o := _) rfl (fun K hK => ?_) AllReadyH.nil
          go_simp
          refine Calls.mono (CH.out _) ?_
          rintro e w' ⟨rfl, BB⟩
          try dsimp only
          refine hK _ _ ?_ (fun hHeld => ?_)
          · exact ⟨⟨by rw [BB.cell (p := ⟨b, off + k * 2, none⟩) bl]; exact a1, by rw [BB.cell (p := ⟨b, off + k * 2 + 1, none⟩) bl]; exact a2⟩, by rw [BB.cell (p := ⟨b, off + (k - 1) * 2, none⟩) bl]; exact b1, by rw [BB.cell (p := ⟨b, off + (k - 1) * 2 + 1, none⟩) bl]; exact b2⟩
          clear hK K
          (try simp only [z1, z2, z3]); (try simp only [Act.put, z4, z5, z6])
          refine wpAnyH_done (by kernel_rfl) ?_ _
          refine NoPanic.normal ?_
          have T2H : Hid (TR w' b off n F) := TR.below (show TR wr.drew b off n F from hTH.out) BB
          have O2 : Hid (OB b w w') := (show OB b w wr.drew from hOH.out.drew).trans (OB.below BB)
          have cs0 : Hid (CS F F (k + 1) k) := (CS.mk (fsts_plain F k hall.out).symm (fun _ _ => rfl) : CS F F k k).skip k1 (of_decide_eq_true hbH.out)
          clear a1 a2 b1 b2 BB hTH hOH hall hbH CH
          have kc : (k : Int) ≤ (cap : Int) := by omega
          go_wp2_with fail
          generalize hl : n - k = l
          generalize ho : off + k * 2 = o2
          have hlH : Hid (n - k = l) := hl
          have hoH : Hid (off + k * 2 = o2) := ho
          clear hl ho kc kw kv k0 k2 k3 k4 bl hHeld
          go_loopw [5, 7] (fun vk vq wr => ∃ (m q : Nat) (H : Nat → Tg), vk = .int .i64 (m : Int) ∧ vq = .int .i64 (q : Int) ∧ k ≤ m ∧ 1 ≤ q ∧ q ≤ l ∧ m + 1 ≤ k + q ∧ Hid (CS F H (k + q) m) ∧ TR wr b off n H ∧ OB b w wr) (fun _ vq _ => l - (intOf vq).toNat)
          case atStart => exact ⟨k, 1, F, rfl, rfl, Nat.le_refl _, Nat.le_refl _, by have := hlH.out; omega, by omega, cs0, T2H.out, O2.out⟩
          case round =>
            clear T2H O2 cs0
            obtain ⟨m, q, H, rfl, rfl, m1, q1, q2, m2, hcs, hT, hO⟩ := hrel
            have hTH : Hid (TR wr b off n H) := hT
            have hOH : Hid (OB b w wr) := hO
            clear hO
            by_cases hq : q < l
            · have hqI : (q : Int) < (l : Int) := by omega
              have kw : IntKind.i64.wrap ((q : Int) + 1) = ((q + 1 : Nat) : Int) := IntWalk.i64_in _ (by have := hlH.out; omega)
              have kv : IntKind.i64.wrap ((q : Int) - 1) = (q : Int) - 1 := IntWalk.i64_in _ (by have := hlH.out; omega)
              have k0 : (0 : Int) ≤ (q : Int) := by omega
              have k2 : (0 : Int) ≤ (q : Int) - 1 := by omega
              have k3 : (q : Int) - 1 < (l : Int) := by omega
              have k4 : (1 : Int) ≤ (q : Int) := by omega
              obtain ⟨⟨a1, a2⟩, _, _⟩ := hT.2 (k + q) (by have := hlH.out; omega)
              obtain ⟨⟨b1, b2⟩, _, _⟩ := hT.2 (k + q - 1) (by have := hlH.out; omega)
              rw [show off + (k + q) * 2 = o2 + q * 2 by have := hoH.out; omega] at a1 a2
              rw [show off + (k + q - 1) * 2 = o2 + (q - 1) * 2 by have := hoH.out; omega] at b1 b2
              rw [hcs.out.rest (k + q) (by omega)] at a1 a2
              rw [hcs.out.rest (k + q - 1) (by omega)] at b1 b2
              have bl : b < wr.heap.size := hT.1
              have CH0 := sameKey_any (F (k + q)) (F (k + q - 1))
              obtain ⟨bv, hbv⟩ : ∃ bv, decide ((F (k + q)).1 = (F (k + q - 1)).1) = bv := ⟨_, rfl⟩
              rw [hbv] at CH0
              have hbH : Hid (decide ((F (k + q)).1 = (F (k + q - 1)).1) = bv) := hbv
              have CH : Hid _ := CH0
              have hnew : Hid ((F (k + q)).1 ≠ (F (k + q - 1)).1 → CS F (upd H m (F (k + q))) (k + q + 1) (m + 1)) := fun e => hcs.out.new e
              have hsk : Hid ((F (k + q)).1 = (F (k + q - 1)).1 → CS F H (k + q + 1) m) := fun e => hcs.out.skip (by omega) e
              generalize F (k + q) = x at a1 a2 CH hbH hnew hsk
              generalize F (k + q - 1) = y at b1 b2 CH hbH hnew hsk
              clear hT hbv CH0 hcs
              cases bv with
              | true =>
                go_wp2_with fail
                refine wp_region_noPanic ?_
                refine wp_region_held_drew (S := fun W => (W.cell? ⟨b, o2 + q * 2, none⟩ = some (.string x.1) ∧ W.cell? ⟨b, o2 + q * 2 + 1, none⟩ = some (.string x.2)) ∧ W.cell? ⟨b, o2 + (q - 1) * 2, none⟩ = some (.string y.1) ∧ W.cell? ⟨b, o2 + (q - 1) * 2 + 1, none⟩ = some (.string y.2)) (by kernel_rfl) ⟨⟨a1, a2⟩, b1, b2⟩ (fun hHeld => ?_)
                refine zT 0 (v := ?_) rfl ?_ ?_
                rotate_left 1
                · (intro w0 hSw; (try dsimp only at hSw); obtain ⟨⟨s1, s2⟩, s3, s4⟩ := hSw; go_simp; try with_reducible rfl)
                (try simp only [z1, z2, z3]); (try simp only [Act.put, z4, z5, z6])
                refine zT 1 (v := ?_) rfl ?_ ?_
                rotate_left 1
                · (intro w0 hSw; (try dsimp only at hSw); obtain ⟨⟨s1, s2⟩, s3, s4⟩ := hSw; go_simp; try with_reducible rfl)
                (try simp only [z1, z2, z3]); (try simp only [Act.put, z4, z5, z6])
                refine zT 2 (v := ?_) rfl ?_ ?_
                rotate_left 1
                · (intro w0 hSw; (try dsimp only at hSw); obtain ⟨⟨s1, s2⟩, s3, s4⟩ := hSw; go_simp; try with_reducible rfl)
                (try simp only [z1, z2, z3]); (try simp only [Act.put, z4, z5, z6])
                refine zT 3 (v := ?_) rfl ?_ ?_
                rotate_left 1
                · (intro w0 hSw; (try dsimp only at hSw); obtain ⟨⟨s1, s2⟩, s3, s4⟩ := hSw; go_simp; try with_reducible rfl)
                (try simp only [z1, z2, z3]); (try simp only [Act.put, z4, z5, z6])
                refine zT 4 (v := ?_) rfl ?_ ?_
                rotate_left 1
                · (intro w0 hSw; (try dsimp only at hSw); obtain ⟨⟨s1, s2⟩, s3, s4⟩ := hSw; go_simp; try with_reducible rfl)
                (try simp only [z1, z2, z3]); (try simp only [Act.put, z4, z5, z6])
                refine zT 5 (v := ?_) rfl ?_ ?_
                rotate_left 1
                · (intro w0 hSw; (try dsimp only at hSw); obtain ⟨⟨s1, s2⟩, s3, s4⟩ := hSw; go_simp; try with_reducible rfl)
                (try simp only [z1, z2, z3]); (try simp only [Act.put, z4, z5, z6])
                refine zT 6 (v := ?_) rfl ?_ ?_
                rotate_left 1
                · (intro w0 hSw; (try dsimp only at hSw); obtain ⟨⟨s1, s2⟩, s3, s4⟩ := hSw; go_simp; try with_reducible rfl)
                (try simp only [z1, z2, z3]); (try simp only [Act.put, z4, z5, z6])
                refine zT 7 (v := ?_) rfl ?_ ?_
                rotate_left 1
                · (intro w0 hSw; (try dsimp only at hSw); obtain ⟨⟨s1, s2⟩, s3, s4⟩ := hSw; go_simp; try with_reducible rfl)
                (try simp only [z1, z2, z3]); (try simp only [Act.put, z4, z5, z6])
                refine zT 8 (v := ?_) rfl ?_ ?_
                rotate_left 1
                · (intro w0 hSw; (try dsimp only at hSw); obtain ⟨⟨s1, s2⟩, s3, s4⟩ := hSw; go_simp; try with_reducible rfl)
                (try simp only [z1, z2, z3]); (try simp only [Act.put, z4, z5, z6])
                refine zT 9 (v := ?_) rfl ?_ ?_
                rotate_left 1
                · (intro w0 hSw; (try dsimp only at hSw); obtain ⟨⟨s1, s2⟩, s3, s4⟩ := hSw; go_simp; try with_reducible rfl)
                (try simp only [z1, z2, z3]); (try simp only [Act.put, z4, z5, z6])
                refine wpAnyH_ready (rs := [10]) (by kernel_rfl) (by simp) ?_
                refine AllReadyH.cons (o := _) rfl (fun K hK => ?_) AllReadyH.nil
                go_simp
                refine Calls.mono (CH.out _) ?_
                rintro e w' ⟨rfl, BB⟩
                try dsimp only
                refine hK _ _ ?_ (fun hHeld => ?_)
                · exact ⟨⟨by rw [BB.cell (p := ⟨b, o2 + q * 2, none⟩) bl]; exact a1, by rw [BB.cell (p := ⟨b, o2 + q * 2 + 1, none⟩) bl]; exact a2⟩, by rw [BB.cell (p := ⟨b, o2 + (q - 1) * 2, none⟩) bl]; exact b1, by rw [BB.cell (p := ⟨b, o2 + (q - 1) * 2 + 1, none⟩) bl]; exact b2⟩
                clear hK K
                (try simp only [z1, z2, z3]); (try simp only [Act.put, z4, z5, z6])
                refine zT 11 (v := ?_) rfl ?_ ?_
                rotate_left 1
                · (intro w0 hSw; (try dsimp only at hSw); obtain ⟨⟨s1, s2⟩, s3, s4⟩ := hSw; go_simp; try with_reducible rfl)
                (try simp only [z1, z2, z3]); (try simp only [Act.put, z4, z5, z6])
                refine wpAnyH_done (by kernel_rfl) ?_ _
                refine NoPanic.normal ?_
                have T2H : Hid (TR w' b off n H) := TR.below (show TR wr.drew b off n H from hTH.out) BB
                have O2 : Hid (OB b w w') := (show OB b w wr.drew from hOH.out.drew).trans (OB.below BB)
                have nx : Hid (CS F H (k + (q + 1)) m) := hsk.out (of_decide_eq_true hbH.out)
                clear a1 a2 b1 b2 BB hTH hOH hbH CH hnew hsk
                go_wp2_with fail
                exact ⟨⟨m, q + 1, H, rfl, by first | rfl | simp, m1, by omega, by omega, by omega, nx, T2H.out, O2.out⟩, by simp [intOf]; omega⟩
              | false =>
                go_wp2_with fail
                refine wp_region_noPanic ?_
                refine wp_region_held_drew (S := fun W => (W.cell? ⟨b, o2 + q * 2, none⟩ = some (.string x.1) ∧ W.cell? ⟨b, o2 + q * 2 + 1, none⟩ = some (.string x.2)) ∧ W.cell? ⟨b, o2 + (q - 1) * 2, none⟩ = some (.string y.1) ∧ W.cell? ⟨b, o2 + (q - 1) * 2 + 1, none⟩ = some (.string y.2)) (by kernel_rfl) ⟨⟨a1, a2⟩, b1, b2⟩ (fun hHeld => ?_)
                refine zT 0 (v := ?_) rfl ?_ ?_
                rotate_left 1
                · (intro w0 hSw; (try dsimp only at hSw); obtain ⟨⟨s1, s2⟩, s3, s4⟩ := hSw; go_simp; try with_reducible rfl)
                (try simp only [z1, z2, z3]); (try simp only [Act.put, z4, z5, z6])
                refine zT 1 (v := ?_) rfl ?_ ?_
                rotate_left 1
                · (intro w0 hSw; (try dsimp only at hSw); obtain ⟨⟨s1, s2⟩, s3, s4⟩ := hSw; go_simp; try with_reducible rfl)
                (try simp only [z1, z2, z3]); (try simp only [Act.put, z4, z5, z6])
                refine zT 2 (v := ?_) rfl ?_ ?_
                rotate_left 1
                · (intro w0 hSw; (try dsimp only at hSw); obtain ⟨⟨s1, s2⟩, s3, s4⟩ := hSw; go_simp; try with_reducible rfl)
                (try simp only [z1, z2, z3]); (try simp only [Act.put, z4, z5, z6])
                refine zT 3 (v := ?_) rfl ?_ ?_
                rotate_left 1
                · (intro w0 hSw; (try dsimp only at hSw); obtain ⟨⟨s1, s2⟩, s3, s4⟩ := hSw; go_simp; try with_reducible rfl)
                (try simp only [z1, z2, z3]); (try simp only [Act.put, z4, z5, z6])
                refine zT 4 (v := ?_) rfl ?_ ?_
                rotate_left 1
                · (intro w0 hSw; (try dsimp only at hSw); obtain ⟨⟨s1, s2⟩, s3, s4⟩ := hSw; go_simp; try with_reducible rfl)
                (try simp only [z1, z2, z3]); (try simp only [Act.put, z4, z5, z6])
                refine zT 5 (v := ?_) rfl ?_ ?_
                rotate_left 1
                · (intro w0 hSw; (try dsimp only at hSw); obtain ⟨⟨s1, s2⟩, s3, s4⟩ := hSw; go_simp; try with_reducible rfl)
                (try simp only [z1, z2, z3]); (try simp only [Act.put, z4, z5, z6])
                refine zT 6 (v := ?_) rfl ?_ ?_
                rotate_left 1
                · (intro w0 hSw; (try dsimp only at hSw); obtain ⟨⟨s1, s2⟩, s3, s4⟩ := hSw; go_simp; try with_reducible rfl)
                (try simp only [z1, z2, z3]); (try simp only [Act.put, z4, z5, z6])
                refine zT 7 (v := ?_) rfl ?_ ?_
                rotate_left 1
                · (intro w0 hSw; (try dsimp only at hSw); obtain ⟨⟨s1, s2⟩, s3, s4⟩ := hSw; go_simp; try with_reducible rfl)
                (try simp only [z1, z2, z3]); (try simp only [Act.put, z4, z5, z6])
                refine zT 8 (v := ?_) rfl ?_ ?_
                rotate_left 1
                · (intro w0 hSw; (try dsimp only at hSw); obtain ⟨⟨s1, s2⟩, s3, s4⟩ := hSw; go_simp; try with_reducible rfl)
                (try simp only [z1, z2, z3]); (try simp only [Act.put, z4, z5, z6])
                refine zT 9 (v := ?_) rfl ?_ ?_
                rotate_left 1
                · (intro w0 hSw; (try dsimp only at hSw); obtain ⟨⟨s1, s2⟩, s3, s4⟩ := hSw; go_simp; try with_reducible rfl)
                (try simp only [z1, z2, z3]); (try simp only [Act.put, z4, z5, z6])
                refine wpAnyH_ready (rs := [10]) (by kernel_rfl) (by simp) ?_
                refine AllReadyH.cons (o := _) rfl (fun K hK => ?_) AllReadyH.nil
                go_simp
                refine Calls.mono (CH.out _) ?_
                rintro e w' ⟨rfl, BB⟩
                try dsimp only
                refine hK _ _ ?_ (fun hHeld => ?_)
                · exact ⟨⟨by rw [BB.cell (p := ⟨b, o2 + q * 2, none⟩) bl]; exact a1, by rw [BB.cell (p := ⟨b, o2 + q * 2 + 1, none⟩) bl]; exact a2⟩, by rw [BB.cell (p := ⟨b, o2 + (q - 1) * 2, none⟩) bl]; exact b1, by rw [BB.cell (p := ⟨b, o2 + (q - 1) * 2 + 1, none⟩) bl]; exact b2⟩
                clear hK K
                (try simp only [z1, z2, z3]); (try simp only [Act.put, z4, z5, z6])
                refine zT 11 (v := ?_) rfl ?_ ?_
                rotate_left 1
                · (intro w0 hSw; (try dsimp only at hSw); obtain ⟨⟨s1, s2⟩, s3, s4⟩ := hSw; go_simp; try with_reducible rfl)
                (try simp only [z1, z2, z3]); (try simp only [Act.put, z4, z5, z6])
                refine wpAnyH_done (by kernel_rfl) ?_ _
                refine NoPanic.normal ?_
                have T2 : TR w' b off n H := TR.below (show TR wr.drew b off n H from hTH.out) BB
                have O2 : Hid (OB b w w') := (show OB b w wr.drew from hOH.out.drew).trans (OB.below BB)
                have nx : Hid (CS F (upd H m x) (k + (q + 1)) (m + 1)) := hnew.out (of_decide_eq_false hbH.out)
                obtain ⟨⟨⟨c1, c2⟩, _⟩, _⟩ : (((w'.cell? ⟨b, o2 + q * 2, none⟩ = some (.string x.1) ∧ w'.cell? ⟨b, o2 + q * 2 + 1, none⟩ = some (.string x.2)) ∧ True) ∧ True) := ⟨⟨by first | exact hHeld.1 | (rename_i hh; exact hh.1), trivial⟩, trivial⟩
                have mn : m < n := by have := hlH.out; omega
                obtain ⟨⟨d1, d2⟩, d3, d4⟩ := T2.2 m mn
                have m0 : (0 : Int) ≤ (m : Int) := by omega
                have mI : (m : Int) < (n : Int) := by omega
                have mw : IntKind.i64.wrap ((m : Int) + 1) = ((m + 1 : Nat) : Int) := IntWalk.i64_in _ (by omega)
                have hT2 : Hid (TR ((w'.setCell ⟨b, off + m * 2, none⟩ (.string x.1)).setCell ⟨b, off + m * 2 + 1, none⟩ (.string x.2)) b off n (upd H m x)) := T2.set mn x.1 x.2
                have hO2 : Hid (OB b w ((w'.setCell ⟨b, off + m * 2, none⟩ (.string x.1)).setCell ⟨b, off + m * 2 + 1, none⟩ (.string x.2))) := (O2.out.trans (OB.set _ _ _)).trans (OB.set _ _ _)
                clear a1 a2 b1 b2 BB hTH hOH hbH CH hnew hsk T2 O2
                go_wp2_with fail
                exact ⟨⟨m + 1, q + 1, upd H m x, by first | rfl | simp, by first | rfl | simp, by omega, by omega, by omega, by omega, nx, hT2.out, hO2.out⟩, by simp [intOf]; omega⟩
            · have hqI : ¬ (q : Int) < (l : Int) := by omega
              have mn : m < n := by have := hlH.out; omega
              have fin : Hid ((List.range m).map H = fsts F n) := by
                have := hcs.out.is
                rw [show k + q = n by have := hlH.out; omega] at this
                exact this
              have m0 : (0 : Int) ≤ (m : Int) := by omega
              have mc : (m : Int) ≤ (cap : Int) := by omega
              have mI : (m : Int) ≤ (n : Int) := by omega
              have hcl : ∀ ty, (Builtin.clear_ #[66] ty #[.slice (some ⟨b, off + m * 2, none⟩) (n - m) (cap - m)]).run Tryz.prog wr = .ok (.tuple #[]) (wr.setCells b (off + m * 2) (noS (n - m))) := fun ty => run_clearT wr ty b (off + m * 2) (n - m) (cap - m) (by omega)
                (fun j hj => by
                  obtain ⟨⟨d1, d2⟩, d3, d4⟩ := hT.2 (m + j / 2) (by omega)
                  rcases (by omega : j % 2 = 0 ∨ j % 2 = 1) with e | e
                  · rw [show off + m * 2 + j = off + (m + j / 2) * 2 by omega, d1]; rfl
                  · rw [show off + m * 2 + j = off + (m + j / 2) * 2 + 1 by omega, d2]; rfl)
                (fun j hj => by
                  obtain ⟨⟨d1, d2⟩, d3, d4⟩ := hT.2 (m + j / 2) (by omega)
                  rcases (by omega : j % 2 = 0 ∨ j % 2 = 1) with e | e
                  · rw [show off + m * 2 + j = off + (m + j / 2) * 2 by omega]; exact d3
                  · rw [show off + m * 2 + j = off + (m + j / 2) * 2 + 1 by omega]; exact d4)
              have hT2 : Hid (TR (wr.setCells b (off + m * 2) (noS (n - m))) b off m H) := hT.cleared (by omega) _
              have hO2 : Hid (OB b w (wr.setCells b (off + m * 2) (noS (n - m)))) := hOH.out.trans (OB.sets _ _ _)
              clear hT hTH hOH hcs
              go_wp2_with fail
              go_ret
              first | exact ⟨m, rfl, by omega, H, hT2.out, fin.out, hO2.out⟩ | exact ⟨m, H, rfl, by omega, hT2.out, fin.out, hO2.out⟩
      · have hkI : ¬ (k : Int) < (n : Int) := by omega
        obtain rfl : k = n := by omega
        have fin : Hid ((List.range k).map F = fsts F k) := (fsts_plain F k hall.out).symm
        clear hT
        go_wp2_with fail
        go_ret
        exact ⟨k, rfl, Nat.le_refl _, F, hTH.out, fin.out, hOH.out⟩
end Go.Proofs.YtpbcbpiolhjlhaaGreatDoor.So
