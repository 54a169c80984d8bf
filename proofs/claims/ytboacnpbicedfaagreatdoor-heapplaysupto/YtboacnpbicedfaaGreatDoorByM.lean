
import Derived.Test.YtboacnpbicedfaaGreatDoorHpLq
import Derived.Test.YtboacnpbicedfaaGreatDoorByL
namespace Go.Proofs.YtboacnpbicedfaaGreatDoor.Hp
open Go.RowKit Go.Maps
set_option linter.unusedVariables false
set_option linter.unusedSimpArgs false
set_option maxRecDepth 100000
def L3 : List Ent := [(1, ⟨#[97]⟩), (2, ⟨#[98]⟩), (3, ⟨#[99]⟩)]
theorem bld3 : bldL (ahd true) (3 / 2) (L3, 0) = ([(3, ⟨#[99]⟩), (2, ⟨#[98]⟩), (1, ⟨#[97]⟩)], 1) := by
  have k0 : kidL (ahd true) L3 0 = 2 := by decide
  have d0 : downL (ahd true) L3 0 = ([(3, ⟨#[99]⟩), (2, ⟨#[98]⟩), (1, ⟨#[97]⟩)], 1) := by
    rw [downL_go (by rw [k0]; decide) (by rw [k0]; decide), k0]
    have e : swp L3 0 2 = [(3, ⟨#[99]⟩), (2, ⟨#[98]⟩), (1, ⟨#[97]⟩)] := rfl
    rw [e, downL_stop (by rintro ⟨q, _⟩; rcases kidL_two (ahd true) [(3, ⟨#[99]⟩), (2, ⟨#[98]⟩), (1, ⟨#[97]⟩)] 2 with k | k <;> rw [k] at q <;> simp at q)]
  show bldL (ahd true) 0 ((downL (ahd true) L3 0).1, 0 + (downL (ahd true) L3 0).2) = _
  rw [d0]
  rfl
theorem kn3 : ¬ ∃ j, j < L3.length ∧ kn (L3.take j) (atE L3 j).2 = true := by
  rintro ⟨j, hj, hk⟩
  have hj3 : j < 3 := hj
  have : j = 0 ∨ j = 1 ∨ j = 2 := by omega
  rcases this with rfl | rfl | rfl <;> revert hk <;> decide
set_option maxRecDepth 100000 in
set_option maxHeartbeats 4000000 in
theorem live_any (w : World) : Calls Tryz.prog 14 #[] w fun e w' => e = .returned (.bool true) ∧ Below w.heap.size w w' := by
  obtain ⟨W1, hW1⟩ : ∃ W1, W1 = w.alloc (.cells #[.int .i64 1, .string ⟨#[97]⟩, .int .i64 2, .string ⟨#[98]⟩, .int .i64 3, .string ⟨#[99]⟩] 30) := ⟨_, rfl⟩
  have b1 : Below w.heap.size w W1 := by rw [hW1]; exact (Below.refl _ w).alloc (Nat.le_refl _) _
  have s1 : W1.heap.size = w.heap.size + 1 := by rw [hW1]; simp
  have en : EnIn W1 (some ⟨w.heap.size, 0, none⟩) L3 := by
    refine Or.inr ⟨_, _, rfl, by omega, fun i t ht => ?_⟩
    have hi : i < 3 := (List.getElem?_eq_some_iff.1 ht).1
    have : i = 0 ∨ i = 1 ∨ i = 2 := by omega
    rw [hW1]
    rcases this with rfl | rfl | rfl <;> (injection ht with ht; subst ht; constructor <;> simp [go_sem])
  have CB : Hid (Calls Tryz.prog 9 #[.bool true, .slice (some ⟨w.heap.size, 0, none⟩) 3 3] W1 fun e w' => e = .returned (.tuple #[.pointer (some ⟨w.heap.size + 2, 0, none⟩), .nilIface]) ∧ GB W1 (w.heap.size + 2) (w.heap.size + 1) true [(3, ⟨#[99]⟩), (2, ⟨#[98]⟩), (1, ⟨#[97]⟩)] 1 w') := by
    refine (build_any true (some ⟨w.heap.size, 0, none⟩) 3 L3 W1 en (by intro e he; simp [L3] at he; rcases he with rfl | rfl | rfl <;> decide) (by decide)).mono fun e w' hh => ?_
    rcases hh.1 with ⟨er, _, q⟩ | ⟨q1, q2⟩
    · exact absurd q kn3
    · rw [s1] at q1 q2
      have e3 : L3.length = 3 := rfl
      rw [e3, bld3] at q2
      exact ⟨q1, q2⟩
  have NX : Hid (∀ w', GB W1 (w.heap.size + 2) (w.heap.size + 1) true [(3, ⟨#[99]⟩), (2, ⟨#[98]⟩), (1, ⟨#[97]⟩)] 1 w' → Below w.heap.size w w' ∧ Calls Tryz.prog 36 #[.pointer (some ⟨w.heap.size + 2, 0, none⟩)] w' fun e w2 => e = .returned (.tuple #[eV (3, ⟨#[99]⟩), .bool true]) ∧ Below w.heap.size w w2 ∧ ∀ W, Below w2.heap.size w2 W → (Calls Tryz.prog 40 #[.pointer (some ⟨w.heap.size + 2, 0, none⟩)] W fun e w3 => e = .returned (.int .i64 3) ∧ w3 = W) ∧ Calls Tryz.prog 46 #[.pointer (some ⟨w.heap.size + 2, 0, none⟩)] W fun e w3 => e = .returned (.int .i64 1) ∧ w3 = W) := fun w' gb => by
    have bb : Below w.heap.size w w' := below_trans b1 (below_less gb.bl (by omega))
    obtain ⟨v, f, hs⟩ := gb.hs
    refine ⟨bb, (top_some hs (by decide)).mono fun e w2 hh => ⟨hh.1, below_trans bb (below_less hh.2 bb.size), fun W hW => ?_⟩⟩
    have h2 := (hs.below hh.2).below hW
    exact ⟨len_any h2, moves_any h2⟩
  unfold eV at NX
  have hW1H : Hid (w.alloc (.cells #[.int .i64 1, .string ⟨#[97]⟩, .int .i64 2, .string ⟨#[98]⟩, .int .i64 3, .string ⟨#[99]⟩] 30) = W1) := hW1.symm
  clear hW1 b1 s1 en
  go_enter Tryz.func14, Tryz.ntmps14
  go_wp2_with fail
  rw [hW1H.out]
  refine Calls.mono CB.out ?_
  rintro e w1 ⟨rfl, gb⟩
  obtain ⟨bb, CT0⟩ := NX.out w1 gb
  have CT1 : Hid _ := CT0
  clear CT0 NX gb CB hW1H bb
  go_wp2_with fail
  refine Calls.mono CT1.out ?_
  rintro e w2 ⟨rfl, b2, CM0⟩
  have CM : Hid _ := CM0
  have b2H : Hid (Below w.heap.size w w2) := b2
  clear CM0 CT1 b2
  go_wp2_with fail
  have bA : Below w2.heap.size w2 (w2.alloc (.cells #[.int .i64 3, .string ⟨#[99]⟩] 30)) := (Below.refl _ w2).alloc (Nat.le_refl _) _
  obtain ⟨CL0, CM0⟩ := CM.out _ bA
  have CL : Hid _ := CL0
  have CM1 : Hid _ := CM0
  have fin : Hid (Below w.heap.size w (w2.alloc (.cells #[.int .i64 3, .string ⟨#[99]⟩] 30))) := below_trans b2H.out (below_less bA b2H.out.size)
  clear CL0 CM0 CM bA b2H
  refine Calls.mono CL.out ?_
  rintro e w3 ⟨rfl, hw3⟩
  subst hw3
  go_wp2_with fail
  refine Calls.mono CM1.out ?_
  rintro e w3 ⟨rfl, hw3⟩
  subst hw3
  go_wp2_with fail
  go_ret
  exact ⟨rfl, fin.out⟩
end Go.Proofs.YtboacnpbicedfaaGreatDoor.Hp

namespace Go.Proofs.YtboacnpbicedfaaGreatDoor.Hp
open Go.RowKit Go.Maps
set_option linter.unusedVariables false
set_option linter.unusedSimpArgs false
set_option maxRecDepth 100000
theorem row_new {w : World} {N : Nat} {T : TypeId} {x : Value} {g : Nat} (hN : N ≤ g) (hg : w.heap[g]? = some (.cells #[x] T)) : w.ownsRow N T 1 (.slice (some ⟨g, 0, none⟩) 1 1) 1 [x] :=
  ⟨rfl, Or.inr ⟨g, 1, #[x], rfl, hN, hg, Nat.le_refl _, by decide, rfl, rfl⟩⟩
/-- the first pair. -/
theorem PP.start {w w1 W1 w2 W2 : World} {n : Nat} {x y : Value} {q : QV} (b1 : Below w.heap.size w w1) (hx : HX w.heap.size w1 x q) (hW1 : W1 = w1.alloc (.cells #[x] 23)) (b2 : Below W1.heap.size W1 w2) (dx : DX W1.heap.size w2 y q) (hW2 : W2 = w2.alloc (.cells #[y] 26)) (hn : ∀ r, q = some r → r.2.1.length ≤ n) :
    ∃ p, PP W2 w.heap.size n (.slice (some ⟨w1.heap.size, 0, none⟩) 1 1) (.slice (some ⟨w2.heap.size, 0, none⟩) 1 1) [p] := by
  have s1 : W1.heap.size = w1.heap.size + 1 := by rw [hW1]; simp
  have s2 : W2.heap.size = w2.heap.size + 1 := by rw [hW2]; simp
  have c1 : Below w1.heap.size w1 W1 := by rw [hW1]; exact (Below.refl _ w1).alloc (Nat.le_refl _) _
  have c2 : Below w2.heap.size w2 W2 := by rw [hW2]; exact (Below.refl _ w2).alloc (Nat.le_refl _) _
  have z1 := b1.size
  have z2 := b2.size
  have g1 : W2.heap[w1.heap.size]? = some (.cells #[x] 23) := by
    rw [c2.block _ (by omega), b2.block _ (by omega), hW1]; exact Array.getElem?_push_size
  have g2 : W2.heap[w2.heap.size]? = some (.cells #[y] 26) := by
    rw [hW2]; exact Array.getElem?_push_size
  obtain ⟨o, e1, e2, ho⟩ := hx.join dx (by omega) (fun k hk _ => by rw [b2.block k (by omega)]; exact c1.block k hk) (by omega) hn
  have Q0 : PQ W2 w.heap.size n (.slice (some ⟨w1.heap.size, 0, none⟩) 1 1) (.slice (some ⟨w2.heap.size, 0, none⟩) 1 1) [x] [y] [] :=
    ⟨⟨fun i p hi => by simp at hi, fun i j p q hi => by simp at hi⟩, row_new (by omega) g1, row_new (by omega) g2, fun k _ i p hi => by simp at hi, fun k _ i p hi => by simp at hi, fun k e c => by
      simp [Value.ownBlock] at e c; omega, by omega⟩
  refine ⟨o, ?_⟩
  have := Q0.add o (fun p hp => by
    obtain ⟨ok, le, hb⟩ := ho p hp
    have lt : ∀ k, p.has k → k < w2.heap.size := fun k hk => ok.lt hk
    refine ⟨LP.kept ok c2.size (fun k hk => c2.block k (lt k hk)), le, fun k hk => ⟨(hb k hk).1, fun e => ?_, fun e => ?_, fun i q hq => by simp at hq⟩⟩
    · have : w1.heap.size = k := by simpa [Value.ownBlock] using e
      rcases (hb k hk).2 with c | c <;> omega
    · have : w2.heap.size = k := by simpa [Value.ownBlock] using e
      have := lt k hk
      omega)
  unfold PP
  simpa [e1, e2] using this
/-- between the steps. -/
def LV (w : World) (i : Nat) (v3 v4 : Value) (wr : World) : Prop := ∃ ps, PP wr w.heap.size (1048576 + i) v3 v4 ps ∧ 0 < ps.length ∧ ps.length ≤ i + 1 ∧ Below w.heap.size w wr
theorem PP.forms {w : World} {N n : Nat} {a b : Value} {ps : List (Option PD)} (h : PP w N n a b ps) (h0 : 0 < ps.length) : ∃ ga ca gb cb, a = .slice (some ⟨ga, 0, none⟩) ps.length ca ∧ b = .slice (some ⟨gb, 0, none⟩) ps.length cb ∧ (∀ i o, ps[i]? = some o → w.cell? ⟨ga, i, none⟩ = some (hP o) ∧ w.cell? ⟨gb, i, none⟩ = some (dP o)) := by
  have ra := h.ra
  have rb := h.rb
  rw [List.length_map] at ra rb
  obtain ⟨ga, ca, rfl, _, _⟩ := ra.form h0
  obtain ⟨gb, cb, rfl, _, _⟩ := rb.form h0
  have c1 := World.ownsRow.cells ra (g := ga) rfl
  have c2 := World.ownsRow.cells rb (g := gb) rfl
  refine ⟨ga, ca, gb, cb, rfl, rfl, fun i o hi => ⟨?_, ?_⟩⟩
  · have := c1 i (hP o) (by rw [List.getElem?_map, hi]; rfl)
    rw [add_lt0, Nat.zero_add] at this
    exact this
  · have := c2 i (dP o) (by rw [List.getElem?_map, hi]; rfl)
    rw [add_lt0, Nat.zero_add] at this
    exact this
end Go.Proofs.YtboacnpbicedfaaGreatDoor.Hp

namespace Go.Proofs.YtboacnpbicedfaaGreatDoor.Hp
open Go.RowKit Go.Maps
set_option linter.unusedVariables false
set_option linter.unusedSimpArgs false
set_option maxRecDepth 100000
theorem row_cell {W : World} {N T g m m2 c j : Nat} {xs : List Value} {v : Value} (h : W.ownsRow N T 1 (.slice (some ⟨g, 0, none⟩) m c) m2 xs) (hv : xs[j]? = some v) : W.cell? ⟨g, j, none⟩ = some v := by
  have := World.ownsRow.cells h (g := g) rfl j v hv
  rw [add_lt0, Nat.zero_add] at this
  exact this
theorem row_below {w w' : World} {N T m : Nat} {v : Value} {xs : List Value} (h : w.ownsRow N T 1 v m xs) (hb : Below w.heap.size w w') : w'.ownsRow N T 1 v m xs := row_kept h (fun g e => hb.block g (World.ownsRow.lt h g e).2)
/-- behind the first half and its row. -/
structure A3 (w : World) (N n : Nat) (A B : Value) (ps : List (Option PD)) (p2 : Option Addr) (q : QV) (g c : Nat) (w2 w3 : World) : Prop where
  pp : PP w N n A B ps
  b2 : Below w.heap.size w w2
  hx : HX w.heap.size w2 (.pointer p2) q
  q3 : PQ w3 N n (.slice (some ⟨g, 0, none⟩) (ps.length + 1) c) B (ps.map hP ++ [.pointer p2]) (ps.map dP) ps
  g3 : GA w2 w3 A.ownBlock (some g)
  ra : w3.ownsRow N 23 1 A ps.length (ps.map hP)
theorem arm_a {w w2 : World} {N n : Nat} {A B : Value} {ps : List (Option PD)} {p2 : Option Addr} {q : QV} (h : PP w N n A B ps) (b2 : Below w.heap.size w w2) (hx : HX w.heap.size w2 (.pointer p2) q) (hm : ps.length + 1 ≤ 1099511627776) :
    ∃ g c w3, (Builtin.append_ #[25, 25] 25 #[A, .slice (some ⟨w2.heap.size, 0, none⟩) 1 1]).run Tryz.prog (w2.alloc (.cells #[.pointer p2] 23)) = .ok (.slice (some ⟨g, 0, none⟩) (ps.length + 1) c) w3 ∧ A3 w N n A B ps p2 q g c w2 w3 := by
  have h2 := PQ.below h b2 (Nat.le_refl _)
  obtain ⟨g, c, w3, hr, q3, g3, r3⟩ := h2.appA (W := w2.alloc (.cells #[.pointer p2] 23)) (K := w2.heap.size) (x := .pointer p2) ((Below.refl _ w2).alloc (Nat.le_refl _) _) (by simp [go_sem]) rfl (by rw [List.length_map]; exact hm)
  rw [List.length_map] at hr q3 r3
  exact ⟨g, c, w3, hr, h, b2, hx, q3, g3, r3⟩
/-- behind both. -/
structure A5 (w : World) (N n : Nat) (A B : Value) (ps : List (Option PD)) (A' B' : Value) (w5 : World) : Prop where
  pp : ∃ o, PP w5 N n A' B' (ps ++ [o])
  ra : w5.ownsRow N 23 1 A ps.length (ps.map hP)
  rb : w5.ownsRow N 26 1 B ps.length (ps.map dP)
  bl : Below N w w5
  kp : ∀ k, k < w.heap.size → A.ownBlock ≠ some k → B.ownBlock ≠ some k → w5.heap[k]? = w.heap[k]?
  sz : w.heap.size ≤ w5.heap.size
theorem arm_b {w w2 w3 w4 : World} {N n g c : Nat} {A B : Value} {ps : List (Option PD)} {p2 p4 : Option Addr} {q : QV} (h : A3 w N n A B ps p2 q g c w2 w3) (b4 : Below w3.heap.size w3 w4) (dx : DX w3.heap.size w4 (.pointer p4) q) (hn : ∀ r, q = some r → r.2.1.length ≤ n) (hm : ps.length + 1 ≤ 1099511627776) :
    ∃ g' c' w5, (Builtin.append_ #[28, 28] 28 #[B, .slice (some ⟨w4.heap.size, 0, none⟩) 1 1]).run Tryz.prog (w4.alloc (.cells #[.pointer p4] 26)) = .ok (.slice (some ⟨g', 0, none⟩) (ps.length + 1) c') w5 ∧ A5 w N n A B ps (.slice (some ⟨g, 0, none⟩) (ps.length + 1) c) (.slice (some ⟨g', 0, none⟩) (ps.length + 1) c') w5 := by
  have h4 := h.q3.below b4 (Nat.le_refl _)
  obtain ⟨g', c', w5, hr, q5, g5, r5⟩ := h4.appB (W := w4.alloc (.cells #[.pointer p4] 26)) (K := w4.heap.size) (x := .pointer p4) ((Below.refl _ w4).alloc (Nat.le_refl _) _) (by simp [go_sem]) rfl (by rw [List.length_map]; exact hm)
  rw [List.length_map] at hr q5 r5
  obtain ⟨o1, o2, o3⟩ := PQ.old h.pp
  have hb := h.pp.hN
  have s2 := h.b2.size
  have s3 := h.g3.sz
  have s4 := b4.size
  have s5 := g5.sz
  have kpA : ∀ k, k < w.heap.size → A.ownBlock ≠ some k → w4.heap[k]? = w.heap[k]? := fun k hk hA => by
    rw [b4.block k (by omega), h.g3.kp k (by omega) hA]; exact h.b2.block k hk
  have kp : ∀ k, k < w.heap.size → A.ownBlock ≠ some k → B.ownBlock ≠ some k → w5.heap[k]? = w.heap[k]? := fun k hk hA hB => by
    rw [g5.kp k (by omega) hB]; exact kpA k hk hA
  refine ⟨g', c', w5, hr, ⟨?_, ?_, r5, ⟨g5.os.1.trans (b4.os.trans (h.g3.os.1.trans h.b2.os)), g5.os.2.1.trans (b4.tape.trans (h.g3.os.2.1.trans h.b2.tape)), g5.os.2.2.trans (b4.output.trans (h.g3.os.2.2.trans h.b2.output)), by omega, fun k hk => kp k (by omega) (fun e => by have := (o2 k e).1; omega) (fun e => by have := (o3 k e).1; omega)⟩, kp, by omega⟩⟩
  · have ha : ∀ k, (Value.slice (some ⟨g, 0, none⟩) (ps.length + 1) c).ownBlock = some k → k < w3.heap.size := fun k e => (World.ownsRow.lt h.q3.ra k e).2
    exact h.pp.turns h.b2 h.hx (a' := .slice (some ⟨g, 0, none⟩) (ps.length + 1) c) (b' := .slice (some ⟨g', 0, none⟩) (ps.length + 1) c') h.g3 ha b4 dx g5 hn q5
  · exact row_kept (row_below h.ra b4) (fun k e => g5.kp k (by have := (o2 k e).2; omega) (h.pp.ab k e))
/-- both rows grow by a whole pair. -/
theorem arm_two {w w5 : World} {N n : Nat} {A B : Value} {ps : List (Option PD)} {o : Option PD} {p2 p4 : Option Addr} (h : PP w N n A B ps) (bl : Below w.heap.size w w5) (ho1 : hP o = .pointer p2) (ho2 : dP o = .pointer p4) (ho : ∀ (p : PD), o = some p → p.ok w5 ∧ p.L.length ≤ n ∧ ∀ k, p.has k → w.heap.size ≤ k) (hm : ps.length + 1 ≤ 1099511627776) :
    ∃ g c w6, (Builtin.append_ #[25, 25] 25 #[A, .slice (some ⟨w5.heap.size, 0, none⟩) 1 1]).run Tryz.prog (w5.alloc (.cells #[.pointer p2] 23)) = .ok (.slice (some ⟨g, 0, none⟩) (ps.length + 1) c) w6 ∧
      ∃ g' c' w7, (Builtin.append_ #[28, 28] 28 #[B, .slice (some ⟨w6.heap.size, 0, none⟩) 1 1]).run Tryz.prog (w6.alloc (.cells #[.pointer p4] 26)) = .ok (.slice (some ⟨g', 0, none⟩) (ps.length + 1) c') w7 ∧
        (∃ o, PP w7 N n (.slice (some ⟨g, 0, none⟩) (ps.length + 1) c) (.slice (some ⟨g', 0, none⟩) (ps.length + 1) c') (ps ++ [o])) ∧ Below N w w7 ∧ (∀ k, k < w.heap.size → A.ownBlock ≠ some k → B.ownBlock ≠ some k → w7.heap[k]? = w.heap[k]?) ∧ w.heap.size ≤ w7.heap.size := by
  have h5 := PQ.below h bl (Nat.le_refl _)
  obtain ⟨g, c, w6, hr, q6, g6, _⟩ := h5.appA (W := w5.alloc (.cells #[.pointer p2] 23)) (K := w5.heap.size) (x := .pointer p2) ((Below.refl _ w5).alloc (Nat.le_refl _) _) (by simp [go_sem]) rfl (by rw [List.length_map]; exact hm)
  rw [List.length_map] at hr q6
  obtain ⟨g', c', w7, hr7, q7, g7, _⟩ := q6.appB (W := w6.alloc (.cells #[.pointer p4] 26)) (K := w6.heap.size) (x := .pointer p4) ((Below.refl _ w6).alloc (Nat.le_refl _) _) (by simp [go_sem]) rfl (by rw [List.length_map]; exact hm)
  rw [List.length_map] at hr7 q7
  obtain ⟨o1, o2, o3⟩ := PQ.old h
  have hb := h.hN
  have s5 := bl.size
  have s6 := g6.sz
  have s7 := g7.sz
  have kp : ∀ k, k < w.heap.size → A.ownBlock ≠ some k → B.ownBlock ≠ some k → w7.heap[k]? = w.heap[k]? := fun k hk hA hB => by
    rw [g7.kp k (by omega) hB, g6.kp k (by omega) hA]; exact bl.block k hk
  exact ⟨g, c, w6, hr, g', c', w7, hr7, ⟨o, h.both (a' := .slice (some ⟨g, 0, none⟩) (ps.length + 1) c) (b' := .slice (some ⟨g', 0, none⟩) (ps.length + 1) c') ho1 ho2 s5 ho g6 g7 q7⟩, ⟨g7.os.1.trans (g6.os.1.trans bl.os), g7.os.2.1.trans (g6.os.2.1.trans bl.tape), g7.os.2.2.trans (g6.os.2.2.trans bl.output), by omega, fun k hk => kp k (by omega) (fun e => by have := (o2 k e).1; omega) (fun e => by have := (o3 k e).1; omega)⟩, kp, by omega⟩
/-- the rows as they were, and all else that was there. -/
def RRK (W : World) (N : Nat) (A B : Value) (ps : List (Option PD)) (w' : World) : Prop := w'.ownsRow N 23 1 A ps.length (ps.map hP) ∧ w'.ownsRow N 26 1 B ps.length (ps.map dP) ∧ ∀ k, k < W.heap.size → A.ownBlock ≠ some k → B.ownBlock ≠ some k → w'.heap[k]? = W.heap[k]?
theorem RRK.below {W w1 w2 : World} {N : Nat} {A B : Value} {ps : List (Option PD)} (h : RRK W N A B ps w1) (hs : W.heap.size ≤ w1.heap.size) (hb : Below w1.heap.size w1 w2) : RRK W N A B ps w2 :=
  ⟨row_below h.1 hb, row_below h.2.1 hb, fun k hk a b => by rw [hb.block k (by omega)]; exact h.2.2 k hk a b⟩
theorem PP.rrk {W : World} {N n : Nat} {A B : Value} {ps : List (Option PD)} (h : PP W N n A B ps) : RRK W N A B ps W := by
  have ra := h.ra
  have rb := h.rb
  rw [List.length_map] at ra rb
  exact ⟨ra, rb, fun _ _ _ _ => rfl⟩
theorem A3.rrk {W w2 w3 : World} {N n g c : Nat} {A B : Value} {ps : List (Option PD)} {p2 : Option Addr} {q : QV} (h : A3 W N n A B ps p2 q g c w2 w3) : RRK W N A B ps w3 := by
  have rb := h.q3.rb
  rw [List.length_map] at rb
  exact ⟨h.ra, rb, fun k hk a _ => by rw [h.g3.kp k (Nat.lt_of_lt_of_le hk h.b2.size) a]; exact h.b2.block k hk⟩
theorem pack_a {W : World} {N n : Nat} {A B : Value} {ps : List (Option PD)} {F : Nat} {args : Array Value} {q : QV} {S : World → Prop} (pp : PP W N n A B ps) (hm : ps.length + 1 ≤ 1099511627776) (hS : ∀ w', RRK W N A B ps w' → S w')
    (C : Calls Tryz.prog F args W fun e w2 => ∃ p2, e = .returned (.pointer p2) ∧ Below W.heap.size W w2 ∧ HX W.heap.size w2 (.pointer p2) q) :
    Calls Tryz.prog F args W fun e w2 => ∃ p2, e = .returned (.pointer p2) ∧ S w2 ∧ S (w2.alloc (.cells #[.pointer p2] 23)) ∧ ∃ g c w3, (Builtin.append_ #[25, 25] 25 #[A, .slice (some ⟨w2.heap.size, 0, none⟩) 1 1]).run Tryz.prog (w2.alloc (.cells #[.pointer p2] 23)) = .ok (.slice (some ⟨g, 0, none⟩) (ps.length + 1) c) w3 ∧ S w3 ∧ Hid (A3 W N n A B ps p2 q g c w2 w3) := by
  refine C.mono fun e w2 ⟨p2, e1, b2, hx⟩ => ?_
  obtain ⟨g, c, w3, hr, a3⟩ := arm_a pp b2 hx hm
  have r2 := pp.rrk.below (Nat.le_refl _) b2
  exact ⟨p2, e1, hS _ r2, hS _ (r2.below b2.size ((Below.refl _ w2).alloc (Nat.le_refl _) _)), g, c, w3, hr, hS _ a3.rrk, a3⟩
theorem pack_b {W w2 w3 : World} {N n g c : Nat} {A B : Value} {ps : List (Option PD)} {F : Nat} {args : Array Value} {p2 : Option Addr} {q : QV} {S : World → Prop} (a3 : A3 W N n A B ps p2 q g c w2 w3) (hm : ps.length + 1 ≤ 1099511627776) (hS : ∀ w', RRK W N A B ps w' → S w') (hn : ∀ r, q = some r → r.2.1.length ≤ n)
    (C : Calls Tryz.prog F args w3 fun e w4 => ∃ p4, e = .returned (.pointer p4) ∧ Below w3.heap.size w3 w4 ∧ DX w3.heap.size w4 (.pointer p4) q) :
    Calls Tryz.prog F args w3 fun e w4 => ∃ p4, e = .returned (.pointer p4) ∧ S w4 ∧ S (w4.alloc (.cells #[.pointer p4] 26)) ∧ ∃ g' c' w5, (Builtin.append_ #[28, 28] 28 #[B, .slice (some ⟨w4.heap.size, 0, none⟩) 1 1]).run Tryz.prog (w4.alloc (.cells #[.pointer p4] 26)) = .ok (.slice (some ⟨g', 0, none⟩) (ps.length + 1) c') w5 ∧ S w5 ∧ Hid (A5 W N n A B ps (.slice (some ⟨g, 0, none⟩) (ps.length + 1) c) (.slice (some ⟨g', 0, none⟩) (ps.length + 1) c') w5) := by
  refine C.mono fun e w4 ⟨p4, e1, b4, dx⟩ => ?_
  obtain ⟨g', c', w5, hr, a5⟩ := arm_b a3 b4 dx hn hm
  have s3 : W.heap.size ≤ w3.heap.size := Nat.le_trans a3.b2.size a3.g3.sz
  have r4 := a3.rrk.below s3 b4
  exact ⟨p4, e1, hS _ r4, hS _ (r4.below (Nat.le_trans s3 b4.size) ((Below.refl _ w4).alloc (Nat.le_refl _) _)), g', c', w5, hr, hS _ ⟨a5.ra, a5.rb, a5.kp⟩, a5⟩
theorem ptr_h {W : World} {F : Nat} {args : Array Value} {q : QV} (C : Calls Tryz.prog F args W fun e w2 => ∃ x, e = .returned x ∧ Below W.heap.size W w2 ∧ HX W.heap.size w2 x q) : Calls Tryz.prog F args W fun e w2 => ∃ p2, e = .returned (.pointer p2) ∧ Below W.heap.size W w2 ∧ HX W.heap.size w2 (.pointer p2) q :=
  C.mono fun e w2 ⟨x, e1, b, hx⟩ => by
    obtain ⟨p, rfl⟩ := hx.ptr
    exact ⟨p, e1, b, hx⟩
theorem ptr_d {W : World} {F : Nat} {args : Array Value} {q : QV} (C : Calls Tryz.prog F args W fun e w2 => ∃ x, e = .returned x ∧ Below W.heap.size W w2 ∧ DX W.heap.size w2 x q) : Calls Tryz.prog F args W fun e w2 => ∃ p2, e = .returned (.pointer p2) ∧ Below W.heap.size W w2 ∧ DX W.heap.size w2 (.pointer p2) q :=
  C.mono fun e w2 ⟨x, e1, b, hx⟩ => by
    obtain ⟨p, rfl⟩ := hx.ptr
    exact ⟨p, e1, b, hx⟩
end Go.Proofs.YtboacnpbicedfaaGreatDoor.Hp
