
import Derived.Test.YtdfnomglkibfbaaGreatDoorVzE
namespace Go.Proofs.YtdfnomglkibfbaaGreatDoor.Vf
open Go.RowKit
set_option linter.unusedVariables false
set_option linter.unusedSimpArgs false
set_option maxRecDepth 100000
theorem step_append_runG {P : Program} {ops : Array Oper} {o : Oper} {a : Act} {w : World} {K : Act → World → Prop} {Q : Exit → Act → World → Prop} {E : Prop}
    (hg : o.guard = none) (s x : Operand) (t : TypeId) (hop : o.op = Op.call { callee := Callee.builtin Builtin.append, args := #[s, x], argTypes := #[t, t] })
    (v y v' : Value) (w' : World) (hs : a.eval s = v) (hx : a.eval x = y) (hr : (Builtin.append_ #[t, t] o.type #[v, y]).run P w = .ok v' w') (hK : K (a.put o.dst v') w') :
    if Region.wanted o (yielded ops a.tmps) = true then Oper.wp P o a w K Q else E := by
  have hw : Region.wanted o (yielded ops a.tmps) = true := by simp [Region.wanted, hg]
  rw [if_pos hw]
  unfold Oper.wp execOp
  simp only [hop, resolve, invoke, builtin, Sem.run_bind, Sem.run_pure, Result.andThen_ok, List.map_toArray, List.map_cons, List.map_nil, hs, hx, hr]
  exact hK
theorem append_run (s x : Operand) {P : Program} {ops : Array Oper} {rest : List Oper} {o : Oper} {a : Act} {Q : Exit → Act → World → Prop} {w : World} (hgd : o.guard = none) (t : TypeId)
    (ho : o.op = .call { callee := .builtin .append, args := #[s, x], argTypes := #[t, t] }) (v y v' : Value) (w' : World) (hs : a.eval s = v) (hx : a.eval x = y) (hr : (Builtin.append_ #[t, t] o.type #[v, y]).run P w = .ok v' w')
    (h : wpList P ops Q rest (a.put o.dst v') w') : wpList P ops Q (o :: rest) a w := wpList_append_runG hgd s x t ho v y v' w' hs hx hr h
set_option maxHeartbeats 8000000 in
theorem cert_1 (s : List Int) (m : Nat) (hm : s.length = m + 0) (hn : s.length ≤ 65536) (tr : ∀ x ∈ s, Tr x) (b off cc : Nat) (hcc : s.length ≤ cc) (w : World) (hR : RT w) (hI : T8.In w (some ⟨b, off, none⟩) s) : Calls Tryz.prog 84 #[.slice (some ⟨b, off, none⟩) s.length cc, .int .u8 1] w fun e w' => ∃ v, e = .returned v ∧ T8.OE w' w.heap.size v (certP 1 s) ∧ Below w.heap.size w w' := by
  have t1 : w.cell? ⟨1, 7, none⟩ = some (.int .i64 0) := hR 1 (by omega) 1 (by omega)
  have hl := hR.lt
  have CC : Hid (∀ W, Below w.heap.size w W → Calls Tryz.prog 118 #[.slice (some ⟨b, off, none⟩) m cc] W fun e w' => ∃ v, e = .returned v ∧ Hid (T8.OE w' w.heap.size v (s.take m)) ∧ Below w.heap.size w w') := fun W hW => by
    have e : (s.take m).length = m := by rw [List.length_take]; omega
    have h := T8.clone_any (some ⟨b, off, none⟩) cc (s.take m) W ((hI.below hW (Nat.le_refl _)).take m) (by omega)
    rw [e] at h
    exact h.mono (fun e w' ⟨v, h1, h2, h3⟩ => ⟨v, h1, h2.mono hW.size, hW.trans (h3.mono hW.size)⟩)
  have EQ : Hid (s.take m ++ [1] = certP 1 s) := by
    unfold certP
    rw [if_neg (by decide), show s.length - (rowF 1).tk = m by rw [show (rowF 1).tk = 0 from rfl]; omega]
    congr 1
    all_goals first | rfl | simp [topT, minT, maxT, Int.min_def, Int.max_def]
  obtain ⟨n, hnn⟩ : ∃ n, s.length = n := ⟨_, rfl⟩
  rw [hnn] at hm hn hcc ⊢
  have hw : IntKind.i64.wrap ((n : Int) - 0) = (m : Int) := by rw [hm, show ((m + 0 : Nat) : Int) - 0 = (m : Int) by omega]; exact IntWalk.i64_in _ (by omega)
  have hw0 : IntKind.i64.wrap (n : Int) = (m : Int) := by rw [hm]; exact IntWalk.i64_in _ (by omega)
  have m0 : (0 : Int) ≤ (m : Int) := by omega
  have mn : (m : Int) ≤ (n : Int) := by omega
  have mc : (m : Int) ≤ (cc : Int) := by omega
  have nc : (n : Int) ≤ (cc : Int) := by omega
  have mnN : m ≤ n := by omega
  have mcN : m ≤ cc := by omega
  have nmN : n - m = 0 := by omega
  have lm : Hid ((s.take m).length = m ∧ m ≤ 65536) := (by rw [List.length_take]; omega : (s.take m).length = m ∧ m ≤ 65536)
  clear hR hI tr hnn hcc
  clear hm
  by_cases cm : cc = m
  · obtain rfl : m = cc := cm.symm
    go_enter Tryz.func84, Tryz.ntmps84
    go_wp2_with fail
    have SS0 : Below w.heap.size w w.drew := (Below.refl _ w).drew
    go_region_held3 (fun W => Below w.heap.size w W) (first | with_reducible assumption)
      (first
        | (go_at_call 118; (with_reducible refine Calls.mono (CC.out _ (by with_reducible assumption)) ?_); rintro e w1 ⟨v, rfl, ov, bv⟩))
    obtain ⟨v', w2, hr, ho, hg, hb, _⟩ := T8.app_one w1 w.heap.size v (s.take m) (ov.out) (by have := bv.size; simp; omega) (1) 139 (by rw [lm.1]; have := lm.2; omega)
    have fin : Hid (T8.OE w2 w.heap.size v' (certP 1 s) ∧ Below w.heap.size w w2) := by
      rw [← EQ.out]; exact ⟨ho, (bv).trans hb⟩
    have hrH : Hid (∀ W' y', W' = w1.alloc (.cells #[T8.vl (1)] 262) → y' = Value.slice (some ⟨w1.heap.size, 0, none⟩) 1 1 → (Builtin.append_ #[139, 139] 139 #[v, y']).run Tryz.prog W' = .ok v' w2) := fun W' y' e1 e2 => by rw [e1, e2]; exact hr
    unfold T8.vl at hrH
    clear CC ov hr ho hg hb
    go_wp2_with (at_builtin; refine append_run (.tmp 29) (.tmp 30) (by rfl) _ (by rfl) _ _ _ _ (by rfl) (by rfl) (hrH.out _ _ (by first | rfl | simp) (by first | rfl | simp)) ?_)
    go_ret
    exact ⟨_, rfl, fin.out⟩
  · skip
    go_enter Tryz.func84, Tryz.ntmps84
    go_wp2_with fail
    have SS0 : Below w.heap.size w w.drew := (Below.refl _ w).drew
    go_region_held3 (fun W => Below w.heap.size w W) (first | with_reducible assumption)
      (first
        | (go_at_call 118; (with_reducible refine Calls.mono (CC.out _ (by with_reducible assumption)) ?_); rintro e w1 ⟨v, rfl, ov, bv⟩))
    obtain ⟨v', w2, hr, ho, hg, hb, _⟩ := T8.app_one w1 w.heap.size v (s.take m) (ov.out) (by have := bv.size; simp; omega) (1) 139 (by rw [lm.1]; have := lm.2; omega)
    have fin : Hid (T8.OE w2 w.heap.size v' (certP 1 s) ∧ Below w.heap.size w w2) := by
      rw [← EQ.out]; exact ⟨ho, (bv).trans hb⟩
    have hrH : Hid (∀ W' y', W' = w1.alloc (.cells #[T8.vl (1)] 262) → y' = Value.slice (some ⟨w1.heap.size, 0, none⟩) 1 1 → (Builtin.append_ #[139, 139] 139 #[v, y']).run Tryz.prog W' = .ok v' w2) := fun W' y' e1 e2 => by rw [e1, e2]; exact hr
    unfold T8.vl at hrH
    clear CC ov hr ho hg hb
    go_wp2_with (at_builtin; refine append_run (.tmp 29) (.tmp 30) (by rfl) _ (by rfl) _ _ _ _ (by rfl) (by rfl) (hrH.out _ _ (by first | rfl | simp) (by first | rfl | simp)) ?_)
    go_ret
    exact ⟨_, rfl, fin.out⟩
set_option maxHeartbeats 8000000 in
theorem cert_2 (s : List Int) (m : Nat) (hm : s.length = m + 0) (hn : s.length ≤ 65536) (tr : ∀ x ∈ s, Tr x) (b off cc : Nat) (hcc : s.length ≤ cc) (w : World) (hR : RT w) (hI : T8.In w (some ⟨b, off, none⟩) s) : Calls Tryz.prog 84 #[.slice (some ⟨b, off, none⟩) s.length cc, .int .u8 2] w fun e w' => ∃ v, e = .returned v ∧ T8.OE w' w.heap.size v (certP 2 s) ∧ Below w.heap.size w w' := by
  have t1 : w.cell? ⟨1, 13, none⟩ = some (.int .i64 0) := hR 2 (by omega) 1 (by omega)
  have hl := hR.lt
  have CC : Hid (∀ W, Below w.heap.size w W → Calls Tryz.prog 118 #[.slice (some ⟨b, off, none⟩) m cc] W fun e w' => ∃ v, e = .returned v ∧ Hid (T8.OE w' w.heap.size v (s.take m)) ∧ Below w.heap.size w w') := fun W hW => by
    have e : (s.take m).length = m := by rw [List.length_take]; omega
    have h := T8.clone_any (some ⟨b, off, none⟩) cc (s.take m) W ((hI.below hW (Nat.le_refl _)).take m) (by omega)
    rw [e] at h
    exact h.mono (fun e w' ⟨v, h1, h2, h3⟩ => ⟨v, h1, h2.mono hW.size, hW.trans (h3.mono hW.size)⟩)
  have EQ : Hid (s.take m ++ [-1] = certP 2 s) := by
    unfold certP
    rw [if_neg (by decide), show s.length - (rowF 2).tk = m by rw [show (rowF 2).tk = 0 from rfl]; omega]
    congr 1
    all_goals first | rfl | simp [topT, minT, maxT, Int.min_def, Int.max_def]
  obtain ⟨n, hnn⟩ : ∃ n, s.length = n := ⟨_, rfl⟩
  rw [hnn] at hm hn hcc ⊢
  have hw : IntKind.i64.wrap ((n : Int) - 0) = (m : Int) := by rw [hm, show ((m + 0 : Nat) : Int) - 0 = (m : Int) by omega]; exact IntWalk.i64_in _ (by omega)
  have hw0 : IntKind.i64.wrap (n : Int) = (m : Int) := by rw [hm]; exact IntWalk.i64_in _ (by omega)
  have m0 : (0 : Int) ≤ (m : Int) := by omega
  have mn : (m : Int) ≤ (n : Int) := by omega
  have mc : (m : Int) ≤ (cc : Int) := by omega
  have nc : (n : Int) ≤ (cc : Int) := by omega
  have mnN : m ≤ n := by omega
  have mcN : m ≤ cc := by omega
  have nmN : n - m = 0 := by omega
  have lm : Hid ((s.take m).length = m ∧ m ≤ 65536) := (by rw [List.length_take]; omega : (s.take m).length = m ∧ m ≤ 65536)
  clear hR hI tr hnn hcc
  clear hm
  by_cases cm : cc = m
  · obtain rfl : m = cc := cm.symm
    go_enter Tryz.func84, Tryz.ntmps84
    go_wp2_with fail
    have SS0 : Below w.heap.size w w.drew := (Below.refl _ w).drew
    go_region_held3 (fun W => Below w.heap.size w W) (first | with_reducible assumption)
      (first
        | (go_at_call 118; (with_reducible refine Calls.mono (CC.out _ (by with_reducible assumption)) ?_); rintro e w1 ⟨v, rfl, ov, bv⟩))
    obtain ⟨v', w2, hr, ho, hg, hb, _⟩ := T8.app_one w1 w.heap.size v (s.take m) (ov.out) (by have := bv.size; simp; omega) (-1) 139 (by rw [lm.1]; have := lm.2; omega)
    have fin : Hid (T8.OE w2 w.heap.size v' (certP 2 s) ∧ Below w.heap.size w w2) := by
      rw [← EQ.out]; exact ⟨ho, (bv).trans hb⟩
    have hrH : Hid (∀ W' y', W' = w1.alloc (.cells #[T8.vl (-1)] 262) → y' = Value.slice (some ⟨w1.heap.size, 0, none⟩) 1 1 → (Builtin.append_ #[139, 139] 139 #[v, y']).run Tryz.prog W' = .ok v' w2) := fun W' y' e1 e2 => by rw [e1, e2]; exact hr
    unfold T8.vl at hrH
    clear CC ov hr ho hg hb
    go_wp2_with (at_builtin; refine append_run (.tmp 34) (.tmp 35) (by rfl) _ (by rfl) _ _ _ _ (by rfl) (by rfl) (hrH.out _ _ (by first | rfl | simp) (by first | rfl | simp)) ?_)
    go_ret
    exact ⟨_, rfl, fin.out⟩
  · skip
    go_enter Tryz.func84, Tryz.ntmps84
    go_wp2_with fail
    have SS0 : Below w.heap.size w w.drew := (Below.refl _ w).drew
    go_region_held3 (fun W => Below w.heap.size w W) (first | with_reducible assumption)
      (first
        | (go_at_call 118; (with_reducible refine Calls.mono (CC.out _ (by with_reducible assumption)) ?_); rintro e w1 ⟨v, rfl, ov, bv⟩))
    obtain ⟨v', w2, hr, ho, hg, hb, _⟩ := T8.app_one w1 w.heap.size v (s.take m) (ov.out) (by have := bv.size; simp; omega) (-1) 139 (by rw [lm.1]; have := lm.2; omega)
    have fin : Hid (T8.OE w2 w.heap.size v' (certP 2 s) ∧ Below w.heap.size w w2) := by
      rw [← EQ.out]; exact ⟨ho, (bv).trans hb⟩
    have hrH : Hid (∀ W' y', W' = w1.alloc (.cells #[T8.vl (-1)] 262) → y' = Value.slice (some ⟨w1.heap.size, 0, none⟩) 1 1 → (Builtin.append_ #[139, 139] 139 #[v, y']).run Tryz.prog W' = .ok v' w2) := fun W' y' e1 e2 => by rw [e1, e2]; exact hr
    unfold T8.vl at hrH
    clear CC ov hr ho hg hb
    go_wp2_with (at_builtin; refine append_run (.tmp 34) (.tmp 35) (by rfl) _ (by rfl) _ _ _ _ (by rfl) (by rfl) (hrH.out _ _ (by first | rfl | simp) (by first | rfl | simp)) ?_)
    go_ret
    exact ⟨_, rfl, fin.out⟩
set_option maxHeartbeats 8000000 in
theorem cert_3 (s : List Int) (m : Nat) (hm : s.length = m + 0) (hn : s.length ≤ 65536) (tr : ∀ x ∈ s, Tr x) (b off cc : Nat) (hcc : s.length ≤ cc) (w : World) (hR : RT w) (hI : T8.In w (some ⟨b, off, none⟩) s) : Calls Tryz.prog 84 #[.slice (some ⟨b, off, none⟩) s.length cc, .int .u8 3] w fun e w' => ∃ v, e = .returned v ∧ T8.OE w' w.heap.size v (certP 3 s) ∧ Below w.heap.size w w' := by
  have t1 : w.cell? ⟨1, 19, none⟩ = some (.int .i64 0) := hR 3 (by omega) 1 (by omega)
  have hl := hR.lt
  have CC : Hid (∀ W, Below w.heap.size w W → Calls Tryz.prog 118 #[.slice (some ⟨b, off, none⟩) m cc] W fun e w' => ∃ v, e = .returned v ∧ Hid (T8.OE w' w.heap.size v (s.take m)) ∧ Below w.heap.size w w') := fun W hW => by
    have e : (s.take m).length = m := by rw [List.length_take]; omega
    have h := T8.clone_any (some ⟨b, off, none⟩) cc (s.take m) W ((hI.below hW (Nat.le_refl _)).take m) (by omega)
    rw [e] at h
    exact h.mono (fun e w' ⟨v, h1, h2, h3⟩ => ⟨v, h1, h2.mono hW.size, hW.trans (h3.mono hW.size)⟩)
  have EQ : Hid (s.take m ++ [0] = certP 3 s) := by
    unfold certP
    rw [if_neg (by decide), show s.length - (rowF 3).tk = m by rw [show (rowF 3).tk = 0 from rfl]; omega]
    congr 1
    all_goals first | rfl | simp [topT, minT, maxT, Int.min_def, Int.max_def]
  obtain ⟨n, hnn⟩ : ∃ n, s.length = n := ⟨_, rfl⟩
  rw [hnn] at hm hn hcc ⊢
  have hw : IntKind.i64.wrap ((n : Int) - 0) = (m : Int) := by rw [hm, show ((m + 0 : Nat) : Int) - 0 = (m : Int) by omega]; exact IntWalk.i64_in _ (by omega)
  have hw0 : IntKind.i64.wrap (n : Int) = (m : Int) := by rw [hm]; exact IntWalk.i64_in _ (by omega)
  have m0 : (0 : Int) ≤ (m : Int) := by omega
  have mn : (m : Int) ≤ (n : Int) := by omega
  have mc : (m : Int) ≤ (cc : Int) := by omega
  have nc : (n : Int) ≤ (cc : Int) := by omega
  have mnN : m ≤ n := by omega
  have mcN : m ≤ cc := by omega
  have nmN : n - m = 0 := by omega
  have lm : Hid ((s.take m).length = m ∧ m ≤ 65536) := (by rw [List.length_take]; omega : (s.take m).length = m ∧ m ≤ 65536)
  clear hR hI tr hnn hcc
  clear hm
  by_cases cm : cc = m
  · obtain rfl : m = cc := cm.symm
    go_enter Tryz.func84, Tryz.ntmps84
    go_wp2_with fail
    have SS0 : Below w.heap.size w w.drew := (Below.refl _ w).drew
    go_region_held3 (fun W => Below w.heap.size w W) (first | with_reducible assumption)
      (first
        | (go_at_call 118; (with_reducible refine Calls.mono (CC.out _ (by with_reducible assumption)) ?_); rintro e w1 ⟨v, rfl, ov, bv⟩))
    obtain ⟨v', w2, hr, ho, hg, hb, _⟩ := T8.app_one w1 w.heap.size v (s.take m) (ov.out) (by have := bv.size; simp; omega) (0) 139 (by rw [lm.1]; have := lm.2; omega)
    have fin : Hid (T8.OE w2 w.heap.size v' (certP 3 s) ∧ Below w.heap.size w w2) := by
      rw [← EQ.out]; exact ⟨ho, (bv).trans hb⟩
    have hrH : Hid (∀ W' y', W' = w1.alloc (.cells #[T8.vl (0)] 262) → y' = Value.slice (some ⟨w1.heap.size, 0, none⟩) 1 1 → (Builtin.append_ #[139, 139] 139 #[v, y']).run Tryz.prog W' = .ok v' w2) := fun W' y' e1 e2 => by rw [e1, e2]; exact hr
    unfold T8.vl at hrH
    clear CC ov hr ho hg hb
    go_wp2_with (at_builtin; refine append_run (.tmp 79) (.tmp 80) (by rfl) _ (by rfl) _ _ _ _ (by rfl) (by rfl) (hrH.out _ _ (by first | rfl | simp) (by first | rfl | simp)) ?_)
    go_ret
    exact ⟨_, rfl, fin.out⟩
  · skip
    go_enter Tryz.func84, Tryz.ntmps84
    go_wp2_with fail
    have SS0 : Below w.heap.size w w.drew := (Below.refl _ w).drew
    go_region_held3 (fun W => Below w.heap.size w W) (first | with_reducible assumption)
      (first
        | (go_at_call 118; (with_reducible refine Calls.mono (CC.out _ (by with_reducible assumption)) ?_); rintro e w1 ⟨v, rfl, ov, bv⟩))
    obtain ⟨v', w2, hr, ho, hg, hb, _⟩ := T8.app_one w1 w.heap.size v (s.take m) (ov.out) (by have := bv.size; simp; omega) (0) 139 (by rw [lm.1]; have := lm.2; omega)
    have fin : Hid (T8.OE w2 w.heap.size v' (certP 3 s) ∧ Below w.heap.size w w2) := by
      rw [← EQ.out]; exact ⟨ho, (bv).trans hb⟩
    have hrH : Hid (∀ W' y', W' = w1.alloc (.cells #[T8.vl (0)] 262) → y' = Value.slice (some ⟨w1.heap.size, 0, none⟩) 1 1 → (Builtin.append_ #[139, 139] 139 #[v, y']).run Tryz.prog W' = .ok v' w2) := fun W' y' e1 e2 => by rw [e1, e2]; exact hr
    unfold T8.vl at hrH
    clear CC ov hr ho hg hb
    go_wp2_with (at_builtin; refine append_run (.tmp 79) (.tmp 80) (by rfl) _ (by rfl) _ _ _ _ (by rfl) (by rfl) (hrH.out _ _ (by first | rfl | simp) (by first | rfl | simp)) ?_)
    go_ret
    exact ⟨_, rfl, fin.out⟩
set_option maxHeartbeats 8000000 in
theorem cert_4 (s : List Int) (m : Nat) (hm : s.length = m + 0) (hn : s.length ≤ 65536) (tr : ∀ x ∈ s, Tr x) (b off cc : Nat) (hcc : s.length ≤ cc) (w : World) (hR : RT w) (hI : T8.In w (some ⟨b, off, none⟩) s) : Calls Tryz.prog 84 #[.slice (some ⟨b, off, none⟩) s.length cc, .int .u8 4] w fun e w' => ∃ v, e = .returned v ∧ T8.OE w' w.heap.size v (certP 4 s) ∧ Below w.heap.size w w' := by
  have t1 : w.cell? ⟨1, 25, none⟩ = some (.int .i64 0) := hR 4 (by omega) 1 (by omega)
  have hl := hR.lt
  have CC : Hid (∀ W, Below w.heap.size w W → Calls Tryz.prog 118 #[.slice (some ⟨b, off, none⟩) m cc] W fun e w' => ∃ v, e = .returned v ∧ Hid (T8.OE w' w.heap.size v (s.take m)) ∧ Below w.heap.size w w') := fun W hW => by
    have e : (s.take m).length = m := by rw [List.length_take]; omega
    have h := T8.clone_any (some ⟨b, off, none⟩) cc (s.take m) W ((hI.below hW (Nat.le_refl _)).take m) (by omega)
    rw [e] at h
    exact h.mono (fun e w' ⟨v, h1, h2, h3⟩ => ⟨v, h1, h2.mono hW.size, hW.trans (h3.mono hW.size)⟩)
  have EQ : Hid (s.take m ++ [0] = certP 4 s) := by
    unfold certP
    rw [if_neg (by decide), show s.length - (rowF 4).tk = m by rw [show (rowF 4).tk = 0 from rfl]; omega]
    congr 1
    all_goals first | rfl | simp [topT, minT, maxT, Int.min_def, Int.max_def]
  obtain ⟨n, hnn⟩ : ∃ n, s.length = n := ⟨_, rfl⟩
  rw [hnn] at hm hn hcc ⊢
  have hw : IntKind.i64.wrap ((n : Int) - 0) = (m : Int) := by rw [hm, show ((m + 0 : Nat) : Int) - 0 = (m : Int) by omega]; exact IntWalk.i64_in _ (by omega)
  have hw0 : IntKind.i64.wrap (n : Int) = (m : Int) := by rw [hm]; exact IntWalk.i64_in _ (by omega)
  have m0 : (0 : Int) ≤ (m : Int) := by omega
  have mn : (m : Int) ≤ (n : Int) := by omega
  have mc : (m : Int) ≤ (cc : Int) := by omega
  have nc : (n : Int) ≤ (cc : Int) := by omega
  have mnN : m ≤ n := by omega
  have mcN : m ≤ cc := by omega
  have nmN : n - m = 0 := by omega
  have lm : Hid ((s.take m).length = m ∧ m ≤ 65536) := (by rw [List.length_take]; omega : (s.take m).length = m ∧ m ≤ 65536)
  clear hR hI tr hnn hcc
  clear hm
  by_cases cm : cc = m
  · obtain rfl : m = cc := cm.symm
    go_enter Tryz.func84, Tryz.ntmps84
    go_wp2_with fail
    have SS0 : Below w.heap.size w w.drew := (Below.refl _ w).drew
    go_region_held3 (fun W => Below w.heap.size w W) (first | with_reducible assumption)
      (first
        | (go_at_call 118; (with_reducible refine Calls.mono (CC.out _ (by with_reducible assumption)) ?_); rintro e w1 ⟨v, rfl, ov, bv⟩))
    obtain ⟨v', w2, hr, ho, hg, hb, _⟩ := T8.app_one w1 w.heap.size v (s.take m) (ov.out) (by have := bv.size; simp; omega) (0) 139 (by rw [lm.1]; have := lm.2; omega)
    have fin : Hid (T8.OE w2 w.heap.size v' (certP 4 s) ∧ Below w.heap.size w w2) := by
      rw [← EQ.out]; exact ⟨ho, (bv).trans hb⟩
    have hrH : Hid (∀ W' y', W' = w1.alloc (.cells #[T8.vl (0)] 262) → y' = Value.slice (some ⟨w1.heap.size, 0, none⟩) 1 1 → (Builtin.append_ #[139, 139] 139 #[v, y']).run Tryz.prog W' = .ok v' w2) := fun W' y' e1 e2 => by rw [e1, e2]; exact hr
    unfold T8.vl at hrH
    clear CC ov hr ho hg hb
    go_wp2_with (at_builtin; refine append_run (.tmp 79) (.tmp 80) (by rfl) _ (by rfl) _ _ _ _ (by rfl) (by rfl) (hrH.out _ _ (by first | rfl | simp) (by first | rfl | simp)) ?_)
    go_ret
    exact ⟨_, rfl, fin.out⟩
  · skip
    go_enter Tryz.func84, Tryz.ntmps84
    go_wp2_with fail
    have SS0 : Below w.heap.size w w.drew := (Below.refl _ w).drew
    go_region_held3 (fun W => Below w.heap.size w W) (first | with_reducible assumption)
      (first
        | (go_at_call 118; (with_reducible refine Calls.mono (CC.out _ (by with_reducible assumption)) ?_); rintro e w1 ⟨v, rfl, ov, bv⟩))
    obtain ⟨v', w2, hr, ho, hg, hb, _⟩ := T8.app_one w1 w.heap.size v (s.take m) (ov.out) (by have := bv.size; simp; omega) (0) 139 (by rw [lm.1]; have := lm.2; omega)
    have fin : Hid (T8.OE w2 w.heap.size v' (certP 4 s) ∧ Below w.heap.size w w2) := by
      rw [← EQ.out]; exact ⟨ho, (bv).trans hb⟩
    have hrH : Hid (∀ W' y', W' = w1.alloc (.cells #[T8.vl (0)] 262) → y' = Value.slice (some ⟨w1.heap.size, 0, none⟩) 1 1 → (Builtin.append_ #[139, 139] 139 #[v, y']).run Tryz.prog W' = .ok v' w2) := fun W' y' e1 e2 => by rw [e1, e2]; exact hr
    unfold T8.vl at hrH
    clear CC ov hr ho hg hb
    go_wp2_with (at_builtin; refine append_run (.tmp 79) (.tmp 80) (by rfl) _ (by rfl) _ _ _ _ (by rfl) (by rfl) (hrH.out _ _ (by first | rfl | simp) (by first | rfl | simp)) ?_)
    go_ret
    exact ⟨_, rfl, fin.out⟩
set_option maxHeartbeats 8000000 in
theorem cert_5 (s : List Int) (m : Nat) (hm : s.length = m + 0) (hn : s.length ≤ 65536) (tr : ∀ x ∈ s, Tr x) (b off cc : Nat) (hcc : s.length ≤ cc) (w : World) (hR : RT w) (hI : T8.In w (some ⟨b, off, none⟩) s) : Calls Tryz.prog 84 #[.slice (some ⟨b, off, none⟩) s.length cc, .int .u8 5] w fun e w' => ∃ v, e = .returned v ∧ T8.OE w' w.heap.size v (certP 5 s) ∧ Below w.heap.size w w' := by
  have t1 : w.cell? ⟨1, 31, none⟩ = some (.int .i64 0) := hR 5 (by omega) 1 (by omega)
  have hl := hR.lt
  have CC : Hid (∀ W, Below w.heap.size w W → Calls Tryz.prog 118 #[.slice (some ⟨b, off, none⟩) m cc] W fun e w' => ∃ v, e = .returned v ∧ Hid (T8.OE w' w.heap.size v (s.take m)) ∧ Below w.heap.size w w') := fun W hW => by
    have e : (s.take m).length = m := by rw [List.length_take]; omega
    have h := T8.clone_any (some ⟨b, off, none⟩) cc (s.take m) W ((hI.below hW (Nat.le_refl _)).take m) (by omega)
    rw [e] at h
    exact h.mono (fun e w' ⟨v, h1, h2, h3⟩ => ⟨v, h1, h2.mono hW.size, hW.trans (h3.mono hW.size)⟩)
  have EQ : Hid (s.take m ++ [0] = certP 5 s) := by
    unfold certP
    rw [if_neg (by decide), show s.length - (rowF 5).tk = m by rw [show (rowF 5).tk = 0 from rfl]; omega]
    congr 1
    all_goals first | rfl | simp [topT, minT, maxT, Int.min_def, Int.max_def]
  obtain ⟨n, hnn⟩ : ∃ n, s.length = n := ⟨_, rfl⟩
  rw [hnn] at hm hn hcc ⊢
  have hw : IntKind.i64.wrap ((n : Int) - 0) = (m : Int) := by rw [hm, show ((m + 0 : Nat) : Int) - 0 = (m : Int) by omega]; exact IntWalk.i64_in _ (by omega)
  have hw0 : IntKind.i64.wrap (n : Int) = (m : Int) := by rw [hm]; exact IntWalk.i64_in _ (by omega)
  have m0 : (0 : Int) ≤ (m : Int) := by omega
  have mn : (m : Int) ≤ (n : Int) := by omega
  have mc : (m : Int) ≤ (cc : Int) := by omega
  have nc : (n : Int) ≤ (cc : Int) := by omega
  have mnN : m ≤ n := by omega
  have mcN : m ≤ cc := by omega
  have nmN : n - m = 0 := by omega
  have lm : Hid ((s.take m).length = m ∧ m ≤ 65536) := (by rw [List.length_take]; omega : (s.take m).length = m ∧ m ≤ 65536)
  clear hR hI tr hnn hcc
  clear hm
  by_cases cm : cc = m
  · obtain rfl : m = cc := cm.symm
    go_enter Tryz.func84, Tryz.ntmps84
    go_wp2_with fail
    have SS0 : Below w.heap.size w w.drew := (Below.refl _ w).drew
    go_region_held3 (fun W => Below w.heap.size w W) (first | with_reducible assumption)
      (first
        | (go_at_call 118; (with_reducible refine Calls.mono (CC.out _ (by with_reducible assumption)) ?_); rintro e w1 ⟨v, rfl, ov, bv⟩))
    obtain ⟨v', w2, hr, ho, hg, hb, _⟩ := T8.app_one w1 w.heap.size v (s.take m) (ov.out) (by have := bv.size; simp; omega) (0) 139 (by rw [lm.1]; have := lm.2; omega)
    have fin : Hid (T8.OE w2 w.heap.size v' (certP 5 s) ∧ Below w.heap.size w w2) := by
      rw [← EQ.out]; exact ⟨ho, (bv).trans hb⟩
    have hrH : Hid (∀ W' y', W' = w1.alloc (.cells #[T8.vl (0)] 262) → y' = Value.slice (some ⟨w1.heap.size, 0, none⟩) 1 1 → (Builtin.append_ #[139, 139] 139 #[v, y']).run Tryz.prog W' = .ok v' w2) := fun W' y' e1 e2 => by rw [e1, e2]; exact hr
    unfold T8.vl at hrH
    clear CC ov hr ho hg hb
    go_wp2_with (at_builtin; refine append_run (.tmp 79) (.tmp 80) (by rfl) _ (by rfl) _ _ _ _ (by rfl) (by rfl) (hrH.out _ _ (by first | rfl | simp) (by first | rfl | simp)) ?_)
    go_ret
    exact ⟨_, rfl, fin.out⟩
  · skip
    go_enter Tryz.func84, Tryz.ntmps84
    go_wp2_with fail
    have SS0 : Below w.heap.size w w.drew := (Below.refl _ w).drew
    go_region_held3 (fun W => Below w.heap.size w W) (first | with_reducible assumption)
      (first
        | (go_at_call 118; (with_reducible refine Calls.mono (CC.out _ (by with_reducible assumption)) ?_); rintro e w1 ⟨v, rfl, ov, bv⟩))
    obtain ⟨v', w2, hr, ho, hg, hb, _⟩ := T8.app_one w1 w.heap.size v (s.take m) (ov.out) (by have := bv.size; simp; omega) (0) 139 (by rw [lm.1]; have := lm.2; omega)
    have fin : Hid (T8.OE w2 w.heap.size v' (certP 5 s) ∧ Below w.heap.size w w2) := by
      rw [← EQ.out]; exact ⟨ho, (bv).trans hb⟩
    have hrH : Hid (∀ W' y', W' = w1.alloc (.cells #[T8.vl (0)] 262) → y' = Value.slice (some ⟨w1.heap.size, 0, none⟩) 1 1 → (Builtin.append_ #[139, 139] 139 #[v, y']).run Tryz.prog W' = .ok v' w2) := fun W' y' e1 e2 => by rw [e1, e2]; exact hr
    unfold T8.vl at hrH
    clear CC ov hr ho hg hb
    go_wp2_with (at_builtin; refine append_run (.tmp 79) (.tmp 80) (by rfl) _ (by rfl) _ _ _ _ (by rfl) (by rfl) (hrH.out _ _ (by first | rfl | simp) (by first | rfl | simp)) ?_)
    go_ret
    exact ⟨_, rfl, fin.out⟩
set_option maxHeartbeats 8000000 in
theorem cert_6 (s : List Int) (m : Nat) (hm : s.length = m + 0) (hn : s.length ≤ 65536) (tr : ∀ x ∈ s, Tr x) (b off cc : Nat) (hcc : s.length ≤ cc) (w : World) (hR : RT w) (hI : T8.In w (some ⟨b, off, none⟩) s) : Calls Tryz.prog 84 #[.slice (some ⟨b, off, none⟩) s.length cc, .int .u8 6] w fun e w' => ∃ v, e = .returned v ∧ T8.OE w' w.heap.size v (certP 6 s) ∧ Below w.heap.size w w' := by
  have t1 : w.cell? ⟨1, 37, none⟩ = some (.int .i64 0) := hR 6 (by omega) 1 (by omega)
  have hl := hR.lt
  have CC : Hid (∀ W, Below w.heap.size w W → Calls Tryz.prog 118 #[.slice (some ⟨b, off, none⟩) m cc] W fun e w' => ∃ v, e = .returned v ∧ Hid (T8.OE w' w.heap.size v (s.take m)) ∧ Below w.heap.size w w') := fun W hW => by
    have e : (s.take m).length = m := by rw [List.length_take]; omega
    have h := T8.clone_any (some ⟨b, off, none⟩) cc (s.take m) W ((hI.below hW (Nat.le_refl _)).take m) (by omega)
    rw [e] at h
    exact h.mono (fun e w' ⟨v, h1, h2, h3⟩ => ⟨v, h1, h2.mono hW.size, hW.trans (h3.mono hW.size)⟩)
  have EQ : Hid (s.take m ++ [0] = certP 6 s) := by
    unfold certP
    rw [if_neg (by decide), show s.length - (rowF 6).tk = m by rw [show (rowF 6).tk = 0 from rfl]; omega]
    congr 1
    all_goals first | rfl | simp [topT, minT, maxT, Int.min_def, Int.max_def]
  obtain ⟨n, hnn⟩ : ∃ n, s.length = n := ⟨_, rfl⟩
  rw [hnn] at hm hn hcc ⊢
  have hw : IntKind.i64.wrap ((n : Int) - 0) = (m : Int) := by rw [hm, show ((m + 0 : Nat) : Int) - 0 = (m : Int) by omega]; exact IntWalk.i64_in _ (by omega)
  have hw0 : IntKind.i64.wrap (n : Int) = (m : Int) := by rw [hm]; exact IntWalk.i64_in _ (by omega)
  have m0 : (0 : Int) ≤ (m : Int) := by omega
  have mn : (m : Int) ≤ (n : Int) := by omega
  have mc : (m : Int) ≤ (cc : Int) := by omega
  have nc : (n : Int) ≤ (cc : Int) := by omega
  have mnN : m ≤ n := by omega
  have mcN : m ≤ cc := by omega
  have nmN : n - m = 0 := by omega
  have lm : Hid ((s.take m).length = m ∧ m ≤ 65536) := (by rw [List.length_take]; omega : (s.take m).length = m ∧ m ≤ 65536)
  clear hR hI tr hnn hcc
  clear hm
  by_cases cm : cc = m
  · obtain rfl : m = cc := cm.symm
    go_enter Tryz.func84, Tryz.ntmps84
    go_wp2_with fail
    have SS0 : Below w.heap.size w w.drew := (Below.refl _ w).drew
    go_region_held3 (fun W => Below w.heap.size w W) (first | with_reducible assumption)
      (first
        | (go_at_call 118; (with_reducible refine Calls.mono (CC.out _ (by with_reducible assumption)) ?_); rintro e w1 ⟨v, rfl, ov, bv⟩))
    obtain ⟨v', w2, hr, ho, hg, hb, _⟩ := T8.app_one w1 w.heap.size v (s.take m) (ov.out) (by have := bv.size; simp; omega) (0) 139 (by rw [lm.1]; have := lm.2; omega)
    have fin : Hid (T8.OE w2 w.heap.size v' (certP 6 s) ∧ Below w.heap.size w w2) := by
      rw [← EQ.out]; exact ⟨ho, (bv).trans hb⟩
    have hrH : Hid (∀ W' y', W' = w1.alloc (.cells #[T8.vl (0)] 262) → y' = Value.slice (some ⟨w1.heap.size, 0, none⟩) 1 1 → (Builtin.append_ #[139, 139] 139 #[v, y']).run Tryz.prog W' = .ok v' w2) := fun W' y' e1 e2 => by rw [e1, e2]; exact hr
    unfold T8.vl at hrH
    clear CC ov hr ho hg hb
    go_wp2_with (at_builtin; refine append_run (.tmp 79) (.tmp 80) (by rfl) _ (by rfl) _ _ _ _ (by rfl) (by rfl) (hrH.out _ _ (by first | rfl | simp) (by first | rfl | simp)) ?_)
    go_ret
    exact ⟨_, rfl, fin.out⟩
  · skip
    go_enter Tryz.func84, Tryz.ntmps84
    go_wp2_with fail
    have SS0 : Below w.heap.size w w.drew := (Below.refl _ w).drew
    go_region_held3 (fun W => Below w.heap.size w W) (first | with_reducible assumption)
      (first
        | (go_at_call 118; (with_reducible refine Calls.mono (CC.out _ (by with_reducible assumption)) ?_); rintro e w1 ⟨v, rfl, ov, bv⟩))
    obtain ⟨v', w2, hr, ho, hg, hb, _⟩ := T8.app_one w1 w.heap.size v (s.take m) (ov.out) (by have := bv.size; simp; omega) (0) 139 (by rw [lm.1]; have := lm.2; omega)
    have fin : Hid (T8.OE w2 w.heap.size v' (certP 6 s) ∧ Below w.heap.size w w2) := by
      rw [← EQ.out]; exact ⟨ho, (bv).trans hb⟩
    have hrH : Hid (∀ W' y', W' = w1.alloc (.cells #[T8.vl (0)] 262) → y' = Value.slice (some ⟨w1.heap.size, 0, none⟩) 1 1 → (Builtin.append_ #[139, 139] 139 #[v, y']).run Tryz.prog W' = .ok v' w2) := fun W' y' e1 e2 => by rw [e1, e2]; exact hr
    unfold T8.vl at hrH
    clear CC ov hr ho hg hb
    go_wp2_with (at_builtin; refine append_run (.tmp 79) (.tmp 80) (by rfl) _ (by rfl) _ _ _ _ (by rfl) (by rfl) (hrH.out _ _ (by first | rfl | simp) (by first | rfl | simp)) ?_)
    go_ret
    exact ⟨_, rfl, fin.out⟩
set_option maxHeartbeats 8000000 in
theorem cert_7 (s : List Int) (m : Nat) (hm : s.length = m + 1) (hn : s.length ≤ 65536) (tr : ∀ x ∈ s, Tr x) (b off cc : Nat) (hcc : s.length ≤ cc) (w : World) (hR : RT w) (hI : T8.In w (some ⟨b, off, none⟩) s) : Calls Tryz.prog 84 #[.slice (some ⟨b, off, none⟩) s.length cc, .int .u8 7] w fun e w' => ∃ v, e = .returned v ∧ T8.OE w' w.heap.size v (certP 7 s) ∧ Below w.heap.size w w' := by
  have t1 : w.cell? ⟨1, 43, none⟩ = some (.int .i64 1) := hR 7 (by omega) 1 (by omega)
  have hl := hR.lt
  have CC : Hid (∀ W, Below w.heap.size w W → Calls Tryz.prog 118 #[.slice (some ⟨b, off, none⟩) m cc] W fun e w' => ∃ v, e = .returned v ∧ Hid (T8.OE w' w.heap.size v (s.take m)) ∧ Below w.heap.size w w') := fun W hW => by
    have e : (s.take m).length = m := by rw [List.length_take]; omega
    have h := T8.clone_any (some ⟨b, off, none⟩) cc (s.take m) W ((hI.below hW (Nat.le_refl _)).take m) (by omega)
    rw [e] at h
    exact h.mono (fun e w' ⟨v, h1, h2, h3⟩ => ⟨v, h1, h2.mono hW.size, hW.trans (h3.mono hW.size)⟩)
  obtain ⟨t0, et0⟩ : ∃ t, s[m + 0]? = some t := ⟨_, List.getElem?_eq_getElem (by omega)⟩
  have cb0 : Hid (∀ W, Below w.heap.size w W → W.cell? ⟨b, off + m + 0, none⟩ = some (.int .i8 t0)) := fun W hW => by
    rcases hI with h | ⟨b', off', e, hb, hc⟩
    · rw [h] at et0; simp at et0
    · injection e with e
      injection e with e1 e2
      subst e1 e2
      rw [hW.cell (p := ⟨b, off + m + 0, none⟩) hb, Nat.add_assoc]
      exact hc _ _ et0
  have tr0 : Tr t0 := tr _ (List.mem_of_getElem? et0)
  have EQ : Hid (s.take m ++ [-t0] = certP 7 s) := by
    unfold certP
    rw [if_neg (by decide), show s.length - (rowF 7).tk = m by rw [show (rowF 7).tk = 1 from rfl]; omega]
    congr 1
    have g0 : s.getD m 0 = t0 := by rw [List.getD_eq_getElem?_getD, show m = m + 0 by omega, et0]; rfl
    all_goals rw [g0]
    all_goals first | rfl | simp [topT, minT, maxT, Int.min_def, Int.max_def]
  clear et0
  obtain ⟨n, hnn⟩ : ∃ n, s.length = n := ⟨_, rfl⟩
  rw [hnn] at hm hn hcc ⊢
  have hw : IntKind.i64.wrap ((n : Int) - 1) = (m : Int) := by rw [hm, show ((m + 1 : Nat) : Int) - 1 = (m : Int) by omega]; exact IntWalk.i64_in _ (by omega)
  have m0 : (0 : Int) ≤ (m : Int) := by omega
  have mn : (m : Int) ≤ (n : Int) := by omega
  have mc : (m : Int) ≤ (cc : Int) := by omega
  have nc : (n : Int) ≤ (cc : Int) := by omega
  have mnN : m ≤ n := by omega
  have mcN : m ≤ cc := by omega
  have nmN : n - m = 1 := by omega
  have lm : Hid ((s.take m).length = m ∧ m ≤ 65536) := (by rw [List.length_take]; omega : (s.take m).length = m ∧ m ≤ 65536)
  clear hR hI tr hnn hcc
  have cm : ¬ cc = m := by omega
  clear hm
  go_enter Tryz.func84, Tryz.ntmps84
  go_wp2_with fail
  have SS0 : Below w.heap.size w w.drew := (Below.refl _ w).drew
  go_region_held3 (fun W => Below w.heap.size w W) (first | with_reducible assumption)
    (first
      | (go_at_call 118; (with_reducible refine Calls.mono (CC.out _ (by with_reducible assumption)) ?_); rintro e w1 ⟨v, rfl, ov, bv⟩))
  have d0 := cb0.out w1 bv
  simp only [Nat.add_zero] at d0
  have ng : IntKind.i8.wrap (-t0) = -t0 := by unfold Tr at tr0; rcases tr0 with h | h | h <;> subst h <;> rfl
  obtain ⟨v', w2, hr, ho, hg, hb, _⟩ := T8.app_one w1 w.heap.size v (s.take m) (ov.out) (by have := bv.size; simp; omega) (-t0) 139 (by rw [lm.1]; have := lm.2; omega)
  have fin : Hid (T8.OE w2 w.heap.size v' (certP 7 s) ∧ Below w.heap.size w w2) := by
    rw [← EQ.out]; exact ⟨ho, (bv).trans hb⟩
  have hrH : Hid (∀ W' y', W' = w1.alloc (.cells #[T8.vl (-t0)] 262) → y' = Value.slice (some ⟨w1.heap.size, 0, none⟩) 1 1 → (Builtin.append_ #[139, 139] 139 #[v, y']).run Tryz.prog W' = .ok v' w2) := fun W' y' e1 e2 => by rw [e1, e2]; exact hr
  unfold T8.vl at hrH
  clear CC ov hr ho hg hb cb0
  go_wp2_with (at_builtin; refine append_run (.tmp 39) (.tmp 44) (by rfl) _ (by rfl) _ _ _ _ (by rfl) (by rfl) (hrH.out _ _ (by first | rfl | simp) (by first | rfl | simp)) ?_)
  go_ret
  exact ⟨_, rfl, fin.out⟩
set_option maxHeartbeats 8000000 in
theorem cert_8 (s : List Int) (m : Nat) (hm : s.length = m + 2) (hn : s.length ≤ 65536) (tr : ∀ x ∈ s, Tr x) (b off cc : Nat) (hcc : s.length ≤ cc) (w : World) (hR : RT w) (hI : T8.In w (some ⟨b, off, none⟩) s) : Calls Tryz.prog 84 #[.slice (some ⟨b, off, none⟩) s.length cc, .int .u8 8] w fun e w' => ∃ v, e = .returned v ∧ T8.OE w' w.heap.size v (certP 8 s) ∧ Below w.heap.size w w' := by
  have t1 : w.cell? ⟨1, 49, none⟩ = some (.int .i64 2) := hR 8 (by omega) 1 (by omega)
  have hl := hR.lt
  have CC : Hid (∀ W, Below w.heap.size w W → Calls Tryz.prog 118 #[.slice (some ⟨b, off, none⟩) m cc] W fun e w' => ∃ v, e = .returned v ∧ Hid (T8.OE w' w.heap.size v (s.take m)) ∧ Below w.heap.size w w') := fun W hW => by
    have e : (s.take m).length = m := by rw [List.length_take]; omega
    have h := T8.clone_any (some ⟨b, off, none⟩) cc (s.take m) W ((hI.below hW (Nat.le_refl _)).take m) (by omega)
    rw [e] at h
    exact h.mono (fun e w' ⟨v, h1, h2, h3⟩ => ⟨v, h1, h2.mono hW.size, hW.trans (h3.mono hW.size)⟩)
  obtain ⟨t0, et0⟩ : ∃ t, s[m + 0]? = some t := ⟨_, List.getElem?_eq_getElem (by omega)⟩
  have cb0 : Hid (∀ W, Below w.heap.size w W → W.cell? ⟨b, off + m + 0, none⟩ = some (.int .i8 t0)) := fun W hW => by
    rcases hI with h | ⟨b', off', e, hb, hc⟩
    · rw [h] at et0; simp at et0
    · injection e with e
      injection e with e1 e2
      subst e1 e2
      rw [hW.cell (p := ⟨b, off + m + 0, none⟩) hb, Nat.add_assoc]
      exact hc _ _ et0
  have tr0 : Tr t0 := tr _ (List.mem_of_getElem? et0)
  obtain ⟨t1, et1⟩ : ∃ t, s[m + 1]? = some t := ⟨_, List.getElem?_eq_getElem (by omega)⟩
  have cb1 : Hid (∀ W, Below w.heap.size w W → W.cell? ⟨b, off + m + 1, none⟩ = some (.int .i8 t1)) := fun W hW => by
    rcases hI with h | ⟨b', off', e, hb, hc⟩
    · rw [h] at et1; simp at et1
    · injection e with e
      injection e with e1 e2
      subst e1 e2
      rw [hW.cell (p := ⟨b, off + m + 1, none⟩) hb, Nat.add_assoc]
      exact hc _ _ et1
  have tr1 : Tr t1 := tr _ (List.mem_of_getElem? et1)
  have EQ : Hid (s.take m ++ [(min t0 t1)] = certP 8 s) := by
    unfold certP
    rw [if_neg (by decide), show s.length - (rowF 8).tk = m by rw [show (rowF 8).tk = 2 from rfl]; omega]
    congr 1
    have g0 : s.getD m 0 = t0 := by rw [List.getD_eq_getElem?_getD, show m = m + 0 by omega, et0]; rfl
    have g1 : s.getD (m + 1) 0 = t1 := by rw [List.getD_eq_getElem?_getD, et1]; rfl
    all_goals rw [g0, g1]
    all_goals first | rfl | simp [topT, minT, maxT, Int.min_def, Int.max_def]
  clear et0
  clear et1
  obtain ⟨n, hnn⟩ : ∃ n, s.length = n := ⟨_, rfl⟩
  rw [hnn] at hm hn hcc ⊢
  have hw : IntKind.i64.wrap ((n : Int) - 2) = (m : Int) := by rw [hm, show ((m + 2 : Nat) : Int) - 2 = (m : Int) by omega]; exact IntWalk.i64_in _ (by omega)
  have m0 : (0 : Int) ≤ (m : Int) := by omega
  have mn : (m : Int) ≤ (n : Int) := by omega
  have mc : (m : Int) ≤ (cc : Int) := by omega
  have nc : (n : Int) ≤ (cc : Int) := by omega
  have mnN : m ≤ n := by omega
  have mcN : m ≤ cc := by omega
  have nmN : n - m = 2 := by omega
  have lm : Hid ((s.take m).length = m ∧ m ≤ 65536) := (by rw [List.length_take]; omega : (s.take m).length = m ∧ m ≤ 65536)
  clear hR hI tr hnn hcc
  have cm : ¬ cc = m := by omega
  clear hm
  go_enter Tryz.func84, Tryz.ntmps84
  go_wp2_with fail
  have SS0 : Below w.heap.size w w.drew := (Below.refl _ w).drew
  go_region_held3 (fun W => Below w.heap.size w W) (first | with_reducible assumption)
    (first
      | (go_at_call 118; (with_reducible refine Calls.mono (CC.out _ (by with_reducible assumption)) ?_); rintro e w1 ⟨v, rfl, ov, bv⟩))
  have d0 := cb0.out w1 bv
  simp only [Nat.add_zero] at d0
  have d1 := cb1.out w1 bv
  have d0' := cb0.out w1.drew (bv.drew)
  have d1' := cb1.out w1.drew (bv.drew)
  simp only [Nat.add_zero] at d0'
  have bva : Below w.heap.size w (w1.alloc (.cells #[.int .i8 (min t0 t1)] 262)).drew := (bv.alloc bv.size _).drew
  have e0' := cb0.out _ bva
  have e1' := cb1.out _ bva
  simp only [Nat.add_zero] at e0'
  clear bva
  obtain ⟨v', w2, hr, ho, hg, hb, _⟩ := T8.app_one w1.drew w.heap.size v (s.take m) (ov.out.below ((Below.refl _ _).drew) (Nat.le_refl _)) (by have := bv.size; simp; omega) ((min t0 t1)) 139 (by rw [lm.1]; have := lm.2; omega)
  have fin : Hid (T8.OE w2 w.heap.size v' (certP 8 s) ∧ Below w.heap.size w w2) := by
    rw [← EQ.out]; exact ⟨ho, (bv.drew).trans hb⟩
  have hrH : Hid (∀ W' y', W' = w1.drew.alloc (.cells #[T8.vl ((min t0 t1))] 262) → y' = Value.slice (some ⟨w1.drew.heap.size, 0, none⟩) 1 1 → (Builtin.append_ #[139, 139] 139 #[v, y']).run Tryz.prog W' = .ok v' w2) := fun W' y' e1 e2 => by rw [e1, e2]; exact hr
  have f0 := cb0.out _ fin.out.2
  have f1 := cb1.out _ fin.out.2
  simp only [Nat.add_zero] at f0
  have SS3 : w2.cell? ⟨b, off + m, none⟩ = some (.int .i8 t0) ∧ w2.cell? ⟨b, off + m + 1, none⟩ = some (.int .i8 t1) := ⟨f0, f1⟩
  unfold T8.vl at hrH
  clear CC ov hr ho hg hb cb0 cb1
  go_wp2_with fail
  have SS1 : w1.drew.cell? ⟨b, off + m, none⟩ = some (.int .i8 t0) ∧ w1.drew.cell? ⟨b, off + m + 1, none⟩ = some (.int .i8 t1) := ⟨d0', d1'⟩
  have SS2 : (w1.alloc (.cells #[.int .i8 (min t0 t1)] 262)).drew.cell? ⟨b, off + m, none⟩ = some (.int .i8 t0) ∧ (w1.alloc (.cells #[.int .i8 (min t0 t1)] 262)).drew.cell? ⟨b, off + m + 1, none⟩ = some (.int .i8 t1) := ⟨e0', e1'⟩
  go_region_held3 (fun W => W.cell? ⟨b, off + m, none⟩ = some (.int .i8 t0) ∧ W.cell? ⟨b, off + m + 1, none⟩ = some (.int .i8 t1)) (first | with_reducible assumption)
    (first
      | (refine step_append_runG rfl (.tmp 48) (.tmp 56) 139 rfl _ _ _ _ rfl rfl (hrH.out _ _ (by first | rfl | simp) (by first | rfl | simp)) ?_))
  all_goals go_wp2_with fail
  all_goals go_ret
  all_goals exact ⟨_, rfl, fin.out⟩
set_option maxHeartbeats 8000000 in
theorem cert_9 (s : List Int) (m : Nat) (hm : s.length = m + 2) (hn : s.length ≤ 65536) (tr : ∀ x ∈ s, Tr x) (b off cc : Nat) (hcc : s.length ≤ cc) (w : World) (hR : RT w) (hI : T8.In w (some ⟨b, off, none⟩) s) : Calls Tryz.prog 84 #[.slice (some ⟨b, off, none⟩) s.length cc, .int .u8 9] w fun e w' => ∃ v, e = .returned v ∧ T8.OE w' w.heap.size v (certP 9 s) ∧ Below w.heap.size w w' := by
  have t1 : w.cell? ⟨1, 55, none⟩ = some (.int .i64 2) := hR 9 (by omega) 1 (by omega)
  have hl := hR.lt
  have CC : Hid (∀ W, Below w.heap.size w W → Calls Tryz.prog 118 #[.slice (some ⟨b, off, none⟩) m cc] W fun e w' => ∃ v, e = .returned v ∧ Hid (T8.OE w' w.heap.size v (s.take m)) ∧ Below w.heap.size w w') := fun W hW => by
    have e : (s.take m).length = m := by rw [List.length_take]; omega
    have h := T8.clone_any (some ⟨b, off, none⟩) cc (s.take m) W ((hI.below hW (Nat.le_refl _)).take m) (by omega)
    rw [e] at h
    exact h.mono (fun e w' ⟨v, h1, h2, h3⟩ => ⟨v, h1, h2.mono hW.size, hW.trans (h3.mono hW.size)⟩)
  obtain ⟨t0, et0⟩ : ∃ t, s[m + 0]? = some t := ⟨_, List.getElem?_eq_getElem (by omega)⟩
  have cb0 : Hid (∀ W, Below w.heap.size w W → W.cell? ⟨b, off + m + 0, none⟩ = some (.int .i8 t0)) := fun W hW => by
    rcases hI with h | ⟨b', off', e, hb, hc⟩
    · rw [h] at et0; simp at et0
    · injection e with e
      injection e with e1 e2
      subst e1 e2
      rw [hW.cell (p := ⟨b, off + m + 0, none⟩) hb, Nat.add_assoc]
      exact hc _ _ et0
  have tr0 : Tr t0 := tr _ (List.mem_of_getElem? et0)
  obtain ⟨t1, et1⟩ : ∃ t, s[m + 1]? = some t := ⟨_, List.getElem?_eq_getElem (by omega)⟩
  have cb1 : Hid (∀ W, Below w.heap.size w W → W.cell? ⟨b, off + m + 1, none⟩ = some (.int .i8 t1)) := fun W hW => by
    rcases hI with h | ⟨b', off', e, hb, hc⟩
    · rw [h] at et1; simp at et1
    · injection e with e
      injection e with e1 e2
      subst e1 e2
      rw [hW.cell (p := ⟨b, off + m + 1, none⟩) hb, Nat.add_assoc]
      exact hc _ _ et1
  have tr1 : Tr t1 := tr _ (List.mem_of_getElem? et1)
  have EQ : Hid (s.take m ++ [(max t0 t1)] = certP 9 s) := by
    unfold certP
    rw [if_neg (by decide), show s.length - (rowF 9).tk = m by rw [show (rowF 9).tk = 2 from rfl]; omega]
    congr 1
    have g0 : s.getD m 0 = t0 := by rw [List.getD_eq_getElem?_getD, show m = m + 0 by omega, et0]; rfl
    have g1 : s.getD (m + 1) 0 = t1 := by rw [List.getD_eq_getElem?_getD, et1]; rfl
    all_goals rw [g0, g1]
    all_goals first | rfl | simp [topT, minT, maxT, Int.min_def, Int.max_def]
  clear et0
  clear et1
  obtain ⟨n, hnn⟩ : ∃ n, s.length = n := ⟨_, rfl⟩
  rw [hnn] at hm hn hcc ⊢
  have hw : IntKind.i64.wrap ((n : Int) - 2) = (m : Int) := by rw [hm, show ((m + 2 : Nat) : Int) - 2 = (m : Int) by omega]; exact IntWalk.i64_in _ (by omega)
  have m0 : (0 : Int) ≤ (m : Int) := by omega
  have mn : (m : Int) ≤ (n : Int) := by omega
  have mc : (m : Int) ≤ (cc : Int) := by omega
  have nc : (n : Int) ≤ (cc : Int) := by omega
  have mnN : m ≤ n := by omega
  have mcN : m ≤ cc := by omega
  have nmN : n - m = 2 := by omega
  have lm : Hid ((s.take m).length = m ∧ m ≤ 65536) := (by rw [List.length_take]; omega : (s.take m).length = m ∧ m ≤ 65536)
  clear hR hI tr hnn hcc
  have cm : ¬ cc = m := by omega
  clear hm
  go_enter Tryz.func84, Tryz.ntmps84
  go_wp2_with fail
  have SS0 : Below w.heap.size w w.drew := (Below.refl _ w).drew
  go_region_held3 (fun W => Below w.heap.size w W) (first | with_reducible assumption)
    (first
      | (go_at_call 118; (with_reducible refine Calls.mono (CC.out _ (by with_reducible assumption)) ?_); rintro e w1 ⟨v, rfl, ov, bv⟩))
  have d0 := cb0.out w1 bv
  simp only [Nat.add_zero] at d0
  have d1 := cb1.out w1 bv
  have d0' := cb0.out w1.drew (bv.drew)
  have d1' := cb1.out w1.drew (bv.drew)
  simp only [Nat.add_zero] at d0'
  have bva : Below w.heap.size w (w1.alloc (.cells #[.int .i8 (max t0 t1)] 262)).drew := (bv.alloc bv.size _).drew
  have e0' := cb0.out _ bva
  have e1' := cb1.out _ bva
  simp only [Nat.add_zero] at e0'
  clear bva
  obtain ⟨v', w2, hr, ho, hg, hb, _⟩ := T8.app_one w1.drew w.heap.size v (s.take m) (ov.out.below ((Below.refl _ _).drew) (Nat.le_refl _)) (by have := bv.size; simp; omega) ((max t0 t1)) 139 (by rw [lm.1]; have := lm.2; omega)
  have fin : Hid (T8.OE w2 w.heap.size v' (certP 9 s) ∧ Below w.heap.size w w2) := by
    rw [← EQ.out]; exact ⟨ho, (bv.drew).trans hb⟩
  have hrH : Hid (∀ W' y', W' = w1.drew.alloc (.cells #[T8.vl ((max t0 t1))] 262) → y' = Value.slice (some ⟨w1.drew.heap.size, 0, none⟩) 1 1 → (Builtin.append_ #[139, 139] 139 #[v, y']).run Tryz.prog W' = .ok v' w2) := fun W' y' e1 e2 => by rw [e1, e2]; exact hr
  have f0 := cb0.out _ fin.out.2
  have f1 := cb1.out _ fin.out.2
  simp only [Nat.add_zero] at f0
  have SS3 : w2.cell? ⟨b, off + m, none⟩ = some (.int .i8 t0) ∧ w2.cell? ⟨b, off + m + 1, none⟩ = some (.int .i8 t1) := ⟨f0, f1⟩
  unfold T8.vl at hrH
  clear CC ov hr ho hg hb cb0 cb1
  go_wp2_with fail
  have SS1 : w1.drew.cell? ⟨b, off + m, none⟩ = some (.int .i8 t0) ∧ w1.drew.cell? ⟨b, off + m + 1, none⟩ = some (.int .i8 t1) := ⟨d0', d1'⟩
  have SS2 : (w1.alloc (.cells #[.int .i8 (max t0 t1)] 262)).drew.cell? ⟨b, off + m, none⟩ = some (.int .i8 t0) ∧ (w1.alloc (.cells #[.int .i8 (max t0 t1)] 262)).drew.cell? ⟨b, off + m + 1, none⟩ = some (.int .i8 t1) := ⟨e0', e1'⟩
  go_region_held3 (fun W => W.cell? ⟨b, off + m, none⟩ = some (.int .i8 t0) ∧ W.cell? ⟨b, off + m + 1, none⟩ = some (.int .i8 t1)) (first | with_reducible assumption)
    (first
      | (refine step_append_runG rfl (.tmp 60) (.tmp 68) 139 rfl _ _ _ _ rfl rfl (hrH.out _ _ (by first | rfl | simp) (by first | rfl | simp)) ?_))
  all_goals go_wp2_with fail
  all_goals go_ret
  all_goals exact ⟨_, rfl, fin.out⟩
set_option maxHeartbeats 8000000 in
theorem cert_10 (s : List Int) (m : Nat) (hm : s.length = m + 1) (hn : s.length ≤ 65536) (tr : ∀ x ∈ s, Tr x) (b off cc : Nat) (hcc : s.length ≤ cc) (w : World) (hR : RT w) (hI : T8.In w (some ⟨b, off, none⟩) s) : Calls Tryz.prog 84 #[.slice (some ⟨b, off, none⟩) s.length cc, .int .u8 10] w fun e w' => ∃ v, e = .returned v ∧ T8.OE w' w.heap.size v (certP 10 s) ∧ Below w.heap.size w w' := by
  have t1 : w.cell? ⟨1, 61, none⟩ = some (.int .i64 1) := hR 10 (by omega) 1 (by omega)
  have hl := hR.lt
  have CC : Hid (∀ W, Below w.heap.size w W → Calls Tryz.prog 118 #[.slice (some ⟨b, off, none⟩) m cc] W fun e w' => ∃ v, e = .returned v ∧ Hid (T8.OE w' w.heap.size v (s.take m)) ∧ Below w.heap.size w w') := fun W hW => by
    have e : (s.take m).length = m := by rw [List.length_take]; omega
    have h := T8.clone_any (some ⟨b, off, none⟩) cc (s.take m) W ((hI.below hW (Nat.le_refl _)).take m) (by omega)
    rw [e] at h
    exact h.mono (fun e w' ⟨v, h1, h2, h3⟩ => ⟨v, h1, h2.mono hW.size, hW.trans (h3.mono hW.size)⟩)
  obtain ⟨t0, et0⟩ : ∃ t, s[m + 0]? = some t := ⟨_, List.getElem?_eq_getElem (by omega)⟩
  have cb0 : Hid (∀ W, Below w.heap.size w W → W.cell? ⟨b, off + m + 0, none⟩ = some (.int .i8 t0)) := fun W hW => by
    rcases hI with h | ⟨b', off', e, hb, hc⟩
    · rw [h] at et0; simp at et0
    · injection e with e
      injection e with e1 e2
      subst e1 e2
      rw [hW.cell (p := ⟨b, off + m + 0, none⟩) hb, Nat.add_assoc]
      exact hc _ _ et0
  have tr0 : Tr t0 := tr _ (List.mem_of_getElem? et0)
  have EQ : Hid (s.take m ++ [t0] = certP 10 s) := by
    unfold certP
    rw [if_neg (by decide), show s.length - (rowF 10).tk = m by rw [show (rowF 10).tk = 1 from rfl]; omega]
    congr 1
    have g0 : s.getD m 0 = t0 := by rw [List.getD_eq_getElem?_getD, show m = m + 0 by omega, et0]; rfl
    all_goals rw [g0]
    all_goals first | rfl | simp [topT, minT, maxT, Int.min_def, Int.max_def]
  clear et0
  obtain ⟨n, hnn⟩ : ∃ n, s.length = n := ⟨_, rfl⟩
  rw [hnn] at hm hn hcc ⊢
  have hw : IntKind.i64.wrap ((n : Int) - 1) = (m : Int) := by rw [hm, show ((m + 1 : Nat) : Int) - 1 = (m : Int) by omega]; exact IntWalk.i64_in _ (by omega)
  have m0 : (0 : Int) ≤ (m : Int) := by omega
  have mn : (m : Int) ≤ (n : Int) := by omega
  have mc : (m : Int) ≤ (cc : Int) := by omega
  have nc : (n : Int) ≤ (cc : Int) := by omega
  have mnN : m ≤ n := by omega
  have mcN : m ≤ cc := by omega
  have nmN : n - m = 1 := by omega
  have lm : Hid ((s.take m).length = m ∧ m ≤ 65536) := (by rw [List.length_take]; omega : (s.take m).length = m ∧ m ≤ 65536)
  clear hR hI tr hnn hcc
  have cm : ¬ cc = m := by omega
  clear hm
  go_enter Tryz.func84, Tryz.ntmps84
  go_wp2_with fail
  have SS0 : Below w.heap.size w w.drew := (Below.refl _ w).drew
  go_region_held3 (fun W => Below w.heap.size w W) (first | with_reducible assumption)
    (first
      | (go_at_call 118; (with_reducible refine Calls.mono (CC.out _ (by with_reducible assumption)) ?_); rintro e w1 ⟨v, rfl, ov, bv⟩))
  have d0 := cb0.out w1 bv
  simp only [Nat.add_zero] at d0
  obtain ⟨v', w2, hr, ho, hg, hb, _⟩ := T8.app_one w1 w.heap.size v (s.take m) (ov.out) (by have := bv.size; simp; omega) (t0) 139 (by rw [lm.1]; have := lm.2; omega)
  have fin : Hid (T8.OE w2 w.heap.size v' (certP 10 s) ∧ Below w.heap.size w w2) := by
    rw [← EQ.out]; exact ⟨ho, (bv).trans hb⟩
  have hrH : Hid (∀ W' y', W' = w1.alloc (.cells #[T8.vl (t0)] 262) → y' = Value.slice (some ⟨w1.heap.size, 0, none⟩) 1 1 → (Builtin.append_ #[139, 139] 139 #[v, y']).run Tryz.prog W' = .ok v' w2) := fun W' y' e1 e2 => by rw [e1, e2]; exact hr
  unfold T8.vl at hrH
  clear CC ov hr ho hg hb cb0
  go_wp2_with (at_builtin; refine append_run (.tmp 73) (.tmp 77) (by rfl) _ (by rfl) _ _ _ _ (by rfl) (by rfl) (hrH.out _ _ (by first | rfl | simp) (by first | rfl | simp)) ?_)
  go_ret
  exact ⟨_, rfl, fin.out⟩
set_option maxHeartbeats 8000000 in
theorem cert_11 (s : List Int) (m : Nat) (hm : s.length = m + 1) (hn : s.length ≤ 65536) (tr : ∀ x ∈ s, Tr x) (b off cc : Nat) (hcc : s.length ≤ cc) (w : World) (hR : RT w) (hI : T8.In w (some ⟨b, off, none⟩) s) : Calls Tryz.prog 84 #[.slice (some ⟨b, off, none⟩) s.length cc, .int .u8 11] w fun e w' => ∃ v, e = .returned v ∧ T8.OE w' w.heap.size v (certP 11 s) ∧ Below w.heap.size w w' := by
  have t1 : w.cell? ⟨1, 67, none⟩ = some (.int .i64 1) := hR 11 (by omega) 1 (by omega)
  have hl := hR.lt
  have CC : Hid (∀ W, Below w.heap.size w W → Calls Tryz.prog 118 #[.slice (some ⟨b, off, none⟩) m cc] W fun e w' => ∃ v, e = .returned v ∧ Hid (T8.OE w' w.heap.size v (s.take m)) ∧ Below w.heap.size w w') := fun W hW => by
    have e : (s.take m).length = m := by rw [List.length_take]; omega
    have h := T8.clone_any (some ⟨b, off, none⟩) cc (s.take m) W ((hI.below hW (Nat.le_refl _)).take m) (by omega)
    rw [e] at h
    exact h.mono (fun e w' ⟨v, h1, h2, h3⟩ => ⟨v, h1, h2.mono hW.size, hW.trans (h3.mono hW.size)⟩)
  obtain ⟨t0, et0⟩ : ∃ t, s[m + 0]? = some t := ⟨_, List.getElem?_eq_getElem (by omega)⟩
  have cb0 : Hid (∀ W, Below w.heap.size w W → W.cell? ⟨b, off + m + 0, none⟩ = some (.int .i8 t0)) := fun W hW => by
    rcases hI with h | ⟨b', off', e, hb, hc⟩
    · rw [h] at et0; simp at et0
    · injection e with e
      injection e with e1 e2
      subst e1 e2
      rw [hW.cell (p := ⟨b, off + m + 0, none⟩) hb, Nat.add_assoc]
      exact hc _ _ et0
  have tr0 : Tr t0 := tr _ (List.mem_of_getElem? et0)
  have EQ : Hid (s.take m ++ [t0] = certP 11 s) := by
    unfold certP
    rw [if_neg (by decide), show s.length - (rowF 11).tk = m by rw [show (rowF 11).tk = 1 from rfl]; omega]
    congr 1
    have g0 : s.getD m 0 = t0 := by rw [List.getD_eq_getElem?_getD, show m = m + 0 by omega, et0]; rfl
    all_goals rw [g0]
    all_goals first | rfl | simp [topT, minT, maxT, Int.min_def, Int.max_def]
  clear et0
  obtain ⟨n, hnn⟩ : ∃ n, s.length = n := ⟨_, rfl⟩
  rw [hnn] at hm hn hcc ⊢
  have hw : IntKind.i64.wrap ((n : Int) - 1) = (m : Int) := by rw [hm, show ((m + 1 : Nat) : Int) - 1 = (m : Int) by omega]; exact IntWalk.i64_in _ (by omega)
  have m0 : (0 : Int) ≤ (m : Int) := by omega
  have mn : (m : Int) ≤ (n : Int) := by omega
  have mc : (m : Int) ≤ (cc : Int) := by omega
  have nc : (n : Int) ≤ (cc : Int) := by omega
  have mnN : m ≤ n := by omega
  have mcN : m ≤ cc := by omega
  have nmN : n - m = 1 := by omega
  have lm : Hid ((s.take m).length = m ∧ m ≤ 65536) := (by rw [List.length_take]; omega : (s.take m).length = m ∧ m ≤ 65536)
  clear hR hI tr hnn hcc
  have cm : ¬ cc = m := by omega
  clear hm
  go_enter Tryz.func84, Tryz.ntmps84
  go_wp2_with fail
  have SS0 : Below w.heap.size w w.drew := (Below.refl _ w).drew
  go_region_held3 (fun W => Below w.heap.size w W) (first | with_reducible assumption)
    (first
      | (go_at_call 118; (with_reducible refine Calls.mono (CC.out _ (by with_reducible assumption)) ?_); rintro e w1 ⟨v, rfl, ov, bv⟩))
  have d0 := cb0.out w1 bv
  simp only [Nat.add_zero] at d0
  obtain ⟨v', w2, hr, ho, hg, hb, _⟩ := T8.app_one w1 w.heap.size v (s.take m) (ov.out) (by have := bv.size; simp; omega) (t0) 139 (by rw [lm.1]; have := lm.2; omega)
  have fin : Hid (T8.OE w2 w.heap.size v' (certP 11 s) ∧ Below w.heap.size w w2) := by
    rw [← EQ.out]; exact ⟨ho, (bv).trans hb⟩
  have hrH : Hid (∀ W' y', W' = w1.alloc (.cells #[T8.vl (t0)] 262) → y' = Value.slice (some ⟨w1.heap.size, 0, none⟩) 1 1 → (Builtin.append_ #[139, 139] 139 #[v, y']).run Tryz.prog W' = .ok v' w2) := fun W' y' e1 e2 => by rw [e1, e2]; exact hr
  unfold T8.vl at hrH
  clear CC ov hr ho hg hb cb0
  go_wp2_with (at_builtin; refine append_run (.tmp 73) (.tmp 77) (by rfl) _ (by rfl) _ _ _ _ (by rfl) (by rfl) (hrH.out _ _ (by first | rfl | simp) (by first | rfl | simp)) ?_)
  go_ret
  exact ⟨_, rfl, fin.out⟩
set_option maxHeartbeats 8000000 in
theorem cert_12 (s : List Int) (m : Nat) (hm : s.length = m + 1) (hn : s.length ≤ 65536) (tr : ∀ x ∈ s, Tr x) (b off cc : Nat) (hcc : s.length ≤ cc) (w : World) (hR : RT w) (hI : T8.In w (some ⟨b, off, none⟩) s) : Calls Tryz.prog 84 #[.slice (some ⟨b, off, none⟩) s.length cc, .int .u8 12] w fun e w' => ∃ v, e = .returned v ∧ T8.OE w' w.heap.size v (certP 12 s) ∧ Below w.heap.size w w' := by
  have t1 : w.cell? ⟨1, 73, none⟩ = some (.int .i64 1) := hR 12 (by omega) 1 (by omega)
  have hl := hR.lt
  have CC : Hid (∀ W, Below w.heap.size w W → Calls Tryz.prog 118 #[.slice (some ⟨b, off, none⟩) m cc] W fun e w' => ∃ v, e = .returned v ∧ Hid (T8.OE w' w.heap.size v (s.take m)) ∧ Below w.heap.size w w') := fun W hW => by
    have e : (s.take m).length = m := by rw [List.length_take]; omega
    have h := T8.clone_any (some ⟨b, off, none⟩) cc (s.take m) W ((hI.below hW (Nat.le_refl _)).take m) (by omega)
    rw [e] at h
    exact h.mono (fun e w' ⟨v, h1, h2, h3⟩ => ⟨v, h1, h2.mono hW.size, hW.trans (h3.mono hW.size)⟩)
  have EQ : Hid (s.take m = certP 12 s) := by
    unfold certP
    rw [if_pos (by decide), show s.length - (rowF 12).tk = m by rw [show (rowF 12).tk = 1 from rfl]; omega]
    exact (rfl : s.take m = s.take m)
  obtain ⟨n, hnn⟩ : ∃ n, s.length = n := ⟨_, rfl⟩
  rw [hnn] at hm hn hcc ⊢
  have hw : IntKind.i64.wrap ((n : Int) - 1) = (m : Int) := by rw [hm, show ((m + 1 : Nat) : Int) - 1 = (m : Int) by omega]; exact IntWalk.i64_in _ (by omega)
  have m0 : (0 : Int) ≤ (m : Int) := by omega
  have mn : (m : Int) ≤ (n : Int) := by omega
  have mc : (m : Int) ≤ (cc : Int) := by omega
  have nc : (n : Int) ≤ (cc : Int) := by omega
  have mnN : m ≤ n := by omega
  have mcN : m ≤ cc := by omega
  have nmN : n - m = 1 := by omega
  have lm : Hid ((s.take m).length = m ∧ m ≤ 65536) := (by rw [List.length_take]; omega : (s.take m).length = m ∧ m ≤ 65536)
  clear hR hI tr hnn hcc
  have cm : ¬ cc = m := by omega
  clear hm
  go_enter Tryz.func84, Tryz.ntmps84
  go_wp2_with fail
  have SS0 : Below w.heap.size w w.drew := (Below.refl _ w).drew
  go_region_held3 (fun W => Below w.heap.size w W) (first | with_reducible assumption)
    (first
      | (go_at_call 118; (with_reducible refine Calls.mono (CC.out _ (by with_reducible assumption)) ?_); rintro e w1 ⟨v, rfl, ov, bv⟩))
  have fin : Hid (T8.OE w1 w.heap.size v (certP 12 s) ∧ Below w.heap.size w w1) := by
    rw [← EQ.out]; exact ⟨ov.out, bv⟩
  clear CC ov
  go_wp2_with fail
  go_ret
  exact ⟨_, rfl, fin.out⟩
set_option maxHeartbeats 8000000 in
theorem cert_13 (s : List Int) (m : Nat) (hm : s.length = m + 1) (hn : s.length ≤ 65536) (tr : ∀ x ∈ s, Tr x) (b off cc : Nat) (hcc : s.length ≤ cc) (w : World) (hR : RT w) (hI : T8.In w (some ⟨b, off, none⟩) s) : Calls Tryz.prog 84 #[.slice (some ⟨b, off, none⟩) s.length cc, .int .u8 13] w fun e w' => ∃ v, e = .returned v ∧ T8.OE w' w.heap.size v (certP 13 s) ∧ Below w.heap.size w w' := by
  have t1 : w.cell? ⟨1, 79, none⟩ = some (.int .i64 1) := hR 13 (by omega) 1 (by omega)
  have hl := hR.lt
  have CC : Hid (∀ W, Below w.heap.size w W → Calls Tryz.prog 118 #[.slice (some ⟨b, off, none⟩) m cc] W fun e w' => ∃ v, e = .returned v ∧ Hid (T8.OE w' w.heap.size v (s.take m)) ∧ Below w.heap.size w w') := fun W hW => by
    have e : (s.take m).length = m := by rw [List.length_take]; omega
    have h := T8.clone_any (some ⟨b, off, none⟩) cc (s.take m) W ((hI.below hW (Nat.le_refl _)).take m) (by omega)
    rw [e] at h
    exact h.mono (fun e w' ⟨v, h1, h2, h3⟩ => ⟨v, h1, h2.mono hW.size, hW.trans (h3.mono hW.size)⟩)
  have EQ : Hid (s.take m = certP 13 s) := by
    unfold certP
    rw [if_pos (by decide), show s.length - (rowF 13).tk = m by rw [show (rowF 13).tk = 1 from rfl]; omega]
    exact (rfl : s.take m = s.take m)
  obtain ⟨n, hnn⟩ : ∃ n, s.length = n := ⟨_, rfl⟩
  rw [hnn] at hm hn hcc ⊢
  have hw : IntKind.i64.wrap ((n : Int) - 1) = (m : Int) := by rw [hm, show ((m + 1 : Nat) : Int) - 1 = (m : Int) by omega]; exact IntWalk.i64_in _ (by omega)
  have m0 : (0 : Int) ≤ (m : Int) := by omega
  have mn : (m : Int) ≤ (n : Int) := by omega
  have mc : (m : Int) ≤ (cc : Int) := by omega
  have nc : (n : Int) ≤ (cc : Int) := by omega
  have mnN : m ≤ n := by omega
  have mcN : m ≤ cc := by omega
  have nmN : n - m = 1 := by omega
  have lm : Hid ((s.take m).length = m ∧ m ≤ 65536) := (by rw [List.length_take]; omega : (s.take m).length = m ∧ m ≤ 65536)
  clear hR hI tr hnn hcc
  have cm : ¬ cc = m := by omega
  clear hm
  go_enter Tryz.func84, Tryz.ntmps84
  go_wp2_with fail
  have SS0 : Below w.heap.size w w.drew := (Below.refl _ w).drew
  go_region_held3 (fun W => Below w.heap.size w W) (first | with_reducible assumption)
    (first
      | (go_at_call 118; (with_reducible refine Calls.mono (CC.out _ (by with_reducible assumption)) ?_); rintro e w1 ⟨v, rfl, ov, bv⟩))
  have fin : Hid (T8.OE w1 w.heap.size v (certP 13 s) ∧ Below w.heap.size w w1) := by
    rw [← EQ.out]; exact ⟨ov.out, bv⟩
  clear CC ov
  go_wp2_with fail
  go_ret
  exact ⟨_, rfl, fin.out⟩
set_option maxHeartbeats 8000000 in
theorem certN_1 (cc : Nat) (w : World) (hR : RT w) : Calls Tryz.prog 84 #[.slice none 0 cc, .int .u8 1] w fun e w' => ∃ v, e = .returned v ∧ T8.OE w' w.heap.size v (certP 1 []) ∧ Below w.heap.size w w' := by
  have t1 : w.cell? ⟨1, 7, none⟩ = some (.int .i64 0) := hR 1 (by omega) 1 (by omega)
  have hl := hR.lt
  have CC : Hid (∀ W, Below w.heap.size w W → Calls Tryz.prog 118 #[.slice none 0 cc] W fun e w' => ∃ v, e = .returned v ∧ Hid (T8.OE w' w.heap.size v []) ∧ Below w.heap.size w w') := fun W hW => by
    have h := T8.clone_any none cc [] W (Or.inl rfl) (by simp)
    exact h.mono (fun e w' ⟨v, h1, h2, h3⟩ => ⟨v, h1, h2.mono hW.size, hW.trans (h3.mono hW.size)⟩)
  have EQ : Hid ([] ++ [1] = certP 1 []) := by
    exact (rfl : ([] : List Int) ++ [1] = certP 1 [])
  clear hR
  go_enter Tryz.func84, Tryz.ntmps84
  go_wp2_with fail
  have SS0 : Below w.heap.size w w.drew := (Below.refl _ w).drew
  go_region_held3 (fun W => Below w.heap.size w W) (first | with_reducible assumption)
    (first
      | (go_at_call 118; (with_reducible refine Calls.mono (CC.out _ (by with_reducible assumption)) ?_); rintro e w1 ⟨v, rfl, ov, bv⟩))
  obtain ⟨v', w2, hr, ho, hg, hb, _⟩ := T8.app_one w1 w.heap.size v [] (ov.out) (by have := bv.size; simp; omega) (1) 139 (by simp)
  have fin : Hid (T8.OE w2 w.heap.size v' (certP 1 []) ∧ Below w.heap.size w w2) := by
    rw [← EQ.out]; exact ⟨ho, bv.trans hb⟩
  have hrH : Hid (∀ W' y', W' = w1.alloc (.cells #[T8.vl (1)] 262) → y' = Value.slice (some ⟨w1.heap.size, 0, none⟩) 1 1 → (Builtin.append_ #[139, 139] 139 #[v, y']).run Tryz.prog W' = .ok v' w2) := fun W' y' e1 e2 => by rw [e1, e2]; exact hr
  unfold T8.vl at hrH
  clear CC ov hr ho hg hb
  go_wp2_with (at_builtin; refine append_run (.tmp 29) (.tmp 30) (by rfl) _ (by rfl) _ _ _ _ (by rfl) (by rfl) (hrH.out _ _ (by first | rfl | simp) (by first | rfl | simp)) ?_)
  go_ret
  exact ⟨_, rfl, fin.out⟩
set_option maxHeartbeats 8000000 in
theorem certN_2 (cc : Nat) (w : World) (hR : RT w) : Calls Tryz.prog 84 #[.slice none 0 cc, .int .u8 2] w fun e w' => ∃ v, e = .returned v ∧ T8.OE w' w.heap.size v (certP 2 []) ∧ Below w.heap.size w w' := by
  have t1 : w.cell? ⟨1, 13, none⟩ = some (.int .i64 0) := hR 2 (by omega) 1 (by omega)
  have hl := hR.lt
  have CC : Hid (∀ W, Below w.heap.size w W → Calls Tryz.prog 118 #[.slice none 0 cc] W fun e w' => ∃ v, e = .returned v ∧ Hid (T8.OE w' w.heap.size v []) ∧ Below w.heap.size w w') := fun W hW => by
    have h := T8.clone_any none cc [] W (Or.inl rfl) (by simp)
    exact h.mono (fun e w' ⟨v, h1, h2, h3⟩ => ⟨v, h1, h2.mono hW.size, hW.trans (h3.mono hW.size)⟩)
  have EQ : Hid ([] ++ [-1] = certP 2 []) := by
    exact (rfl : ([] : List Int) ++ [-1] = certP 2 [])
  clear hR
  go_enter Tryz.func84, Tryz.ntmps84
  go_wp2_with fail
  have SS0 : Below w.heap.size w w.drew := (Below.refl _ w).drew
  go_region_held3 (fun W => Below w.heap.size w W) (first | with_reducible assumption)
    (first
      | (go_at_call 118; (with_reducible refine Calls.mono (CC.out _ (by with_reducible assumption)) ?_); rintro e w1 ⟨v, rfl, ov, bv⟩))
  obtain ⟨v', w2, hr, ho, hg, hb, _⟩ := T8.app_one w1 w.heap.size v [] (ov.out) (by have := bv.size; simp; omega) (-1) 139 (by simp)
  have fin : Hid (T8.OE w2 w.heap.size v' (certP 2 []) ∧ Below w.heap.size w w2) := by
    rw [← EQ.out]; exact ⟨ho, bv.trans hb⟩
  have hrH : Hid (∀ W' y', W' = w1.alloc (.cells #[T8.vl (-1)] 262) → y' = Value.slice (some ⟨w1.heap.size, 0, none⟩) 1 1 → (Builtin.append_ #[139, 139] 139 #[v, y']).run Tryz.prog W' = .ok v' w2) := fun W' y' e1 e2 => by rw [e1, e2]; exact hr
  unfold T8.vl at hrH
  clear CC ov hr ho hg hb
  go_wp2_with (at_builtin; refine append_run (.tmp 34) (.tmp 35) (by rfl) _ (by rfl) _ _ _ _ (by rfl) (by rfl) (hrH.out _ _ (by first | rfl | simp) (by first | rfl | simp)) ?_)
  go_ret
  exact ⟨_, rfl, fin.out⟩
set_option maxHeartbeats 8000000 in
theorem certN_3 (cc : Nat) (w : World) (hR : RT w) : Calls Tryz.prog 84 #[.slice none 0 cc, .int .u8 3] w fun e w' => ∃ v, e = .returned v ∧ T8.OE w' w.heap.size v (certP 3 []) ∧ Below w.heap.size w w' := by
  have t1 : w.cell? ⟨1, 19, none⟩ = some (.int .i64 0) := hR 3 (by omega) 1 (by omega)
  have hl := hR.lt
  have CC : Hid (∀ W, Below w.heap.size w W → Calls Tryz.prog 118 #[.slice none 0 cc] W fun e w' => ∃ v, e = .returned v ∧ Hid (T8.OE w' w.heap.size v []) ∧ Below w.heap.size w w') := fun W hW => by
    have h := T8.clone_any none cc [] W (Or.inl rfl) (by simp)
    exact h.mono (fun e w' ⟨v, h1, h2, h3⟩ => ⟨v, h1, h2.mono hW.size, hW.trans (h3.mono hW.size)⟩)
  have EQ : Hid ([] ++ [0] = certP 3 []) := by
    exact (rfl : ([] : List Int) ++ [0] = certP 3 [])
  clear hR
  go_enter Tryz.func84, Tryz.ntmps84
  go_wp2_with fail
  have SS0 : Below w.heap.size w w.drew := (Below.refl _ w).drew
  go_region_held3 (fun W => Below w.heap.size w W) (first | with_reducible assumption)
    (first
      | (go_at_call 118; (with_reducible refine Calls.mono (CC.out _ (by with_reducible assumption)) ?_); rintro e w1 ⟨v, rfl, ov, bv⟩))
  obtain ⟨v', w2, hr, ho, hg, hb, _⟩ := T8.app_one w1 w.heap.size v [] (ov.out) (by have := bv.size; simp; omega) (0) 139 (by simp)
  have fin : Hid (T8.OE w2 w.heap.size v' (certP 3 []) ∧ Below w.heap.size w w2) := by
    rw [← EQ.out]; exact ⟨ho, bv.trans hb⟩
  have hrH : Hid (∀ W' y', W' = w1.alloc (.cells #[T8.vl (0)] 262) → y' = Value.slice (some ⟨w1.heap.size, 0, none⟩) 1 1 → (Builtin.append_ #[139, 139] 139 #[v, y']).run Tryz.prog W' = .ok v' w2) := fun W' y' e1 e2 => by rw [e1, e2]; exact hr
  unfold T8.vl at hrH
  clear CC ov hr ho hg hb
  go_wp2_with (at_builtin; refine append_run (.tmp 79) (.tmp 80) (by rfl) _ (by rfl) _ _ _ _ (by rfl) (by rfl) (hrH.out _ _ (by first | rfl | simp) (by first | rfl | simp)) ?_)
  go_ret
  exact ⟨_, rfl, fin.out⟩
set_option maxHeartbeats 8000000 in
theorem certN_4 (cc : Nat) (w : World) (hR : RT w) : Calls Tryz.prog 84 #[.slice none 0 cc, .int .u8 4] w fun e w' => ∃ v, e = .returned v ∧ T8.OE w' w.heap.size v (certP 4 []) ∧ Below w.heap.size w w' := by
  have t1 : w.cell? ⟨1, 25, none⟩ = some (.int .i64 0) := hR 4 (by omega) 1 (by omega)
  have hl := hR.lt
  have CC : Hid (∀ W, Below w.heap.size w W → Calls Tryz.prog 118 #[.slice none 0 cc] W fun e w' => ∃ v, e = .returned v ∧ Hid (T8.OE w' w.heap.size v []) ∧ Below w.heap.size w w') := fun W hW => by
    have h := T8.clone_any none cc [] W (Or.inl rfl) (by simp)
    exact h.mono (fun e w' ⟨v, h1, h2, h3⟩ => ⟨v, h1, h2.mono hW.size, hW.trans (h3.mono hW.size)⟩)
  have EQ : Hid ([] ++ [0] = certP 4 []) := by
    exact (rfl : ([] : List Int) ++ [0] = certP 4 [])
  clear hR
  go_enter Tryz.func84, Tryz.ntmps84
  go_wp2_with fail
  have SS0 : Below w.heap.size w w.drew := (Below.refl _ w).drew
  go_region_held3 (fun W => Below w.heap.size w W) (first | with_reducible assumption)
    (first
      | (go_at_call 118; (with_reducible refine Calls.mono (CC.out _ (by with_reducible assumption)) ?_); rintro e w1 ⟨v, rfl, ov, bv⟩))
  obtain ⟨v', w2, hr, ho, hg, hb, _⟩ := T8.app_one w1 w.heap.size v [] (ov.out) (by have := bv.size; simp; omega) (0) 139 (by simp)
  have fin : Hid (T8.OE w2 w.heap.size v' (certP 4 []) ∧ Below w.heap.size w w2) := by
    rw [← EQ.out]; exact ⟨ho, bv.trans hb⟩
  have hrH : Hid (∀ W' y', W' = w1.alloc (.cells #[T8.vl (0)] 262) → y' = Value.slice (some ⟨w1.heap.size, 0, none⟩) 1 1 → (Builtin.append_ #[139, 139] 139 #[v, y']).run Tryz.prog W' = .ok v' w2) := fun W' y' e1 e2 => by rw [e1, e2]; exact hr
  unfold T8.vl at hrH
  clear CC ov hr ho hg hb
  go_wp2_with (at_builtin; refine append_run (.tmp 79) (.tmp 80) (by rfl) _ (by rfl) _ _ _ _ (by rfl) (by rfl) (hrH.out _ _ (by first | rfl | simp) (by first | rfl | simp)) ?_)
  go_ret
  exact ⟨_, rfl, fin.out⟩
set_option maxHeartbeats 8000000 in
theorem certN_5 (cc : Nat) (w : World) (hR : RT w) : Calls Tryz.prog 84 #[.slice none 0 cc, .int .u8 5] w fun e w' => ∃ v, e = .returned v ∧ T8.OE w' w.heap.size v (certP 5 []) ∧ Below w.heap.size w w' := by
  have t1 : w.cell? ⟨1, 31, none⟩ = some (.int .i64 0) := hR 5 (by omega) 1 (by omega)
  have hl := hR.lt
  have CC : Hid (∀ W, Below w.heap.size w W → Calls Tryz.prog 118 #[.slice none 0 cc] W fun e w' => ∃ v, e = .returned v ∧ Hid (T8.OE w' w.heap.size v []) ∧ Below w.heap.size w w') := fun W hW => by
    have h := T8.clone_any none cc [] W (Or.inl rfl) (by simp)
    exact h.mono (fun e w' ⟨v, h1, h2, h3⟩ => ⟨v, h1, h2.mono hW.size, hW.trans (h3.mono hW.size)⟩)
  have EQ : Hid ([] ++ [0] = certP 5 []) := by
    exact (rfl : ([] : List Int) ++ [0] = certP 5 [])
  clear hR
  go_enter Tryz.func84, Tryz.ntmps84
  go_wp2_with fail
  have SS0 : Below w.heap.size w w.drew := (Below.refl _ w).drew
  go_region_held3 (fun W => Below w.heap.size w W) (first | with_reducible assumption)
    (first
      | (go_at_call 118; (with_reducible refine Calls.mono (CC.out _ (by with_reducible assumption)) ?_); rintro e w1 ⟨v, rfl, ov, bv⟩))
  obtain ⟨v', w2, hr, ho, hg, hb, _⟩ := T8.app_one w1 w.heap.size v [] (ov.out) (by have := bv.size; simp; omega) (0) 139 (by simp)
  have fin : Hid (T8.OE w2 w.heap.size v' (certP 5 []) ∧ Below w.heap.size w w2) := by
    rw [← EQ.out]; exact ⟨ho, bv.trans hb⟩
  have hrH : Hid (∀ W' y', W' = w1.alloc (.cells #[T8.vl (0)] 262) → y' = Value.slice (some ⟨w1.heap.size, 0, none⟩) 1 1 → (Builtin.append_ #[139, 139] 139 #[v, y']).run Tryz.prog W' = .ok v' w2) := fun W' y' e1 e2 => by rw [e1, e2]; exact hr
  unfold T8.vl at hrH
  clear CC ov hr ho hg hb
  go_wp2_with (at_builtin; refine append_run (.tmp 79) (.tmp 80) (by rfl) _ (by rfl) _ _ _ _ (by rfl) (by rfl) (hrH.out _ _ (by first | rfl | simp) (by first | rfl | simp)) ?_)
  go_ret
  exact ⟨_, rfl, fin.out⟩
set_option maxHeartbeats 8000000 in
theorem certN_6 (cc : Nat) (w : World) (hR : RT w) : Calls Tryz.prog 84 #[.slice none 0 cc, .int .u8 6] w fun e w' => ∃ v, e = .returned v ∧ T8.OE w' w.heap.size v (certP 6 []) ∧ Below w.heap.size w w' := by
  have t1 : w.cell? ⟨1, 37, none⟩ = some (.int .i64 0) := hR 6 (by omega) 1 (by omega)
  have hl := hR.lt
  have CC : Hid (∀ W, Below w.heap.size w W → Calls Tryz.prog 118 #[.slice none 0 cc] W fun e w' => ∃ v, e = .returned v ∧ Hid (T8.OE w' w.heap.size v []) ∧ Below w.heap.size w w') := fun W hW => by
    have h := T8.clone_any none cc [] W (Or.inl rfl) (by simp)
    exact h.mono (fun e w' ⟨v, h1, h2, h3⟩ => ⟨v, h1, h2.mono hW.size, hW.trans (h3.mono hW.size)⟩)
  have EQ : Hid ([] ++ [0] = certP 6 []) := by
    exact (rfl : ([] : List Int) ++ [0] = certP 6 [])
  clear hR
  go_enter Tryz.func84, Tryz.ntmps84
  go_wp2_with fail
  have SS0 : Below w.heap.size w w.drew := (Below.refl _ w).drew
  go_region_held3 (fun W => Below w.heap.size w W) (first | with_reducible assumption)
    (first
      | (go_at_call 118; (with_reducible refine Calls.mono (CC.out _ (by with_reducible assumption)) ?_); rintro e w1 ⟨v, rfl, ov, bv⟩))
  obtain ⟨v', w2, hr, ho, hg, hb, _⟩ := T8.app_one w1 w.heap.size v [] (ov.out) (by have := bv.size; simp; omega) (0) 139 (by simp)
  have fin : Hid (T8.OE w2 w.heap.size v' (certP 6 []) ∧ Below w.heap.size w w2) := by
    rw [← EQ.out]; exact ⟨ho, bv.trans hb⟩
  have hrH : Hid (∀ W' y', W' = w1.alloc (.cells #[T8.vl (0)] 262) → y' = Value.slice (some ⟨w1.heap.size, 0, none⟩) 1 1 → (Builtin.append_ #[139, 139] 139 #[v, y']).run Tryz.prog W' = .ok v' w2) := fun W' y' e1 e2 => by rw [e1, e2]; exact hr
  unfold T8.vl at hrH
  clear CC ov hr ho hg hb
  go_wp2_with (at_builtin; refine append_run (.tmp 79) (.tmp 80) (by rfl) _ (by rfl) _ _ _ _ (by rfl) (by rfl) (hrH.out _ _ (by first | rfl | simp) (by first | rfl | simp)) ?_)
  go_ret
  exact ⟨_, rfl, fin.out⟩
theorem certain_any (s : List Int) (c : Nat) (h1 : 1 ≤ c) (h2 : c ≤ 13) (hs : (rowF c).tk ≤ s.length) (hn : s.length ≤ 65536) (tr : ∀ x ∈ s, Tr x) (a : Option Addr) (ha : Plc a) (cc : Nat) (hcc : s.length ≤ cc) (w : World) (hR : RT w) (hI : T8.In w a s) : Calls Tryz.prog 84 #[.slice a s.length cc, .int .u8 (c : Int)] w fun e w' => ∃ v, e = .returned v ∧ T8.OE w' w.heap.size v (certP c s) ∧ Below w.heap.size w w' := by
  rcases ha with rfl | ⟨b, off, rfl⟩
  · obtain rfl := hI.emp
    match c, h1, h2, hs with
    | 1, _, _, _ => exact certN_1 cc w hR
    | 2, _, _, _ => exact certN_2 cc w hR
    | 3, _, _, _ => exact certN_3 cc w hR
    | 4, _, _, _ => exact certN_4 cc w hR
    | 5, _, _, _ => exact certN_5 cc w hR
    | 6, _, _, _ => exact certN_6 cc w hR
    | 7, _, _, h => simp [rowF, rowsL] at h
    | 8, _, _, h => simp [rowF, rowsL] at h
    | 9, _, _, h => simp [rowF, rowsL] at h
    | 10, _, _, h => simp [rowF, rowsL] at h
    | 11, _, _, h => simp [rowF, rowsL] at h
    | 12, _, _, h => simp [rowF, rowsL] at h
    | 13, _, _, h => simp [rowF, rowsL] at h
    | c + 14, _, h, _ => omega
  · match c, h1, h2, hs with
    | 1, _, _, h => exact cert_1 s (s.length - 0) (by have h' : 0 ≤ s.length := h; omega) hn tr b off cc hcc w hR hI
    | 2, _, _, h => exact cert_2 s (s.length - 0) (by have h' : 0 ≤ s.length := h; omega) hn tr b off cc hcc w hR hI
    | 3, _, _, h => exact cert_3 s (s.length - 0) (by have h' : 0 ≤ s.length := h; omega) hn tr b off cc hcc w hR hI
    | 4, _, _, h => exact cert_4 s (s.length - 0) (by have h' : 0 ≤ s.length := h; omega) hn tr b off cc hcc w hR hI
    | 5, _, _, h => exact cert_5 s (s.length - 0) (by have h' : 0 ≤ s.length := h; omega) hn tr b off cc hcc w hR hI
    | 6, _, _, h => exact cert_6 s (s.length - 0) (by have h' : 0 ≤ s.length := h; omega) hn tr b off cc hcc w hR hI
    | 7, _, _, h => exact cert_7 s (s.length - 1) (by have h' : 1 ≤ s.length := h; omega) hn tr b off cc hcc w hR hI
    | 8, _, _, h => exact cert_8 s (s.length - 2) (by have h' : 2 ≤ s.length := h; omega) hn tr b off cc hcc w hR hI
    | 9, _, _, h => exact cert_9 s (s.length - 2) (by have h' : 2 ≤ s.length := h; omega) hn tr b off cc hcc w hR hI
    | 10, _, _, h => exact cert_10 s (s.length - 1) (by have h' : 1 ≤ s.length := h; omega) hn tr b off cc hcc w hR hI
    | 11, _, _, h => exact cert_11 s (s.length - 1) (by have h' : 1 ≤ s.length := h; omega) hn tr b off cc hcc w hR hI
    | 12, _, _, h => exact cert_12 s (s.length - 1) (by have h' : 1 ≤ s.length := h; omega) hn tr b off cc hcc w hR hI
    | 13, _, _, h => exact cert_13 s (s.length - 1) (by have h' : 1 ≤ s.length := h; omega) hn tr b off cc hcc w hR hI
    | c + 14, _, h, _ => omega
end Go.Proofs.YtdfnomglkibfbaaGreatDoor.Vf
