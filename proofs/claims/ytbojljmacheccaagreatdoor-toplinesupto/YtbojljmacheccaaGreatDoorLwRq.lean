
import Derived.Test.YtbojljmacheccaaGreatDoorZz
import Derived.Test.YtbojljmacheccaaGreatDoorLaD
namespace Go.Proofs.YtbojljmacheccaaGreatDoor.Ln
open Go.RowKit Go.Shelf
attribute [local go_sem] Oper.semAt_some
set_option linter.unusedVariables false
set_option linter.unusedSimpArgs false
set_option maxRecDepth 100000
theorem step_append_runL {P : Program} {ops : Array Oper} {o : Oper} {a : Act} {w : World} {K : Act → World → Prop} {Q : Exit → Act → World → Prop} {E : Prop}
    (hg : o.guard = none) (s x : Operand) (t : TypeId) (hop : o.op = Op.call { callee := Callee.builtin Builtin.append, args := #[s, x], argTypes := #[t, t] })
    (v y v' : Value) (w' : World) (hs : a.eval s = v) (hx : a.eval x = y) (hr : (Builtin.append_ #[t, t] o.type #[v, y]).run P w = .ok v' w') (hK : K (a.put o.dst v') w') :
    if Region.wanted o (yielded ops a.tmps) = true then Oper.wp P o a w K Q else E := by
  have hw : Region.wanted o (yielded ops a.tmps) = true := by simp [Region.wanted, hg]
  rw [if_pos hw]
  unfold Oper.wp execOp
  simp only [hop, resolve, invoke, builtin, Sem.run_bind, Sem.run_pure, Result.andThen_ok, List.map_toArray, List.map_cons, List.map_nil, hs, hx, hr]
  exact hK
theorem KL.drewL {w : World} {N R : Nat} {s m : ByteArray} {vt vf : Value} {tm : Int} {ta : List TagP} {fa : List FdP} {k : Nat} {W : World} (h : KL w N R s m vt vf tm ta fa k W) : KL w N R s m vt vf tm ta fa k W.drew := h.step (h.rd.below (Below.refl _ W).drew) (grown_of_below _ (Below.refl _ W).drew)
/-! what is left of reading a line, at each place. -/
def rs6 (l m : By) (ts : List (By × By)) (fs : List (By × Int)) (k : Nat) : Except Int Pt := match numL nvL l k with
  | .error e => .error e
  | .ok (t, k7) => if k7 < l.length then .error (k7 : Int) else .ok ⟨m, ts, fs, t⟩
def rs5 (l m : By) (ts : List (By × By)) (fs : List (By × Int)) (k : Nat) : Except Int Pt := match mustL 32 l k with
  | .error e => .error e
  | .ok k6 => rs6 l m ts fs k6
def rs4 (l m : By) (ts : List (By × By)) (f : By × Int) (k : Nat) : Except Int Pt := match fieldsL unK nvL l l.length k [f] with
  | .error e => .error e
  | .ok (fs, k5) => rs5 l m ts fs k5
def rs3 (l m : By) (ts : List (By × By)) (k : Nat) : Except Int Pt := match fieldL unK nvL l k with
  | .error e => .error e
  | .ok (f, k4) => rs4 l m ts f k4
def rs2 (l m : By) (ts : List (By × By)) (k : Nat) : Except Int Pt := match mustL 32 l k with
  | .error e => .error e
  | .ok k3 => rs3 l m ts k3
def rs1 (l m : By) (k : Nat) : Except Int Pt := match tagsL unK l l.length k [] with
  | .error e => .error e
  | .ok (ts, k2) => rs2 l m ts k2
def rs0 (l : By) : Except Int Pt := match pieceL unK l 0 with
  | .error e => .error e
  | .ok (m, k1) => rs1 l m k1
theorem one_rs {l : By} (h10 : feedAt l = none) (h35 : ¬ l.head? = some 35) : oneL unK nvL l = rs0 l := by
  unfold oneL
  rw [h10]
  dsimp only
  rw [if_neg h35]
  unfold rs0
  cases pieceL unK l 0 with
  | error e => rfl
  | ok x =>
    dsimp only
    unfold rs1
    cases tagsL unK l l.length x.2 [] with
    | error e => rfl
    | ok y =>
      dsimp only
      unfold rs2
      cases mustL 32 l y.2 with
      | error e => rfl
      | ok k3 =>
        dsimp only
        unfold rs3
        cases fieldL unK nvL l k3 with
        | error e => rfl
        | ok z =>
          dsimp only
          unfold rs4
          cases fieldsL unK nvL l l.length z.2 [z.1] with
          | error e => rfl
          | ok u =>
            dsimp only
            unfold rs5
            cases mustL 32 l u.2 with
            | error e => rfl
            | ok k6 =>
              dsimp only
              unfold rs6
              cases numL nvL l k6 with
              | error e => rfl
              | ok v => rfl
theorem tags_step {un : UnF} {l : By} {k : Nat} {acc : List (By × By)} {R : Except Int (List (By × By) × Nat)} (hc : (l.drop k).head? = some 44) (h : ∃ f, l.length ≤ f + k ∧ tagsL un l f k acc = R) : ∃ f, l.length ≤ f + (k + 1) ∧ (match tagL un l (k + 1) with | .error e => .error e | .ok (t, k1) => tagsL un l f k1 (acc ++ [t])) = R := by
  obtain ⟨f, hf, e⟩ := h
  have := follow_lt hc
  cases f with
  | zero => omega
  | succ f =>
    refine ⟨f, by omega, ?_⟩
    rw [← e]
    conv => rhs; unfold tagsL
    rw [if_pos hc]
    cases tagL un l (k + 1) <;> rfl
theorem tags_stop {un : UnF} {l : By} {k f : Nat} {acc : List (By × By)} (hc : ¬ (l.drop k).head? = some 44) : tagsL un l f k acc = .ok (acc, k) := by
  cases f with
  | zero => rfl
  | succ f => unfold tagsL; rw [if_neg hc]
theorem fields_step {un : UnF} {nv : NvF} {l : By} {k : Nat} {acc : List (By × Int)} {R : Except Int (List (By × Int) × Nat)} (hc : (l.drop k).head? = some 44) (h : ∃ f, l.length ≤ f + k ∧ fieldsL un nv l f k acc = R) : ∃ f, l.length ≤ f + (k + 1) ∧ (match fieldL un nv l (k + 1) with | .error e => .error e | .ok (t, k1) => fieldsL un nv l f k1 (acc ++ [t])) = R := by
  obtain ⟨f, hf, e⟩ := h
  have := follow_lt hc
  cases f with
  | zero => omega
  | succ f =>
    refine ⟨f, by omega, ?_⟩
    rw [← e]
    conv => rhs; unfold fieldsL
    rw [if_pos hc]
    cases fieldL un nv l (k + 1) <;> rfl
theorem fields_stop {un : UnF} {nv : NvF} {l : By} {k f : Nat} {acc : List (By × Int)} (hc : ¬ (l.drop k).head? = some 44) : fieldsL un nv l f k acc = .ok (acc, k) := by
  cases f with
  | zero => rfl
  | succ f => unfold fieldsL; rw [if_neg hc]
theorem field_pos {un : UnF} {nv : NvF} {l : By} {k k' : Nat} {t : By × Int} (h : fieldL un nv l k = .ok (t, k')) : 1 ≤ k' := by
  unfold fieldL at h
  split at h
  · cases h
  · split at h
    · cases h
    · split at h
      · cases h
      · split at h
        · cases h
        · rename_i p4
          injection h with h; injection h with h1 h2
          have := must_le p4
          omega
theorem OT.sliceL {w : World} {B : Nat} {v : Value} {l : List TagP} (h : OT w B v l) : ∃ a n c, v = .slice a n c := by
  obtain ⟨a, c, e, _⟩ := OT.tin h
  exact ⟨a, _, c, e⟩
theorem OF.sliceL {w : World} {B : Nat} {v : Value} {l : List FdP} (h : OF w B v l) : ∃ a n c, v = .slice a n c := by
  obtain ⟨a, c, e, _⟩ := OF.tin h
  exact ⟨a, _, c, e⟩
theorem OT.monoL {w : World} {B C : Nat} {v : Value} {l : List TagP} (h : OT w B v l) (hc : C ≤ B) : OT w C v l := by
  refine ⟨h.1, ?_⟩
  rcases h.2 with h2 | ⟨g, cap, cur, e1, e2, e3⟩
  · exact Or.inl h2
  · exact Or.inr ⟨g, cap, cur, e1, by omega, e3⟩
theorem OF.monoL {w : World} {B C : Nat} {v : Value} {l : List FdP} (h : OF w B v l) (hc : C ≤ B) : OF w C v l := by
  refine ⟨h.1, ?_⟩
  rcases h.2 with h2 | ⟨g, cap, cur, e1, e2, e3⟩
  · exact Or.inl h2
  · exact Or.inr ⟨g, cap, cur, e1, by omega, e3⟩
theorem pt_cells {W : World} {M : Nat} (h : W.heap[M]? = some ptO) : (W.cell? ⟨M, 0, none⟩ = some (.string ⟨#[]⟩) ∧ W.cell? ⟨M, 1, none⟩ = some (.slice none 0 0) ∧ W.cell? ⟨M, 2, none⟩ = some (.slice none 0 0) ∧ W.cell? ⟨M, 3, none⟩ = some (.int .i64 0)) ∧ W.frozen? ⟨M, 0, none⟩ = false ∧ W.frozen? ⟨M, 1, none⟩ = false ∧ W.frozen? ⟨M, 2, none⟩ = false ∧ W.frozen? ⟨M, 3, none⟩ = false := by
  refine ⟨⟨?_, ?_, ?_, ?_⟩, ?_, ?_, ?_, ?_⟩ <;> simp [World.cell?, World.frozen?, h, ptO]
theorem read_fin {w : World} {N R : Nat} {s mb : ByteArray} {v vf : Value} {tm : Int} {acc : List (By × By)} {fac : List (By × Int)} {m l : By} {k : Nat} {W : World} {PST : Ending → World → Prop} (h : KL w N R s mb v vf tm (acc.map tgB) (fac.map fdB) k W) (e : oneL unK nvL l = .ok ⟨m, acc, fac, tm⟩) (PO : ∀ p w1 vt vf, oneL unK nvL l = .ok p → OT w1 w.heap.size vt (p.tags.map tgB) → OF w1 w.heap.size vf (p.fs.map fdB) → (∀ b, vt.ownBlock = some b → vf.ownBlock ≠ some b) → Below w.heap.size w w1 → PST (.returned (.agg #[.string (ba p.m), vt, vf, .int .i64 p.t])) w1) (v0 : Value) :
    PST (.returned (.agg #[.string (ba m), v, vf, .int .i64 tm])) ((((W.setCell ⟨w.heap.size, 0, none⟩ v0).setCell ⟨w.heap.size, 1, none⟩ v).setCell ⟨w.heap.size, 2, none⟩ vf).setCell ⟨w.heap.size, 3, none⟩ (.int .i64 tm)) := by
  have hN := h.hN
  have hR := h.hR
  have g : W.grownBy ((((W.setCell ⟨w.heap.size, 0, none⟩ v0).setCell ⟨w.heap.size, 1, none⟩ v).setCell ⟨w.heap.size, 2, none⟩ vf).setCell ⟨w.heap.size, 3, none⟩ (.int .i64 tm)) (some w.heap.size) := grown_trans (grown_trans (grown_trans (grown_set _ _ 0 _) (grown_set _ _ 1 _)) (grown_set _ _ 2 _)) (grown_set _ _ 3 _)
  exact PO ⟨m, acc, fac, tm⟩ _ v vf e (OT.monoL (OT.keepW h.ot g (fun b eb q => by have := (OT.boundW h.ot eb).1; injection q; omega)) (by omega)) (OF.monoL (OF.keepW h.of g (fun b eb q => by have := (OF.bound h.of eb).1; injection q; omega)) (by omega)) h.ap ((((h.rd.bl.setCell (p := ⟨w.heap.size, 0, none⟩) (Nat.le_refl _) _).setCell (p := ⟨w.heap.size, 1, none⟩) (Nat.le_refl _) _).setCell (p := ⟨w.heap.size, 2, none⟩) (Nat.le_refl _) _).setCell (p := ⟨w.heap.size, 3, none⟩) (Nat.le_refl _) _)
/-- how read ends. -/
def EndR (w : World) (l : By) (e : Ending) (w' : World) : Prop := match oneL unK nvL l with
  | .ok p => ∃ vt vf, e = .returned (.agg #[.string (ba p.m), vt, vf, .int .i64 p.t]) ∧ OT w' w.heap.size vt (p.tags.map tgB) ∧ OF w' w.heap.size vf (p.fs.map fdB) ∧ (∀ b, vt.ownBlock = some b → vf.ownBlock ≠ some b) ∧ Below w.heap.size w w'
  | .error q => e = .panicked (pnL q) ∧ Below w.heap.size w w'
set_option maxHeartbeats 8000000 in
theorem read_any (s : ByteArray) (w : World) (hg : LT w) (hs : s.size ≤ 1048576) : Calls Tryz.prog 47 #[.string s] w fun e w' => EndR w s.data.toList e w' := by
  have cW : Hid (∀ N k W, RdL w N s k W → k ≤ s.size → Calls Tryz.prog 115 #[.pointer (some ⟨N, 0, none⟩)] W fun e w' => EndL w N s W (fun t : By => .string (ba t)) (pieceL unK s.data.toList k) e w') := fun N k W r hk => word_l w N s k W r hg hk hs
  have cN : Hid (∀ N k W, RdL w N s k W → k ≤ s.size → Calls Tryz.prog 120 #[.pointer (some ⟨N, 0, none⟩)] W fun e w' => EndL w N s W (fun v : Int => .int .i64 v) (numL nvL s.data.toList k) e w') := fun N k W r hk => number_l w N s k W r hg hk hs
  have cM : Hid (∀ N c k W, RdL w N s k W → k ≤ s.size → Calls Tryz.prog 118 #[.pointer (some ⟨N, 0, none⟩), .string ⟨#[c]⟩] W fun e w' => (match mustL c s.data.toList k with | .ok k' => e = .returned undef ∧ RdL w N s k' w' ∧ W.grownBy w' (some N) | .error p => e = .panicked (pnL p) ∧ Below w.heap.size w w')) := fun N c k W r hk => must_l w N s c k W r hk hs
  have cT : Hid (∀ N k W, RdL w N s k W → k ≤ s.size → Calls Tryz.prog 117 #[.pointer (some ⟨N, 0, none⟩)] W fun e w' => EndL w N s W tagV (tagL unK s.data.toList k) e w') := fun N k W r hk => tag_l w N s k W r hg hk hs
  have cF : Hid (∀ N k W, RdL w N s k W → k ≤ s.size → Calls Tryz.prog 119 #[.pointer (some ⟨N, 0, none⟩)] W fun e w' => EndL w N s W fldV (fieldL unK nvL s.data.toList k) e w') := fun N k W r hk => field_l w N s k W r hg hk hs
  have cC : Hid (∀ N c k W, RdL w N s k W → k ≤ s.size → Calls Tryz.prog 116 #[.pointer (some ⟨N, 0, none⟩), .string ⟨#[c]⟩] W fun e w' => e = .returned (.bool (decide ((s.data.toList.drop k).head? = some c))) ∧ RdL w N s (if (s.data.toList.drop k).head? = some c then k + 1 else k) w' ∧ W.grownBy w' (some N)) := fun N c k W r hk => follows_l w N s c k W r hk hs
  have cE : Hid (∀ N k W, RdL w N s k W → k ≤ s.size → Calls Tryz.prog 121 #[.pointer (some ⟨N, 0, none⟩)] W fun e w' => if k < s.size then e = .panicked (pnL (k : Int)) ∧ Below w.heap.size w w' else e = .returned undef ∧ RdL w N s k w' ∧ W.grownBy w' (some N)) := fun N k W r hk => end_l w N s k W r hk hs
  have cI : Hid (∀ W, Calls Tryz.prog 113 #[.string s, .string ⟨#[10]⟩] W fun e w' => e = .returned (.int .i64 (Lib.indexByte s.data.toList 10)) ∧ w' = W) := fun W => Tryz.strings_Index_one s 10 W
  have cH : Hid (∀ W, Calls Tryz.prog 45 #[.string s, .string ⟨#[35]⟩] W fun e w' => e = .returned (.bool (decide (s.data.toList.head? = some 35))) ∧ w' = W) := fun W => by
    have := Tryz.strings_HasPrefix s ⟨#[35]⟩ W
    have e := pre_one s.data.toList 0 35
    rw [List.drop_zero] at e
    rw [show (⟨#[35]⟩ : ByteArray).data.toList = [35] from rfl, e, show s.data.toList[0]? = s.data.toList.head? by cases s.data.toList <;> rfl] at this
    exact this
  have cG : Hid (∀ p W, Below w.heap.size w W → Calls Tryz.prog 114 #[.int .i64 p] W fun e w' => e = .panicked (pnL p) ∧ Below w.heap.size w w') := fun p W b => gv_l w W p b
  have hlen := lenB s
  obtain ⟨l, hl⟩ : ∃ l, s.data.toList = l := ⟨_, rfl⟩
  have hfi := feed_index l
  rw [hl] at cW cN cM cT cF cC cI cH hlen ⊢
  obtain ⟨PST, hPST⟩ : ∃ PST : Ending → World → Prop, (fun e w' => EndR w l e w') = PST := ⟨_, rfl⟩
  have PE : Hid (∀ p w1, oneL unK nvL l = .error p → Below w.heap.size w w1 → PST (.panicked (pnL p)) w1) := fun p w1 h b => by rw [← hPST]; show EndR w l _ _; unfold EndR; rw [h]; exact ⟨rfl, b⟩
  have PO : Hid (∀ p w1 vt vf, oneL unK nvL l = .ok p → OT w1 w.heap.size vt (p.tags.map tgB) → OF w1 w.heap.size vf (p.fs.map fdB) → (∀ b, vt.ownBlock = some b → vf.ownBlock ≠ some b) → Below w.heap.size w w1 → PST (.returned (.agg #[.string (ba p.m), vt, vf, .int .i64 p.t])) w1) := fun p w1 vt vf h a b c d => by rw [← hPST]; show EndR w l _ _; unfold EndR; rw [h]; exact ⟨vt, vf, rfl, a, b, c, d⟩
  rw [hPST]
  have B0 : Hid (Below w.heap.size w (w.alloc ptO)) := (Below.refl _ w).alloc (Nat.le_refl _) _
  have M0 : Hid ((w.alloc ptO).heap[w.heap.size]? = some ptO) := World.alloc_heap_new w _
  have hW0 : Hid (w.alloc (.cells #[.string ⟨#[]⟩, .slice none 0 0, .slice none 0 0, .int .i64 0] 32) = w.alloc ptO) := rfl
  clear hl hPST
  cases h10 : feedAt l with
  | some i =>
    have e0 : oneL unK nvL l = .error (i : Int) := by unfold oneL; rw [h10]
    have f0 : Hid (∀ w1, Below w.heap.size w w1 → PST (.panicked (pnL (i : Int))) w1) := fun w1 b => PE.out _ _ e0 b
    rw [h10] at hfi
    rw [hfi] at cI
    have i0 : (0 : Int) ≤ (i : Int) := by omega
    clear e0 h10 hfi
    go_enter Tryz.func47, Tryz.ntmps47
    go_wp2_with fail
    rw [hW0.out]
    refine Calls.mono (cI.out _) ?_
    rintro e w1 ⟨rfl, hw⟩
    subst hw
    go_wp2_with fail
    refine Calls.mono (cG.out _ _ B0.out) ?_
    rintro e w2 ⟨rfl, B⟩
    exact ⟨rfl, f0.out _ B⟩
  | none =>
    rw [h10] at hfi
    rw [hfi] at cI
    have h10H : Hid (feedAt l = none) := h10
    clear hfi h10
    by_cases h35 : l.head? = some 35
    · have e0 : oneL unK nvL l = .error 0 := by unfold oneL; rw [h10H.out]; dsimp only; rw [if_pos h35]
      have f0 : Hid (∀ w1, Below w.heap.size w w1 → PST (.panicked (pnL 0)) w1) := fun w1 b => PE.out _ _ e0 b
      rw [decide_eq_true h35] at cH
      clear e0 h35
      go_enter Tryz.func47, Tryz.ntmps47
      go_wp2_with fail
      rw [hW0.out]
      refine Calls.mono (cI.out _) ?_
      rintro e w1 ⟨rfl, hw⟩
      subst hw
      go_wp2_with fail
      refine Calls.mono (cH.out _) ?_
      rintro e w1 ⟨rfl, hw⟩
      subst hw
      go_wp2_with fail
      refine Calls.mono (cG.out _ _ B0.out) ?_
      rintro e w2 ⟨rfl, B⟩
      exact ⟨rfl, f0.out _ B⟩
    · rw [decide_eq_false h35] at cH
      have h35H : Hid (¬ l.head? = some 35) := h35
      clear h35
      have eO : Hid (oneL unK nvL l = rs0 l) := one_rs h10H.out h35H.out
      clear h10H h35H
      have R0 : Hid (RdL w (w.heap.size + 1) s 0 ((w.alloc ptO).alloc (.cells #[.string s, .int .i64 0] 166))) := ⟨by omega, by simp, B0.out.alloc B0.out.size _, by simp [go_sem], by simp [go_sem], by simp [go_sem]⟩
      have M1 : Hid (((w.alloc ptO).alloc (.cells #[.string s, .int .i64 0] 166)).heap[w.heap.size]? = some ptO) := by
        show _ = _
        rw [Below.heap_alloc _ _ _ (by simp)]; exact M0.out
      obtain ⟨W1, hW1⟩ : ∃ W1, (w.alloc ptO).alloc (.cells #[.string s, .int .i64 0] 166) = W1 := ⟨_, rfl⟩
      have hW1H : Hid ((w.alloc ptO).alloc (.cells #[.string s, .int .i64 0] 166) = W1) := hW1
      rw [hW1] at R0 M1
      clear hW1
      go_enter Tryz.func47, Tryz.ntmps47
      go_wp2_with fail
      rw [hW0.out]
      refine Calls.mono (cI.out _) ?_
      rintro e w1 ⟨rfl, hw⟩
      subst hw
      go_wp2_with fail
      refine Calls.mono (cH.out _) ?_
      rintro e w1 ⟨rfl, hw⟩
      subst hw
      go_wp2_with fail
      have hsz : (w.alloc ptO).heap.size = w.heap.size + 1 := by simp
      try rw [hsz]
      rw [hW1H.out]
      clear hsz
      refine Calls.mono (cW.out _ _ _ R0.out (Nat.zero_le _)) ?_
      rintro e w1 hE
      cases h1 : pieceL unK l 0 with
      | error p =>
        rw [h1] at hE
        obtain ⟨rfl, B⟩ := hE
        exact ⟨rfl, PE.out _ _ (by rw [eO.out]; unfold rs0; rw [h1]) B⟩
      | ok x1 =>
        obtain ⟨m, k1⟩ := x1
        rw [h1] at hE
        obtain ⟨rfl, R1, G1⟩ : e = .returned (.string (ba m)) ∧ RdL w (w.heap.size + 1) s k1 w1 ∧ W1.grownBy w1 (some (w.heap.size + 1)) := hE
        have k1l := (piece_le un_len (Nat.zero_le _) h1).2
        have eO1 : Hid (oneL unK nvL l = rs1 l m k1) := by show _ = _; rw [eO.out]; unfold rs0; rw [h1]
        have m1 : w1.heap[w.heap.size]? = some ptO := (G1.block w.heap.size (Array.getElem?_eq_some_iff.1 M1.out).1 (by simp)).trans M1.out
        have KS : Hid (KL w (w.heap.size + 1) w1.heap.size s (ba m) (.slice none 0 0) (.slice none 0 0) 0 [] [] k1 (w1.alloc (.cells #[.string (ba m), .slice none 0 0, .slice none 0 0, .int .i64 0] 32))) := KL.start w s w1 (ba m) k1 (w.heap.size + 1) (by omega) R1 m1
        have PO1 := PO.out
        obtain ⟨mb, hmb⟩ : ∃ mb, ba m = mb := ⟨_, rfl⟩
        rw [hmb] at KS
        rw [hmb]
        have hmbH : Hid (ba m = mb) := hmb
        clear eO h1 R1 G1 m1 PO1 hmb cI cH cW
        go_wp2_with fail
        generalize w1.alloc (.cells #[.string mb, .slice none 0 0, .slice none 0 0, .int .i64 0] 32) = w2 at *
        generalize w1.heap.size = R at *
        rw [hlen] at k1l
        have st0 : Hid (k1 ≤ s.size ∧ ([] : List (By × By)).length ≤ k1) := ⟨k1l, Nat.zero_le _⟩
        have tl0 : Hid (∃ f, l.length ≤ f + k1 ∧ tagsL unK l f k1 [] = tagsL unK l l.length k1 []) := ⟨l.length, by omega, rfl⟩
        clear k1l
        go_loopg [] (s.size - k1) (fun gk wr => ∃ k acc v, gk = s.size - k ∧ Hid (k ≤ s.size ∧ acc.length ≤ k) ∧ Hid (∃ f, l.length ≤ f + k ∧ tagsL unK l f k acc = tagsL unK l l.length k1 []) ∧ Hid (KL w (w.heap.size + 1) R s mb v (.slice none 0 0) 0 (acc.map tgB) [] k wr))
        case atStart => exact ⟨k1, [], _, rfl, st0, tl0, KS⟩
        case round =>
          obtain ⟨k, acc, v, hgk, hb, hR, hK⟩ := hrel
          clear KS st0 tl0
          have hgkH : Hid (gk = s.size - k) := hgk
          clear hgk
          have cFol := cC.out _ 44 k wr hK.out.rd hb.out.1
          by_cases hc : (l.drop k).head? = some 44
          · rw [decide_eq_true hc, if_pos hc] at cFol
            have cFolH : Hid (Calls Tryz.prog 116 #[.pointer (some ⟨w.heap.size + 1, 0, none⟩), .string ⟨#[44]⟩] wr fun e w' => e = .returned (.bool true) ∧ RdL w (w.heap.size + 1) s (k + 1) w' ∧ wr.grownBy w' (some (w.heap.size + 1))) := cFol
            have kl : k + 1 ≤ s.size := by have := follow_lt hc; omega
            have hk1 : Hid (k + 1 ≤ s.size) := kl
            have hst := tags_step hc hR.out
            have hstH : Hid (∃ f, l.length ≤ f + (k + 1) ∧ (match tagL unK l (k + 1) with | .error e => .error e | .ok (t, k1) => tagsL unK l f k1 (acc ++ [t])) = tagsL unK l l.length k1 []) := hst
            have hal : Hid ((acc.map tgB).length ≤ 1048576) := by show (acc.map tgB).length ≤ 1048576; rw [List.length_map]; have := hb.out.2; omega
            clear hc cFol hst kl
            go_wp2_with fail
            refine Calls.mono cFolH.out ?_
            rintro e wa ⟨rfl, Ra, Ga⟩
            have Ka : Hid (KL w (w.heap.size + 1) R s mb v (.slice none 0 0) 0 (acc.map tgB) [] (k + 1) wa) := hK.out.step Ra Ga
            clear Ra Ga cFolH
            obtain ⟨va0, vn0, vc0, ev0⟩ := OT.sliceL Ka.out.ot
            subst ev0
            go_wp2_with fail
            have cS : Hid (wa.drew.cell? ⟨R, 1, none⟩ = some (.slice va0 vn0 vc0)) := Ka.out.r1
            have cD := cT.out _ (k + 1) _ Ka.out.drewL.rd hk1.out
            refine wp_region_last (S := fun W0 => W0.cell? ⟨R, 1, none⟩ = some (.slice va0 vn0 vc0)) 6 (by kernel_rfl) (by kernel_rfl) (by kernel_rfl) 6 rfl cS.out (fun hHeld => ?_)
            refine zT 0 (v := ?_) rfl ?_ ?_
            rotate_left 1
            · (intro w0 hSw; (try dsimp only at hSw); have s1 := hSw; go_simp; try with_reducible rfl)
            (try simp only [z1, z2, z3]); (try simp only [Act.put, z4, z5, z6])
            refine zT 1 (v := ?_) rfl ?_ ?_
            rotate_left 1
            · (intro w0 hSw; (try dsimp only at hSw); have s1 := hSw; go_simp; try with_reducible rfl)
            (try simp only [z1, z2, z3]); (try simp only [Act.put, z4, z5, z6])
            refine wpAnyH_ready (rs := [2]) (by kernel_rfl) (by simp) ?_
            refine AllReadyH.cons (o := _) rfl (fun K1 hK1 => ?_) AllReadyH.nil
            go_simp
            go_at_call 117
            refine Calls.mono cD ?_
            rintro e wd hE
            cases hx : tagL unK l ((k + 1)) with
            | error p =>
              rw [hx] at hE
              obtain ⟨rfl, B⟩ := hE
              obtain ⟨f, hf, hft⟩ := hstH.out
              rw [hx] at hft
              have e0 : oneL unK nvL l = .error p := by rw [eO1.out]; unfold rs1; rw [← hft]
              exact ⟨rfl, PE.out _ _ e0 B⟩
            | ok x =>
              obtain ⟨x, kx⟩ := x
              rw [hx] at hE
              obtain ⟨rfl, Rd, Gd⟩ : e = .returned (tagV x) ∧ RdL w (w.heap.size + 1) s kx wd ∧ wa.drew.grownBy wd (some (w.heap.size + 1)) := hE
              have kxl := (tag_le un_len (by rw [hlen]; exact hk1.out) hx)
              rw [hlen] at kxl
              have Kd := Ka.out.drewL.step Rd Gd
              obtain ⟨v1, we, hr6, e1, e2, Ke, va, vn, vc, ev⟩ := Kd.appT (tgB x) hal.out
              have d1 : wd.cell? ⟨R, 1, none⟩ = some (.slice va0 vn0 vc0) := Kd.r1
              have d2 : (wd.alloc (.cells #[.string (tgB x).1, .string (tgB x).2] 102)).cell? ⟨R, 1, none⟩ = some (.slice va0 vn0 vc0) := by rw [((Below.refl _ wd).alloc (Nat.le_refl _) _).cell (p := ⟨R, 1, none⟩) Kd.lt]; exact d1
              subst ev
              have KeH : Hid (KL w (w.heap.size + 1) R s mb (.slice va vn vc) (.slice none 0 0) 0 (acc.map tgB ++ [tgB x]) [] kx (we.setCell ⟨R, 1, none⟩ (.slice va vn vc))) := Ke
              have evx : tagV x = .agg #[.string (tgB x).1, .string (tgB x).2] := rfl
              rw [evx]
              clear evx Ke Kd Rd Gd cD cS
              generalize (tgB x).1 = X1 at *
              generalize (tgB x).2 = X2 at *
              try dsimp only
              refine hK1.out _ _ d1 (fun hHeld => ?_)
              clear hK1 K1
              (try simp only [z1, z2, z3]); (try simp only [Act.put, z4, z5, z6])
              refine wpAnyH_ready (rs := [3]) (by kernel_rfl) (by simp) ?_
              refine AllReadyH.cons (o := _) rfl (fun K1 hK1 => ?_) AllReadyH.nil
              go_simp
              try dsimp only
              refine hK1.out _ _ d2 (fun hHeld => ?_)
              clear hK1 K1
              (try simp only [z1, z2, z3]); (try simp only [Act.put, z4, z5, z6])
              refine wpAnyH_ready (rs := [4]) (by kernel_rfl) (by simp) ?_
              refine AllReadyH.cons (o := _) rfl (fun K1 hK1 => ?_) AllReadyH.nil
              refine step_append_runL rfl (.tmp 21) (.tmp 23) 29 rfl _ _ _ _ rfl rfl (hr6 _ rfl) ?_
              refine hK1.out _ _ e1 (fun hHeld => ?_)
              clear hK1 K1
              (try simp only [z1, z2, z3]); (try simp only [Act.put, z4, z5, z6])
              refine zT 5 (v := ?_) rfl ?_ ?_
              rotate_left 1
              · (intro w0 hSw; (try dsimp only at hSw); have s1 := hSw; go_simp; try with_reducible rfl)
              (try simp only [z1, z2, z3]); (try simp only [Act.put, z4, z5, z6])
              refine wpAnyH_done (by kernel_rfl) ?_ _
              refine lastQ_run (o := _) rfl (fun K1 hK1 => ?_)
              go_simp
              try dsimp only
              refine hK1.out _ _ ?_
              clear hK1 K1
              (try simp only [z1, z2, z3]); (try simp only [Act.put, z4, z5, z6])
              have hrel2 : Hid (KL w (w.heap.size + 1) R s mb (.slice va vn vc) (.slice none 0 0) 0 ((acc ++ [x]).map tgB) [] kx (we.setCell ⟨R, 1, none⟩ (.slice va vn vc))) := by show KL _ _ _ _ _ _ _ _ _ _ _ _; rw [List.map_append]; exact KeH.out
              have hnext : Hid (∃ f, l.length ≤ f + kx ∧ tagsL unK l f kx (acc ++ [x]) = tagsL unK l l.length k1 []) := by
                obtain ⟨f, hf, hft⟩ := hstH.out
                rw [hx] at hft
                exact ⟨f, by omega, hft⟩
              have hb2 : Hid (kx ≤ s.size ∧ (acc ++ [x]).length ≤ kx) := ⟨kxl.2, by have := hb.out.2; rw [List.length_append, List.length_singleton]; omega⟩
              have hm2 : Hid (s.size - kx < s.size - k) := by have := hk1.out; show s.size - kx < s.size - k; omega
              clear KeH hx
              go_wp2_with fail
              go_roundg (s.size - kx)
              case measure => rw [hgkH.out]; exact hm2.out
              case rel => exact ⟨kx, _, _, rfl, hb2, hnext, hrel2⟩
          · rw [decide_eq_false hc, if_neg hc] at cFol
            have cFolH : Hid (Calls Tryz.prog 116 #[.pointer (some ⟨w.heap.size + 1, 0, none⟩), .string ⟨#[44]⟩] wr fun e w' => e = .returned (.bool false) ∧ RdL w (w.heap.size + 1) s k w' ∧ wr.grownBy w' (some (w.heap.size + 1))) := cFol
            have eO2 : Hid (oneL unK nvL l = rs2 l m acc k) := by
              obtain ⟨f, hf, hft⟩ := hR.out
              rw [tags_stop hc] at hft
              show _ = _
              rw [eO1.out]; unfold rs1; rw [← hft]
            clear hc cFol eO1 hR hgkH
            go_wp2_with fail
            refine Calls.mono cFolH.out ?_
            rintro e wa ⟨rfl, Ra, Ga⟩
            have Ka : Hid (KL w (w.heap.size + 1) R s mb v (.slice none 0 0) 0 (acc.map tgB) [] k wa) := hK.out.step Ra Ga
            clear Ra Ga cFolH hK
            go_wp2_with fail
            refine Calls.mono (cM.out _ 32 k wa Ka.out.rd hb.out.1) ?_
            rintro e wb hE
            cases h3 : mustL 32 l k with
            | error p =>
              rw [h3] at hE
              obtain ⟨rfl, B⟩ := hE
              exact ⟨rfl, PE.out _ _ (by rw [eO2.out]; unfold rs2; rw [h3]) B⟩
            | ok k3 =>
              rw [h3] at hE
              obtain ⟨rfl, Rb, Gb⟩ : e = .returned undef ∧ RdL w (w.heap.size + 1) s k3 wb ∧ wa.grownBy wb (some (w.heap.size + 1)) := hE
              have k3l : Hid (k3 ≤ s.size) := by have := must_le h3; show k3 ≤ s.size; omega
              have eO3 : Hid (oneL unK nvL l = rs3 l m acc k3) := by show _ = _; rw [eO2.out]; unfold rs2; rw [h3]
              have Kb : Hid (KL w (w.heap.size + 1) R s mb v (.slice none 0 0) 0 (acc.map tgB) [] k3 wb) := Ka.out.step Rb Gb
              clear h3 Rb Gb Ka eO2
              go_wp2_with fail
              have cS : Hid (wb.drew.cell? ⟨R, 2, none⟩ = some (.slice none 0 0)) := Kb.out.r2
              have cD := cF.out _ k3 _ Kb.out.drewL.rd k3l.out
              refine wp_region_last (S := fun W0 => W0.cell? ⟨R, 2, none⟩ = some (.slice none 0 0)) 6 (by kernel_rfl) (by kernel_rfl) (by kernel_rfl) 6 rfl cS.out (fun hHeld => ?_)
              refine zT 0 (v := ?_) rfl ?_ ?_
              rotate_left 1
              · (intro w0 hSw; (try dsimp only at hSw); have s1 := hSw; go_simp; try with_reducible rfl)
              (try simp only [z1, z2, z3]); (try simp only [Act.put, z4, z5, z6])
              refine zT 1 (v := ?_) rfl ?_ ?_
              rotate_left 1
              · (intro w0 hSw; (try dsimp only at hSw); have s1 := hSw; go_simp; try with_reducible rfl)
              (try simp only [z1, z2, z3]); (try simp only [Act.put, z4, z5, z6])
              refine wpAnyH_ready (rs := [2]) (by kernel_rfl) (by simp) ?_
              refine AllReadyH.cons (o := _) rfl (fun K1 hK1 => ?_) AllReadyH.nil
              go_simp
              go_at_call 119
              refine Calls.mono cD ?_
              rintro e wd hE
              cases hx : fieldL unK nvL l (k3) with
              | error p =>
                rw [hx] at hE
                obtain ⟨rfl, B⟩ := hE
                exact ⟨rfl, PE.out _ _ (by rw [eO3.out]; unfold rs3; rw [hx]) B⟩
              | ok x =>
                obtain ⟨x, kx⟩ := x
                rw [hx] at hE
                obtain ⟨rfl, Rd, Gd⟩ : e = .returned (fldV x) ∧ RdL w (w.heap.size + 1) s kx wd ∧ wb.drew.grownBy wd (some (w.heap.size + 1)) := hE
                have kxl := (field_le un_len (by rw [hlen]; exact k3l.out) hx)
                rw [hlen] at kxl
                have Kd := Kb.out.drewL.step Rd Gd
                obtain ⟨v1, we, hr6, e1, e2, Ke, va, vn, vc, ev⟩ := Kd.appF (fdB x) (Nat.zero_le _)
                have d1 : wd.cell? ⟨R, 2, none⟩ = some (.slice none 0 0) := Kd.r2
                have d2 : (wd.alloc (.cells #[.string (fdB x).1, .int .i64 (fdB x).2] 86)).cell? ⟨R, 2, none⟩ = some (.slice none 0 0) := by rw [((Below.refl _ wd).alloc (Nat.le_refl _) _).cell (p := ⟨R, 2, none⟩) Kd.lt]; exact d1
                subst ev
                have KeH : Hid (KL w (w.heap.size + 1) R s mb v (.slice va vn vc) 0 (acc.map tgB) ([] ++ [fdB x]) kx (we.setCell ⟨R, 2, none⟩ (.slice va vn vc))) := Ke
                have evx : fldV x = .agg #[.string (fdB x).1, .int .i64 (fdB x).2] := rfl
                rw [evx]
                clear evx Ke Kd Rd Gd cD cS
                generalize (fdB x).1 = X1 at *
                generalize (fdB x).2 = X2 at *
                try dsimp only
                refine hK1.out _ _ d1 (fun hHeld => ?_)
                clear hK1 K1
                (try simp only [z1, z2, z3]); (try simp only [Act.put, z4, z5, z6])
                refine wpAnyH_ready (rs := [3]) (by kernel_rfl) (by simp) ?_
                refine AllReadyH.cons (o := _) rfl (fun K1 hK1 => ?_) AllReadyH.nil
                go_simp
                try dsimp only
                refine hK1.out _ _ d2 (fun hHeld => ?_)
                clear hK1 K1
                (try simp only [z1, z2, z3]); (try simp only [Act.put, z4, z5, z6])
                refine wpAnyH_ready (rs := [4]) (by kernel_rfl) (by simp) ?_
                refine AllReadyH.cons (o := _) rfl (fun K1 hK1 => ?_) AllReadyH.nil
                refine step_append_runL rfl (.tmp 28) (.tmp 30) 30 rfl _ _ _ _ rfl rfl (hr6 _ rfl) ?_
                refine hK1.out _ _ e1 (fun hHeld => ?_)
                clear hK1 K1
                (try simp only [z1, z2, z3]); (try simp only [Act.put, z4, z5, z6])
                refine zT 5 (v := ?_) rfl ?_ ?_
                rotate_left 1
                · (intro w0 hSw; (try dsimp only at hSw); have s1 := hSw; go_simp; try with_reducible rfl)
                (try simp only [z1, z2, z3]); (try simp only [Act.put, z4, z5, z6])
                refine wpAnyH_done (by kernel_rfl) ?_ _
                refine lastQ_run (o := _) rfl (fun K1 hK1 => ?_)
                go_simp
                try dsimp only
                refine hK1.out _ _ ?_
                clear hK1 K1
                (try simp only [z1, z2, z3]); (try simp only [Act.put, z4, z5, z6])
                have kxH : Hid (kx ≤ s.size ∧ 1 ≤ kx) := by
                  have := field_pos hx
                  exact ⟨kxl.2, by omega⟩
                have eO4 : Hid (oneL unK nvL l = rs4 l m acc x kx) := by show _ = _; rw [eO3.out]; unfold rs3; rw [hx]
                have Kc : Hid (KL w (w.heap.size + 1) R s mb v (.slice va vn vc) 0 (acc.map tgB) ([x].map fdB) kx (we.setCell ⟨R, 2, none⟩ (.slice va vn vc))) := KeH.out
                clear KeH hx eO3 kxl hb k3l Kb
                go_wp2_with fail
                generalize we.setCell ⟨R, 2, none⟩ (.slice va vn vc) = w5 at *
                have st0 : Hid (kx ≤ s.size ∧ ([x] : List (By × Int)).length ≤ kx) := ⟨kxH.out.1, by have := kxH.out.2; simpa using this⟩
                have tl0 : Hid (∃ f, l.length ≤ f + kx ∧ fieldsL unK nvL l f kx [x] = fieldsL unK nvL l l.length kx [x]) := ⟨l.length, by omega, rfl⟩
                clear hr6 e1 e2 d1 d2 hHeld
                go_loopg [] (s.size - kx) (fun gk wr => ∃ k fac vf, gk = s.size - k ∧ Hid (k ≤ s.size ∧ fac.length ≤ k) ∧ Hid (∃ f, l.length ≤ f + k ∧ fieldsL unK nvL l f k fac = fieldsL unK nvL l l.length kx [x]) ∧ Hid (KL w (w.heap.size + 1) R s mb v vf 0 (acc.map tgB) (fac.map fdB) k wr))
                case atStart => exact ⟨kx, [x], _, rfl, st0, tl0, Kc⟩
                case round =>
                  obtain ⟨k, fac, vf, hgk, hb, hR, hK⟩ := hrel
                  clear Kc st0 tl0
                  have hgkH : Hid (gk = s.size - k) := hgk
                  clear hgk
                  have cFol := cC.out _ 44 k wr hK.out.rd hb.out.1
                  by_cases hc : (l.drop k).head? = some 44
                  · rw [decide_eq_true hc, if_pos hc] at cFol
                    have cFolH : Hid (Calls Tryz.prog 116 #[.pointer (some ⟨w.heap.size + 1, 0, none⟩), .string ⟨#[44]⟩] wr fun e w' => e = .returned (.bool true) ∧ RdL w (w.heap.size + 1) s (k + 1) w' ∧ wr.grownBy w' (some (w.heap.size + 1))) := cFol
                    have kl : k + 1 ≤ s.size := by have := follow_lt hc; omega
                    have hk1 : Hid (k + 1 ≤ s.size) := kl
                    have hst := fields_step hc hR.out
                    have hstH : Hid (∃ f, l.length ≤ f + (k + 1) ∧ (match fieldL unK nvL l (k + 1) with | .error e => .error e | .ok (t, k1) => fieldsL unK nvL l f k1 (fac ++ [t])) = fieldsL unK nvL l l.length kx [x]) := hst
                    have hal : Hid ((fac.map fdB).length ≤ 1048576) := by show (fac.map fdB).length ≤ 1048576; rw [List.length_map]; have := hb.out.2; omega
                    clear hc cFol hst kl
                    go_wp2_with fail
                    refine Calls.mono cFolH.out ?_
                    rintro e wa ⟨rfl, Ra, Ga⟩
                    have Ka : Hid (KL w (w.heap.size + 1) R s mb v vf 0 (acc.map tgB) (fac.map fdB) (k + 1) wa) := hK.out.step Ra Ga
                    clear Ra Ga cFolH
                    obtain ⟨va0, vn0, vc0, ev0⟩ := OF.sliceL Ka.out.of
                    subst ev0
                    go_wp2_with fail
                    have cS : Hid (wa.drew.cell? ⟨R, 2, none⟩ = some (.slice va0 vn0 vc0)) := Ka.out.r2
                    have cD := cF.out _ (k + 1) _ Ka.out.drewL.rd hk1.out
                    refine wp_region_last (S := fun W0 => W0.cell? ⟨R, 2, none⟩ = some (.slice va0 vn0 vc0)) 6 (by kernel_rfl) (by kernel_rfl) (by kernel_rfl) 6 rfl cS.out (fun hHeld => ?_)
                    refine zT 0 (v := ?_) rfl ?_ ?_
                    rotate_left 1
                    · (intro w0 hSw; (try dsimp only at hSw); have s1 := hSw; go_simp; try with_reducible rfl)
                    (try simp only [z1, z2, z3]); (try simp only [Act.put, z4, z5, z6])
                    refine zT 1 (v := ?_) rfl ?_ ?_
                    rotate_left 1
                    · (intro w0 hSw; (try dsimp only at hSw); have s1 := hSw; go_simp; try with_reducible rfl)
                    (try simp only [z1, z2, z3]); (try simp only [Act.put, z4, z5, z6])
                    refine wpAnyH_ready (rs := [2]) (by kernel_rfl) (by simp) ?_
                    refine AllReadyH.cons (o := _) rfl (fun K1 hK1 => ?_) AllReadyH.nil
                    go_simp
                    go_at_call 119
                    refine Calls.mono cD ?_
                    rintro e wd hE
                    cases hx : fieldL unK nvL l ((k + 1)) with
                    | error p =>
                      rw [hx] at hE
                      obtain ⟨rfl, B⟩ := hE
                      obtain ⟨f, hf, hft⟩ := hstH.out
                      rw [hx] at hft
                      have e0 : oneL unK nvL l = .error p := by rw [eO4.out]; unfold rs4; rw [← hft]
                      exact ⟨rfl, PE.out _ _ e0 B⟩
                    | ok x2 =>
                      obtain ⟨x2, kx2⟩ := x2
                      rw [hx] at hE
                      obtain ⟨rfl, Rd, Gd⟩ : e = .returned (fldV x2) ∧ RdL w (w.heap.size + 1) s kx2 wd ∧ wa.drew.grownBy wd (some (w.heap.size + 1)) := hE
                      have kxl := (field_le un_len (by rw [hlen]; exact hk1.out) hx)
                      rw [hlen] at kxl
                      have Kd := Ka.out.drewL.step Rd Gd
                      obtain ⟨v1, we, hr6, e1, e2, Ke, va, vn, vc, ev⟩ := Kd.appF (fdB x2) hal.out
                      have d1 : wd.cell? ⟨R, 2, none⟩ = some (.slice va0 vn0 vc0) := Kd.r2
                      have d2 : (wd.alloc (.cells #[.string (fdB x2).1, .int .i64 (fdB x2).2] 86)).cell? ⟨R, 2, none⟩ = some (.slice va0 vn0 vc0) := by rw [((Below.refl _ wd).alloc (Nat.le_refl _) _).cell (p := ⟨R, 2, none⟩) Kd.lt]; exact d1
                      subst ev
                      have KeH : Hid (KL w (w.heap.size + 1) R s mb v (.slice va vn vc) 0 (acc.map tgB) (fac.map fdB ++ [fdB x2]) kx2 (we.setCell ⟨R, 2, none⟩ (.slice va vn vc))) := Ke
                      have evx : fldV x2 = .agg #[.string (fdB x2).1, .int .i64 (fdB x2).2] := rfl
                      rw [evx]
                      clear evx Ke Kd Rd Gd cD cS
                      generalize (fdB x2).1 = X1 at *
                      generalize (fdB x2).2 = X2 at *
                      try dsimp only
                      refine hK1.out _ _ d1 (fun hHeld => ?_)
                      clear hK1 K1
                      (try simp only [z1, z2, z3]); (try simp only [Act.put, z4, z5, z6])
                      refine wpAnyH_ready (rs := [3]) (by kernel_rfl) (by simp) ?_
                      refine AllReadyH.cons (o := _) rfl (fun K1 hK1 => ?_) AllReadyH.nil
                      go_simp
                      try dsimp only
                      refine hK1.out _ _ d2 (fun hHeld => ?_)
                      clear hK1 K1
                      (try simp only [z1, z2, z3]); (try simp only [Act.put, z4, z5, z6])
                      refine wpAnyH_ready (rs := [4]) (by kernel_rfl) (by simp) ?_
                      refine AllReadyH.cons (o := _) rfl (fun K1 hK1 => ?_) AllReadyH.nil
                      refine step_append_runL rfl (.tmp 35) (.tmp 37) 30 rfl _ _ _ _ rfl rfl (hr6 _ rfl) ?_
                      refine hK1.out _ _ e1 (fun hHeld => ?_)
                      clear hK1 K1
                      (try simp only [z1, z2, z3]); (try simp only [Act.put, z4, z5, z6])
                      refine zT 5 (v := ?_) rfl ?_ ?_
                      rotate_left 1
                      · (intro w0 hSw; (try dsimp only at hSw); have s1 := hSw; go_simp; try with_reducible rfl)
                      (try simp only [z1, z2, z3]); (try simp only [Act.put, z4, z5, z6])
                      refine wpAnyH_done (by kernel_rfl) ?_ _
                      refine lastQ_run (o := _) rfl (fun K1 hK1 => ?_)
                      go_simp
                      try dsimp only
                      refine hK1.out _ _ ?_
                      clear hK1 K1
                      (try simp only [z1, z2, z3]); (try simp only [Act.put, z4, z5, z6])
                      have hrel2 : Hid (KL w (w.heap.size + 1) R s mb v (.slice va vn vc) 0 (acc.map tgB) ((fac ++ [x2]).map fdB) kx2 (we.setCell ⟨R, 2, none⟩ (.slice va vn vc))) := by show KL _ _ _ _ _ _ _ _ _ _ _ _; rw [List.map_append]; exact KeH.out
                      have hnext : Hid (∃ f, l.length ≤ f + kx2 ∧ fieldsL unK nvL l f kx2 (fac ++ [x2]) = fieldsL unK nvL l l.length kx [x]) := by
                        obtain ⟨f, hf, hft⟩ := hstH.out
                        rw [hx] at hft
                        exact ⟨f, by omega, hft⟩
                      have hb2 : Hid (kx2 ≤ s.size ∧ (fac ++ [x2]).length ≤ kx2) := ⟨kxl.2, by have := hb.out.2; rw [List.length_append, List.length_singleton]; omega⟩
                      have hm2 : Hid (s.size - kx2 < s.size - k) := by have := hk1.out; show s.size - kx2 < s.size - k; omega
                      clear KeH hx
                      go_wp2_with fail
                      go_roundg (s.size - kx2)
                      case measure => rw [hgkH.out]; exact hm2.out
                      case rel => exact ⟨kx2, _, _, rfl, hb2, hnext, hrel2⟩
                  · rw [decide_eq_false hc, if_neg hc] at cFol
                    have cFolH : Hid (Calls Tryz.prog 116 #[.pointer (some ⟨w.heap.size + 1, 0, none⟩), .string ⟨#[44]⟩] wr fun e w' => e = .returned (.bool false) ∧ RdL w (w.heap.size + 1) s k w' ∧ wr.grownBy w' (some (w.heap.size + 1))) := cFol
                    have eO5 : Hid (oneL unK nvL l = rs5 l m acc fac k) := by
                      obtain ⟨f, hf, hft⟩ := hR.out
                      rw [fields_stop hc] at hft
                      show _ = _
                      rw [eO4.out]; unfold rs4; rw [← hft]
                    clear hc cFol eO4 hR hgkH
                    go_wp2_with fail
                    refine Calls.mono cFolH.out ?_
                    rintro e wa ⟨rfl, Ra, Ga⟩
                    have Ka : Hid (KL w (w.heap.size + 1) R s mb v vf 0 (acc.map tgB) (fac.map fdB) k wa) := hK.out.step Ra Ga
                    clear Ra Ga cFolH hK
                    go_wp2_with fail
                    refine Calls.mono (cM.out _ 32 k wa Ka.out.rd hb.out.1) ?_
                    rintro e wb hE
                    cases h3 : mustL 32 l k with
                    | error p =>
                      rw [h3] at hE
                      obtain ⟨rfl, B⟩ := hE
                      exact ⟨rfl, PE.out _ _ (by rw [eO5.out]; unfold rs5; rw [h3]) B⟩
                    | ok k6 =>
                      rw [h3] at hE
                      obtain ⟨rfl, Rb, Gb⟩ : e = .returned undef ∧ RdL w (w.heap.size + 1) s k6 wb ∧ wa.grownBy wb (some (w.heap.size + 1)) := hE
                      have k6l : Hid (k6 ≤ s.size) := by have := must_le h3; show k6 ≤ s.size; omega
                      have eO6 : Hid (oneL unK nvL l = rs6 l m acc fac k6) := by show _ = _; rw [eO5.out]; unfold rs5; rw [h3]
                      have Kb : Hid (KL w (w.heap.size + 1) R s mb v vf 0 (acc.map tgB) (fac.map fdB) k6 wb) := Ka.out.step Rb Gb
                      clear h3 Rb Gb Ka eO5
                      go_wp2_with fail
                      refine Calls.mono (cN.out _ k6 wb Kb.out.rd k6l.out) ?_
                      rintro e wc hE
                      cases h7 : numL nvL l k6 with
                      | error p =>
                        rw [h7] at hE
                        obtain ⟨rfl, B⟩ := hE
                        exact ⟨rfl, PE.out _ _ (by rw [eO6.out]; unfold rs6; rw [h7]) B⟩
                      | ok x7 =>
                        obtain ⟨tm, k7⟩ := x7
                        rw [h7] at hE
                        obtain ⟨rfl, Rc, Gc⟩ : e = .returned (.int .i64 tm) ∧ RdL w (w.heap.size + 1) s k7 wc ∧ wb.grownBy wc (some (w.heap.size + 1)) := hE
                        have k7l : Hid (k7 ≤ s.size) := by have := (num_le (by rw [hlen]; exact k6l.out) h7).2; show k7 ≤ s.size; omega
                        have eO7 : Hid (oneL unK nvL l = if k7 < l.length then .error (k7 : Int) else .ok ⟨m, acc, fac, tm⟩) := by show _ = _; rw [eO6.out]; unfold rs6; rw [h7]
                        have Kc := Kb.out.step Rc Gc
                        have y1 := Kc.r3
                        have y2 := Kc.z3
                        have Kt : Hid (KL w (w.heap.size + 1) R s mb v vf tm (acc.map tgB) (fac.map fdB) k7 (wc.setCell ⟨R, 3, none⟩ (.int .i64 tm))) := Kc.time tm
                        clear h7 Rc Gc Kb Kc eO6
                        go_wp2_with fail
                        generalize wc.setCell ⟨R, 3, none⟩ (.int .i64 tm) = w8 at *
                        clear y1 y2
                        refine Calls.mono (cE.out _ k7 w8 Kt.out.rd k7l.out) ?_
                        rintro e w9 hE
                        by_cases h8 : k7 < s.size
                        · rw [if_pos h8] at hE
                          obtain ⟨rfl, B⟩ := hE
                          exact ⟨rfl, PE.out _ _ (by rw [eO7.out, if_pos (by rw [hlen]; exact h8)]) B⟩
                        · rw [if_neg h8] at hE
                          obtain ⟨rfl, R9, G9⟩ := hE
                          have e9 : oneL unK nvL l = .ok ⟨m, acc, fac, tm⟩ := by rw [eO7.out, if_neg (by rw [hlen]; exact h8)]
                          have K9 := Kt.out.step R9 G9
                          have hRl := K9.hR
                          have F9 := read_fin K9 e9 PO.out (.string mb)
                          rw [hmbH.out] at F9
                          have F9H : Hid (PST (.returned (.agg #[.string mb, v, vf, .int .i64 tm])) ((((w9.setCell ⟨w.heap.size, 0, none⟩ (.string mb)).setCell ⟨w.heap.size, 1, none⟩ v).setCell ⟨w.heap.size, 2, none⟩ vf).setCell ⟨w.heap.size, 3, none⟩ (.int .i64 tm))) := F9
                          have x0 := K9.r0
                          have x1 := K9.r1
                          have x2 := K9.r2
                          have x3 := K9.r3
                          obtain ⟨a1, n1, c1, ev1⟩ := OT.sliceL K9.ot
                          obtain ⟨a2, n2, c2, ev2⟩ := OF.sliceL K9.of
                          subst ev1
                          subst ev2
                          obtain ⟨⟨q0, q1, q2, q3⟩, z0, z1, z2, z3⟩ := pt_cells K9.ms
                          have hRM : ¬ R = w.heap.size := by omega
                          have hMR : ¬ w.heap.size = R := by omega
                          clear e9 eO7 h8 K9 F9 R9 G9 Kt hRl
                          go_wp2_with fail
                          simp [bodyPost, results, Tryz.results47, go_sem, q0, q1, q2, q3, z0, z1, z2, z3]
                          exact F9H.out
end Go.Proofs.YtbojljmacheccaaGreatDoor.Ln
