
import Derived.Test.YtbojljmacheccaaGreatDoorZz
import Derived.Test.YtbojljmacheccaaGreatDoorLwWq
import Derived.Test.YtbojljmacheccaaGreatDoorLwYq
import Derived.Test.YtbojljmacheccaaGreatDoorLaG
import Derived.Deep.LoopGhost
import Derived.Deep.Cut
import Derived.Deep.CutRange
import Derived.Deep.CutBlock
namespace Go.Proofs.YtbojljmacheccaaGreatDoor.Ln
open Go.RowKit Go.Shelf
attribute [local go_sem] Oper.semAt_some
set_option linter.unusedVariables false
set_option linter.unusedSimpArgs false
set_option maxRecDepth 100000
theorem wpList_append_runL {P : Program} {ops : Array Oper} {rest : List Oper} {o : Oper} {a : Act} {Q : Exit → Act → World → Prop} {w : World} (hgd : o.guard = none) (s x : Operand) (t : TypeId)
    (ho : o.op = .call { callee := .builtin .append, args := #[s, x], argTypes := #[t, t] }) (v y v' : Value) (w' : World) (hs : a.eval s = v) (hx : a.eval x = y) (hr : (Builtin.append_ #[t, t] o.type #[v, y]).run P w = .ok v' w')
    (h : wpList P ops Q rest (a.put o.dst v') w') : wpList P ops Q (o :: rest) a w := by
  refine wpList_plain hgd fun K hK => ?_
  unfold Oper.wp execOp
  simp only [ho, resolve, invoke, builtin, Sem.run_bind, Sem.run_pure, Result.andThen_ok, List.map_toArray, List.map_cons, List.map_nil, hs, hx, hr]
  exact hK _ _ h
/-! ### the document's One. -/
theorem feed_next : ∀ (l : By) (i : Nat) (c : UInt8), feedAt (l.take i) = none → l[i]? = some c → c ≠ 10 → feedAt (l.take (i + 1)) = none := fun l i c h hc h10 => by
  rw [List.take_add_one, hc, feed_app]
  exact ⟨h, by rw [show (some c).toList = [c] from rfl, feed_cons]; exact ⟨h10, rfl⟩⟩
theorem feed_hit : ∀ (l : By) (i : Nat), feedAt (l.take i) = none → l[i]? = some 10 → feedAt l = some i
  | [], i, _, h => by simp at h
  | c :: r, 0, _, h => by
    simp at h; subst h
    show (if (10 : UInt8) = 10 then some 0 else _) = _
    rw [if_pos rfl]
  | c :: r, i + 1, h, hc => by
    rw [List.take_succ_cons, feed_cons] at h
    have ih := feed_hit r i h.2 (by simpa using hc)
    show (if c = 10 then some 0 else (feedAt r).map (· + 1)) = _
    rw [if_neg h.1, ih]; rfl
theorem feed_end (l : By) (i : Nat) (h : feedAt (l.take i) = none) (hl : l.length ≤ i) : feedAt l = none := by rw [List.take_of_length_le hl] at h; exact h
def badL : Option Int → Value
  | none => .agg #[.int .i64 6, .int .i64 0, .int .i64 0, .bool false, .bool false]
  | some p => .agg #[.int .i64 60, .int .i64 p, .int .i64 0, .bool true, .bool false]
def bd0 : Value := .agg #[.int .i64 0, .int .i64 0, .int .i64 0, .bool false, .bool false]
/-- how the document's One ends. -/
def EndD (w : World) (l : By) (e : Ending) (w' : World) : Prop := match one8 unK nvL l with
  | .ok p => ∃ vt vf, e = .returned (.tuple #[.agg #[.string (ba p.m), vt, vf, .int .i64 p.t], bd0]) ∧ OT w' w.heap.size vt (p.tags.map tgB) ∧ OF w' w.heap.size vf (p.fs.map fdB) ∧ (∀ b, vt.ownBlock = some b → vf.ownBlock ≠ some b) ∧ Below w.heap.size w w'
  | .error q => e = .returned (.tuple #[zeroP, badL q]) ∧ Below w.heap.size w w'
theorem rnew_l (w : World) : Calls Tryz.prog 34 #[.int .i64 6] w fun e w' => e = .returned (.agg #[.int .i64 6, .int .i64 0, .int .i64 0, .bool false, .bool false]) ∧ Below w.heap.size w w' := by
  go_enter Tryz.func34, Tryz.ntmps34
  go_wp2
  simp [bodyPost, results, Tryz.results34, go_sem]
  try exact (Below.refl _ w).alloc (Nat.le_refl _) _
theorem bd_cells {W : World} {M : Nat} (h : W.heap[M]? = some bdO) : (W.cell? ⟨M, 0, none⟩ = some (.int .i64 0) ∧ W.cell? ⟨M, 1, none⟩ = some (.int .i64 0) ∧ W.cell? ⟨M, 2, none⟩ = some (.int .i64 0) ∧ W.cell? ⟨M, 3, none⟩ = some (.bool false) ∧ W.cell? ⟨M, 4, none⟩ = some (.bool false)) ∧ W.frozen? ⟨M, 0, none⟩ = false ∧ W.frozen? ⟨M, 1, none⟩ = false ∧ W.frozen? ⟨M, 2, none⟩ = false ∧ W.frozen? ⟨M, 3, none⟩ = false ∧ W.frozen? ⟨M, 4, none⟩ = false := by
  refine ⟨⟨?_, ?_, ?_, ?_, ?_⟩, ?_, ?_, ?_, ?_, ?_⟩ <;> simp [World.cell?, World.frozen?, h, bdO]
theorem rone_fin {w : World} {N R : Nat} {s mb : ByteArray} {v vf : Value} {tm : Int} {acc : List (By × By)} {fac : List (By × Int)} {m l : By} {k : DSt} {W : World} {PST : Ending → World → Prop} (h : KE w N R s mb v vf tm (acc.map tgB) (fac.map fdB) k W) (e : one8 unK nvL l = .ok ⟨m, acc, fac, tm⟩) (PO : ∀ p w1 vt vf, one8 unK nvL l = .ok p → OT w1 w.heap.size vt (p.tags.map tgB) → OF w1 w.heap.size vf (p.fs.map fdB) → (∀ b, vt.ownBlock = some b → vf.ownBlock ≠ some b) → Below w.heap.size w w1 → PST (.returned (.tuple #[.agg #[.string (ba p.m), vt, vf, .int .i64 p.t], bd0])) w1) :
    PST (.returned (.tuple #[.agg #[.string (ba m), v, vf, .int .i64 tm], bd0])) ((((((((((W.setCell ⟨w.heap.size, 0, none⟩ (.string (ba m))).setCell ⟨w.heap.size, 1, none⟩ (v)).setCell ⟨w.heap.size, 2, none⟩ (vf)).setCell ⟨w.heap.size, 3, none⟩ (.int .i64 tm)).setCell ⟨w.heap.size + 1, 0, none⟩ (.int .i64 0)).setCell ⟨w.heap.size + 1, 1, none⟩ (.int .i64 0)).setCell ⟨w.heap.size + 1, 2, none⟩ (.int .i64 0)).setCell ⟨w.heap.size + 1, 3, none⟩ (.bool false)).setCell ⟨w.heap.size + 1, 4, none⟩ (.bool false))) := by
  have hN := h.hN
  have hR := h.hR
  have g1 : W.grownBy (((((W.setCell ⟨w.heap.size, 0, none⟩ (.string (ba m))).setCell ⟨w.heap.size, 1, none⟩ (v)).setCell ⟨w.heap.size, 2, none⟩ (vf)).setCell ⟨w.heap.size, 3, none⟩ (.int .i64 tm))) (some w.heap.size) := grown_trans (grown_trans (grown_trans (grown_set _ _ 0 _) (grown_set _ _ 1 _)) (grown_set _ _ 2 _)) (grown_set _ _ 3 _)
  have t1 := OT.keepW h.ot g1 (fun b eb q => by have := (OT.boundW h.ot eb).1; injection q; omega)
  have f1 := OF.keepW h.of g1 (fun b eb q => by have := (OF.bound h.of eb).1; injection q; omega)
  have g2 : (((((W.setCell ⟨w.heap.size, 0, none⟩ (.string (ba m))).setCell ⟨w.heap.size, 1, none⟩ (v)).setCell ⟨w.heap.size, 2, none⟩ (vf)).setCell ⟨w.heap.size, 3, none⟩ (.int .i64 tm))).grownBy ((((((((((W.setCell ⟨w.heap.size, 0, none⟩ (.string (ba m))).setCell ⟨w.heap.size, 1, none⟩ (v)).setCell ⟨w.heap.size, 2, none⟩ (vf)).setCell ⟨w.heap.size, 3, none⟩ (.int .i64 tm)).setCell ⟨w.heap.size + 1, 0, none⟩ (.int .i64 0)).setCell ⟨w.heap.size + 1, 1, none⟩ (.int .i64 0)).setCell ⟨w.heap.size + 1, 2, none⟩ (.int .i64 0)).setCell ⟨w.heap.size + 1, 3, none⟩ (.bool false)).setCell ⟨w.heap.size + 1, 4, none⟩ (.bool false))) (some (w.heap.size + 1)) := grown_trans (grown_trans (grown_trans (grown_trans (grown_set _ _ 0 _) (grown_set _ _ 1 _)) (grown_set _ _ 2 _)) (grown_set _ _ 3 _)) (grown_set _ _ 4 _)
  have t2 := OT.keepW t1 g2 (fun b eb q => by have := (OT.boundW t1 eb).1; injection q; omega)
  have f2 := OF.keepW f1 g2 (fun b eb q => by have := (OF.bound f1 eb).1; injection q; omega)
  exact PO ⟨m, acc, fac, tm⟩ _ v vf e (OT.monoL t2 (by omega)) (OF.monoL f2 (by omega)) h.ap (((((((((h.rd.bl.setCell (p := ⟨w.heap.size, 0, none⟩) (Nat.le_refl _) _).setCell (p := ⟨w.heap.size, 1, none⟩) (Nat.le_refl _) _).setCell (p := ⟨w.heap.size, 2, none⟩) (Nat.le_refl _) _).setCell (p := ⟨w.heap.size, 3, none⟩) (Nat.le_refl _) _).setCell (p := ⟨w.heap.size + 1, 0, none⟩) (Nat.le_succ _) _).setCell (p := ⟨w.heap.size + 1, 1, none⟩) (Nat.le_succ _) _).setCell (p := ⟨w.heap.size + 1, 2, none⟩) (Nat.le_succ _) _).setCell (p := ⟨w.heap.size + 1, 3, none⟩) (Nat.le_succ _) _).setCell (p := ⟨w.heap.size + 1, 4, none⟩) (Nat.le_succ _) _)
theorem meas2 {a b c : Nat} (h : b + 1 ≤ a) (h2 : b < c) : a - c < a - b := by omega
theorem meas3 {a b c : Nat} (h : c + 1 ≤ a ∧ b ≤ c) : a - (c + 1) + 1 < a - b + 1 := by omega
set_option maxHeartbeats 16000000 in
theorem rone_any (s : ByteArray) (w : World) (hg : LT w) (hs : s.size ≤ 9223372036854775807) : Calls Tryz.prog 78 #[.string s] w fun e w' => EndD w s.data.toList e w' := by
  have B0 : Below w.heap.size w ((w.alloc ptO).alloc bdO) := ((Below.refl _ w).alloc (Nat.le_refl _) _).alloc (by simp) _
  have M0 : ((w.alloc ptO).alloc bdO).heap[w.heap.size]? = some ptO := by rw [Below.heap_alloc _ _ _ (by simp)]; exact World.alloc_heap_new w _
  have M1 : ((w.alloc ptO).alloc bdO).heap[w.heap.size + 1]? = some bdO := by
    have := World.alloc_heap_new (w.alloc ptO) bdO
    simpa using this
  have hlen := lenB s
  obtain ⟨l, hl⟩ : ∃ l, s.data.toList = l := ⟨_, rfl⟩
  obtain ⟨W0, hW0⟩ : ∃ W0, (w.alloc ptO).alloc bdO = W0 := ⟨_, rfl⟩
  have hW0H : Hid ((w.alloc (.cells #[.string ⟨#[]⟩, .slice none 0 0, .slice none 0 0, .int .i64 0] 32)).alloc (.cells #[.int .i64 0, .int .i64 0, .int .i64 0, .bool false, .bool false] 35) = W0) := hW0
  have hz : W0.heap.size = w.heap.size + 2 := by rw [← hW0]; simp
  rw [hW0] at B0 M0 M1
  rw [hl]
  rw [hl] at hlen
  obtain ⟨PST, hPST⟩ : ∃ PST : Ending → World → Prop, (fun e w' => EndD w l e w') = PST := ⟨_, rfl⟩
  have PE : Hid (∀ q w1, one8 unK nvL l = .error q → Below w.heap.size w w1 → PST (.returned (.tuple #[.agg #[.string ⟨#[]⟩, .slice none 0 0, .slice none 0 0, .int .i64 0], badL q])) w1) := fun q w1 e b => by rw [← hPST]; show EndD w _ _ _; unfold EndD; rw [e]; exact ⟨rfl, b⟩
  have PO : Hid (∀ p w1 vt vf, one8 unK nvL l = .ok p → OT w1 w.heap.size vt (p.tags.map tgB) → OF w1 w.heap.size vf (p.fs.map fdB) → (∀ b, vt.ownBlock = some b → vf.ownBlock ≠ some b) → Below w.heap.size w w1 → PST (.returned (.tuple #[.agg #[.string (ba p.m), vt, vf, .int .i64 p.t], bd0])) w1) := fun p w1 vt vf e h1 h2 h3 b => by rw [← hPST]; show EndD w _ _ _; unfold EndD; rw [e]; exact ⟨vt, vf, rfl, h1, h2, h3, b⟩
  rw [hPST]
  clear hPST
  have keep : Hid (∀ w1, Below W0.heap.size W0 w1 → w1.heap[w.heap.size]? = some ptO ∧ w1.heap[w.heap.size + 1]? = some bdO ∧ Below w.heap.size w w1) := fun w1 b => ⟨(b.block _ (by omega)).trans M0, (b.block _ (by omega)).trans M1, B0.trans (b.mono (by omega))⟩
  by_cases hbig : 8192 < s.size
  · have e0 : Hid (one8 unK nvL l = .error none) := by show _ = _; unfold one8; rw [if_pos (by rw [hlen]; exact hbig)]
    have hI : (8192 : Int) < (s.size : Int) := by omega
    go_enter Tryz.func78, Tryz.ntmps78
    go_wp2_with fail
    rw [hW0H.out]
    refine Calls.mono (rnew_l W0) ?_
    rintro e w1 ⟨rfl, B1⟩
    obtain ⟨m0, m1, B2⟩ := keep.out _ B1
    obtain ⟨⟨q0, q1, q2, q3⟩, z0, z1, z2, z3⟩ := pt_cells m0
    obtain ⟨⟨b0, b1, b2, b3, b4⟩, y0, y1, y2, y3, y4⟩ := bd_cells m1
    have B2H : Hid (Below w.heap.size w w1) := B2
    have F := PE.out none ((((((((((w1.setCell ⟨w.heap.size, 0, none⟩ (.string ⟨#[]⟩)).setCell ⟨w.heap.size, 1, none⟩ (.slice none 0 0)).setCell ⟨w.heap.size, 2, none⟩ (.slice none 0 0)).setCell ⟨w.heap.size, 3, none⟩ (.int .i64 0)).setCell ⟨w.heap.size + 1, 0, none⟩ (.int .i64 6)).setCell ⟨w.heap.size + 1, 1, none⟩ (.int .i64 0)).setCell ⟨w.heap.size + 1, 2, none⟩ (.int .i64 0)).setCell ⟨w.heap.size + 1, 3, none⟩ (.bool false)).setCell ⟨w.heap.size + 1, 4, none⟩ (.bool false))) e0.out (((((((((B2.setCell (p := ⟨w.heap.size, 0, none⟩) (Nat.le_refl _) _).setCell (p := ⟨w.heap.size, 1, none⟩) (Nat.le_refl _) _).setCell (p := ⟨w.heap.size, 2, none⟩) (Nat.le_refl _) _).setCell (p := ⟨w.heap.size, 3, none⟩) (Nat.le_refl _) _).setCell (p := ⟨w.heap.size + 1, 0, none⟩) (Nat.le_succ _) _).setCell (p := ⟨w.heap.size + 1, 1, none⟩) (Nat.le_succ _) _).setCell (p := ⟨w.heap.size + 1, 2, none⟩) (Nat.le_succ _) _).setCell (p := ⟨w.heap.size + 1, 3, none⟩) (Nat.le_succ _) _).setCell (p := ⟨w.heap.size + 1, 4, none⟩) (Nat.le_succ _) _)
    have FH : Hid _ := F
    clear F B2 m0 m1 B1 M0 M1 B0 PE PO
    go_wp2_with fail
    simp [bodyPost, results, Tryz.results78, go_sem, q0, q1, q2, q3, b0, b1, b2, b3, b4]
    exact FH.out
  · have hI : ¬ (8192 : Int) < (s.size : Int) := by omega
    have hss : s.size ≤ 8192 := by omega
    have e8 : Hid (one8 unK nvL l = match oneL unK nvL l with | .error e => .error (some e) | .ok p => .ok p) := by show _ = _; unfold one8; rw [if_neg (by rw [hlen]; exact hbig)]; cases oneL unK nvL l <;> rfl
    have onX : Hid (∀ st W', RdX w W0.heap.size s st W' → LT W') := fun st W' r => hg.on r.bl
    have cP : Hid (∀ st W', RdX w W0.heap.size s st W' → st.1 ≤ s.size → Calls Tryz.prog 123 #[.pointer (some ⟨W0.heap.size, 0, none⟩)] W' fun e w' => e = .returned (.string (ba (pieceD unK l st).1)) ∧ RdX w W0.heap.size s (pieceD unK l st).2 w' ∧ W'.grownBy w' (some W0.heap.size)) := fun st W' r h => by rw [← hl]; exact (piece_r W0.heap.size s st W' r.rd h (by omega)).mono fun e w' q => ⟨q.1, r.step q.2.1 q.2.2, q.2.2⟩
    have cM : Hid (∀ (c : UInt8) st W', RdX w W0.heap.size s st W' → st.1 ≤ s.size → Calls Tryz.prog 125 #[.pointer (some ⟨W0.heap.size, 0, none⟩), .int .u8 (c.toNat : Int)] W' fun e w' => e = .returned undef ∧ RdX w W0.heap.size s (mustD l c st) w' ∧ W'.grownBy w' (some W0.heap.size)) := fun c st W' r h => by rw [← hl]; exact (must_r W0.heap.size s c st W' r.rd h (by omega)).mono fun e w' q => ⟨q.1, r.step q.2.1 q.2.2, q.2.2⟩
    have cI : Hid (∀ (c : UInt8) st W', RdX w W0.heap.size s st W' → st.1 ≤ s.size → Calls Tryz.prog 124 #[.pointer (some ⟨W0.heap.size, 0, none⟩), .int .u8 (c.toNat : Int)] W' fun e w' => e = .returned (.bool (isD l c st)) ∧ RdX w W0.heap.size s st w' ∧ W'.grownBy w' (some W0.heap.size)) := fun c st W' r h => by rw [← hl]; exact (is_r W0.heap.size s c st W' r.rd h (by omega)).mono fun e w' q => ⟨q.1, r.step q.2.1 q.2.2, q.2.2⟩
    have cN : Hid (∀ st W', RdX w W0.heap.size s st W' → st.1 ≤ s.size → Calls Tryz.prog 126 #[.pointer (some ⟨W0.heap.size, 0, none⟩)] W' fun e w' => e = .returned (.int .i64 (numD nvL l st).1) ∧ RdX w W0.heap.size s (numD nvL l st).2 w' ∧ W'.grownBy w' (some W0.heap.size)) := fun st W' r h => by rw [← hl]; exact (number_r W0.heap.size s st W' r.rd (onX.out st W' r) h (by omega)).mono fun e w' q => ⟨q.1, r.step q.2.1 q.2.2, q.2.2⟩
    have cX : Hid (∀ p st W', RdX w W0.heap.size s st W' → Calls Tryz.prog 127 #[.pointer (some ⟨W0.heap.size, 0, none⟩), .int .i64 p] W' fun e w' => e = .returned undef ∧ RdX w W0.heap.size s (failD st p) w' ∧ W'.grownBy w' (some W0.heap.size)) := fun p st W' r => (fail_r W0.heap.size s st p W' r.rd).mono fun e w' q => ⟨q.1, r.step q.2.1 q.2.2, q.2.2⟩
    have hzH : Hid (W0.heap.size = w.heap.size + 2) := hz
    clear onX hW0 hs hbig hz
    go_enter Tryz.func78, Tryz.ntmps78
    go_wp2_with fail
    rw [hW0H.out]
    go_loopw [4] (fun v V => ∃ (i : Nat), v = .int .i64 (i : Int) ∧ i ≤ s.size ∧ Hid (feedAt (l.take i) = none) ∧ V = W0) (fun v _ => s.size - (intOf v).toNat)
    case atStart => exact ⟨0, rfl, Nat.zero_le _, rfl, rfl⟩
    case round =>
      rename World => V
      obtain ⟨i, rfl, hi, hf, hwr⟩ := hrel
      subst hwr
      have i0 : (0 : Int) ≤ (i : Int) := by omega
      have wi : IntKind.i64.wrap ((i : Int) + 1) = ((i + 1 : Nat) : Int) := IntWalk.i64_in _ (by omega)
      have wk : wrap64 ((i : Int) + 1) = ((i + 1 : Nat) : Int) := IntWalk.wrap64_in _ (by omega)
      by_cases hil : i < s.size
      · have hiI : (i : Int) < (s.size : Int) := by omega
        obtain ⟨x, hx⟩ : ∃ x, s.get! i = x := ⟨_, rfl⟩
        have hsk : s[i]'hil = x := get_at s i hil x hx
        have hli : l[i]? = some x := by rw [← hl, ← hx]; exact get_list s i hil
        by_cases h10 : x = 10
        · have h10I : ((x.toNat : Int) == 10) = true := by rw [h10]; rfl
          have eo : Hid (one8 unK nvL l = .error (some (i : Int))) := by show _ = _; rw [e8.out]; unfold oneL; rw [feed_hit l i hf.out (by rw [hli, h10])]
          clear hx
          subst h10
          go_wp2_with fail
          refine Calls.mono (rat_l (i : Int) V) ?_
          rintro e w1 ⟨rfl, B1⟩
          obtain ⟨m0, m1, B2⟩ := keep.out _ B1
          obtain ⟨⟨q0, q1, q2, q3⟩, z0, z1, z2, z3⟩ := pt_cells m0
          obtain ⟨⟨b0, b1, b2, b3, b4⟩, y0, y1, y2, y3, y4⟩ := bd_cells m1
          have FH : Hid (PST (.returned (.tuple #[.agg #[.string ⟨#[]⟩, .slice none 0 0, .slice none 0 0, .int .i64 0], .agg #[.int .i64 60, .int .i64 ((i : Int)), .int .i64 0, .bool true, .bool false]])) ((((((((((w1.setCell ⟨w.heap.size, 0, none⟩ (.string ⟨#[]⟩)).setCell ⟨w.heap.size, 1, none⟩ (.slice none 0 0)).setCell ⟨w.heap.size, 2, none⟩ (.slice none 0 0)).setCell ⟨w.heap.size, 3, none⟩ (.int .i64 0)).setCell ⟨w.heap.size + 1, 0, none⟩ (.int .i64 60)).setCell ⟨w.heap.size + 1, 1, none⟩ (.int .i64 ((i : Int)))).setCell ⟨w.heap.size + 1, 2, none⟩ (.int .i64 0)).setCell ⟨w.heap.size + 1, 3, none⟩ (.bool true)).setCell ⟨w.heap.size + 1, 4, none⟩ (.bool false)))) := PE.out (some ((i : Int))) _ eo.out (((((((((B2.setCell (p := ⟨w.heap.size, 0, none⟩) (Nat.le_refl _) _).setCell (p := ⟨w.heap.size, 1, none⟩) (Nat.le_refl _) _).setCell (p := ⟨w.heap.size, 2, none⟩) (Nat.le_refl _) _).setCell (p := ⟨w.heap.size, 3, none⟩) (Nat.le_refl _) _).setCell (p := ⟨w.heap.size + 1, 0, none⟩) (Nat.le_succ _) _).setCell (p := ⟨w.heap.size + 1, 1, none⟩) (Nat.le_succ _) _).setCell (p := ⟨w.heap.size + 1, 2, none⟩) (Nat.le_succ _) _).setCell (p := ⟨w.heap.size + 1, 3, none⟩) (Nat.le_succ _) _).setCell (p := ⟨w.heap.size + 1, 4, none⟩) (Nat.le_succ _) _)
          clear m0 m1 B1 B2 M0 M1 B0 PE PO cP cM cI cN cX
          go_wp2_with fail
          simp [bodyPost, results, Tryz.results78, go_sem, q0, q1, q2, q3, b0, b1, b2, b3, b4]
          exact FH.out
        · have h10I : ((x.toNat : Int) == 10) = false := by
            have : x.toNat ≠ 10 := fun h => h10 (UInt8.toNat_inj.1 h)
            simp; omega
          have hf2 : Hid (feedAt (l.take (i + 1)) = none) := feed_next l i x hf.out hli h10
          clear hx h10 hli
          go_wp2_with fail
          go_roundw
          case measure => simp only [intOf]; omega
          case rel => exact ⟨i + 1, rfl, by omega, hf2, by first | rfl | trivial⟩
      · have hiI : ¬ (i : Int) < (s.size : Int) := by omega
        have h10H : Hid (feedAt l = none) := feed_end l i hf.out (by rw [hlen]; omega)
        clear hf wi wk
        go_upto_region 8 with fail
        go_cut [37] from 30 to 37 (fun b wz => ∃ hb : Bool, b = .bool hb ∧ V = wz ∧ Hid (hb = decide (l.head? = some 35)))
        case first =>
          by_cases hs0 : 0 < s.size
          · have hs0I : (0 : Int) < (s.size : Int) := by omega
            obtain ⟨x, hx⟩ : ∃ x, s.get! 0 = x := ⟨_, rfl⟩
            have hsk : s[0]'hs0 = x := get_at s 0 hs0 x hx
            have hhd : l.head? = some x := by rw [List.head?_eq_getElem?, ← hl, ← hx]; exact get_list s 0 hs0
            by_cases h35 : x = 35
            · have h35I : ((x.toNat : Int) == 35) = true := by rw [h35]; rfl
              have hd : Hid (true = decide (l.head? = some 35)) := (decide_eq_true (by rw [hhd, h35])).symm
              clear hx hhd
              subst h35
              go_wp2_with fail
              go_meet
              exact ⟨true, rfl, rfl, hd⟩
            · have h35I : ((x.toNat : Int) == 35) = false := by
                have : x.toNat ≠ 35 := fun h => h35 (UInt8.toNat_inj.1 h)
                simp; omega
              have hd : Hid (false = decide (l.head? = some 35)) := (decide_eq_false (fun q => h35 (by rw [hhd] at q; exact Option.some.inj q))).symm
              clear hx hhd h35
              go_wp2_with fail
              go_meet
              exact ⟨false, rfl, rfl, hd⟩
          · have hs0I : ¬ (0 : Int) < (s.size : Int) := by omega
            have hd : Hid (false = decide (l.head? = some 35)) := by
              have : l = [] := List.length_eq_zero_iff.1 (by omega)
              show _ = _
              rw [this]; rfl
            go_wp2_with fail
            go_meet
            exact ⟨false, rfl, rfl, hd⟩
        case rest =>
          obtain ⟨hb, rfl, hwc, hd⟩ := hcut
          subst hwc
          cases hb with
          | true =>
            have eo : Hid (one8 unK nvL l = .error (some 0)) := by show _ = _; rw [e8.out]; unfold oneL; rw [h10H.out]; dsimp only; rw [if_pos (of_decide_eq_true hd.out.symm)]
            go_wp2_with fail
            refine Calls.mono (rat_l 0 V) ?_
            rintro e w1 ⟨rfl, B1⟩
            obtain ⟨m0, m1, B2⟩ := keep.out _ B1
            obtain ⟨⟨q0, q1, q2, q3⟩, z0, z1, z2, z3⟩ := pt_cells m0
            obtain ⟨⟨b0, b1, b2, b3, b4⟩, y0, y1, y2, y3, y4⟩ := bd_cells m1
            have FH : Hid (PST (.returned (.tuple #[.agg #[.string ⟨#[]⟩, .slice none 0 0, .slice none 0 0, .int .i64 0], .agg #[.int .i64 60, .int .i64 (0), .int .i64 0, .bool true, .bool false]])) ((((((((((w1.setCell ⟨w.heap.size, 0, none⟩ (.string ⟨#[]⟩)).setCell ⟨w.heap.size, 1, none⟩ (.slice none 0 0)).setCell ⟨w.heap.size, 2, none⟩ (.slice none 0 0)).setCell ⟨w.heap.size, 3, none⟩ (.int .i64 0)).setCell ⟨w.heap.size + 1, 0, none⟩ (.int .i64 60)).setCell ⟨w.heap.size + 1, 1, none⟩ (.int .i64 (0))).setCell ⟨w.heap.size + 1, 2, none⟩ (.int .i64 0)).setCell ⟨w.heap.size + 1, 3, none⟩ (.bool true)).setCell ⟨w.heap.size + 1, 4, none⟩ (.bool false)))) := PE.out (some (0)) _ eo.out (((((((((B2.setCell (p := ⟨w.heap.size, 0, none⟩) (Nat.le_refl _) _).setCell (p := ⟨w.heap.size, 1, none⟩) (Nat.le_refl _) _).setCell (p := ⟨w.heap.size, 2, none⟩) (Nat.le_refl _) _).setCell (p := ⟨w.heap.size, 3, none⟩) (Nat.le_refl _) _).setCell (p := ⟨w.heap.size + 1, 0, none⟩) (Nat.le_succ _) _).setCell (p := ⟨w.heap.size + 1, 1, none⟩) (Nat.le_succ _) _).setCell (p := ⟨w.heap.size + 1, 2, none⟩) (Nat.le_succ _) _).setCell (p := ⟨w.heap.size + 1, 3, none⟩) (Nat.le_succ _) _).setCell (p := ⟨w.heap.size + 1, 4, none⟩) (Nat.le_succ _) _)
            clear m0 m1 B1 B2 M0 M1 B0 PE PO cP cM cI cN cX
            go_wp2_with fail
            simp [bodyPost, results, Tryz.results78, go_sem, q0, q1, q2, q3, b0, b1, b2, b3, b4]
            exact FH.out
          | false =>
            have h35H : Hid (¬ l.head? = some 35) := of_decide_eq_false hd.out.symm
            have hfl : True := trivial
            clear hfl
            have hz := hzH.out
            have hN : w.heap.size + 1 < V.heap.size := by omega
            have RX : RdX w V.heap.size s (0, none) (V.alloc (.cells #[.string s, .int .i64 0, .int .i64 0, .int .i64 0, .int .i64 0, .bool false, .bool false] 242)) := ⟨by omega, by simp, B0.alloc (by omega) _, by
              refine ⟨by simp, ⟨?_, ?_, ?_, ?_, ?_, ?_, ?_⟩, ?_⟩
              · simp [go_sem]
              · simp [go_sem]
              · simp [go_sem, bcL]
              · simp [go_sem]
              · simp [go_sem]
              · simp [go_sem]
              · simp [go_sem]
              · intro i hi
                simp [go_sem]⟩
            have K0 : KE w V.heap.size (V.heap.size + 1) s ⟨#[]⟩ (.slice none 0 0) (.slice none 0 0) 0 [] [] (0, none) ((V.alloc (.cells #[.string s, .int .i64 0, .int .i64 0, .int .i64 0, .int .i64 0, .bool false, .bool false] 242)).alloc (.cells #[.string ⟨#[]⟩, .slice none 0 0, .slice none 0 0, .int .i64 0] 32)) := by
              have k := KE.start w s _ ⟨#[]⟩ (0, none) V.heap.size hN RX (by rw [Below.heap_alloc _ _ _ (by omega)]; exact M0) (by rw [Below.heap_alloc _ _ _ (by omega)]; exact M1)
              have e : (V.alloc (.cells #[.string s, .int .i64 0, .int .i64 0, .int .i64 0, .int .i64 0, .bool false, .bool false] 242)).heap.size = V.heap.size + 1 := by simp
              rw [e] at k
              exact k
            obtain ⟨V0, hV0⟩ : ∃ V0, (V.alloc (.cells #[.string s, .int .i64 0, .int .i64 0, .int .i64 0, .int .i64 0, .bool false, .bool false] 242)).alloc (.cells #[.string ⟨#[]⟩, .slice none 0 0, .slice none 0 0, .int .i64 0] 32) = V0 := ⟨_, rfl⟩
            have hV0H : Hid (_ = V0) := hV0
            rw [hV0] at K0
            have K0H : Hid (KE w V.heap.size (V.heap.size + 1) s ⟨#[]⟩ (.slice none 0 0) (.slice none 0 0) 0 [] [] (0, none) V0) := K0
            clear hV0 K0 RX M0 M1 B0 keep hW0H hz hN
            obtain ⟨x1, hx1⟩ : ∃ x1, pieceD unK l (0, none) = x1 := ⟨_, rfl⟩
            have x1l : x1.2.1 ≤ s.size := by rw [← hx1, ← hlen]; exact pieceD_le un_len (Nat.zero_le _)
            have c1 := cP.out (0, none) V0 K0H.out.rd (Nat.zero_le _)
            rw [hx1] at c1
            have c1H : Hid (Calls Tryz.prog 123 #[.pointer (some ⟨V.heap.size, 0, none⟩)] V0 fun e w' => e = .returned (.string (ba x1.1)) ∧ RdX w V.heap.size s x1.2 w' ∧ V0.grownBy w' (some V.heap.size)) := c1
            clear c1
            have hx1H : Hid (s1D unK l = x1) := hx1
            clear hx1
            obtain ⟨m, st1⟩ := x1
            dsimp only at x1l c1H
            obtain ⟨mb, hmb⟩ : ∃ mb, ba m = mb := ⟨_, rfl⟩
            have hmbH : Hid (ba m = mb) := hmb
            rw [hmb] at c1H
            clear hmb
            go_wp2_with fail
            rw [hV0H.out]
            refine Calls.mono c1H.out ?_
            rintro e v1 ⟨rfl, R1, G1⟩
            have K1 := K0H.out.step R1 G1
            have k0 := K1.r0
            have k1 := K1.z0
            have K2 : Hid (KE w V.heap.size (V.heap.size + 1) s mb (.slice none 0 0) (.slice none 0 0) 0 [] [] st1 (v1.setCell ⟨V.heap.size + 1, 0, none⟩ (.string mb))) := K1.meas mb
            clear K1 R1 G1 c1H K0H hV0H
            go_wp2_with fail
            generalize v1.setCell ⟨V.heap.size + 1, 0, none⟩ (.string mb) = v2 at *
            clear k0 k1
            have T0 : Hid (TgS unK l (tagsD unK l l.length st1 []) st1 []) := TgS.start (by rw [hlen]; exact x1l)
            go_loopg [7, 8] (s.size - st1.1) (fun gk a b wx => ∃ st acc v, gk = s.size - st.1 ∧ Hid (TgS unK l (tagsD unK l l.length st1 []) st acc) ∧ Hid (KE w V.heap.size (V.heap.size + 1) s mb v (.slice none 0 0) 0 (acc.map tgB) [] st wx))
            case atStart => exact ⟨st1, [], _, rfl, T0, K2⟩
            case round =>
              rename World => wx
              clear T0 K2
              obtain ⟨st, acc, v, hgk, hT, hK⟩ := hrel
              have hgkH : Hid (gk = s.size - st.1) := hgk
              clear hgk
              have stl : st.1 ≤ s.size := by rw [← hlen]; exact hT.out.1
              have cI1 := cI.out 44 st wx hK.out.rd stl
              cases hc : isD l 44 st with
              | true =>
                rw [hc] at cI1
                have cI1H : Hid (Calls Tryz.prog 124 #[.pointer (some ⟨V.heap.size, 0, none⟩), .int .u8 44] wx fun e w' => e = .returned (.bool true) ∧ RdX w V.heap.size s st w' ∧ wx.grownBy w' (some V.heap.size)) := cI1
                clear cI1
                obtain ⟨s1, s2, s3⟩ := hT.out.step un_len hc
                have accl : Hid ((acc.map tgB).length ≤ 1048576) := by show (acc.map tgB).length ≤ _; rw [List.length_map]; have := hT.out.2.1; omega
                have hfl : st.2 = none := (is_lt hc).2
                obtain ⟨k, fl⟩ := st
                dsimp only at hfl
                subst hfl
                dsimp only at s1 s2 s3 stl hgkH
                rw [hlen] at s1
                have wi : IntKind.i64.wrap ((k : Int) + 1) = (k : Int) + 1 := IntWalk.i64_in _ (by omega)
                have wk : wrap64 ((k : Int) + 1) = (k : Int) + 1 := IntWalk.wrap64_in _ (by omega)
                have s1H : Hid (k + 1 ≤ s.size) := s1
                have s2H : Hid (k < (tagD unK l (k + 1, none)).2.1) := s2
                have s3H : Hid (TgS unK l (tagsD unK l l.length st1 []) (tagD unK l (k + 1, none)).2 (acc ++ [(tagD unK l (k + 1, none)).1])) := s3
                clear s1 s2 s3 hT hc stl
                go_wp2_with fail
                refine Calls.mono cI1H.out ?_
                rintro e va ⟨rfl, Ra, Ga⟩
                have Ka := hK.out.step Ra Ga
                have d0 := Ka.rd.rd.cells.2.1
                have d1 := Ka.rd.rd.cells.2.2.2
                have Kb : Hid (KE w V.heap.size (V.heap.size + 1) s mb v (.slice none 0 0) 0 (acc.map tgB) [] (k + 1, none) (va.setCell ⟨V.heap.size, 1, none⟩ (.int .i64 ((k : Int) + 1)))) := Ka.step (Ka.rd.set1 (k + 1)) (grown_set va V.heap.size 1 _)
                clear Ka Ra Ga cI1H hK
                go_wp2_with fail
                generalize va.setCell ⟨V.heap.size, 1, none⟩ (.int .i64 ((k : Int) + 1)) = vb at *
                clear d0 d1 wi wk
                obtain ⟨p1, hp1⟩ : ∃ p1, pieceD unK l (k + 1, none) = p1 := ⟨_, rfl⟩
                have p1l : p1.2.1 ≤ s.size := by rw [← hp1, ← hlen]; exact pieceD_le un_len (by rw [hlen]; exact s1H.out)
                have c1 := cP.out (k + 1, none) vb Kb.out.rd s1H.out
                rw [hp1] at c1
                refine Calls.mono c1 ?_
                rintro e vc ⟨rfl, Rc, Gc⟩
                have Kc : Hid (KE w V.heap.size (V.heap.size + 1) s mb v (.slice none 0 0) 0 (acc.map tgB) [] p1.2 vc) := Kb.out.step Rc Gc
                clear c1 Rc Gc Kb
                go_wp2_with fail
                obtain ⟨p2, hp2⟩ : ∃ p2, mustD l 61 p1.2 = p2 := ⟨_, rfl⟩
                have p2l : p2.1 ≤ s.size := by rw [← hp2, ← hlen]; exact mustD_le (by rw [hlen]; exact p1l)
                have c2 := cM.out 61 p1.2 vc Kc.out.rd p1l
                rw [hp2] at c2
                refine Calls.mono c2 ?_
                rintro e vd ⟨rfl, Rd, Gd⟩
                have Kd : Hid (KE w V.heap.size (V.heap.size + 1) s mb v (.slice none 0 0) 0 (acc.map tgB) [] p2 vd) := Kc.out.step Rd Gd
                clear c2 Rd Gd Kc
                go_wp2_with fail
                obtain ⟨p3, hp3⟩ : ∃ p3, pieceD unK l p2 = p3 := ⟨_, rfl⟩
                have p3l : p3.2.1 ≤ s.size := by rw [← hp3, ← hlen]; exact pieceD_le un_len (by rw [hlen]; exact p2l)
                have c3 := cP.out p2 vd Kd.out.rd p2l
                rw [hp3] at c3
                refine Calls.mono c3 ?_
                rintro e ve ⟨rfl, Re, Ge⟩
                have Ke := Kd.out.step Re Ge
                have etag : tagD unK l (k + 1, none) = ((p1.1, p3.1), p3.2) := by unfold tagD; rw [hp1, hp2, hp3]
                rw [etag] at s2H s3H
                dsimp only at s2H s3H
                obtain ⟨v2a, we, hr, e1, e2, Kf, av, nv, cv, ev⟩ := Ke.appT (ba p1.1, ba p3.1) accl.out
                obtain ⟨a0, n0, c0, ev0⟩ := OT.sliceL Ke.ot
                have e0 := Ke.r1
                subst ev
                subst ev0
                dsimp only at hr
                have Kg : Hid (KE w V.heap.size (V.heap.size + 1) s mb (.slice av nv cv) (.slice none 0 0) 0 ((acc ++ [(p1.1, p3.1)]).map tgB) [] p3.2 (we.setCell ⟨V.heap.size + 1, 1, none⟩ (.slice av nv cv))) := by show KE _ _ _ _ _ _ _ _ _ _ _ _; rw [List.map_append]; exact Kf
                generalize ba p1.1 = kb at *
                generalize ba p3.1 = vb2 at *
                have hrH : Hid (∀ W', W' = ve.alloc (.cells #[.string kb, .string vb2] 102) → (Builtin.append_ #[29, 29] 29 #[.slice a0 n0 c0, .slice (some ⟨ve.heap.size, 0, none⟩) 1 1]).run Tryz.prog W' = .ok (.slice av nv cv) we) := hr
                clear hr Ke Kf Re Ge c3 Kd etag hp1 hp2 hp3
                go_wp2_with (at_builtin; refine wpList_append_runL (by rfl) _ _ _ (by rfl) _ _ _ _ (by rfl) (by rfl) (hrH.out _ rfl) ?_)
                go_roundg (s.size - p3.2.1)
                case measure => rw [hgkH.out]; exact meas2 s1H.out s2H.out
                case rel => exact ⟨p3.2, _, _, rfl, s3H, Kg⟩
              | false =>
                rw [hc] at cI1
                have cI1H : Hid (Calls Tryz.prog 124 #[.pointer (some ⟨V.heap.size, 0, none⟩), .int .u8 44] wx fun e w' => e = .returned (.bool false) ∧ RdX w V.heap.size s st w' ∧ wx.grownBy w' (some V.heap.size)) := cI1
                clear cI1
                have E2 : Hid (s2D unK l = (acc, st)) := by show _ = _; unfold s2D; rw [hx1H.out]; exact hT.out.stop hc
                have acc1 : Hid (acc.length ≤ 1048576) := by have := hT.out.2.1; show _ ≤ _; omega
                clear hc hT hgkH
                go_wp2_with fail
                refine Calls.mono cI1H.out ?_
                rintro e va ⟨rfl, Ra, Ga⟩
                have Ka : Hid (KE w V.heap.size (V.heap.size + 1) s mb v (.slice none 0 0) 0 (acc.map tgB) [] st va) := hK.out.step Ra Ga
                clear Ra Ga cI1H hK
                go_wp2_with fail
                obtain ⟨p2, hp2⟩ : ∃ p2, mustD l 32 st = p2 := ⟨_, rfl⟩
                have p2l : p2.1 ≤ s.size := by rw [← hp2, ← hlen]; exact mustD_le (by rw [hlen]; exact stl)
                have c2 := cM.out 32 st va Ka.out.rd stl
                rw [hp2] at c2
                refine Calls.mono c2 ?_
                rintro e vb ⟨rfl, Rb, Gb⟩
                have Kb : Hid (KE w V.heap.size (V.heap.size + 1) s mb v (.slice none 0 0) 0 (acc.map tgB) [] p2 vb) := Ka.out.step Rb Gb
                have E3 : Hid (s3D unK l = p2) := by show _ = _; unfold s3D; rw [E2.out]; exact hp2
                clear c2 Rb Gb Ka hp2 stl
                go_upto_block 4 with fail
                have F0 : Hid (FdS unK nvL l (fieldsD unK nvL l l.length p2 []) true p2 []) := FdS.start (by rw [hlen]; exact p2l)
                go_cut [9, 10, 11] from 71 to 105 (fun mo a b wz => ∃ (st3 : DSt) (fac : List (By × Int)) (vf : Value), st3.1 ≤ s.size ∧ Hid (s4D unK nvL l = (fac, st3)) ∧ Hid (KE w V.heap.size (V.heap.size + 1) s mb v vf 0 (acc.map tgB) (fac.map fdB) st3 wz))
                case first =>
                  go_wp2_with fail
                  go_loopg [9, 10, 11] (s.size - p2.1 + 1) (fun gk mo a b wy => ∃ more st fac vf, mo = .bool more ∧ gk = (if more = true then s.size - st.1 + 1 else 0) ∧ Hid (FdS unK nvL l (fieldsD unK nvL l l.length p2 []) more st fac) ∧ Hid (KE w V.heap.size (V.heap.size + 1) s mb v vf 0 (acc.map tgB) (fac.map fdB) st wy))
                  case atStart => exact ⟨true, p2, [], _, rfl, by rw [if_pos rfl], F0, Kb⟩
                  case round =>
                    rename World => wy
                    clear F0 Kb
                    obtain ⟨more, st3, fac, vf, rfl, hgk, hF, hK⟩ := hrel
                    have hgkH : Hid (gk = (if more = true then s.size - st3.1 + 1 else 0)) := hgk
                    clear hgk
                    have st3l : st3.1 ≤ s.size := by rw [← hlen]; exact hF.out.1
                    cases more with
                    | false =>
                      have E4 : Hid (s4D unK nvL l = (fac, st3)) := by show _ = _; unfold s4D; rw [E3.out]; exact hF.out.stop (Or.inl rfl)
                      clear hF hgkH
                      go_wp2_with fail
                      go_meet
                      exact ⟨st3, fac, vf, st3l, E4, hK⟩
                    | true =>
                      obtain ⟨k3, fl3⟩ := st3
                      cases fl3 with
                      | some q3 =>
                        have E4 : Hid (s4D unK nvL l = (fac, (k3, some q3))) := by show _ = _; unfold s4D; rw [E3.out]; exact hF.out.stop (Or.inr (by simp))
                        have dd : wy.cell? ⟨V.heap.size, 2, none⟩ = some (.int .i64 60) := hK.out.rd.rd.2.1.2.2.1
                        clear hF hgkH
                        go_wp2_with fail
                        go_meet
                        exact ⟨(k3, some q3), fac, vf, st3l, E4, hK⟩
                      | none =>
                        have dd := hK.out.rd.rd.cells.2.2.1
                        obtain ⟨f1, f2, f3, f4⟩ := hF.out.step un_len rfl
                        dsimp only at st3l hgkH f2 f3
                        have facl : Hid ((fac.map fdB).length ≤ 1048576) := by show (fac.map fdB).length ≤ _; rw [List.length_map]; omega
                        clear hF f1
                        go_wp2_with fail
                        clear dd
                        obtain ⟨p3, hp3⟩ : ∃ p3, pieceD unK l (k3, none) = p3 := ⟨_, rfl⟩
                        have p3l : p3.2.1 ≤ s.size := by rw [← hp3, ← hlen]; exact pieceD_le un_len (by rw [hlen]; exact st3l)
                        have c1 := cP.out (k3, none) wy hK.out.rd st3l
                        rw [hp3] at c1
                        refine Calls.mono c1 ?_
                        rintro e vc ⟨rfl, Rc, Gc⟩
                        have Kc : Hid (KE w V.heap.size (V.heap.size + 1) s mb v vf 0 (acc.map tgB) (fac.map fdB) p3.2 vc) := hK.out.step Rc Gc
                        clear c1 Rc Gc hK
                        go_wp2_with fail
                        obtain ⟨p4, hp4⟩ : ∃ p4, mustD l 61 p3.2 = p4 := ⟨_, rfl⟩
                        have p4l : p4.1 ≤ s.size := by rw [← hp4, ← hlen]; exact mustD_le (by rw [hlen]; exact p3l)
                        have c2 := cM.out 61 p3.2 vc Kc.out.rd p3l
                        rw [hp4] at c2
                        refine Calls.mono c2 ?_
                        rintro e vd ⟨rfl, Rd, Gd⟩
                        have Kd : Hid (KE w V.heap.size (V.heap.size + 1) s mb v vf 0 (acc.map tgB) (fac.map fdB) p4 vd) := Kc.out.step Rd Gd
                        clear c2 Rd Gd Kc
                        go_wp2_with fail
                        obtain ⟨p5, hp5⟩ : ∃ p5, numD nvL l p4 = p5 := ⟨_, rfl⟩
                        have p5l : p5.2.1 ≤ s.size := by rw [← hp5, ← hlen]; exact numD_le (by rw [hlen]; exact p4l)
                        have c3 := cN.out p4 vd Kd.out.rd p4l
                        rw [hp5] at c3
                        refine Calls.mono c3 ?_
                        rintro e ve ⟨rfl, Re, Ge⟩
                        have Ke : Hid (KE w V.heap.size (V.heap.size + 1) s mb v vf 0 (acc.map tgB) (fac.map fdB) p5.2 ve) := Kd.out.step Re Ge
                        clear c3 Re Ge Kd
                        go_wp2_with fail
                        obtain ⟨p6, hp6⟩ : ∃ p6, mustD l 105 p5.2 = p6 := ⟨_, rfl⟩
                        have p6l : p6.1 ≤ s.size := by rw [← hp6, ← hlen]; exact mustD_le (by rw [hlen]; exact p5l)
                        have c4 := cM.out 105 p5.2 ve Ke.out.rd p5l
                        rw [hp6] at c4
                        refine Calls.mono c4 ?_
                        rintro e vg ⟨rfl, Rg, Gg⟩
                        have Kg := Ke.out.step Rg Gg
                        have efd : fieldD unK nvL l (k3, none) = ((p3.1, p5.1), p6) := by unfold fieldD; rw [hp3, hp4, hp5, hp6]
                        rw [efd] at f2 f4
                        dsimp only at f2 f4
                        obtain ⟨v2a, we, hr, e1, e2, Kf, av, nv, cv, ev⟩ := Kg.appF (ba p3.1, p5.1) facl.out
                        obtain ⟨a0, n0, c0, ev0⟩ := OF.sliceL Kg.of
                        have e0 := Kg.r2
                        subst ev
                        subst ev0
                        dsimp only at hr
                        have Kh : Hid (KE w V.heap.size (V.heap.size + 1) s mb v (.slice av nv cv) 0 (acc.map tgB) ((fac ++ [(p3.1, p5.1)]).map fdB) p6 (we.setCell ⟨V.heap.size + 1, 2, none⟩ (.slice av nv cv))) := by show KE _ _ _ _ _ _ _ _ _ _ _ _; rw [List.map_append]; exact Kf
                        generalize ba p3.1 = kb at *
                        obtain ⟨nb, hnb⟩ : ∃ nb, p5.1 = nb := ⟨_, rfl⟩
                        rw [hnb] at hr Kh f4
                        try rw [hnb]
                        have hrH : Hid (∀ W', W' = vg.alloc (.cells #[.string kb, .int .i64 nb] 86) → (Builtin.append_ #[30, 30] 30 #[.slice a0 n0 c0, .slice (some ⟨vg.heap.size, 0, none⟩) 1 1]).run Tryz.prog W' = .ok (.slice av nv cv) we) := hr
                        clear hr Kf Rg Gg c4 Ke efd hp3 hp4 hp5 hp6 Kg
                        go_wp2_with (at_builtin; refine wpList_append_runL (by rfl) _ _ _ (by rfl) _ _ _ _ (by rfl) (by rfl) (hrH.out _ rfl) ?_)
                        generalize we.setCell ⟨V.heap.size + 1, 2, none⟩ (.slice av nv cv) = vh at *
                        clear e0 e1 e2 hrH
                        have c5 := cI.out 44 p6 vh Kh.out.rd p6l
                        cases hc : isD l 44 p6 with
                        | true =>
                          rw [hc] at c5
                          rw [hc, if_pos rfl] at f4
                          obtain ⟨f5, f6⟩ := f4
                          rw [hlen] at f5
                          have hfl : p6.2 = none := (is_lt hc).2
                          obtain ⟨k6, fl6⟩ := p6
                          dsimp only at hfl
                          subst hfl
                          dsimp only at f2 f5 f6 p6l
                          have wi : IntKind.i64.wrap ((k6 : Int) + 1) = (k6 : Int) + 1 := IntWalk.i64_in _ (by omega)
                          have wk : wrap64 ((k6 : Int) + 1) = (k6 : Int) + 1 := IntWalk.wrap64_in _ (by omega)
                          have f6H : Hid (FdS unK nvL l (fieldsD unK nvL l l.length p2 []) true (k6 + 1, none) (fac ++ [(p3.1, nb)])) := f6
                          have f5H : Hid (k6 + 1 ≤ s.size ∧ k3 ≤ k6) := ⟨f5, f2⟩
                          clear f6 f5 f2 hc
                          refine Calls.mono c5 ?_
                          rintro e vi ⟨rfl, Ri, Gi⟩
                          have Ki := Kh.out.step Ri Gi
                          have d0 := Ki.rd.rd.cells.2.1
                          have d1 := Ki.rd.rd.cells.2.2.2
                          have Kj : Hid (KE w V.heap.size (V.heap.size + 1) s mb v (.slice av nv cv) 0 (acc.map tgB) ((fac ++ [(p3.1, nb)]).map fdB) (k6 + 1, none) (vi.setCell ⟨V.heap.size, 1, none⟩ (.int .i64 ((k6 : Int) + 1)))) := Ki.step (Ki.rd.set1 (k6 + 1)) (grown_set vi V.heap.size 1 _)
                          clear Ki Ri Gi c5 Kh
                          go_wp2_with fail
                          go_roundg (s.size - (k6 + 1) + 1)
                          case measure => rw [hgkH.out, if_pos trivial]; exact meas3 f5H.out
                          case rel => exact ⟨true, (k6 + 1, none), _, _, rfl, by rw [if_pos rfl], f6H, Kj⟩
                        | false =>
                          rw [hc] at c5
                          rw [hc, if_neg (by simp)] at f4
                          have f4H : Hid (FdS unK nvL l (fieldsD unK nvL l l.length p2 []) false p6 (fac ++ [(p3.1, nb)])) := f4
                          clear f4 f2 hc
                          refine Calls.mono c5 ?_
                          rintro e vi ⟨rfl, Ri, Gi⟩
                          have Kj : Hid (KE w V.heap.size (V.heap.size + 1) s mb v (.slice av nv cv) 0 (acc.map tgB) ((fac ++ [(p3.1, nb)]).map fdB) p6 vi) := Kh.out.step Ri Gi
                          clear Ri Gi c5 Kh
                          go_wp2_with fail
                          go_roundg 0
                          case measure => rw [hgkH.out, if_pos trivial]; exact Nat.succ_pos _
                          case rel => exact ⟨false, p6, _, _, rfl, by rw [if_neg (by simp)], f4H, Kj⟩
                case rest =>
                  obtain ⟨st3, fac, vf, st3l, E4, hK⟩ := hcut
                  rename World => wy
                  clear F0 Kb
                  go_wp2_with fail
                  obtain ⟨p7, hp7⟩ : ∃ p7, mustD l 32 st3 = p7 := ⟨_, rfl⟩
                  have p7l : p7.1 ≤ s.size := by rw [← hp7, ← hlen]; exact mustD_le (by rw [hlen]; exact st3l)
                  have c2 := cM.out 32 st3 wy hK.out.rd st3l
                  rw [hp7] at c2
                  refine Calls.mono c2 ?_
                  rintro e vb ⟨rfl, Rb, Gb⟩
                  have Kb : Hid (KE w V.heap.size (V.heap.size + 1) s mb v vf 0 (acc.map tgB) (fac.map fdB) p7 vb) := hK.out.step Rb Gb
                  clear c2 Rb Gb hK
                  go_wp2_with fail
                  obtain ⟨p8, hp8⟩ : ∃ p8, numD nvL l p7 = p8 := ⟨_, rfl⟩
                  have p8l : p8.2.1 ≤ s.size := by rw [← hp8, ← hlen]; exact numD_le (by rw [hlen]; exact p7l)
                  have c3 := cN.out p7 vb Kb.out.rd p7l
                  rw [hp8] at c3
                  refine Calls.mono c3 ?_
                  rintro e vc ⟨rfl, Rc, Gc⟩
                  have E6 : Hid (s6D unK nvL l = p8) := by show _ = _; unfold s6D; rw [E4.out]; dsimp only; rw [hp7]; exact hp8
                  have Kc := Kb.out.step Rc Gc
                  obtain ⟨tm, k8, fl8⟩ := p8
                  dsimp only at p8l Kc
                  have e0 := Kc.r3
                  have e1 := Kc.z3
                  have Kd : Hid (KE w V.heap.size (V.heap.size + 1) s mb v vf tm (acc.map tgB) (fac.map fdB) (k8, fl8) (vc.setCell ⟨V.heap.size + 1, 3, none⟩ (.int .i64 tm))) := Kc.time tm
                  clear c3 Rc Gc Kb Kc hp7 hp8
                  have k80 : (0 : Int) ≤ (k8 : Int) := by omega
                  have Eone : Hid (one8 unK nvL l = match (endD l (k8, fl8)).2 with | some e => .error (some e) | none => .ok ⟨m, acc, fac, tm⟩) := by
                    show _ = _
                    rw [e8.out, one_end h10H.out h35H.out]
                    have e7 : s7D unK nvL l = endD l (k8, fl8) := by unfold s7D; rw [E6.out]
                    rw [e7, hx1H.out, E2.out, E4.out, E6.out]
                    cases (endD l (k8, fl8)).2 <;> rfl
                  clear E6 E4 E3 E2
                  cases fl8 with
                  | some q8 =>
                    have dd : (vc.setCell ⟨V.heap.size + 1, 3, none⟩ (.int .i64 tm)).cell? ⟨V.heap.size, 2, none⟩ = some (.int .i64 60) := Kd.out.rd.rd.2.1.2.2.1
                    have Eq : Hid (one8 unK nvL l = .error (some q8)) := Eone.out
                    clear Eone
                    go_wp2_with fail
                    generalize vc.setCell ⟨V.heap.size + 1, 3, none⟩ (.int .i64 tm) = vd at *
                    clear e0 e1
                    obtain ⟨m0, m1, B2⟩ : vd.heap[w.heap.size]? = some ptO ∧ vd.heap[w.heap.size + 1]? = some bdO ∧ Below w.heap.size w vd := ⟨Kd.out.ms, Kd.out.mb, Kd.out.rd.bl⟩
                    have r : vd.cell? ⟨V.heap.size, 2, none⟩ = some (.int .i64 60) ∧ vd.cell? ⟨V.heap.size, 3, none⟩ = some (.int .i64 (q8)) ∧ vd.cell? ⟨V.heap.size, 4, none⟩ = some (.int .i64 0) ∧ vd.cell? ⟨V.heap.size, 5, none⟩ = some (.bool true) ∧ vd.cell? ⟨V.heap.size, 6, none⟩ = some (.bool false) := ⟨Kd.out.rd.rd.2.1.2.2.1, Kd.out.rd.rd.2.1.2.2.2.1, Kd.out.rd.rd.2.1.2.2.2.2.1, Kd.out.rd.rd.2.1.2.2.2.2.2.1, Kd.out.rd.rd.2.1.2.2.2.2.2.2⟩
                    obtain ⟨⟨q0, q1, q2, q3⟩, z0, z1, z2, z3⟩ := pt_cells m0
                    obtain ⟨⟨b0, b1, b2, b3, b4⟩, y0, y1, y2, y3, y4⟩ := bd_cells m1
                    have FH : Hid (PST (.returned (.tuple #[.agg #[.string ⟨#[]⟩, .slice none 0 0, .slice none 0 0, .int .i64 0], .agg #[.int .i64 60, .int .i64 (q8), .int .i64 0, .bool true, .bool false]])) ((((((((((vd.setCell ⟨w.heap.size, 0, none⟩ (.string ⟨#[]⟩)).setCell ⟨w.heap.size, 1, none⟩ (.slice none 0 0)).setCell ⟨w.heap.size, 2, none⟩ (.slice none 0 0)).setCell ⟨w.heap.size, 3, none⟩ (.int .i64 0)).setCell ⟨w.heap.size + 1, 0, none⟩ (.int .i64 60)).setCell ⟨w.heap.size + 1, 1, none⟩ (.int .i64 (q8))).setCell ⟨w.heap.size + 1, 2, none⟩ (.int .i64 0)).setCell ⟨w.heap.size + 1, 3, none⟩ (.bool true)).setCell ⟨w.heap.size + 1, 4, none⟩ (.bool false)).drew)) := PE.out (some (q8)) _ Eq.out ((((((((((B2.setCell (p := ⟨w.heap.size, 0, none⟩) (Nat.le_refl _) _).setCell (p := ⟨w.heap.size, 1, none⟩) (Nat.le_refl _) _).setCell (p := ⟨w.heap.size, 2, none⟩) (Nat.le_refl _) _).setCell (p := ⟨w.heap.size, 3, none⟩) (Nat.le_refl _) _).setCell (p := ⟨w.heap.size + 1, 0, none⟩) (Nat.le_succ _) _).setCell (p := ⟨w.heap.size + 1, 1, none⟩) (Nat.le_succ _) _).setCell (p := ⟨w.heap.size + 1, 2, none⟩) (Nat.le_succ _) _).setCell (p := ⟨w.heap.size + 1, 3, none⟩) (Nat.le_succ _) _).setCell (p := ⟨w.heap.size + 1, 4, none⟩) (Nat.le_succ _) _).drew)
                    have hNM : ¬ w.heap.size = V.heap.size := by have := hzH.out; omega
                    have hNM2 : ¬ V.heap.size = w.heap.size := by have := hzH.out; omega
                    clear m0 m1 B2 PE PO cP cM cI cN cX Kd hg
                    have hNM3 : ¬ w.heap.size + 1 = V.heap.size := by have := hzH.out; omega
                    have hNM4 : ¬ V.heap.size = w.heap.size + 1 := by have := hzH.out; omega
                    refine wp_region_noPanic ?_
                    refine wp_region_held_drew (S := (fun W0 => W0.cell? ⟨V.heap.size, 2, none⟩ = some (.int .i64 60) ∧ W0.cell? ⟨V.heap.size, 3, none⟩ = some (.int .i64 (q8)) ∧ W0.cell? ⟨V.heap.size, 4, none⟩ = some (.int .i64 0) ∧ W0.cell? ⟨V.heap.size, 5, none⟩ = some (.bool true) ∧ W0.cell? ⟨V.heap.size, 6, none⟩ = some (.bool false))) (by kernel_rfl) r (fun hHeld => ?_)
                    refine zT 0 (v := ?_) rfl ?_ ?_
                    rotate_left 1
                    · (intro w0 hSw; (try dsimp only at hSw); obtain ⟨s1, s2, s3, s4, s5⟩ := hSw; go_simp; try with_reducible rfl)
                    (try simp only [z1, z2, z3]); (try simp only [Act.put, z4, z5, z6])
                    refine zT 1 (v := ?_) rfl ?_ ?_
                    rotate_left 1
                    · (intro w0 hSw; (try dsimp only at hSw); obtain ⟨s1, s2, s3, s4, s5⟩ := hSw; go_simp; try with_reducible rfl)
                    (try simp only [z1, z2, z3]); (try simp only [Act.put, z4, z5, z6])
                    refine zT 2 (v := ?_) rfl ?_ ?_
                    rotate_left 1
                    · (intro w0 hSw; (try dsimp only at hSw); obtain ⟨s1, s2, s3, s4, s5⟩ := hSw; go_simp; try with_reducible rfl)
                    (try simp only [z1, z2, z3]); (try simp only [Act.put, z4, z5, z6])
                    refine zT 3 (v := ?_) rfl ?_ ?_
                    rotate_left 1
                    · (intro w0 hSw; (try dsimp only at hSw); obtain ⟨s1, s2, s3, s4, s5⟩ := hSw; go_simp; try with_reducible rfl)
                    (try simp only [z1, z2, z3]); (try simp only [Act.put, z4, z5, z6])
                    refine zT 4 (v := ?_) rfl ?_ ?_
                    rotate_left 1
                    · (intro w0 hSw; (try dsimp only at hSw); obtain ⟨s1, s2, s3, s4, s5⟩ := hSw; go_simp; try with_reducible rfl)
                    (try simp only [z1, z2, z3]); (try simp only [Act.put, z4, z5, z6])
                    refine wpAnyH_ready (rs := [5]) (by kernel_rfl) (by simp) ?_
                    refine AllReadyH.cons (o := _) rfl (fun K1 hK => ?_) AllReadyH.nil
                    go_simp
                    try dsimp only
                    refine hK _ _ (by obtain ⟨s1, s2, s3, s4, s5⟩ := r; refine ⟨?_, ?_, ?_, ?_, ?_⟩ <;> simp [go_sem, s1, s2, s3, s4, s5, hNM, hNM2]) (fun hHeld => ?_)
                    clear hK K1
                    (try simp only [z1, z2, z3]); (try simp only [Act.put, z4, z5, z6])
                    refine wpAnyH_ready (rs := [6]) (by kernel_rfl) (by simp) ?_
                    refine AllReadyH.cons (o := _) rfl (fun K1 hK => ?_) AllReadyH.nil
                    go_simp
                    try dsimp only
                    refine hK _ _ (by obtain ⟨s1, s2, s3, s4, s5⟩ := r; refine ⟨?_, ?_, ?_, ?_, ?_⟩ <;> simp [go_sem, s1, s2, s3, s4, s5, hNM, hNM2, hNM3, hNM4]) (fun hHeld => ?_)
                    clear hK K1
                    (try simp only [z1, z2, z3]); (try simp only [Act.put, z4, z5, z6])
                    refine wpAnyH_done (by kernel_rfl) ?_ _
                    refine NoPanic.normal ?_
                    go_wp2_with fail
                    simp [bodyPost, results, Tryz.results78, go_sem, q0, q1, q2, q3, b0, b1, b2, b3, b4]
                    exact FH.out
                  | none =>
                    by_cases h8 : k8 < s.size
                    · have h8I : (k8 : Int) < (s.size : Int) := by omega
                      obtain ⟨d0, d1, d2, d3⟩ := Kd.out.rd.rd.cells
                      have Eq : Hid (one8 unK nvL l = .error (some (k8 : Int))) := by
                        have e : endD l (k8, none) = (k8, some (k8 : Int)) := by unfold endD; rw [if_pos ⟨rfl, by rw [hlen]; exact h8⟩]
                        have := Eone.out
                        rw [e] at this
                        exact this
                      clear Eone
                      go_wp2_with fail
                      generalize vc.setCell ⟨V.heap.size + 1, 3, none⟩ (.int .i64 tm) = vd at *
                      clear e0 e1 d0 d1 d2 d3
                      refine Calls.mono (cX.out (k8 : Int) (k8, none) vd Kd.out.rd) ?_
                      rintro e ve ⟨rfl, Re, Ge⟩
                      have Ke : Hid (KE w V.heap.size (V.heap.size + 1) s mb v vf tm (acc.map tgB) (fac.map fdB) (k8, some (k8 : Int)) ve) := Kd.out.step Re Ge
                      have dd : ve.cell? ⟨V.heap.size, 2, none⟩ = some (.int .i64 60) := Ke.out.rd.rd.2.1.2.2.1
                      clear Re Ge Kd
                      go_wp2_with fail
                      obtain ⟨m0, m1, B2⟩ : ve.heap[w.heap.size]? = some ptO ∧ ve.heap[w.heap.size + 1]? = some bdO ∧ Below w.heap.size w ve := ⟨Ke.out.ms, Ke.out.mb, Ke.out.rd.bl⟩
                      have r : ve.cell? ⟨V.heap.size, 2, none⟩ = some (.int .i64 60) ∧ ve.cell? ⟨V.heap.size, 3, none⟩ = some (.int .i64 ((k8 : Int))) ∧ ve.cell? ⟨V.heap.size, 4, none⟩ = some (.int .i64 0) ∧ ve.cell? ⟨V.heap.size, 5, none⟩ = some (.bool true) ∧ ve.cell? ⟨V.heap.size, 6, none⟩ = some (.bool false) := ⟨Ke.out.rd.rd.2.1.2.2.1, Ke.out.rd.rd.2.1.2.2.2.1, Ke.out.rd.rd.2.1.2.2.2.2.1, Ke.out.rd.rd.2.1.2.2.2.2.2.1, Ke.out.rd.rd.2.1.2.2.2.2.2.2⟩
                      obtain ⟨⟨q0, q1, q2, q3⟩, z0, z1, z2, z3⟩ := pt_cells m0
                      obtain ⟨⟨b0, b1, b2, b3, b4⟩, y0, y1, y2, y3, y4⟩ := bd_cells m1
                      have FH : Hid (PST (.returned (.tuple #[.agg #[.string ⟨#[]⟩, .slice none 0 0, .slice none 0 0, .int .i64 0], .agg #[.int .i64 60, .int .i64 ((k8 : Int)), .int .i64 0, .bool true, .bool false]])) ((((((((((ve.setCell ⟨w.heap.size, 0, none⟩ (.string ⟨#[]⟩)).setCell ⟨w.heap.size, 1, none⟩ (.slice none 0 0)).setCell ⟨w.heap.size, 2, none⟩ (.slice none 0 0)).setCell ⟨w.heap.size, 3, none⟩ (.int .i64 0)).setCell ⟨w.heap.size + 1, 0, none⟩ (.int .i64 60)).setCell ⟨w.heap.size + 1, 1, none⟩ (.int .i64 ((k8 : Int)))).setCell ⟨w.heap.size + 1, 2, none⟩ (.int .i64 0)).setCell ⟨w.heap.size + 1, 3, none⟩ (.bool true)).setCell ⟨w.heap.size + 1, 4, none⟩ (.bool false)).drew)) := PE.out (some ((k8 : Int))) _ Eq.out ((((((((((B2.setCell (p := ⟨w.heap.size, 0, none⟩) (Nat.le_refl _) _).setCell (p := ⟨w.heap.size, 1, none⟩) (Nat.le_refl _) _).setCell (p := ⟨w.heap.size, 2, none⟩) (Nat.le_refl _) _).setCell (p := ⟨w.heap.size, 3, none⟩) (Nat.le_refl _) _).setCell (p := ⟨w.heap.size + 1, 0, none⟩) (Nat.le_succ _) _).setCell (p := ⟨w.heap.size + 1, 1, none⟩) (Nat.le_succ _) _).setCell (p := ⟨w.heap.size + 1, 2, none⟩) (Nat.le_succ _) _).setCell (p := ⟨w.heap.size + 1, 3, none⟩) (Nat.le_succ _) _).setCell (p := ⟨w.heap.size + 1, 4, none⟩) (Nat.le_succ _) _).drew)
                      have hNM : ¬ w.heap.size = V.heap.size := by have := hzH.out; omega
                      have hNM2 : ¬ V.heap.size = w.heap.size := by have := hzH.out; omega
                      clear m0 m1 B2 PE PO cP cM cI cN cX Ke hg
                      have hNM3 : ¬ w.heap.size + 1 = V.heap.size := by have := hzH.out; omega
                      have hNM4 : ¬ V.heap.size = w.heap.size + 1 := by have := hzH.out; omega
                      refine wp_region_noPanic ?_
                      refine wp_region_held_drew (S := (fun W0 => W0.cell? ⟨V.heap.size, 2, none⟩ = some (.int .i64 60) ∧ W0.cell? ⟨V.heap.size, 3, none⟩ = some (.int .i64 ((k8 : Int))) ∧ W0.cell? ⟨V.heap.size, 4, none⟩ = some (.int .i64 0) ∧ W0.cell? ⟨V.heap.size, 5, none⟩ = some (.bool true) ∧ W0.cell? ⟨V.heap.size, 6, none⟩ = some (.bool false))) (by kernel_rfl) r (fun hHeld => ?_)
                      refine zT 0 (v := ?_) rfl ?_ ?_
                      rotate_left 1
                      · (intro w0 hSw; (try dsimp only at hSw); obtain ⟨s1, s2, s3, s4, s5⟩ := hSw; go_simp; try with_reducible rfl)
                      (try simp only [z1, z2, z3]); (try simp only [Act.put, z4, z5, z6])
                      refine zT 1 (v := ?_) rfl ?_ ?_
                      rotate_left 1
                      · (intro w0 hSw; (try dsimp only at hSw); obtain ⟨s1, s2, s3, s4, s5⟩ := hSw; go_simp; try with_reducible rfl)
                      (try simp only [z1, z2, z3]); (try simp only [Act.put, z4, z5, z6])
                      refine zT 2 (v := ?_) rfl ?_ ?_
                      rotate_left 1
                      · (intro w0 hSw; (try dsimp only at hSw); obtain ⟨s1, s2, s3, s4, s5⟩ := hSw; go_simp; try with_reducible rfl)
                      (try simp only [z1, z2, z3]); (try simp only [Act.put, z4, z5, z6])
                      refine zT 3 (v := ?_) rfl ?_ ?_
                      rotate_left 1
                      · (intro w0 hSw; (try dsimp only at hSw); obtain ⟨s1, s2, s3, s4, s5⟩ := hSw; go_simp; try with_reducible rfl)
                      (try simp only [z1, z2, z3]); (try simp only [Act.put, z4, z5, z6])
                      refine zT 4 (v := ?_) rfl ?_ ?_
                      rotate_left 1
                      · (intro w0 hSw; (try dsimp only at hSw); obtain ⟨s1, s2, s3, s4, s5⟩ := hSw; go_simp; try with_reducible rfl)
                      (try simp only [z1, z2, z3]); (try simp only [Act.put, z4, z5, z6])
                      refine wpAnyH_ready (rs := [5]) (by kernel_rfl) (by simp) ?_
                      refine AllReadyH.cons (o := _) rfl (fun K1 hK => ?_) AllReadyH.nil
                      go_simp
                      try dsimp only
                      refine hK _ _ (by obtain ⟨s1, s2, s3, s4, s5⟩ := r; refine ⟨?_, ?_, ?_, ?_, ?_⟩ <;> simp [go_sem, s1, s2, s3, s4, s5, hNM, hNM2]) (fun hHeld => ?_)
                      clear hK K1
                      (try simp only [z1, z2, z3]); (try simp only [Act.put, z4, z5, z6])
                      refine wpAnyH_ready (rs := [6]) (by kernel_rfl) (by simp) ?_
                      refine AllReadyH.cons (o := _) rfl (fun K1 hK => ?_) AllReadyH.nil
                      go_simp
                      try dsimp only
                      refine hK _ _ (by obtain ⟨s1, s2, s3, s4, s5⟩ := r; refine ⟨?_, ?_, ?_, ?_, ?_⟩ <;> simp [go_sem, s1, s2, s3, s4, s5, hNM, hNM2, hNM3, hNM4]) (fun hHeld => ?_)
                      clear hK K1
                      (try simp only [z1, z2, z3]); (try simp only [Act.put, z4, z5, z6])
                      refine wpAnyH_done (by kernel_rfl) ?_ _
                      refine NoPanic.normal ?_
                      go_wp2_with fail
                      simp [bodyPost, results, Tryz.results78, go_sem, q0, q1, q2, q3, b0, b1, b2, b3, b4]
                      exact FH.out
                    · have h8I : ¬ (k8 : Int) < (s.size : Int) := by omega
                      obtain ⟨d0, d1, d2, d3⟩ := Kd.out.rd.rd.cells
                      have Eq : Hid (one8 unK nvL l = .ok ⟨m, acc, fac, tm⟩) := by
                        have e : endD l (k8, none) = (k8, none) := by unfold endD; rw [if_neg (by rintro ⟨_, q⟩; rw [hlen] at q; exact h8 q)]
                        have := Eone.out
                        rw [e] at this
                        exact this
                      clear Eone
                      have x0 := Kd.out.r0
                      have x1 := Kd.out.r1
                      have x2 := Kd.out.r2
                      have x3 := Kd.out.r3
                      obtain ⟨⟨q0, q1, q2, q3⟩, z0, z1, z2, z3⟩ := pt_cells Kd.out.ms
                      obtain ⟨⟨b0, b1, b2, b3, b4⟩, y0, y1, y2, y3, y4⟩ := bd_cells Kd.out.mb
                      obtain ⟨a1, n1, c1, ev1⟩ := OT.sliceL Kd.out.ot
                      obtain ⟨a2, n2, c2, ev2⟩ := OF.sliceL Kd.out.of
                      subst ev1
                      subst ev2
                      have F := rone_fin Kd.out Eq.out (fun p w1 vt vf => PO.out p w1 vt vf)
                      rw [hmbH.out] at F
                      have FH : Hid (PST (.returned (.tuple #[.agg #[.string mb, .slice a1 n1 c1, .slice a2 n2 c2, .int .i64 tm], .agg #[.int .i64 0, .int .i64 0, .int .i64 0, .bool false, .bool false]])) (((((((((((vc.setCell ⟨V.heap.size + 1, 3, none⟩ (.int .i64 tm)).setCell ⟨w.heap.size, 0, none⟩ (.string mb)).setCell ⟨w.heap.size, 1, none⟩ (.slice a1 n1 c1)).setCell ⟨w.heap.size, 2, none⟩ (.slice a2 n2 c2)).setCell ⟨w.heap.size, 3, none⟩ (.int .i64 tm)).setCell ⟨w.heap.size + 1, 0, none⟩ (.int .i64 0)).setCell ⟨w.heap.size + 1, 1, none⟩ (.int .i64 0)).setCell ⟨w.heap.size + 1, 2, none⟩ (.int .i64 0)).setCell ⟨w.heap.size + 1, 3, none⟩ (.bool false)).setCell ⟨w.heap.size + 1, 4, none⟩ (.bool false)))) := F
                      clear F Kd Eq PO PE cP cM cI cN cX hg
                      have hnM : ¬ V.heap.size + 1 = w.heap.size := by have := hzH.out; omega
                      have hnM2 : ¬ w.heap.size = V.heap.size + 1 := by have := hzH.out; omega
                      go_wp2_with fail
                      simp [bodyPost, results, Tryz.results78, go_sem, q0, q1, q2, q3, b0, b1, b2, b3, b4]
                      exact FH.out
end Go.Proofs.YtbojljmacheccaaGreatDoor.Ln
