
import Derived.Test.YtbojljmacheccaaGreatDoorLaE
import Derived.Test.YtbojljmacheccaaGreatDoorLaD
import Derived.Test.YtbojljmacheccaaGreatDoorLaB
import Derived.Test.YtbojljmacheccaaGreatDoorLaG
namespace Go.Proofs.YtbojljmacheccaaGreatDoor
open Go.RowKit Go.Shelf
set_option linter.unusedVariables false
set_option linter.unusedSimpArgs false
def serO : Obj := .cells #[.string ⟨#[]⟩, .slice none 0 0, .string ⟨#[]⟩] 88
/-- while a key is read: the reader at N, what is read at R, the result at w's end. -/
structure KP (w : World) (N R : Nat) (s m f : ByteArray) (v : Value) (acc : List TagP) (st : StP) (W : World) : Prop where
  rd : RdA N s st W
  hN : w.heap.size < N
  hR : N < R
  hRl : R < W.heap.size
  r0 : W.cell? ⟨R, 0, none⟩ = some (.string m)
  r1 : W.cell? ⟨R, 1, none⟩ = some v
  r2 : W.cell? ⟨R, 2, none⟩ = some (.string f)
  f1 : W.frozen? ⟨R, 1, none⟩ = false
  f2 : W.frozen? ⟨R, 2, none⟩ = false
  ms : W.heap[w.heap.size]? = some serO
  own : OT W (R + 1) v acc
  bl : Below w.heap.size w W
theorem grown_cell {w w' : World} {N : Nat} (h : w.grownBy w' (some N)) {p : Addr} (hp : p.block < w.heap.size) (hne : p.block ≠ N) : w'.cell? p = w.cell? p := h.cell_far p hp (by simp; exact fun e => hne e)
theorem grown_frozen {w w' : World} {N : Nat} (h : w.grownBy w' (some N)) {p : Addr} (hp : p.block < w.heap.size) (hne : p.block ≠ N) : w'.frozen? p = w.frozen? p := h.frozen_far p hp (by simp; exact fun e => hne e)
theorem OT.grown {w w' : World} {B N : Nat} {v : Value} {l : List TagP} (h : OT w B v l) (hg : w.grownBy w' (some N)) (hN : N < B) : OT w' B v l := by
  refine ⟨h.1, ?_⟩
  rcases h.2 with h2 | ⟨g, cap, cur, e1, e2, e3, e4⟩
  · exact Or.inl h2
  · exact Or.inr ⟨g, cap, cur, e1, e2, by rw [hg.block g (Array.getElem?_eq_some_iff.1 e3).1 (by simp; omega)]; exact e3, e4⟩
theorem OT.mono {w : World} {B C : Nat} {v : Value} {l : List TagP} (h : OT w B v l) (hc : C ≤ B) : OT w C v l := by
  refine ⟨h.1, ?_⟩
  rcases h.2 with h2 | ⟨g, cap, cur, e1, e2, e3⟩
  · exact Or.inl h2
  · exact Or.inr ⟨g, cap, cur, e1, by omega, e3⟩
theorem KP.step {w : World} {N R : Nat} {s m f : ByteArray} {v : Value} {acc : List TagP} {st st' : StP} {W W' : World} (h : KP w N R s m f v acc st W) (hr : RdA N s st' W') (hg : W.grownBy W' (some N)) : KP w N R s m f v acc st' W' where
  rd := hr
  hN := h.hN
  hR := h.hR
  hRl := Nat.lt_of_lt_of_le h.hRl hg.size
  r0 := by have := h.hR; rw [grown_cell hg (p := ⟨R, 0, none⟩) h.hRl (by simp; omega)]; exact h.r0
  r1 := by have := h.hR; rw [grown_cell hg (p := ⟨R, 1, none⟩) h.hRl (by simp; omega)]; exact h.r1
  r2 := by have := h.hR; rw [grown_cell hg (p := ⟨R, 2, none⟩) h.hRl (by simp; omega)]; exact h.r2
  f1 := by have := h.hR; rw [grown_frozen hg (p := ⟨R, 1, none⟩) h.hRl (by simp; omega)]; exact h.f1
  f2 := by have := h.hR; rw [grown_frozen hg (p := ⟨R, 2, none⟩) h.hRl (by simp; omega)]; exact h.f2
  ms := by have := h.hN; have := h.hR; have := h.hRl; rw [hg.block w.heap.size (by omega) (by simp; omega)]; exact h.ms
  own := h.own.grown hg (by have := h.hR; omega)
  bl := by
    have := h.hN
    exact h.bl.trans ⟨hg.os, hg.tape, hg.output, hg.size, fun k hk => hg.block k (by have := h.bl.size; omega) (by simp; omega)⟩
theorem KP.rows {w : World} {N R : Nat} {s m f : ByteArray} {v v' : Value} {acc acc' : List TagP} {st : StP} {W W' : World} (h : KP w N R s m f v acc st W) (hg : W.grownBy W' v.ownBlock) (ho : OT W' (R + 1) v' acc') : KP w N R s m f v' acc' st (W'.setCell ⟨R, 1, none⟩ v') := by
  have hb : Below (R + 1) W W' := grown_below h.own (by have := h.hRl; omega) hg
  have hR := h.hR
  have hN := h.hN
  have hsz := hb.size
  have hRl := h.hRl
  have kc : ∀ i, W'.cell? ⟨R, i, none⟩ = W.cell? ⟨R, i, none⟩ := fun i => hb.cell (p := ⟨R, i, none⟩) (Nat.lt_succ_self _)
  have kf : ∀ i, W'.frozen? ⟨R, i, none⟩ = W.frozen? ⟨R, i, none⟩ := fun i => hb.frozen (p := ⟨R, i, none⟩) (Nat.lt_succ_self _)
  have hk : ∀ j, j ≠ R → (W'.setCell ⟨R, 1, none⟩ v').heap[j]? = W'.heap[j]? := fun j hj => Below.heap_setCell _ _ _ _ hj
  have hr : RdA N s st W' := h.rd.below hb (by omega)
  have hgs := grown_set W' R 1 v'
  have hrd : RdA N s st (W'.setCell ⟨R, 1, none⟩ v') := by
    obtain ⟨a0, a1, a2, a3, a4, a5⟩ := hr
    refine ⟨by simpa using a0, ?_, ?_, ?_, ?_, ?_⟩
    · rw [grown_cell hgs (p := ⟨N, 0, none⟩) a0 (by simp; omega)]; exact a1
    · rw [grown_cell hgs (p := ⟨N, 1, none⟩) a0 (by simp; omega)]; exact a2
    · rw [grown_cell hgs (p := ⟨N, 2, none⟩) a0 (by simp; omega)]; exact a3
    · rw [grown_frozen hgs (p := ⟨N, 1, none⟩) a0 (by simp; omega)]; exact a4
    · rw [grown_frozen hgs (p := ⟨N, 2, none⟩) a0 (by simp; omega)]; exact a5
  exact {
    rd := hrd
    hN := hN
    hR := hR
    hRl := by simp; omega
    r0 := by rw [World.cell?_setCell_other _ _ _ _ (by intro e; injection e with e1 e2; cases e2)]; rw [kc]; exact h.r0
    r1 := World.cell?_setCell_same _ _ _ (by rw [kc]; exact h.r1)
    r2 := by rw [World.cell?_setCell_other _ _ _ _ (by intro e; injection e with e1 e2; cases e2)]; rw [kc]; exact h.r2
    f1 := by simp [go_sem]; rw [kf]; exact h.f1
    f2 := by simp [go_sem]; rw [kf]; exact h.f2
    ms := by rw [hk _ (by omega), hb.block _ (by omega)]; exact h.ms
    own := ho.grown hgs (by omega)
    bl := (h.bl.trans (hb.mono (by omega))).trans ⟨rfl, rfl, rfl, by simp, fun k hkk => hk k (by omega)⟩ }
end Go.Proofs.YtbojljmacheccaaGreatDoor

namespace Go.Proofs.YtbojljmacheccaaGreatDoor
open Go.RowKit Go.Shelf
attribute [local go_sem] Oper.semAt_some
set_option linter.unusedVariables false
set_option linter.unusedSimpArgs false
/-- what Parse tells: a series and an error. -/
def errF (fl : Option Int) (n : Int) : Value := match fl with
  | some p => atV p
  | none => erN n
def resE (l : List UInt8) : Value := errF (stopP l).2 (rightN (serP l))
def resS (l : List UInt8) : SerP := if (stopP l).2 = none ∧ rightN (serP l) = 0 then serP l else ⟨⟨#[]⟩, [], ⟨#[]⟩⟩
theorem step_append_run {P : Program} {ops : Array Oper} {o : Oper} {a : Act} {w : World} {K : Act → World → Prop} {Q : Exit → Act → World → Prop} {E : Prop}
    (hg : o.guard = none) (s x : Operand) (t : TypeId) (hop : o.op = Op.call { callee := Callee.builtin Builtin.append, args := #[s, x], argTypes := #[t, t] })
    (v y v' : Value) (w' : World) (hs : a.eval s = v) (hx : a.eval x = y) (hr : (Builtin.append_ #[t, t] o.type #[v, y]).run P w = .ok v' w') (hK : K (a.put o.dst v') w') :
    if Region.wanted o (yielded ops a.tmps) = true then Oper.wp P o a w K Q else E := by
  have hw : Region.wanted o (yielded ops a.tmps) = true := by simp [Region.wanted, hg]
  rw [if_pos hw]
  unfold Oper.wp execOp
  simp only [hop, resolve, invoke, builtin, Sem.run_bind, Sem.run_pure, Result.andThen_ok, List.map_toArray, List.map_cons, List.map_nil, hs, hx, hr]
  exact hK
theorem KP.start (w : World) (s : ByteArray) (W : World) (m : ByteArray) (st : StP) (N : Nat) (hN : w.heap.size < N) (hr : RdA N s st W) (hb : Below w.heap.size w W) (hm : W.heap[w.heap.size]? = some serO) : KP w N W.heap.size s m ⟨#[]⟩ (.slice none 0 0) [] st (W.alloc (.cells #[.string m, .slice none 0 0, .string ⟨#[]⟩] 88)) where
  rd := hr.below ((Below.refl _ W).alloc (Nat.le_refl _) _) hr.1
  hN := hN
  hR := hr.1
  hRl := by simp
  r0 := by simp [go_sem]
  r1 := by simp [go_sem]
  r2 := by simp [go_sem]
  f1 := by simp [go_sem]
  f2 := by simp [go_sem]
  ms := by rw [Below.heap_alloc W _ _ (Array.getElem?_eq_some_iff.1 hm).1]; exact hm
  own := OT.nil _ _
  bl := hb.alloc hb.size _
theorem set3 {B : Nat} {a w : World} {N : Nat} {v0 v1 v2 : Value} (h : Below B a w) (hN : B ≤ N) : Below B a (((w.setCell ⟨N, 0, none⟩ v0).setCell ⟨N, 1, none⟩ v1).setCell ⟨N, 2, none⟩ v2) :=
  ((h.setCell (p := ⟨N, 0, none⟩) hN _).setCell (p := ⟨N, 1, none⟩) hN _).setCell (p := ⟨N, 2, none⟩) hN _
theorem OT.set3 {w : World} {N : Nat} {v v0 v1 v2 : Value} {l : List TagP} (h : OT w (N + 1) v l) : OT (((w.setCell ⟨N, 0, none⟩ v0).setCell ⟨N, 1, none⟩ v1).setCell ⟨N, 2, none⟩ v2) N v l :=
  (((h.grown (grown_set _ N 0 _) (Nat.lt_succ_self _)).grown (grown_set _ N 1 _) (Nat.lt_succ_self _)).grown (grown_set _ N 2 _) (Nat.lt_succ_self _)).mono (Nat.le_succ _)
theorem ms_cells {W : World} {M : Nat} (h : W.heap[M]? = some serO) : (W.cell? ⟨M, 0, none⟩ = some (.string ⟨#[]⟩) ∧ W.cell? ⟨M, 1, none⟩ = some (.slice none 0 0) ∧ W.cell? ⟨M, 2, none⟩ = some (.string ⟨#[]⟩)) ∧ W.frozen? ⟨M, 0, none⟩ = false ∧ W.frozen? ⟨M, 1, none⟩ = false ∧ W.frozen? ⟨M, 2, none⟩ = false := by
  refine ⟨⟨?_, ?_, ?_⟩, ?_, ?_, ?_⟩ <;> simp [World.cell?, World.frozen?, h, serO]
theorem KP.field {w : World} {N R : Nat} {s m f : ByteArray} {v : Value} {acc : List TagP} {st : StP} {W : World} (h : KP w N R s m f v acc st W) (g : ByteArray) : KP w N R s m g v acc st (W.setCell ⟨R, 2, none⟩ (.string g)) := by
  have hR := h.hR
  have hN := h.hN
  have hRl := h.hRl
  have hgs := grown_set W R 2 (.string g)
  have hk : ∀ j, j ≠ R → (W.setCell ⟨R, 2, none⟩ (.string g)).heap[j]? = W.heap[j]? := fun j hj => Below.heap_setCell _ _ _ _ hj
  have hrd : RdA N s st (W.setCell ⟨R, 2, none⟩ (.string g)) := by
    obtain ⟨a0, a1, a2, a3, a4, a5⟩ := h.rd
    refine ⟨by simpa using a0, ?_, ?_, ?_, ?_, ?_⟩
    · rw [grown_cell hgs (p := ⟨N, 0, none⟩) a0 (by simp; omega)]; exact a1
    · rw [grown_cell hgs (p := ⟨N, 1, none⟩) a0 (by simp; omega)]; exact a2
    · rw [grown_cell hgs (p := ⟨N, 2, none⟩) a0 (by simp; omega)]; exact a3
    · rw [grown_frozen hgs (p := ⟨N, 1, none⟩) a0 (by simp; omega)]; exact a4
    · rw [grown_frozen hgs (p := ⟨N, 2, none⟩) a0 (by simp; omega)]; exact a5
  exact {
    rd := hrd
    hN := hN
    hR := hR
    hRl := by simp; omega
    r0 := by rw [World.cell?_setCell_other _ _ _ _ (by intro e; injection e with e1 e2; cases e2)]; exact h.r0
    r1 := by rw [World.cell?_setCell_other _ _ _ _ (by intro e; injection e with e1 e2; cases e2)]; exact h.r1
    r2 := World.cell?_setCell_same _ _ _ h.r2
    f1 := by simp [go_sem]; exact h.f1
    f2 := by simp [go_sem]; exact h.f2
    ms := by rw [hk _ (by omega)]; exact h.ms
    own := h.own.grown hgs (by omega)
    bl := h.bl.trans ⟨rfl, rfl, rfl, by simp, fun k hkk => hk k (by omega)⟩ }
set_option maxRecDepth 100000 in
set_option maxHeartbeats 16000000 in
theorem parse_any (s : ByteArray) (w : World) (hs : s.size ≤ 4000000) (hT : UT w) (hg : ET w) :
    Calls Tryz.prog 24 #[.string s] w fun e w' => ∃ v, e = .returned (.tuple #[.agg #[.string (resS s.data.toList).m, v, .string (resS s.data.toList).f], resE s.data.toList]) ∧ OT w' w.heap.size v (resS s.data.toList).t ∧ Below w.heap.size w w' := by
  obtain ⟨l, hl⟩ : ∃ l, l = s.data.toList := ⟨_, rfl⟩
  have hW : Hid (∀ N st W, RdA N s st W → Below w.heap.size w W → st.1 ≤ l.length → Calls Tryz.prog 92 #[.pointer (some ⟨N, 0, none⟩)] W fun e w' => e = .returned (.string (ba (wordP l st).1)) ∧ RdA N s (wordP l st).2 w' ∧ W.grownBy w' (some N)) := fun N st W h hb hst => by rw [hl] at hst ⊢; exact word_k N s st W h (ET_below hg hb) hs hst
  have hF : Hid (∀ N c st W, RdA N s st W → st.1 ≤ l.length → Calls Tryz.prog 93 #[.pointer (some ⟨N, 0, none⟩), .string ⟨#[c]⟩] W fun e w' => e = .returned (.bool (folP l c st)) ∧ RdA N s (nextP l c st) w' ∧ W.grownBy w' (some N)) := fun N c st W h hst => by rw [hl] at hst ⊢; exact follows_k N s c st W h hs hst
  have hM : Hid (∀ N c st W, RdA N s st W → st.1 ≤ l.length → Calls Tryz.prog 94 #[.pointer (some ⟨N, 0, none⟩), .string ⟨#[c]⟩] W fun e w' => e = .returned undef ∧ RdA N s (mustP l c st) w' ∧ W.grownBy w' (some N)) := fun N c st W h hst => by rw [hl] at hst ⊢; exact must_k N s c st W h hs hst
  have hE : Hid (∀ N st W, RdA N s st W → st.1 ≤ l.length → Calls Tryz.prog 95 #[.pointer (some ⟨N, 0, none⟩)] W fun e w' => e = .returned undef ∧ RdA N s (endP l st) w' ∧ W.grownBy w' (some N)) := fun N st W h hst => by rw [hl] at hst ⊢; exact end_k N s st W h hs hst
  have hlen : Hid (l.length ≤ 4000000) := by rw [hl, ← Lib.size_eq]; exact hs
  rw [← hl]
  clear hl
  obtain ⟨W0, hW0⟩ : ∃ W0, W0 = (w.alloc (.cells #[.string ⟨#[]⟩, .slice none 0 0, .string ⟨#[]⟩] 88)).alloc (.cells #[.string s, .int .i64 0, .nilIface] 142) := ⟨_, rfl⟩
  have b0 : Hid (Below w.heap.size w W0) := by rw [hW0]; exact ((Below.refl _ w).alloc (Nat.le_refl _) _).alloc (by simp) _
  have m0 : Hid (W0.heap[w.heap.size]? = some serO) := by
    rw [hW0, Below.heap_alloc _ _ _ (by simp)]; exact heap_alloc_new w serO
  have R0 : Hid (RdA (w.heap.size + 1) s (0, none) W0) := by rw [hW0]; exact ⟨by simp, by simp [go_sem], by simp [go_sem], by simp [go_sem, fV], by simp [go_sem], by simp [go_sem]⟩
  have hW0H : Hid (W0 = (w.alloc (.cells #[.string ⟨#[]⟩, .slice none 0 0, .string ⟨#[]⟩] 88)).alloc (.cells #[.string s, .int .i64 0, .nilIface] 142)) := hW0
  clear hW0
  go_enter Tryz.func24, Tryz.ntmps24
  go_wp2_with fail
  rw [← hW0H.out]
  refine Calls.mono (hW.out _ _ _ R0.out b0.out (Nat.zero_le _)) ?_
  rintro e w1 ⟨rfl, R1, G1⟩
  have G1' : W0.grownBy w1 (some (w.heap.size + 1)) := G1
  have b1 : Below w.heap.size w w1 := b0.out.trans ⟨G1'.os, G1'.tape, G1'.output, G1'.size, fun k hk => G1'.block k (by have := b0.out.size; omega) (by simp; omega)⟩
  have m1 : w1.heap[w.heap.size]? = some serO := by rw [G1'.block _ (Array.getElem?_eq_some_iff.1 m0.out).1 (by simp)]; exact m0.out
  have hKP : Hid (KP w (w.heap.size + 1) w1.heap.size s (ba (measP l).1) ⟨#[]⟩ (.slice none 0 0) [] (measP l).2 (w1.alloc (.cells #[.string (ba (measP l).1), .slice none 0 0, .string ⟨#[]⟩] 88))) := KP.start w s w1 _ _ _ (Nat.lt_succ_self _) R1 b1 m1
  have hml : Hid ((measP l).2.1 ≤ l.length) := measP_le l
  have hmL : Hid (tagsR l (measP l).2 [] = tagsL l) := rfl
  clear R1 G1 G1' b1 m1 b0 m0 R0
  go_wp2_with fail
  obtain ⟨mb, hmb⟩ : ∃ mb, mb = ba (measP l).1 := ⟨_, rfl⟩
  obtain ⟨st0, hst0⟩ : ∃ st0, st0 = (measP l).2 := ⟨_, rfl⟩
  have eR : Hid (w1.heap.size = w1.heap.size) := rfl
  have hmbH : Hid (mb = ba (measP l).1) := hmb
  rw [← hst0] at hml hmL
  rw [← hmb, ← hst0] at hKP
  rw [show (wordP l (0, none)).1 = (measP l).1 from rfl, ← hmb]
  clear hmb hst0 eR
  generalize w1.alloc (.cells #[.string mb, .slice none 0 0, .string ⟨#[]⟩] 88) = wL at *
  generalize w1.heap.size = R at *
  go_loopg [6] (l.length - st0.1) (fun k x wr => ∃ st acc v, k = l.length - st.1 ∧ Hid (st.1 ≤ l.length) ∧ Hid (acc.length ≤ st.1) ∧ Hid (tagsR l st acc = tagsL l) ∧ Hid (KP w (w.heap.size + 1) R s mb ⟨#[]⟩ v acc st wr))
  case atStart => exact ⟨st0, [], _, rfl, hml, Nat.zero_le _, hmL, hKP⟩
  case round =>
    obtain ⟨st, acc, v, hgk, hle, hal, hR, hK⟩ := hrel
    clear hKP hml hmL
    have hgkH : Hid (gk = l.length - st.1) := hgk
    clear hgk
    have cF : Hid (Calls Tryz.prog 93 #[.pointer (some ⟨w.heap.size + 1, 0, none⟩), .string ⟨#[44]⟩] wr fun e w' => e = .returned (.bool (folP l 44 st)) ∧ RdA (w.heap.size + 1) s (nextP l 44 st) w' ∧ wr.grownBy w' (some (w.heap.size + 1))) := hF.out _ 44 st wr hK.out.rd hle.out
    cases hf : folP l 44 st with
    | true =>
      rw [hf] at cF
      have hfH : Hid (folP l 44 st = true) := hf
      have en : nextP l 44 st = (st.1 + 1, none) := by unfold nextP; rw [hf]; rfl
      rw [en] at cF
      have hlt : st.1 < l.length := (fol_lt hf).2.1
      clear hf en
      obtain ⟨st1, hst1⟩ : ∃ st1, st1 = ((st.1 + 1, none) : StP) := ⟨_, rfl⟩
      rw [← hst1] at cF
      have l1 : Hid (st1.1 ≤ l.length) := by rw [hst1]; exact hlt
      have w1l := wordP_le l1.out
      have m1l := mustP_le (c := 61) w1l.2
      have l2 : Hid ((wordP l st1).2.1 ≤ l.length) := w1l.2
      have l3 : Hid ((mustP l 61 (wordP l st1).2).1 ≤ l.length) := m1l.2
      have w2l := wordP_le l3.out
      have l4 : Hid ((wordP l (mustP l 61 (wordP l st1).2)).2.1 ≤ l.length) := w2l.2
      have hmeas : Hid (l.length - (wordP l (mustP l 61 (wordP l st1).2)).2.1 < l.length - st.1) := by
        have e1 : st1.1 = st.1 + 1 := by rw [hst1]
        have a1 := w1l.1
        have a2 := m1l.1
        have a3 := w2l.1
        have a4 := w2l.2
        show l.length - (wordP l (mustP l 61 (wordP l st1).2)).2.1 < l.length - st.1
        omega
      have hal4 : Hid ((acc ++ [(ba (wordP l st1).1, ba (wordP l (mustP l 61 (wordP l st1).2)).1)]).length ≤ (wordP l (mustP l 61 (wordP l st1).2)).2.1) := by
        have e1 : st1.1 = st.1 + 1 := by rw [hst1]
        have a1 := w1l.1
        have a2 := m1l.1
        have a3 := w2l.1
        have a4 := hal.out
        show (acc ++ [(ba (wordP l st1).1, ba (wordP l (mustP l 61 (wordP l st1).2)).1)]).length ≤ (wordP l (mustP l 61 (wordP l st1).2)).2.1
        rw [List.length_append, List.length_singleton]
        omega
      have hR2 : Hid (tagsR l (wordP l (mustP l 61 (wordP l st1).2)).2 (acc ++ [(ba (wordP l st1).1, ba (wordP l (mustP l 61 (wordP l st1).2)).1)]) = tagsL l) := by
        have h9 := hR.out
        rw [tagsR_step acc hfH.out, ← hst1] at h9
        exact h9
      have hst1H : Hid (st1 = ((st.1 + 1, none) : StP)) := hst1
      clear hlt w1l m1l w2l hst1 hfH
      go_wp2_with fail
      refine Calls.mono cF.out ?_
      rintro e wa ⟨rfl, Ra, Ga⟩
      have Ka : Hid (KP w (w.heap.size + 1) R s mb ⟨#[]⟩ v acc st1 wa) := hK.out.step Ra Ga
      clear Ra Ga cF
      go_wp2_with fail
      refine Calls.mono (hW.out _ st1 wa Ka.out.rd Ka.out.bl l1.out) ?_
      rintro e wb ⟨rfl, Rb, Gb⟩
      have Kb : Hid (KP w (w.heap.size + 1) R s mb ⟨#[]⟩ v acc (wordP l st1).2 wb) := Ka.out.step Rb Gb
      clear Rb Gb
      obtain ⟨tk, htk⟩ : ∃ tk, tk = ba (wordP l st1).1 := ⟨_, rfl⟩
      obtain ⟨st2, hst2⟩ : ∃ st2, st2 = (wordP l st1).2 := ⟨_, rfl⟩
      rw [← htk, ← hst2] at hR2 hal4
      rw [← htk]
      rw [← hst2] at Kb l2 l3 l4 hmeas
      clear htk hst2
      go_wp2_with fail
      refine Calls.mono (hM.out _ 61 st2 wb Kb.out.rd l2.out) ?_
      rintro e wc ⟨rfl, Rc, Gc⟩
      have Kc : Hid (KP w (w.heap.size + 1) R s mb ⟨#[]⟩ v acc (mustP l 61 st2) wc) := Kb.out.step Rc Gc
      clear Rc Gc
      obtain ⟨st3, hst3⟩ : ∃ st3, st3 = mustP l 61 st2 := ⟨_, rfl⟩
      rw [← hst3] at hR2 hal4 Kc l3 l4 hmeas
      clear hst3
      have cV : Hid (∀ W', W' = wc.drew → Calls Tryz.prog 92 #[.pointer (some ⟨w.heap.size + 1, 0, none⟩)] W' fun e w' => e = .returned (.string (ba (wordP l st3).1)) ∧ KP w (w.heap.size + 1) R s mb ⟨#[]⟩ v acc (wordP l st3).2 w') := fun W' e => by
        subst e
        have Kd : KP w (w.heap.size + 1) R s mb ⟨#[]⟩ v acc st3 wc.drew := Kc.out.step (Kc.out.rd.below (Below.refl _ wc).drew Kc.out.rd.1) (grown_of_below _ (Below.refl _ wc).drew)
        exact (hW.out _ st3 _ Kd.rd Kd.bl l3.out).mono fun e w' hx => ⟨hx.1, Kd.step hx.2.1 hx.2.2⟩
      have c1 : wc.cell? ⟨R, 1, none⟩ = some v := Kc.out.r1
      have c1d : wc.drew.cell? ⟨R, 1, none⟩ = some v := Kc.out.r1
      obtain ⟨tv, htv⟩ : ∃ tv, tv = ba (wordP l st3).1 := ⟨_, rfl⟩
      obtain ⟨st4, hst4⟩ : ∃ st4, st4 = (wordP l st3).2 := ⟨_, rfl⟩
      rw [← htv, ← hst4] at hR2 hal4 cV
      rw [← hst4] at l4 hmeas
      clear htv hst4
      have hA : Hid (∀ wd, KP w (w.heap.size + 1) R s mb ⟨#[]⟩ v acc st4 wd → ∃ v' we, (∀ W, W = wd.alloc (.cells #[.string tk, .string tv] 102) → (Builtin.append_ #[29, 29] 29 #[v, .slice (some ⟨wd.heap.size, 0, none⟩) 1 1]).run Tryz.prog W = .ok v' we) ∧ we.cell? ⟨R, 1, none⟩ = some v ∧ we.frozen? ⟨R, 1, none⟩ = false ∧ KP w (w.heap.size + 1) R s mb ⟨#[]⟩ v' (acc ++ [(tk, tv)]) st4 (we.setCell ⟨R, 1, none⟩ v') ∧ ∃ a n c, v' = .slice a n c) := fun wd Kd => by
        have hb : Below wd.heap.size wd (wd.alloc (.cells #[.string tk, .string tv] 102)) := (Below.refl _ wd).alloc (Nat.le_refl _) _
        have KW : KP w (w.heap.size + 1) R s mb ⟨#[]⟩ v acc st4 (wd.alloc (.cells #[.string tk, .string tv] 102)) := Kd.step (Kd.rd.below hb Kd.rd.1) (grown_of_below _ hb)
        obtain ⟨v', we, hr, ho, hgw, _⟩ := appT _ (R + 1) v acc [(tk, tv)] KW.own (by have := KW.hRl; omega) (some ⟨wd.heap.size, 0, none⟩) 1 (Or.inr ⟨wd.heap.size, 0, rfl, by simp, fun i t ht => by
          cases i with
          | zero => simp at ht; subst ht; exact ⟨by simp [go_sem], by simp [go_sem]⟩
          | succ i => simp at ht⟩) (by have a1 := hal4.out; have a2 := l4.out; have a3 := hlen.out; rw [List.length_append] at a1; simp only [List.length_singleton] at a1 ⊢; omega)
        have hbw := grown_below KW.own (by have := KW.hRl; omega) hgw
        obtain ⟨a, c, e, _⟩ := ho.tin
        exact ⟨v', we, fun W e => by subst e; exact hr, by rw [hbw.cell (p := ⟨R, 1, none⟩) (Nat.lt_succ_self _)]; exact KW.r1, by rw [hbw.frozen (p := ⟨R, 1, none⟩) (Nat.lt_succ_self _)]; exact KW.f1, KW.rows hgw ho, a, _, c, e⟩
      have hD2 : Hid (∀ wd, KP w (w.heap.size + 1) R s mb ⟨#[]⟩ v acc st4 wd → (wd.alloc (.cells #[.string tk, .string tv] 102)).cell? ⟨R, 1, none⟩ = some v) := fun wd Kd => by rw [((Below.refl _ wd).alloc (Nat.le_refl _) _).cell (p := ⟨R, 1, none⟩) Kd.hRl]; exact Kd.r1
      go_wp2_with fail
      refine wp_region_noPanic ?_
      refine wp_region_held_drew (S := fun _ => True) (by kernel_rfl) trivial (fun hHeld => ?_)
      refine wpAnyH_take (i := 0) (oi := { dst := some 14, op := Op.fieldAddr 88 (Operand.tmp 5) 1, type := 0, pos := "series.go:31", after := #[], guard := none }) (v := ?_) rfl (by kernel_rfl) (by kernel_rfl) (by kernel_rfl) (fun _ _ _ h => h) (Or.inl ⟨by rfl, ?_⟩) (by assumption) ?_
      rotate_left 1
      · (intro w0 hSw; (try dsimp only at hSw); go_simp; try with_reducible rfl)
      (try simp only [Act.put, List.setIfInBounds_toArray, List.set_cons_zero, List.set_cons_succ])
      refine wpAnyH_take (i := 2) (oi := { dst := some 16, op := Op.move (Operand.tmp 6), type := 9, pos := "series.go:31", after := #[], guard := none }) (v := ?_) rfl (by kernel_rfl) (by kernel_rfl) (by kernel_rfl) (fun _ _ _ h => h) (Or.inl ⟨by rfl, ?_⟩) (by assumption) ?_
      rotate_left 1
      · (intro w0 hSw; (try dsimp only at hSw); go_simp; try with_reducible rfl)
      (try simp only [Act.put, List.setIfInBounds_toArray, List.set_cons_zero, List.set_cons_succ])
      refine wpAnyH_ready (rs := [1, 3]) (by kernel_rfl) (by simp) ?_
      refine AllReadyH.cons (o := { dst := some 15, op := Op.load 29 (Operand.tmp 14), type := 29, pos := "series.go:31", after := #[{ on := 0, ground := Ground.data }], guard := none }) rfl (fun K hK => ?_) ?_
      · go_simp
        try dsimp only
        refine hK.out _ _ trivial (fun hHeld => ?_)
        clear hK K
        (try simp only [Act.put, List.setIfInBounds_toArray, List.set_cons_zero, List.set_cons_succ])
        refine wpAnyH_ready (rs := [3]) (by kernel_rfl) (by simp) ?_
        refine AllReadyH.cons (o := { dst := some 17, op := Op.call { callee := Callee.value (Operand.func 92), args := #[Operand.tmp 4], argTypes := #[142] }, type := 9, pos := "series.go:31", after := #[], guard := none }) rfl (fun K hK => ?_) AllReadyH.nil
        go_simp
        go_at_call 92
        refine Calls.mono (cV.out _ rfl) ?_
        rintro e wd ⟨rfl, Kd⟩
        have d1 := Kd.r1
        have d2 := hD2.out wd Kd
        obtain ⟨v', we, hr6, e1, e2, Ke, va, vn, vc, ev⟩ := hA.out wd Kd
        subst ev
        try dsimp only
        refine hK.out _ _ trivial (fun hHeld => ?_)
        clear hK K
        (try simp only [Act.put, List.setIfInBounds_toArray, List.set_cons_zero, List.set_cons_succ])
        refine wpAnyH_take (i := 4) (oi := { dst := some 18, op := Op.build 102 #[(0, Operand.tmp 16), (1, Operand.tmp 17)], type := 102, pos := "series.go:31", after := #[{ on := 2, ground := Ground.data }, { on := 3, ground := Ground.data }], guard := none }) (v := ?_) rfl (by kernel_rfl) (by kernel_rfl) (by kernel_rfl) (fun _ _ _ h => h) (Or.inl ⟨by rfl, ?_⟩) (by assumption) ?_
        rotate_left 1
        · (intro w0 hSw; (try dsimp only at hSw); go_simp; try with_reducible rfl)
        (try simp only [Act.put, List.setIfInBounds_toArray, List.set_cons_zero, List.set_cons_succ])
        refine wpAnyH_ready (rs := [5]) (by kernel_rfl) (by simp) ?_
        refine AllReadyH.cons (o := { dst := some 19, op := Op.buildSlice 29 1 #[(0, Operand.tmp 18)], type := 29, pos := "series.go:31", after := #[{ on := 4, ground := Ground.data }], guard := none }) rfl (fun K hK => ?_) AllReadyH.nil
        go_simp
        try dsimp only
        refine hK.out _ _ trivial (fun hHeld => ?_)
        clear hK K
        (try simp only [Act.put, List.setIfInBounds_toArray, List.set_cons_zero, List.set_cons_succ])
        refine wpAnyH_ready (rs := [6]) (by kernel_rfl) (by simp) ?_
        refine AllReadyH.cons (o := { dst := some 20, op := Op.call { callee := Callee.builtin Builtin.append, args := #[Operand.tmp 15, Operand.tmp 19], argTypes := #[29, 29] }, type := 29, pos := "series.go:31", after := #[{ on := 1, ground := Ground.data }, { on := 5, ground := Ground.data }, { on := 3, ground := Ground.chain }], guard := none }) rfl (fun K hK => ?_) AllReadyH.nil
        refine step_append_run rfl (.tmp 15) (.tmp 19) 29 rfl _ _ _ _ rfl rfl (hr6 _ rfl) ?_
        refine hK.out _ _ trivial (fun hHeld => ?_)
        clear hK K
        (try simp only [Act.put, List.setIfInBounds_toArray, List.set_cons_zero, List.set_cons_succ])
        refine wpAnyH_take (i := 7) (oi := { dst := some 21, op := Op.fieldAddr 88 (Operand.tmp 5) 1, type := 0, pos := "series.go:31", after := #[{ on := 0, ground := Ground.phase }, { on := 1, ground := Ground.phase }, { on := 2, ground := Ground.phase }, { on := 3, ground := Ground.phase }, { on := 4, ground := Ground.phase }, { on := 5, ground := Ground.phase }, { on := 6, ground := Ground.phase }], guard := none }) (v := ?_) rfl (by kernel_rfl) (by kernel_rfl) (by kernel_rfl) (fun _ _ _ h => h) (Or.inl ⟨by rfl, ?_⟩) (by assumption) ?_
        rotate_left 1
        · (intro w0 hSw; (try dsimp only at hSw); go_simp; try with_reducible rfl)
        (try simp only [Act.put, List.setIfInBounds_toArray, List.set_cons_zero, List.set_cons_succ])
        refine wpAnyH_ready (rs := [8]) (by kernel_rfl) (by simp) ?_
        refine AllReadyH.cons (o := { dst := none, op := Op.store 29 (Operand.tmp 21) (Operand.tmp 20), type := 0, pos := "series.go:31", after := #[{ on := 7, ground := Ground.data }, { on := 6, ground := Ground.data }, { on := 6, ground := Ground.chain }, { on := 0, ground := Ground.phase }, { on := 1, ground := Ground.phase }, { on := 2, ground := Ground.phase }, { on := 3, ground := Ground.phase }, { on := 4, ground := Ground.phase }, { on := 5, ground := Ground.phase }, { on := 6, ground := Ground.phase }], guard := none }) rfl (fun K hK => ?_) AllReadyH.nil
        go_simp
        try dsimp only
        refine hK.out _ _ trivial (fun hHeld => ?_)
        clear hK K
        (try simp only [Act.put, List.setIfInBounds_toArray, List.set_cons_zero, List.set_cons_succ])
        refine wpAnyH_done (by kernel_rfl) ?_ _
        refine NoPanic.normal ?_
        have hrel2 : Hid _ := Ke
        go_wp2_with fail
        go_roundg (l.length - st4.1)
        case measure => rw [hgkH.out]; exact hmeas.out
        case rel => exact ⟨st4, _, _, rfl, l4, hal4, hR2, hrel2⟩
      refine AllReadyH.cons (o := { dst := some 17, op := Op.call { callee := Callee.value (Operand.func 92), args := #[Operand.tmp 4], argTypes := #[142] }, type := 9, pos := "series.go:31", after := #[], guard := none }) rfl (fun K hK => ?_) AllReadyH.nil
      go_simp
      go_at_call 92
      refine Calls.mono (cV.out _ rfl) ?_
      rintro e wd ⟨rfl, Kd⟩
      have d1 := Kd.r1
      have d2 := hD2.out wd Kd
      obtain ⟨v', we, hr6, e1, e2, Ke, va, vn, vc, ev⟩ := hA.out wd Kd
      subst ev
      try dsimp only
      refine hK.out _ _ trivial (fun hHeld => ?_)
      clear hK K
      (try simp only [Act.put, List.setIfInBounds_toArray, List.set_cons_zero, List.set_cons_succ])
      refine wpAnyH_take (i := 4) (oi := { dst := some 18, op := Op.build 102 #[(0, Operand.tmp 16), (1, Operand.tmp 17)], type := 102, pos := "series.go:31", after := #[{ on := 2, ground := Ground.data }, { on := 3, ground := Ground.data }], guard := none }) (v := ?_) rfl (by kernel_rfl) (by kernel_rfl) (by kernel_rfl) (fun _ _ _ h => h) (Or.inl ⟨by rfl, ?_⟩) (by assumption) ?_
      rotate_left 1
      · (intro w0 hSw; (try dsimp only at hSw); go_simp; try with_reducible rfl)
      (try simp only [Act.put, List.setIfInBounds_toArray, List.set_cons_zero, List.set_cons_succ])
      refine wpAnyH_ready (rs := [1, 5]) (by kernel_rfl) (by simp) ?_
      refine AllReadyH.cons (o := { dst := some 15, op := Op.load 29 (Operand.tmp 14), type := 29, pos := "series.go:31", after := #[{ on := 0, ground := Ground.data }], guard := none }) rfl (fun K hK => ?_) ?_
      · go_simp
        try dsimp only
        refine hK.out _ _ trivial (fun hHeld => ?_)
        clear hK K
        (try simp only [Act.put, List.setIfInBounds_toArray, List.set_cons_zero, List.set_cons_succ])
        refine wpAnyH_ready (rs := [5]) (by kernel_rfl) (by simp) ?_
        refine AllReadyH.cons (o := { dst := some 19, op := Op.buildSlice 29 1 #[(0, Operand.tmp 18)], type := 29, pos := "series.go:31", after := #[{ on := 4, ground := Ground.data }], guard := none }) rfl (fun K hK => ?_) AllReadyH.nil
        go_simp
        try dsimp only
        refine hK.out _ _ trivial (fun hHeld => ?_)
        clear hK K
        (try simp only [Act.put, List.setIfInBounds_toArray, List.set_cons_zero, List.set_cons_succ])
        refine wpAnyH_ready (rs := [6]) (by kernel_rfl) (by simp) ?_
        refine AllReadyH.cons (o := { dst := some 20, op := Op.call { callee := Callee.builtin Builtin.append, args := #[Operand.tmp 15, Operand.tmp 19], argTypes := #[29, 29] }, type := 29, pos := "series.go:31", after := #[{ on := 1, ground := Ground.data }, { on := 5, ground := Ground.data }, { on := 3, ground := Ground.chain }], guard := none }) rfl (fun K hK => ?_) AllReadyH.nil
        refine step_append_run rfl (.tmp 15) (.tmp 19) 29 rfl _ _ _ _ rfl rfl (hr6 _ rfl) ?_
        refine hK.out _ _ trivial (fun hHeld => ?_)
        clear hK K
        (try simp only [Act.put, List.setIfInBounds_toArray, List.set_cons_zero, List.set_cons_succ])
        refine wpAnyH_take (i := 7) (oi := { dst := some 21, op := Op.fieldAddr 88 (Operand.tmp 5) 1, type := 0, pos := "series.go:31", after := #[{ on := 0, ground := Ground.phase }, { on := 1, ground := Ground.phase }, { on := 2, ground := Ground.phase }, { on := 3, ground := Ground.phase }, { on := 4, ground := Ground.phase }, { on := 5, ground := Ground.phase }, { on := 6, ground := Ground.phase }], guard := none }) (v := ?_) rfl (by kernel_rfl) (by kernel_rfl) (by kernel_rfl) (fun _ _ _ h => h) (Or.inl ⟨by rfl, ?_⟩) (by assumption) ?_
        rotate_left 1
        · (intro w0 hSw; (try dsimp only at hSw); go_simp; try with_reducible rfl)
        (try simp only [Act.put, List.setIfInBounds_toArray, List.set_cons_zero, List.set_cons_succ])
        refine wpAnyH_ready (rs := [8]) (by kernel_rfl) (by simp) ?_
        refine AllReadyH.cons (o := { dst := none, op := Op.store 29 (Operand.tmp 21) (Operand.tmp 20), type := 0, pos := "series.go:31", after := #[{ on := 7, ground := Ground.data }, { on := 6, ground := Ground.data }, { on := 6, ground := Ground.chain }, { on := 0, ground := Ground.phase }, { on := 1, ground := Ground.phase }, { on := 2, ground := Ground.phase }, { on := 3, ground := Ground.phase }, { on := 4, ground := Ground.phase }, { on := 5, ground := Ground.phase }, { on := 6, ground := Ground.phase }], guard := none }) rfl (fun K hK => ?_) AllReadyH.nil
        go_simp
        try dsimp only
        refine hK.out _ _ trivial (fun hHeld => ?_)
        clear hK K
        (try simp only [Act.put, List.setIfInBounds_toArray, List.set_cons_zero, List.set_cons_succ])
        refine wpAnyH_done (by kernel_rfl) ?_ _
        refine NoPanic.normal ?_
        have hrel2 : Hid _ := Ke
        go_wp2_with fail
        go_roundg (l.length - st4.1)
        case measure => rw [hgkH.out]; exact hmeas.out
        case rel => exact ⟨st4, _, _, rfl, l4, hal4, hR2, hrel2⟩
      refine AllReadyH.cons (o := { dst := some 19, op := Op.buildSlice 29 1 #[(0, Operand.tmp 18)], type := 29, pos := "series.go:31", after := #[{ on := 4, ground := Ground.data }], guard := none }) rfl (fun K hK => ?_) AllReadyH.nil
      go_simp
      try dsimp only
      refine hK.out _ _ trivial (fun hHeld => ?_)
      clear hK K
      (try simp only [Act.put, List.setIfInBounds_toArray, List.set_cons_zero, List.set_cons_succ])
      refine wpAnyH_ready (rs := [1]) (by kernel_rfl) (by simp) ?_
      refine AllReadyH.cons (o := { dst := some 15, op := Op.load 29 (Operand.tmp 14), type := 29, pos := "series.go:31", after := #[{ on := 0, ground := Ground.data }], guard := none }) rfl (fun K hK => ?_) AllReadyH.nil
      go_simp
      try dsimp only
      refine hK.out _ _ trivial (fun hHeld => ?_)
      clear hK K
      (try simp only [Act.put, List.setIfInBounds_toArray, List.set_cons_zero, List.set_cons_succ])
      refine wpAnyH_ready (rs := [6]) (by kernel_rfl) (by simp) ?_
      refine AllReadyH.cons (o := { dst := some 20, op := Op.call { callee := Callee.builtin Builtin.append, args := #[Operand.tmp 15, Operand.tmp 19], argTypes := #[29, 29] }, type := 29, pos := "series.go:31", after := #[{ on := 1, ground := Ground.data }, { on := 5, ground := Ground.data }, { on := 3, ground := Ground.chain }], guard := none }) rfl (fun K hK => ?_) AllReadyH.nil
      refine step_append_run rfl (.tmp 15) (.tmp 19) 29 rfl _ _ _ _ rfl rfl (hr6 _ rfl) ?_
      refine hK.out _ _ trivial (fun hHeld => ?_)
      clear hK K
      (try simp only [Act.put, List.setIfInBounds_toArray, List.set_cons_zero, List.set_cons_succ])
      refine wpAnyH_take (i := 7) (oi := { dst := some 21, op := Op.fieldAddr 88 (Operand.tmp 5) 1, type := 0, pos := "series.go:31", after := #[{ on := 0, ground := Ground.phase }, { on := 1, ground := Ground.phase }, { on := 2, ground := Ground.phase }, { on := 3, ground := Ground.phase }, { on := 4, ground := Ground.phase }, { on := 5, ground := Ground.phase }, { on := 6, ground := Ground.phase }], guard := none }) (v := ?_) rfl (by kernel_rfl) (by kernel_rfl) (by kernel_rfl) (fun _ _ _ h => h) (Or.inl ⟨by rfl, ?_⟩) (by assumption) ?_
      rotate_left 1
      · (intro w0 hSw; (try dsimp only at hSw); go_simp; try with_reducible rfl)
      (try simp only [Act.put, List.setIfInBounds_toArray, List.set_cons_zero, List.set_cons_succ])
      refine wpAnyH_ready (rs := [8]) (by kernel_rfl) (by simp) ?_
      refine AllReadyH.cons (o := { dst := none, op := Op.store 29 (Operand.tmp 21) (Operand.tmp 20), type := 0, pos := "series.go:31", after := #[{ on := 7, ground := Ground.data }, { on := 6, ground := Ground.data }, { on := 6, ground := Ground.chain }, { on := 0, ground := Ground.phase }, { on := 1, ground := Ground.phase }, { on := 2, ground := Ground.phase }, { on := 3, ground := Ground.phase }, { on := 4, ground := Ground.phase }, { on := 5, ground := Ground.phase }, { on := 6, ground := Ground.phase }], guard := none }) rfl (fun K hK => ?_) AllReadyH.nil
      go_simp
      try dsimp only
      refine hK.out _ _ trivial (fun hHeld => ?_)
      clear hK K
      (try simp only [Act.put, List.setIfInBounds_toArray, List.set_cons_zero, List.set_cons_succ])
      refine wpAnyH_done (by kernel_rfl) ?_ _
      refine NoPanic.normal ?_
      have hrel2 : Hid _ := Ke
      go_wp2_with fail
      go_roundg (l.length - st4.1)
      case measure => rw [hgkH.out]; exact hmeas.out
      case rel => exact ⟨st4, _, _, rfl, l4, hal4, hR2, hrel2⟩

    | false =>
      rw [hf] at cF
      have en : nextP l 44 st = st := by unfold nextP; rw [hf]; rfl
      rw [en] at cF
      have hTL : tagsL l = (acc, st) := by rw [← hR.out]; exact tagsR_end acc hf hle.out
      have hser : Hid (serP l = ⟨mb, acc, ba (wordP l (mustP l 32 st)).1⟩) := by
        show serP l = ⟨mb, acc, ba (wordP l (mustP l 32 st)).1⟩
        unfold serP fieldP; rw [hTL, hmbH.out]
      have hstop : Hid (stopP l = endP l (wordP l (mustP l 32 st)).2) := by
        show stopP l = endP l (wordP l (mustP l 32 st)).2
        unfold stopP fieldP; rw [hTL]
      have l2 : Hid ((mustP l 32 st).1 ≤ l.length) := (mustP_le hle.out).2
      have l3 : Hid ((wordP l (mustP l 32 st)).2.1 ≤ l.length) := (wordP_le l2.out).2
      clear hf en hTL hR
      go_wp2_with fail
      refine Calls.mono cF.out ?_
      rintro e wa ⟨rfl, Ra, Ga⟩
      have Ka : Hid (KP w (w.heap.size + 1) R s mb ⟨#[]⟩ v acc st wa) := hK.out.step Ra Ga
      clear Ra Ga cF hK
      go_wp2_with fail
      refine Calls.mono (hM.out _ 32 st wa Ka.out.rd hle.out) ?_
      rintro e wb ⟨rfl, Rb, Gb⟩
      have Kb : Hid (KP w (w.heap.size + 1) R s mb ⟨#[]⟩ v acc (mustP l 32 st) wb) := Ka.out.step Rb Gb
      clear Rb Gb Ka
      obtain ⟨st2, hst2⟩ : ∃ st2, st2 = mustP l 32 st := ⟨_, rfl⟩
      rw [← hst2] at Kb l2 l3 hser hstop
      clear hst2
      go_wp2_with fail
      refine Calls.mono (hW.out _ st2 wb Kb.out.rd Kb.out.bl l2.out) ?_
      rintro e wc ⟨rfl, Rc, Gc⟩
      have Kc : Hid (KP w (w.heap.size + 1) R s mb ⟨#[]⟩ v acc (wordP l st2).2 wc) := Kb.out.step Rc Gc
      clear Rc Gc Kb
      obtain ⟨fb, hfb⟩ : ∃ fb, fb = ba (wordP l st2).1 := ⟨_, rfl⟩
      obtain ⟨st3, hst3⟩ : ∃ st3, st3 = (wordP l st2).2 := ⟨_, rfl⟩
      rw [← hfb] at hser
      rw [← hst3] at Kc l3 hstop
      rw [← hfb]
      clear hst3 hfb
      have Kd : Hid (KP w (w.heap.size + 1) R s mb fb v acc st3 (wc.setCell ⟨R, 2, none⟩ (.string fb))) := Kc.out.field fb
      have c2 : wc.cell? ⟨R, 2, none⟩ = some (.string ⟨#[]⟩) := Kc.out.r2
      have c2f : wc.frozen? ⟨R, 2, none⟩ = false := Kc.out.f2
      go_wp2_with fail
      refine Calls.mono (hE.out _ st3 _ Kd.out.rd l3.out) ?_
      rintro e we ⟨rfl, Re, Ge⟩
      have Ke : Hid (KP w (w.heap.size + 1) R s mb fb v acc (endP l st3) we) := Kd.out.step Re Ge
      clear Re Ge Kd Kc c2 c2f
      obtain ⟨st4, hst4⟩ : ∃ st4, st4 = endP l st3 := ⟨_, rfl⟩
      rw [← hst4] at Ke hstop
      clear hst4
      obtain ⟨hKrd, hKb⟩ : RdA (w.heap.size + 1) s st4 we ∧ Below w.heap.size w we := ⟨Ke.out.rd, Ke.out.bl⟩
      obtain ⟨at4, fl4⟩ := st4
      have hres : Hid (resE l = errF fl4 (rightN ⟨mb, acc, fb⟩)) := by
        show resE l = errF fl4 (rightN ⟨mb, acc, fb⟩)
        unfold resE; rw [hstop.out, hser.out]
      have hresS : Hid (resS l = if fl4 = none ∧ rightN ⟨mb, acc, fb⟩ = 0 then ⟨mb, acc, fb⟩ else ⟨⟨#[]⟩, [], ⟨#[]⟩⟩) := by
        show resS l = if fl4 = none ∧ rightN ⟨mb, acc, fb⟩ = 0 then ⟨mb, acc, fb⟩ else ⟨⟨#[]⟩, [], ⟨#[]⟩⟩
        unfold resS; rw [hstop.out, hser.out]
      clear hser hstop
      obtain ⟨⟨z0, z1, z2⟩, y0, y1, y2⟩ := ms_cells Ke.out.ms
      obtain ⟨_, _, n1, n2, nf1, nf2⟩ := hKrd
      have hr0 := Ke.out.r0
      have hr1 := Ke.out.r1
      have hr2 := Ke.out.r2
      have hNM := Ke.out.hN
      cases fl4 with
      | some p =>
        simp only [fV, atV_eq] at n2
        have bfin : Hid (Below w.heap.size w (((we.setCell ⟨w.heap.size, 0, none⟩ (.string ⟨#[]⟩)).setCell ⟨w.heap.size, 1, none⟩ (.slice none 0 0)).setCell ⟨w.heap.size, 2, none⟩ (.string ⟨#[]⟩)).drew) := (set3 hKb (Nat.le_refl _)).drew
        go_wp2_with fail
        go_region
        all_goals go_wp2_with fail
        refine bodyPost_ret (v := .tuple #[.agg #[.string ⟨#[]⟩, .slice none 0 0, .string ⟨#[]⟩], .iface 105 (atY p)]) ?_ rfl ?_
        · simp [results, Tryz.results24, go_sem, z0, z1, z2]
        · rw [hres.out, hresS.out]
          exact ⟨.slice none 0 0, rfl, OT.nil _ _, bfin.out⟩
      | none =>
        simp only [fV] at n2
        obtain ⟨va, vc, ev, hvc, hti⟩ := Ke.out.own.tin
        subst ev
        have hbig : acc.length ≤ 9223372036854775807 := by have a1 := hal.out; have a2 := hle.out; have a3 := hlen.out; omega
        have hUT : UT we := hT.below hKb (Nat.le_refl _)
        have hsi : SerIn we va ⟨mb, acc, fb⟩ := ⟨hti, hbig⟩
        have cR : Hid (Calls Tryz.prog 23 #[.agg #[.string mb, .slice va acc.length vc, .string fb]] we fun e w' => e = .returned (erN (rightN ⟨mb, acc, fb⟩)) ∧ Below we.heap.size we w') := right_any va vc ⟨mb, acc, fb⟩ we hsi hUT
        clear hUT hsi
        clear hvc hti hbig
        have hS : Hid (∀ wf e, Below we.heap.size we wf → KP w (w.heap.size + 1) R s mb fb (.slice va acc.length vc) acc (at4, none) wf ∧ (wf.setCell ⟨w.heap.size + 1, 2, none⟩ e).cell? ⟨w.heap.size + 1, 2, none⟩ = some e ∧ (∀ i, (wf.setCell ⟨w.heap.size + 1, 2, none⟩ e).cell? ⟨R, i, none⟩ = wf.cell? ⟨R, i, none⟩) ∧ (∀ i, (wf.setCell ⟨w.heap.size + 1, 2, none⟩ e).cell? ⟨w.heap.size, i, none⟩ = wf.cell? ⟨w.heap.size, i, none⟩) ∧ (∀ i, (wf.setCell ⟨w.heap.size + 1, 2, none⟩ e).frozen? ⟨w.heap.size, i, none⟩ = wf.frozen? ⟨w.heap.size, i, none⟩) ∧ Below w.heap.size w (wf.setCell ⟨w.heap.size + 1, 2, none⟩ e) ∧ OT (wf.setCell ⟨w.heap.size + 1, 2, none⟩ e) (w.heap.size + 1) (.slice va acc.length vc) acc) := fun wf e hb => by
          have Kf : KP w (w.heap.size + 1) R s mb fb (.slice va acc.length vc) acc (at4, none) wf := Ke.out.step (Ke.out.rd.below hb Ke.out.rd.1) (grown_of_below _ hb)
          have hgs := grown_set wf (w.heap.size + 1) 2 e
          have hlt := Kf.hRl
          have hRR := Kf.hR
          refine ⟨Kf, World.cell?_setCell_same _ _ _ Kf.rd.2.2.2.1, fun i => grown_cell hgs (p := ⟨R, i, none⟩) hlt (by simp; omega), fun i => grown_cell hgs (p := ⟨w.heap.size, i, none⟩) (by simp; omega) (by simp), fun i => grown_frozen hgs (p := ⟨w.heap.size, i, none⟩) (by simp; omega) (by simp), Kf.bl.trans ⟨rfl, rfl, rfl, by simp, fun k hk => Below.heap_setCell _ _ _ _ (by show k ≠ w.heap.size + 1; omega)⟩, (Kf.own.grown hgs (by omega)).mono (by omega)⟩
        obtain ⟨n, hn⟩ : ∃ n, n = rightN ⟨mb, acc, fb⟩ := ⟨_, rfl⟩
        rw [← hn] at hres hresS cR
        clear hn Ke z0 z1 z2 y0 y1 y2 nf1 n1
        by_cases h0 : n = 0
        · subst h0
          simp only [erN, if_true] at cR
          go_wp2_with fail
          refine Calls.mono cR.out ?_
          rintro e wf ⟨rfl, Bf⟩
          obtain ⟨Kf, j0, j1, j2, j3, j4, j5⟩ := hS.out wf .nilIface Bf
          have j4H : Hid _ := j4
          have j5H : Hid _ := j5
          obtain ⟨⟨z0, z1, z2⟩, y0, y1, y2⟩ := ms_cells Kf.ms
          have i0 := (j1 0).trans Kf.r0
          have i1 := (j1 1).trans Kf.r1
          have i2 := (j1 2).trans Kf.r2
          have k0 := (j2 0).trans z0
          have k1 := (j2 1).trans z1
          have k2 := (j2 2).trans z2
          have x0 := (j3 0).trans y0
          have x1 := (j3 1).trans y1
          have x2 := (j3 2).trans y2
          have q2 := Kf.rd.2.2.2.1
          have qf := Kf.rd.2.2.2.2.2
          simp only [fV] at q2
          clear j1 j2 j3 j4 j5 z0 z1 z2 y0 y1 y2 Kf
          go_wp2_with fail
          refine bodyPost_ret (v := .tuple #[.agg #[.string mb, .slice va acc.length vc, .string fb], .nilIface]) ?_ rfl ?_
          · simp [results, Tryz.results24, go_sem, k0, k1, k2]
          · rw [hres.out, hresS.out]
            rw [if_pos (by simp)]
            exact ⟨.slice va acc.length vc, rfl, OT.set3 (w := wf.setCell ⟨w.heap.size + 1, 2, none⟩ .nilIface) j5H.out, set3 j4H.out (Nat.le_refl _)⟩
        · simp only [erN, if_neg h0] at cR
          go_wp2_with fail
          refine Calls.mono cR.out ?_
          rintro e wf ⟨rfl, Bf⟩
          obtain ⟨Kf, j0, j1, j2, j3, j4, j5⟩ := hS.out wf (.iface 33 (.int .i64 n)) Bf
          have j4H : Hid _ := j4
          have j5H : Hid _ := j5
          obtain ⟨⟨z0, z1, z2⟩, y0, y1, y2⟩ := ms_cells Kf.ms
          have i0 := (j1 0).trans Kf.r0
          have i1 := (j1 1).trans Kf.r1
          have i2 := (j1 2).trans Kf.r2
          have k0 := (j2 0).trans z0
          have k1 := (j2 1).trans z1
          have k2 := (j2 2).trans z2
          have x0 := (j3 0).trans y0
          have x1 := (j3 1).trans y1
          have x2 := (j3 2).trans y2
          have q2 := Kf.rd.2.2.2.1
          have qf := Kf.rd.2.2.2.2.2
          simp only [fV] at q2
          clear j1 j2 j3 j4 j5 z0 z1 z2 y0 y1 y2 Kf
          go_wp2_with fail
          go_region
          all_goals go_wp2_with fail
          refine bodyPost_ret (v := .tuple #[.agg #[.string ⟨#[]⟩, .slice none 0 0, .string ⟨#[]⟩], .iface 33 (.int .i64 n)]) ?_ rfl ?_
          · simp [results, Tryz.results24, go_sem, k0, k1, k2]
          · rw [hres.out, hresS.out]
            rw [if_neg (fun hx => h0 hx.2)]
            simp only [errF, erN, if_neg h0]
            exact ⟨.slice none 0 0, rfl, OT.nil _ _, (set3 j4H.out (Nat.le_refl _)).drew⟩
end Go.Proofs.YtbojljmacheccaaGreatDoor

namespace Go.Proofs.YtbojljmacheccaaGreatDoor
open Go.RowKit Go.Shelf
attribute [local go_sem] Oper.semAt_some
set_option linter.unusedVariables false
set_option linter.unusedSimpArgs false
theorem printT_le {s : SerP} (h : rightN s = 0) : (printT s).length ≤ 1000000 := by
  obtain ⟨h1, h2, h3, h4⟩ := right_parts h
  have e1 := escL_len s.m.data.toList
  have e2 := escL_len s.f.data.toList
  have e3 := flat_tag_len s.t h4
  have m1 : s.m.data.toList.length = s.m.size := (Lib.size_eq _).symm
  have m2 : s.f.data.toList.length = s.f.size := (Lib.size_eq _).symm
  unfold printT
  simp only [List.length_append, List.length_cons]
  omega
theorem serM_any (s : SerP) (h : rightN s = 0) : SerM s := by
  obtain ⟨h1, h2, h3, h4⟩ := right_parts h
  exact ⟨mk_extract _ (by omega), mk_extract _ (by omega), fun t ht => ⟨mk_extract _ (by have := (h4 t ht).1; omega), mk_extract _ (by have := (h4 t ht).2; omega)⟩⟩
theorem res_print {s : SerP} (h : rightN s = 0) : resS (printT s) = s ∧ resE (printT s) = .nilIface := by
  obtain ⟨h1, h2⟩ := parse_print s
  constructor
  · unfold resS
    rw [h1, if_pos ⟨h2, h⟩]
  · unfold resE
    rw [h1, h2, h]
    rfl
/-- a series in three cells of a block of one's own. -/
def SB (w : World) (N : Nat) (m : ByteArray) (v : Value) (f : ByteArray) (W : World) : Prop := (N < W.heap.size ∧ Below w.heap.size w W) ∧ (W.cell? ⟨N, 0, none⟩ = some (.string m) ∧ W.cell? ⟨N, 1, none⟩ = some v ∧ W.cell? ⟨N, 2, none⟩ = some (.string f)) ∧ W.frozen? ⟨N, 0, none⟩ = false ∧ W.frozen? ⟨N, 1, none⟩ = false ∧ W.frozen? ⟨N, 2, none⟩ = false
theorem SB.new (w : World) (m : ByteArray) (v : Value) (f : ByteArray) (hv : ∃ a n c, v = .slice a n c) (W : World) (hb : Below w.heap.size w W) : SB w W.heap.size m v f (W.alloc (.cells #[.string m, v, .string f] 88)) := by
  obtain ⟨a, n, c, rfl⟩ := hv
  exact ⟨⟨by simp, hb.alloc hb.size _⟩, ⟨by simp [go_sem], by simp [go_sem], by simp [go_sem]⟩, by simp [go_sem], by simp [go_sem], by simp [go_sem]⟩
theorem SB.below {w : World} {N : Nat} {m f : ByteArray} {v : Value} {W W' : World} (h : SB w N m v f W) (hb : Below W.heap.size W W') : SB w N m v f W' := by
  obtain ⟨⟨a1, a2⟩, ⟨h0, h1, h2⟩, f0, f1, f2⟩ := h
  refine ⟨⟨Nat.lt_of_lt_of_le a1 hb.size, a2.trans (hb.mono a2.size)⟩, ⟨?_, ?_, ?_⟩, ?_, ?_, ?_⟩
  · rw [hb.cell (p := ⟨N, 0, none⟩) a1]; exact h0
  · rw [hb.cell (p := ⟨N, 1, none⟩) a1]; exact h1
  · rw [hb.cell (p := ⟨N, 2, none⟩) a1]; exact h2
  · rw [hb.frozen (p := ⟨N, 0, none⟩) a1]; exact f0
  · rw [hb.frozen (p := ⟨N, 1, none⟩) a1]; exact f1
  · rw [hb.frozen (p := ⟨N, 2, none⟩) a1]; exact f2
theorem SB.set {w : World} {N : Nat} {m f m' f' : ByteArray} {v v' : Value} {W : World} (h : SB w N m v f W) (hN : w.heap.size ≤ N) : SB w N m' v' f' (((W.setCell ⟨N, 0, none⟩ (.string m')).setCell ⟨N, 1, none⟩ v').setCell ⟨N, 2, none⟩ (.string f')) := by
  obtain ⟨⟨a1, a2⟩, ⟨h0, h1, h2⟩, f0, f1, f2⟩ := h
  refine ⟨⟨by simpa using a1, set3 a2 hN⟩, ⟨?_, ?_, ?_⟩, by simp [go_sem, f0], by simp [go_sem, f1], by simp [go_sem, f2]⟩ <;> simp [go_sem, h0, h1, h2]
end Go.Proofs.YtbojljmacheccaaGreatDoor
