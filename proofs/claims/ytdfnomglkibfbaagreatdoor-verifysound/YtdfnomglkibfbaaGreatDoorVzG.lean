
import Derived.Test.YtdfnomglkibfbaaGreatDoorVkLq
import Derived.Test.YtdfnomglkibfbaaGreatDoorVzE
import Derived.Test.YtdfnomglkibfbaaGreatDoorVfO
import Derived.ArgAppend
namespace Go.Proofs.YtdfnomglkibfbaaGreatDoor.Vf
open Go.RowKit Go.Maps
set_option linter.unusedVariables false
set_option linter.unusedSimpArgs false
set_option maxRecDepth 100000
/-! ### plain: one round of looking for the dead -/
theorem dm_end {l : List InP} (J : Jmp l) : ∀ k, k < l.length → (dmP l k).1 l.length = none
  | 0, h => by
    show (if l.length = 0 then some [] else none : Option (List Int)) = none
    rw [if_neg (by omega)]
  | k + 1, hk => by
    have ih := dm_end J k (by omega)
    obtain ⟨t, ht⟩ : ∃ t, l[k]? = some t := ⟨_, List.getElem?_eq_getElem (by omega)⟩
    have d0 : dropT (dmP l k).1 k l.length = none := by unfold dropT; split; rfl; exact ih
    cases hm : (dmP l k).1 k with
    | none => rw [dmP_none ht hm]; exact d0
    | some s =>
      rw [dmP_some ht hm]
      show stepT (dmP l k).1 k t s l.length = none
      have jn : leadJ t.c s = true → l.length ≠ t.a.toNat := fun q => by
        obtain ⟨j1, j2⟩ := J k t ht (lead_nine q)
        omega
      unfold stepT
      split
      · rw [bring_off (by omega)]
        split
        · rw [bring_off (jn (by assumption))]; exact d0
        · exact d0
      · split
        · rw [bring_off (jn (by assumption))]; exact d0
        · exact d0
structure StO (l : List InP) (h : Nat → Int) (k : Nat) (t : InP) (s : List Int) : Prop where
  tk : (rowF t.c).tk ≤ s.length
  tr : ∀ x ∈ s, Tr x
  l1 : (t.c = 10 ∨ t.c = 11) → 1 ≤ s.length
  ln : s.length ≤ 65536
  cl : (certP t.c s).length ≤ 65536
  c1 : 1 ≤ t.c
  c2 : t.c ≤ 13
  ja : leadJ t.c s = true → 0 ≤ t.a ∧ t.a < (l.length : Int)
  lj : leadJ t.c s = true → ∀ o, dropT (dmP l k).1 k t.a.toNat = some o → o.length = (certP t.c s).length
  lg : ∀ o, (if leadJ t.c s = true then bringT (dropT (dmP l k).1 k) t.a.toNat (certP t.c s) else dropT (dmP l k).1 k) (k + 1) = some o → o.length = (certP t.c s).length
theorem sto_of {l : List InP} {h : Nat → Int} (H : HOk l h) (F : Fil l) (J : Jmp l) {k : Nat} {t : InP} {s : List Int} (ht : l[k]? = some t) (hm : (dmP l k).1 k = some s) : StO l h k t s := by
  have hk : k < l.length := (List.getElem?_eq_some_iff.1 ht).1
  have d := dIn_all H F J k (by omega)
  obtain ⟨f1, f2⟩ := F k t ht
  have e1 := d.len k s hm hk
  have e2 := H.tk k t ht
  have e3 := cert_len (c := t.c) (s := s) f1 f2 (by omega)
  rw [e1] at e3
  have mx := H.mx k t ht
  have lw := H.low k hk
  have dd := d.drop
  have jm : leadJ t.c s = true → DIn l h (k + 1) (bringT (dropT (dmP l k).1 k) t.a.toNat (certP t.c s)) := fun q => by
    obtain ⟨j1, j2⟩ := J k t ht (lead_nine q)
    exact dd.bring (by omega) (by omega) (fun _ => by rw [e3]; exact (H.jp k t ht (lead_nine q) j1 j2).symm) (cert_tr (d.tr k s hm))
  have d1 : DIn l h (k + 1) (if leadJ t.c s = true then bringT (dropT (dmP l k).1 k) t.a.toNat (certP t.c s) else dropT (dmP l k).1 k) := by
    split
    · exact jm (by assumption)
    · exact dd
  refine ⟨by omega, d.tr k s hm, fun q => ?_, by omega, by omega, f1, f2, fun q => ?_, fun q o ho => ?_, fun o ho => ?_⟩
  · have : (rowF t.c).tk = 1 := by rcases q with q | q <;> rw [q] <;> rfl
    omega
  · obtain ⟨j1, j2⟩ := J k t ht (lead_nine q)
    omega
  · obtain ⟨j1, j2⟩ := J k t ht (lead_nine q)
    have := dd.len _ o ho (by omega)
    have := H.jp k t ht (lead_nine q) j1 j2
    omega
  · by_cases hl : k + 1 < l.length
    · have := d1.len _ o ho hl
      have := H.nx k t ht hl
      omega
    · have e : k + 1 = l.length := by omega
      have n0 : dropT (dmP l k).1 k (k + 1) = none := by
        unfold dropT
        rw [if_neg (by omega), e]
        exact dm_end J k hk
      split at ho
      · rename_i q
        obtain ⟨j1, j2⟩ := J k t ht (lead_nine q)
        rw [bring_off (by omega), n0] at ho
        cases ho
      · rw [n0] at ho; cases ho
/-! ### in memory -/
def nat2 (l : List Nat) : List Int := l.map fun (j : Nat) => (j : Int)
def DX (w : World) (m : MpT) (q : Nat) (nv : Value) (L : List Nat) (W : World) : Prop := Below w.heap.size w W ∧ (∃ c, c ≤ q ∧ MT W w.heap.size m c nv.ownBlock) ∧ I6.OE W (w.heap.size + 1) nv (nat2 L)
theorem DX.ne {w W : World} {m : MpT} {q : Nat} {nv : Value} {L : List Nat} (h : DX w m q nv L W) : some w.heap.size ≠ nv.ownBlock := fun e => by
  have := (h.2.2.bound e.symm).1
  omega
theorem DX.below {w W W' : World} {m : MpT} {q : Nat} {nv : Value} {L : List Nat} (h : DX w m q nv L W) (hb : Below W.heap.size W W') : DX w m q nv L W' := by
  have hn := h.ne
  obtain ⟨h1, ⟨c, hc, h2⟩, h3⟩ := h
  exact ⟨h1.trans (hb.mono h1.size), ⟨c, hc, h2.below hn hb⟩, h3.below hb (Nat.le_refl _)⟩
theorem DX.mapped {w W W' : World} {m m' : MpT} {q q' : Nat} {nv : Value} {L : List Nat} (h : DX w m q nv L W) (hg : W.grownBy W' (some w.heap.size)) (hm : ∃ c, c ≤ q' ∧ MT W' w.heap.size m' c nv.ownBlock) : DX w m' q' nv L W' := by
  refine ⟨h.1.grown hg h.1.size (fun j e => by cases e; exact Nat.le_refl _), hm, h.2.2.keep fun k hk => ?_⟩
  have := h.2.2.bound hk
  exact hg.block k this.2 (fun e => by injection e; omega)
theorem DX.take {w W : World} {m : MpT} {q : Nat} {nv : Value} {L : List Nat} (h : DX w m q nv L W) (k : Nat) (hk : k ≤ 65536) : Calls Tryz.prog 83 #[.map (some w.heap.size), .int .i64 (k : Int)] W fun e w' => ∃ v b, e = .returned (.tuple #[v, .bool b]) ∧ Lkd w' w.heap.size nv.ownBlock (m k) v b ∧ DX w (dropT m k) q nv L w' ∧ W.grownBy w' (some w.heap.size) := by
  obtain ⟨c, hc, h2⟩ := h.2.1
  exact (take_tr h2 k (by omega)).mono (fun e w' ⟨v, b, h1, h3, ⟨c', hc', h4⟩, h5⟩ => ⟨v, b, h1, h3, h.mapped h5 ⟨c', by omega, h4⟩, h5⟩)
theorem DX.bring {w W : World} {m : MpT} {q : Nat} {nv : Value} {L : List Nat} (h : DX w m q nv L W) (hq : q ≤ 1000000) (k : Nat) (hk : k ≤ 65537) {v : Value} {s : List Int} {B : Nat} (hB : ∀ x, v.ownBlock = some x → x ≠ w.heap.size ∧ some x ≠ nv.ownBlock) (hv : T8.OE W B v s) (hn : s.length ≤ 65536) (hm : ∀ o, m k = some o → o.length = s.length) : Calls Tryz.prog 86 #[.map (some w.heap.size), .int .i64 (k : Int), v, .func (.func 87) #[] #[]] W fun e w' => e = .returned (.tuple #[]) ∧ DX w (bringT m k s) (q + 1) nv L w' ∧ W.grownBy w' (some w.heap.size) := by
  obtain ⟨c, hc, h2⟩ := h.2.1
  obtain ⟨a, cc, rfl, hcc, hin, hpl⟩ := hv.ein
  refine (bring_tr h2 h.ne (fun x hx => (h.2.2.bound hx).2) k (by omega) hcc ⟨?_, hin, fun x hx => ?_⟩ hm hn (by omega)).mono (fun e w' ⟨h1, ⟨c', hc', h4⟩, h5⟩ => ⟨h1, h.mapped h5 ⟨c', by omega, h4⟩, h5⟩)
  · rcases hpl with h | ⟨b, h, _⟩
    · exact Or.inl h
    · exact Or.inr ⟨b, 0, h⟩
  · rcases hpl with h | ⟨b, h, h6, h7⟩
    · rw [h] at hx; cases hx
    · rw [h] at hx
      injection hx with hx
      subst hx
      have := hB b (by rw [h]; rfl)
      exact ⟨this.1, this.2, h7⟩
theorem DX.app {w W : World} {m : MpT} {q : Nat} {nv : Value} {L : List Nat} (h : DX w m q nv L W) (k : Nat) (hL : L.length ≤ 65536) : ∃ v' w', (Builtin.append_ #[39, 39] 39 #[nv, .slice (some ⟨W.heap.size, 0, none⟩) 1 1]).run Tryz.prog (W.alloc (.cells #[.int .i64 (k : Int)] 3)) = .ok v' w' ∧ DX w m q v' (L ++ [k]) w' := by
  obtain ⟨c, hc, h2⟩ := h.2.1
  have hz : w.heap.size + 1 ≤ W.heap.size := h2.lt
  have hl : (nat2 L).length = L.length := by unfold nat2; simp
  obtain ⟨v', w', hr, ho, hg, hb, hat⟩ := I6.app_one W (w.heap.size + 1) nv (nat2 L) h.2.2 hz (k : Int) 39 (by omega)
  have ss : (W.alloc (.cells #[I6.vl (k : Int)] 3)).heap.size = W.heap.size + 1 := by simp
  refine ⟨v', w', hr, h.1.trans (hb.mono (by omega)), ⟨c, hc, h2.kept (by have := hg.size; omega) h.ne (fun b hbl hne => ?_) ?_⟩, ?_⟩
  · rw [hg.block b (by omega) hne]
    exact ((Below.refl W.heap.size W).alloc (Nat.le_refl _) _).block b hbl
  · rcases hat with e | e
    · exact Or.inl e
    · exact Or.inr ⟨_, e, by omega⟩
  · have e : nat2 (L ++ [k]) = nat2 L ++ [(k : Int)] := by unfold nat2; simp
    rw [e]; exact ho
theorem DX.start (w : World) : ∃ W1, (Instr.mapUpdate 138 (.map (some w.heap.size)) (.int .i64 0) (.slice none 0 0)).run Tryz.prog (w.alloc (.map #[] 0)) = .ok () W1 ∧ DX w (fun j => if j = 0 then some [] else none) 1 (.slice none 0 0) [] W1 := by
  have m3 := MT.start w
  obtain ⟨W1, hr, ⟨c', hc', hm⟩, hg, hz⟩ := m3.put 0 (by omega) (a := none) (s := []) 0 (by simp) ⟨Or.inl rfl, Or.inl rfl, fun x hx => by cases hx⟩ (by omega)
  have b0 : Below w.heap.size w (w.alloc (.map #[] 0)) := (Below.refl _ w).alloc (Nat.le_refl _) _
  exact ⟨W1, hr, b0.grown hg b0.size (fun j e => by cases e; exact Nat.le_refl _), ⟨c', by omega, hm⟩, I6.OE.nil _ _⟩
end Go.Proofs.YtdfnomglkibfbaaGreatDoor.Vf

namespace Go.Proofs.YtdfnomglkibfbaaGreatDoor.Vf
open Go.RowKit Go.Maps
set_option linter.unusedVariables false
set_option linter.unusedSimpArgs false
set_option maxRecDepth 100000
/-- within a round, behind what is certain. -/
structure BX (w : World) (B box : Nat) (tc ta : Int) (m : MpT) (q : Nat) (nv : Value) (L : List Nat) (v9 : Value) (cs : List Int) (W : World) : Prop where
  dx : DX w m q nv L W
  oe : T8.OE W B v9 cs
  i0 : W.cell? ⟨box, 0, none⟩ = some (.int .u8 tc)
  i1 : W.cell? ⟨box, 1, none⟩ = some (.int .i64 ta)
  bx : w.heap.size < box ∧ box < B
  nb : ∀ x, nv.ownBlock = some x → x < B
theorem BX.bring {w W : World} {B box : Nat} {tc ta : Int} {m : MpT} {q : Nat} {nv : Value} {L : List Nat} {v9 : Value} {cs : List Int} (h : BX w B box tc ta m q nv L v9 cs W) (hq : q ≤ 1000000) (k : Nat) (hk : k ≤ 65537) (hn : cs.length ≤ 65536) (hm : ∀ o, m k = some o → o.length = cs.length) : Calls Tryz.prog 86 #[.map (some w.heap.size), .int .i64 (k : Int), v9, .func (.func 87) #[] #[]] W fun e w' => e = .returned (.tuple #[]) ∧ BX w B box tc ta (bringT m k cs) (q + 1) nv L v9 cs w' := by
  have hb1 := h.bx
  have hlt : box < W.heap.size := World.block_lt_of_cell? _ _ h.i1
  refine (h.dx.bring hq k hk (fun x hx => ?_) h.oe hn hm).mono (fun e w' ⟨h1, h2, h3⟩ => ⟨h1, h2, ?_, ?_, ?_, h.bx, h.nb⟩)
  · have := (h.oe.bound hx).1
    refine ⟨by omega, fun e => ?_⟩
    have := h.nb x e.symm
    omega
  · refine h.oe.keep fun x hx => ?_
    have := h.oe.bound hx
    exact h3.block x this.2 (fun e => by injection e; omega)
  · rw [World.cell?_of_block (w := W) (h3.block box hlt (fun e => by injection e; omega))]; exact h.i0
  · rw [World.cell?_of_block (w := W) (h3.block box hlt (fun e => by injection e; omega))]; exact h.i1
set_option maxHeartbeats 16000000 in
theorem dead_any (l : List InP) (h : Nat → Int) (H : HOk l h) (F : Fil l) (J : Jmp l) (hcb : ∀ (j : Nat) (t : InP), l[j]? = some t → t.c < 256) (a : Option Addr) (c : Nat) (hn : l.length ≤ 65536) (w : World) (hR : RT w) (hI : InIn w a l) : Calls Tryz.prog 33 #[.slice a l.length c] w fun e w' => ∃ v, e = .returned v ∧ I6.OE w' w.heap.size v (nat2 (deadL l)) ∧ Below w.heap.size w w' := by
  have STO : Hid (∀ (k : Nat) (t : InP) (s : List Int), l[k]? = some t → (dmP l k).1 k = some s → StO l h k t s) := fun k t s ht hm => sto_of H F J ht hm
  have DLT : Hid (∀ k, k ≤ l.length → (dmP l k).2.length ≤ k) := fun k hk => (dead_lt k hk).2
  have hIH : Hid (InIn w a l) := hI
  have hTH : Hid (RT w ∧ 1 < w.heap.size) := ⟨hR, hR.lt⟩
  obtain ⟨n, hnn⟩ : ∃ n, l.length = n := ⟨_, rfl⟩
  have hnH : Hid (l.length = n) := hnn
  have DD : Hid ((dmP l n).2 = deadL l) := by
    exact (by rw [← hnn]; rfl : (dmP l n).2 = deadL l)
  rw [hnn] at hn ⊢
  have hmk : ∀ W, (Instr.makeMap 138 none).run Tryz.prog W = .ok (.map (some W.heap.size)) (W.alloc (.map #[] 0)) := fun W => by
    first | exact run_makeMap_none W | (simp [Instr.makeMap, go_sem]; done) | (unfold Instr.makeMap; simp [newObj, go_sem])
  obtain ⟨W1, hup, hst⟩ := DX.start w
  have hstH : Hid (DX w (dmP l 0).1 (2 * 0 + 1) (.slice none 0 0) (dmP l 0).2 W1) := hst
  clear hnn hI hR H F J hst
  go_enter Tryz.func33, Tryz.ntmps33
  go_wp2_with fail
  clear hup hmk
  go_loopw [3, 16] (fun v3 v16 wr => ∃ (k : Nat) (na : Option Addr) (nn nc : Nat), v3 = .slice na nn nc ∧ v16 = .int .i64 (k : Int) ∧ k ≤ n ∧ Hid (DX w (dmP l k).1 (2 * k + 1) (.slice na nn nc) (dmP l k).2 wr)) (fun _ v16 _ => n - (intOf v16).toNat)
  case atStart => exact ⟨0, none, 0, 0, rfl, rfl, Nat.zero_le _, hstH⟩
  case round =>
    clear hstH
    obtain ⟨k, na, nn, nc, rfl, rfl, hkn, hD⟩ := hrel
    have k0 : (0 : Int) ≤ (k : Int) := by omega
    by_cases hk : k < n
    · have kI : (k : Int) < (n : Int) := by omega
      have kw : IntKind.i64.wrap ((k : Int) + 1) = ((k + 1 : Nat) : Int) := IntWalk.i64_in _ (by omega)
      obtain ⟨g, off, t, et, ea, gl, c1, c2, c3⟩ := (hIH.out.below hD.out.1 (Nat.le_refl _)).at (k := k) (by rw [hnH.out]; exact hk)
      subst ea
      obtain ⟨tc, ta, tb⟩ := t
      have tcb := hcb k _ et
      simp only at tcb
      have etH : Hid (l[k]? = some ⟨tc, ta, tb⟩) := et
      have hwr : w.heap.size < wr.heap.size := by obtain ⟨_, ⟨c, _, hm⟩, _⟩ := hD.out; exact hm.lt
      have cT : Hid (∀ W, W = wr.alloc (.cells #[.int .u8 (tc : Int), .int .i64 ta, .int .i64 tb] 59) → Calls Tryz.prog 83 #[.map (some w.heap.size), .int .i64 (k : Int)] W fun e w' => ∃ v b, e = .returned (.tuple #[v, .bool b]) ∧ Hid (Lkd w' w.heap.size (Value.slice na nn nc).ownBlock ((dmP l k).1 k) v b ∧ DX w (dropT (dmP l k).1 k) (2 * k + 1) (.slice na nn nc) (dmP l k).2 w' ∧ w'.cell? ⟨wr.heap.size, 0, none⟩ = some (.int .u8 (tc : Int)) ∧ w'.cell? ⟨wr.heap.size, 1, none⟩ = some (.int .i64 ta) ∧ wr.heap.size < w'.heap.size ∧ ∀ x, (Value.slice na nn nc).ownBlock = some x → x < w'.heap.size)) := fun W hW => by
        have hb : Below wr.heap.size wr W := by rw [hW]; exact (Below.refl _ _).alloc (Nat.le_refl _) _
        have sW : W.heap.size = wr.heap.size + 1 := by rw [hW]; simp
        have w0 : W.cell? ⟨wr.heap.size, 0, none⟩ = some (.int .u8 (tc : Int)) := by rw [hW]; simp [go_sem]
        have w1 : W.cell? ⟨wr.heap.size, 1, none⟩ = some (.int .i64 ta) := by rw [hW]; simp [go_sem]
        refine ((hD.out.below hb).take k (by omega)).mono (fun e w' ⟨v, b, h1, h2, h3, hg⟩ => ⟨v, b, h1, h2, h3, ?_, ?_, ?_, fun x hx => (h3.2.2.bound hx).2⟩)
        · rw [World.cell?_of_block (w := W) (hg.block wr.heap.size (by omega) (fun e => by injection e; omega))]; exact w0
        · rw [World.cell?_of_block (w := W) (hg.block wr.heap.size (by omega) (fun e => by injection e; omega))]; exact w1
        · have := hg.size; omega
      clear hD et
      go_wp2_with fail
      with_reducible refine Calls.mono (cT.out _ rfl) ?_
      rintro e wB ⟨v, b, rfl, hB⟩
      clear cT c1 c2 c3 gl
      obtain ⟨lk, dB, i0, i1, szB, nvB⟩ := hB.out
      clear hB
      cases hm : (dmP l k).1 k with
      | none =>
        rw [hm] at lk
        obtain ⟨rfl, rfl⟩ := lk
        obtain ⟨v', w', hr, hx⟩ := dB.app k (by have := DLT.out k (by rw [hnH.out]; omega); omega)
        obtain ⟨na', nc', ev, _⟩ := hx.2.2.ein
        have hrH : Hid (∀ W' y', W' = wB.alloc (.cells #[.int .i64 (k : Int)] 3) → y' = Value.slice (some ⟨wB.heap.size, 0, none⟩) 1 1 → (Builtin.append_ #[39, 39] 39 #[.slice na nn nc, y']).run Tryz.prog W' = .ok v' w') := fun W' y' e1 e2 => by rw [e1, e2]; exact hr
        have NX : Hid (DX w (dmP l (k + 1)).1 (2 * (k + 1) + 1) v' (dmP l (k + 1)).2 w') := by
          have e := dmP_none etH.out hm
          have hx2 : DX w (dropT (dmP l k).1 k) (2 * (k + 1) + 1) v' ((dmP l k).2 ++ [k]) w' := ⟨hx.1, by obtain ⟨c, q1, q2⟩ := hx.2.1; exact ⟨c, by omega, q2⟩, hx.2.2⟩
          rw [e]
          exact hx2
        rw [ev] at NX hrH
        clear hr hx ev dB i0 i1 nvB etH STO DLT DD hTH hIH hnH hm
        go_wp2_with (at_builtin; refine append_run (.tmp 29) (.tmp 31) (by rfl) _ (by rfl) _ _ _ _ (by rfl) (by rfl) (hrH.out _ _ (by first | rfl | simp) (by first | rfl | simp)) ?_)
        exact ⟨⟨k + 1, _, _, _, rfl, by first | rfl | (rw [kw]), by omega, NX⟩, by first | (simp [intOf]; done) | (simp [intOf]; omega)⟩
      | some s =>
        rw [hm] at lk
        obtain ⟨rfl, a2, cc, rfl, hcc, hs⟩ := lk
        have so := STO.out k _ s etH.out hm
        have hTB : RT wB := hTH.out.1.below dB.1 hTH.out.2
        have cC0 := certain_any s tc so.c1 so.c2 so.tk so.ln so.tr a2 hs.1 cc hcc wB hTB hs.2.1
        have cL0 := fun (W : World) (hW : Below wB.heap.size wB W) => leads_any tc so.l1 so.ln a2 cc W (hs.2.1.below hW (Nat.le_refl _))
        have hja : leadJ tc s = true → ∃ ja : Nat, ta = (ja : Int) ∧ ja ≤ 65536 := fun q => by
          have := so.ja q
          simp only at this
          rw [hnH.out] at this
          exact ⟨ta.toNat, by omega, by omega⟩
        have cl := so.cl
        have lj := so.lj
        have lg := so.lg
        simp only at cl lj lg
        have NX0 : Hid (∀ m' q' W', m' = stepT (dmP l k).1 k ⟨tc, ta, tb⟩ s → q' ≤ 2 * (k + 1) + 1 → DX w m' q' (.slice na nn nc) (dmP l k).2 W' → DX w (dmP l (k + 1)).1 (2 * (k + 1) + 1) (.slice na nn nc) (dmP l (k + 1)).2 W') := fun m' q' W' e1 e2 hx => by
          rw [dmP_some etH.out hm, ← e1]
          exact ⟨hx.1, by obtain ⟨c, q1, q2⟩ := hx.2.1; exact ⟨c, by omega, q2⟩, hx.2.2⟩
        have BX0 : Hid (∀ v9 W, T8.OE W wB.heap.size v9 (certP tc s) → Below wB.heap.size wB W → BX w wB.heap.size wr.heap.size tc ta (dropT (dmP l k).1 k) (2 * k + 1) (.slice na nn nc) (dmP l k).2 v9 (certP tc s) W) := fun v9 W ho hb => ⟨dB.below hb, ho, by rw [hb.cell (p := ⟨wr.heap.size, 0, none⟩) szB]; exact i0, by rw [hb.cell (p := ⟨wr.heap.size, 1, none⟩) szB]; exact i1, ⟨hwr, szB⟩, nvB⟩
        have SP : Hid (stepT (dmP l k).1 k ⟨tc, ta, tb⟩ s = if leadG tc s = true then bringT (if leadJ tc s = true then bringT (dropT (dmP l k).1 k) ta.toNat (certP tc s) else dropT (dmP l k).1 k) (k + 1) (certP tc s) else if leadJ tc s = true then bringT (dropT (dmP l k).1 k) ta.toNat (certP tc s) else dropT (dmP l k).1 k) := rfl
        clear so hm etH STO DLT hTB dB nvB hs hcc hTH hIH DD
        generalize stepT (dmP l k).1 k ⟨tc, ta, tb⟩ s = mN at *
        generalize certP tc s = cs at *
        generalize dropT (dmP l k).1 k = mD at *
        generalize (dmP l k).2 = LL at *
        generalize leadJ tc s = bj at *
        generalize leadG tc s = bg at *
        generalize s.length = sl at *
        have cC : Hid (Calls Tryz.prog 84 #[.slice a2 sl cc, .int .u8 (tc : Int)] wB fun e w' => ∃ v, e = .returned v ∧ T8.OE w' wB.heap.size v cs ∧ Below wB.heap.size wB w') := cC0
        have cL : Hid (∀ W, Below wB.heap.size wB W → Calls Tryz.prog 85 #[.slice a2 sl cc, .int .u8 (tc : Int)] W fun e w' => e = .returned (.tuple #[.bool bj, .bool bg]) ∧ w' = W) := cL0
        clear cC0 cL0
        go_wp2_with fail
        with_reducible refine Calls.mono cC.out ?_
        rintro e w3 ⟨v9, rfl, o9, b3⟩
        obtain ⟨a9, c9, e9, _⟩ := o9.ein
        subst e9
        have bx : Hid (BX w wB.heap.size wr.heap.size tc ta mD (2 * k + 1) (.slice na nn nc) LL (.slice a9 cs.length c9) cs w3) := BX0.out _ w3 o9 b3
        have j0 := bx.out.i0
        have j1 := bx.out.i1
        clear cC BX0 o9 i0 i1
        obtain ⟨n9, hn9⟩ : ∃ n9, cs.length = n9 := ⟨_, rfl⟩
        have n9H : Hid (cs.length = n9) := hn9
        rw [hn9] at bx cl lj lg ⊢
        clear hn9
        go_wp2_with fail
        with_reducible refine Calls.mono (cL.out _ b3) ?_
        rintro e w4 ⟨rfl, rfl⟩
        clear cL b3 szB
        cases bj with
        | true =>
          obtain ⟨ja, rfl, ja2⟩ := hja rfl
          have cJ : Hid (Calls Tryz.prog 86 #[.map (some w.heap.size), .int .i64 (ja : Int), .slice a9 n9 c9, (.func (.func 87) #[] #[])] w4 fun e w' => e = .returned (.tuple #[]) ∧ Hid (BX w wB.heap.size wr.heap.size tc (ja : Int) (bringT mD ja cs) (2 * k + 1 + 1) (.slice na nn nc) LL (.slice a9 n9 c9) cs w')) := (bx.out.bring (by omega) ja (by omega) (by rw [n9H.out]; exact cl) (fun o ho => by rw [n9H.out]; exact lj rfl o (by simpa using ho))).mono (fun e w' hh => ⟨hh.1, hh.2⟩)
          clear bx hja
          go_wp2_with fail
          with_reducible refine Calls.mono cJ.out ?_
          rintro e w5 ⟨rfl, bx5⟩
          clear cJ j0 j1
          cases bg with
          | true =>
            have cG : Hid (Calls Tryz.prog 86 #[.map (some w.heap.size), .int .i64 ((k : Int) + 1), .slice a9 n9 c9, (.func (.func 87) #[] #[])] w5 fun e w' => e = .returned (.tuple #[]) ∧ Hid (DX w (dmP l (k + 1)).1 (2 * (k + 1) + 1) (.slice na nn nc) (dmP l (k + 1)).2 w')) := by
              have e : ((k + 1 : Nat) : Int) = (k : Int) + 1 := by omega
              rw [← e]
              exact (bx5.out.bring (by omega) (k + 1) (by omega) (by rw [n9H.out]; exact cl) (fun o ho => by rw [n9H.out]; exact lg o (by simpa using ho))).mono (fun e w' hh => ⟨hh.1, NX0.out _ _ _ (by rw [SP.out]; simp) (by omega) hh.2.dx⟩)
            clear bx5 NX0 SP cl lj lg
            go_wp2_with fail
            with_reducible refine Calls.mono cG.out ?_
            rintro e w6 ⟨rfl, NX⟩
            clear cG
            go_wp2_with fail
            exact ⟨⟨k + 1, na, nn, nc, rfl, by first | rfl | (rw [kw]), by omega, NX⟩, by first | (simp [intOf]; done) | (simp [intOf]; omega)⟩
          | false =>
            have NX : Hid (DX w (dmP l (k + 1)).1 (2 * (k + 1) + 1) (.slice na nn nc) (dmP l (k + 1)).2 w5) := NX0.out _ _ _ (by rw [SP.out]; simp) (by omega) bx5.out.dx
            clear bx5 NX0 SP cl lj lg
            go_wp2_with fail
            exact ⟨⟨k + 1, na, nn, nc, rfl, by first | rfl | (rw [kw]), by omega, NX⟩, by first | (simp [intOf]; done) | (simp [intOf]; omega)⟩
        | false =>
          cases bg with
          | true =>
            obtain ⟨w5, hw5⟩ : ∃ w5, w5 = w4 := ⟨_, rfl⟩
            have bx5 := bx
            rw [← hw5] at bx5
            clear bx
            subst hw5
            have cG : Hid (Calls Tryz.prog 86 #[.map (some w.heap.size), .int .i64 ((k : Int) + 1), .slice a9 n9 c9, (.func (.func 87) #[] #[])] w5 fun e w' => e = .returned (.tuple #[]) ∧ Hid (DX w (dmP l (k + 1)).1 (2 * (k + 1) + 1) (.slice na nn nc) (dmP l (k + 1)).2 w')) := by
              have e : ((k + 1 : Nat) : Int) = (k : Int) + 1 := by omega
              rw [← e]
              exact (bx5.out.bring (by omega) (k + 1) (by omega) (by rw [n9H.out]; exact cl) (fun o ho => by rw [n9H.out]; exact lg o (by simpa using ho))).mono (fun e w' hh => ⟨hh.1, NX0.out _ _ _ (by rw [SP.out]; simp) (by omega) hh.2.dx⟩)
            clear bx5 NX0 SP cl lj lg
            go_wp2_with fail
            with_reducible refine Calls.mono cG.out ?_
            rintro e w6 ⟨rfl, NX⟩
            clear cG
            go_wp2_with fail
            exact ⟨⟨k + 1, na, nn, nc, rfl, by first | rfl | (rw [kw]), by omega, NX⟩, by first | (simp [intOf]; done) | (simp [intOf]; omega)⟩
          | false =>
            have NX : Hid (DX w (dmP l (k + 1)).1 (2 * (k + 1) + 1) (.slice na nn nc) (dmP l (k + 1)).2 w4) := NX0.out _ _ _ (by rw [SP.out]; simp) (by omega) bx.out.dx
            clear bx NX0 SP cl lj lg
            go_wp2_with fail
            exact ⟨⟨k + 1, na, nn, nc, rfl, by first | rfl | (rw [kw]), by omega, NX⟩, by first | (simp [intOf]; done) | (simp [intOf]; omega)⟩
    · have kI : ¬ (k : Int) < (n : Int) := by omega
      obtain rfl : k = n := by omega
      have fin : Hid (I6.OE wr w.heap.size (.slice na nn nc) (nat2 (deadL l)) ∧ Below w.heap.size w wr) := by
        have := hD.out
        rw [DD.out] at this
        exact ⟨this.2.2.mono (by omega), this.1⟩
      clear hD STO DLT hTH hIH DD hnH
      go_wp2_with fail
      go_ret
      exact ⟨_, rfl, fin.out⟩
end Go.Proofs.YtdfnomglkibfbaaGreatDoor.Vf

namespace Go.Proofs.YtdfnomglkibfbaaGreatDoor.Vf
open Go.RowKit
set_option linter.unusedVariables false
set_option linter.unusedSimpArgs false
set_option maxRecDepth 100000
/-- append of one to a slice that is full: in a block of its own. -/
theorem BL.app_full (W : World) (b : Addr) (m : Nat) (l : List Bool) (hl : l.length = m) (h : BL.In W (some b) l) (x : Bool) (ty : TypeId) (hn : m + 1 ≤ 4398046511104) :
    ∃ v' w', (Builtin.append_ #[49, 49] ty #[.slice (some b) m m, .slice (some ⟨W.heap.size, 0, none⟩) 1 1]).run Tryz.prog (W.alloc (.cells #[.bool x] 4)) = .ok v' w' ∧ BL.OE w' W.heap.size v' (l ++ [x]) ∧ Below W.heap.size W w' := by
  obtain ⟨i, z, t1, t2, t3, t4, t5, t6, t7⟩ := BL.tp
  have hml : maxLen = 9223372036854775807 := by decide
  have b0 : Below W.heap.size W (W.alloc (.cells #[.bool x] 4)) := (Below.refl _ W).alloc (Nat.le_refl _) _
  obtain ⟨v', w', hr, ho, hg⟩ := run_append_arg_grows (P := Tryz.prog) (w := W.alloc (.cells #[.bool x] 4)) 49 ty 4 i z 1 1 t1 t2 t3 t4 t5 t6 t7 b m m (l.map BL.vl) (by simp [hl]) ((h.below b0 (Nat.le_refl _)).news b rfl) ⟨W.heap.size, 0, none⟩ 1 1 [BL.vl x] rfl (fun j u hj => by
    cases j with
    | zero => simp at hj; subst hj; rw [add_at0]; simp [go_sem, BL.vl]
    | succ j => simp at hj) (by omega) (by omega) (by omega)
  refine ⟨v', w', hr, ?_, b0.grown hg b0.size (fun j e => by cases e)⟩
  have : BL.OE w' (W.alloc (.cells #[.bool x] 4)).heap.size v' (l ++ [x]) := by
    unfold BL.OE
    rw [List.length_append, List.map_append, hl]
    exact ho
  exact this.mono (by simp)
theorem BL.OE.cut {w : World} {B g n c : Nat} {l : List Bool} (h : BL.OE w B (.slice (some ⟨g, 0, none⟩) n c) l) {m : Nat} (hm : m ≤ l.length) : BL.OE w B (.slice (some ⟨g, 0, none⟩) m c) (l.take m) := by
  have e : (l.take m).length = m := by rw [List.length_take]; omega
  rcases h.2 with ⟨e1, _⟩ | ⟨g', cap, cur, e1, e2, e3, e4, e5, e6, e7⟩
  · simp at e1
  · simp at e1
    obtain ⟨rfl, e8, rfl⟩ := e1
    refine ⟨by simp, Or.inr ⟨g, c, cur, by rw [e], e2, e3, by omega, e5, e6, ?_⟩⟩
    rw [e, List.map_take, ← e7, List.take_take]
    congr 1
    omega
theorem BL.OE.top {w : World} {B n c : Nat} {a : Option Addr} {l : List Bool} (h : BL.OE w B (.slice a n c) l) (hl : 0 < l.length) : ∃ g, a = some ⟨g, 0, none⟩ ∧ l.length ≤ c := by
  obtain ⟨a', c', e, hc, hi, hp⟩ := h.ein
  injection e with e1 e2 e3
  subst e1 e3
  rcases hp with rfl | ⟨g, rfl, _⟩
  · rw [hi.emp] at hl; simp at hl
  · exact ⟨g, rfl, hc⟩
/-- three rows of one's own, apart. -/
structure R3 (w : World) (r : List Nat) (hh : List Int) (s : List Bool) (v7 v8 v9 : Value) (W : World) : Prop where
  b : Below w.heap.size w W
  o7 : I6.OE W w.heap.size v7 (nat2 r)
  o8 : I6.OE W w.heap.size v8 hh
  o9 : BL.OE W w.heap.size v9 s
  n1 : ∀ x, v7.ownBlock = some x → v8.ownBlock ≠ some x ∧ v9.ownBlock ≠ some x
  n2 : ∀ x, v8.ownBlock = some x → v9.ownBlock ≠ some x
theorem R3.below {w W W' : World} {r : List Nat} {hh : List Int} {s : List Bool} {v7 v8 v9 : Value} (h : R3 w r hh s v7 v8 v9 W) (hb : Below W.heap.size W W') : R3 w r hh s v7 v8 v9 W' := ⟨h.b.trans (hb.mono h.b.size), h.o7.below hb (Nat.le_refl _), h.o8.below hb (Nat.le_refl _), h.o9.below hb (Nat.le_refl _), h.n1, h.n2⟩
theorem R3.app7 {w W : World} {r : List Nat} {hh : List Int} {s : List Bool} {v7 v8 v9 : Value} (h : R3 w r hh s v7 v8 v9 W) (k : Nat) (hr : r.length ≤ 65536) : ∃ v' w', (Builtin.append_ #[39, 39] 39 #[v7, .slice (some ⟨W.heap.size, 0, none⟩) 1 1]).run Tryz.prog (W.alloc (.cells #[.int .i64 (k : Int)] 3)) = .ok v' w' ∧ R3 w (r ++ [k]) hh s v' v8 v9 w' := by
  have hl : (nat2 r).length = r.length := by unfold nat2; simp
  obtain ⟨v', w', hrr, ho, hg, hb, hat⟩ := I6.app_one W w.heap.size v7 (nat2 r) h.o7 h.b.size (k : Int) 39 (by omega)
  have ss : (W.alloc (.cells #[I6.vl (k : Int)] 3)).heap.size = W.heap.size + 1 := by simp
  have kp : ∀ x, x < W.heap.size → v7.ownBlock ≠ some x → w'.heap[x]? = W.heap[x]? := fun x hx hne => by
    rw [hg.block x (by omega) (fun e => hne e.symm)]
    exact ((Below.refl W.heap.size W).alloc (Nat.le_refl _) _).block x hx
  refine ⟨v', w', hrr, h.b.trans hb, ?_, h.o8.keep fun x hx => kp x (h.o8.bound hx).2 (fun e => (h.n1 x e).1 hx), h.o9.keep fun x hx => kp x (h.o9.bound hx).2 (fun e => (h.n1 x e).2 hx), fun x hx => ?_, h.n2⟩
  · have e : nat2 (r ++ [k]) = nat2 r ++ [(k : Int)] := by unfold nat2; simp
    rw [e]; exact ho
  · rcases hat with e | e
    · exact h.n1 x (by rw [← e]; exact hx)
    · rw [hx] at e
      injection e with e
      refine ⟨fun q => ?_, fun q => ?_⟩
      · have := (h.o8.bound q).2; omega
      · have := (h.o9.bound q).2; omega
theorem R3.app8 {w W : World} {r : List Nat} {hh : List Int} {s : List Bool} {v7 v8 v9 : Value} (h : R3 w r hh s v7 v8 v9 W) (k : Int) (hr : hh.length ≤ 65536) : ∃ v' w', (Builtin.append_ #[39, 39] 39 #[v8, .slice (some ⟨W.heap.size, 0, none⟩) 1 1]).run Tryz.prog (W.alloc (.cells #[.int .i64 k] 3)) = .ok v' w' ∧ R3 w r (hh ++ [k]) s v7 v' v9 w' := by
  obtain ⟨v', w', hrr, ho, hg, hb, hat⟩ := I6.app_one W w.heap.size v8 hh h.o8 h.b.size k 39 (by omega)
  have ss : (W.alloc (.cells #[I6.vl k] 3)).heap.size = W.heap.size + 1 := by simp
  have kp : ∀ x, x < W.heap.size → v8.ownBlock ≠ some x → w'.heap[x]? = W.heap[x]? := fun x hx hne => by
    rw [hg.block x (by omega) (fun e => hne e.symm)]
    exact ((Below.refl W.heap.size W).alloc (Nat.le_refl _) _).block x hx
  refine ⟨v', w', hrr, h.b.trans hb, h.o7.keep fun x hx => kp x (h.o7.bound hx).2 (fun e => (h.n1 x hx).1 e), ho, h.o9.keep fun x hx => kp x (h.o9.bound hx).2 (fun e => h.n2 x e hx), fun x hx => ⟨fun q => ?_, (h.n1 x hx).2⟩, fun x hx => ?_⟩
  · rcases hat with e | e
    · exact (h.n1 x hx).1 (by rw [← e]; exact q)
    · rw [q] at e
      injection e with e
      have := (h.o7.bound hx).2
      omega
  · rcases hat with e | e
    · exact h.n2 x (by rw [← e]; exact hx)
    · rw [hx] at e
      injection e with e
      intro q
      have := (h.o9.bound q).2
      omega
/-- the stack is another one. -/
theorem R3.new9 {w W w' : World} {r : List Nat} {hh : List Int} {s s' : List Bool} {v7 v8 v9 v' : Value} (h : R3 w r hh s v7 v8 v9 W) (hb : Below W.heap.size W w') (ho : BL.OE w' W.heap.size v' s') : R3 w r hh s' v7 v8 v' w' := by
  have k := h.below hb
  refine ⟨k.b, k.o7, k.o8, ho.mono h.b.size, fun x hx => ⟨(h.n1 x hx).1, fun q => ?_⟩, fun x hx q => ?_⟩
  · have := (h.o7.bound hx).2
    have := (ho.bound q).1
    omega
  · have := (h.o8.bound hx).2
    have := (ho.bound q).1
    omega
theorem R3.app9 {w W : World} {r : List Nat} {hh : List Int} {s : List Bool} {v7 v8 v9 : Value} (h : R3 w r hh s v7 v8 v9 W) (x : Bool) (hr : s.length ≤ 65536) : ∃ v' w', (Builtin.append_ #[49, 49] 49 #[v9, .slice (some ⟨W.heap.size, 0, none⟩) 1 1]).run Tryz.prog (W.alloc (.cells #[.bool x] 4)) = .ok v' w' ∧ R3 w r hh (s ++ [x]) v7 v8 v' w' := by
  obtain ⟨v', w', hrr, ho, hg, hb, hat⟩ := BL.app_one W w.heap.size v9 s h.o9 h.b.size x 49 (by omega)
  have ss : (W.alloc (.cells #[BL.vl x] 4)).heap.size = W.heap.size + 1 := by simp
  have kp : ∀ x, x < W.heap.size → v9.ownBlock ≠ some x → w'.heap[x]? = W.heap[x]? := fun y hx hne => by
    rw [hg.block y (by omega) (fun e => hne e.symm)]
    exact ((Below.refl W.heap.size W).alloc (Nat.le_refl _) _).block y hx
  refine ⟨v', w', hrr, h.b.trans hb, h.o7.keep fun x hx => kp x (h.o7.bound hx).2 (fun e => (h.n1 x hx).2 e), h.o8.keep fun x hx => kp x (h.o8.bound hx).2 (fun e => h.n2 x hx e), ho, fun x hx => ⟨(h.n1 x hx).1, fun q => ?_⟩, fun x hx q => ?_⟩
  · rcases hat with e | e
    · exact (h.n1 x hx).2 (by rw [← e]; exact q)
    · rw [q] at e
      injection e with e
      have := (h.o7.bound hx).2
      omega
  · rcases hat with e | e
    · exact h.n2 x hx (by rw [← e]; exact q)
    · rw [q] at e
      injection e with e
      have := (h.o8.bound hx).2
      omega
theorem R3.cut9 {w W : World} {r : List Nat} {hh : List Int} {s : List Bool} {v7 v8 : Value} {g n c : Nat} (h : R3 w r hh s v7 v8 (.slice (some ⟨g, 0, none⟩) n c) W) {m : Nat} (hm : m ≤ s.length) : R3 w r hh (s.take m) v7 v8 (.slice (some ⟨g, 0, none⟩) m c) W := ⟨h.b, h.o7, h.o8, h.o9.cut hm, h.n1, h.n2⟩
/-! ### plain: what an instruction leaves -/
theorem stepB_push {c : Nat} (h1 : 1 ≤ c) (h2 : c ≤ 6) (t : Bool) (s : List Bool) : stepB c t s = s ++ [if c = 1 then true else if c = 2 then false else t] := by
  match c, h1, h2 with
  | 1, _, _ | 2, _, _ | 3, _, _ | 4, _, _ | 5, _, _ | 6, _, _ => simp [stepB, topB, rowF, rowsL]
  | c + 7, _, h => omega
theorem stepB_not (t : Bool) (s : List Bool) : stepB 7 t s = s.take (s.length - 1) ++ [!s.getD (s.length - 1) false] := by simp [stepB, topB, rowF, rowsL]
theorem stepB_and (t : Bool) (s : List Bool) (h : 2 ≤ s.length) : stepB 8 t s = s.take (s.length - 2) ++ [s.getD (s.length - 2) false && s.getD (s.length - 1) false] := by
  have e : s.length - 1 = s.length - 2 + 1 := by omega
  rw [e]; simp [stepB, topB, rowF, rowsL]
theorem stepB_or (t : Bool) (s : List Bool) (h : 2 ≤ s.length) : stepB 9 t s = s.take (s.length - 2) ++ [s.getD (s.length - 2) false || s.getD (s.length - 1) false] := by
  have e : s.length - 1 = s.length - 2 + 1 := by omega
  rw [e]; simp [stepB, topB, rowF, rowsL]
theorem stepB_jump {c : Nat} (hc : c = 10 ∨ c = 11) (t : Bool) (s : List Bool) (h : 1 ≤ s.length) : stepB c t s = s := by
  have e : s.take (s.length - 1) ++ [s.getD (s.length - 1) false] = s := by
    rw [List.getD_eq_getElem?_getD, List.getElem?_eq_getElem (by omega)]
    simp only [Option.getD_some]
    rw [List.take_append_getElem, show s.length - 1 + 1 = s.length by omega, List.take_length]
  rcases hc with rfl | rfl
  · have : stepB 10 t s = s.take (s.length - 1) ++ [s.getD (s.length - 1) false] := by simp [stepB, topB, rowF, rowsL]
    rw [this, e]
  · have : stepB 11 t s = s.take (s.length - 1) ++ [s.getD (s.length - 1) false] := by simp [stepB, topB, rowF, rowsL]
    rw [this, e]
theorem stepB_pop (t : Bool) (s : List Bool) : stepB 12 t s = s.take (s.length - 1) := by simp [stepB, rowF, rowsL]
end Go.Proofs.YtdfnomglkibfbaaGreatDoor.Vf
