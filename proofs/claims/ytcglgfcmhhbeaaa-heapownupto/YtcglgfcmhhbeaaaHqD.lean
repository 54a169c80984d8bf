
import Derived.Test.YtcglgfcmhhbeaaaHpO
import Derived.Test.YtcglgfcmhhbeaaaHqP
namespace Go.Proofs.Ytcglgfcmhhbeaaa.Hp
open Go.RowKit Go.Maps
set_option linter.unusedVariables false
set_option linter.unusedSimpArgs false
set_option maxRecDepth 100000
theorem OP.same {w w' : World} {B hp mb : Nat} {most : Bool} {v : Value} {f : ByteArray → Option Nat} {L : List Ent} {mv : Int} (h : HS w B hp mb most v none f L mv) (hb : Below w.heap.size w w') : OP w B hp mb most v L mv w' := ⟨⟨v, f, h.below hb, Or.inl rfl⟩, HF.below hb⟩
def noP (o : Option Nat) (n : Int) : Value := match o with
  | none => .nilIface
  | some _ => .iface 86 (.int .i64 n)
def noT (o : Option Nat) (n : Int) : Value := match o with
  | some _ => .nilIface
  | none => .iface 86 (.int .i64 n)
theorem put_l {w : World} {B hp mb : Nat} {most : Bool} {v : Value} {f : ByteArray → Option Nat} {L : List Ent} {mv : Int} (h : HS w B hp mb most v none f L mv) (hBw : B ≤ w.heap.size) (x : Ent) (hx : x.2.size ≤ 9223372036854775807) (hn : L.length + 1 ≤ 1099511627776) :
    Calls Try.prog 9 #[.pointer (some ⟨hp, 0, none⟩), eV x] w fun e w' => e = .returned (noP (fnd L x.2) 5) ∧ ∃ mv', OP w B hp mb most v (putL most L x) mv' w' := by
  have hpl := h.pl.fnd x.2
  cases hf : fnd L x.2 with
  | none =>
    refine (put_ok h hBw x hx (by rw [hpl, hf]) hn).mono fun e w' hh => ⟨hh.1, ?_⟩
    have e1 : putL most L x = (upL (ahd most) (L ++ [x]) L.length).1 := by unfold putL; rw [hf]
    rw [e1]
    exact ⟨_, hh.2⟩
  | some i =>
    refine (put_known h x hx (by rw [hpl, hf]; simp)).mono fun e w' hh => ⟨hh.1, mv, ?_⟩
    rw [putL_some hf]
    exact OP.same h hh.2
theorem tur_l {w : World} {B hp mb : Nat} {most : Bool} {v : Value} {f : ByteArray → Option Nat} {L : List Ent} {mv : Int} (h : HS w B hp mb most v none f L mv) (s : ByteArray) (hs : s.size ≤ 9223372036854775807) (r : Int) (hn : L.length ≤ 1099511627776) :
    Calls Try.prog 17 #[.pointer (some ⟨hp, 0, none⟩), .string s, .int .i64 r] w fun e w' => e = .returned (noT (fnd L s) 4) ∧ ∃ mv', OP w B hp mb most v (turL most L s r) mv' w' := by
  have hpl := h.pl.fnd s
  cases hf : fnd L s with
  | none =>
    refine (turn_none h s hs r (by rw [hpl, hf])).mono fun e w' hh => ⟨hh.1, mv, ?_⟩
    rw [turL_none hf, hh.2]
    exact OP.same h (Below.refl _ _)
  | some i =>
    refine (turn_ok h s hs r i (by rw [hpl, hf]) hn).mono fun e w' hh => ⟨hh.1, ?_⟩
    have e1 : turL most L s r = (mendL (ahd most) (L.set i (r, s)) i).1 := by unfold turL; rw [hf]
    rw [e1]
    exact ⟨_, hh.2⟩
def topE (L : List Ent) (s : ByteArray) : Ent := match fnd L s with
  | none => nE
  | some i => atE L i
theorem tak_l {w : World} {B hp mb : Nat} {most : Bool} {v : Value} {f : ByteArray → Option Nat} {L : List Ent} {mv : Int} (h : HS w B hp mb most v none f L mv) (s : ByteArray) (hs : s.size ≤ 9223372036854775807) (hn : L.length ≤ 1099511627776) :
    Calls Try.prog 16 #[.pointer (some ⟨hp, 0, none⟩), .string s] w fun e w' => e = .returned (.tuple #[eV (topE L s), noT (fnd L s) 4]) ∧ ∃ mv', OP w B hp mb most v (takL most L s) mv' w' := by
  have hpl := h.pl.fnd s
  cases hf : fnd L s with
  | none =>
    refine (take_none h s hs (by rw [hpl, hf])).mono fun e w' hh => ⟨?_, mv, ?_⟩
    · rw [hh.1]; unfold topE; rw [hf]; rfl
    · rw [takL_none hf]; exact OP.same h hh.2
  | some i =>
    have hfi : f s = some i := by rw [hpl, hf]
    obtain ⟨hi, hnm⟩ := fnd_some hf
    have eT : topE L s = atE L i := by unfold topE; rw [hf]
    rw [eT]
    obtain ⟨M, x, rfl⟩ := cut_form (L := L) (by omega)
    have LL : (M ++ [x]).length = M.length + 1 := by simp
    by_cases c : i = M.length
    · subst c
      rw [atE_snoc] at hnm
      refine (take_last h s hs hnm (by omega)).mono fun e w' hh => ⟨by rw [hh.1, atE_snoc]; rfl, 0, ?_⟩
      have e1 : takL most (M ++ [x]) s = M := by
        unfold takL; rw [hf]; simp only
        rw [if_pos (by omega), goneL_last]
      rw [e1]
      exact hh.2
    · have hi2 : i < M.length := by omega
      have hne : x.2 ≠ s := fun q => by
        have := h.pl.nd i M.length (by omega) (by omega) (by rw [hnm, atE_snoc, q])
        omega
      refine (take_over h s hs i hfi hne (by omega)).mono fun e w' hh => ⟨hh.1, ?_⟩
      have e1 : takL most (M ++ [x]) s = (mendL (ahd most) (M.set i x) i).1 := by
        unfold takL; rw [hf]; simp only
        rw [if_neg (by omega), goneL_over hi2]
      rw [e1]
      exact ⟨_, hh.2⟩
theorem GB.op {w wr W1 w2 : World} {hp mb : Nat} {most : Bool} {v : Value} {f : ByteArray → Option Nat} {L L' : List Ent} {mv mv' : Int} (hG : GB w hp mb most L mv wr) (h : HS wr (w.heap.size + 2) hp mb most v none f L mv) (hb : Below wr.heap.size wr W1) (op : OP W1 (w.heap.size + 2) hp mb most v L' mv' w2) : GB w hp mb most L' mv' w2 ∧ ∀ K, wr.heap.size ≤ K → K < W1.heap.size → w2.heap[K]? = W1.heap[K]? := by
  obtain ⟨v', f', hs', _⟩ := op.hs
  have hr := h.row
  have fr := (HF.below (hp := hp) (mb := mb) (rb := v.ownBlock) hb).trans op.fr
  obtain ⟨q1, q2⟩ := hG.frame (ex := none) (f := f) (L' := L) (mv' := mv) (B := 0) hr fr
  have sz := hG.sz
  have e1 := hG.e1
  have e2 := hG.e2
  exact ⟨⟨⟨v', f', hs'⟩, q1, q2, e1, e2⟩, fun K k1 k2 => op.fr.keep K k2 (by omega) (by omega) (fun e => by have := (World.ownsRow.lt hr K e.symm).2; omega)⟩
/-- what is in behind some calls. -/
def inD (op : Nat → OpP) : Nat → List Ent
  | 0 => []
  | n + 1 => stepD (op n).k (op n).e (inD op n)
structure DI (most : Bool) (op : Nat → OpP) (i : Nat) (L : List Ent) : Prop where
  pm : L.Perm (inD op i)
  ho : HO (ahd most) L
  le : L.length ≤ i
/-- behind one call of the row. -/
def NXD (w : World) (hp mb : Nat) (most : Bool) (op : Nat → OpP) (i : Nat) (w2 : World) : Prop := ∃ L mv, GB w hp mb most L mv w2 ∧ DI most op i L
set_option maxRecDepth 100000 in
set_option maxHeartbeats 16000000 in
theorem done_any (most : Bool) (a : Option Addr) (len cap : Nat) (op : Nat → OpP) (w : World) (hop : OpIn w a len op) (hsz : ∀ i, i < len → (op i).e.2.size ≤ 9223372036854775807) (hlen : len ≤ 1048576) :
    Calls Try.prog 4 #[.bool most, .slice a len cap] w fun e w' => e = .returned (.pointer (some ⟨w.heap.size + 1, 0, none⟩)) ∧ NXD w (w.heap.size + 1) w.heap.size most op len w' := by
  obtain ⟨hp, hhp⟩ : ∃ hp, hp = w.heap.size + 1 := ⟨_, rfl⟩
  obtain ⟨mb, hmb⟩ : ∃ mb, mb = w.heap.size := ⟨_, rfl⟩
  have CN : Hid (Calls Try.prog 15 #[.bool most] w fun e w' => e = .returned (.pointer (some ⟨hp, 0, none⟩)) ∧ GB w hp mb most [] 0 w') := by
    refine (hnew_any most w).mono fun e w' hh => ?_
    obtain ⟨h1, h2, h3⟩ := hh
    refine ⟨by rw [h1, hhp], ⟨_, _, by rw [hhp, hmb]; exact h2⟩, h3, ?_, hhp, hmb⟩
    have := h2.hl
    omega
  have hopH : Hid (OpIn w a len op) := hop
  have hszH : Hid (∀ i, i < len → (op i).e.2.size ≤ 9223372036854775807) := hsz
  rw [← hhp, ← hmb]
  clear hop hsz hhp hmb
  go_enter Try.func4, Try.ntmps4
  go_wp2_with fail
  refine Calls.mono CN.out ?_
  rintro e w1 ⟨rfl, gb1⟩
  have G0 : Hid (NXD w hp mb most op 0 w1) := ⟨[], 0, gb1, List.Perm.refl _, fun j _ hj => by simp at hj, Nat.le_refl _⟩
  clear gb1 CN
  go_wp2_with fail
  go_loopw [12] (fun v12 wr => ∃ (i : Nat), v12 = .int .i64 (i : Int) ∧ i ≤ len ∧ Hid (NXD w hp mb most op i wr)) (fun v12 _ => len - (intOf v12).toNat)
  case atStart => exact ⟨0, rfl, Nat.zero_le _, G0⟩
  case round =>
    clear G0
    obtain ⟨i, rfl, hil, hG0⟩ := hrel
    by_cases hi : i < len
    · obtain ⟨L, mv, hG, hD⟩ := hG0.out
      obtain ⟨hPm, hHO, hLi⟩ := hD
      clear hG0
      obtain ⟨i0, iI, iw, _⟩ := nums_j i len hi (by omega)
      obtain ⟨b, off, rfl, hbl, hcs⟩ : ∃ b off, a = some ⟨b, off, none⟩ ∧ b < wr.heap.size ∧ ∀ i, i < len → wr.cell? ⟨b, off + i * 6, none⟩ = some (.int .i64 (op i).k) ∧ wr.cell? ⟨b, off + i * 6 + 1, none⟩ = some (.int .i64 (op i).wh) ∧ wr.cell? ⟨b, off + i * 6 + 2, none⟩ = some (.bool (op i).mo) ∧ wr.cell? ⟨b, off + i * 6 + 3, none⟩ = some (.int .i64 (op i).e.1) ∧ wr.cell? ⟨b, off + i * 6 + 4, none⟩ = some (.string (op i).e.2) ∧ wr.cell? ⟨b, off + i * 6 + 5, none⟩ = some (.slice (op i).la (op i).ln (op i).lc) := by
        rcases hopH.out.below hG.bl with q | q
        · omega
        · exact q
      obtain ⟨e0, e1, e2, e3, e4, e5⟩ := hcs i hi
      have hxs := hszH.out i hi
      clear hcs
      have hstep : inD op (i + 1) = stepD (op i).k (op i).e (inD op i) := rfl
      have NX0 : Hid (∀ L' mv' w2, GB w hp mb most L' mv' w2 → L'.Perm (stepD (op i).k (op i).e (inD op i)) → HO (ahd most) L' → L'.length ≤ i + 1 → NXD w hp mb most op (i + 1) w2) := fun L' mv' w2 g1 g2 g3 g4 => ⟨L', mv', g1, by rw [hstep]; exact g2, g3, g4⟩
      clear hstep
      generalize inD op i = l at *
      generalize op i = o at *
      obtain ⟨k, wh, mo, x, la, ln, lc⟩ := o
      simp only at e0 e1 e2 e3 e4 e5 hxs NX0
      obtain ⟨K, hK⟩ : ∃ K, K = wr.heap.size := ⟨_, rfl⟩
      obtain ⟨W1, hW1⟩ : ∃ W1, W1 = wr.alloc (.cells #[.int .i64 k, .int .i64 wh, .bool mo, .int .i64 x.1, .string x.2, .slice la ln lc] 73) := ⟨_, rfl⟩
      have b1 : Below wr.heap.size wr W1 := by rw [hW1]; exact (Below.refl _ wr).alloc (Nat.le_refl _) _
      have s1 : W1.heap.size = K + 1 := by rw [hW1, hK]; simp
      have f0 : W1.cell? ⟨K, 0, none⟩ = some (.int .i64 k) := by rw [hW1, hK]; simp [go_sem]
      have f3 : W1.cell? ⟨K, 3, none⟩ = some (.int .i64 x.1) := by rw [hW1, hK]; simp [go_sem]
      have f4 : W1.cell? ⟨K, 4, none⟩ = some (.string x.2) := by rw [hW1, hK]; simp [go_sem]
      obtain ⟨v, f, hs⟩ := hG.hs
      have hs1 := hs.below b1
      have nd := hs.pl.nd
      have sz1 : w.heap.size + 2 ≤ W1.heap.size := Nat.le_trans hG.sz b1.size
      have CPut : Hid (k = 0 → Calls Try.prog 9 #[.pointer (some ⟨hp, 0, none⟩), eV x] W1 fun e w2 => (∃ r, e = .returned r) ∧ NXD w hp mb most op (i + 1) w2) := fun hk => (put_l hs1 sz1 x hxs (by omega)).mono fun e w2 hh => by
        obtain ⟨q, mv', o⟩ := hh
        exact ⟨⟨_, q⟩, NX0.out _ _ _ (hG.op hs b1 o).1 (by rw [hk]; exact step_put hPm nd x) (putL_ho hHO) (by have := putL_len most L x; omega)⟩
      have CTake : Hid (k = 1 → Calls Try.prog 16 #[.pointer (some ⟨hp, 0, none⟩), .string x.2] W1 fun e w2 => (∃ r, e = .returned r) ∧ NXD w hp mb most op (i + 1) w2) := fun hk => (tak_l hs1 x.2 hxs (by omega)).mono fun e w2 hh => by
        obtain ⟨q, mv', o⟩ := hh
        exact ⟨⟨_, q⟩, NX0.out _ _ _ (hG.op hs b1 o).1 (by rw [hk]; exact step_tak hPm nd x) (takL_ho hHO) (by have := takL_len most L x.2; omega)⟩
      have CTurn : Hid (k = 2 → Calls Try.prog 17 #[.pointer (some ⟨hp, 0, none⟩), .string x.2, .int .i64 x.1] W1 fun e w2 => (∃ r, e = .returned r) ∧ NXD w hp mb most op (i + 1) w2) := fun hk => (tur_l hs1 x.2 hxs x.1 (by omega)).mono fun e w2 hh => by
        obtain ⟨q, mv', o⟩ := hh
        exact ⟨⟨_, q⟩, NX0.out _ _ _ (hG.op hs b1 o).1 (by rw [hk]; exact step_tur hPm nd x) (turL_ho hHO) (by have := turL_len most L x.2 x.1; omega)⟩
      have CNone : Hid (k ≠ 0 → k ≠ 1 → k ≠ 2 → NXD w hp mb most op (i + 1) W1) := fun q0 q1 q2 => NX0.out _ _ _ (hG.below b1) (by rw [step_not q0 q1 q2]; exact hPm) hHO (by omega)
      unfold eV at CPut
      have hW1H : Hid (wr.alloc (.cells #[.int .i64 k, .int .i64 wh, .bool mo, .int .i64 x.1, .string x.2, .slice la ln lc] 73) = W1 ∧ wr.heap.size = K) := ⟨hW1.symm, hK.symm⟩
      clear hG hPm hHO hLi hs hs1 sz1 b1 s1 hW1 hK hxs NX0 nd
      by_cases hk : k = 0
      · have C := CPut.out hk
        have CH : Hid _ := C
        clear C CPut CTake CTurn CNone
        subst hk
        go_wp2_with fail
        rw [hW1H.out.1, hW1H.out.2]
        clear hW1H e0 e1 e2 e3 e4 e5
        go_wp2_with fail
        refine Calls.mono CH.out ?_
        rintro e w2 ⟨⟨r, rfl⟩, nx⟩
        have NXH : Hid _ := nx
        clear nx CH f0 f3 f4
        go_wp2_with fail
        exact ⟨⟨i + 1, rfl, hi, NXH⟩, by first | (simp [intOf]; done) | (simp [intOf]; omega)⟩
      · by_cases hk' : k = 1
        · have C := CTake.out hk'
          have CH : Hid _ := C
          clear C CPut CTake CTurn CNone
          subst hk'
          go_wp2_with fail
          rw [hW1H.out.1, hW1H.out.2]
          clear hW1H e0 e1 e2 e3 e4 e5
          go_wp2_with fail
          refine Calls.mono CH.out ?_
          rintro e w2 ⟨⟨r, rfl⟩, nx⟩
          have NXH : Hid _ := nx
          clear nx CH f0 f3 f4
          go_wp2_with fail
          exact ⟨⟨i + 1, rfl, hi, NXH⟩, by first | (simp [intOf]; done) | (simp [intOf]; omega)⟩
        · by_cases hk'' : k = 2
          · have C := CTurn.out hk''
            have CH : Hid _ := C
            clear C CPut CTake CTurn CNone
            subst hk''
            go_wp2_with fail
            rw [hW1H.out.1, hW1H.out.2]
            clear hW1H e0 e1 e2 e3 e4 e5
            go_wp2_with fail
            refine Calls.mono CH.out ?_
            rintro e w2 ⟨⟨r, rfl⟩, nx⟩
            have NXH : Hid _ := nx
            clear nx CH f0 f3 f4
            go_wp2_with fail
            exact ⟨⟨i + 1, rfl, hi, NXH⟩, by first | (simp [intOf]; done) | (simp [intOf]; omega)⟩
          · have C := CNone.out hk hk' hk''
            have NXH : Hid _ := C
            have hb0 : (k == 0) = false := by simpa using hk
            have hb1 : (k == 1) = false := by simpa using hk'
            have hb2 : (k == 2) = false := by simpa using hk''
            clear C CPut CTake CTurn CNone
            go_wp2_with fail
            rw [hW1H.out.1]
            exact ⟨⟨i + 1, rfl, hi, NXH⟩, by first | (simp [intOf]; done) | (simp [intOf]; omega)⟩
    · have hlt : ¬ (i : Int) < (len : Int) := by omega
      have e : i = len := by omega
      subst e
      go_wp2_with fail
      go_ret
      exact ⟨rfl, hG0.out⟩
end Go.Proofs.Ytcglgfcmhhbeaaa.Hp
