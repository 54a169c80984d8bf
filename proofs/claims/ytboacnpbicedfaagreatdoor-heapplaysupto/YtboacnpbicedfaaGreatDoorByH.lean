
import Derived.Test.YtboacnpbicedfaaGreatDoorHpLq
import Derived.Test.YtboacnpbicedfaaGreatDoorByG
import Derived.Test.YtboacnpbicedfaaGreatDoorHuJq
namespace Go.Proofs.YtboacnpbicedfaaGreatDoor.Hp
open Go.RowKit Go.Maps
set_option linter.unusedVariables false
set_option linter.unusedSimpArgs false
set_option maxRecDepth 100000
/-- one call of a row. -/
structure OpP where
  k : Int
  wh : Int
  mo : Bool
  e : Ent
  la : Option Addr
  ln : Nat
  lc : Nat
def OpIn (w : World) (a : Option Addr) (len : Nat) (op : Nat → OpP) : Prop := len = 0 ∨ ∃ b off, a = some ⟨b, off, none⟩ ∧ b < w.heap.size ∧ ∀ i, i < len → w.cell? ⟨b, off + i * 6, none⟩ = some (.int .i64 (op i).k) ∧ w.cell? ⟨b, off + i * 6 + 1, none⟩ = some (.int .i64 (op i).wh) ∧ w.cell? ⟨b, off + i * 6 + 2, none⟩ = some (.bool (op i).mo) ∧ w.cell? ⟨b, off + i * 6 + 3, none⟩ = some (.int .i64 (op i).e.1) ∧ w.cell? ⟨b, off + i * 6 + 4, none⟩ = some (.string (op i).e.2) ∧ w.cell? ⟨b, off + i * 6 + 5, none⟩ = some (.slice (op i).la (op i).ln (op i).lc)
theorem OpIn.below {w w' : World} {a : Option Addr} {len : Nat} {op : Nat → OpP} (h : OpIn w a len op) (hB : Below w.heap.size w w') : OpIn w' a len op := by
  rcases h with h | ⟨b, off, ha, hb, hc⟩
  · exact Or.inl h
  · refine Or.inr ⟨b, off, ha, by have := hB.size; omega, fun i hi => ?_⟩
    have c : ∀ o, w'.cell? ⟨b, o, none⟩ = w.cell? ⟨b, o, none⟩ := fun o => hB.cell (p := ⟨b, o, none⟩) hb
    rw [c, c, c, c, c, c]
    exact hc i hi
end Go.Proofs.YtboacnpbicedfaaGreatDoor.Hp

namespace Go.Proofs.YtboacnpbicedfaaGreatDoor.Hp
open Go.RowKit Go.Maps
set_option linter.unusedVariables false
set_option linter.unusedSimpArgs false
set_option maxRecDepth 100000
theorem OP.same {w w' : World} {B hp mb : Nat} {most : Bool} {v : Value} {f : ByteArray → Option Nat} {L : List Ent} {mv : Int} (h : HS w B hp mb most v none f L mv) (hb : Below w.heap.size w w') : OP w B hp mb most v L mv w' := ⟨⟨v, f, h.below hb, Or.inl rfl⟩, HF.below hb⟩
def noP (o : Option Nat) (n : Int) : Value := match o with
  | none => .nilIface
  | some _ => .iface 41 (.int .i64 n)
def noT (o : Option Nat) (n : Int) : Value := match o with
  | some _ => .nilIface
  | none => .iface 41 (.int .i64 n)
theorem put_l {w : World} {B hp mb : Nat} {most : Bool} {v : Value} {f : ByteArray → Option Nat} {L : List Ent} {mv : Int} (h : HS w B hp mb most v none f L mv) (hBw : B ≤ w.heap.size) (x : Ent) (hx : x.2.size ≤ 9223372036854775807) (hn : L.length + 1 ≤ 1099511627776) :
    Calls Tryz.prog 28 #[.pointer (some ⟨hp, 0, none⟩), eV x] w fun e w' => e = .returned (noP (fnd L x.2) 5) ∧ ∃ mv', OP w B hp mb most v (putL most L x) mv' w' := by
  have hpl := h.pl.fnd x.2
  cases hf : fnd L x.2 with
  | none =>
    refine (put_ok h hBw x hx (by rw [hpl, hf]) hn).mono fun e w' hh => ⟨hh.1, ?_⟩
    have e1 : putL most L x = (upL (ahd most) (L ++ [x]) L.length).1 := by unfold putL; rw [hf]
    rw [e1]
    exact ⟨_, hh.2⟩
  | some i =>
    refine (put_known h x hx (by rw [hpl, hf]; simp)).mono fun e w' hh => ⟨hh.1, mv, ?_⟩
    rw [putL_some hf]
    exact OP.same h hh.2
theorem tur_l {w : World} {B hp mb : Nat} {most : Bool} {v : Value} {f : ByteArray → Option Nat} {L : List Ent} {mv : Int} (h : HS w B hp mb most v none f L mv) (s : ByteArray) (hs : s.size ≤ 9223372036854775807) (r : Int) (hn : L.length ≤ 1099511627776) :
    Calls Tryz.prog 32 #[.pointer (some ⟨hp, 0, none⟩), .string s, .int .i64 r] w fun e w' => e = .returned (noT (fnd L s) 4) ∧ ∃ mv', OP w B hp mb most v (turL most L s r) mv' w' := by
  have hpl := h.pl.fnd s
  cases hf : fnd L s with
  | none =>
    refine (turn_none h s hs r (by rw [hpl, hf])).mono fun e w' hh => ⟨hh.1, mv, ?_⟩
    rw [turL_none hf, hh.2]
    exact OP.same h (Below.refl _ _)
  | some i =>
    refine (turn_ok h s hs r i (by rw [hpl, hf]) hn).mono fun e w' hh => ⟨hh.1, ?_⟩
    have e1 : turL most L s r = (mendL (ahd most) (L.set i (r, s)) i).1 := by unfold turL; rw [hf]
    rw [e1]
    exact ⟨_, hh.2⟩
def topE (L : List Ent) (s : ByteArray) : Ent := match fnd L s with
  | none => nE
  | some i => atE L i
theorem tak_l {w : World} {B hp mb : Nat} {most : Bool} {v : Value} {f : ByteArray → Option Nat} {L : List Ent} {mv : Int} (h : HS w B hp mb most v none f L mv) (s : ByteArray) (hs : s.size ≤ 9223372036854775807) (hn : L.length ≤ 1099511627776) :
    Calls Tryz.prog 30 #[.pointer (some ⟨hp, 0, none⟩), .string s] w fun e w' => e = .returned (.tuple #[eV (topE L s), noT (fnd L s) 4]) ∧ ∃ mv', OP w B hp mb most v (takL most L s) mv' w' := by
  have hpl := h.pl.fnd s
  cases hf : fnd L s with
  | none =>
    refine (take_none h s hs (by rw [hpl, hf])).mono fun e w' hh => ⟨?_, mv, ?_⟩
    · rw [hh.1]; unfold topE; rw [hf]; rfl
    · rw [takL_none hf]; exact OP.same h hh.2
  | some i =>
    have hfi : f s = some i := by rw [hpl, hf]
    obtain ⟨hi, hnm⟩ := fnd_some hf
    have eT : topE L s = atE L i := by unfold topE; rw [hf]
    rw [eT]
    obtain ⟨M, x, rfl⟩ := cut_form (L := L) (by omega)
    have LL : (M ++ [x]).length = M.length + 1 := by simp
    by_cases c : i = M.length
    · subst c
      rw [atE_snoc] at hnm
      refine (take_last h s hs hnm (by omega)).mono fun e w' hh => ⟨by rw [hh.1, atE_snoc]; rfl, 0, ?_⟩
      have e1 : takL most (M ++ [x]) s = M := by
        unfold takL; rw [hf]; simp only
        rw [if_pos (by omega), goneL_last]
      rw [e1]
      exact hh.2
    · have hi2 : i < M.length := by omega
      have hne : x.2 ≠ s := fun q => by
        have := h.pl.nd i M.length (by omega) (by omega) (by rw [hnm, atE_snoc, q])
        omega
      refine (take_over h s hs i hfi hne (by omega)).mono fun e w' hh => ⟨hh.1, ?_⟩
      have e1 : takL most (M ++ [x]) s = (mendL (ahd most) (M.set i x) i).1 := by
        unfold takL; rw [hf]; simp only
        rw [if_neg (by omega), goneL_over hi2]
      rw [e1]
      exact ⟨_, hh.2⟩
theorem GB.op {w wr W1 w2 : World} {hp mb : Nat} {most : Bool} {v : Value} {f : ByteArray → Option Nat} {L L' : List Ent} {mv mv' : Int} (hG : GB w hp mb most L mv wr) (h : HS wr (w.heap.size + 2) hp mb most v none f L mv) (hb : Below wr.heap.size wr W1) (op : OP W1 (w.heap.size + 2) hp mb most v L' mv' w2) : GB w hp mb most L' mv' w2 ∧ ∀ K, wr.heap.size ≤ K → K < W1.heap.size → w2.heap[K]? = W1.heap[K]? := by
  obtain ⟨v', f', hs', _⟩ := op.hs
  have hr := h.row
  have fr := (HF.below (hp := hp) (mb := mb) (rb := v.ownBlock) hb).trans op.fr
  obtain ⟨q1, q2⟩ := hG.frame (ex := none) (f := f) (L' := L) (mv' := mv) (B := 0) hr fr
  have sz := hG.sz
  have e1 := hG.e1
  have e2 := hG.e2
  exact ⟨⟨⟨v', f', hs'⟩, q1, q2, e1, e2⟩, fun K k1 k2 => op.fr.keep K k2 (by omega) (by omega) (fun e => by have := (World.ownsRow.lt hr K e.symm).2; omega)⟩
/-- what is in behind some calls. -/
def inD (op : Nat → OpP) : Nat → List Ent
  | 0 => []
  | n + 1 => stepD (op n).k (op n).e (inD op n)
structure DI (most : Bool) (op : Nat → OpP) (i : Nat) (L : List Ent) : Prop where
  pm : L.Perm (inD op i)
  ho : HO (ahd most) L
  le : L.length ≤ i
/-- behind one call of the row. -/
def NXD (w : World) (hp mb : Nat) (most : Bool) (op : Nat → OpP) (i : Nat) (w2 : World) : Prop := ∃ L mv, GB w hp mb most L mv w2 ∧ DI most op i L
end Go.Proofs.YtboacnpbicedfaaGreatDoor.Hp

namespace Go.Proofs.YtboacnpbicedfaaGreatDoor.Hp
open Go.RowKit Go.Maps
set_option linter.unusedVariables false
set_option linter.unusedSimpArgs false
set_option maxRecDepth 100000
theorem fnd_top {L : List Ent} (nd : ND L) (hL : 0 < L.length) : fnd L (atE L 0).2 = some 0 ∧ topE L (atE L 0).2 = atE L 0 := by
  cases q : fnd L (atE L 0).2 with
  | none => exact absurd rfl (fnd_none.1 q _ (List.mem_of_getElem? (atE_some hL)))
  | some i =>
    obtain ⟨h1, h2⟩ := fnd_some q
    have := nd i 0 h1 hL h2
    subst this
    exact ⟨rfl, by unfold topE; rw [q]⟩
set_option maxHeartbeats 4000000 in
theorem pop_l {w : World} {B hp mb : Nat} {most : Bool} {v : Value} {f : ByteArray → Option Nat} {L : List Ent} {mv : Int} (h : HS w B hp mb most v none f L mv) (hL : 0 < L.length) (hn : L.length ≤ 1099511627776) :
    Calls Tryz.prog 34 #[.pointer (some ⟨hp, 0, none⟩)] w fun e w' => e = .returned (.tuple #[eV (atE L 0), .nilIface]) ∧ ∃ mv', OP w B hp mb most v (takL most L (atE L 0).2) mv' w' := by
  have hl := h.hl
  have mlt : mb < w.heap.size := by obtain ⟨_, m, _⟩ := h.mp; exact m.lt
  have rb : ∀ k, v.ownBlock = some k → k < w.heap.size := fun k e => (World.ownsRow.lt h.row k e).2
  obtain ⟨ft, tt⟩ := fnd_top h.pl.nd hL
  have hy : (atE L 0).2.size ≤ 9223372036854775807 := h.nm _ (List.mem_of_getElem? (atE_some hL))
  obtain ⟨W0, hW0⟩ : ∃ W0, W0 = w.alloc (.cells #[.int .i64 0, .string ⟨#[]⟩] 30) := ⟨_, rfl⟩
  have b0 : Below w.heap.size w W0 := by rw [hW0]; exact (Below.refl _ w).alloc (Nat.le_refl _) _
  have s0 : W0.heap.size = w.heap.size + 1 := by rw [hW0]; simp
  have p0 : W0.cell? ⟨w.heap.size, 0, none⟩ = some (.int .i64 0) ∧ W0.cell? ⟨w.heap.size, 1, none⟩ = some (.string ⟨#[]⟩) ∧ W0.frozen? ⟨w.heap.size, 0, none⟩ = false ∧ W0.frozen? ⟨w.heap.size, 1, none⟩ = false := by rw [hW0]; refine ⟨?_, ?_, ?_, ?_⟩ <;> simp [go_sem]
  have CT0 : Hid _ := top_some (h.below b0) hL
  have NX : Hid (∀ w1, Below W0.heap.size W0 w1 → Calls Tryz.prog 30 #[.pointer (some ⟨hp, 0, none⟩), .string (atE L 0).2] (w1.alloc (.cells #[.int .i64 (atE L 0).1, .string (atE L 0).2] 30)) fun e w2 => e = .returned (.tuple #[eV (atE L 0), .nilIface]) ∧ (w2.cell? ⟨w.heap.size, 0, none⟩ = some (.int .i64 0) ∧ w2.cell? ⟨w.heap.size, 1, none⟩ = some (.string ⟨#[]⟩) ∧ w2.frozen? ⟨w.heap.size, 0, none⟩ = false ∧ w2.frozen? ⟨w.heap.size, 1, none⟩ = false) ∧ ∀ w3, w2.grownBy w3 (some w.heap.size) → ∃ mv', OP w B hp mb most v (takL most L (atE L 0).2) mv' w3) := fun w1 b1 => by
    obtain ⟨W2, hW2⟩ : ∃ W2, W2 = w1.alloc (.cells #[.int .i64 (atE L 0).1, .string (atE L 0).2] 30) := ⟨_, rfl⟩
    rw [← hW2]
    have b12 : Below w1.heap.size w1 W2 := by rw [hW2]; exact (Below.refl _ w1).alloc (Nat.le_refl _) _
    have b2 : Below W0.heap.size W0 W2 := below_trans b1 (below_less b12 b1.size)
    have bb : Below w.heap.size w W2 := below_trans b0 (below_less b2 b0.size)
    refine (tak_l (h.below bb) (atE L 0).2 hy hn).mono fun e w2 hh => ?_
    obtain ⟨e1, mv', op⟩ := hh
    rw [ft, tt] at e1
    refine ⟨e1, ?_, fun w3 g3 => ⟨mv', op.over bb g3 (Nat.le_refl _) (by have := b2.size; omega) hl mlt rb⟩⟩
    have kK : w2.heap[w.heap.size]? = W2.heap[w.heap.size]? := op.fr.keep _ (by have := b2.size; omega) (by omega) (by omega) (fun e => by have := rb _ e.symm; omega)
    have kK0 : w2.heap[w.heap.size]? = W0.heap[w.heap.size]? := kK.trans (b2.block _ (by omega))
    exact ⟨by rw [World.cell?_of_block (w := W0) (a := ⟨w.heap.size, 0, none⟩) kK0]; exact p0.1, by rw [World.cell?_of_block (w := W0) (a := ⟨w.heap.size, 1, none⟩) kK0]; exact p0.2.1, by have := p0.2.2.1; simp only [World.frozen?, kK0] at *; exact this, by have := p0.2.2.2; simp only [World.frozen?, kK0] at *; exact this⟩
  unfold eV at CT0 NX ⊢
  have hW0H : Hid (w.alloc (.cells #[.int .i64 0, .string ⟨#[]⟩] 30) = W0) := hW0.symm
  clear h hW0 b0 s0 p0 hy tt ft rb mlt hl
  generalize takL most L (atE L 0).2 = M at *
  generalize atE L 0 = y at *
  go_enter Tryz.func34, Tryz.ntmps34
  go_wp2_with fail
  rw [hW0H.out]
  refine Calls.mono CT0.out ?_
  rintro e w1 ⟨rfl, b1⟩
  have CK : Hid _ := NX.out w1 b1
  clear NX CT0 b1 hW0H
  go_wp2_with fail
  refine Calls.mono CK.out ?_
  rintro e w2 ⟨rfl, ⟨q0, q1, q2, q3⟩, op0⟩
  have op : Hid _ := op0
  clear op0 CK
  go_wp2_with fail
  have p0 := World.cell?_setCell_same w2 ⟨w.heap.size, 0, none⟩ (.int .i64 y.1) q0
  have p1 := World.cell?_setCell_same (w2.setCell ⟨w.heap.size, 0, none⟩ (.int .i64 y.1)) ⟨w.heap.size, 1, none⟩ (.string y.2) (by rw [World.cell?_setCell_other _ _ _ _ (by intro e; injection e; omega)]; exact q1)
  simp [bodyPost, results, Tryz.results34, go_sem, p0, p1]
  exact op.out _ (two_set _ _ _ _)
end Go.Proofs.YtboacnpbicedfaaGreatDoor.Hp

namespace Go.Proofs.YtboacnpbicedfaaGreatDoor.Hp
open Go.RowKit Go.Maps
set_option linter.unusedVariables false
set_option linter.unusedSimpArgs false
set_option maxRecDepth 100000
/-- the program's map tells where the document's find does. -/
theorem PL.fr {f : ByteArray → Option Nat} {L : List Ent} (h : PL none f L) (s : ByteArray) : FR L s (f s) := by
  have e := h.fnd s
  cases q : Hp.fnd L s with
  | none =>
    rw [e, q]
    intro i hi c
    exact (fnd_none.1 q) _ (List.mem_of_getElem? (atE_some hi)) c
  | some i =>
    rw [e, q]
    obtain ⟨h1, h2⟩ := fnd_some q
    exact ⟨h1, h2, fun j hj c => by have := h.nd j i (by omega) h1 (by rw [c, h2]); omega⟩
theorem take_x {w : World} {B hp mb : Nat} {most : Bool} {v : Value} {f : ByteArray → Option Nat} {L : List Ent} {mv : Int} (h : HS w B hp mb most v none f L mv) (s : ByteArray) (hs : s.size ≤ 9223372036854775807) (i : Nat) (hfi : f s = some i) (hn : L.length ≤ 1099511627776) :
    Calls Tryz.prog 30 #[.pointer (some ⟨hp, 0, none⟩), .string s] w fun e w' => e = .returned (.tuple #[eV (atE L i), .nilIface]) ∧ OP w B hp mb most v (takP most L i).1 (((takP most L i).2 : Nat) : Int) w' := by
  have hf : fnd L s = some i := by rw [← h.pl.fnd s]; exact hfi
  obtain ⟨hi, hnm⟩ := fnd_some hf
  obtain ⟨M, x, rfl⟩ := snoc_form (L := L) (by omega)
  have LL : (M ++ [x]).length = M.length + 1 := by simp
  by_cases c : i = M.length
  · subst c
    rw [atE_snoc] at hnm
    refine (take_last h s hs hnm (by omega)).mono fun e w' hh => ⟨by rw [hh.1, atE_snoc], ?_⟩
    have e1 : takP most (M ++ [x]) M.length = (M, 0) := by
      unfold takP
      rw [if_pos (by omega), goneL_last]
    rw [e1]
    exact hh.2
  · have hi2 : i < M.length := by omega
    have hne : x.2 ≠ s := fun q => by
      have := h.pl.nd i M.length (by omega) (by omega) (by rw [hnm, atE_snoc, q])
      omega
    refine (take_over h s hs i hfi hne (by omega)).mono fun e w' hh => ⟨hh.1, ?_⟩
    have e1 : takP most (M ++ [x]) i = mendL (ahd most) (M.set i x) i := by
      unfold takP
      rw [if_neg (by omega), goneL_over hi2]
    rw [e1]
    exact hh.2
set_option maxHeartbeats 4000000 in
theorem pop_x {w : World} {B hp mb : Nat} {most : Bool} {v : Value} {f : ByteArray → Option Nat} {L : List Ent} {mv : Int} (h : HS w B hp mb most v none f L mv) (hL : 0 < L.length) (hn : L.length ≤ 1099511627776) :
    Calls Tryz.prog 34 #[.pointer (some ⟨hp, 0, none⟩)] w fun e w' => e = .returned (.tuple #[eV (atE L 0), .nilIface]) ∧ OP w B hp mb most v (takP most L 0).1 (((takP most L 0).2 : Nat) : Int) w' := by
  have hl := h.hl
  have mlt : mb < w.heap.size := by obtain ⟨_, m, _⟩ := h.mp; exact m.lt
  have rb : ∀ k, v.ownBlock = some k → k < w.heap.size := fun k e => (World.ownsRow.lt h.row k e).2
  have hf0 : f (atE L 0).2 = some 0 := h.pl.at hL
  have hy : (atE L 0).2.size ≤ 9223372036854775807 := h.nm _ (List.mem_of_getElem? (atE_some hL))
  obtain ⟨W0, hW0⟩ : ∃ W0, W0 = w.alloc (.cells #[.int .i64 0, .string ⟨#[]⟩] 30) := ⟨_, rfl⟩
  have b0 : Below w.heap.size w W0 := by rw [hW0]; exact (Below.refl _ w).alloc (Nat.le_refl _) _
  have s0 : W0.heap.size = w.heap.size + 1 := by rw [hW0]; simp
  have p0 : W0.cell? ⟨w.heap.size, 0, none⟩ = some (.int .i64 0) ∧ W0.cell? ⟨w.heap.size, 1, none⟩ = some (.string ⟨#[]⟩) ∧ W0.frozen? ⟨w.heap.size, 0, none⟩ = false ∧ W0.frozen? ⟨w.heap.size, 1, none⟩ = false := by rw [hW0]; refine ⟨?_, ?_, ?_, ?_⟩ <;> simp [go_sem]
  have CT0 : Hid _ := top_some (h.below b0) hL
  have NX : Hid (∀ w1, Below W0.heap.size W0 w1 → Calls Tryz.prog 30 #[.pointer (some ⟨hp, 0, none⟩), .string (atE L 0).2] (w1.alloc (.cells #[.int .i64 (atE L 0).1, .string (atE L 0).2] 30)) fun e w2 => e = .returned (.tuple #[eV (atE L 0), .nilIface]) ∧ (w2.cell? ⟨w.heap.size, 0, none⟩ = some (.int .i64 0) ∧ w2.cell? ⟨w.heap.size, 1, none⟩ = some (.string ⟨#[]⟩) ∧ w2.frozen? ⟨w.heap.size, 0, none⟩ = false ∧ w2.frozen? ⟨w.heap.size, 1, none⟩ = false) ∧ ∀ w3, w2.grownBy w3 (some w.heap.size) → OP w B hp mb most v (takP most L 0).1 (((takP most L 0).2 : Nat) : Int) w3) := fun w1 b1 => by
    obtain ⟨W2, hW2⟩ : ∃ W2, W2 = w1.alloc (.cells #[.int .i64 (atE L 0).1, .string (atE L 0).2] 30) := ⟨_, rfl⟩
    rw [← hW2]
    have b12 : Below w1.heap.size w1 W2 := by rw [hW2]; exact (Below.refl _ w1).alloc (Nat.le_refl _) _
    have b2 : Below W0.heap.size W0 W2 := below_trans b1 (below_less b12 b1.size)
    have bb : Below w.heap.size w W2 := below_trans b0 (below_less b2 b0.size)
    refine (take_x (h.below bb) (atE L 0).2 hy 0 hf0 hn).mono fun e w2 hh => ?_
    obtain ⟨e1, op⟩ := hh
    refine ⟨e1, ?_, fun w3 g3 => op.over bb g3 (Nat.le_refl _) (by have := b2.size; omega) hl mlt rb⟩
    have kK : w2.heap[w.heap.size]? = W2.heap[w.heap.size]? := op.fr.keep _ (by have := b2.size; omega) (by omega) (by omega) (fun e => by have := rb _ e.symm; omega)
    have kK0 : w2.heap[w.heap.size]? = W0.heap[w.heap.size]? := kK.trans (b2.block _ (by omega))
    exact ⟨by rw [World.cell?_of_block (w := W0) (a := ⟨w.heap.size, 0, none⟩) kK0]; exact p0.1, by rw [World.cell?_of_block (w := W0) (a := ⟨w.heap.size, 1, none⟩) kK0]; exact p0.2.1, by have := p0.2.2.1; simp only [World.frozen?, kK0] at *; exact this, by have := p0.2.2.2; simp only [World.frozen?, kK0] at *; exact this⟩
  unfold eV at CT0 NX ⊢
  have hW0H : Hid (w.alloc (.cells #[.int .i64 0, .string ⟨#[]⟩] 30) = W0) := hW0.symm
  clear h hW0 b0 s0 p0 hy hf0 rb mlt hl
  generalize takP most L 0 = M at *
  generalize atE L 0 = y at *
  go_enter Tryz.func34, Tryz.ntmps34
  go_wp2_with fail
  rw [hW0H.out]
  refine Calls.mono CT0.out ?_
  rintro e w1 ⟨rfl, b1⟩
  have CK : Hid _ := NX.out w1 b1
  clear NX CT0 b1 hW0H
  go_wp2_with fail
  refine Calls.mono CK.out ?_
  rintro e w2 ⟨rfl, ⟨q0, q1, q2, q3⟩, op0⟩
  have op : Hid _ := op0
  clear op0 CK
  go_wp2_with fail
  have p0 := World.cell?_setCell_same w2 ⟨w.heap.size, 0, none⟩ (.int .i64 y.1) q0
  have p1 := World.cell?_setCell_same (w2.setCell ⟨w.heap.size, 0, none⟩ (.int .i64 y.1)) ⟨w.heap.size, 1, none⟩ (.string y.2) (by rw [World.cell?_setCell_other _ _ _ _ (by intro e; injection e; omega)]; exact q1)
  simp [bodyPost, results, Tryz.results34, go_sem, p0, p1]
  exact op.out _ (two_set _ _ _ _)
set_option maxHeartbeats 4000000 in
/-- Pop where there is no top. -/
theorem hpop_by (p : Value) (hp : p = .pointer none ∨ ∃ hp, p = .pointer (some ⟨hp, 0, none⟩)) (c : Int) (w : World) (CT : ∀ W, Below w.heap.size w W → Calls Tryz.prog 36 #[p] W fun e w' => e = .returned (.tuple #[eV (0, ⟨#[]⟩), .bool false]) ∧ Below W.heap.size W w')
    (CK : ∀ W, Below w.heap.size w W → Calls Tryz.prog 30 #[p, .string ⟨#[]⟩] W fun e w' => e = .returned (.tuple #[eV (0, ⟨#[]⟩), .iface 41 (.int .i64 c)]) ∧ Below W.heap.size W w') :
    Calls Tryz.prog 34 #[p] w fun e w' => e = .returned (.tuple #[eV (0, ⟨#[]⟩), .iface 41 (.int .i64 c)]) ∧ Below w.heap.size w w' := by
  obtain ⟨W0, hW0⟩ : ∃ W0, W0 = w.alloc (.cells #[.int .i64 0, .string ⟨#[]⟩] 30) := ⟨_, rfl⟩
  have b0 : Below w.heap.size w W0 := by rw [hW0]; exact (Below.refl _ w).alloc (Nat.le_refl _) _
  have ec : EC W0 w.heap.size := by rw [hW0]; exact EC.new w
  have CT0 : Hid _ := CT W0 b0
  have NX : Hid (∀ w1, Below W0.heap.size W0 w1 → Calls Tryz.prog 30 #[p, .string ⟨#[]⟩] (w1.alloc (.cells #[.int .i64 0, .string ⟨#[]⟩] 30)) fun e w2 => e = .returned (.tuple #[eV (0, ⟨#[]⟩), .iface 41 (.int .i64 c)]) ∧ EC w2 w.heap.size ∧ Below w.heap.size w w2) := fun w1 b1 => by
    have b12 : Below w1.heap.size w1 (w1.alloc (.cells #[.int .i64 0, .string ⟨#[]⟩] 30)) := (Below.refl _ w1).alloc (Nat.le_refl _) _
    have bb : Below w.heap.size w (w1.alloc (.cells #[.int .i64 0, .string ⟨#[]⟩] 30)) := below_trans (below_trans b0 (below_less b1 b0.size)) (below_less b12 (Nat.le_trans b0.size b1.size))
    exact (CK _ bb).mono fun e w2 hh => ⟨hh.1, ((ec.below b1).below b12).below hh.2, below_trans bb (below_less hh.2 bb.size)⟩
  unfold eV at CT0 NX ⊢
  have hW0H : Hid (w.alloc (.cells #[.int .i64 0, .string ⟨#[]⟩] 30) = W0) := hW0.symm
  clear hW0 b0 ec CT CK
  rcases hp with rfl | ⟨hp, rfl⟩
  all_goals
    go_enter Tryz.func34, Tryz.ntmps34
    go_wp2_with fail
    rw [hW0H.out]
    refine Calls.mono CT0.out ?_
    rintro e w1 ⟨rfl, b1⟩
    have CK : Hid _ := NX.out w1 b1
    clear NX CT0 b1 hW0H
    go_wp2_with fail
    refine Calls.mono CK.out ?_
    rintro e w2 ⟨rfl, ⟨_, q0, q1, qz⟩, bb⟩
    have q2 := qz 0
    have q3 := qz 1
    have fin : Hid (Below w.heap.size w (st2 w2 w.heap.size (0, ⟨#[]⟩))) := st2_below bb (Nat.le_refl _) _
    clear bb CK qz
    go_wp2_with fail
    simp [bodyPost, results, Tryz.results34, go_sem, q0, q1]
    exact fin.out
theorem hpop_nil (w : World) : Calls Tryz.prog 34 #[.pointer none] w fun e w' => e = .returned (.tuple #[eV (0, ⟨#[]⟩), .iface 41 (.int .i64 1)]) ∧ Below w.heap.size w w' := hpop_by _ (Or.inl rfl) 1 w (fun W _ => htop_nil W) (fun W _ => htake_nil _ W)
theorem hpop_none {w : World} {B hp mb : Nat} {most : Bool} {v : Value} {f : ByteArray → Option Nat} {mv : Int} (h : HS w B hp mb most v none f [] mv) : Calls Tryz.prog 34 #[.pointer (some ⟨hp, 0, none⟩)] w fun e w' => e = .returned (.tuple #[eV (0, ⟨#[]⟩), .iface 41 (.int .i64 4)]) ∧ Below w.heap.size w w' :=
  hpop_by _ (Or.inr ⟨hp, rfl⟩) 4 w (fun W hW => top_none (h.below hW)) (fun W hW => take_none (h.below hW) ⟨#[]⟩ (by decide) (by rw [h.pl.fnd]; exact fnd_none.2 (fun e he => by cases he)))
end Go.Proofs.YtboacnpbicedfaaGreatDoor.Hp
