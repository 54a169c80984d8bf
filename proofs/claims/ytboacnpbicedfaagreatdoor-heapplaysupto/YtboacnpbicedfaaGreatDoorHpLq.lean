
import Derived.Test.YtboacnpbicedfaaGreatDoorByD
namespace Go.Proofs.YtboacnpbicedfaaGreatDoor.Hp
open Go.RowKit Go.Maps
set_option linter.unusedVariables false
set_option linter.unusedSimpArgs false
set_option maxRecDepth 100000
/-! entries that are read -/
def EnIn (w : World) (a : Option Addr) (l : List Ent) : Prop := l = [] ∨ ∃ b off, a = some ⟨b, off, none⟩ ∧ b < w.heap.size ∧ ∀ i t, l[i]? = some t → w.cell? ⟨b, off + i * 2, none⟩ = some (.int .i64 t.1) ∧ w.cell? ⟨b, off + i * 2 + 1, none⟩ = some (.string t.2)
theorem EnIn.below {w w' : World} {a : Option Addr} {l : List Ent} (h : EnIn w a l) (hB : Below w.heap.size w w') : EnIn w' a l := by
  rcases h with h | ⟨b, off, ha, hb, hc⟩
  · exact Or.inl h
  · refine Or.inr ⟨b, off, ha, by have := hB.size; omega, fun i t ht => ?_⟩
    rw [hB.cell (p := ⟨b, off + i * 2, none⟩) hb, hB.cell (p := ⟨b, off + i * 2 + 1, none⟩) hb]
    exact hc i t ht
/-- is a name in? -/
def kn (L : List Ent) (s : ByteArray) : Bool := L.any fun e => decide (e.2 = s)
theorem PL.kn {f : ByteArray → Option Nat} {L : List Ent} (h : PL none f L) (s : ByteArray) : (f s).isSome = kn L s := by
  rw [Bool.eq_iff_iff, Option.isSome_iff_exists]
  unfold Hp.kn
  rw [List.any_eq_true]
  constructor
  · rintro ⟨i, hi⟩
    have := (h.2 s i (by simp)).1 hi
    rw [Option.map_eq_some_iff] at this
    obtain ⟨e, h1, h2⟩ := this
    exact ⟨e, List.mem_of_getElem? h1, by simpa using h2⟩
  · rintro ⟨e, h1, h2⟩
    obtain ⟨i, hi⟩ := List.getElem?_of_mem h1
    exact ⟨i, (h.2 s i (by simp)).2 (by rw [hi]; simpa using h2)⟩
theorem bldL_ge (ah : Ent → Ent → Bool) : ∀ (k : Nat) (r : List Ent × Nat), r.2 ≤ (bldL ah k r).2
  | 0, r => Nat.le_refl _
  | k + 1, r => by
    have := bldL_ge ah k ((downL ah r.1 k).1, r.2 + (downL ah r.1 k).2)
    simp only [bldL] at *
    omega
/-- a heap that lies beyond what was there. -/
structure GB (w : World) (hp mb : Nat) (most : Bool) (L : List Ent) (mv : Int) (wr : World) : Prop where
  hs : ∃ v f, HS wr (w.heap.size + 2) hp mb most v none f L mv
  bl : Below w.heap.size w wr
  sz : w.heap.size + 2 ≤ wr.heap.size
  e1 : hp = w.heap.size + 1
  e2 : mb = w.heap.size
theorem below_trans {w w1 w2 : World} {n : Nat} (h : Below n w w1) (k : Below n w1 w2) : Below n w w2 := ⟨k.os.trans h.os, k.tape.trans h.tape, k.output.trans h.output, Nat.le_trans h.size k.size, fun j hj => (k.block j hj).trans (h.block j hj)⟩
theorem below_less {w w1 : World} {n m : Nat} (h : Below n w w1) (hm : m ≤ n) : Below m w w1 := ⟨h.os, h.tape, h.output, h.size, fun j hj => h.block j (by omega)⟩
theorem GB.below {w wr w' : World} {hp mb : Nat} {most : Bool} {L : List Ent} {mv : Int} (h : GB w hp mb most L mv wr) (hb : Below wr.heap.size wr w') : GB w hp mb most L mv w' := by
  obtain ⟨v, f, hs⟩ := h.hs
  exact ⟨⟨v, f, hs.below hb⟩, below_trans h.bl (below_less hb h.bl.size), Nat.le_trans h.sz hb.size, h.e1, h.e2⟩
theorem GB.frame {w wr w' : World} {hp mb : Nat} {most : Bool} {L : List Ent} {mv : Int} {v : Value} (h : GB w hp mb most L mv wr) {ex : Option ByteArray} {f : ByteArray → Option Nat} {L' : List Ent} {mv' : Int} {B : Nat} (hr : wr.ownsRow (w.heap.size + 2) 30 2 v L.length (encE L)) (fr : HF hp mb v.ownBlock wr w') : Below w.heap.size w w' ∧ w.heap.size + 2 ≤ w'.heap.size :=
  ⟨below_trans h.bl (fr.into (by have := h.e1; omega) (by have := h.e2; omega) (fun k e => by have := (World.ownsRow.lt hr k e).1; omega) h.bl.size), Nat.le_trans h.sz fr.size⟩
theorem GB.look {w wr : World} {hp mb : Nat} {most : Bool} {L : List Ent} {mv : Int} (h : GB w hp mb most L mv wr) (s : ByteArray) (hs : s.size ≤ 9223372036854775807) : ∃ y : Int, (Instr.lookup 51 (.map (some mb)) (.string s) true).run Tryz.prog wr = .ok (.tuple #[.int .i64 y, .bool (kn L s)]) wr := by
  obtain ⟨v, f, hS⟩ := h.hs
  obtain ⟨c, mp, _⟩ := hS.mp
  obtain ⟨y, r, _⟩ := mp.look s hs
  rw [hS.pl.kn s] at r
  exact ⟨y, r⟩
theorem GB.push {w wr : World} {hp mb : Nat} {most : Bool} {L : List Ent} {mv : Int} (h : GB w hp mb most L mv wr) (x : Ent) (hx : x.2.size ≤ 9223372036854775807) (hk : kn L x.2 = false) (hn : L.length + 1 ≤ 1099511627776) :
    Calls Tryz.prog 21 #[.pointer (some ⟨hp, 0, none⟩), eV x] wr fun e w' => e = .returned undef ∧ GB w hp mb most (L ++ [x]) mv w' := by
  obtain ⟨v, f, hS⟩ := h.hs
  have hf : f x.2 = none := by
    have := hS.pl.kn x.2
    rw [hk] at this
    cases e : f x.2 with
    | none => rfl
    | some i => rw [e] at this; simp at this
  refine (push_any hS h.sz x hx hf hn).mono fun e w' hh => ?_
  obtain ⟨rfl, pu⟩ := hh
  obtain ⟨v', hs', _⟩ := pu.hs
  obtain ⟨q1, q2⟩ := h.frame (ex := none) (f := f) (L' := L) (mv' := mv) (B := 0) hS.row pu.fr
  exact ⟨rfl, ⟨v', _, hs'⟩, q1, q2, h.e1, h.e2⟩
theorem GB.down {w wr : World} {hp mb : Nat} {most : Bool} {L : List Ent} {mv : Int} (h : GB w hp mb most L mv wr) (i : Nat) (hi : i < L.length) (hn : L.length ≤ 1099511627776) :
    Calls Tryz.prog 22 #[.pointer (some ⟨hp, 0, none⟩), .int .i64 (i : Int)] wr fun e w' => e = .returned (.int .i64 (((downL (ahd most) L i).2 : Nat) : Int)) ∧ GB w hp mb most (downL (ahd most) L i).1 mv w' := by
  obtain ⟨v, f, hS⟩ := h.hs
  have ud : UD wr (w.heap.size + 2) hp mb most v none L.length L mv wr := ⟨⟨_, hS⟩, HF.refl _ _ _ _, rfl⟩
  refine (down_any ud i hi (by omega)).mono fun e w' hh => ?_
  obtain ⟨rfl, u2⟩ := hh
  obtain ⟨f2, hs2⟩ := u2.hs
  obtain ⟨q1, q2⟩ := h.frame (ex := none) (f := f) (L' := L) (mv' := mv) (B := 0) hS.row u2.fr
  exact ⟨rfl, ⟨v, _, hs2⟩, q1, q2, h.e1, h.e2⟩
theorem GB.moved {w wr : World} {hp mb : Nat} {most : Bool} {L : List Ent} {mv : Int} (h : GB w hp mb most L mv wr) (m : Int) : GB w hp mb most L m (wr.setCell ⟨hp, 3, none⟩ (.int .i64 m)) := by
  obtain ⟨v, f, hS⟩ := h.hs
  obtain ⟨m1, m2⟩ := hS.setMoves m
  obtain ⟨q1, q2⟩ := h.frame (ex := none) (f := f) (L' := L) (mv' := mv) (B := 0) hS.row (m2 _)
  exact ⟨⟨v, f, m1⟩, q1, q2, h.e1, h.e2⟩
theorem GB.cells {w wr : World} {hp mb : Nat} {most : Bool} {L : List Ent} {mv : Int} (h : GB w hp mb most L mv wr) : wr.cell? ⟨hp, 1, none⟩ = some (.map (some mb)) ∧ wr.cell? ⟨hp, 3, none⟩ = some (.int .i64 mv) ∧ wr.frozen? ⟨hp, 3, none⟩ = false := by
  obtain ⟨v, f, hS⟩ := h.hs
  exact ⟨hS.c1, hS.c3, hS.z3⟩
theorem fin_any (i n : Int) (w : World) : Calls Tryz.prog 19 #[.int .i64 i, .iface 41 (.int .i64 n)] w fun e w' => e = .returned (.iface 71 (.agg #[.int .i64 i, .iface 41 (.int .i64 n)])) ∧ w' = w := by
  go_enter Tryz.func19, Tryz.ntmps19
  go_wp2
  go_ret
  exact ⟨rfl, rfl⟩
theorem nums_b (n : Nat) (hn : n ≤ 1099511627776) : IntKind.i64.wrap (Int.tdiv (n : Int) 2) = ((n / 2 : Nat) : Int) ∧ IntKind.i64.wrap (((n / 2 : Nat) : Int) - 1) = ((n / 2 : Nat) : Int) - 1 := by
  refine ⟨?_, IntWalk.i64_in _ (by omega)⟩
  rw [show Int.tdiv (n : Int) 2 = ((n / 2 : Nat) : Int) by rw [Int.tdiv_eq_ediv_of_nonneg (by omega)]; omega]
  exact IntWalk.i64_in _ (by omega)
theorem nums_j (j n : Nat) (hj : j < n) (hn : n ≤ 1099511627776) : (0 : Int) ≤ (j : Int) ∧ (j : Int) < (n : Int) ∧ IntKind.i64.wrap ((j : Int) + 1) = ((j + 1 : Nat) : Int) ∧ j ≤ n := ⟨by omega, by omega, IntWalk.i64_in _ (by omega), by omega⟩
theorem nums_k (k : Nat) (m d : Nat) (hk : k ≤ 1099511627776) (hm : m + d ≤ 1099511627776) : IntKind.i64.wrap (((k + 1 : Nat) : Int) - 1 - 1) = (k : Int) - 1 ∧ ((k + 1 : Nat) : Int) - 1 = (k : Int) ∧ IntKind.i64.wrap ((k : Int) - 1) = (k : Int) - 1 ∧ (0 : Int) ≤ (k : Int) ∧ (k : Int) ≥ 0 ∧ IntKind.i64.wrap ((m : Int) + (d : Int)) = ((m + d : Nat) : Int) := ⟨by rw [show ((k + 1 : Nat) : Int) - 1 - 1 = (k : Int) - 1 by omega]; exact IntWalk.i64_in _ (by omega), by omega, IntWalk.i64_in _ (by omega), by omega, by omega, IntWalk.i64_in _ (by omega)⟩
set_option maxRecDepth 100000 in
set_option maxHeartbeats 8000000 in
theorem build_any (most : Bool) (a : Option Addr) (cap : Nat) (l : List Ent) (w : World) (hin : EnIn w a l) (hnm : ∀ e ∈ l, e.2.size ≤ 9223372036854775807) (hn : l.length ≤ 1099511627775) :
    Calls Tryz.prog 9 #[.bool most, .slice a l.length cap] w fun e w' => ((∃ er, e = .returned (.tuple #[.pointer none, .iface 71 er]) ∧ ∃ j, j < l.length ∧ kn (l.take j) (atE l j).2 = true) ∨ (e = .returned (.tuple #[.pointer (some ⟨w.heap.size + 1, 0, none⟩), .nilIface]) ∧ GB w (w.heap.size + 1) w.heap.size most (bldL (ahd most) (l.length / 2) (l, 0)).1 ((bldL (ahd most) (l.length / 2) (l, 0)).2 : Nat) w')) ∧ Below w.heap.size w w' := by
  obtain ⟨hp, hhp⟩ : ∃ hp, hp = w.heap.size + 1 := ⟨_, rfl⟩
  obtain ⟨mb, hmb⟩ : ∃ mb, mb = w.heap.size := ⟨_, rfl⟩
  have CN : Hid (Calls Tryz.prog 4 #[.bool most] w fun e w' => e = .returned (.pointer (some ⟨hp, 0, none⟩)) ∧ GB w hp mb most (l.take 0) 0 w') := by
    refine (hnew_any most w).mono fun e w' hh => ?_
    obtain ⟨h1, h2, h3⟩ := hh
    refine ⟨by rw [h1, hhp], ⟨_, _, by rw [hhp, hmb]; exact h2⟩, h3, ?_, hhp, hmb⟩
    have := h2.hl
    omega
  obtain ⟨n, hln⟩ : ∃ n, n = l.length := ⟨_, rfl⟩
  have hinH : Hid (EnIn w a l) := hin
  have hnmH : Hid (∀ e ∈ l, e.2.size ≤ 9223372036854775807) := hnm
  have hlnH : Hid (n = l.length) := hln
  have RES : Hid (∀ (e : Ending) (w' : World), e = .returned (.tuple #[.pointer (some ⟨hp, 0, none⟩), .nilIface]) → GB w hp mb most (bldL (ahd most) (n / 2) (l, 0)).1 ((bldL (ahd most) (n / 2) (l, 0)).2 : Nat) w' → ((∃ er, e = .returned (.tuple #[.pointer none, .iface 71 er]) ∧ ∃ j, j < l.length ∧ kn (l.take j) (atE l j).2 = true) ∨ (e = .returned (.tuple #[.pointer (some ⟨w.heap.size + 1, 0, none⟩), .nilIface]) ∧ GB w (w.heap.size + 1) w.heap.size most (bldL (ahd most) (l.length / 2) (l, 0)).1 ((bldL (ahd most) (l.length / 2) (l, 0)).2 : Nat) w')) ∧ Below w.heap.size w w') := fun e w' h1 h2 => by
    subst hln
    subst hhp hmb
    exact ⟨Or.inr ⟨h1, h2⟩, h2.bl⟩
  have RER : Hid (∀ (e : Ending) (w' : World) (j : Nat) (er : Value), j < n → kn (l.take j) (atE l j).2 = true → e = .returned (.tuple #[.pointer none, .iface 71 er]) → Below w.heap.size w w' → ((∃ er, e = .returned (.tuple #[.pointer none, .iface 71 er]) ∧ ∃ j, j < l.length ∧ kn (l.take j) (atE l j).2 = true) ∨ (e = .returned (.tuple #[.pointer (some ⟨w.heap.size + 1, 0, none⟩), .nilIface]) ∧ GB w (w.heap.size + 1) w.heap.size most (bldL (ahd most) (l.length / 2) (l, 0)).1 ((bldL (ahd most) (l.length / 2) (l, 0)).2 : Nat) w')) ∧ Below w.heap.size w w') := fun e w' j er hj hk h1 h2 => by
    subst hln
    exact ⟨Or.inl ⟨er, h1, j, hj, hk⟩, h2⟩
  have hn2 : n ≤ 1099511627775 := by omega
  rw [← hln]
  generalize hQQ : (fun (e : Ending) (w' : World) => ((∃ er, e = .returned (.tuple #[.pointer none, .iface 71 er]) ∧ ∃ j, j < n ∧ kn (l.take j) (atE l j).2 = true) ∨ (e = .returned (.tuple #[.pointer (some ⟨w.heap.size + 1, 0, none⟩), .nilIface]) ∧ GB w (w.heap.size + 1) w.heap.size most (bldL (ahd most) (n / 2) (l, 0)).1 ((bldL (ahd most) (n / 2) (l, 0)).2 : Nat) w')) ∧ Below w.heap.size w w') = QQ
  have RES2 : Hid (∀ (w' : World), GB w hp mb most (bldL (ahd most) (n / 2) (l, 0)).1 ((bldL (ahd most) (n / 2) (l, 0)).2 : Nat) w' → QQ (.returned (.tuple #[.pointer (some ⟨hp, 0, none⟩), .nilIface])) w') := fun w' h2 => by
    rw [← hQQ]; subst hln; exact RES.out _ w' rfl h2
  have RER2 : Hid (∀ (w' : World) (j : Nat) (er : Value), j < n → kn (l.take j) (atE l j).2 = true → Below w.heap.size w w' → QQ (.returned (.tuple #[.pointer none, .iface 71 er])) w') := fun w' j er hj hk h2 => by
    rw [← hQQ]; subst hln; exact RER.out _ w' j er hj hk rfl h2
  obtain ⟨nb1, nb2⟩ := nums_b n (by omega)
  clear RES RER hQQ hin hnm hn hln hhp hmb
  go_enter Tryz.func9, Tryz.ntmps9
  go_wp2_with fail
  refine Calls.mono CN.out ?_
  rintro e w1 ⟨rfl, gb1⟩
  have G0 : Hid (GB w hp mb most (l.take 0) 0 w1) := gb1
  clear gb1 CN
  go_wp2_with fail
  go_loopw [16] (fun v16 wr => ∃ (j : Nat), v16 = .int .i64 (j : Int) ∧ j ≤ n ∧ Hid (GB w hp mb most (l.take j) 0 wr)) (fun v16 _ => n - (intOf v16).toNat)
  case atStart => exact ⟨0, rfl, Nat.zero_le _, G0⟩
  case round =>
    clear G0
    obtain ⟨j, rfl, hjn, hG⟩ := hrel
    by_cases hj : j < n
    · obtain ⟨j0, jI, jw, _⟩ := nums_j j n hj (by omega)
      obtain ⟨x, hx⟩ : ∃ x, x = atE l j := ⟨_, rfl⟩
      have hjl : j < l.length := by rw [← hlnH.out]; exact hj
      have hxj : l[j]? = some x := by rw [hx]; exact atE_some hjl
      have hin2 := hinH.out.below hG.out.bl
      obtain ⟨b, off, rfl, hbl, hcs⟩ : ∃ b off, a = some ⟨b, off, none⟩ ∧ b < wr.heap.size ∧ ∀ i t, l[i]? = some t → wr.cell? ⟨b, off + i * 2, none⟩ = some (.int .i64 t.1) ∧ wr.cell? ⟨b, off + i * 2 + 1, none⟩ = some (.string t.2) := by
        rcases hin2 with q | q
        · rw [q] at hjl; simp at hjl
        · exact q
      obtain ⟨e1, e2⟩ := hcs j x hxj
      have hxs : x.2.size ≤ 9223372036854775807 := hnmH.out x (List.mem_of_getElem? hxj)
      obtain ⟨K, hK⟩ : ∃ K, K = wr.heap.size := ⟨_, rfl⟩
      obtain ⟨W1, hW1⟩ : ∃ W1, W1 = wr.alloc (.cells #[.int .i64 x.1, .string x.2] 30) := ⟨_, rfl⟩
      have b1 : Below wr.heap.size wr W1.drew := by rw [hW1]; exact ((Below.refl _ wr).alloc (Nat.le_refl _) _).drew
      have x1 : W1.drew.cell? ⟨K, 0, none⟩ = some (.int .i64 x.1) := by rw [hW1, hK]; simp [go_sem]
      have x2 : W1.drew.cell? ⟨K, 1, none⟩ = some (.string x.2) := by rw [hW1, hK]; simp [go_sem]
      have G1 := hG.out.below b1
      have c1 := G1.cells.1
      obtain ⟨y, r⟩ := G1.look x.2 hxs
      have bW : Hid (Below w.heap.size w W1.drew) := G1.bl
      have hW1H : Hid (wr.alloc (.cells #[.int .i64 x.1, .string x.2] 30) = W1 ∧ wr.heap.size = K) := ⟨hW1.symm, hK.symm⟩
      obtain ⟨bv, hbv⟩ : ∃ bv, kn (l.take j) x.2 = bv := ⟨_, rfl⟩
      rw [hbv] at r
      cases bv with
      | true =>
        have sS : Hid (W1.drew.cell? ⟨hp, 1, none⟩ = some (.map (some mb)) ∧ W1.drew.cell? ⟨K, 1, none⟩ = some (.string x.2) ∧ (Instr.lookup 51 (.map (some mb)) (.string x.2) true).run Tryz.prog W1.drew = .ok (.tuple #[.int .i64 y, .bool true]) W1.drew) := ⟨c1, x2, r⟩
        have kN : Hid (∀ W, Calls Tryz.prog 20 #[.int .i64 5] W fun e w' => e = .returned (.iface 41 (.int .i64 5)) ∧ w' = W) := fnew_any 5 (by decide)
        have kI : Hid (∀ W, Calls Tryz.prog 19 #[.int .i64 (j : Int), .iface 41 (.int .i64 5)] W fun e w' => e = .returned (.iface 71 (.agg #[.int .i64 (j : Int), .iface 41 (.int .i64 5)])) ∧ w' = W) := fin_any j 5
        have fin : Hid (QQ (.returned (.tuple #[.pointer none, .iface 71 (.agg #[.int .i64 (j : Int), .iface 41 (.int .i64 5)])])) W1.drew) := RER2.out _ j _ hj (by rw [← hx]; exact hbv) bW.out
        clear G1 c1 r x1 x2 b1 hbv hxs hcs hin2 hxj hjl hx hG RES2 RER2 bW hK hW1
        go_wp2_with fail
        rw [hW1H.out.1, hW1H.out.2]
        clear hW1H e1 e2
        refine wp_region_noPanic ?_
        refine wp_region_held_drew (S := fun W => W.cell? ⟨hp, 1, none⟩ = some (.map (some mb)) ∧ W.cell? ⟨K, 1, none⟩ = some (.string x.2) ∧ (Instr.lookup 51 (.map (some mb)) (.string x.2) true).run Tryz.prog W = .ok (.tuple #[.int .i64 y, .bool true]) W) (by kernel_rfl) sS.out (fun hHeld => ?_)
        refine wpAnyH_take (i := 0) (oi := _) (v := ?_) rfl (by kernel_rfl) (by kernel_rfl) (by kernel_rfl) (fun _ _ _ h => h) (Or.inl ⟨by rfl, ?_⟩) (by assumption) ?_
        rotate_left 1
        · (intro w0 hSw; (try dsimp only at hSw); obtain ⟨s1, s2, s3⟩ := hSw; go_simp; try with_reducible rfl)
        (try simp only [List.getElem_toArray, List.getElem_cons_succ, List.getElem_cons_zero]); (try simp only [Act.put, List.setIfInBounds_toArray, List.set_cons_zero, List.set_cons_succ])
        refine wpAnyH_take (i := 1) (oi := _) (v := ?_) rfl (by kernel_rfl) (by kernel_rfl) (by kernel_rfl) (fun _ _ _ h => h) (Or.inl ⟨by rfl, ?_⟩) (by assumption) ?_
        rotate_left 1
        · (intro w0 hSw; (try dsimp only at hSw); obtain ⟨s1, s2, s3⟩ := hSw; go_simp; try with_reducible rfl)
        (try simp only [List.getElem_toArray, List.getElem_cons_succ, List.getElem_cons_zero]); (try simp only [Act.put, List.setIfInBounds_toArray, List.set_cons_zero, List.set_cons_succ])
        refine wpAnyH_take (i := 2) (oi := _) (v := ?_) rfl (by kernel_rfl) (by kernel_rfl) (by kernel_rfl) (fun _ _ _ h => h) (Or.inl ⟨by rfl, ?_⟩) (by assumption) ?_
        rotate_left 1
        · (intro w0 hSw; (try dsimp only at hSw); obtain ⟨s1, s2, s3⟩ := hSw; go_simp; try with_reducible rfl)
        (try simp only [List.getElem_toArray, List.getElem_cons_succ, List.getElem_cons_zero]); (try simp only [Act.put, List.setIfInBounds_toArray, List.set_cons_zero, List.set_cons_succ])
        refine wpAnyH_take (i := 3) (oi := _) (v := ?_) rfl (by kernel_rfl) (by kernel_rfl) (by kernel_rfl) (fun _ _ _ h => h) (Or.inl ⟨by rfl, ?_⟩) (by assumption) ?_
        rotate_left 1
        · (intro w0 hSw; (try dsimp only at hSw); obtain ⟨s1, s2, s3⟩ := hSw; go_simp; try with_reducible rfl)
        (try simp only [List.getElem_toArray, List.getElem_cons_succ, List.getElem_cons_zero]); (try simp only [Act.put, List.setIfInBounds_toArray, List.set_cons_zero, List.set_cons_succ])
        refine wpAnyH_take (i := 4) (oi := _) (v := ?_) rfl (by kernel_rfl) (by kernel_rfl) (by kernel_rfl) (fun _ _ _ h => h) (Or.inl ⟨by rfl, ?_⟩) (by assumption) ?_
        rotate_left 1
        · (intro w0 hSw; (try dsimp only at hSw); obtain ⟨s1, s2, s3⟩ := hSw; go_simp; try with_reducible rfl)
        (try simp only [List.getElem_toArray, List.getElem_cons_succ, List.getElem_cons_zero]); (try simp only [Act.put, List.setIfInBounds_toArray, List.set_cons_zero, List.set_cons_succ])
        refine wpAnyH_take (i := 5) (oi := _) (v := ?_) rfl (by kernel_rfl) (by kernel_rfl) (by kernel_rfl) (fun _ _ _ h => h) (Or.inl ⟨by rfl, ?_⟩) (by assumption) ?_
        rotate_left 1
        · (intro w0 hSw; (try dsimp only at hSw); obtain ⟨s1, s2, s3⟩ := hSw; go_simp; try with_reducible rfl)
        (try simp only [List.getElem_toArray, List.getElem_cons_succ, List.getElem_cons_zero]); (try simp only [Act.put, List.setIfInBounds_toArray, List.set_cons_zero, List.set_cons_succ])
        refine wpAnyH_take (i := 6) (oi := _) (v := ?_) rfl (by kernel_rfl) (by kernel_rfl) (by kernel_rfl) (fun _ _ _ h => h) (Or.inl ⟨by rfl, ?_⟩) (by assumption) ?_
        rotate_left 1
        · (intro w0 hSw; (try dsimp only at hSw); obtain ⟨s1, s2, s3⟩ := hSw; go_simp; try with_reducible rfl)
        (try simp only [List.getElem_toArray, List.getElem_cons_succ, List.getElem_cons_zero]); (try simp only [Act.put, List.setIfInBounds_toArray, List.set_cons_zero, List.set_cons_succ])
        refine wpAnyH_take (i := 7) (oi := _) (v := ?_) rfl (by kernel_rfl) (by kernel_rfl) (by kernel_rfl) (fun _ _ _ h => h) (Or.inl ⟨by rfl, ?_⟩) (by assumption) ?_
        rotate_left 1
        · (intro w0 hSw; (try dsimp only at hSw); obtain ⟨s1, s2, s3⟩ := hSw; go_simp; try with_reducible rfl)
        (try simp only [List.getElem_toArray, List.getElem_cons_succ, List.getElem_cons_zero]); (try simp only [Act.put, List.setIfInBounds_toArray, List.set_cons_zero, List.set_cons_succ])
        refine wpAnyH_take (i := 8) (oi := _) (v := ?_) rfl (by kernel_rfl) (by kernel_rfl) (by kernel_rfl) (fun _ _ _ h => h) (Or.inl ⟨by rfl, ?_⟩) (by assumption) ?_
        rotate_left 1
        · (intro w0 hSw; (try dsimp only at hSw); obtain ⟨s1, s2, s3⟩ := hSw; go_simp; try with_reducible rfl)
        (try simp only [List.getElem_toArray, List.getElem_cons_succ, List.getElem_cons_zero]); (try simp only [Act.put, List.setIfInBounds_toArray, List.set_cons_zero, List.set_cons_succ])
        refine wpAnyH_take (i := 9) (oi := _) (v := ?_) rfl (by kernel_rfl) (by kernel_rfl) (by kernel_rfl) (fun _ _ _ h => h) (Or.inl ⟨by rfl, ?_⟩) (by assumption) ?_
        rotate_left 1
        · (intro w0 hSw; (try dsimp only at hSw); obtain ⟨s1, s2, s3⟩ := hSw; go_simp; try with_reducible rfl)
        (try simp only [List.getElem_toArray, List.getElem_cons_succ, List.getElem_cons_zero]); (try simp only [Act.put, List.setIfInBounds_toArray, List.set_cons_zero, List.set_cons_succ])
        refine wpAnyH_take (i := 10) (oi := _) (v := ?_) rfl (by kernel_rfl) (by kernel_rfl) (by kernel_rfl) (fun _ _ _ h => h) (Or.inl ⟨by rfl, ?_⟩) (by assumption) ?_
        rotate_left 1
        · (intro w0 hSw; (try dsimp only at hSw); obtain ⟨s1, s2, s3⟩ := hSw; go_simp; try with_reducible rfl)
        (try simp only [List.getElem_toArray, List.getElem_cons_succ, List.getElem_cons_zero]); (try simp only [Act.put, List.setIfInBounds_toArray, List.set_cons_zero, List.set_cons_succ])
        refine wpAnyH_take (i := 11) (oi := _) (v := ?_) rfl (by kernel_rfl) (by kernel_rfl) (by kernel_rfl) (fun _ _ _ h => h) (Or.inl ⟨by rfl, ?_⟩) (by assumption) ?_
        rotate_left 1
        · (intro w0 hSw; (try dsimp only at hSw); obtain ⟨s1, s2, s3⟩ := hSw; go_simp; try with_reducible rfl)
        (try simp only [List.getElem_toArray, List.getElem_cons_succ, List.getElem_cons_zero]); (try simp only [Act.put, List.setIfInBounds_toArray, List.set_cons_zero, List.set_cons_succ])
        refine wpAnyH_done (by kernel_rfl) ?_ _
        refine NoPanic.normal ?_
        clear sS hHeld
        go_wp2_with fail
        refine Calls.mono (kN.out _) ?_
        rintro e w2 ⟨rfl, hw2⟩
        subst hw2
        go_wp2_with fail
        refine Calls.mono (kI.out _) ?_
        rintro e w2 ⟨rfl, hw2⟩
        subst hw2
        go_wp2_with fail
        simp [bodyPost, results, Tryz.results9, go_sem]
        exact fin.out
      | false =>
        have sS : Hid (W1.drew.cell? ⟨hp, 1, none⟩ = some (.map (some mb)) ∧ W1.drew.cell? ⟨K, 1, none⟩ = some (.string x.2) ∧ (Instr.lookup 51 (.map (some mb)) (.string x.2) true).run Tryz.prog W1.drew = .ok (.tuple #[.int .i64 y, .bool false]) W1.drew) := ⟨c1, x2, r⟩
        have CP : Hid (Calls Tryz.prog 21 #[.pointer (some ⟨hp, 0, none⟩), eV x] W1.drew fun e w' => e = .returned undef ∧ GB w hp mb most (l.take (j + 1)) 0 w') := by
          have := G1.push x hxs hbv (by rw [List.length_take]; omega)
          rw [show l.take j ++ [x] = l.take (j + 1) by rw [List.take_add_one, hxj]; rfl] at this
          exact this
        unfold eV at CP
        clear G1 c1 r b1 hbv hxs hcs hin2 hxj hjl hx hG RES2 RER2 bW hK hW1
        go_wp2_with fail
        rw [hW1H.out.1, hW1H.out.2]
        clear hW1H e1 e2
        refine wp_region_noPanic ?_
        refine wp_region_held_drew (S := fun W => W.cell? ⟨hp, 1, none⟩ = some (.map (some mb)) ∧ W.cell? ⟨K, 1, none⟩ = some (.string x.2) ∧ (Instr.lookup 51 (.map (some mb)) (.string x.2) true).run Tryz.prog W = .ok (.tuple #[.int .i64 y, .bool false]) W) (by kernel_rfl) sS.out (fun hHeld => ?_)
        refine wpAnyH_take (i := 0) (oi := _) (v := ?_) rfl (by kernel_rfl) (by kernel_rfl) (by kernel_rfl) (fun _ _ _ h => h) (Or.inl ⟨by rfl, ?_⟩) (by assumption) ?_
        rotate_left 1
        · (intro w0 hSw; (try dsimp only at hSw); obtain ⟨s1, s2, s3⟩ := hSw; go_simp; try with_reducible rfl)
        (try simp only [List.getElem_toArray, List.getElem_cons_succ, List.getElem_cons_zero]); (try simp only [Act.put, List.setIfInBounds_toArray, List.set_cons_zero, List.set_cons_succ])
        refine wpAnyH_take (i := 1) (oi := _) (v := ?_) rfl (by kernel_rfl) (by kernel_rfl) (by kernel_rfl) (fun _ _ _ h => h) (Or.inl ⟨by rfl, ?_⟩) (by assumption) ?_
        rotate_left 1
        · (intro w0 hSw; (try dsimp only at hSw); obtain ⟨s1, s2, s3⟩ := hSw; go_simp; try with_reducible rfl)
        (try simp only [List.getElem_toArray, List.getElem_cons_succ, List.getElem_cons_zero]); (try simp only [Act.put, List.setIfInBounds_toArray, List.set_cons_zero, List.set_cons_succ])
        refine wpAnyH_take (i := 2) (oi := _) (v := ?_) rfl (by kernel_rfl) (by kernel_rfl) (by kernel_rfl) (fun _ _ _ h => h) (Or.inl ⟨by rfl, ?_⟩) (by assumption) ?_
        rotate_left 1
        · (intro w0 hSw; (try dsimp only at hSw); obtain ⟨s1, s2, s3⟩ := hSw; go_simp; try with_reducible rfl)
        (try simp only [List.getElem_toArray, List.getElem_cons_succ, List.getElem_cons_zero]); (try simp only [Act.put, List.setIfInBounds_toArray, List.set_cons_zero, List.set_cons_succ])
        refine wpAnyH_take (i := 3) (oi := _) (v := ?_) rfl (by kernel_rfl) (by kernel_rfl) (by kernel_rfl) (fun _ _ _ h => h) (Or.inl ⟨by rfl, ?_⟩) (by assumption) ?_
        rotate_left 1
        · (intro w0 hSw; (try dsimp only at hSw); obtain ⟨s1, s2, s3⟩ := hSw; go_simp; try with_reducible rfl)
        (try simp only [List.getElem_toArray, List.getElem_cons_succ, List.getElem_cons_zero]); (try simp only [Act.put, List.setIfInBounds_toArray, List.set_cons_zero, List.set_cons_succ])
        refine wpAnyH_take (i := 4) (oi := _) (v := ?_) rfl (by kernel_rfl) (by kernel_rfl) (by kernel_rfl) (fun _ _ _ h => h) (Or.inl ⟨by rfl, ?_⟩) (by assumption) ?_
        rotate_left 1
        · (intro w0 hSw; (try dsimp only at hSw); obtain ⟨s1, s2, s3⟩ := hSw; go_simp; try with_reducible rfl)
        (try simp only [List.getElem_toArray, List.getElem_cons_succ, List.getElem_cons_zero]); (try simp only [Act.put, List.setIfInBounds_toArray, List.set_cons_zero, List.set_cons_succ])
        refine wpAnyH_take (i := 5) (oi := _) (v := ?_) rfl (by kernel_rfl) (by kernel_rfl) (by kernel_rfl) (fun _ _ _ h => h) (Or.inl ⟨by rfl, ?_⟩) (by assumption) ?_
        rotate_left 1
        · (intro w0 hSw; (try dsimp only at hSw); obtain ⟨s1, s2, s3⟩ := hSw; go_simp; try with_reducible rfl)
        (try simp only [List.getElem_toArray, List.getElem_cons_succ, List.getElem_cons_zero]); (try simp only [Act.put, List.setIfInBounds_toArray, List.set_cons_zero, List.set_cons_succ])
        refine wpAnyH_take (i := 6) (oi := _) (v := ?_) rfl (by kernel_rfl) (by kernel_rfl) (by kernel_rfl) (fun _ _ _ h => h) (Or.inl ⟨by rfl, ?_⟩) (by assumption) ?_
        rotate_left 1
        · (intro w0 hSw; (try dsimp only at hSw); obtain ⟨s1, s2, s3⟩ := hSw; go_simp; try with_reducible rfl)
        (try simp only [List.getElem_toArray, List.getElem_cons_succ, List.getElem_cons_zero]); (try simp only [Act.put, List.setIfInBounds_toArray, List.set_cons_zero, List.set_cons_succ])
        refine wpAnyH_take (i := 7) (oi := _) (v := ?_) rfl (by kernel_rfl) (by kernel_rfl) (by kernel_rfl) (fun _ _ _ h => h) (Or.inl ⟨by rfl, ?_⟩) (by assumption) ?_
        rotate_left 1
        · (intro w0 hSw; (try dsimp only at hSw); obtain ⟨s1, s2, s3⟩ := hSw; go_simp; try with_reducible rfl)
        (try simp only [List.getElem_toArray, List.getElem_cons_succ, List.getElem_cons_zero]); (try simp only [Act.put, List.setIfInBounds_toArray, List.set_cons_zero, List.set_cons_succ])
        refine wpAnyH_take (i := 8) (oi := _) (v := ?_) rfl (by kernel_rfl) (by kernel_rfl) (by kernel_rfl) (fun _ _ _ h => h) (Or.inl ⟨by rfl, ?_⟩) (by assumption) ?_
        rotate_left 1
        · (intro w0 hSw; (try dsimp only at hSw); obtain ⟨s1, s2, s3⟩ := hSw; go_simp; try with_reducible rfl)
        (try simp only [List.getElem_toArray, List.getElem_cons_succ, List.getElem_cons_zero]); (try simp only [Act.put, List.setIfInBounds_toArray, List.set_cons_zero, List.set_cons_succ])
        refine wpAnyH_take (i := 9) (oi := _) (v := ?_) rfl (by kernel_rfl) (by kernel_rfl) (by kernel_rfl) (fun _ _ _ h => h) (Or.inl ⟨by rfl, ?_⟩) (by assumption) ?_
        rotate_left 1
        · (intro w0 hSw; (try dsimp only at hSw); obtain ⟨s1, s2, s3⟩ := hSw; go_simp; try with_reducible rfl)
        (try simp only [List.getElem_toArray, List.getElem_cons_succ, List.getElem_cons_zero]); (try simp only [Act.put, List.setIfInBounds_toArray, List.set_cons_zero, List.set_cons_succ])
        refine wpAnyH_take (i := 10) (oi := _) (v := ?_) rfl (by kernel_rfl) (by kernel_rfl) (by kernel_rfl) (fun _ _ _ h => h) (Or.inl ⟨by rfl, ?_⟩) (by assumption) ?_
        rotate_left 1
        · (intro w0 hSw; (try dsimp only at hSw); obtain ⟨s1, s2, s3⟩ := hSw; go_simp; try with_reducible rfl)
        (try simp only [List.getElem_toArray, List.getElem_cons_succ, List.getElem_cons_zero]); (try simp only [Act.put, List.setIfInBounds_toArray, List.set_cons_zero, List.set_cons_succ])
        refine wpAnyH_take (i := 11) (oi := _) (v := ?_) rfl (by kernel_rfl) (by kernel_rfl) (by kernel_rfl) (fun _ _ _ h => h) (Or.inl ⟨by rfl, ?_⟩) (by assumption) ?_
        rotate_left 1
        · (intro w0 hSw; (try dsimp only at hSw); obtain ⟨s1, s2, s3⟩ := hSw; go_simp; try with_reducible rfl)
        (try simp only [List.getElem_toArray, List.getElem_cons_succ, List.getElem_cons_zero]); (try simp only [Act.put, List.setIfInBounds_toArray, List.set_cons_zero, List.set_cons_succ])
        refine wpAnyH_done (by kernel_rfl) ?_ _
        refine NoPanic.normal ?_
        clear sS hHeld
        go_wp2_with fail
        refine Calls.mono CP.out ?_
        rintro e w2 ⟨rfl, gb⟩
        have G2 : Hid (GB w hp mb most (l.take (j + 1)) 0 w2) := gb
        clear gb CP x1 x2
        go_wp2_with fail
        exact ⟨⟨j + 1, rfl, hj, G2⟩, by simp [intOf]; omega⟩
    · obtain rfl : j = n := by omega
      have jI : ¬ (j : Int) < (j : Int) := Int.lt_irrefl _
      have G2 : Hid (GB w hp mb most l 0 wr) := by have := hG.out; rw [hlnH.out, List.take_length] at this; exact this
      clear hG hj
      go_wp2_with fail
      go_loopw [11] (fun v11 wr => ∃ (k m1 : Nat) (L1 : List Ent), v11 = .int .i64 ((k : Int) - 1) ∧ k ≤ j / 2 ∧ L1.length = j ∧ Hid (bldL (ahd most) (j / 2) (l, 0) = bldL (ahd most) k (L1, m1)) ∧ Hid (GB w hp mb most L1 m1 wr)) (fun v11 _ => (intOf v11 + 1).toNat)
      case atStart => exact ⟨j / 2, 0, l, rfl, Nat.le_refl _, hlnH.out.symm, rfl, G2⟩
      case round =>
        clear G2
        obtain ⟨k, m1, L1, rfl, hkj, hL1, hE, hG⟩ := hrel
        cases k with
        | zero =>
          have fin : Hid (QQ (.returned (.tuple #[.pointer (some ⟨hp, 0, none⟩), .nilIface])) wr) := RES2.out wr (by rw [hE.out]; exact hG.out)
          clear hE hG RES2 RER2
          go_wp2_with fail
          exact fin.out
        | succ k =>
          have tot : m1 + (downL (ahd most) L1 k).2 ≤ 1099511627775 := by
            have h1 := bldL_ge (ahd most) k ((downL (ahd most) L1 k).1, m1 + (downL (ahd most) L1 k).2)
            have h2 := (bldL_few (ahd most) (j / 2) (l, 0) (by show j / 2 ≤ l.length; rw [← hlnH.out]; omega)).2
            have h3 := dbl_le l.length l.length (Nat.le_refl _)
            have h4 := hlnH.out
            rw [hE.out] at h2
            simp only [bldL] at h1 h2
            rw [h4] at h2
            omega
          have LE : (downL (ahd most) L1 k).1.length = j := by rw [downL_len (ahd most) _ L1 k (Nat.le_refl _)]; exact hL1
          have E2 : Hid (bldL (ahd most) (j / 2) (l, 0) = bldL (ahd most) k ((downL (ahd most) L1 k).1, m1 + (downL (ahd most) L1 k).2)) := hE.out
          have CD : Hid _ := (hG.out.below ((Below.refl _ wr).drew)).down k (by omega) (by omega)
          have c3 := hG.out.cells.2.1
          obtain ⟨d, hd⟩ : ∃ d, d = (downL (ahd most) L1 k).2 := ⟨_, rfl⟩
          obtain ⟨L2, hL2⟩ : ∃ L2, L2 = (downL (ahd most) L1 k).1 := ⟨_, rfl⟩
          rw [← hd] at tot E2 CD
          rw [← hL2] at LE E2 CD
          have kp : Hid (∀ w', GB w hp mb most L2 m1 w' → w'.cell? ⟨hp, 1, none⟩ = some (.map (some mb)) ∧ w'.cell? ⟨hp, 3, none⟩ = some (.int .i64 (m1 : Int)) ∧ w'.frozen? ⟨hp, 3, none⟩ = false) := fun w' g => g.cells
          have GM : Hid (∀ w', GB w hp mb most L2 m1 w' → GB w hp mb most L2 ((m1 + d : Nat) : Int) (w'.setCell ⟨hp, 3, none⟩ (.int .i64 ((m1 : Int) + (d : Int))))) := fun w' g => by
            rw [show (m1 : Int) + (d : Int) = ((m1 + d : Nat) : Int) by omega]
            exact g.moved _
          obtain ⟨ka, kb, kc, kd, ke, kf⟩ := nums_k k m1 d (by omega) (by omega)
          clear hE hG hd hL2 RES2 RER2 hL1 tot
          go_wp2_with fail
          refine wp_region_noPanic ?_
          refine wp_region_held_drew (S := fun W => True) (by kernel_rfl) trivial (fun hHeld => ?_)
          refine wpAnyH_take (i := 0) (oi := _) (v := ?_) rfl (by kernel_rfl) (by kernel_rfl) (by kernel_rfl) (fun _ _ _ h => h) (Or.inl ⟨by rfl, ?_⟩) (by assumption) ?_
          rotate_left 1
          · (intro w0 hSw; (try dsimp only at hSw); obtain _ := hSw; go_simp; try with_reducible rfl)
          (try simp only [List.getElem_toArray, List.getElem_cons_succ, List.getElem_cons_zero]); (try simp only [Act.put, List.setIfInBounds_toArray, List.set_cons_zero, List.set_cons_succ])
          refine wpAnyH_take (i := 1) (oi := _) (v := ?_) rfl (by kernel_rfl) (by kernel_rfl) (by kernel_rfl) (fun _ _ _ h => h) (Or.inl ⟨by rfl, ?_⟩) (by assumption) ?_
          rotate_left 1
          · (intro w0 hSw; (try dsimp only at hSw); obtain _ := hSw; go_simp; try with_reducible rfl)
          (try simp only [List.getElem_toArray, List.getElem_cons_succ, List.getElem_cons_zero]); (try simp only [Act.put, List.setIfInBounds_toArray, List.set_cons_zero, List.set_cons_succ])
          refine wpAnyH_take (i := 2) (oi := _) (v := ?_) rfl (by kernel_rfl) (by kernel_rfl) (by kernel_rfl) (fun _ _ _ h => h) (Or.inl ⟨by rfl, ?_⟩) (by assumption) ?_
          rotate_left 1
          · (intro w0 hSw; (try dsimp only at hSw); obtain _ := hSw; go_simp; try with_reducible rfl)
          (try simp only [List.getElem_toArray, List.getElem_cons_succ, List.getElem_cons_zero]); (try simp only [Act.put, List.setIfInBounds_toArray, List.set_cons_zero, List.set_cons_succ])
          refine wpAnyH_take (i := 4) (oi := _) (v := ?_) rfl (by kernel_rfl) (by kernel_rfl) (by kernel_rfl) (fun _ _ _ h => h) (Or.inl ⟨by rfl, ?_⟩) (by assumption) ?_
          rotate_left 1
          · (intro w0 hSw; (try dsimp only at hSw); obtain _ := hSw; go_simp; try with_reducible rfl)
          (try simp only [List.getElem_toArray, List.getElem_cons_succ, List.getElem_cons_zero]); (try simp only [Act.put, List.setIfInBounds_toArray, List.set_cons_zero, List.set_cons_succ])
          refine wpAnyH_take (i := 5) (oi := _) (v := ?_) rfl (by kernel_rfl) (by kernel_rfl) (by kernel_rfl) (fun _ _ _ h => h) (Or.inl ⟨by rfl, ?_⟩) (by assumption) ?_
          rotate_left 1
          · (intro w0 hSw; (try dsimp only at hSw); obtain _ := hSw; go_simp; try with_reducible rfl)
          (try simp only [List.getElem_toArray, List.getElem_cons_succ, List.getElem_cons_zero]); (try simp only [Act.put, List.setIfInBounds_toArray, List.set_cons_zero, List.set_cons_succ])
          refine wpAnyH_ready (rs := [3, 6]) (by kernel_rfl) (by simp) ?_
          refine AllReadyH.cons (o := _) rfl (fun K1 hK => ?_) ?_
          · go_simp
            try dsimp only
            refine hK _ _ trivial (fun hHeld => ?_)
            clear hK K1
            (try simp only [List.getElem_toArray, List.getElem_cons_succ, List.getElem_cons_zero]); (try simp only [Act.put, List.setIfInBounds_toArray, List.set_cons_zero, List.set_cons_succ])
            refine wpAnyH_ready (rs := [6]) (by kernel_rfl) (by simp) ?_
            refine AllReadyH.cons (o := _) rfl (fun K1 hK => ?_) AllReadyH.nil
            go_simp
            refine Calls.mono CD.out ?_
            rintro e w' ⟨rfl, BB⟩
            obtain ⟨d1, d3, dz⟩ := kp.out w' BB
            have G4 : Hid _ := GM.out w' BB
            clear BB
            try dsimp only
            refine hK _ _ trivial (fun hHeld => ?_)
            clear hK K1
            (try simp only [List.getElem_toArray, List.getElem_cons_succ, List.getElem_cons_zero]); (try simp only [Act.put, List.setIfInBounds_toArray, List.set_cons_zero, List.set_cons_succ])
            refine wpAnyH_take (i := 7) (oi := _) (v := ?_) rfl (by kernel_rfl) (by kernel_rfl) (by kernel_rfl) (fun _ _ _ h => h) (Or.inl ⟨by rfl, ?_⟩) (by assumption) ?_
            rotate_left 1
            · (intro w0 hSw; (try dsimp only at hSw); obtain _ := hSw; go_simp; try with_reducible rfl)
            (try simp only [List.getElem_toArray, List.getElem_cons_succ, List.getElem_cons_zero]); (try simp only [Act.put, List.setIfInBounds_toArray, List.set_cons_zero, List.set_cons_succ])
            refine wpAnyH_take (i := 8) (oi := _) (v := ?_) rfl (by kernel_rfl) (by kernel_rfl) (by kernel_rfl) (fun _ _ _ h => h) (Or.inl ⟨by rfl, ?_⟩) (by assumption) ?_
            rotate_left 1
            · (intro w0 hSw; (try dsimp only at hSw); obtain _ := hSw; go_simp; try with_reducible rfl)
            (try simp only [List.getElem_toArray, List.getElem_cons_succ, List.getElem_cons_zero]); (try simp only [Act.put, List.setIfInBounds_toArray, List.set_cons_zero, List.set_cons_succ])
            refine wpAnyH_take (i := 9) (oi := _) (v := ?_) rfl (by kernel_rfl) (by kernel_rfl) (by kernel_rfl) (fun _ _ _ h => h) (Or.inl ⟨by rfl, ?_⟩) (by assumption) ?_
            rotate_left 1
            · (intro w0 hSw; (try dsimp only at hSw); obtain _ := hSw; go_simp; try with_reducible rfl)
            (try simp only [List.getElem_toArray, List.getElem_cons_succ, List.getElem_cons_zero]); (try simp only [Act.put, List.setIfInBounds_toArray, List.set_cons_zero, List.set_cons_succ])
            refine wpAnyH_ready (rs := [10]) (by kernel_rfl) (by simp) ?_
            refine AllReadyH.cons (o := _) rfl (fun K1 hK => ?_) AllReadyH.nil
            go_simp
            try dsimp only
            refine hK _ _ trivial (fun hHeld => ?_)
            clear hK K1
            (try simp only [List.getElem_toArray, List.getElem_cons_succ, List.getElem_cons_zero]); (try simp only [Act.put, List.setIfInBounds_toArray, List.set_cons_zero, List.set_cons_succ])
            refine wpAnyH_done (by kernel_rfl) ?_ _
            refine NoPanic.normal ?_
            clear CD kp GM c3 d1 d3 dz hHeld
            go_wp2_with fail
            exact ⟨⟨k, m1 + d, L2, by rfl, by omega, LE, E2, G4⟩, by first | (simp [intOf]; done) | (simp [intOf]; omega)⟩
          refine AllReadyH.cons (o := _) rfl (fun K1 hK => ?_) AllReadyH.nil
          go_simp
          refine Calls.mono CD.out ?_
          rintro e w' ⟨rfl, BB⟩
          obtain ⟨d1, d3, dz⟩ := kp.out w' BB
          have G4 : Hid _ := GM.out w' BB
          clear BB
          try dsimp only
          refine hK _ _ trivial (fun hHeld => ?_)
          clear hK K1
          (try simp only [List.getElem_toArray, List.getElem_cons_succ, List.getElem_cons_zero]); (try simp only [Act.put, List.setIfInBounds_toArray, List.set_cons_zero, List.set_cons_succ])
          refine wpAnyH_ready (rs := [3]) (by kernel_rfl) (by simp) ?_
          refine AllReadyH.cons (o := _) rfl (fun K1 hK => ?_) AllReadyH.nil
          go_simp
          try dsimp only
          refine hK _ _ trivial (fun hHeld => ?_)
          clear hK K1
          (try simp only [List.getElem_toArray, List.getElem_cons_succ, List.getElem_cons_zero]); (try simp only [Act.put, List.setIfInBounds_toArray, List.set_cons_zero, List.set_cons_succ])
          refine wpAnyH_take (i := 7) (oi := _) (v := ?_) rfl (by kernel_rfl) (by kernel_rfl) (by kernel_rfl) (fun _ _ _ h => h) (Or.inl ⟨by rfl, ?_⟩) (by assumption) ?_
          rotate_left 1
          · (intro w0 hSw; (try dsimp only at hSw); obtain _ := hSw; go_simp; try with_reducible rfl)
          (try simp only [List.getElem_toArray, List.getElem_cons_succ, List.getElem_cons_zero]); (try simp only [Act.put, List.setIfInBounds_toArray, List.set_cons_zero, List.set_cons_succ])
          refine wpAnyH_take (i := 8) (oi := _) (v := ?_) rfl (by kernel_rfl) (by kernel_rfl) (by kernel_rfl) (fun _ _ _ h => h) (Or.inl ⟨by rfl, ?_⟩) (by assumption) ?_
          rotate_left 1
          · (intro w0 hSw; (try dsimp only at hSw); obtain _ := hSw; go_simp; try with_reducible rfl)
          (try simp only [List.getElem_toArray, List.getElem_cons_succ, List.getElem_cons_zero]); (try simp only [Act.put, List.setIfInBounds_toArray, List.set_cons_zero, List.set_cons_succ])
          refine wpAnyH_take (i := 9) (oi := _) (v := ?_) rfl (by kernel_rfl) (by kernel_rfl) (by kernel_rfl) (fun _ _ _ h => h) (Or.inl ⟨by rfl, ?_⟩) (by assumption) ?_
          rotate_left 1
          · (intro w0 hSw; (try dsimp only at hSw); obtain _ := hSw; go_simp; try with_reducible rfl)
          (try simp only [List.getElem_toArray, List.getElem_cons_succ, List.getElem_cons_zero]); (try simp only [Act.put, List.setIfInBounds_toArray, List.set_cons_zero, List.set_cons_succ])
          refine wpAnyH_ready (rs := [10]) (by kernel_rfl) (by simp) ?_
          refine AllReadyH.cons (o := _) rfl (fun K1 hK => ?_) AllReadyH.nil
          go_simp
          try dsimp only
          refine hK _ _ trivial (fun hHeld => ?_)
          clear hK K1
          (try simp only [List.getElem_toArray, List.getElem_cons_succ, List.getElem_cons_zero]); (try simp only [Act.put, List.setIfInBounds_toArray, List.set_cons_zero, List.set_cons_succ])
          refine wpAnyH_done (by kernel_rfl) ?_ _
          refine NoPanic.normal ?_
          clear CD kp GM c3 d1 d3 dz hHeld
          go_wp2_with fail
          exact ⟨⟨k, m1 + d, L2, by rfl, by omega, LE, E2, G4⟩, by first | (simp [intOf]; done) | (simp [intOf]; omega)⟩
end Go.Proofs.YtboacnpbicedfaaGreatDoor.Hp
