
import Derived.Test.YtboacnpbicedfaaGreatDoorByK
import Derived.Test.YtboacnpbicedfaaGreatDoorHtAq
import Derived.Test.YtboacnpbicedfaaGreatDoorApKq
namespace Go.Proofs.YtboacnpbicedfaaGreatDoor.Hp
open Go.RowKit Go.Maps
set_option linter.unusedVariables false
set_option linter.unusedSimpArgs false
set_option maxRecDepth 100000
theorem ph_info : (Tryz.prog.info? 23).map (fun i => (i.zero, i.bytes, i.size)) = some (some (.pointer none), 8, 1) := by kernel_rfl
theorem pd_info : (Tryz.prog.info? 26).map (fun i => (i.zero, i.bytes, i.size)) = some (some (.pointer none), 8, 1) := by kernel_rfl
/-- one pointer more. -/
theorem app_ptr {S E : TypeId} (hu : Tryz.prog.underlying S = some (.slice E)) (hE : (Tryz.prog.info? E).map (fun i => (i.zero, i.bytes, i.size)) = some (some (.pointer none), 8, 1)) {W : World} {B n : Nat} {v : Value} {xs : List Value} (h : W.ownsRow B E 1 v n xs) (hB : B ≤ W.heap.size) (K : Nat) (x : Value) (hx : W.cell? ⟨K, 0, none⟩ = some x) (h1 : x.oneCell' = true) (hn : n + 1 ≤ 1099511627776) :
    ∃ g cap w', (Builtin.append_ #[S, S] S #[v, .slice (some ⟨K, 0, none⟩) 1 1]).run Tryz.prog W = .ok (.slice (some ⟨g, 0, none⟩) (n + 1) cap) w' ∧ w'.ownsRow B E 1 (.slice (some ⟨g, 0, none⟩) (n + 1) cap) (n + 1) (xs ++ [x]) ∧ W.grownBy w' v.ownBlock ∧ (v.ownBlock = some g ∨ W.heap.size ≤ g) := by
  obtain ⟨i, i1, i0⟩ := Option.map_eq_some_iff.1 hE
  have i2 : i.zero = some (.pointer none) := congrArg (·.1) i0
  have i3 : i.bytes = 8 := congrArg (·.2.1) i0
  have i4 : i.size = 1 := congrArg (·.2.2) i0
  have hml : maxLen = 9223372036854775807 := by decide
  obtain ⟨g, cap, w', hr, own, gr, hat, hlt⟩ := run_append_lies (P := Tryz.prog) W S S B E i (.pointer none) 1 8 hu i1 i2 i4 i3 rfl (by omega) v n xs h ⟨K, 0, none⟩ 1 1 [x] rfl (fun j u hj => by
    rcases j with _ | j
    · simp at hj; subst hj; simpa [Addr.add] using hx
    · simp at hj) (by simpa using h1) (by omega) (by omega) (by omega) (by omega) _ rfl
  exact ⟨g, cap, w', hr, own, gr, hat.imp id (fun e => by omega)⟩
/-- pairs, and the two rows that name them. -/
structure PQ (w : World) (N n : Nat) (a b : Value) (xa xb : List Value) (ps : List (Option PD)) : Prop where
  rp : RP w N n ps
  ra : w.ownsRow N 23 1 a xa.length xa
  rb : w.ownsRow N 26 1 b xb.length xb
  sa : ∀ k, a.ownBlock = some k → ∀ (i : Nat) (p : PD), ps[i]? = some (some p) → ¬ p.has k
  sb : ∀ k, b.ownBlock = some k → ∀ (i : Nat) (p : PD), ps[i]? = some (some p) → ¬ p.has k
  ab : ∀ k, a.ownBlock = some k → b.ownBlock ≠ some k
  hN : N ≤ w.heap.size
theorem PQ.below {w w' : World} {N n m : Nat} {a b : Value} {xa xb : List Value} {ps : List (Option PD)} (h : PQ w N n a b xa xb ps) (hb : Below w.heap.size w w') (hm : n ≤ m) : PQ w' N m a b xa xb ps :=
  ⟨h.rp.below hb hm, row_kept h.ra (fun g e => hb.block g (World.ownsRow.lt h.ra g e).2), row_kept h.rb (fun g e => hb.block g (World.ownsRow.lt h.rb g e).2), h.sa, h.sb, h.ab, Nat.le_trans h.hN hb.size⟩
theorem PQ.growA {w w' : World} {N n : Nat} {a b a' x : Value} {xa xb : List Value} {ps : List (Option PD)} (h : PQ w N n a b xa xb ps) (own : w'.ownsRow N 23 1 a' (xa.length + 1) (xa ++ [x])) (gr : w.grownBy w' a.ownBlock) (hat : ∀ g, a'.ownBlock = some g → a.ownBlock = some g ∨ w.heap.size ≤ g) : PQ w' N n a' b (xa ++ [x]) xb ps := by
  refine ⟨h.rp.kept gr.size (fun i p k hi hk => gr.block k ((h.rp.lp i p hi).1.lt hk) (fun e => h.sa k e.symm i p hi hk)) (Nat.le_refl _), by rw [List.length_append, List.length_singleton]; exact own, row_kept h.rb (fun g e => gr.block g (World.ownsRow.lt h.rb g e).2 (fun c => h.ab g c.symm e)), fun k hk i p hi hp => ?_, h.sb, fun k hk e => ?_, Nat.le_trans h.hN gr.size⟩
  · rcases hat k hk with c | c
    · exact h.sa k c i p hi hp
    · have := (h.rp.lp i p hi).1.lt hp; omega
  · rcases hat k hk with c | c
    · exact h.ab k c e
    · have := (World.ownsRow.lt h.rb k e).2; omega
theorem PQ.growB {w w' : World} {N n : Nat} {a b b' x : Value} {xa xb : List Value} {ps : List (Option PD)} (h : PQ w N n a b xa xb ps) (own : w'.ownsRow N 26 1 b' (xb.length + 1) (xb ++ [x])) (gr : w.grownBy w' b.ownBlock) (hat : ∀ g, b'.ownBlock = some g → b.ownBlock = some g ∨ w.heap.size ≤ g) : PQ w' N n a b' xa (xb ++ [x]) ps := by
  refine ⟨h.rp.kept gr.size (fun i p k hi hk => gr.block k ((h.rp.lp i p hi).1.lt hk) (fun e => h.sb k e.symm i p hi hk)) (Nat.le_refl _), row_kept h.ra (fun g e => gr.block g (World.ownsRow.lt h.ra g e).2 (fun c => h.ab g e c.symm)), by rw [List.length_append, List.length_singleton]; exact own, h.sa, fun k hk i p hi hp => ?_, fun k hk e => ?_, Nat.le_trans h.hN gr.size⟩
  · rcases hat k hk with c | c
    · exact h.sb k c i p hi hp
    · have := (h.rp.lp i p hi).1.lt hp; omega
  · rcases hat k e with c | c
    · exact h.ab k hk c
    · have := (World.ownsRow.lt h.ra k hk).2; omega
/-- one pair more, apart from all that is there. -/
theorem PQ.add {w : World} {N n : Nat} {a b : Value} {xa xb : List Value} {ps : List (Option PD)} (h : PQ w N n a b xa xb ps) (o : Option PD) (ho : ∀ (p : PD), o = some p → p.ok w ∧ p.L.length ≤ n ∧ ∀ k, p.has k → N ≤ k ∧ a.ownBlock ≠ some k ∧ b.ownBlock ≠ some k ∧ ∀ (i : Nat) (q : PD), ps[i]? = some (some q) → ¬ q.has k) : PQ w N n a b xa xb (ps ++ [o]) := by
  have look : ∀ (i : Nat) (p : PD), (ps ++ [o])[i]? = some (some p) → (i < ps.length ∧ ps[i]? = some (some p)) ∨ (i = ps.length ∧ o = some p) := fun i p hi => by
    rcases Nat.lt_trichotomy i ps.length with c | c | c
    · rw [List.getElem?_append_left c] at hi; exact Or.inl ⟨c, hi⟩
    · refine Or.inr ⟨c, ?_⟩
      rw [c, List.getElem?_append_right (Nat.le_refl _), Nat.sub_self] at hi
      simpa using hi
    · rw [List.getElem?_eq_none (by simp; omega)] at hi; cases hi
  refine ⟨⟨fun i p hi => ?_, fun i j p q hi hj hne k hp hq => ?_⟩, h.ra, h.rb, fun k hk i p hi hp => ?_, fun k hk i p hi hp => ?_, h.ab, h.hN⟩
  · rcases look i p hi with ⟨_, e⟩ | ⟨_, e⟩
    · exact h.rp.lp i p e
    · exact ⟨(ho p e).1, fun k hk => ((ho p e).2.2 k hk).1, (ho p e).2.1⟩
  · rcases look i p hi with ⟨_, e⟩ | ⟨c, e⟩ <;> rcases look j q hj with ⟨_, e2⟩ | ⟨c2, e2⟩
    · exact h.rp.ap i j p q e e2 hne k hp hq
    · exact ((ho q e2).2.2 k hq).2.2.2 i p e hp
    · exact ((ho p e).2.2 k hp).2.2.2 j q e2 hq
    · omega
  · rcases look i p hi with ⟨_, e⟩ | ⟨_, e⟩
    · exact h.sa k hk i p e hp
    · exact ((ho p e).2.2 k hp).2.1 hk
  · rcases look i p hi with ⟨_, e⟩ | ⟨_, e⟩
    · exact h.sb k hk i p e hp
    · exact ((ho p e).2.2 k hp).2.2.1 hk
/-- the rows name the pairs. -/
def PP (w : World) (N n : Nat) (a b : Value) (ps : List (Option PD)) : Prop := PQ w N n a b (ps.map hP) (ps.map dP) ps
theorem PP.below {w w' : World} {N n m : Nat} {a b : Value} {ps : List (Option PD)} (h : PP w N n a b ps) (hb : Below w.heap.size w w') (hm : n ≤ m) : PP w' N m a b ps := PQ.below h hb hm
/-- a call at one pair. -/
theorem PP.step {w w' : World} {N n m : Nat} {a b : Value} {ps : List (Option PD)} {i : Nat} {p : PD} (h : PP w N n a b ps) (hi : ps[i]? = some (some p)) (hm : n + 1 ≤ m) (z : ZZ w p.B p.hp p.mb p.B2 p.dp p.most p.v p.v2 (p.L.length + 1) w') :
    ∃ p', PP w' N m a b (ps.set i (some p')) ∧ Below N w w' ∧ ∀ k, k < w.heap.size → ¬ p.has k → w'.heap[k]? = w.heap[k]? := by
  obtain ⟨p', r, e1, e2, sz, kp, hb, s1, s2, s3⟩ := RP.step (m := m) h.rp hi h.hN hm z
  have ia := World.ownsRow.lt h.ra
  have ib := World.ownsRow.lt h.rb
  refine ⟨p', ⟨r, ?_, ?_, fun k hk j q hj hq => ?_, fun k hk j q hj hq => ?_, h.ab, Nat.le_trans h.hN sz⟩, ⟨s1, s2, s3, sz, fun k hk => kp k (Nat.lt_of_lt_of_le hk h.hN) (fun c => by have := (h.rp.lp i p hi).2.1 k c; omega)⟩, kp⟩
  · rw [map_set_same hP ps i (some p') (some p) hi (by simp [hP, e1])]
    exact row_kept h.ra (fun g e => kp g (ia g e).2 (h.sa g e i p hi))
  · rw [map_set_same dP ps i (some p') (some p) hi (by simp [dP, e2])]
    exact row_kept h.rb (fun g e => kp g (ib g e).2 (h.sb g e i p hi))
  · rw [List.getElem?_set] at hj
    split at hj
    · rename_i c
      rw [if_pos (List.getElem?_eq_some_iff.1 hi).1] at hj
      injection hj with hj; injection hj with hj
      subst hj
      rcases hb k hq with d | d
      · exact h.sa k hk i p hi d
      · have := (ia k hk).2; omega
    · exact h.sa k hk j q hj hq
  · rw [List.getElem?_set] at hj
    split at hj
    · rename_i c
      rw [if_pos (List.getElem?_eq_some_iff.1 hi).1] at hj
      injection hj with hj; injection hj with hj
      subst hj
      rcases hb k hq with d | d
      · exact h.sb k hk i p hi d
      · have := (ib k hk).2; omega
    · exact h.sb k hk j q hj hq
end Go.Proofs.YtboacnpbicedfaaGreatDoor.Hp

namespace Go.Proofs.YtboacnpbicedfaaGreatDoor.Hp
open Go.RowKit Go.Maps
set_option linter.unusedVariables false
set_option linter.unusedSimpArgs false
set_option maxRecDepth 100000
theorem kn_upto (l : List Ent) : ∀ n, (∀ j, j < n → kn (l.take j) (atE l j).2 = false) ∨ ∃ j, j < n ∧ kn (l.take j) (atE l j).2 = true ∧ ∀ i, i < j → kn (l.take i) (atE l i).2 = false
  | 0 => Or.inl (fun j hj => by omega)
  | n + 1 => by
    rcases kn_upto l n with h | ⟨j, hj, h1, h2⟩
    · cases q : kn (l.take n) (atE l n).2 with
      | false =>
        refine Or.inl (fun j hj => ?_)
        rcases Nat.lt_or_ge j n with c | c
        · exact h j c
        · obtain rfl : j = n := by omega
          exact q
      | true => exact Or.inr ⟨n, by omega, q, h⟩
    · exact Or.inr ⟨j, by omega, h1, h2⟩
theorem KN_some (l : List Ent) : ∃ o, KN l o := by
  rcases kn_upto l l.length with h | ⟨j, h⟩
  · exact ⟨none, h⟩
  · exact ⟨some j, h⟩
/-- a new pair. -/
theorem PD.make {M B hp mb B2 dp : Nat} {w1 w' : World} {most : Bool} {v v2 : Value} {f : ByteArray → Option Nat} {L : List Ent} {mv : Int} (hs : HS w1 B hp mb most v none f L mv) (sz : w1.heap.size ≤ w'.heap.size) (hk : ∀ k, k < w1.heap.size → M ≤ k → w'.heap[k]? = w1.heap[k]?) (ds : DS w' B2 dp most v2 L mv) (h1 : M ≤ hp) (h2 : M ≤ mb) (h3 : M ≤ B) (h4 : B ≤ w1.heap.size) (h5 : w1.heap.size ≤ dp) (h6 : w1.heap.size ≤ B2) :
    PD.ok ⟨hp, mb, dp, B, B2, most, v, v2, L, mv⟩ w' ∧ ∀ k, PD.has ⟨hp, mb, dp, B, B2, most, v, v2, L, mv⟩ k → M ≤ k := by
  have l1 := hs.hl
  have l2 : mb < w1.heap.size := by obtain ⟨_, m, _⟩ := hs.mp; exact m.lt
  have l3 := World.ownsRow.lt hs.row
  have l4 : ∀ g, v2.ownBlock = some g → B2 ≤ g := fun g e => (ds.row.bound e).1
  refine ⟨⟨⟨f, hs.kept sz (hk hp l1 h1) (hk mb l2 h2) (fun g e => hk g (l3 g e).2 (Nat.le_trans h3 (l3 g e).1))⟩, ds, Nat.le_trans h4 sz, ⟨by show dp ≠ hp; omega, by show dp ≠ mb; omega, fun e => ?_⟩, fun g e => ?_⟩, fun k hk => ?_⟩
  · have := (l3 dp e).2; omega
  · have := l4 g e
    exact ⟨by show g ≠ hp; omega, by show g ≠ mb; omega, fun c => by have := (l3 g c).2; omega⟩
  · rcases hk with e | e | e | e | e
    · have : k = hp := e; omega
    · have : k = mb := e; omega
    · have : k = dp := e; omega
    · exact Nat.le_trans h3 (l3 k e).1
    · have := l4 k e; omega
end Go.Proofs.YtboacnpbicedfaaGreatDoor.Hp

namespace Go.Proofs.YtboacnpbicedfaaGreatDoor.Hp
open Go.RowKit Go.Maps
set_option linter.unusedVariables false
set_option linter.unusedSimpArgs false
set_option maxRecDepth 100000
theorem PP.ok {w : World} {N n : Nat} {a b : Value} {ps : List (Option PD)} (h : PP w N n a b ps) {i : Nat} {p : PD} (hi : ps[i]? = some (some p)) : LP w p.B p.hp p.mb p.B2 p.dp p.most p.v p.v2 p.L p.mv ∧ p.L.length ≤ n := ⟨(h.rp.lp i p hi).1, (h.rp.lp i p hi).2.2⟩
/-- a call at any pair. -/
theorem call_any {w : World} {N n : Nat} {a b : Value} {ps : List (Option PD)} (h : PP w N n a b ps) (hg : ET w) {i : Nat} {o : Option PD} (hi : ps[i]? = some o) (k wh : Int) (mo : Bool) (x : Ent) (hx : x.2.size ≤ 9223372036854775807) (la : Option Addr) (ln lc : Nat) (hn : n + 1 ≤ 1099511627776) :
    Calls Tryz.prog 12 #[hP o, dP o, .agg #[.int .i64 k, .int .i64 wh, .bool mo, .int .i64 x.1, .string x.2, .slice la ln lc]] w fun e w' => e = .returned (.bool true) ∧ (∃ ps', PP w' N (n + 1) a b ps' ∧ ps'.length = ps.length) ∧ Below N w w' ∧ ∀ k, k < w.heap.size → (∀ (i : Nat) (p : PD), ps[i]? = some (some p) → ¬ p.has k) → w'.heap[k]? = w.heap[k]? := by
  cases o with
  | none => exact (call_nil w hg k wh mo x la ln lc).mono fun e w' hh => ⟨hh.1, ⟨ps, h.below hh.2 (by omega), rfl⟩, below_less hh.2 h.hN, fun k hk _ => hh.2.block k hk⟩
  | some p =>
    obtain ⟨lp, le⟩ := h.ok hi
    have out : ∀ e w', (e = Ending.returned (.bool true) ∧ ZZ w p.B p.hp p.mb p.B2 p.dp p.most p.v p.v2 (p.L.length + 1) w') → e = .returned (.bool true) ∧ (∃ ps', PP w' N (n + 1) a b ps' ∧ ps'.length = ps.length) ∧ Below N w w' ∧ ∀ k, k < w.heap.size → (∀ (i : Nat) (p : PD), ps[i]? = some (some p) → ¬ p.has k) → w'.heap[k]? = w.heap[k]? := fun e w' hh => by
      obtain ⟨p', q, bl, kp⟩ := h.step hi (Nat.le_refl _) hh.2
      exact ⟨hh.1, ⟨_, q, by simp⟩, bl, fun k hk hn => kp k hk (hn i p hi)⟩
    by_cases k0 : k = 0
    · subst k0; exact (call_put2 lp hg wh mo x hx la ln lc (by omega)).mono out
    by_cases k1 : k = 1
    · subst k1; exact (call_take2 lp hg wh mo x hx la ln lc (by omega)).mono out
    by_cases k2 : k = 2
    · subst k2; exact (call_turn2 lp hg wh mo x hx la ln lc (by omega)).mono out
    by_cases k3 : k = 3
    · subst k3; exact (call_pop2 lp hg wh mo x hx la ln lc (by omega)).mono out
    · exact (call_else2 lp k wh ⟨k0, k1, k2, k3⟩ mo x hx la ln lc (by omega)).mono out
/-- what both tell of any pair. -/
theorem alike_any {w : World} {N n : Nat} {a b : Value} {ps : List (Option PD)} (h : PP w N n a b ps) {i : Nat} {o : Option PD} (hi : ps[i]? = some o) (s : ByteArray) (hs : s.size ≤ 9223372036854775807) (hn : n ≤ 1099511627776) :
    Calls Tryz.prog 13 #[hP o, dP o, .string s] w fun e w' => e = .returned (.bool true) ∧ Below w.heap.size w w' := by
  cases o with
  | none => exact alike_nil w s
  | some p =>
    obtain ⟨lp, le⟩ := h.ok hi
    obtain ⟨f, hh⟩ := lp.hs
    exact alike_two hh lp.ds s hs (by omega)
/-- what a new pair is to be: nil, or an order, entries and moves. -/
abbrev QV := Option (Bool × List Ent × Int)
/-- the program's half. -/
def HX (M : Nat) (w1 : World) (x : Value) (q : QV) : Prop := (q = none ∧ x = .pointer none) ∨ ∃ most L mv hp mb B v f, q = some (most, L, mv) ∧ x = .pointer (some ⟨hp, 0, none⟩) ∧ HS w1 B hp mb most v none f L mv ∧ M ≤ hp ∧ M ≤ mb ∧ M ≤ B ∧ B ≤ w1.heap.size
/-- the document's half. -/
def DX (M : Nat) (w1 : World) (x : Value) (q : QV) : Prop := (q = none ∧ x = .pointer none) ∨ ∃ most L mv dp B v, q = some (most, L, mv) ∧ x = .pointer (some ⟨dp, 0, none⟩) ∧ DS w1 B dp most v L mv ∧ M ≤ dp ∧ M ≤ B
theorem HX.one {M : Nat} {w1 : World} {x : Value} {q : QV} (h : HX M w1 x q) : x.oneCell' = true := by
  rcases h with ⟨_, rfl⟩ | ⟨_, _, _, _, _, _, _, _, _, rfl, _⟩ <;> rfl
theorem DX.one {M : Nat} {w1 : World} {x : Value} {q : QV} (h : DX M w1 x q) : x.oneCell' = true := by
  rcases h with ⟨_, rfl⟩ | ⟨_, _, _, _, _, _, _, rfl, _⟩ <;> rfl
theorem HX.ptr {M : Nat} {w1 : World} {x : Value} {q : QV} (h : HX M w1 x q) : ∃ p, x = .pointer p := by
  rcases h with ⟨_, rfl⟩ | ⟨_, _, _, _, _, _, _, _, _, rfl, _⟩ <;> exact ⟨_, rfl⟩
theorem DX.ptr {M : Nat} {w1 : World} {x : Value} {q : QV} (h : DX M w1 x q) : ∃ p, x = .pointer p := by
  rcases h with ⟨_, rfl⟩ | ⟨_, _, _, _, _, _, _, rfl, _⟩ <;> exact ⟨_, rfl⟩
theorem HX.kept {M : Nat} {w1 w' : World} {x : Value} {q : QV} (h : HX M w1 x q) (sz : w1.heap.size ≤ w'.heap.size) (hk : ∀ k, k < w1.heap.size → M ≤ k → w'.heap[k]? = w1.heap[k]?) : HX M w' x q := by
  rcases h with h | ⟨most, L, mv, hp, mb, B, v, f, e1, e2, hs, h1, h2, h3, h4⟩
  · exact Or.inl h
  · have l3 := World.ownsRow.lt hs.row
    exact Or.inr ⟨most, L, mv, hp, mb, B, v, f, e1, e2, hs.kept sz (hk hp hs.hl h1) (hk mb (by obtain ⟨_, m, _⟩ := hs.mp; exact m.lt) h2) (fun g e => hk g (l3 g e).2 (Nat.le_trans h3 (l3 g e).1)), h1, h2, h3, Nat.le_trans h4 sz⟩
theorem DX.kept {M : Nat} {w1 w' : World} {x : Value} {q : QV} (h : DX M w1 x q) (sz : w1.heap.size ≤ w'.heap.size) (hk : ∀ k, k < w1.heap.size → M ≤ k → w'.heap[k]? = w1.heap[k]?) : DX M w' x q := by
  rcases h with h | ⟨most, L, mv, dp, B, v, e1, e2, ds, h1, h2⟩
  · exact Or.inl h
  · exact Or.inr ⟨most, L, mv, dp, B, v, e1, e2, ds.kept sz (hk dp ds.hl h1) (fun g e => hk g (ds.row.bound e).2 (Nat.le_trans h2 (ds.row.bound e).1)), h1, h2⟩
/-- both halves make a pair. The program's is older than M2. -/
theorem HX.join {M M2 n : Nat} {w1 w' : World} {x y : Value} {q : QV} (h : HX M w1 x q) (d : DX M2 w' y q) (sz : w1.heap.size ≤ w'.heap.size) (hk : ∀ k, k < w1.heap.size → M ≤ k → w'.heap[k]? = w1.heap[k]?) (h2 : w1.heap.size ≤ M2) (hn : ∀ r, q = some r → r.2.1.length ≤ n) :
    ∃ o, hP o = x ∧ dP o = y ∧ ∀ (p : PD), o = some p → p.ok w' ∧ p.L.length ≤ n ∧ ∀ k, p.has k → M ≤ k ∧ (k < w1.heap.size ∨ M2 ≤ k) := by
  rcases h with ⟨e, rfl⟩ | ⟨most, L, mv, hp, mb, B, v, f, e1, rfl, hs, h1, h2', h3, h4⟩
  · rcases d with ⟨_, rfl⟩ | ⟨_, _, _, _, _, _, e2, _⟩
    · exact ⟨none, rfl, rfl, fun p hp => by cases hp⟩
    · rw [e] at e2; cases e2
  · rcases d with ⟨e2, _⟩ | ⟨most', L', mv', dp, B2, v2, e2, rfl, ds, h5, h6⟩
    · rw [e1] at e2; cases e2
    · rw [e1] at e2
      injection e2 with e2
      injection e2 with e3 e2
      injection e2 with e4 e5
      subst e3 e4 e5
      obtain ⟨ok, hb⟩ := PD.make hs sz hk ds h1 h2' h3 h4 (by omega) (by omega)
      refine ⟨some ⟨hp, mb, dp, B, B2, most, v, v2, L, mv⟩, rfl, rfl, fun p hp => ?_⟩
      injection hp with hp
      subst hp
      refine ⟨ok, hn _ e1, fun k hk => ⟨hb k hk, ?_⟩⟩
      rcases hk with e | e | e | e | e
      · exact Or.inl (by rw [e]; exact hs.hl)
      · exact Or.inl (by rw [e]; obtain ⟨_, m, _⟩ := hs.mp; exact m.lt)
      · exact Or.inr (by rw [e]; exact h5)
      · exact Or.inl (World.ownsRow.lt hs.row k e).2
      · exact Or.inr (Nat.le_trans h6 (ds.row.bound e).1)
/-- what a pair tells of itself. -/
def qv : Option PD → QV
  | none => none
  | some p => some (p.most, p.L, p.mv)
theorem fork_h {w : World} {N n : Nat} {a b : Value} {xa xb : List Value} {ps : List (Option PD)} (h : PQ w N n a b xa xb ps) {i : Nat} {o : Option PD} (hi : ps[i]? = some o) (hn : n ≤ 1099511627776) :
    Calls Tryz.prog 7 #[hP o] w fun e w1 => ∃ x, e = .returned x ∧ Below w.heap.size w w1 ∧ HX w.heap.size w1 x (qv o) := by
  cases o with
  | none => exact (hfork_nil w).mono fun e w' hh => ⟨_, hh.1, by rw [hh.2]; exact Below.refl _ _, Or.inl ⟨rfl, rfl⟩⟩
  | some p =>
    have lp : LP w p.B p.hp p.mb p.B2 p.dp p.most p.v p.v2 p.L p.mv := (h.rp.lp i p hi).1
    have le := (h.rp.lp i p hi).2.2
    obtain ⟨f, hs⟩ := lp.hs
    exact (fork_any hs (by omega)).mono fun e w' ⟨p2, m2, v2, e1, h1, h2, h3, h4⟩ => ⟨_, e1, h4, Or.inr ⟨_, _, _, p2, m2, _, v2, f, rfl, rfl, h1, h2, h3, Nat.le_refl _, h4.size⟩⟩
theorem fork_d {w : World} {N n : Nat} {a b : Value} {xa xb : List Value} {ps : List (Option PD)} (h : PQ w N n a b xa xb ps) {i : Nat} {o : Option PD} (hi : ps[i]? = some o) (hn : n ≤ 1099511627776) :
    Calls Tryz.prog 8 #[dP o] w fun e w1 => ∃ x, e = .returned x ∧ Below w.heap.size w w1 ∧ DX w.heap.size w1 x (qv o) := by
  cases o with
  | none => exact (dfork_nil w).mono fun e w' hh => ⟨_, hh.1, by rw [hh.2]; exact Below.refl _ _, Or.inl ⟨rfl, rfl⟩⟩
  | some p =>
    have lp : LP w p.B p.hp p.mb p.B2 p.dp p.most p.v p.v2 p.L p.mv := (h.rp.lp i p hi).1
    have le := (h.rp.lp i p hi).2.2
    exact (dfork_any lp.ds (by omega)).mono fun e w' ⟨v', e1, h1, h2⟩ => ⟨_, e1, h2, Or.inr ⟨_, _, _, _, _, v', rfl, rfl, h1, Nat.le_refl _, by omega⟩⟩
theorem new_h (most : Bool) (w : World) : Calls Tryz.prog 4 #[.bool most] w fun e w1 => ∃ x, e = .returned x ∧ Below w.heap.size w w1 ∧ HX w.heap.size w1 x (some (most, [], 0)) ∧ x = .pointer (some ⟨w.heap.size + 1, 0, none⟩) :=
  (hnew_any most w).mono fun e w' hh => ⟨_, hh.1, hh.2.2, Or.inr ⟨_, _, _, _, _, _, _, _, rfl, rfl, hh.2.1, by omega, Nat.le_refl _, by omega, hh.2.1.hl⟩, rfl⟩
theorem new_d (most : Bool) (w : World) : Calls Tryz.prog 5 #[.bool most] w fun e w1 => ∃ x, e = .returned x ∧ Below w.heap.size w w1 ∧ DX w.heap.size w1 x (some (most, [], 0)) ∧ x = .pointer (some ⟨w.heap.size, 0, none⟩) :=
  (dnew_any most w).mono fun e w' hh => ⟨_, hh.1, hh.2.2, Or.inr ⟨_, _, _, _, _, _, rfl, rfl, hh.2.1, Nat.le_refl _, by omega⟩, rfl⟩
end Go.Proofs.YtboacnpbicedfaaGreatDoor.Hp

namespace Go.Proofs.YtboacnpbicedfaaGreatDoor.Hp
open Go.RowKit Go.Maps
set_option linter.unusedVariables false
set_option linter.unusedSimpArgs false
set_option maxRecDepth 100000
/-- one pointer more; the row as it was stays. -/
theorem app_ptr2 {S E : TypeId} (hu : Tryz.prog.underlying S = some (.slice E)) (hE : (Tryz.prog.info? E).map (fun i => (i.zero, i.bytes, i.size)) = some (some (.pointer none), 8, 1)) {W : World} {B n : Nat} {v : Value} {xs : List Value} (h : W.ownsRow B E 1 v n xs) (hB : B ≤ W.heap.size) (K : Nat) (x : Value) (hx : W.cell? ⟨K, 0, none⟩ = some x) (h1 : x.oneCell' = true) (hn : n + 1 ≤ 1099511627776) :
    ∃ g cap w', (Builtin.append_ #[S, S] S #[v, .slice (some ⟨K, 0, none⟩) 1 1]).run Tryz.prog W = .ok (.slice (some ⟨g, 0, none⟩) (n + 1) cap) w' ∧ w'.ownsRow B E 1 (.slice (some ⟨g, 0, none⟩) (n + 1) cap) (n + 1) (xs ++ [x]) ∧ W.grownBy w' v.ownBlock ∧ (v.ownBlock = some g ∨ W.heap.size ≤ g) ∧ w'.ownsRow B E 1 v n xs := by
  obtain ⟨i, i1, i0⟩ := Option.map_eq_some_iff.1 hE
  have i2 : i.zero = some (.pointer none) := congrArg (·.1) i0
  have i3 : i.bytes = 8 := congrArg (·.2.1) i0
  have i4 : i.size = 1 := congrArg (·.2.2) i0
  have hml : maxLen = 9223372036854775807 := by decide
  obtain ⟨v', w', hr, own, gr, hat, kp⟩ := append_keeps (P := Tryz.prog) W B S S E i (.pointer none) hu i1 i2 (by rw [i4]; rfl) (by omega) v n xs (by rw [i4]; exact h) ⟨K, 0, none⟩ 1 1 [x] (by rw [i4]; rfl) (fun j u hj => by
    rcases j with _ | j
    · simp at hj; subst hj; simpa [Addr.add] using hx
    · simp at hj) (by simpa using h1) (by omega) (by omega) (by rw [i3]; omega) hB
  rw [i4] at own
  obtain ⟨g, cap, e, hg1, hg2⟩ := own.form (by omega)
  have k0 := kp B v n xs (by rw [i4]; exact h) (fun _ => Nat.le_refl _)
  rw [i4] at k0
  subst e
  refine ⟨g, cap, w', hr, own, gr, ?_, k0⟩
  rcases hat with e | e
  · exact Or.inl e.symm
  · have : g = W.heap.size := by simpa [Value.ownBlock] using e
    exact Or.inr (by omega)
/-- what an append to a row leaves. -/
structure GA (w w' : World) (r r' : Option Nat) : Prop where
  sz : w.heap.size ≤ w'.heap.size
  kp : ∀ k, k < w.heap.size → r ≠ some k → w'.heap[k]? = w.heap[k]?
  own : ∀ g, r' = some g → r = some g ∨ w.heap.size ≤ g
  os : w'.os = w.os ∧ w'.tape = w.tape ∧ w'.output = w.output
theorem PQ.appA {w W : World} {N n K : Nat} {a b x : Value} {xa xb : List Value} {ps : List (Option PD)} (h : PQ w N n a b xa xb ps) (hb : Below w.heap.size w W) (hx : W.cell? ⟨K, 0, none⟩ = some x) (h1 : x.oneCell' = true) (hn : xa.length + 1 ≤ 1099511627776) :
    ∃ g c w', (Builtin.append_ #[25, 25] 25 #[a, .slice (some ⟨K, 0, none⟩) 1 1]).run Tryz.prog W = .ok (.slice (some ⟨g, 0, none⟩) (xa.length + 1) c) w' ∧ PQ w' N n (.slice (some ⟨g, 0, none⟩) (xa.length + 1) c) b (xa ++ [x]) xb ps ∧ GA w w' a.ownBlock (some g) ∧ w'.ownsRow N 23 1 a xa.length xa := by
  have hW := h.below hb (Nat.le_refl n)
  obtain ⟨g, c, w', hr, own, gr, hat, k0⟩ := app_ptr2 Tryz.underlying25 ph_info hW.ra hW.hN K x hx h1 hn
  refine ⟨g, c, w', hr, hW.growA own gr (fun g' e => ?_), ⟨Nat.le_trans hb.size gr.size, fun k hk hr => ?_, fun g' e => ?_, gr.os.trans hb.os, gr.tape.trans hb.tape, gr.output.trans hb.output⟩, k0⟩
  · have e' : g = g' := by simpa [Value.ownBlock] using e
    subst e'; exact hat
  · rw [gr.block k (Nat.lt_of_lt_of_le hk hb.size) (fun e => hr e.symm)]; exact hb.block k hk
  · injection e with e'
    subst e'; exact hat.imp id (fun q => Nat.le_trans hb.size q)
theorem PQ.appB {w W : World} {N n K : Nat} {a b x : Value} {xa xb : List Value} {ps : List (Option PD)} (h : PQ w N n a b xa xb ps) (hb : Below w.heap.size w W) (hx : W.cell? ⟨K, 0, none⟩ = some x) (h1 : x.oneCell' = true) (hn : xb.length + 1 ≤ 1099511627776) :
    ∃ g c w', (Builtin.append_ #[28, 28] 28 #[b, .slice (some ⟨K, 0, none⟩) 1 1]).run Tryz.prog W = .ok (.slice (some ⟨g, 0, none⟩) (xb.length + 1) c) w' ∧ PQ w' N n a (.slice (some ⟨g, 0, none⟩) (xb.length + 1) c) xa (xb ++ [x]) ps ∧ GA w w' b.ownBlock (some g) ∧ w'.ownsRow N 26 1 b xb.length xb := by
  have hW := h.below hb (Nat.le_refl n)
  obtain ⟨g, c, w', hr, own, gr, hat, k0⟩ := app_ptr2 Tryz.underlying28 pd_info hW.rb hW.hN K x hx h1 hn
  refine ⟨g, c, w', hr, hW.growB own gr (fun g' e => ?_), ⟨Nat.le_trans hb.size gr.size, fun k hk hr => ?_, fun g' e => ?_, gr.os.trans hb.os, gr.tape.trans hb.tape, gr.output.trans hb.output⟩, k0⟩
  · have e' : g = g' := by simpa [Value.ownBlock] using e
    subst e'; exact hat
  · rw [gr.block k (Nat.lt_of_lt_of_le hk hb.size) (fun e => hr e.symm)]; exact hb.block k hk
  · injection e with e'
    subst e'; exact hat.imp id (fun q => Nat.le_trans hb.size q)
theorem GA.below {w w' : World} {N : Nat} {r r' : Option Nat} (h : GA w w' r r') (hN : N ≤ w.heap.size) (hr : ∀ k, r = some k → N ≤ k) : Below N w w' := ⟨h.os.1, h.os.2.1, h.os.2.2, h.sz, fun k hk => h.kp k (by omega) (fun e => by have := hr k e; omega)⟩
/-- pairs are older than the world. -/
theorem PQ.old {w : World} {N n : Nat} {a b : Value} {xa xb : List Value} {ps : List (Option PD)} (h : PQ w N n a b xa xb ps) : (∀ (i : Nat) (p : PD) (k : Nat), ps[i]? = some (some p) → p.has k → k < w.heap.size) ∧ (∀ k, a.ownBlock = some k → N ≤ k ∧ k < w.heap.size) ∧ (∀ k, b.ownBlock = some k → N ≤ k ∧ k < w.heap.size) :=
  ⟨fun i p k hi hk => (h.rp.lp i p hi).1.lt hk, fun k e => World.ownsRow.lt h.ra k e, fun k e => World.ownsRow.lt h.rb k e⟩
/-- a pair that is whole, and then both rows grow. -/
theorem PP.both {w w5 w6 w7 : World} {N n : Nat} {a b a' b' x y : Value} {ps : List (Option PD)} {o : Option PD} (h : PP w N n a b ps) (ho1 : hP o = x) (ho2 : dP o = y) (sz : w.heap.size ≤ w5.heap.size) (ho : ∀ (p : PD), o = some p → p.ok w5 ∧ p.L.length ≤ n ∧ ∀ k, p.has k → w.heap.size ≤ k)
    (g1 : GA w5 w6 a.ownBlock a'.ownBlock) (g2 : GA w6 w7 b.ownBlock b'.ownBlock) (q7 : PQ w7 N n a' b' (ps.map hP ++ [x]) (ps.map dP ++ [y]) ps) : PP w7 N n a' b' (ps ++ [o]) := by
  obtain ⟨o1, o2, o3⟩ := PQ.old h
  unfold PP
  rw [List.map_append, List.map_append, List.map_singleton, List.map_singleton, ho1, ho2]
  have hN := h.hN
  refine q7.add o (fun p hp => ?_)
  obtain ⟨ok, le, hb⟩ := ho p hp
  have lt5 : ∀ k, p.has k → k < w5.heap.size := fun k hk => ok.lt hk
  refine ⟨LP.kept ok (Nat.le_trans g1.sz g2.sz) (fun k hk => ?_), le, fun k hk => ⟨Nat.le_trans hN (hb k hk), fun e => ?_, fun e => ?_, fun i q hq hqk => ?_⟩⟩
  · have h5 := lt5 k hk
    have hM := hb k hk
    rw [g2.kp k (Nat.lt_of_lt_of_le h5 g1.sz) (fun e => by have := (o3 k e).2; omega)]
    exact g1.kp k h5 (fun e => by have := (o2 k e).2; omega)
  · have h5 := lt5 k hk
    have hM := hb k hk
    rcases g1.own k e with c | c
    · have := (o2 k c).2; omega
    · omega
  · have h5 := lt5 k hk
    have hM := hb k hk
    have := g1.sz
    rcases g2.own k e with c | c
    · have := (o3 k c).2; omega
    · omega
  · have := o1 i q k hq hqk
    have := hb k hk
    omega
/-- a half, its row, the other half, its row. -/
theorem PP.turns {w w1 w2 w3 w4 : World} {N n : Nat} {a b a' b' x y : Value} {q : QV} {ps : List (Option PD)} (h : PP w N n a b ps) (b1 : Below w.heap.size w w1) (hx : HX w.heap.size w1 x q) (g1 : GA w1 w2 a.ownBlock a'.ownBlock) (ha : ∀ k, a'.ownBlock = some k → k < w2.heap.size) (b3 : Below w2.heap.size w2 w3) (dx : DX w2.heap.size w3 y q) (g2 : GA w3 w4 b.ownBlock b'.ownBlock) (hn : ∀ r, q = some r → r.2.1.length ≤ n)
    (q4 : PQ w4 N n a' b' (ps.map hP ++ [x]) (ps.map dP ++ [y]) ps) : ∃ o, PP w4 N n a' b' (ps ++ [o]) := by
  obtain ⟨o1, o2, o3⟩ := PQ.old h
  have k3 : ∀ k, k < w1.heap.size → w.heap.size ≤ k → w3.heap[k]? = w1.heap[k]? := fun k hk hM => by
    rw [b3.block k (Nat.lt_of_lt_of_le hk g1.sz)]
    exact g1.kp k hk (fun e => by have := (o2 k e).2; omega)
  obtain ⟨o, e1, e2, ho⟩ := hx.join dx (Nat.le_trans g1.sz b3.size) k3 g1.sz hn
  refine ⟨o, ?_⟩
  unfold PP
  rw [List.map_append, List.map_append, List.map_singleton, List.map_singleton, e1, e2]
  refine q4.add o (fun p hp => ?_)
  obtain ⟨ok, le, hb⟩ := ho p hp
  have lt3 : ∀ k, p.has k → k < w3.heap.size := fun k hk => ok.lt hk
  have hN := h.hN
  refine ⟨LP.kept ok g2.sz (fun k hk => ?_), le, fun k hk => ⟨Nat.le_trans hN (hb k hk).1, fun e => ?_, fun e => ?_, fun i p' hq hqk => ?_⟩⟩
  · have hM := (hb k hk).1
    exact g2.kp k (lt3 k hk) (fun e => by have := (o3 k e).2; omega)
  · have hM := (hb k hk).1
    rcases g1.own k e with c | c
    · have := (o2 k c).2; omega
    · have := ha k e
      rcases (hb k hk).2 with d | d <;> omega
  · have hM := (hb k hk).1
    have := lt3 k hk
    rcases g2.own k e with c | c
    · have := (o3 k c).2; omega
    · omega
  · have := o1 i p' k hq hqk
    have := (hb k hk).1
    omega
end Go.Proofs.YtboacnpbicedfaaGreatDoor.Hp
