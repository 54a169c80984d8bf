
import Derived.Test.YtboacnpbicedfaaGreatDoorHuQq
namespace Go.Proofs.YtboacnpbicedfaaGreatDoor.Hp
open Go.RowKit Go.Maps
set_option linter.unusedVariables false
set_option linter.unusedSimpArgs false
set_option maxRecDepth 100000
theorem tmod_rng (n : Int) (a : Nat) (h0 : 0 < a) : -(a : Int) < n.tmod a ∧ n.tmod a < (a : Int) := by
  have h1 := Int.tmod_lt_of_pos n (show (0 : Int) < (a : Int) by omega)
  refine ⟨?_, h1⟩
  rcases Int.le_total 0 n with q | q
  · have := Int.tmod_nonneg (a : Int) q; omega
  · have h2 := Int.tmod_lt_of_pos (-n) (show (0 : Int) < (a : Int) by omega)
    rw [Int.neg_tmod] at h2
    omega
set_option maxHeartbeats 4000000 in
/-- a number of a heap. -/
theorem which_any (n : Int) (a : Nat) (h0 : 0 < a) (h1 : a ≤ 1152921504606846976) (w : World) :
    Calls Tryz.prog 6 #[.int .i64 n, .int .i64 (a : Int)] w fun e w' => (∃ i : Nat, i < a ∧ e = .returned (.int .i64 (i : Int))) ∧ w' = w := by
  obtain ⟨r1, r2⟩ := tmod_rng n a h0
  have ne : ¬ (a : Int) = 0 := by omega
  have neb : ((a : Int) == 0) = false := by simpa using ne
  obtain ⟨r, hr⟩ : ∃ r, r = n.tmod (a : Int) := ⟨_, rfl⟩
  rw [← hr] at r1 r2
  have e1 : IntKind.i64.wrap (n.tmod (a : Int)) = r := by rw [← hr]; exact IntWalk.i64_in _ (by omega)
  have e2 : wrap64 (n.tmod (a : Int)) = r := by rw [← hr]; exact IntWalk.wrap64_in _ (by omega)
  have hrH : Hid (r = n.tmod (a : Int)) := hr
  have hr' : n.tmod (a : Int) = r := hr.symm
  by_cases c : r < 0
  · have w1 : IntKind.i64.wrap (r + (a : Int)) = r + (a : Int) := IntWalk.i64_in _ (by omega)
    have fin : Hid (∃ i : Nat, i < a ∧ r + (a : Int) = (i : Int)) := ⟨(r + (a : Int)).toNat, by omega, by omega⟩
    clear hr r1 r2 h0 h1
    go_enter Tryz.func6, Tryz.ntmps6
    go_wp2_with fail
    go_ret
    obtain ⟨i, hi, e⟩ := fin.out
    exact ⟨⟨i, hi, by first | (rw [← e]; rfl) | (simp [← e]; done)⟩, rfl⟩
  · have fin : Hid (∃ i : Nat, i < a ∧ r = (i : Int)) := ⟨r.toNat, by omega, by omega⟩
    clear hr r1 r2 h0 h1
    go_enter Tryz.func6, Tryz.ntmps6
    go_wp2_with fail
    go_ret
    obtain ⟨i, hi, e⟩ := fin.out
    exact ⟨⟨i, hi, by first | (rw [← e]; rfl) | (simp [← e]; done)⟩, rfl⟩
end Go.Proofs.YtboacnpbicedfaaGreatDoor.Hp

namespace Go.Proofs.YtboacnpbicedfaaGreatDoor.Hp
open Go.RowKit Go.Maps
set_option linter.unusedVariables false
set_option linter.unusedSimpArgs false
set_option maxRecDepth 100000
/-- a call's box. -/
def bxW (w : World) (k wh : Int) (mo : Bool) (x : Ent) (la : Option Addr) (ln lc : Nat) : World := w.alloc (.cells #[.int .i64 k, .int .i64 wh, .bool mo, .int .i64 x.1, .string x.2, .slice la ln lc] 33)
theorem bxW_below (w : World) (k wh : Int) (mo : Bool) (x : Ent) (la : Option Addr) (ln lc : Nat) : Below w.heap.size w (bxW w k wh mo x la ln lc) ∧ w.heap.size < (bxW w k wh mo x la ln lc).heap.size ∧ BX w.heap.size x (bxW w k wh mo x la ln lc) := by
  unfold bxW
  refine ⟨(Below.refl _ w).alloc (Nat.le_refl _) _, by simp, ?_⟩
  unfold BX
  constructor <;> simp [go_sem]
theorem BX.keep {K : Nat} {x : Ent} {W W' : World} (h : BX K x W) (hb : W'.heap[K]? = W.heap[K]?) : BX K x W' := by
  unfold BX at *
  rw [World.cell?_of_block (w := W) (a := ⟨K, 3, none⟩) hb, World.cell?_of_block (w := W) (a := ⟨K, 4, none⟩) hb]
  exact h
theorem BX.below {K : Nat} {x : Ent} {W W' : World} (h : BX K x W) (hK : K < W.heap.size) (hb : Below W.heap.size W W') : BX K x W' := h.keep (hb.block K hK)
/-- a call of a nil heap. -/
theorem call_nil (w : World) (hg : ET w) (k wh : Int) (mo : Bool) (x : Ent) (la : Option Addr) (ln lc : Nat) :
    Calls Tryz.prog 12 #[.pointer none, .pointer none, .agg #[.int .i64 k, .int .i64 wh, .bool mo, .int .i64 x.1, .string x.2, .slice la ln lc]] w fun e w' => e = .returned (.bool true) ∧ Below w.heap.size w w' := by
  obtain ⟨b0, K0, x0⟩ := bxW_below w k wh mo x la ln lc
  obtain ⟨W0, hW0⟩ : ∃ W0, W0 = bxW w k wh mo x la ln lc := ⟨_, rfl⟩
  rw [← hW0] at b0 K0 x0
  have out : ∀ W, Below W0.heap.size W0 W → Below w.heap.size w W := fun W h => below_trans b0 (below_less h b0.size)
  have bx : ∀ W, Below W0.heap.size W0 W → BX w.heap.size x W := fun W h => x0.below K0 h
  have et : ∀ W, Below W0.heap.size W0 W → ET W := fun W h => ET_below hg (out W h)
  have st : ∀ W W', Below W0.heap.size W0 W → Below W.heap.size W W' → Below W0.heap.size W0 W' := fun W W' h h' => below_trans h (below_less h' h.size)
  have d0 : Below W0.heap.size W0 W0.drew := (Below.refl _ W0).drew
  unfold bxW at hW0
  by_cases h0 : k = 0
  · subst h0
    exact call_put (X := fun W => Below W0.heap.size W0 W) (Y := fun W => Below W0.heap.size W0 W)
      (by rw [← hW0]; exact (hput_nil x W0.drew).mono fun e w1 hh => ⟨hh.1, bx _ (st _ _ d0 hh.2), st _ _ d0 hh.2⟩)
      (fun w1 X1 => (dput_nil x w1).mono fun e w2 hh => ⟨hh.1, bx _ (st _ _ X1 hh.2), st _ _ X1 hh.2⟩)
      (fun w2 Y2 => (same_num 1 (by decide) w2 (et _ Y2)).mono fun e w3 hh => ⟨hh.1, bx _ (st _ _ Y2 hh.2), out _ (st _ _ Y2 hh.2)⟩)
  · by_cases h1 : k = 1
    · subst h1
      exact call_take (X := fun W => Below W0.heap.size W0 W) (Y := fun W => Below W0.heap.size W0 W) (Or.inr ⟨1, rfl⟩)
        (by rw [← hW0]; exact (htake_nil x.2 W0).mono fun e w1 hh => ⟨hh.1, bx _ hh.2, hh.2⟩)
        (fun w1 X1 W hW => by
          have bw : Below w1.heap.size w1 W := by rw [hW]; exact (Below.refl _ w1).alloc (Nat.le_refl _) _
          have eb : EB W w1.heap.size (0, ⟨#[]⟩) := by rw [hW]; exact EB.new w1 _
          exact ⟨bx _ (st _ _ X1 bw), (dtake_nil x.2 W).mono fun e w2 hh => ⟨hh.1, eb.below hh.2, st _ _ (st _ _ X1 bw) hh.2⟩⟩)
        (fun w2 Y2 W hW => (same_num 1 (by decide) W (et _ (st _ _ Y2 hW))).mono fun e w3 hh => ⟨hh.1, out _ (st _ _ (st _ _ Y2 hW) hh.2)⟩)
    · by_cases h2 : k = 2
      · subst h2
        exact call_turn (X := fun W => Below W0.heap.size W0 W) (Y := fun W => Below W0.heap.size W0 W)
          (by rw [← hW0]; exact (hturn_nil x.2 x.1 W0.drew).mono fun e w1 hh => ⟨hh.1, by rw [hh.2]; exact bx _ d0, by rw [hh.2]; exact d0⟩)
          (fun w1 X1 => (dturn_nil x.2 x.1 w1).mono fun e w2 hh => ⟨hh.1, bx _ (st _ _ X1 hh.2), st _ _ X1 hh.2⟩)
          (fun w2 Y2 => (same_num 1 (by decide) w2 (et _ Y2)).mono fun e w3 hh => ⟨hh.1, bx _ (st _ _ Y2 hh.2), out _ (st _ _ Y2 hh.2)⟩)
      · by_cases h3 : k = 3
        · subst h3
          exact call_pop (X := fun W => Below W0.heap.size W0 W) (Y := fun W => Below W0.heap.size W0 W) (Or.inr ⟨1, rfl⟩)
            (by rw [← hW0]; exact (hpop_nil W0).mono fun e w1 hh => ⟨hh.1, bx _ hh.2, hh.2⟩)
            (fun w1 X1 W hW => by
              have bw : Below w1.heap.size w1 W := by rw [hW]; exact (Below.refl _ w1).alloc (Nat.le_refl _) _
              have eb : EB W w1.heap.size (0, ⟨#[]⟩) := by rw [hW]; exact EB.new w1 _
              exact ⟨bx _ (st _ _ X1 bw), (dpop_nil W).mono fun e w2 hh => ⟨hh.1, eb.below hh.2, st _ _ (st _ _ X1 bw) hh.2⟩⟩)
            (fun w2 Y2 W hW => (same_num 1 (by decide) W (et _ (st _ _ Y2 hW))).mono fun e w3 hh => ⟨hh.1, out _ (st _ _ (st _ _ Y2 hW) hh.2)⟩)
        · exact call_else ⟨h0, h1, h2, h3⟩ (by rw [← hW0]; exact (alike_nil W0 x.2).mono fun e w1 hh => ⟨hh.1, out _ hh.2⟩)
end Go.Proofs.YtboacnpbicedfaaGreatDoor.Hp

namespace Go.Proofs.YtboacnpbicedfaaGreatDoor.Hp
open Go.RowKit Go.Maps
set_option linter.unusedVariables false
set_option linter.unusedSimpArgs false
set_option maxRecDepth 100000
theorem row_kept {w w' : World} {B size n : Nat} {e : TypeId} {v : Value} {xs : List Value} (h : w.ownsRow B e size v n xs) (hb : ∀ g, v.ownBlock = some g → w'.heap[g]? = w.heap[g]?) : w'.ownsRow B e size v n xs := by
  refine ⟨h.1, ?_⟩
  rcases h.2 with h2 | ⟨g, cap, cur, e1, e2, e3, e4⟩
  · exact Or.inl h2
  · exact Or.inr ⟨g, cap, cur, e1, e2, by rw [hb g (by rw [e1]; rfl)]; exact e3, e4⟩
/-- the document's heap, where its blocks are as they were. -/
theorem DS.kept {w w' : World} {B dp : Nat} {most : Bool} {v : Value} {L : List Ent} {mv : Int} (h : DS w B dp most v L mv) (hs : w.heap.size ≤ w'.heap.size) (h1 : w'.heap[dp]? = w.heap[dp]?) (h2 : ∀ g, v.ownBlock = some g → w'.heap[g]? = w.heap[g]?) : DS w' B dp most v L mv := by
  have cc : ∀ o, w'.cell? ⟨dp, o, none⟩ = w.cell? ⟨dp, o, none⟩ := fun o => World.cell?_of_block (w := w) (a := ⟨dp, o, none⟩) h1
  have zz : ∀ o, w'.frozen? ⟨dp, o, none⟩ = w.frozen? ⟨dp, o, none⟩ := fun o => by simp [World.frozen?, h1]
  exact ⟨by rw [cc]; exact h.c0, by rw [cc]; exact h.c1, by rw [cc]; exact h.c2, by rw [zz]; exact h.z0, by rw [zz]; exact h.z2, row_kept h.row h2, h.ne, Nat.lt_of_lt_of_le h.hl hs, Nat.le_trans h.bs hs⟩
/-- the program's. -/
theorem HS.kept {w w' : World} {B hp mb : Nat} {most : Bool} {v : Value} {ex : Option ByteArray} {f : ByteArray → Option Nat} {L : List Ent} {mv : Int} (h : HS w B hp mb most v ex f L mv) (hs : w.heap.size ≤ w'.heap.size) (h1 : w'.heap[hp]? = w.heap[hp]?) (h3 : w'.heap[mb]? = w.heap[mb]?) (h2 : ∀ g, v.ownBlock = some g → w'.heap[g]? = w.heap[g]?) : HS w' B hp mb most v ex f L mv := by
  have cc : ∀ o, w'.cell? ⟨hp, o, none⟩ = w.cell? ⟨hp, o, none⟩ := fun o => World.cell?_of_block (w := w) (a := ⟨hp, o, none⟩) h1
  have zz : ∀ o, w'.frozen? ⟨hp, o, none⟩ = w.frozen? ⟨hp, o, none⟩ := fun o => by simp [World.frozen?, h1]
  obtain ⟨c, hm, hc⟩ := h.mp
  exact ⟨by rw [cc]; exact h.c0, by rw [cc]; exact h.c1, by rw [cc]; exact h.c2, by rw [cc]; exact h.c3, by rw [zz]; exact h.z0, by rw [zz]; exact h.z3, row_kept h.row h2, ⟨c, hm.keep h3, hc⟩, h.pl, h.hw, h.nm, Nat.lt_of_lt_of_le h.hl hs, h.exs⟩
/-- a heap and the document's, apart. -/
structure LP (w : World) (B hp mb B2 dp : Nat) (most : Bool) (v v2 : Value) (L : List Ent) (mv : Int) : Prop where
  hs : ∃ f, HS w B hp mb most v none f L mv
  ds : DS w B2 dp most v2 L mv
  bs : B ≤ w.heap.size
  s1 : dp ≠ hp ∧ dp ≠ mb ∧ v.ownBlock ≠ some dp
  s2 : ∀ g, v2.ownBlock = some g → g ≠ hp ∧ g ≠ mb ∧ v.ownBlock ≠ some g
/-- what is neither one's nor the other's is as it was. -/
structure LF (hp mb dp : Nat) (rb rd : Option Nat) (w w' : World) : Prop where
  size : w.heap.size ≤ w'.heap.size
  keep : ∀ k, k < w.heap.size → k ≠ hp → k ≠ mb → k ≠ dp → some k ≠ rb → some k ≠ rd → w'.heap[k]? = w.heap[k]?
  same : w'.os = w.os ∧ w'.tape = w.tape ∧ w'.output = w.output
theorem LF.below {hp mb dp : Nat} {rb rd : Option Nat} {w w' : World} (h : Below w.heap.size w w') : LF hp mb dp rb rd w w' := ⟨h.size, fun k hk _ _ _ _ _ => h.block k hk, h.os, h.tape, h.output⟩
theorem LP.below {w w' : World} {B hp mb B2 dp : Nat} {most : Bool} {v v2 : Value} {L : List Ent} {mv : Int} (h : LP w B hp mb B2 dp most v v2 L mv) (hb : Below w.heap.size w w') : LP w' B hp mb B2 dp most v v2 L mv := by
  obtain ⟨f, hs⟩ := h.hs
  exact ⟨⟨f, hs.below hb⟩, h.ds.below hb, Nat.le_trans h.bs hb.size, h.s1, h.s2⟩
/-- one change of both. -/
theorem LP.step {w w1 w2 : World} {B hp mb B2 dp : Nat} {most : Bool} {v v2 : Value} {L L' : List Ent} {mv mv' : Int} (h : LP w B hp mb B2 dp most v v2 L mv) (op : OP w B hp mb most v L' mv' w1) : DS w1 B2 dp most v2 L mv ∧ ∀ w2, DO w1 B2 dp most v2 L' mv' w2 → ∃ v' v2', LP w2 B hp mb B2 dp most v' v2' L' mv' ∧ LF hp mb dp v.ownBlock v2.ownBlock w w2 ∧ (∀ g, v'.ownBlock = some g → v.ownBlock = some g ∨ w.heap.size ≤ g) ∧ (∀ g, v2'.ownBlock = some g → v2.ownBlock = some g ∨ w.heap.size ≤ g) := by
  obtain ⟨f, hs⟩ := h.hs
  obtain ⟨v', f', hs1, hv'⟩ := op.hs
  have dl := h.ds.hl
  have rl : ∀ g, v2.ownBlock = some g → g < w.heap.size := fun g e => (h.ds.row.bound e).2
  have D1 : DS w1 B2 dp most v2 L mv := h.ds.kept op.fr.size (op.fr.keep dp dl h.s1.1 h.s1.2.1 (fun e => h.s1.2.2 e.symm)) (fun g e => op.fr.keep g (rl g e) (h.s2 g e).1 (h.s2 g e).2.1 (fun q => (h.s2 g e).2.2 q.symm))
  refine ⟨D1, fun w2 d => ?_⟩
  obtain ⟨⟨v2', ds2, hv2⟩, fr2⟩ := d
  have sz := op.fr.size
  have hv1 : ∀ g, v'.ownBlock = some g → v.ownBlock = some g ∨ w.heap.size ≤ g := fun g e => by
    rcases hv' with q | ⟨k, q, hk⟩
    · exact Or.inl (by rw [← q]; exact e)
    · rw [q] at e; injection e with e; exact Or.inr (by omega)
  have hpl := hs.hl
  have mbl : mb < w.heap.size := by obtain ⟨_, m, _⟩ := hs.mp; exact m.lt
  have vl : ∀ g, v'.ownBlock = some g → g < w1.heap.size := fun g e => (World.ownsRow.lt hs1.row g e).2
  have apart : ∀ g, v'.ownBlock = some g → g ≠ dp ∧ v2.ownBlock ≠ some g := fun g e => by
    rcases hv1 g e with q | q
    · refine ⟨fun c => h.s1.2.2 (by rw [← c]; exact q), fun c => (h.s2 g c).2.2 q⟩
    · exact ⟨by omega, fun c => by have := rl g c; omega⟩
  have H2 : HS w2 B hp mb most v' none f' L' mv' := hs1.kept fr2.size (fr2.keep hp (by omega) (fun c => h.s1.1 c.symm) (fun c => h.s1.1 c.symm) (fun c => (h.s2 hp c.symm).1 rfl)) (fr2.keep mb (by omega) (fun c => h.s1.2.1 c.symm) (fun c => h.s1.2.1 c.symm) (fun c => (h.s2 mb c.symm).2.1 rfl)) (fun g e => fr2.keep g (vl g e) (apart g e).1 (apart g e).1 (fun c => (apart g e).2 c.symm))
  have hv22 : ∀ g, v2'.ownBlock = some g → v2.ownBlock = some g ∨ w1.heap.size ≤ g := hv2
  refine ⟨v', v2', ⟨⟨f', H2⟩, ds2, Nat.le_trans h.bs (Nat.le_trans sz fr2.size), ⟨h.s1.1, h.s1.2.1, fun c => (apart dp c).1 rfl⟩, fun g e => ?_⟩, ⟨Nat.le_trans sz fr2.size, fun k hk a b c d e => ?_, fr2.same.1.trans op.fr.same.1, fr2.same.2.1.trans op.fr.same.2.1, fr2.same.2.2.trans op.fr.same.2.2⟩, hv1, fun g e => ?_⟩
  · rcases hv22 g e with q | q
    · exact ⟨(h.s2 g q).1, (h.s2 g q).2.1, fun c => (apart g c).2 q⟩
    · exact ⟨by omega, by omega, fun c => by have := vl g c; omega⟩
  · rw [fr2.keep k (by omega) c c e]
    exact op.fr.keep k hk a b d
  · rcases hv22 g e with q | q
    · exact Or.inl q
    · exact Or.inr (by omega)
end Go.Proofs.YtboacnpbicedfaaGreatDoor.Hp

namespace Go.Proofs.YtboacnpbicedfaaGreatDoor.Hp
open Go.RowKit Go.Maps
set_option linter.unusedVariables false
set_option linter.unusedSimpArgs false
set_option maxRecDepth 100000
theorem LF.pre {hp mb dp : Nat} {rb rd : Option Nat} {w W w' : World} (hb : Below w.heap.size w W) (h : LF hp mb dp rb rd W w') : LF hp mb dp rb rd w w' := ⟨Nat.le_trans hb.size h.size, fun k hk a b c d e => by rw [h.keep k (Nat.lt_of_lt_of_le hk hb.size) a b c d e]; exact hb.block k hk, h.same.1.trans hb.os, h.same.2.1.trans hb.tape, h.same.2.2.trans hb.output⟩
theorem LF.post {hp mb dp : Nat} {rb rd : Option Nat} {w W w' : World} (h : LF hp mb dp rb rd w W) (hb : Below W.heap.size W w') : LF hp mb dp rb rd w w' := ⟨Nat.le_trans h.size hb.size, fun k hk a b c d e => by rw [hb.block k (Nat.lt_of_lt_of_le hk h.size)]; exact h.keep k hk a b c d e, hb.os.trans h.same.1, hb.tape.trans h.same.2.1, hb.output.trans h.same.2.2⟩
/-- behind a call of a live pair. -/
def ZZ (w : World) (B hp mb B2 dp : Nat) (most : Bool) (v v2 : Value) (n : Nat) (w' : World) : Prop := ∃ v' v2' L' mv', LP w' B hp mb B2 dp most v' v2' L' mv' ∧ LF hp mb dp v.ownBlock v2.ownBlock w w' ∧ (∀ g, v'.ownBlock = some g → v.ownBlock = some g ∨ w.heap.size ≤ g) ∧ (∀ g, v2'.ownBlock = some g → v2.ownBlock = some g ∨ w.heap.size ≤ g) ∧ L'.length ≤ n
theorem ZZ.same {w w' : World} {B hp mb B2 dp n : Nat} {most : Bool} {v v2 : Value} {L : List Ent} {mv : Int} (h : LP w B hp mb B2 dp most v v2 L mv) (hb : Below w.heap.size w w') (hn : L.length ≤ n) : ZZ w B hp mb B2 dp most v v2 n w' := ⟨v, v2, L, mv, h.below hb, LF.below hb, fun g e => Or.inl e, fun g e => Or.inl e, hn⟩
theorem ZZ.change {w W w1 w2 w3 : World} {B hp mb B2 dp n : Nat} {most : Bool} {v v2 : Value} {L L' : List Ent} {mv mv' : Int} (h : LP w B hp mb B2 dp most v v2 L mv) (hb : Below w.heap.size w W) (op : OP W B hp mb most v L' mv' w1) (d : DO w1 B2 dp most v2 L' mv' w2) (hb3 : Below w2.heap.size w2 w3) (hn : L'.length ≤ n) : ZZ w B hp mb B2 dp most v v2 n w3 := by
  obtain ⟨v', v2', l2, f2, e1, e2⟩ := ((h.below hb).step (w2 := w2) op).2 w2 d
  exact ⟨v', v2', L', mv', l2.below hb3, (f2.pre hb).post hb3, fun g e => (e1 g e).imp id (fun q => Nat.le_trans hb.size q), fun g e => (e2 g e).imp id (fun q => Nat.le_trans hb.size q), hn⟩
theorem OP.box {W w1 : World} {B hp mb K N : Nat} {most : Bool} {v : Value} {L : List Ent} {mv : Int} (op : OP W B hp mb most v L mv w1) (hK : K < W.heap.size) (h1 : hp < N) (h2 : mb < N) (h3 : ∀ g, v.ownBlock = some g → g < N) (hN : N ≤ K) : w1.heap[K]? = W.heap[K]? := op.fr.keep K hK (by omega) (by omega) (fun e => by have := h3 K e.symm; omega)
theorem DO.box2 {W w1 : World} {B dp K N : Nat} {most : Bool} {v : Value} {L : List Ent} {mv : Int} (d : DO W B dp most v L mv w1) (hK : K < W.heap.size) (h1 : dp < N) (h3 : ∀ g, v.ownBlock = some g → g < N) (hN : N ≤ K) : w1.heap[K]? = W.heap[K]? := d.fr.keep K hK (by omega) (by omega) (fun e => by have := h3 K e.symm; omega)
/-- Put at a live pair. -/
theorem call_put2 {w : World} {B hp mb B2 dp : Nat} {most : Bool} {v v2 : Value} {L : List Ent} {mv : Int} (h : LP w B hp mb B2 dp most v v2 L mv) (hg : ET w) (wh : Int) (mo : Bool) (x : Ent) (hx : x.2.size ≤ 9223372036854775807) (la : Option Addr) (ln lc : Nat) (hn : L.length + 1 ≤ 1099511627776) :
    Calls Tryz.prog 12 #[.pointer (some ⟨hp, 0, none⟩), .pointer (some ⟨dp, 0, none⟩), .agg #[.int .i64 0, .int .i64 wh, .bool mo, .int .i64 x.1, .string x.2, .slice la ln lc]] w fun e w' => e = .returned (.bool true) ∧ ZZ w B hp mb B2 dp most v v2 (L.length + 1) w' := by
  obtain ⟨b0, K0, x0⟩ := bxW_below w 0 wh mo x la ln lc
  obtain ⟨W0, hW0⟩ : ∃ W0, W0 = bxW w 0 wh mo x la ln lc := ⟨_, rfl⟩
  rw [← hW0] at b0 K0 x0
  unfold bxW at hW0
  have d0 : Below w.heap.size w W0.drew := b0.drew
  have xd : BX w.heap.size x W0.drew := x0
  have h0 := h.below d0
  obtain ⟨f, hs⟩ := h0.hs
  obtain ⟨f9, hs9⟩ := h.hs
  have hl1 := hs9.hl
  have hl2 : mb < w.heap.size := by obtain ⟨_, m, _⟩ := hs9.mp; exact m.lt
  have hl3 : ∀ g, v.ownBlock = some g → g < w.heap.size := fun g e => (World.ownsRow.lt hs9.row g e).2
  have hl4 := h.ds.hl
  have hl5 : ∀ g, v2.ownBlock = some g → g < w.heap.size := fun g e => (h.ds.row.bound e).2
  have fr := hs.pl.fr x.2
  cases q : f x.2 with
  | none =>
    rw [q] at fr
    exact call_put (X := fun w1 => OP W0.drew B hp mb most v (upL (ahd most) (L ++ [x]) L.length).1 ((upL (ahd most) (L ++ [x]) L.length).2 : Nat) w1) (Y := fun w2 => ∃ w1, OP W0.drew B hp mb most v (upL (ahd most) (L ++ [x]) L.length).1 ((upL (ahd most) (L ++ [x]) L.length).2 : Nat) w1 ∧ DO w1 B2 dp most v2 (upL (ahd most) (L ++ [x]) L.length).1 ((upL (ahd most) (L ++ [x]) L.length).2 : Nat) w2)
      (by rw [← hW0]; exact (put_ok hs h0.bs x hx q hn).mono fun e w1 hh => ⟨hh.1, xd.keep (hh.2.box K0 hl1 hl2 hl3 (Nat.le_refl _)), hh.2⟩)
      (fun w1 X1 => (dput_ok (h0.step (w2 := w1) X1).1 x fr hn).mono fun e w2 hh => ⟨hh.1, (xd.keep (X1.box K0 hl1 hl2 hl3 (Nat.le_refl _))).keep (hh.2.box2 (Nat.lt_of_lt_of_le K0 X1.fr.size) hl4 hl5 (Nat.le_refl _)), w1, X1, hh.2⟩)
      (fun w2 Y2 => by
        obtain ⟨w1, X1, D2⟩ := Y2
        have bx2 := (xd.keep (X1.box K0 hl1 hl2 hl3 (Nat.le_refl _))).keep (D2.box2 (Nat.lt_of_lt_of_le K0 X1.fr.size) hl4 hl5 (Nat.le_refl _))
        exact (same_none w2).mono fun e w3 hh => ⟨hh.1, bx2.below (Nat.lt_of_lt_of_le K0 (Nat.le_trans X1.fr.size D2.fr.size)) hh.2, ZZ.change h d0 X1 D2 hh.2 (by rw [upL_len _ L.length _ _ (Nat.le_refl _)]; simp)⟩)
  | some i =>
    rw [q] at fr
    exact call_put (X := fun w1 => Below W0.heap.size W0 w1) (Y := fun w2 => Below W0.heap.size W0 w2)
      (by rw [← hW0]; exact (put_known hs x hx (by rw [q]; simp)).mono fun e w1 hh => ⟨hh.1, xd.below K0 hh.2, below_trans ((Below.refl _ W0).drew) hh.2⟩)
      (fun w1 X1 => (dput_known ((h.below b0).ds.below X1) x i fr (by omega)).mono fun e w2 hh => ⟨hh.1, x0.below K0 (below_trans X1 (below_less hh.2 X1.size)), below_trans X1 (below_less hh.2 X1.size)⟩)
      (fun w2 Y2 => (same_num 5 (by decide) w2 (ET_below hg (below_trans b0 (below_less Y2 b0.size)))).mono fun e w3 hh => ⟨hh.1, x0.below K0 (below_trans Y2 (below_less hh.2 Y2.size)), ZZ.same h (below_trans b0 (below_less (below_trans Y2 (below_less hh.2 Y2.size)) b0.size)) (by omega)⟩)
end Go.Proofs.YtboacnpbicedfaaGreatDoor.Hp

namespace Go.Proofs.YtboacnpbicedfaaGreatDoor.Hp
open Go.RowKit Go.Maps
set_option linter.unusedVariables false
set_option linter.unusedSimpArgs false
set_option maxRecDepth 100000
theorem takP_len (most : Bool) (L : List Ent) (i : Nat) (hi : i < L.length) : (takP most L i).1.length ≤ L.length + 1 := by
  unfold takP
  split
  · rw [goneL_len]; omega
  · rw [mendL_len, goneL_len]; omega
/-- behind a change, something new. -/
theorem OP.later {W w1 w2 : World} {B hp mb : Nat} {most : Bool} {v : Value} {L : List Ent} {mv : Int} (op : OP W B hp mb most v L mv w1) (hb : Below w1.heap.size w1 w2) : OP W B hp mb most v L mv w2 := by
  obtain ⟨⟨v', f, hs, hv⟩, fr⟩ := op
  exact ⟨⟨v', f, hs.below hb, hv⟩, fr.trans (HF.below hb)⟩
theorem call_turn2 {w : World} {B hp mb B2 dp : Nat} {most : Bool} {v v2 : Value} {L : List Ent} {mv : Int} (h : LP w B hp mb B2 dp most v v2 L mv) (hg : ET w) (wh : Int) (mo : Bool) (x : Ent) (hx : x.2.size ≤ 9223372036854775807) (la : Option Addr) (ln lc : Nat) (hn : L.length + 1 ≤ 1099511627776) :
    Calls Tryz.prog 12 #[.pointer (some ⟨hp, 0, none⟩), .pointer (some ⟨dp, 0, none⟩), .agg #[.int .i64 2, .int .i64 wh, .bool mo, .int .i64 x.1, .string x.2, .slice la ln lc]] w fun e w' => e = .returned (.bool true) ∧ ZZ w B hp mb B2 dp most v v2 (L.length + 1) w' := by
  obtain ⟨b0, K0, x0⟩ := bxW_below w 2 wh mo x la ln lc
  obtain ⟨W0, hW0⟩ : ∃ W0, W0 = bxW w 2 wh mo x la ln lc := ⟨_, rfl⟩
  rw [← hW0] at b0 K0 x0
  unfold bxW at hW0
  have d0 : Below w.heap.size w W0.drew := b0.drew
  have xd : BX w.heap.size x W0.drew := x0
  obtain ⟨f9, hs9⟩ := h.hs
  have hl1 := hs9.hl
  have hl2 : mb < w.heap.size := by obtain ⟨_, m, _⟩ := hs9.mp; exact m.lt
  have hl3 : ∀ g, v.ownBlock = some g → g < w.heap.size := fun g e => (World.ownsRow.lt hs9.row g e).2
  have hl4 := h.ds.hl
  have hl5 : ∀ g, v2.ownBlock = some g → g < w.heap.size := fun g e => (h.ds.row.bound e).2
  have h0 := h.below d0
  obtain ⟨f, hs⟩ := h0.hs
  have fr := hs.pl.fr x.2
  cases q : f x.2 with
  | some i =>
    rw [q] at fr
    exact call_turn (X := fun w1 => OP W0.drew B hp mb most v (mendL (ahd most) (L.set i (x.1, x.2)) i).1 ((mendL (ahd most) (L.set i (x.1, x.2)) i).2 : Nat) w1) (Y := fun w2 => ∃ w1, OP W0.drew B hp mb most v (mendL (ahd most) (L.set i (x.1, x.2)) i).1 ((mendL (ahd most) (L.set i (x.1, x.2)) i).2 : Nat) w1 ∧ DO w1 B2 dp most v2 (mendL (ahd most) (L.set i (x.1, x.2)) i).1 ((mendL (ahd most) (L.set i (x.1, x.2)) i).2 : Nat) w2)
      (by rw [← hW0]; exact (turn_ok hs x.2 hx x.1 i q (by omega)).mono fun e w1 hh => ⟨hh.1, xd.keep (hh.2.box K0 hl1 hl2 hl3 (Nat.le_refl _)), hh.2⟩)
      (fun w1 X1 => (dturn_ok (h0.step (w2 := w1) X1).1 x.2 x.1 i fr (by omega)).mono fun e w2 hh => ⟨hh.1, (xd.keep (X1.box K0 hl1 hl2 hl3 (Nat.le_refl _))).keep (hh.2.box2 (Nat.lt_of_lt_of_le K0 X1.fr.size) hl4 hl5 (Nat.le_refl _)), w1, X1, hh.2⟩)
      (fun w2 Y2 => by
        obtain ⟨w1, X1, D2⟩ := Y2
        have bx2 := (xd.keep (X1.box K0 hl1 hl2 hl3 (Nat.le_refl _))).keep (D2.box2 (Nat.lt_of_lt_of_le K0 X1.fr.size) hl4 hl5 (Nat.le_refl _))
        exact (same_none w2).mono fun e w3 hh => ⟨hh.1, bx2.below (Nat.lt_of_lt_of_le K0 (Nat.le_trans X1.fr.size D2.fr.size)) hh.2, ZZ.change h d0 X1 D2 hh.2 (by rw [mendL_len]; simp)⟩)
  | none =>
    rw [q] at fr
    exact call_turn (X := fun w1 => Below W0.heap.size W0 w1) (Y := fun w2 => Below W0.heap.size W0 w2)
      (by rw [← hW0]; exact (turn_none hs x.2 hx x.1 q).mono fun e w1 hh => ⟨hh.1, by rw [hh.2]; exact xd, by rw [hh.2]; exact (Below.refl _ W0).drew⟩)
      (fun w1 X1 => (dturn_none ((h.below b0).ds.below X1) x.2 x.1 fr (by omega)).mono fun e w2 hh => ⟨hh.1, x0.below K0 (below_trans X1 (below_less hh.2 X1.size)), below_trans X1 (below_less hh.2 X1.size)⟩)
      (fun w2 Y2 => (same_num 4 (by decide) w2 (ET_below hg (below_trans b0 (below_less Y2 b0.size)))).mono fun e w3 hh => ⟨hh.1, x0.below K0 (below_trans Y2 (below_less hh.2 Y2.size)), ZZ.same h (below_trans b0 (below_less (below_trans Y2 (below_less hh.2 Y2.size)) b0.size)) (by omega)⟩)
theorem call_take2 {w : World} {B hp mb B2 dp : Nat} {most : Bool} {v v2 : Value} {L : List Ent} {mv : Int} (h : LP w B hp mb B2 dp most v v2 L mv) (hg : ET w) (wh : Int) (mo : Bool) (x : Ent) (hx : x.2.size ≤ 9223372036854775807) (la : Option Addr) (ln lc : Nat) (hn : L.length + 1 ≤ 1099511627776) :
    Calls Tryz.prog 12 #[.pointer (some ⟨hp, 0, none⟩), .pointer (some ⟨dp, 0, none⟩), .agg #[.int .i64 1, .int .i64 wh, .bool mo, .int .i64 x.1, .string x.2, .slice la ln lc]] w fun e w' => e = .returned (.bool true) ∧ ZZ w B hp mb B2 dp most v v2 (L.length + 1) w' := by
  obtain ⟨b0, K0, x0⟩ := bxW_below w 1 wh mo x la ln lc
  obtain ⟨W0, hW0⟩ : ∃ W0, W0 = bxW w 1 wh mo x la ln lc := ⟨_, rfl⟩
  rw [← hW0] at b0 K0 x0
  unfold bxW at hW0
  have d0 : Below w.heap.size w W0.drew := b0.drew
  have xd : BX w.heap.size x W0.drew := x0
  obtain ⟨f9, hs9⟩ := h.hs
  have hl1 := hs9.hl
  have hl2 : mb < w.heap.size := by obtain ⟨_, m, _⟩ := hs9.mp; exact m.lt
  have hl3 : ∀ g, v.ownBlock = some g → g < w.heap.size := fun g e => (World.ownsRow.lt hs9.row g e).2
  have hl4 := h.ds.hl
  have hl5 : ∀ g, v2.ownBlock = some g → g < w.heap.size := fun g e => (h.ds.row.bound e).2
  have h0 := h.below b0
  obtain ⟨f, hs⟩ := h0.hs
  have fr := hs.pl.fr x.2
  cases q : f x.2 with
  | some i =>
    rw [q] at fr
    have hil : i < L.length := fr.1
    exact call_take (y := atE L i) (X := fun w1 => OP W0 B hp mb most v (takP most L i).1 ((takP most L i).2 : Nat) w1) (Y := fun w2 => ∃ w1 W, OP W0 B hp mb most v (takP most L i).1 ((takP most L i).2 : Nat) w1 ∧ W = w1.alloc (.cells #[.int .i64 (atE L i).1, .string (atE L i).2] 30) ∧ DO W B2 dp most v2 (takP most L i).1 ((takP most L i).2 : Nat) w2) (Or.inl rfl)
      (by rw [← hW0]; exact (take_x hs x.2 hx i q (by omega)).mono fun e w1 hh => ⟨hh.1, x0.keep (hh.2.box K0 hl1 hl2 hl3 (Nat.le_refl _)), hh.2⟩)
      (fun w1 X1 W hW => by
        have bw : Below w1.heap.size w1 W := by rw [hW]; exact (Below.refl _ w1).alloc (Nat.le_refl _) _
        have eb : EB W w1.heap.size (atE L i) := by rw [hW]; exact EB.new w1 _
        have b1 : BX w.heap.size x w1 := x0.keep (X1.box K0 hl1 hl2 hl3 (Nat.le_refl _))
        have K1 : w.heap.size < w1.heap.size := Nat.lt_of_lt_of_le K0 X1.fr.size
        refine ⟨b1.below K1 bw, (dtake_ok ((h0.step (w2 := w1) X1).1.below bw) x.2 i fr (by omega)).mono fun e w2 hh => ⟨hh.1, ?_, w1, W, X1, hW, hh.2⟩⟩
        have kk := hh.2.box2 (K := w1.heap.size) (N := w.heap.size) eb.hl hl4 hl5 (by omega)
        exact ⟨Nat.lt_of_lt_of_le eb.hl hh.2.fr.size, by rw [World.cell?_of_block (w := W) (a := ⟨w1.heap.size, 0, none⟩) kk]; exact eb.c0, by rw [World.cell?_of_block (w := W) (a := ⟨w1.heap.size, 1, none⟩) kk]; exact eb.c1⟩)
      (fun w2 Y2 W' hW' => by
        obtain ⟨w1, W, X1, hW, D2⟩ := Y2
        have bw : Below w1.heap.size w1 W := by rw [hW]; exact (Below.refl _ w1).alloc (Nat.le_refl _) _
        exact (same_none W').mono fun e w3 hh => ⟨hh.1, ZZ.change h b0 (X1.later bw) D2 (below_trans hW' (below_less hh.2 hW'.size)) (takP_len most L i (by omega))⟩)
  | none =>
    rw [q] at fr
    exact call_take (X := fun w1 => Below W0.heap.size W0 w1) (Y := fun w2 => Below W0.heap.size W0 w2) (Or.inr ⟨4, rfl⟩)
      (by rw [← hW0]; exact (take_none hs x.2 hx q).mono fun e w1 hh => ⟨hh.1, x0.below K0 hh.2, hh.2⟩)
      (fun w1 X1 W hW => by
        have bw : Below w1.heap.size w1 W := by rw [hW]; exact (Below.refl _ w1).alloc (Nat.le_refl _) _
        have eb : EB W w1.heap.size (0, ⟨#[]⟩) := by rw [hW]; exact EB.new w1 _
        have bb : Below W0.heap.size W0 W := below_trans X1 (below_less bw X1.size)
        exact ⟨x0.below K0 bb, (dtake_none (h0.ds.below bb) x.2 fr (by omega)).mono fun e w2 hh => ⟨hh.1, eb.below hh.2, below_trans bb (below_less hh.2 bb.size)⟩⟩)
      (fun w2 Y2 W hW => by
        have bb : Below W0.heap.size W0 W := below_trans Y2 (below_less hW Y2.size)
        exact (same_num 4 (by decide) W (ET_below hg (below_trans b0 (below_less bb b0.size)))).mono fun e w3 hh => ⟨hh.1, ZZ.same h (below_trans b0 (below_less (below_trans bb (below_less hh.2 bb.size)) b0.size)) (by omega)⟩)
theorem call_pop2 {w : World} {B hp mb B2 dp : Nat} {most : Bool} {v v2 : Value} {L : List Ent} {mv : Int} (h : LP w B hp mb B2 dp most v v2 L mv) (hg : ET w) (wh : Int) (mo : Bool) (x : Ent) (hx : x.2.size ≤ 9223372036854775807) (la : Option Addr) (ln lc : Nat) (hn : L.length + 1 ≤ 1099511627776) :
    Calls Tryz.prog 12 #[.pointer (some ⟨hp, 0, none⟩), .pointer (some ⟨dp, 0, none⟩), .agg #[.int .i64 3, .int .i64 wh, .bool mo, .int .i64 x.1, .string x.2, .slice la ln lc]] w fun e w' => e = .returned (.bool true) ∧ ZZ w B hp mb B2 dp most v v2 (L.length + 1) w' := by
  obtain ⟨b0, K0, x0⟩ := bxW_below w 3 wh mo x la ln lc
  obtain ⟨W0, hW0⟩ : ∃ W0, W0 = bxW w 3 wh mo x la ln lc := ⟨_, rfl⟩
  rw [← hW0] at b0 K0 x0
  unfold bxW at hW0
  have d0 : Below w.heap.size w W0.drew := b0.drew
  have xd : BX w.heap.size x W0.drew := x0
  obtain ⟨f9, hs9⟩ := h.hs
  have hl1 := hs9.hl
  have hl2 : mb < w.heap.size := by obtain ⟨_, m, _⟩ := hs9.mp; exact m.lt
  have hl3 : ∀ g, v.ownBlock = some g → g < w.heap.size := fun g e => (World.ownsRow.lt hs9.row g e).2
  have hl4 := h.ds.hl
  have hl5 : ∀ g, v2.ownBlock = some g → g < w.heap.size := fun g e => (h.ds.row.bound e).2
  have h0 := h.below b0
  obtain ⟨f, hs⟩ := h0.hs
  rcases Nat.eq_zero_or_pos L.length with q | q
  · have e := List.eq_nil_of_length_eq_zero q
    subst e
    exact call_pop (X := fun w1 => Below W0.heap.size W0 w1) (Y := fun w2 => Below W0.heap.size W0 w2) (Or.inr ⟨4, rfl⟩)
      (by rw [← hW0]; exact (hpop_none hs).mono fun e w1 hh => ⟨hh.1, x0.below K0 hh.2, hh.2⟩)
      (fun w1 X1 W hW => by
        have bw : Below w1.heap.size w1 W := by rw [hW]; exact (Below.refl _ w1).alloc (Nat.le_refl _) _
        have eb : EB W w1.heap.size (0, ⟨#[]⟩) := by rw [hW]; exact EB.new w1 _
        have bb : Below W0.heap.size W0 W := below_trans X1 (below_less bw X1.size)
        exact ⟨x0.below K0 bb, (dpop_none (h0.ds.below bb)).mono fun e w2 hh => ⟨hh.1, eb.below hh.2, below_trans bb (below_less hh.2 bb.size)⟩⟩)
      (fun w2 Y2 W hW => by
        have bb : Below W0.heap.size W0 W := below_trans Y2 (below_less hW Y2.size)
        exact (same_num 4 (by decide) W (ET_below hg (below_trans b0 (below_less bb b0.size)))).mono fun e w3 hh => ⟨hh.1, ZZ.same h (below_trans b0 (below_less (below_trans bb (below_less hh.2 bb.size)) b0.size)) (by simp)⟩)
  · have hil : 0 < L.length := q
    exact call_pop (y := atE L 0) (X := fun w1 => OP W0 B hp mb most v (takP most L 0).1 ((takP most L 0).2 : Nat) w1) (Y := fun w2 => ∃ w1 W, OP W0 B hp mb most v (takP most L 0).1 ((takP most L 0).2 : Nat) w1 ∧ W = w1.alloc (.cells #[.int .i64 (atE L 0).1, .string (atE L 0).2] 30) ∧ DO W B2 dp most v2 (takP most L 0).1 ((takP most L 0).2 : Nat) w2) (Or.inl rfl)
      (by rw [← hW0]; exact (pop_x hs q (by omega)).mono fun e w1 hh => ⟨hh.1, x0.keep (hh.2.box K0 hl1 hl2 hl3 (Nat.le_refl _)), hh.2⟩)
      (fun w1 X1 W hW => by
        have bw : Below w1.heap.size w1 W := by rw [hW]; exact (Below.refl _ w1).alloc (Nat.le_refl _) _
        have eb : EB W w1.heap.size (atE L 0) := by rw [hW]; exact EB.new w1 _
        have b1 : BX w.heap.size x w1 := x0.keep (X1.box K0 hl1 hl2 hl3 (Nat.le_refl _))
        have K1 : w.heap.size < w1.heap.size := Nat.lt_of_lt_of_le K0 X1.fr.size
        refine ⟨b1.below K1 bw, (dpop_ok ((h0.step (w2 := w1) X1).1.below bw) q (by omega)).mono fun e w2 hh => ⟨hh.1, ?_, w1, W, X1, hW, hh.2⟩⟩
        have kk := hh.2.box2 (K := w1.heap.size) (N := w.heap.size) eb.hl hl4 hl5 (by omega)
        exact ⟨Nat.lt_of_lt_of_le eb.hl hh.2.fr.size, by rw [World.cell?_of_block (w := W) (a := ⟨w1.heap.size, 0, none⟩) kk]; exact eb.c0, by rw [World.cell?_of_block (w := W) (a := ⟨w1.heap.size, 1, none⟩) kk]; exact eb.c1⟩)
      (fun w2 Y2 W' hW' => by
        obtain ⟨w1, W, X1, hW, D2⟩ := Y2
        have bw : Below w1.heap.size w1 W := by rw [hW]; exact (Below.refl _ w1).alloc (Nat.le_refl _) _
        exact (same_none W').mono fun e w3 hh => ⟨hh.1, ZZ.change h b0 (X1.later bw) D2 (below_trans hW' (below_less hh.2 hW'.size)) (takP_len most L 0 (by omega))⟩)
theorem call_else2 {w : World} {B hp mb B2 dp : Nat} {most : Bool} {v v2 : Value} {L : List Ent} {mv : Int} (h : LP w B hp mb B2 dp most v v2 L mv) (k wh : Int) (hk : k ≠ 0 ∧ k ≠ 1 ∧ k ≠ 2 ∧ k ≠ 3) (mo : Bool) (x : Ent) (hx : x.2.size ≤ 9223372036854775807) (la : Option Addr) (ln lc : Nat) (hn : L.length + 1 ≤ 1099511627776) :
    Calls Tryz.prog 12 #[.pointer (some ⟨hp, 0, none⟩), .pointer (some ⟨dp, 0, none⟩), .agg #[.int .i64 k, .int .i64 wh, .bool mo, .int .i64 x.1, .string x.2, .slice la ln lc]] w fun e w' => e = .returned (.bool true) ∧ ZZ w B hp mb B2 dp most v v2 (L.length + 1) w' := by
  obtain ⟨b0, K0, x0⟩ := bxW_below w k wh mo x la ln lc
  unfold bxW at b0
  have h0 := h.below b0
  obtain ⟨f, hs⟩ := h0.hs
  exact call_else hk ((alike_two hs h0.ds x.2 hx (by omega)).mono fun e w1 hh => ⟨hh.1, ZZ.same h (below_trans b0 (below_less hh.2 b0.size)) (by omega)⟩)
end Go.Proofs.YtboacnpbicedfaaGreatDoor.Hp

namespace Go.Proofs.YtboacnpbicedfaaGreatDoor.Hp
open Go.RowKit Go.Maps
set_option linter.unusedVariables false
set_option linter.unusedSimpArgs false
set_option maxRecDepth 100000
/-- a pair that is not nil. -/
structure PD where
  hp : Nat
  mb : Nat
  dp : Nat
  B : Nat
  B2 : Nat
  most : Bool
  v : Value
  v2 : Value
  L : List Ent
  mv : Int
/-- its blocks. -/
def PD.has (p : PD) (k : Nat) : Prop := k = p.hp ∨ k = p.mb ∨ k = p.dp ∨ p.v.ownBlock = some k ∨ p.v2.ownBlock = some k
def PD.ok (p : PD) (w : World) : Prop := LP w p.B p.hp p.mb p.B2 p.dp p.most p.v p.v2 p.L p.mv
theorem LP.kept {w w' : World} {B hp mb B2 dp : Nat} {most : Bool} {v v2 : Value} {L : List Ent} {mv : Int} (h : LP w B hp mb B2 dp most v v2 L mv) (sz : w.heap.size ≤ w'.heap.size) (hk : ∀ k, (k = hp ∨ k = mb ∨ k = dp ∨ v.ownBlock = some k ∨ v2.ownBlock = some k) → w'.heap[k]? = w.heap[k]?) : LP w' B hp mb B2 dp most v v2 L mv := by
  obtain ⟨f, hs⟩ := h.hs
  exact ⟨⟨f, hs.kept sz (hk hp (Or.inl rfl)) (hk mb (Or.inr (Or.inl rfl))) (fun g e => hk g (Or.inr (Or.inr (Or.inr (Or.inl e)))))⟩, h.ds.kept sz (hk dp (Or.inr (Or.inr (Or.inl rfl)))) (fun g e => hk g (Or.inr (Or.inr (Or.inr (Or.inr e))))), Nat.le_trans h.bs sz, h.s1, h.s2⟩
theorem PD.ok.lt {p : PD} {w : World} (h : p.ok w) {k : Nat} (hk : p.has k) : k < w.heap.size := by
  have h' : LP w p.B p.hp p.mb p.B2 p.dp p.most p.v p.v2 p.L p.mv := h
  obtain ⟨f, hs⟩ := h'.hs
  rcases hk with e | e | e | e | e
  · rw [e]; exact hs.hl
  · rw [e]; obtain ⟨_, m, _⟩ := hs.mp; exact m.lt
  · rw [e]; exact h'.ds.hl
  · exact (World.ownsRow.lt hs.row k e).2
  · exact (h'.ds.row.bound e).2
/-- pairs, each apart from the others. -/
structure RP (w : World) (N n : Nat) (ps : List (Option PD)) : Prop where
  lp : ∀ (i : Nat) (p : PD), ps[i]? = some (some p) → p.ok w ∧ (∀ k, p.has k → N ≤ k) ∧ p.L.length ≤ n
  ap : ∀ (i j : Nat) (p q : PD), ps[i]? = some (some p) → ps[j]? = some (some q) → i ≠ j → ∀ k, p.has k → ¬ q.has k
theorem RP.kept {w w' : World} {N n m : Nat} {ps : List (Option PD)} (h : RP w N n ps) (sz : w.heap.size ≤ w'.heap.size) (hk : ∀ (i : Nat) (p : PD) (k : Nat), ps[i]? = some (some p) → p.has k → w'.heap[k]? = w.heap[k]?) (hm : n ≤ m) : RP w' N m ps :=
  ⟨fun i p hi => ⟨LP.kept (h.lp i p hi).1 sz (fun k e => hk i p k hi e), (h.lp i p hi).2.1, Nat.le_trans (h.lp i p hi).2.2 hm⟩, h.ap⟩
theorem RP.below {w w' : World} {N n m : Nat} {ps : List (Option PD)} (h : RP w N n ps) (hb : Below w.heap.size w w') (hm : n ≤ m) : RP w' N m ps :=
  h.kept hb.size (fun i p k hi e => hb.block k ((h.lp i p hi).1.lt e)) hm
/-- one pair more, out of blocks that were not there. -/
theorem RP.push {w w' : World} {N n : Nat} {ps : List (Option PD)} (h : RP w N n ps) (hb : Below w.heap.size w w') (hN : N ≤ w.heap.size) (o : Option PD) (ho : ∀ (p : PD), o = some p → p.ok w' ∧ (∀ k, p.has k → w.heap.size ≤ k) ∧ p.L.length ≤ n) : RP w' N n (ps ++ [o]) := by
  have h' := h.below hb (Nat.le_refl n)
  have look : ∀ (i : Nat) (p : PD), (ps ++ [o])[i]? = some (some p) → (i < ps.length ∧ ps[i]? = some (some p)) ∨ (i = ps.length ∧ o = some p) := fun i p hi => by
    rcases Nat.lt_trichotomy i ps.length with c | c | c
    · rw [List.getElem?_append_left c] at hi; exact Or.inl ⟨c, hi⟩
    · refine Or.inr ⟨c, ?_⟩
      rw [c, List.getElem?_append_right (Nat.le_refl _), Nat.sub_self] at hi
      simpa using hi
    · rw [List.getElem?_eq_none (by simp; omega)] at hi; cases hi
  refine ⟨fun i p hi => ?_, fun i j p q hi hj hne k hp hq => ?_⟩
  · rcases look i p hi with ⟨_, e⟩ | ⟨_, e⟩
    · exact h'.lp i p e
    · exact ⟨(ho p e).1, fun k hk => Nat.le_trans hN ((ho p e).2.1 k hk), (ho p e).2.2⟩
  · rcases look i p hi with ⟨_, e⟩ | ⟨c, e⟩ <;> rcases look j q hj with ⟨_, e2⟩ | ⟨c2, e2⟩
    · exact h.ap i j p q e e2 hne k hp hq
    · have := (h.lp i p e).1.lt hp
      have := (ho q e2).2.1 k hq
      omega
    · have := (h.lp j q e2).1.lt hq
      have := (ho p e).2.1 k hp
      omega
    · omega
/-- a call at one pair. -/
theorem RP.step {w w' : World} {N n m : Nat} {ps : List (Option PD)} {i : Nat} {p : PD} (h : RP w N n ps) (hi : ps[i]? = some (some p)) (hN : N ≤ w.heap.size) (hm : n + 1 ≤ m) (z : ZZ w p.B p.hp p.mb p.B2 p.dp p.most p.v p.v2 (p.L.length + 1) w') :
    ∃ p', RP w' N m (ps.set i (some p')) ∧ p'.hp = p.hp ∧ p'.dp = p.dp ∧ w.heap.size ≤ w'.heap.size ∧ (∀ k, k < w.heap.size → ¬ p.has k → w'.heap[k]? = w.heap[k]?) ∧ (∀ k, p'.has k → p.has k ∨ w.heap.size ≤ k) ∧ w'.os = w.os ∧ w'.tape = w.tape ∧ w'.output = w.output := by
  obtain ⟨v', v2', L', mv', l', lf, e1, e2, hl⟩ := z
  have il : i < ps.length := (List.getElem?_eq_some_iff.1 hi).1
  obtain ⟨p', hp'⟩ : ∃ p' : PD, p' = ⟨p.hp, p.mb, p.dp, p.B, p.B2, p.most, v', v2', L', mv'⟩ := ⟨_, rfl⟩
  have KP : ∀ k, k < w.heap.size → ¬ p.has k → w'.heap[k]? = w.heap[k]? := fun k hk hn => lf.keep k hk (fun c => hn (Or.inl c)) (fun c => hn (Or.inr (Or.inl c))) (fun c => hn (Or.inr (Or.inr (Or.inl c)))) (fun c => hn (Or.inr (Or.inr (Or.inr (Or.inl c.symm))))) (fun c => hn (Or.inr (Or.inr (Or.inr (Or.inr c.symm)))))
  have HB : ∀ k, p'.has k → p.has k ∨ w.heap.size ≤ k := fun k hk => by
    rw [hp'] at hk
    rcases hk with e | e | e | e | e
    · exact Or.inl (Or.inl e)
    · exact Or.inl (Or.inr (Or.inl e))
    · exact Or.inl (Or.inr (Or.inr (Or.inl e)))
    · exact (e1 k e).imp (fun c => Or.inr (Or.inr (Or.inr (Or.inl c)))) id
    · exact (e2 k e).imp (fun c => Or.inr (Or.inr (Or.inr (Or.inr c)))) id
  have look : ∀ (j : Nat) (q : PD), (ps.set i (some p'))[j]? = some (some q) → (j = i ∧ q = p') ∨ (j ≠ i ∧ ps[j]? = some (some q)) := fun j q hj => by
    rw [List.getElem?_set] at hj
    split at hj
    · rename_i c

      injection hj with hj; injection hj with hj
      exact Or.inl ⟨c.symm, hj.symm⟩
    · rename_i c
      exact Or.inr ⟨fun e => c e.symm, hj⟩
  refine ⟨p', ⟨fun j q hj => ?_, fun j l q r hj hl' hne k hq hr => ?_⟩, by rw [hp'], by rw [hp'], lf.size, KP, HB, lf.same.1, lf.same.2.1, lf.same.2.2⟩
  · rcases look j q hj with ⟨_, e⟩ | ⟨c, e⟩
    · subst e
      refine ⟨by rw [hp']; exact l', fun k hk => ?_, ?_⟩
      · rcases HB k hk with c | c
        · exact (h.lp i p hi).2.1 k c
        · omega
      · have := (h.lp i p hi).2.2
        rw [hp']; show L'.length ≤ m; omega
    · have a := h.lp j q e
      exact ⟨LP.kept a.1 lf.size (fun k hk => KP k (a.1.lt hk) (fun c2 => h.ap i j p q hi e (fun c3 => c c3.symm) k c2 hk)), a.2.1, by omega⟩
  · rcases look j q hj with ⟨c, e⟩ | ⟨c, e⟩ <;> rcases look l r hl' with ⟨c2, e2'⟩ | ⟨c2, e2'⟩
    · omega
    · subst e
      rcases HB k hq with d | d
      · exact h.ap i l p r hi e2' (fun c3 => c2 c3.symm) k d hr
      · have := (h.lp l r e2').1.lt hr; omega
    · subst e2'
      rcases HB k hr with d | d
      · exact h.ap i j p q hi e (fun c3 => c c3.symm) k d hq
      · have := (h.lp j q e).1.lt hq; omega
    · exact h.ap j l q r e e2' hne k hq hr
/-- a row's cells. -/
def hP : Option PD → Value
  | none => .pointer none
  | some p => .pointer (some ⟨p.hp, 0, none⟩)
def dP : Option PD → Value
  | none => .pointer none
  | some p => .pointer (some ⟨p.dp, 0, none⟩)
theorem map_set_same {α β : Type} (f : α → β) (l : List α) (i : Nat) (x y : α) (hi : l[i]? = some y) (hf : f x = f y) : (l.set i x).map f = l.map f := by
  apply List.ext_getElem?
  intro j
  rw [List.getElem?_map, List.getElem?_map, List.getElem?_set]
  split
  · rename_i c
    subst c
    rw [hi, if_pos (List.getElem?_eq_some_iff.1 hi).1]
    simp [hf]
  · rfl
end Go.Proofs.YtboacnpbicedfaaGreatDoor.Hp
