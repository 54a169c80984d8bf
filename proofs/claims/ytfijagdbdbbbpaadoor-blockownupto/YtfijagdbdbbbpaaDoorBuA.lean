
import Derived.Test.YtfijagdbdbbbpaaDoorProg
import Derived.WalkKit
import Derived.Laws.BitsAllLaws
import Derived.LoopTactic
import Derived.Below
import Derived.Laws.OwnMore
import Derived.Deep.AppendLies
import Derived.OwnWalk
import Derived.Deep.RegionHeld3
namespace Go.Proofs.YtfijagdbdbbbpaaDoor
/-! ### the sum's steps -/
def stepN (c : Nat) : Nat := if c % 2 = 1 then c / 2 ^^^ 3988292384 else c / 2
def tabN (i : Nat) : Nat := [0, 498536548, 997073096, 651767980, 1994146192, 1802195444, 1303535960, 1342533948, 3988292384, 4027552580, 3604390888, 3412177804, 2607071920, 2262029012, 2685067896, 3183342108].getD i 0
theorem step_xor (a b : Nat) : stepN (a ^^^ b) = stepN a ^^^ stepN b := by
  have h1 : (a ^^^ b) / 2 = a / 2 ^^^ b / 2 := Nat.xor_div_two
  have h2 : (a ^^^ b) % 2 = (a + b) % 2 := by
    have t : (a ^^^ b).testBit 0 = (a.testBit 0 ^^ b.testBit 0) := Nat.testBit_xor ..
    rw [Nat.testBit_zero, Nat.testBit_zero, Nat.testBit_zero] at t
    rcases Nat.mod_two_eq_zero_or_one a with ha | ha <;> rcases Nat.mod_two_eq_zero_or_one b with hb | hb <;> rcases Nat.mod_two_eq_zero_or_one (a ^^^ b) with hc | hc <;> rw [ha, hb, hc] at t <;> first | (exfalso; revert t; decide) | omega
  unfold stepN
  rw [h1, h2]
  rcases Nat.mod_two_eq_zero_or_one a with ha | ha <;> rcases Nat.mod_two_eq_zero_or_one b with hb | hb
  · rw [if_neg (by omega), if_neg (by omega), if_neg (by omega)]
  · rw [if_pos (by omega), if_neg (by omega), if_pos hb, Nat.xor_assoc]
  · rw [if_pos (by omega), if_pos ha, if_neg (by omega), Nat.xor_assoc, Nat.xor_assoc, Nat.xor_comm (b / 2)]
  · rw [if_neg (by omega), if_pos ha, if_pos hb, Nat.xor_assoc, ← Nat.xor_assoc 3988292384, Nat.xor_comm 3988292384, Nat.xor_assoc (b/2), Nat.xor_self, Nat.xor_zero]
def step4 (c : Nat) : Nat := stepN (stepN (stepN (stepN c)))
theorem step4_xor (a b : Nat) : step4 (a ^^^ b) = step4 a ^^^ step4 b := by
  unfold step4; rw [step_xor, step_xor, step_xor, step_xor]
theorem step_even (h : Nat) : stepN (2 * h) = h := by unfold stepN; rw [if_neg (by omega)]; omega
theorem step4_high (h : Nat) : step4 (16 * h) = h := by
  unfold step4
  rw [show 16 * h = 2 * (2 * (2 * (2 * h))) by omega, step_even, step_even, step_even, step_even]
theorem step4_low : ∀ l, l < 16 → step4 l = tabN l := by decide
theorem split16 (c : Nat) : c = 16 * (c / 16) ^^^ c % 16 := by
  apply Nat.eq_of_testBit_eq
  intro i
  rw [Nat.testBit_xor, show (16 : Nat) = 2 ^ 4 from rfl, Nat.testBit_mod_two_pow, Nat.mul_comm, Nat.testBit_mul_two_pow]
  by_cases h : i < 4
  · have h' : ¬ 4 ≤ i := by omega
    simp [h, h']
  · have h' : 4 ≤ i := by omega
    rw [Nat.testBit_div_two_pow]
    simp [h, h', Nat.sub_add_cancel h']
theorem four_steps (c : Nat) : c / 16 ^^^ tabN (c % 16) = step4 c := by
  conv => rhs; rw [split16 c]
  rw [step4_xor, step4_high, step4_low _ (by omega)]
theorem tabN_lt (i : Nat) (h : i < 16) : tabN i < 4294967296 := by
  have : ∀ i, i < 16 → tabN i < 4294967296 := by decide
  exact this i h
theorem step_lt (c : Nat) (h : c < 4294967296) : stepN c < 4294967296 := by
  unfold stepN; split
  · exact Nat.xor_lt_two_pow (n := 32) (by omega) (by omega)
  · omega
def step8 (c : Nat) : Nat := step4 (step4 c)
def crcN : List Nat → Nat → Nat
  | [], c => c
  | x :: l, c => crcN l (step8 (c ^^^ x))
set_option maxRecDepth 10000 in
theorem crc_known : crcN [49, 50, 51, 52, 53, 54, 55, 56, 57] 4294967295 ^^^ 4294967295 = 3421780262 := by decide +kernel
end Go.Proofs.YtfijagdbdbbbpaaDoor

namespace Go.Proofs.YtfijagdbdbbbpaaDoor
open Go.RowKit
set_option linter.unusedVariables false
set_option linter.unusedSimpArgs false
/-- bytes that lie in a row. -/
def BytesAt (w : World) (b off len : Nat) (bs : Nat → Nat) : Prop := ∀ i, i < len → w.cell? ⟨b, off + i, none⟩ = some (.int .u8 (bs i)) ∧ bs i < 256
def crcTo (bs : Nat → Nat) : Nat → Nat
  | 0 => 4294967295
  | k + 1 => step8 (crcTo bs k ^^^ bs k)
theorem step4_lt (c : Nat) (h : c < 4294967296) : step4 c < 4294967296 := by
  unfold step4; exact step_lt _ (step_lt _ (step_lt _ (step_lt _ h)))
theorem xor_lt32 (a b : Nat) (ha : a < 4294967296) (hb : b < 4294967296) : a ^^^ b < 4294967296 := Nat.xor_lt_two_pow (n := 32) ha hb
theorem and15 (c : Nat) (h : c < 4294967296) : bits .and .u32 (c : Int) 15 = ((c % 16 : Nat) : Int) := by
  have := u32_and_nat c 15 h (by omega)
  rw [Nat.and_two_pow_sub_one_eq_mod c 4] at this
  exact this
theorem four_xor (c : Nat) (h : c < 4294967296) : bits .xor .u32 ((c : Int) / 16) ((tabN (c % 16) : Nat) : Int) = ((step4 c : Nat) : Int) := by
  have := u32_xor_nat (c / 16) (tabN (c % 16)) (by omega) (tabN_lt _ (by omega))
  rw [four_steps] at this
  exact this
theorem mod2 (c : Nat) : ((c : Int) % 2 == 1) = decide (c % 2 = 1) := by
  rcases Nat.mod_two_eq_zero_or_one c with h | h
  · have : (c : Int) % 2 = 0 := by omega
    rw [this, h]; rfl
  · have : (c : Int) % 2 = 1 := by omega
    rw [this, h]; rfl
def stepTo (c : Nat) : Nat → Nat
  | 0 => c
  | k + 1 => stepN (stepTo c k)
theorem stepTo_lt (c : Nat) (h : c < 4294967296) (k : Nat) : stepTo c k < 4294967296 := by
  induction k with
  | zero => exact h
  | succ k ih => exact step_lt _ ih
theorem stepTo_8 (c : Nat) : stepTo c 8 = step8 c := rfl
end Go.Proofs.YtfijagdbdbbbpaaDoor

namespace Go.Proofs.YtfijagdbdbbbpaaDoor
open Go.RowKit
set_option linter.unusedVariables false
set_option linter.unusedSimpArgs false
theorem below_new {w w' : World} (h : Below w.heap.size w w') (o : Obj) : Below w.heap.size w (w'.alloc o) := h.alloc h.size o
theorem below_then {w W w1 : World} (h : Below w.heap.size w W) (hb : Below W.heap.size W w1) : Below w.heap.size w w1 := h.trans (hb.mono h.size)
theorem byte_info : (Tryd.prog.info? 5).map (fun i => (i.zero, i.bytes, i.size)) = some (some (.int .u8 0), 1, 1) := by kernel_rfl
/-- a Writer at block N: its slice v holds xs, n of them; fr bits are free. -/
structure WS (N : Nat) (w1 : World) (fr : Int) (v : Value) (n : Nat) (xs : List Value) (wx : World) : Prop where
  c0 : wx.cell? ⟨N, 0, none⟩ = some v
  c1 : wx.cell? ⟨N, 1, none⟩ = some (.int .i64 fr)
  f0 : wx.frozen? ⟨N, 0, none⟩ = false
  f1 : wx.frozen? ⟨N, 1, none⟩ = false
  own : wx.ownsRow (N + 1) 5 1 v n xs
  b : Below N w1 wx
  sz : N < wx.heap.size
theorem WS.alloc {N : Nat} {w1 wx : World} {fr : Int} {v : Value} {n : Nat} {xs : List Value} (h : WS N w1 fr v n xs wx) (o : Obj) : WS N w1 fr v n xs (wx.alloc o) := by
  obtain ⟨c0, c1, f0, f1, own, b, sz⟩ := h
  refine ⟨?_, ?_, ?_, ?_, own.alloc o, b.alloc (by omega) o, by simp; omega⟩
  · rw [World.cell?_alloc_lt _ _ ⟨N, 0, none⟩ sz]; exact c0
  · rw [World.cell?_alloc_lt _ _ ⟨N, 1, none⟩ sz]; exact c1
  · rw [World.frozen?_alloc_old _ _ ⟨N, 0, none⟩ (by simp; omega)]; exact f0
  · rw [World.frozen?_alloc_old _ _ ⟨N, 1, none⟩ (by simp; omega)]; exact f1
theorem WS.drew {N : Nat} {w1 wx : World} {fr : Int} {v : Value} {n : Nat} {xs : List Value} (h : WS N w1 fr v n xs wx) : WS N w1 fr v n xs wx.drew :=
  ⟨h.c0, h.c1, h.f0, h.f1, h.own.drew, h.b.drew, h.sz⟩
/-- its slice set anew, and the free bits. -/
theorem WS.put {N : Nat} {w1 wx : World} {fr : Int} {v : Value} (c0 : wx.cell? ⟨N, 0, none⟩ = some v) (c1 : wx.cell? ⟨N, 1, none⟩ = some (.int .i64 fr)) (f0 : wx.frozen? ⟨N, 0, none⟩ = false) (f1 : wx.frozen? ⟨N, 1, none⟩ = false)
    (b : Below N w1 wx) (sz : N < wx.heap.size) {v' : Value} {n : Nat} {xs : List Value} (own : wx.ownsRow (N + 1) 5 1 v' n xs) (fr' : Int) :
    WS N w1 fr' v' n xs ((wx.setCell ⟨N, 0, none⟩ v').setCell ⟨N, 1, none⟩ (.int .i64 fr')) := by
  have k : ∀ (x : World) (p : Addr) (u : Value), p.block = N → x.ownsRow (N + 1) 5 1 v' n xs → (x.setCell p u).ownsRow (N + 1) 5 1 v' n xs := by
    rintro x p u hp ⟨h1, h2⟩
    refine ⟨h1, ?_⟩
    rcases h2 with h2 | ⟨g, cap, cur, e1, e2, e3, e4⟩
    · exact Or.inl h2
    · exact Or.inr ⟨g, cap, cur, e1, e2, by rw [Below.heap_setCell _ _ _ _ (by omega)]; exact e3, e4⟩
  refine ⟨?_, ?_, by simpa using f0, by simpa using f1, k _ _ _ rfl (k _ _ _ rfl own), (b.setCell (p := ⟨N, 0, none⟩) (Nat.le_refl _) _).setCell (p := ⟨N, 1, none⟩) (Nat.le_refl _) _, by simpa using sz⟩
  · rw [World.cell?_setCell_other _ _ _ _ (by simp)]; exact World.cell?_setCell_same _ _ _ c0
  · exact World.cell?_setCell_same _ _ _ (u := .int .i64 fr) (by rw [World.cell?_setCell_other _ _ _ _ (by simp)]; exact c1)
set_option maxRecDepth 100000 in
theorem whole_any (N : Nat) (w1 : World) (fr : Int) (v : Value) (n : Nat) (xs : List Value) (w : World) (h : WS N w1 fr v n xs w) (g0 m c : Nat) (news : List Value) (hl : news.length = m)
    (hnews : ∀ j u, news[j]? = some u → w.cell? ((⟨g0, 0, none⟩ : Addr).add j) = some u) (h1 : ∀ u ∈ news, u.oneCell' = true) (hm : 0 < m) (hb : n + m ≤ 140737488355328) :
    Calls Tryd.prog 66 #[.pointer (some ⟨N, 0, none⟩), .slice (some ⟨g0, 0, none⟩) m c] w fun e w' => e = .returned undef ∧ ∃ v', WS N w1 0 v' (n + m) (xs ++ news) w' := by
  obtain ⟨i, i1, i0⟩ := Option.map_eq_some_iff.1 byte_info
  have i2 : i.zero = some (.int .u8 0) := congrArg (·.1) i0
  have i3 : i.bytes = 1 := congrArg (·.2.1) i0
  have i4 : i.size = 1 := congrArg (·.2.2) i0
  have hs := h.sz
  have c0 := h.c0
  have hml : maxLen = 9223372036854775807 := by decide
  clear i0
  go_enter Tryd.func66, Tryd.ntmps66
  go_wp2_with (at_builtin; refine wpList_append_lies _ (by rfl) _ _ _ (by rfl) (N + 1) 5 i (.int .u8 0) 1 1 Tryd.underlying60 i1 i2 i4 i3 rfl (by omega) v n xs (by rfl) h.own ⟨g0, 0, none⟩ m c news (by rfl) (by rw [hl, Nat.mul_one]) hnews h1 hm (by omega) (by omega) (by omega) _ rfl ?_)
  intro g cap w2 hown hgrow hat hlt
  have hne : some N ≠ v.ownBlock := fun e => by have := h.own.lt N e.symm; omega
  have c0' := (hgrow.cell_far ⟨N, 0, none⟩ hs hne).trans h.c0
  have c1' := (hgrow.cell_far ⟨N, 1, none⟩ hs hne).trans h.c1
  have f0' := (hgrow.frozen_far ⟨N, 0, none⟩ hs hne).trans h.f0
  have f1' := (hgrow.frozen_far ⟨N, 1, none⟩ hs hne).trans h.f1
  have hb' := h.b.grown hgrow (by omega) (fun k e => by have := h.own.lt k e; omega)
  have hz' := hgrow.size
  have hW := WS.put c0' c1' f0' f1' hb' (by omega) hown 0
  clear c0 hat hgrow hnews h1
  go_wp2_with fail
  first | go_end0 | (simp only [Exit.inBlock, Exit.then]; refine bodyPost_ret (results_none rfl _ _ _) rfl ?_) | refine bodyPost_ret (results_none rfl _ _ _) rfl ?_
  exact ⟨rfl, _, hW⟩
end Go.Proofs.YtfijagdbdbbbpaaDoor

namespace Go.Proofs.YtfijagdbdbbbpaaDoor
open Go.RowKit
set_option linter.unusedVariables false
set_option linter.unusedSimpArgs false
/-! ### a number without sign, as bytes -/
def enc (l : List Nat) : List Value := l.map fun (b : Nat) => Value.int .u8 (b : Int)
def uBf : Nat → Nat → List Nat
  | 0, v => [v]
  | f + 1, v => if v < 128 then [v] else (v % 128 + 128) :: uBf f (v / 128)
/-- the bytes of v, below 2^64. -/
def uB (v : Nat) : List Nat := uBf 10 v
theorem uBf_len (f v : Nat) : (uBf f v).length ≤ f + 1 := by
  induction f generalizing v with
  | zero => simp [uBf]
  | succ f ih => unfold uBf; split <;> simp; exact ih _
theorem or128 (a : Nat) (h : a < 256) : bits .or .u8 (a : Int) 128 = ((a % 128 + 128 : Nat) : Int) := by
  have h1 := u8_or_nat a 128 h (by omega)
  have h2 : ∀ a, a < 256 → a ||| 128 = a % 128 + 128 := by decide +kernel
  rw [h2 a h] at h1
  exact h1
set_option maxRecDepth 100000 in
set_option maxHeartbeats 4000000 in
theorem uint_any (N : Nat) (w1 : World) (fr : Int) (v : Value) (n : Nat) (xs : List Value) (w : World) (h : WS N w1 fr v n xs w) (k : Nat) (hk : k < 18446744073709551616) (hb : n + 20 ≤ 140737488355328) :
    Calls Tryd.prog 16 #[.pointer (some ⟨N, 0, none⟩), .int .u64 (k : Int)] w fun e w' => e = .returned undef ∧ ∃ v' n', WS N w1 0 v' n' (xs ++ enc (uB k)) w' := by
  go_enter Tryd.func16, Tryd.ntmps16
  go_wp2_with fail
  go_loopw [1] (fun c wr => ∃ (cur f : Nat) (fr' : Int) (v' : Value) (n' : Nat) (ys : List Value), c = .int .u64 (cur : Int) ∧ cur < 128 ^ f ∧ f ≤ 10 ∧ n' + f ≤ n + 10 ∧ cur < 18446744073709551616 ∧ WS N w1 fr' v' n' ys wr ∧ ys ++ enc (uBf f cur) = xs ++ enc (uB k)) (fun c _ => (intOf c).toNat)
  case atStart => exact ⟨k, 10, fr, v, n, xs, rfl, by omega, by omega, by omega, hk, h, rfl⟩
  case round =>
    obtain ⟨cur, f, fr', v', n', ys, rfl, hf, hf10, hn, hc, hW, hys⟩ := hrel
    have hs := hW.sz
    by_cases hlt : cur < 128
    · have hltI : ¬ (128 : Int) ≤ (cur : Int) := by omega
      have e8 : (cur : Int) % 256 = (cur : Int) := by omega
      have hu : uBf f cur = [cur] := by cases f <;> simp [uBf, hlt]
      rw [hu] at hys
      go_wp2_with fail
      refine (whole_any N w1 fr' v' n' ys _ (hW.alloc _) wr.heap.size 1 1 (enc [cur]) (by simp [enc]) ?_ ?_ (by omega) (by omega)).mono ?_
      · intro j u hj
        rcases j with _ | j
        · simp [enc] at hj; subst hj; simp [Addr.add]
        · simp [enc] at hj
      · intro u hu; simp [enc] at hu; subst hu; rfl
      rintro e w2 ⟨rfl, v2, h2⟩
      rw [hys] at h2
      go_wp2_with fail
      first | go_end0 | (simp only [Exit.inBlock, Exit.then]; refine bodyPost_ret (results_none rfl _ _ _) rfl ?_) | refine bodyPost_ret (results_none rfl _ _ _) rfl ?_
      exact ⟨rfl, _, _, h2⟩
    · have hgeI : (128 : Int) ≤ (cur : Int) := by omega
      obtain ⟨f', rfl⟩ : ∃ f', f = f' + 1 := by
        rcases f with _ | f'
        · simp at hf; omega
        · exact ⟨f', rfl⟩
      have hu : uBf (f' + 1) cur = (cur % 128 + 128) :: uBf f' (cur / 128) := by simp [uBf, hlt]
      rw [hu] at hys
      have e9 : bits .or .u8 ((cur : Int) % 256) 128 = ((cur % 128 + 128 : Nat) : Int) := by
        have h9 := or128 (cur % 256) (by omega)
        rw [show cur % 256 % 128 = cur % 128 by omega, show ((cur % 256 : Nat) : Int) = (cur : Int) % 256 by omega] at h9
        exact h9
      have hd : cur / 128 < 128 ^ f' := by rw [Nat.div_lt_iff_lt_mul (by omega)]; rw [Nat.pow_succ] at hf; omega
      have hys' : Hid _ := hys
      clear hys hu
      generalize cur % 128 + 128 = b8 at *
      go_wp2_with fail
      refine (whole_any N w1 fr' v' n' ys _ (hW.alloc _) wr.heap.size 1 1 (enc [b8]) (by simp [enc]) ?_ ?_ (by omega) (by omega)).mono ?_
      · intro j u hj
        rcases j with _ | j
        · simp [enc] at hj; subst hj; simp [Addr.add]
        · simp [enc] at hj
      · intro u hu; simp [enc] at hu; subst hu; rfl
      rintro e w2 ⟨rfl, v2, h2⟩
      go_wp2_with fail
      go_roundw
      case rel => exact ⟨cur / 128, f', 0, v2, n' + 1, ys ++ enc [b8], rfl, hd, by omega, by omega, by omega, h2, by rw [← hys'.out]; simp [enc]⟩
      case measure => simp [intOf]; omega
end Go.Proofs.YtfijagdbdbbbpaaDoor
