
import Derived.Test.YtfijagdbdbbbpaaDoorBuB
import Derived.Test.YtfijagdbdbbbpaaDoorBaseq
import Derived.Laws.BytesArg
import Derived.Lib.ConvBytes
import Derived.BigQuiet
namespace Go.Proofs.YtfijagdbdbbbpaaDoor
open Go.RowKit
set_option linter.unusedVariables false
set_option linter.unusedSimpArgs false
/-- what a Writer at N leaves alone: all but its own cells, and the row of its slice. -/
structure Fr (N : Nat) (v v' : Value) (w w' : World) : Prop where
  size : w.heap.size ≤ w'.heap.size
  keep : ∀ k, k < w.heap.size → k ≠ N → some k ≠ v.ownBlock → w'.heap[k]? = w.heap[k]?
  own : v'.ownBlock = v.ownBlock ∨ ∃ k, v'.ownBlock = some k ∧ w.heap.size ≤ k
theorem Fr.refl (N : Nat) (v : Value) (w : World) : Fr N v v w w := ⟨Nat.le_refl _, fun _ _ _ _ => rfl, Or.inl rfl⟩
theorem Fr.trans {N : Nat} {v v1 v2 : Value} {w w1 w2 : World} (h : Fr N v v1 w w1) (k : Fr N v1 v2 w1 w2) : Fr N v v2 w w2 := by
  refine ⟨Nat.le_trans h.size k.size, fun j hj hn ho => ?_, ?_⟩
  · rw [k.keep j (Nat.lt_of_lt_of_le hj h.size) hn ?_, h.keep j hj hn ho]
    rcases h.own with e | ⟨i, e, hi⟩
    · rw [e]; exact ho
    · rw [e]; intro e'; injection e' with e'; omega
  · rcases k.own with e | ⟨i, e, hi⟩
    · rw [e]; exact h.own
    · exact Or.inr ⟨i, e, Nat.le_trans h.size hi⟩
theorem Fr.bytes {N : Nat} {v v' : Value} {w w' : World} (h : Fr N v v' w w') {b off n : Nat} {bs : Nat → Nat} (hb : BytesAt w b off n bs) (hl : b < w.heap.size) (hn : b ≠ N) (ho : some b ≠ v.ownBlock) : BytesAt w' b off n bs := fun i hi => by
  have := hb i hi
  rw [World.cell?_of_block (w := w) (h.keep b hl hn ho)]; exact this
end Go.Proofs.YtfijagdbdbbbpaaDoor

namespace Go.Proofs.YtfijagdbdbbbpaaDoor
open Go.RowKit
set_option linter.unusedVariables false
set_option linter.unusedSimpArgs false
def foldZ (v : Int) : Nat := if 0 ≤ v then (2 * v).toNat else (-2 * v - 1).toNat
theorem foldZ_lt (v : Int) (h : -9223372036854775808 ≤ v ∧ v ≤ 9223372036854775807) : foldZ v < 18446744073709551616 := by unfold foldZ; split <;> omega
def bytesL (bs : Nat → Nat) (n : Nat) : List Nat := (List.range n).map bs
theorem bytesL_succ (bs : Nat → Nat) (n : Nat) : bytesL bs (n + 1) = bytesL bs n ++ [bs n] := by simp [bytesL, List.range_succ]
theorem WS.strung {N : Nat} {w1 wx : World} {fr : Int} {v : Value} {n : Nat} {xs : List Value} (h : WS N w1 fr v n xs wx) (e : TypeId) (s : ByteArray) : WS N w1 fr v n xs (Lib.bytesWorld wx e s) := by
  obtain ⟨c0, c1, f0, f1, own, b, sz⟩ := h
  have ho := fun j (hj : j < wx.heap.size) => Lib.bytesWorld_at_old wx e s j hj
  have hz := Lib.bytesWorld_size wx e s
  refine ⟨?_, ?_, ?_, ?_, ⟨own.1, ?_⟩, ⟨b.os, b.tape, b.output, ?_, fun k hk => (ho k (by omega)).trans (b.block k hk)⟩, by omega⟩
  · rw [World.cell?_of_block (w := wx) (ho N sz)]; exact c0
  · rw [World.cell?_of_block (w := wx) (ho N sz)]; exact c1
  · rw [World.frozen?_of_block (w := wx) (ho N sz)]; exact f0
  · rw [World.frozen?_of_block (w := wx) (ho N sz)]; exact f1
  · rcases own.2 with h2 | ⟨g, cap, cur, e1, e2, e3, e4⟩
    · exact Or.inl h2
    · exact Or.inr ⟨g, cap, cur, e1, e2, by rw [ho g (Array.getElem?_eq_some_iff.1 e3).1]; exact e3, e4⟩
  · have := b.size; omega
end Go.Proofs.YtfijagdbdbbbpaaDoor

namespace Go.Proofs.YtfijagdbdbbbpaaDoor
open Go.RowKit
set_option linter.unusedVariables false
set_option linter.unusedSimpArgs false
theorem be4_at (v : Nat) : be4 v = [v / 2 ^ 24 % 256, v / 2 ^ 16 % 256, v / 2 ^ 8 % 256, v / 2 ^ 0 % 256] := by simp [be4]
end Go.Proofs.YtfijagdbdbbbpaaDoor

namespace Go.Proofs.YtfijagdbdbbbpaaDoor
open Go.RowKit
set_option linter.unusedVariables false
set_option linter.unusedSimpArgs false
theorem Fr.alloc {N : Nat} {v v' : Value} {w w' : World} (h : Fr N v v' w w') (o : Obj) : Fr N v v' w (w'.alloc o) :=
  ⟨by have := h.size; simp; omega, fun k hk hn ho => by rw [Below.heap_alloc w' _ k (Nat.lt_of_lt_of_le hk h.size)]; exact h.keep k hk hn ho, h.own⟩
set_option maxRecDepth 100000 in
theorem whole_fr (N : Nat) (w1 : World) (fr : Int) (v : Value) (n : Nat) (xs : List Value) (w : World) (h : WS N w1 fr v n xs w) (g0 m c : Nat) (news : List Value) (hl : news.length = m)
    (hnews : ∀ j u, news[j]? = some u → w.cell? ((⟨g0, 0, none⟩ : Addr).add j) = some u) (h1 : ∀ u ∈ news, u.oneCell' = true) (hm : 0 < m) (hb : n + m ≤ 140737488355328) :
    Calls Tryd.prog 66 #[.pointer (some ⟨N, 0, none⟩), .slice (some ⟨g0, 0, none⟩) m c] w fun e w' => e = .returned undef ∧ ∃ v', WS N w1 0 v' (n + m) (xs ++ news) w' ∧ Fr N v v' w w' := by
  obtain ⟨i, i1, i0⟩ := Option.map_eq_some_iff.1 byte_info
  have i2 : i.zero = some (.int .u8 0) := congrArg (·.1) i0
  have i3 : i.bytes = 1 := congrArg (·.2.1) i0
  have i4 : i.size = 1 := congrArg (·.2.2) i0
  have hs := h.sz
  have c0 := h.c0
  have hml : maxLen = 9223372036854775807 := by decide
  clear i0
  go_enter Tryd.func66, Tryd.ntmps66
  go_wp2_with (at_builtin; refine wpList_append_lies _ (by rfl) _ _ _ (by rfl) (N + 1) 5 i (.int .u8 0) 1 1 Tryd.underlying60 i1 i2 i4 i3 rfl (by omega) v n xs (by rfl) h.own ⟨g0, 0, none⟩ m c news (by rfl) (by rw [hl, Nat.mul_one]) hnews h1 hm (by omega) (by omega) (by omega) _ rfl ?_)
  intro g cap w2 hown hgrow hat hlt
  have hne : some N ≠ v.ownBlock := fun e => by have := h.own.lt N e.symm; omega
  have c0' := (hgrow.cell_far ⟨N, 0, none⟩ hs hne).trans h.c0
  have c1' := (hgrow.cell_far ⟨N, 1, none⟩ hs hne).trans h.c1
  have f0' := (hgrow.frozen_far ⟨N, 0, none⟩ hs hne).trans h.f0
  have f1' := (hgrow.frozen_far ⟨N, 1, none⟩ hs hne).trans h.f1
  have hb' := h.b.grown hgrow (by omega) (fun k e => by have := h.own.lt k e; omega)
  have hz' := hgrow.size
  have hW := WS.put c0' c1' f0' f1' hb' (by omega) hown 0
  have hF : Fr N v (.slice (some ⟨g, 0, none⟩) (n + m) cap) w ((w2.setCell ⟨N, 0, none⟩ (.slice (some ⟨g, 0, none⟩) (n + m) cap)).setCell ⟨N, 1, none⟩ (.int .i64 0)) := by
    refine ⟨by simpa using hz', fun k hk hn ho => ?_, ?_⟩
    · rw [Below.heap_setCell _ _ _ _ hn, Below.heap_setCell _ _ _ _ hn, hgrow.block k hk ho]
    · rcases hat with e | e
      · exact Or.inl (by rw [e]; rfl)
      · exact Or.inr ⟨g, rfl, by first | omega | (simp at e; omega)⟩
  clear c0 hat hgrow hnews h1
  go_wp2_with fail
  first | go_end0 | (simp only [Exit.inBlock, Exit.then]; refine bodyPost_ret (results_none rfl _ _ _) rfl ?_) | refine bodyPost_ret (results_none rfl _ _ _) rfl ?_
  exact ⟨rfl, _, hW, hF⟩
theorem whole1 (N : Nat) (w1 : World) (fr : Int) (v : Value) (n : Nat) (xs : List Value) (w : World) (h : WS N w1 fr v n xs w) (x : Nat) (z : Int) (hz : z = (x : Int)) (hb : n + 1 ≤ 140737488355328) :
    Calls Tryd.prog 66 #[.pointer (some ⟨N, 0, none⟩), .slice (some ⟨w.heap.size, 0, none⟩) 1 1] (w.alloc (.cells #[.int .u8 z] 5)) fun e w' => e = .returned undef ∧ ∃ v', WS N w1 0 v' (n + 1) (xs ++ enc [x]) w' ∧ Fr N v v' w w' := by
  subst hz
  refine (whole_fr N w1 fr v n xs _ (h.alloc _) w.heap.size 1 1 (enc [x]) (by simp [enc]) ?_ (enc_one _) (by omega) hb).mono ?_
  · exact cells_news w [x] (0, 0)
  rintro e w2 ⟨rfl, v2, h2, F2⟩
  exact ⟨rfl, v2, h2, ((Fr.refl N v w).alloc _).trans F2⟩
set_option maxRecDepth 100000 in
set_option maxHeartbeats 4000000 in
theorem wuint_fr (N : Nat) (w1 : World) (fr : Int) (v : Value) (n : Nat) (xs : List Value) (w : World) (h : WS N w1 fr v n xs w) (k : Nat) (hk : k < 18446744073709551616) (z : Int) (hz : z = (k : Int)) (hb : n + 20 ≤ 140737488355328) :
    Calls Tryd.prog 16 #[.pointer (some ⟨N, 0, none⟩), .int .u64 z] w fun e w' => e = .returned undef ∧ ∃ v' n', WS N w1 0 v' n' (xs ++ enc (uB k)) w' ∧ n' ≤ n + 11 ∧ Fr N v v' w w' := by
  subst hz
  go_enter Tryd.func16, Tryd.ntmps16
  go_wp2_with fail
  go_loopw [1] (fun c wr => ∃ (cur f : Nat) (fr' : Int) (v' : Value) (n' : Nat) (ys : List Value), c = .int .u64 (cur : Int) ∧ cur < 128 ^ f ∧ f ≤ 10 ∧ n' + f ≤ n + 10 ∧ cur < 18446744073709551616 ∧ WS N w1 fr' v' n' ys wr ∧ ys ++ enc (uBf f cur) = xs ++ enc (uB k) ∧ Fr N v v' w wr) (fun c _ => (intOf c).toNat)
  case atStart => exact ⟨k, 10, fr, v, n, xs, rfl, by omega, by omega, by omega, hk, h, rfl, Fr.refl _ _ _⟩
  case round =>
    obtain ⟨cur, f, fr', v', n', ys, rfl, hf, hf10, hn, hc, hW, hys, hF⟩ := hrel
    have hs := hW.sz
    by_cases hlt : cur < 128
    · have hltI : ¬ (128 : Int) ≤ (cur : Int) := by omega
      have e8 : (cur : Int) % 256 = (cur : Int) := by omega
      have hu : uBf f cur = [cur] := by cases f <;> simp [uBf, hlt]
      rw [hu] at hys
      go_wp2_with fail
      refine (whole1 N w1 fr' v' n' ys wr hW cur _ rfl (by omega)).mono ?_
      rintro e w2 ⟨rfl, v2, h2, F2⟩
      rw [hys] at h2
      go_wp2_with fail
      first | go_end0 | (simp only [Exit.inBlock, Exit.then]; refine bodyPost_ret (results_none rfl _ _ _) rfl ?_) | refine bodyPost_ret (results_none rfl _ _ _) rfl ?_
      exact ⟨rfl, _, _, h2, by omega, hF.trans F2⟩
    · have hgeI : (128 : Int) ≤ (cur : Int) := by omega
      obtain ⟨f', rfl⟩ : ∃ f', f = f' + 1 := by
        rcases f with _ | f'
        · simp at hf; omega
        · exact ⟨f', rfl⟩
      have hu : uBf (f' + 1) cur = (cur % 128 + 128) :: uBf f' (cur / 128) := by simp [uBf, hlt]
      rw [hu] at hys
      have e9 : bits .or .u8 ((cur : Int) % 256) 128 = ((cur % 128 + 128 : Nat) : Int) := by
        have h9 := or128 (cur % 256) (by omega)
        rw [show cur % 256 % 128 = cur % 128 by omega, show ((cur % 256 : Nat) : Int) = (cur : Int) % 256 by omega] at h9
        exact h9
      have hd : cur / 128 < 128 ^ f' := by rw [Nat.div_lt_iff_lt_mul (by omega)]; rw [Nat.pow_succ] at hf; omega
      have hys' : Hid _ := hys
      clear hys hu
      generalize cur % 128 + 128 = b8 at *
      go_wp2_with fail
      refine (whole1 N w1 fr' v' n' ys wr hW b8 _ rfl (by omega)).mono ?_
      rintro e w2 ⟨rfl, v2, h2, F2⟩
      go_wp2_with fail
      go_roundw
      case rel => exact ⟨cur / 128, f', 0, v2, n' + 1, ys ++ enc [b8], rfl, hd, by omega, by omega, by omega, h2, by rw [← hys'.out]; simp [enc], hF.trans F2⟩
      case measure => simp [intOf]; omega
end Go.Proofs.YtfijagdbdbbbpaaDoor
