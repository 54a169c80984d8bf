
import Derived.Test.YtmlankbaoanaeaaDoorRdB
import Derived.Test.YtmlankbaoanaeaaDoorSealD
import Derived.Test.YtmlankbaoanaeaaDoorOpenC
namespace Go.Proofs.YtmlankbaoanaeaaDoor
open Go.RowKit
set_option linter.unusedVariables false
set_option linter.unusedSimpArgs false
set_option maxRecDepth 100000 in
theorem rdNew_any (b off n c : Nat) (bs : Nat → Nat) (w : World) (hb : BytesAt w b off n bs) (hbk : b < w.heap.size) (h0 : 0 < n) (hn : n ≤ 140737488355328) :
    Calls Tryd.prog 16 #[.slice (some ⟨b, off, none⟩) n c] w fun e w' => e = .returned (.pointer (some ⟨w.heap.size, 0, none⟩)) ∧ ∃ g cap, RS w.heap.size w g n cap 0 bs w' := by
  obtain ⟨i, i1, i0⟩ := Option.map_eq_some_iff.1 byte_info
  have i2 : i.zero = some (.int .u8 0) := congrArg (·.1) i0
  have i3 : i.bytes = 1 := congrArg (·.2.1) i0
  have i4 : i.size = 1 := congrArg (·.2.2) i0
  have hml : maxLen = 9223372036854775807 := by decide
  clear i0
  have hl : ((List.range n).map bs).length = n := by simp
  have hl256 : ∀ x ∈ (List.range n).map bs, x < 256 := fun x hx => by simp at hx; obtain ⟨j, hj, rfl⟩ := hx; exact (hb j hj).2
  have hnat : ∀ j, j < n → natsOf ((List.range n).map bs) j = bs j := fun j hj => by simp [natsOf, List.getD_eq_getElem?_getD, hj]
  have hb1 : BytesAt w b off ((List.range n).map bs).length (natsOf ((List.range n).map bs)) := by rw [hl]; exact fun j hj => by rw [hnat j hj]; exact hb j hj
  have B0 : Below w.heap.size w (w.alloc (.cells #[.slice none 0 0, .int .i64 0, .int .i64 0, .int .i64 0, .int .i64 0, .int .i64 0, .bool false, .bool false] 89)) := (Below.refl _ _).alloc (Nat.le_refl _) _
  have nw := bytes_news (hb1.below B0 hbk)
  go_enter Tryd.func16, Tryd.ntmps16
  go_wp2_with (at_builtin; refine wpList_append_lies _ (by rfl) _ _ _ (by rfl) (w.heap.size + 1) 5 i (.int .u8 0) 1 1 Tryd.underlying24 i1 i2 i4 i3 rfl (by omega) _ 0 [] (by rfl) (World.ownsRow_nil _ _ _ _) ⟨b, off, none⟩ n c (enc ((List.range n).map bs)) (by rfl) (by rw [enc_len, hl, Nat.mul_one]) nw (enc_one _) h0 (by omega) (by omega) (by simp) _ rfl ?_)
  intro g cap w2 ho hgrow hat hlt
  have hz := hgrow.size
  have sz0 : w.heap.size < (w.alloc (.cells #[.slice none 0 0, .int .i64 0, .int .i64 0, .int .i64 0, .int .i64 0, .int .i64 0, .bool false, .bool false] 89)).heap.size := by simp
  have far : ∀ j, w2.cell? ⟨w.heap.size, j, none⟩ = (w.alloc (.cells #[.slice none 0 0, .int .i64 0, .int .i64 0, .int .i64 0, .int .i64 0, .int .i64 0, .bool false, .bool false] 89)).cell? ⟨w.heap.size, j, none⟩ := fun j => hgrow.cell_far ⟨w.heap.size, j, none⟩ sz0 (by simp [Value.ownBlock])
  have farf : ∀ j, w2.frozen? ⟨w.heap.size, j, none⟩ = (w.alloc (.cells #[.slice none 0 0, .int .i64 0, .int .i64 0, .int .i64 0, .int .i64 0, .int .i64 0, .bool false, .bool false] 89)).frozen? ⟨w.heap.size, j, none⟩ := fun j => hgrow.frozen_far ⟨w.heap.size, j, none⟩ sz0 (by simp [Value.ownBlock])
  have e0 : w2.cell? ⟨w.heap.size, 0, none⟩ = some (.slice none 0 0) := by rw [far]; simp
  have e1 : w2.cell? ⟨w.heap.size, 1, none⟩ = some (.int .i64 0) := by rw [far]; simp
  have e2 : w2.cell? ⟨w.heap.size, 2, none⟩ = some (.int .i64 0) := by rw [far]; simp
  have e3 : w2.cell? ⟨w.heap.size, 3, none⟩ = some (.int .i64 0) := by rw [far]; simp
  have f0 : w2.frozen? ⟨w.heap.size, 0, none⟩ = false := by rw [farf]; simp
  have f1 : w2.frozen? ⟨w.heap.size, 1, none⟩ = false := by rw [farf]; simp
  have f2 : w2.frozen? ⟨w.heap.size, 2, none⟩ = false := by rw [farf]; simp
  have gb := (ho.lt g rfl).1
  have BB : Below w.heap.size w w2 := B0.grown hgrow (by simp) (fun k e => by simp [Value.ownBlock] at e)
  have br := bytes_own ho hl256
  clear far farf nw hb1 hgrow hat ho
  go_wp2_with fail
  go_ret
  refine ⟨rfl, g, cap, ?_⟩
  have ot : ∀ (p : Addr), p ≠ ⟨w.heap.size, 0, none⟩ → (w2.setCell ⟨w.heap.size, 0, none⟩ (.slice (some ⟨g, 0, none⟩) n cap)).cell? p = w2.cell? p := fun p hp => World.cell?_setCell_other _ _ _ _ (Ne.symm hp)
  refine ⟨World.cell?_setCell_same _ _ _ e0, ?_, ?_, ?_, by simpa using f1, by simpa using f2, fun j hj => ⟨?_, (hb j hj).2⟩, by omega, by simpa using hlt, BB.setCell (p := ⟨w.heap.size, 0, none⟩) (Nat.le_refl _) _, ?_⟩
  · rw [ot _ (by simp)]; exact e1
  · rw [ot _ (by simp)]; exact e2
  · rw [ot _ (by simp)]; exact e3
  · rw [ot _ (by intro e; injection e with e1; omega)]
    have := (br j (by omega)).1
    rw [hnat j hj] at this
    exact this
  · have : w.heap.size < w2.heap.size := by omega
    simpa using this
theorem rnew_any (c : Int) (w : World) : Calls Tryd.prog 84 #[.int .i64 c] w fun e w' => e = .returned (.agg #[.int .i64 c, .int .i64 0, .int .i64 0, .bool false, .bool false]) ∧ Below w.heap.size w w' := by
  go_enter Tryd.func84, Tryd.ntmps84
  go_wp2
  simp [bodyPost, results, Tryd.results84, go_sem]
  exact below_new (Below.refl _ _) _
theorem ropen_short (a : Option Addr) (len cap : Nat) (w : World) (hl : len < 17) :
    Calls Tryd.prog 43 #[.slice a len cap] w fun e w' => e = .returned (.tuple #[.int .u8 0, .int .u64 0, .slice none 0 0, .int .i64 0, .agg #[.int .i64 30, .int .i64 0, .int .i64 0, .bool false, .bool false]]) ∧ Below w.heap.size w w' := by
  have hI : (len : Int) < 17 := by omega
  have hwb := bad_start w
  go_enter Tryd.func43, Tryd.ntmps43
  go_wp2_with fail
  refine (rnew_any 30 _).mono ?_
  rintro e w1 ⟨rfl, hB⟩
  have hB' : Below (w.heap.size + 1) (w.alloc (.cells #[.int .i64 0, .int .i64 0, .int .i64 0, .bool false, .bool false] 51)) w1 := by simpa using hB
  have hBB : Below w.heap.size w w1 := (below_new (Below.refl _ w) _).trans (hB'.mono (by omega))
  obtain ⟨z0, z1, z2, z3, z4, y0, y1, y2, y3, y4⟩ := hwb.below hB'
  go_wp2_with fail
  simp [bodyPost, results, Tryd.results43, go_sem, *]
  exact bad_set hBB _ _ _ _ _
/-- what the document's Open tells. -/
def RO (bs : Nat → Nat) (len : Nat) (e : Ending) (w' : World) : Prop :=
  if openE bs len = 0 then ∃ a cap', e = .returned (.tuple #[.int .u8 (bs 0 : Int), .int .u64 ((u32At bs 5 : Int) * 4294967296 + (u32At bs 9 : Int)), .slice a (u32At bs 1) cap', .int .i64 (21 + (u32At bs 1 : Int)), .agg #[.int .i64 0, .int .i64 0, .int .i64 0, .bool false, .bool false]]) ∧ BytesIn w' a (u32At bs 1) (fun i => bs (17 + i))
  else e = .returned (.tuple #[.int .u8 0, .int .u64 0, .slice none 0 0, .int .i64 0, .agg #[.int .i64 (openE bs len : Nat), .int .i64 0, .int .i64 0, .bool false, .bool false]])
end Go.Proofs.YtmlankbaoanaeaaDoor
