
import Derived.Test.YtepgcgphnjlcoaaDoorWrDq
import Derived.Lib.SlBytesConst
namespace Go.Proofs.YtepgcgphnjlcoaaDoor
open Go.RowKit
set_option linter.unusedVariables false
set_option linter.unusedSimpArgs false
theorem ST_below {w w' : World} (h : ST w) (hb : Below w.heap.size w w') : ST w' := fun i hi => by
  have h0 := h i hi
  rw [hb.cell (p := ⟨0, i, none⟩) (World.block_lt_of_cell? w _ h0)]; exact h0
def natsOf (l : List Nat) (i : Nat) : Nat := l.getD i 0
theorem bytes_own {w : World} {base g cap n : Nat} {l : List Nat} (h : w.ownsRow base 5 1 (.slice (some ⟨g, 0, none⟩) n cap) n (enc l)) (hl : ∀ x ∈ l, x < 256) : BytesAt w g 0 n (natsOf l) := fun i hi => by
  have e := h.1
  simp [enc] at e
  have h0 := h.cellAt i (by omega)
  have hi' : i < l.length := by omega
  constructor
  · rw [Nat.zero_add, h0]; simp [enc, natsOf, hi', List.getD_eq_getElem?_getD]
  · simp [natsOf, hi', List.getD_eq_getElem?_getD]; exact hl _ (List.getElem_mem hi')
theorem bytes_new (w : World) (l : List Nat) (cs : Array Value) (fr : Nat × Nat) (hcs : cs = (enc l).toArray) (hl : ∀ x ∈ l, x < 256) : BytesAt (w.alloc (.cells cs 5 fr)) w.heap.size 0 l.length (natsOf l) := by
  subst hcs
  intro i hi
  constructor
  · rw [Nat.zero_add, cell_of_row _ w.heap.size i (enc l).toArray 5 fr (heap_alloc_new w _)]
    simp [enc, natsOf, hi, List.getD_eq_getElem?_getD]
  · simp [natsOf, hi, List.getD_eq_getElem?_getD]; exact hl _ (List.getElem_mem hi)
theorem BytesAt.below {w w' : World} {g off n : Nat} {bs : Nat → Nat} {B : Nat} (h : BytesAt w g off n bs) (hb : Below B w w') (hg : g < B) : BytesAt w' g off n bs := fun i hi => by
  obtain ⟨h1, h2⟩ := h i hi
  exact ⟨by rw [hb.cell (p := ⟨g, off + i, none⟩) hg]; exact h1, h2⟩
set_option maxRecDepth 100000 in
set_option maxHeartbeats 2000000 in
theorem live_wire (w : World) (hs : ST w) : Calls Tryd.prog 11 #[] w fun e w' => e = .returned (.bool true) ∧ Below w.heap.size w w' := by
  have kc := fun (w : World) (C : Array Value) (n c : Nat) => Lib.run_convert_bytes_const (P := Tryd.prog) w 23 5 C n c Tryd.underlying23 Tryd.underlying5
  go_enter Tryd.func11, Tryd.ntmps11
  go_wp2_with fail
  have h0 : WS w.heap.size w 0 (.slice none 0 0) 0 [] (w.alloc (.cells #[.slice none 0 0, .int .i64 0] 26)) := by
    refine ⟨by simp, by simp, by simp, by simp, World.ownsRow_nil _ _ _ _, (Below.refl _ _).alloc (Nat.le_refl _) _, by simp⟩
  refine (bits_live w.heap.size w _ h0).mono ?_
  rintro e w1 ⟨rfl, v1, h1⟩
  go_wp2_with fail
  refine (uint_any w.heap.size w 5 v1 1 _ w1 h1 300 (by omega) (by omega)).mono ?_
  rintro e w2 ⟨rfl, v2, n2, h2⟩
  have e2 : [Value.int .u8 160] ++ enc (uB 300) = enc [160, 172, 2] := by rfl
  rw [e2] at h2
  obtain rfl : n2 = 3 := by have := h2.own.1; simp [enc] at this; omega
  clear e2 h0 h1
  go_wp2_with fail
  refine (bytes_any w.heap.size w 0 v2 3 _ w2 h2 (by intro u hu; simp [enc] at hu; rcases hu with rfl | rfl | rfl <;> rfl) (by omega) (by omega)).mono ?_
  rintro e w3 ⟨g3, cap3, rfl, ho3, hB3⟩
  have b3 := bytes_own ho3 (by simp)
  have hB : Below w.heap.size w w3 := h2.b.trans (hB3.mono (by have := h2.sz; omega))
  have g3l := (ho3.lt g3 rfl).2
  clear h2 ho3
  go_wp2_with fail
  have bn := bytes_new w3 [160, 172, 2] #[.int .u8 160, .int .u8 172, .int .u8 2] (0, 0) (by rfl) (by simp)
  have b3' := b3.below ((Below.refl _ w3).alloc (Nat.le_refl _) (.cells #[.int .u8 160, .int .u8 172, .int .u8 2] 5)) g3l
  have hB' := below_new hB (.cells #[.int .u8 160, .int .u8 172, .int .u8 2] 5)
  refine (same_true g3 0 cap3 w3.heap.size 0 3 3 _ _ (by omega) b3' bn).mono ?_
  rintro e w4 ⟨rfl, hB4⟩
  have hB5 := below_then hB' hB4
  clear b3 b3' bn hB' hB4 hB hB3
  go_wp2_with fail
  have hs5 := ST_below hs (below_new hB5 (.cells #[.int .u8 49, .int .u8 50, .int .u8 51, .int .u8 52, .int .u8 53, .int .u8 54, .int .u8 55, .int .u8 56, .int .u8 57] 5 (9, 10)))
  have bc := bytes_new w4 [49, 50, 51, 52, 53, 54, 55, 56, 57] #[.int .u8 49, .int .u8 50, .int .u8 51, .int .u8 52, .int .u8 53, .int .u8 54, .int .u8 55, .int .u8 56, .int .u8 57] (9, 10) (by rfl) (by simp)
  have hB6 := below_new hB5 (.cells #[.int .u8 49, .int .u8 50, .int .u8 51, .int .u8 52, .int .u8 53, .int .u8 54, .int .u8 55, .int .u8 56, .int .u8 57] 5 (9, 10))
  have ec : crcTo (natsOf [49, 50, 51, 52, 53, 54, 55, 56, 57]) 9 ^^^ 4294967295 = 3421780262 := by decide +kernel
  refine (crc_wire w4.heap.size 0 9 9 _ _ (by omega) bc hs5).mono ?_
  rintro e w5 ⟨rfl, rfl⟩
  rw [ec]
  clear kc bc hs5 hB5
  go_wp2_with fail
  go_ret
  exact ⟨rfl, hB6⟩
end Go.Proofs.YtepgcgphnjlcoaaDoor
