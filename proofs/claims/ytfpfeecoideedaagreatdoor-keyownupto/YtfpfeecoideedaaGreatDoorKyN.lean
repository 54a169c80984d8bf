
import Derived.Test.YtfpfeecoideedaaGreatDoorKyM
namespace Go.Proofs.YtfpfeecoideedaaGreatDoor
open Go.RowKit Go.Shelf
set_option linter.unusedVariables false
set_option linter.unusedSimpArgs false
/-- weirboth.Is, of an Errno. -/
theorem is_any (c e : Int) (he : (e == 0) = false) (w : World) (hg : ET w) :
    Calls Tryz.prog 28 #[.iface 29 (.int .i64 c), .int .i64 e] w fun ev w' => ev = .returned (.bool (c == e)) ∧ Below w.heap.size w w' := by
  have hgA : ET (w.alloc (.cells #[.int .i64 0] 29)) := ET_alloc hg _
  go_enter Tryz.func28, Tryz.ntmps28
  go_wp2_with fail
  refine (as_EE c ⟨w.heap.size, 0, none⟩ (.int .i64 0) _ hgA (by simp) (by simp)).mono ?_
  rintro ev w1 ⟨rfl, rfl⟩
  go_wp2
  go_ret
  exact ⟨rfl, below_new (below_new (below_new (below_new (below_new (Below.refl _ _) _) _) _) _) _⟩
theorem mk_low (s : ByteArray) (hs : s.size < 4294967281) (h : s.data.toList.all (fun b => decide (b.toNat < 128)) = true) (i j : Nat) : MkOk (s.extract i j) := by
  refine mk_ascii _ ?_ ?_
  · have : (s.extract i j).size ≤ s.size := by rw [Lib.size_eq, Lib.extract_data, Lib.size_eq]; simp; omega
    omega
  · intro k b hb
    rw [Lib.extract_data] at hb
    have hm := List.mem_of_mem_drop (List.mem_of_mem_take (List.mem_of_getElem? hb))
    exact of_decide_eq_true (List.all_eq_true.1 h b hm)
def liveS : SerP := ⟨⟨#[99, 112, 117]⟩, [(⟨#[104, 111, 115, 116]⟩, ⟨#[97, 32, 98]⟩)], ⟨#[118]⟩⟩
set_option maxRecDepth 100000 in
theorem live_right : rightN liveS = 0 := by decide +kernel
set_option maxRecDepth 100000 in
theorem live_text : printT liveS = [99, 112, 117, 44, 104, 111, 115, 116, 61, 97, 92, 32, 98, 32, 118] := by decide +kernel
theorem live_SerM : SerM liveS := by
  refine ⟨mk_low _ (by decide) (by decide), mk_low _ (by decide) (by decide), ?_⟩
  intro t ht
  have : t = (⟨#[104, 111, 115, 116]⟩, ⟨#[97, 32, 98]⟩) := by simpa [liveS] using ht
  subst this
  exact ⟨mk_low _ (by decide) (by decide), mk_low _ (by decide) (by decide)⟩
theorem live_name : cleanB ⟨#[]⟩ 64 = false := by decide +kernel
set_option maxRecDepth 100000 in
set_option maxHeartbeats 4000000 in
theorem live_any (w : World) (hT : UT w) (hg : ET w) : Calls Tryz.prog 7 #[] w fun e w' => e = .returned (.bool true) ∧ Below w.heap.size w w' := by
  have B1 : ∀ o, Below w.heap.size w (w.alloc o) := fun o => (Below.refl _ w).alloc (Nat.le_refl _) o
  have cP : Hid (Calls Tryz.prog 16 #[.agg #[.string ⟨#[99, 112, 117]⟩, .slice (some ⟨w.heap.size, 0, none⟩) 1 1, .string ⟨#[118]⟩]] (w.alloc (.cells #[.string ⟨#[104, 111, 115, 116]⟩, .string ⟨#[97, 32, 98]⟩] 82)) fun e w' => e = .returned (.string ⟨#[99, 112, 117, 44, 104, 111, 115, 116, 61, 97, 92, 32, 98, 32, 118]⟩) ∧ Below w.heap.size w w' ∧ UT w') := by
    have hin : SerIn (w.alloc (.cells #[.string ⟨#[104, 111, 115, 116]⟩, .string ⟨#[97, 32, 98]⟩] 82)) (some ⟨w.heap.size, 0, none⟩) liveS := by
      refine ⟨Or.inr ⟨w.heap.size, 0, rfl, by simp, fun i t ht => ?_⟩, by decide⟩
      cases i with
      | zero => simp [liveS] at ht; subst ht; exact ⟨by simp [go_sem], by simp [go_sem]⟩
      | succ i => simp [liveS] at ht
    have h := print_any (some ⟨w.heap.size, 0, none⟩) 1 liveS _ hin (hT.below (B1 _) (Nat.le_refl _)) live_right live_SerM
    rw [live_text] at h
    exact h.mono fun e w' ⟨h1, h2⟩ => ⟨h1, (B1 _).trans (h2.mono (B1 _).size), (hT.below (B1 _) (Nat.le_refl _)).below h2 (Nat.le_refl _)⟩
  have cN : Hid (∀ W, UT W → Calls Tryz.prog 29 #[.string ⟨#[]⟩] W fun e w' => e = .returned (.iface 29 (.int .i64 50)) ∧ Below W.heap.size W w') := fun W hW => by have := name_any ⟨#[]⟩ W hW; rw [live_name] at this; exact this
  have cI : Hid (∀ W, ET W → Calls Tryz.prog 28 #[.iface 29 (.int .i64 50), .int .i64 50] W fun ev w' => ev = .returned (.bool true) ∧ Below W.heap.size W w') := fun W hW => is_any 50 50 rfl W hW
  have hgH : Hid (ET w) := hg
  clear hT hg
  go_enter Tryz.func7, Tryz.ntmps7
  go_wp2_with (first
    | (go_at_call 16; (with_reducible refine Calls.mono cP.out ?_); rintro e1 w1 ⟨rfl, hb1, hu1⟩)
    | (go_at_call 29; (with_reducible refine Calls.mono (cN.out _ hu1) ?_); rintro e2 w2 ⟨rfl, hb2⟩; have hb12 := below_then hb1 hb2)
    | (go_at_call 28; (with_reducible refine Calls.mono (cI.out _ (ET_below hgH.out hb12)) ?_); rintro e3 w3 ⟨rfl, hb3⟩))
  go_ret
  exact ⟨rfl, below_then hb12 hb3⟩
end Go.Proofs.YtfpfeecoideedaaGreatDoor
