
import Derived.Test.YtlcppkemiogbeaaBaX
namespace Go.Proofs.Ytlcppkemiogbeaa
open Go.RowKit _root_.Go.Proofs.Ytlcppkemiogbeaa.So
set_option linter.unusedVariables false
set_option linter.unusedSimpArgs false
theorem OW2.mono {w : World} {B B' : Nat} {v : Value} {L : List WrA} (h : OW2 w B v L) (hB : B' ≤ B) : OW2 w B' v L := by
  refine ⟨⟨⟨h.1.1.1, ?_⟩, h.1.2⟩, h.2⟩
  rcases h.1.1.2 with e | ⟨g, cap, cur, e, hb, r⟩
  · exact Or.inl e
  · exact Or.inr ⟨g, cap, cur, e, Nat.le_trans hB hb, r⟩
theorem OW2.one (w : World) (B : Nat) (hB : B ≤ w.heap.size) (x : WrP) (a : Option Addr) (c : Nat) (hs : SerIn w a x.s) : OW2 (w.alloc (.cells #[.string x.s.m, .slice a x.s.t.length c, .string x.s.f, .int .i64 x.tm, .int .u8 (x.kd : Int), .int .i64 x.n] 37)) B (.slice (some ⟨w.heap.size, 0, none⟩) 1 1) [(x, a, c)] := by
  refine ⟨⟨?_, fun t ht => ?_⟩, fun t ht hne ad had => ?_⟩
  · have := World.ownsRow_lit (base := B) (e := 37) (size := 6) w #[.string x.s.m, .slice a x.s.t.length c, .string x.s.f, .int .i64 x.tm, .int .u8 (x.kd : Int), .int .i64 x.n] 1 hB (by decide) rfl
    simpa [encW] using this
  · rw [List.mem_singleton.1 ht]
    exact hs.belowW ((Below.refl _ w).alloc (Nat.le_refl _) _)
  · rw [List.mem_singleton.1 ht] at hne had
    rcases hs.1 with h | ⟨b, off, e, hb, _⟩
    · exact absurd h hne
    · rw [show a = some ad from had] at e
      injection e with e
      subst e
      intro q
      have q1 : w.heap.size = b := by simpa [Value.ownBlock] using q
      omega
theorem OW2.slice {w : World} {B : Nat} {v : Value} {L : List WrA} (h : OW2 w B v L) : ∃ a cap, v = .slice a L.length cap ∧ L.length ≤ cap ∧ WIn w a (L.map (·.1)) := by
  obtain ⟨a, cap, e, hw⟩ := h.1.win
  refine ⟨a, cap, e, ?_, hw⟩
  rcases h.1.1.2 with ⟨e1, e2⟩ | ⟨g, cap', cur, e1, _, _, hc, _⟩
  · rw [e2]; exact Nat.zero_le _
  · rw [e] at e1
    injection e1 with _ _ e3
    omega
theorem WIn.cut {w : World} {b off n : Nat} {l : List WrP} (h : WIn w (some ⟨b, off, none⟩) l) (k : Nat) : WIn w (some ⟨b, off, none⟩) (l.take k) ∧ WIn w (some ⟨b, off + k * 6, none⟩) (l.drop k) := by
  rcases h with h | ⟨b', off', e, hb, hc⟩
  · subst h; exact ⟨Or.inl (by simp), Or.inl (by simp)⟩
  · injection e with e
    injection e with e1 e2
    subst e1 e2
    refine ⟨Or.inr ⟨b, off, rfl, hb, fun i x hx => hc i x ?_⟩, Or.inr ⟨b, off + k * 6, rfl, hb, fun i x hx => ?_⟩⟩
    · rw [List.getElem?_take] at hx
      split at hx
      · exact hx
      · cases hx
    · rw [List.getElem?_drop] at hx
      obtain ⟨ta, tc, h1, h2⟩ := hc (k + i) x hx
      rw [show off + (k + i) * 6 = off + k * 6 + i * 6 by omega] at h1
      exact ⟨ta, tc, h1, h2⟩
theorem odD_two (l : List WrP) (n h : Nat) (hn : n = l.length) (hh : h = n / 2) (h2 : 2 ≤ n) : odD l = mgD (odD (l.take h)) (odD (l.drop h)) := by
  subst hn hh
  rw [odD.eq_1 l, dif_neg (by omega)]
/-- what the document's Order tells. -/
def OdR (w w' : World) (l : List WrP) (e : Ending) : Prop := ∃ (a : Option Addr) (z c : Nat) (L : List WrA), e = .returned (.slice a z c) ∧ OW2 w' w.heap.size (.slice a z c) L ∧ L.map (·.1) = odD l ∧ Below w.heap.size w w'
end Go.Proofs.Ytlcppkemiogbeaa
