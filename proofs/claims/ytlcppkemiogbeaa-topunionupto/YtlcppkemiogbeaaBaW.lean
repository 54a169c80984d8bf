
import Derived.Test.YtlcppkemiogbeaaBaV
namespace Go.Proofs.Ytlcppkemiogbeaa
open Go.RowKit _root_.Go.Proofs.Ytlcppkemiogbeaa.So
set_option linter.unusedVariables false
set_option linter.unusedSimpArgs false
theorem drop_atW {l : List WrP} {i : Nat} (h : i < l.length) : l.drop i = atW l i :: l.drop (i + 1) := by
  rw [List.drop_eq_getElem_cons h]
  have := atW_some h
  rw [List.getElem?_eq_getElem h] at this
  injection this with this
  rw [this]
theorem mgD_left {l m : List WrP} {i k : Nat} (hi : i < l.length) (h : k < m.length → wC (atW l i) (atW m k) < 0) : mgD (l.drop i) (m.drop k) = atW l i :: mgD (l.drop (i + 1)) (m.drop k) := by
  rw [drop_atW hi]
  rcases Nat.lt_or_ge k m.length with hk | hk
  · rw [drop_atW hk, mgD, if_pos (h hk)]
  · rw [List.drop_eq_nil_of_le hk, mgD, mgD_nil]
theorem mgD_right {l m : List WrP} {i k : Nat} (hk : k < m.length) (h : i < l.length → 0 < wC (atW l i) (atW m k)) : mgD (l.drop i) (m.drop k) = atW m k :: mgD (l.drop i) (m.drop (k + 1)) := by
  rw [drop_atW hk]
  rcases Nat.lt_or_ge i l.length with hi | hi
  · rw [drop_atW hi, mgD, if_neg (by have := h hi; omega), if_pos (h hi)]
  · rw [List.drop_eq_nil_of_le hi, mgD, mgD]
theorem mgD_same {l m : List WrP} {i k : Nat} (hi : i < l.length) (hk : k < m.length) (h : wC (atW l i) (atW m k) = 0) : mgD (l.drop i) (m.drop k) = mgD (l.drop (i + 1)) (m.drop k) := by
  rw [drop_atW hk, drop_atW hi, mgD, if_neg (by omega), if_neg (by omega)]
/-- what stands while two rows are merged. -/
structure MgS (w : World) (l m : List WrP) (i k : Nat) (v : Value) (L : List WrA) (wr : World) : Prop where
  bl : Below w.heap.size w wr
  row : OW2 wr w.heap.size v L
  is : L.map (·.1) ++ mgD (l.drop i) (m.drop k) = mgD l m
  il : i ≤ l.length
  kl : k ≤ m.length
  few : L.length ≤ i + k
theorem MgS.below {w wr w' : World} {l m : List WrP} {i k : Nat} {v : Value} {L : List WrA} (h : MgS w l m i k v L wr) (hB : Below wr.heap.size wr w') : MgS w l m i k v L w' := ⟨h.bl.trans (hB.mono h.bl.size), h.row.below hB, h.is, h.il, h.kl, h.few⟩
theorem MgS.app {w wr : World} {l m : List WrP} {i k : Nat} {a3 : Option Addr} {z c3 : Nat} {L : List WrA} (h : MgS w l m i k (.slice a3 z c3) L wr) (x : WrP) (tx : Option Addr) (cx : Nat) (hs : ∀ W, Below w.heap.size w W → SerIn W tx x.s) (hn : l.length + m.length ≤ 1099511627775) :
    ∃ a4 c4 w6, (Builtin.append_ #[28, 28] 28 #[.slice a3 z c3, .slice (some ⟨wr.heap.size, 0, none⟩) 1 1]).run Try.prog (wr.alloc (.cells #[.string x.s.m, .slice tx x.s.t.length cx, .string x.s.f, .int .i64 x.tm, .int .u8 (x.kd : Int), .int .i64 x.n] 37)) = .ok (.slice a4 (z + 1) c4) w6 ∧ OW2 w6 w.heap.size (.slice a4 (z + 1) c4) (L ++ [(x, tx, cx)]) ∧ Below w.heap.size w w6 := by
  have lz : L.length = z := by
    obtain ⟨_, _, e, _⟩ := h.row.1.win
    injection e with _ e _
    exact e.symm
  obtain ⟨a4, c4, w6, q1, q2, q3⟩ := app2W wr w.heap.size (.slice a3 z c3) L h.row h.bl.size (x, tx, cx) (hs wr h.bl) (fun he ad had e => by
    have h1 := (World.ownsRow.lt h.row.1.1 _ e).1
    rcases (hs w (Below.refl _ _)).1 with h2 | ⟨b, off, h3, h4, _⟩
    · exact he h2
    · rw [show tx = some ad from had] at h3
      injection h3 with h3
      rw [h3] at h1
      simp only at h1
      omega) (by have := h.few; have := h.il; have := h.kl; omega)
  rw [lz] at q1 q2
  exact ⟨a4, c4, w6, q1, q2, h.bl.trans q3⟩
theorem MgS.left {w wr : World} {l m : List WrP} {i k : Nat} {a3 : Option Addr} {z c3 : Nat} {L : List WrA} {a : Option Addr} (h : MgS w l m i k (.slice a3 z c3) L wr) (ha : WIn w a l) (hi : i < l.length) (hlt : k < m.length → wC (atW l i) (atW m k) < 0) (hn : l.length + m.length ≤ 1099511627775) :
    ∃ b off tx cx, a = some ⟨b, off, none⟩ ∧ WAt wr b (off + i * 6) (atW l i) tx cx ∧ ∃ a4 c4 L4 w6, (Builtin.append_ #[28, 28] 28 #[.slice a3 z c3, .slice (some ⟨wr.heap.size, 0, none⟩) 1 1]).run Try.prog (wr.alloc (.cells #[.string (atW l i).s.m, .slice tx (atW l i).s.t.length cx, .string (atW l i).s.f, .int .i64 (atW l i).tm, .int .u8 ((atW l i).kd : Int), .int .i64 (atW l i).n] 37)) = .ok (.slice a4 (z + 1) c4) w6 ∧ MgS w l m (i + 1) k (.slice a4 (z + 1) c4) L4 w6 := by
  obtain ⟨b, off, tx, cx, e, hb, hw, hf⟩ := ha.at h.bl (atW_some hi)
  obtain ⟨a4, c4, w6, q1, q2, q3⟩ := h.app (atW l i) tx cx (fun W hW => (hf W hW).2) hn
  refine ⟨b, off, tx, cx, e, hw, a4, c4, _, w6, q1, q3, q2, ?_, hi, h.kl, by have := h.few; simp; omega⟩
  rw [← h.is, mgD_left hi hlt]; simp
theorem MgS.right {w wr : World} {l m : List WrP} {i k : Nat} {a3 : Option Addr} {z c3 : Nat} {L : List WrA} {a : Option Addr} (h : MgS w l m i k (.slice a3 z c3) L wr) (ha : WIn w a m) (hk : k < m.length) (hlt : i < l.length → 0 < wC (atW l i) (atW m k)) (hn : l.length + m.length ≤ 1099511627775) :
    ∃ b off tx cx, a = some ⟨b, off, none⟩ ∧ WAt wr b (off + k * 6) (atW m k) tx cx ∧ ∃ a4 c4 L4 w6, (Builtin.append_ #[28, 28] 28 #[.slice a3 z c3, .slice (some ⟨wr.heap.size, 0, none⟩) 1 1]).run Try.prog (wr.alloc (.cells #[.string (atW m k).s.m, .slice tx (atW m k).s.t.length cx, .string (atW m k).s.f, .int .i64 (atW m k).tm, .int .u8 ((atW m k).kd : Int), .int .i64 (atW m k).n] 37)) = .ok (.slice a4 (z + 1) c4) w6 ∧ MgS w l m i (k + 1) (.slice a4 (z + 1) c4) L4 w6 := by
  obtain ⟨b, off, tx, cx, e, hb, hw, hf⟩ := ha.at h.bl (atW_some hk)
  obtain ⟨a4, c4, w6, q1, q2, q3⟩ := h.app (atW m k) tx cx (fun W hW => (hf W hW).2) hn
  refine ⟨b, off, tx, cx, e, hw, a4, c4, _, w6, q1, q3, q2, ?_, h.il, hk, by have := h.few; simp; omega⟩
  rw [← h.is, mgD_right hk hlt]; simp
theorem MgS.same {w wr : World} {l m : List WrP} {i k : Nat} {v : Value} {L : List WrA} (h : MgS w l m i k v L wr) (hi : i < l.length) (hk : k < m.length) (h0 : wC (atW l i) (atW m k) = 0) : MgS w l m (i + 1) k v L wr := ⟨h.bl, h.row, by rw [← h.is, mgD_same hi hk h0], hi, h.kl, by have := h.few; omega⟩
/-- what merged tells. -/
def MgR (w w' : World) (l m : List WrP) (e : Ending) : Prop := ∃ (a3 : Option Addr) (z c3 : Nat) (L : List WrA), e = .returned (.slice a3 z c3) ∧ OW2 w' w.heap.size (.slice a3 z c3) L ∧ L.map (·.1) = mgD l m ∧ Below w.heap.size w w'
end Go.Proofs.Ytlcppkemiogbeaa
