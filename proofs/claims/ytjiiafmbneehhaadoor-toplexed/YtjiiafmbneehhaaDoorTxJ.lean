
import Derived.Test.YtjiiafmbneehhaaDoorTxI
import Derived.Deep.AppendLies
namespace Go.Proofs.YtjiiafmbneehhaaDoor.Lx
open Go.RowKit Go.Shelf
set_option linter.unusedVariables false
set_option linter.unusedSimpArgs false
set_option maxRecDepth 100000
/-- a token in memory. -/
structure TkP where
  k : Nat
  t : ByteArray
  n : Int
  p : Int
theorem tok_info : (Tryd.prog.info? 29).map (fun i => (i.zero, i.bytes, i.size)) = some (some (.agg #[.int .u8 0, .string ⟨#[]⟩, .int .i64 0, .int .i64 0]), 40, 4) := by kernel_rfl
def encK : List TkP → List Value
  | [] => []
  | t :: r => [.int .u8 (t.k : Int), .string t.t, .int .i64 t.n, .int .i64 t.p] ++ encK r
theorem encK_append (a b : List TkP) : encK (a ++ b) = encK a ++ encK b := by
  induction a with
  | nil => rfl
  | cons s r ih => simp [encK, ih]
theorem encK_len (l : List TkP) : (encK l).length = l.length * 4 := by
  induction l with
  | nil => rfl
  | cons s r ih => simp only [encK, List.length_append, ih, List.length_cons, List.length_nil]; omega
theorem encK_one (l : List TkP) : ∀ u ∈ encK l, u.oneCell' = true := by
  induction l with
  | nil => intro u hu; cases hu
  | cons s r ih =>
    intro u hu
    simp only [encK, List.mem_append, List.mem_cons, List.not_mem_nil, or_false] at hu
    rcases hu with (rfl | rfl | rfl | rfl) | hu
    · rfl
    · rfl
    · rfl
    · rfl
    · exact ih u hu
theorem encK_get (l : List TkP) (i : Nat) (s : TkP) (h : l[i]? = some s) : (encK l)[i * 4]? = some (.int .u8 (s.k : Int)) ∧ (encK l)[i * 4 + 1]? = some (.string s.t) ∧ (encK l)[i * 4 + 2]? = some (.int .i64 s.n) ∧ (encK l)[i * 4 + 3]? = some (.int .i64 s.p) := by
  induction l generalizing i with
  | nil => simp at h
  | cons a r ih =>
    cases i with
    | zero => simp at h; subst h; simp [encK]
    | succ i =>
      simp at h
      have := ih i h
      simp only [encK]
      rw [show (i + 1) * 4 = i * 4 + 4 by omega]
      simpa using this
theorem tok_add (b o j : Nat) : ((⟨b, o, none⟩ : Addr).add j) = ⟨b, o + j, none⟩ := by
  simp [Addr.add]
/-- tokens in memory, to be read. -/
def TkIn (w : World) (a : Option Addr) (l : List TkP) : Prop := l = [] ∨ ∃ b off, a = some ⟨b, off, none⟩ ∧ b < w.heap.size ∧ ∀ (i : Nat) (s : TkP), l[i]? = some s →
  w.cell? ⟨b, off + i * 4, none⟩ = some (.int .u8 (s.k : Int)) ∧ w.cell? ⟨b, off + i * 4 + 1, none⟩ = some (.string s.t) ∧ w.cell? ⟨b, off + i * 4 + 2, none⟩ = some (.int .i64 s.n) ∧ w.cell? ⟨b, off + i * 4 + 3, none⟩ = some (.int .i64 s.p)
theorem TkIn.below {w w' : World} {a : Option Addr} {l : List TkP} (h : TkIn w a l) (hb : Below w.heap.size w w') : TkIn w' a l := by
  rcases h with h | ⟨b, off, e, hlt, hc⟩
  · exact Or.inl h
  · have c : ∀ o, w'.cell? ⟨b, o, none⟩ = w.cell? ⟨b, o, none⟩ := fun o => hb.cell (p := ⟨b, o, none⟩) hlt
    refine Or.inr ⟨b, off, e, Nat.lt_of_lt_of_le hlt hb.size, fun i s hs => ?_⟩
    rw [c, c, c, c]
    exact hc i s hs
/-- a row of tokens of one's own. -/
def OK (w : World) (B : Nat) (v : Value) (l : List TkP) : Prop := w.ownsRow B 29 4 v l.length (encK l)
theorem OK.tin {w : World} {B : Nat} {v : Value} {l : List TkP} (h : OK w B v l) : ∃ a cap, v = .slice a l.length cap ∧ l.length ≤ cap ∧ TkIn w a l := by
  rcases h.2 with ⟨e, e0⟩ | ⟨g, cap, cur, e1, _, hg, hc, _⟩
  · exact ⟨none, 0, by rw [e, e0], by omega, Or.inl (List.eq_nil_of_length_eq_zero e0)⟩
  · subst e1
    have hcs := World.ownsRow.cells h (g := g) rfl
    refine ⟨some ⟨g, 0, none⟩, cap, rfl, hc, Or.inr ⟨g, 0, rfl, (World.ownsRow.lt h g rfl).2, fun i s hs => ?_⟩⟩
    obtain ⟨e1, e2, e3, e4⟩ := encK_get l i s hs
    have k1 := hcs _ _ e1
    have k2 := hcs _ _ e2
    have k3 := hcs _ _ e3
    have k4 := hcs _ _ e4
    rw [tok_add, Nat.zero_add] at k1 k2 k3 k4
    rw [Nat.zero_add]
    exact ⟨k1, k2, k3, k4⟩
theorem OK.nil (w : World) (B : Nat) : OK w B (.slice none 0 0) [] := ⟨rfl, Or.inl ⟨rfl, rfl⟩⟩
theorem OK.below {w w' : World} {B C : Nat} {v : Value} {l : List TkP} (h : OK w B v l) (hb : Below C w w') (hC : w.heap.size ≤ C) : OK w' B v l := by
  refine ⟨h.1, ?_⟩
  rcases h.2 with h2 | ⟨g, cap, cur, e1, e2, e3, e4⟩
  · exact Or.inl h2
  · exact Or.inr ⟨g, cap, cur, e1, e2, by rw [hb.block g (Nat.lt_of_lt_of_le (Array.getElem?_eq_some_iff.1 e3).1 hC)]; exact e3, e4⟩
theorem OK.bound {w : World} {B : Nat} {v : Value} {l : List TkP} (h : OK w B v l) {k : Nat} (e : v.ownBlock = some k) : B ≤ k ∧ k < w.heap.size := by
  rcases h.2 with ⟨e1, e0⟩ | ⟨g, cap, cur, e1, _, hg, hc, _⟩
  · rw [e1] at e; cases e
  · subst e1
    have : g = k := by simpa [Value.ownBlock] using e
    subst this
    exact World.ownsRow.lt h g rfl
theorem TkIn.one {w : World} {b : Nat} {t : TkP} (hb : b < w.heap.size) (h : w.cell? ⟨b, 0, none⟩ = some (.int .u8 (t.k : Int)) ∧ w.cell? ⟨b, 1, none⟩ = some (.string t.t) ∧ w.cell? ⟨b, 2, none⟩ = some (.int .i64 t.n) ∧ w.cell? ⟨b, 3, none⟩ = some (.int .i64 t.p)) : ∀ j u, (encK [t])[j]? = some u → w.cell? ((⟨b, 0, none⟩ : Addr).add j) = some u := by
  intro j u hj
  rw [tok_add, Nat.zero_add]
  have hj2 : j < 4 := by have := (List.getElem?_eq_some_iff.1 hj).1; rw [encK_len] at this; simpa using this
  obtain ⟨h0, h1, h2, h3⟩ := h
  rcases (by omega : j = 0 ∨ j = 1 ∨ j = 2 ∨ j = 3) with rfl | rfl | rfl | rfl
  · rw [h0, ← hj]; rfl
  · rw [h1, ← hj]; rfl
  · rw [h2, ← hj]; rfl
  · rw [h3, ← hj]; rfl
/-- one token appended. -/
theorem appK (W : World) (B : Nat) (v : Value) (l : List TkP) (t : TkP) (h : OK W B v l) (hB : B ≤ W.heap.size) (b c : Nat) (hb : b < W.heap.size) (hf : W.cell? ⟨b, 0, none⟩ = some (.int .u8 (t.k : Int)) ∧ W.cell? ⟨b, 1, none⟩ = some (.string t.t) ∧ W.cell? ⟨b, 2, none⟩ = some (.int .i64 t.n) ∧ W.cell? ⟨b, 3, none⟩ = some (.int .i64 t.p)) (hn : l.length + 1 ≤ 1048576) :
    ∃ v' w', (Builtin.append_ #[22, 22] 22 #[v, .slice (some ⟨b, 0, none⟩) 1 c]).run Tryd.prog W = .ok v' w' ∧ OK w' B v' (l ++ [t]) ∧ Below B W w' ∧ (∀ q o, q < W.heap.size → v.ownBlock ≠ some q → w'.cell? ⟨q, o, none⟩ = W.cell? ⟨q, o, none⟩) := by
  obtain ⟨i, i1, i0⟩ := Option.map_eq_some_iff.1 tok_info
  have i2 : i.zero = some (.agg #[.int .u8 0, .string ⟨#[]⟩, .int .i64 0, .int .i64 0]) := congrArg (·.1) i0
  have i3 : i.bytes = 40 := congrArg (·.2.1) i0
  have i4 : i.size = 4 := congrArg (·.2.2) i0
  have hml : maxLen = 9223372036854775807 := by decide
  obtain ⟨g, cap, w', hr, own, gr, hat, hlt⟩ := run_append_lies (P := Tryd.prog) W 22 22 B 29 i (.agg #[.int .u8 0, .string ⟨#[]⟩, .int .i64 0, .int .i64 0]) 4 40 Tryd.underlying22 i1 i2 i4 i3 rfl (by omega) v l.length (encK l) h ⟨b, 0, none⟩ 1 c (encK [t]) (encK_len _) (TkIn.one hb hf) (encK_one _) (by omega) (by omega) (by omega) hB _ rfl
  refine ⟨_, w', hr, ?_, (Below.refl B W).grown gr hB (fun k e => (h.bound e).1), fun q o hq hne => ?_⟩
  · unfold OK; rw [List.length_append, encK_append]; exact own
  · exact World.cell?_of_block (w := W) (gr.block q hq (by first | exact hne | exact fun e => hne e.symm))
end Go.Proofs.YtjiiafmbneehhaaDoor.Lx
