
import Derived.Test.YtfpfeecoideedaaGreatDoorKyC
namespace Go.Proofs.YtfpfeecoideedaaGreatDoor
open Go.RowKit Go.Shelf
set_option linter.unusedVariables false
set_option linter.unusedSimpArgs false
theorem tag_info : (Tryz.prog.info? 82).map (fun i => (i.zero, i.bytes, i.size)) = some (some (.agg #[.string ⟨#[]⟩, .string ⟨#[]⟩]), 32, 2) := by kernel_rfl
def encT : List TagP → List Value
  | [] => []
  | t :: r => [.string t.1, .string t.2] ++ encT r
theorem encT_append (a b : List TagP) : encT (a ++ b) = encT a ++ encT b := by
  induction a with
  | nil => rfl
  | cons s r ih => simp [encT, ih]
theorem encT_len (l : List TagP) : (encT l).length = l.length * 2 := by
  induction l with
  | nil => rfl
  | cons s r ih => simp only [encT, List.length_append, ih, List.length_cons, List.length_nil]; omega
theorem encT_one (l : List TagP) : ∀ u ∈ encT l, u.oneCell' = true := by
  induction l with
  | nil => intro u hu; cases hu
  | cons s r ih =>
    intro u hu
    simp only [encT, List.mem_append, List.mem_cons, List.not_mem_nil, or_false] at hu
    rcases hu with (rfl | rfl) | hu
    · rfl
    · rfl
    · exact ih u hu
theorem encT_get (l : List TagP) (i : Nat) (s : TagP) (h : l[i]? = some s) : (encT l)[i * 2]? = some (.string s.1) ∧ (encT l)[i * 2 + 1]? = some (.string s.2) := by
  induction l generalizing i with
  | nil => simp at h
  | cons a r ih =>
    cases i with
    | zero => simp at h; subst h; simp [encT]
    | succ i =>
      simp at h
      have := ih i h
      simp only [encT]
      rw [show (i + 1) * 2 = i * 2 + 2 by omega]
      simpa using this
theorem tag_add (b o j : Nat) : ((⟨b, o, none⟩ : Addr).add j) = ⟨b, o + j, none⟩ := by
  simp [Addr.add]
/-- a row of tags of one's own. -/
def OT (w : World) (B : Nat) (v : Value) (l : List TagP) : Prop := w.ownsRow B 82 2 v l.length (encT l)
theorem OT.tin {w : World} {B : Nat} {v : Value} {l : List TagP} (h : OT w B v l) : ∃ a cap, v = .slice a l.length cap ∧ l.length ≤ cap ∧ TgIn w a l := by
  rcases h.2 with ⟨e, e0⟩ | ⟨g, cap, cur, e1, _, hg, hc, _⟩
  · exact ⟨none, 0, by rw [e, e0], by omega, Or.inl (List.eq_nil_of_length_eq_zero e0)⟩
  · subst e1
    have hcs := World.ownsRow.cells h (g := g) rfl
    refine ⟨some ⟨g, 0, none⟩, cap, rfl, hc, Or.inr ⟨g, 0, rfl, (World.ownsRow.lt h g rfl).2, fun i s hs => ?_⟩⟩
    obtain ⟨e1, e2⟩ := encT_get l i s hs
    have k1 := hcs _ _ e1
    have k2 := hcs _ _ e2
    rw [tag_add, Nat.zero_add] at k1 k2
    rw [Nat.zero_add]
    exact ⟨k1, k2⟩
theorem OT.nil (w : World) (B : Nat) : OT w B (.slice none 0 0) [] := ⟨rfl, Or.inl ⟨rfl, rfl⟩⟩
theorem OT.below {w w' : World} {B C : Nat} {v : Value} {l : List TagP} (h : OT w B v l) (hb : Below C w w') (hC : w.heap.size ≤ C) : OT w' B v l := by
  refine ⟨h.1, ?_⟩
  rcases h.2 with h2 | ⟨g, cap, cur, e1, e2, e3, e4⟩
  · exact Or.inl h2
  · exact Or.inr ⟨g, cap, cur, e1, e2, by rw [hb.block g (Nat.lt_of_lt_of_le (Array.getElem?_eq_some_iff.1 e3).1 hC)]; exact e3, e4⟩
theorem OT.bound {w : World} {B : Nat} {v : Value} {l : List TagP} (h : OT w B v l) {k : Nat} (e : v.ownBlock = some k) : B ≤ k ∧ k < w.heap.size := by
  rcases h.2 with ⟨e1, e0⟩ | ⟨g, cap, cur, e1, _, hg, hc, _⟩
  · rw [e1] at e; cases e
  · subst e1
    have : g = k := by simpa [Value.ownBlock] using e
    subst this
    exact World.ownsRow.lt h g rfl
theorem TgIn.news {w : World} {ad : Addr} {l : List TagP} (h : TgIn w (some ad) l) : (∀ j u, (encT l)[j]? = some u → w.cell? (ad.add j) = some u) := by
  rcases h with e | ⟨b, off, e, hb, hc⟩
  · subst e; simp [encT]
  · cases e
    intro j u hj
    have hj2 : j < l.length * 2 := by rw [← encT_len]; exact (List.getElem?_eq_some_iff.1 hj).1
    obtain ⟨s, hs⟩ : ∃ s, l[j / 2]? = some s := ⟨_, List.getElem?_eq_getElem (by omega)⟩
    obtain ⟨e1, e2⟩ := encT_get l _ s hs
    obtain ⟨c1, c2⟩ := hc _ s hs
    rw [tag_add]
    rcases (by omega : j % 2 = 0 ∨ j % 2 = 1) with q | q
    · rw [show j = j / 2 * 2 by omega] at hj ⊢
      rw [e1] at hj
      rw [c1, ← hj]
    · rw [show j = j / 2 * 2 + 1 by omega] at hj ⊢
      rw [e2] at hj
      rw [← Nat.add_assoc, c2, ← hj]
theorem app_noT (W : World) (a ad : Option Addr) (n cap c : Nat) (h : n ≤ cap) : (Builtin.append_ #[22, 22] 22 #[.slice a n cap, .slice ad 0 c]).run Tryz.prog W = .ok (.slice a n cap) W := by
  obtain ⟨i, i1, i0⟩ := Option.map_eq_some_iff.1 tag_info
  cases a <;> cases ad <;> simp [Builtin.append_, run_underlying Tryz.underlying22, sizeOf, typeInfo, i1, Builtin.lenOf, Builtin.firstCells, storeCells, loadCells, loadCellsFrom, h]
/-- tags appended, or none. -/
theorem appT (W : World) (B : Nat) (v : Value) (l f : List TagP) (h : OT W B v l) (hB : B ≤ W.heap.size) (a : Option Addr) (c : Nat) (hf : TgIn W a f) (hn : l.length + f.length ≤ 4398046511104) :
    ∃ v' w', (Builtin.append_ #[22, 22] 22 #[v, .slice a f.length c]).run Tryz.prog W = .ok v' w' ∧ OT w' B v' (l ++ f) ∧ W.grownBy w' v.ownBlock ∧ (v'.ownBlock = v.ownBlock ∨ v'.ownBlock = some W.heap.size) := by
  rcases Nat.eq_zero_or_pos f.length with h0 | h0
  · have e := List.eq_nil_of_length_eq_zero h0
    subst e
    obtain ⟨a1, c1, e1, hc1, _⟩ := h.tin
    exact ⟨v, W, by rw [e1]; exact app_noT _ _ _ _ _ _ hc1, by rw [List.append_nil]; exact h, ⟨rfl, rfl, rfl, Nat.le_refl _, fun k hk hne => rfl⟩, Or.inl rfl⟩
  · have hf' := hf
    rcases hf with e | ⟨b, off, e, hb, hc⟩
    · rw [e] at h0; simp at h0
    · subst e
      obtain ⟨i, i1, i0⟩ := Option.map_eq_some_iff.1 tag_info
      have i2 : i.zero = some (.agg #[.string ⟨#[]⟩, .string ⟨#[]⟩]) := congrArg (·.1) i0
      have i3 : i.bytes = 32 := congrArg (·.2.1) i0
      have i4 : i.size = 2 := congrArg (·.2.2) i0
      have hml : maxLen = 9223372036854775807 := by decide
      obtain ⟨g, cap, w', hr, own, gr, hat, hlt⟩ := run_append_lies (P := Tryz.prog) W 22 22 B 82 i (.agg #[.string ⟨#[]⟩, .string ⟨#[]⟩]) 2 32 Tryz.underlying22 i1 i2 i4 i3 rfl (by omega) v l.length (encT l) h ⟨b, off, none⟩ f.length c (encT f) (encT_len _) hf'.news (encT_one _) h0 (by omega) (by omega) hB _ rfl
      refine ⟨_, w', hr, ?_, gr, ?_⟩
      · unfold OT; rw [List.length_append, encT_append]; exact own
      · rcases hat with e | e
        · exact Or.inl e.symm
        · subst e; exact Or.inr rfl
theorem grown_below {W w' : World} {B : Nat} {v : Value} {l : List TagP} (h : OT W B v l) (hB : B ≤ W.heap.size) (gr : W.grownBy w' v.ownBlock) : Below B W w' := (Below.refl B W).grown gr hB (fun k e => (h.bound e).1)
end Go.Proofs.YtfpfeecoideedaaGreatDoor
