
import Derived.Test.YtlcppkemiogbeaaBaG
namespace Go.Proofs.Ytlcppkemiogbeaa
open Go.RowKit _root_.Go.Proofs.Ytlcppkemiogbeaa.So
set_option linter.unusedVariables false
set_option linter.unusedSimpArgs false
/-! ### what Order tells, plain: of each series and time the last, in order -/
def kV (x : WrP) : (SerP × Int) × (Nat × Int) := ((x.s, x.tm), (x.kd, x.n))
/-- of the first k places in order those that begin a key. -/
def ordL (l : List WrP) (out : List Nat) : Nat → List WrP
  | 0 => []
  | k + 1 => ordL l out k ++ (if k = 0 ∨ wC (atW l (out.getD (k - 1) 0)) (atW l (out.getD k 0)) ≠ 0 then [atW l (out.getD k 0)] else [])
theorem ordL_len (l : List WrP) (out : List Nat) : ∀ k, (ordL l out k).length ≤ k
  | 0 => Nat.le_refl _
  | k + 1 => by
    have := ordL_len l out k
    unfold ordL
    rw [List.length_append]
    split <;> simp <;> omega
/-! ### samples appended -/
abbrev WrA := WrP × Option Addr × Nat
def encW : List WrA → List Value
  | [] => []
  | t :: r => [.string t.1.s.m, .slice t.2.1 t.1.s.t.length t.2.2, .string t.1.s.f, .int .i64 t.1.tm, .int .u8 (t.1.kd : Int), .int .i64 t.1.n] ++ encW r
theorem encW_append (a b : List WrA) : encW (a ++ b) = encW a ++ encW b := by
  induction a with
  | nil => rfl
  | cons s r ih => simp [encW, ih]
theorem encW_len (l : List WrA) : (encW l).length = l.length * 6 := by
  induction l with
  | nil => rfl
  | cons s r ih => simp only [encW, List.length_append, ih, List.length_cons, List.length_nil]; omega
theorem encW_one (l : List WrA) : ∀ u ∈ encW l, u.oneCell' = true := by
  induction l with
  | nil => intro u hu; cases hu
  | cons s r ih =>
    intro u hu
    simp only [encW, List.mem_append, List.mem_cons, List.not_mem_nil, or_false] at hu
    rcases hu with (rfl | rfl | rfl | rfl | rfl | rfl) | hu
    · rfl
    · rfl
    · rfl
    · rfl
    · rfl
    · rfl
    · exact ih u hu
theorem encW_get (l : List WrA) (i : Nat) (s : WrA) (h : l[i]? = some s) : (encW l)[i * 6]? = some (.string s.1.s.m) ∧ (encW l)[i * 6 + 1]? = some (.slice s.2.1 s.1.s.t.length s.2.2) ∧ (encW l)[i * 6 + 2]? = some (.string s.1.s.f) ∧ (encW l)[i * 6 + 3]? = some (.int .i64 s.1.tm) ∧ (encW l)[i * 6 + 4]? = some (.int .u8 (s.1.kd : Int)) ∧ (encW l)[i * 6 + 5]? = some (.int .i64 s.1.n) := by
  induction l generalizing i with
  | nil => simp at h
  | cons a r ih =>
    cases i with
    | zero => simp at h; subst h; simp [encW]
    | succ i =>
      simp at h
      have := ih i h
      simp only [encW]
      rw [show (i + 1) * 6 = i * 6 + 6 by omega]
      simpa using this
theorem wr_info : (Try.prog.info? 37).map (fun i => (i.zero, i.bytes, i.size)) = some (some (.agg #[.string ⟨#[]⟩, .slice none 0 0, .string ⟨#[]⟩, .int .i64 0, .int .u8 0, .int .i64 0]), 80, 6) := by kernel_rfl
/-- a row of samples of one's own, each with its tags somewhere. -/
def OW (w : World) (B : Nat) (v : Value) (L : List WrA) : Prop := w.ownsRow B 37 6 v L.length (encW L) ∧ ∀ t ∈ L, SerIn w t.2.1 t.1.s
theorem OW.nil (w : World) (B : Nat) : OW w B (.slice none 0 0) [] := ⟨⟨rfl, Or.inl ⟨rfl, rfl⟩⟩, fun t h => by cases h⟩
theorem OW.below {w w' : World} {B : Nat} {v : Value} {L : List WrA} (h : OW w B v L) (hb : Below w.heap.size w w') : OW w' B v L := by
  refine ⟨⟨h.1.1, ?_⟩, fun t ht => (h.2 t ht).belowW hb⟩
  rcases h.1.2 with h2 | ⟨g, cap, cur, e1, e2, e3, e4⟩
  · exact Or.inl h2
  · exact Or.inr ⟨g, cap, cur, e1, e2, by rw [hb.block g (Array.getElem?_eq_some_iff.1 e3).1]; exact e3, e4⟩
theorem OW.win {w : World} {B : Nat} {v : Value} {L : List WrA} (h : OW w B v L) : ∃ a cap, v = .slice a L.length cap ∧ WIn w a (L.map (·.1)) := by
  rcases h.1.2 with ⟨e, e0⟩ | ⟨g, cap, cur, e1, _, hg, hc, _⟩
  · exact ⟨none, 0, by rw [e, e0], Or.inl (by rw [List.eq_nil_of_length_eq_zero e0]; rfl)⟩
  · subst e1
    have hcs := World.ownsRow.cells h.1 (g := g) rfl
    refine ⟨some ⟨g, 0, none⟩, cap, rfl, Or.inr ⟨g, 0, rfl, (World.ownsRow.lt h.1 g rfl).2, fun i x hx => ?_⟩⟩
    rw [List.getElem?_map, Option.map_eq_some_iff] at hx
    obtain ⟨t, ht, rfl⟩ := hx
    obtain ⟨e1, e2, e3, e4, e5, e6⟩ := encW_get L i t ht
    have k1 := hcs _ _ e1
    have k2 := hcs _ _ e2
    have k3 := hcs _ _ e3
    have k4 := hcs _ _ e4
    have k5 := hcs _ _ e5
    have k6 := hcs _ _ e6
    rw [tag_add, Nat.zero_add] at k1 k2 k3 k4 k5 k6
    rw [Nat.zero_add]
    exact ⟨t.2.1, t.2.2, ⟨k1, k2, k3, k4, k5, k6⟩, h.2 t (List.mem_of_getElem? ht)⟩
/-- one more. -/
theorem app1W (W : World) (B : Nat) (v : Value) (L : List WrA) (h : OW W B v L) (hB : B ≤ W.heap.size) (t : WrA) (ht : SerIn W t.2.1 t.1.s) (hn : L.length + 1 ≤ 1099511627776) :
    ∃ a c w', (Builtin.append_ #[28, 28] 28 #[v, .slice (some ⟨W.heap.size, 0, none⟩) 1 1]).run Try.prog (W.alloc (.cells #[.string t.1.s.m, .slice t.2.1 t.1.s.t.length t.2.2, .string t.1.s.f, .int .i64 t.1.tm, .int .u8 (t.1.kd : Int), .int .i64 t.1.n] 37)) = .ok (.slice a (L.length + 1) c) w' ∧ w'.ownsRow B 37 6 (.slice a (L.length + 1) c) (L ++ [t]).length (encW (L ++ [t])) ∧ W.grownBy w' (if B ≤ B then v.ownBlock else none) ∧ Below B W w' := by
  have b1 : Below W.heap.size W (W.alloc (.cells #[.string t.1.s.m, .slice t.2.1 t.1.s.t.length t.2.2, .string t.1.s.f, .int .i64 t.1.tm, .int .u8 (t.1.kd : Int), .int .i64 t.1.n] 37)) := (Below.refl _ W).alloc (Nat.le_refl _) _
  have ho2 := (h.below b1).1
  obtain ⟨i, i1, i0⟩ := Option.map_eq_some_iff.1 wr_info
  have i2 : i.zero = some (.agg #[.string ⟨#[]⟩, .slice none 0 0, .string ⟨#[]⟩, .int .i64 0, .int .u8 0, .int .i64 0]) := congrArg (·.1) i0
  have i3 : i.bytes = 80 := congrArg (·.2.1) i0
  have i4 : i.size = 6 := congrArg (·.2.2) i0
  have hml : maxLen = 9223372036854775807 := by decide
  have hB2 := Nat.le_trans hB b1.size
  obtain ⟨g, cap, w', hr, own, gr, hat, hlt⟩ := run_append_lies (P := Try.prog) _ 28 28 B 37 i (.agg #[.string ⟨#[]⟩, .slice none 0 0, .string ⟨#[]⟩, .int .i64 0, .int .u8 0, .int .i64 0]) 6 80 Try.underlying28 i1 i2 i4 i3 rfl (by omega) v L.length (encW L) ho2 ⟨W.heap.size, 0, none⟩ 1 1 (encW [t]) rfl (fun j u hj => by
    rcases j with _ | _ | _ | _ | _ | _ | j <;> simp [encW] at hj <;> (try (subst hj; simp [go_sem]))) (encW_one _) (by omega) (by omega) (by omega) hB2 _ rfl
  refine ⟨_, cap, w', hr, ?_, ?_, (b1.mono hB).trans ((Below.refl B _).grown gr hB2 (fun k e => (World.ownsRow.lt ho2 k e).1))⟩
  · rw [List.length_append, List.length_singleton, encW_append]; exact own
  · rw [if_pos (Nat.le_refl _)]
    exact ⟨gr.os, gr.tape, gr.output, Nat.le_trans b1.size gr.size, fun k hk hne => by rw [gr.block k (Nat.lt_of_lt_of_le hk b1.size) hne]; exact b1.block k hk⟩
end Go.Proofs.Ytlcppkemiogbeaa
