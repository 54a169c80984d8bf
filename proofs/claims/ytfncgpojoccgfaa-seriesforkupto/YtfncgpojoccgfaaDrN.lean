
import Derived.Test.YtfncgpojoccgfaaDrM
namespace Go.Proofs.Ytfncgpojoccgfaa
open Go.RowKit
set_option linter.unusedVariables false
set_option linter.unusedSimpArgs false
set_option maxRecDepth 100000 in
set_option maxHeartbeats 4000000 in
theorem fork_any (N B : Nat) (v : Value) (l : List Smp) (w : World) (h : SS N B v l w) :
    Calls Try.prog 13 #[.pointer (some ⟨N, 0, none⟩)] w fun e w' => ∃ M v', e = .returned (.pointer (some ⟨M, 0, none⟩)) ∧ SS M w.heap.size v' l w' ∧ (∀ g, v'.ownBlock = some g → w.heap.size ≤ g) ∧ Below w.heap.size w w' := by
  obtain ⟨a, cap, rfl, hcap, hL⟩ := h.row.lin h.hk
  have hc : Hid _ := clone_any a cap l w hL h.hn
  have hH : Hid (SS N B (.slice a l.length cap) l w) := h
  have c0 := h.c0
  clear h hL hcap
  obtain ⟨n, hnl⟩ : ∃ n, n = l.length := ⟨_, rfl⟩
  have hnH : Hid (n = l.length) := hnl
  rw [← hnl] at c0 hc
  clear hnl
  go_enter Try.func13, Try.ntmps13
  go_wp2_with fail
  refine Calls.mono hc.out ?_
  rintro e w1 ⟨v', rfl, own, hB⟩
  have hOr : OR w1 w.heap.size v' l := Or.inl (by rw [← hnH.out]; exact own)
  obtain ⟨a1, c1, e1, _⟩ := hOr.lin hH.out.hk
  rw [← hnH.out] at e1
  have hfin : Hid (∀ M W ty, M = w1.heap.size → W = w1.alloc (.cells #[.slice a1 n c1] ty) → SS M w.heap.size (.slice a1 n c1) l W ∧ (∀ g, (Value.slice a1 n c1).ownBlock = some g → w.heap.size ≤ g) ∧ Below w.heap.size w W) := by
    rintro M W ty rfl rfl
    rw [e1] at hOr
    exact ⟨⟨by simp [go_sem], frozen_new _ _ _ _, hOr.below ((Below.refl _ w1).alloc (Nat.le_refl _) _) (Nat.le_refl _), fun e => by have := hOr.lt e; omega, by simp, hB.size, hH.out.hk, hH.out.hr, hH.out.hn⟩, fun g e => hOr.bound e, hB.alloc hB.size _⟩
  rw [e1]
  clear hc own hOr hB
  go_wp2_with fail
  go_ret
  exact ⟨_, _, rfl, hfin.out _ _ _ rfl rfl⟩
def Stp.enc (s : Stp) : List Value := [.int .i64 s.k, .int .i64 s.t, .int .i64 s.u, .int .u8 (s.vk : Int), .int .i64 s.vx, .slice s.la s.ls.length s.lc]
def encS : List Stp → List Value
  | [] => []
  | s :: r => s.enc ++ encS r
theorem encS_append (a b : List Stp) : encS (a ++ b) = encS a ++ encS b := by
  induction a with
  | nil => rfl
  | cons x a ih => simp [encS, ih]
theorem encS_len (l : List Stp) : (encS l).length = l.length * 6 := by
  induction l with
  | nil => rfl
  | cons x a ih => simp [encS, Stp.enc, ih]; omega
theorem encS_one (l : List Stp) : ∀ u ∈ encS l, u.oneCell' = true := by
  induction l with
  | nil => intro u h; cases h
  | cons x a ih =>
    intro u h
    rcases List.mem_append.1 h with h | h
    · simp [Stp.enc] at h
      rcases h with rfl | rfl | rfl | rfl | rfl | rfl <;> rfl
    · exact ih u h
theorem encS_get (D : List Stp) : ∀ (i : Nat) (d : Stp), D[i]? = some d → ∀ j, j < 6 → (encS D)[i * 6 + j]? = d.enc[j]? := by
  induction D with
  | nil => intro i d h; simp at h
  | cons a r ih =>
    intro i d h j hj
    cases i with
    | zero =>
      simp at h
      subst h
      rw [encS, List.getElem?_append_left (by simp [Stp.enc]; omega)]
      simp
    | succ i =>
      simp at h
      rw [encS, List.getElem?_append_right (by simp [Stp.enc]; omega)]
      have : (i + 1) * 6 + j - a.enc.length = i * 6 + j := by simp [Stp.enc]; omega
      rw [this]
      exact ih i d h j hj
theorem stp_info : (Try.prog.info? 36).map (fun i => (i.zero, i.bytes, i.size)) = some (some (.agg #[.int .i64 0, .int .i64 0, .int .i64 0, .int .u8 0, .int .i64 0, .slice none 0 0]), 64, 6) := by kernel_rfl
def OS (w : World) (B : Nat) (v : Value) (l : List Stp) : Prop := w.ownsRow B 36 6 v l.length (encS l) ∨ (l = [] ∧ ∃ g, v = .slice (some ⟨g, 0, none⟩) 0 0 ∧ B ≤ g ∧ g < w.heap.size)
theorem OS.bound {w : World} {B : Nat} {v : Value} {l : List Stp} (h : OS w B v l) {g : Nat} (hg : v.ownBlock = some g) : B ≤ g := by
  rcases h with h | ⟨_, g', rfl, hb, _⟩
  · exact (h.lt g hg).1
  · simp [Value.ownBlock] at hg; omega
/-- steps that lie there. -/
def SLn (w : World) (a : Option Addr) (f : List Stp) : Prop := f = [] ∨ ∃ b off, a = some ⟨b, off, none⟩ ∧ b < w.heap.size ∧ ∀ j u, (encS f)[j]? = some u → w.cell? ⟨b, off + j, none⟩ = some u
theorem SLn.below {w w' : World} {a : Option Addr} {f : List Stp} (h : SLn w a f) (hB : Below w.heap.size w w') : SLn w' a f := by
  rcases h with h | ⟨b, off, e, hb, hc⟩
  · exact Or.inl h
  · exact Or.inr ⟨b, off, e, Nat.lt_of_lt_of_le hb hB.size, fun j u hj => by rw [hB.cell (p := ⟨b, off + j, none⟩) hb]; exact hc j u hj⟩
theorem app_noS (W : World) (a ad : Option Addr) (n cap c : Nat) (h : n ≤ cap) : (Builtin.append_ #[22, 22] 22 #[.slice a n cap, .slice ad 0 c]).run Try.prog W = .ok (.slice a n cap) W := by
  obtain ⟨i, i1, i0⟩ := Option.map_eq_some_iff.1 stp_info
  cases a <;> cases ad <;> simp [Builtin.append_, run_underlying Try.underlying22, sizeOf, typeInfo, i1, Builtin.lenOf, Builtin.firstCells, storeCells, loadCells, loadCellsFrom, h]
theorem app_rowS (W : World) (B : Nat) (v : Value) (l f : List Stp) (h : OS W B v l) (hB : B ≤ W.heap.size) (ad : Addr) (c : Nat) (hnews : ∀ j u, (encS f)[j]? = some u → W.cell? (ad.add j) = some u) (hm : 0 < f.length) (hn : l.length + f.length ≤ 1099511627776) :
    ∃ g cap w', (Builtin.append_ #[22, 22] 22 #[v, .slice (some ad) f.length c]).run Try.prog W = .ok (.slice (some ⟨g, 0, none⟩) (l.length + f.length) cap) w' ∧ w'.ownsRow B 36 6 (.slice (some ⟨g, 0, none⟩) (l.length + f.length) cap) (l.length + f.length) (encS (l ++ f)) ∧ W.grownBy w' v.ownBlock := by
  obtain ⟨i, i1, i0⟩ := Option.map_eq_some_iff.1 stp_info
  have i2 : i.zero = some (.agg #[.int .i64 0, .int .i64 0, .int .i64 0, .int .u8 0, .int .i64 0, .slice none 0 0]) := congrArg (·.1) i0
  have i3 : i.bytes = 64 := congrArg (·.2.1) i0
  have i4 : i.size = 6 := congrArg (·.2.2) i0
  have hml : maxLen = 9223372036854775807 := by decide
  rw [encS_append]
  rcases h with h | ⟨rfl, g0, rfl, hb0, _⟩
  · obtain ⟨g, cap, w', h1, h2, h3, _⟩ := run_append_lies (P := Try.prog) W 22 _ B 36 i (.agg #[.int .i64 0, .int .i64 0, .int .i64 0, .int .u8 0, .int .i64 0, .slice none 0 0]) 6 64 Try.underlying22 i1 i2 i4 i3 rfl (by omega) v l.length (encS l) h ad f.length c (encS f) (encS_len _) hnews (encS_one _) hm (by omega) (by omega) hB _ rfl
    exact ⟨g, cap, w', h1, h2, h3⟩
  · have hr := run_append_grow (P := Try.prog) W 22 22 36 i (.agg #[.int .i64 0, .int .i64 0, .int .i64 0, .int .u8 0, .int .i64 0, .slice none 0 0]) Try.underlying22 i1 i2 ⟨g0, 0, none⟩ 0 0 [] (by simp) (by simp) ad f.length c (encS f) (by rw [i4]; exact encS_len _) hnews (by omega) (by simp at hn; omega) (growslice_fits (by omega) (by rw [i3]; simp at hn; omega))
    have hge := grownCap_ge W (0 + f.length) 0 36
    have hcm : grownCap W (0 + f.length) 0 36 ≤ maxLen := grownCap_le_maxLen W (0 + f.length) 0 36 (by simp at hn; omega)
    refine ⟨_, _, _, hr, ⟨by simp [encS, encS_len], .inr ⟨W.heap.size, _, _, rfl, hB, heap_alloc_new W.drew _, hge, hcm, ?_, ?_⟩⟩, ⟨rfl, rfl, rfl, by simp, fun k hk _ => Below.heap_alloc W.drew _ k hk⟩⟩
    · have : (Value.cells (.agg #[.int .i64 0, .int .i64 0, .int .i64 0, .int .u8 0, .int .i64 0, .slice none 0 0])).size = 6 := rfl
      simp only [Array.size_append, List.size_toArray, size_zeroCells, this, encS_len, List.length_nil]
      omega
    · simp only [Array.toList_append, List.append_assoc, encS, List.nil_append, List.length_nil, Nat.zero_add]
      rw [← encS_len]
      simp
theorem OS.form {w : World} {B : Nat} {v : Value} {l : List Stp} (h : OS w B v l) : ∃ a cap, v = .slice a l.length cap ∧ l.length ≤ cap := by
  rcases h with h | ⟨e, g, rfl, _⟩
  · rcases h.2 with ⟨e, e0⟩ | ⟨g, cap, cur, e1, _, hg, hc, _⟩
    · exact ⟨none, 0, by rw [e, e0], by omega⟩
    · exact ⟨_, cap, e1, hc⟩
  · exact ⟨_, 0, by rw [e]; rfl, by rw [e]; simp⟩
/-- steps appended, or none. -/
theorem app_genS (W : World) (B : Nat) (v : Value) (l f : List Stp) (h : OS W B v l) (hB : B ≤ W.heap.size) (a : Option Addr) (c : Nat) (hf : SLn W a f) (hn : l.length + f.length ≤ 1099511627776) :
    ∃ v' w', (Builtin.append_ #[22, 22] 22 #[v, .slice a f.length c]).run Try.prog W = .ok v' w' ∧ OS w' B v' (l ++ f) ∧ Below B W w' := by
  rcases Nat.eq_zero_or_pos f.length with h0 | h0
  · have e := List.eq_nil_of_length_eq_zero h0
    subst e
    obtain ⟨a1, c1, e1, hc1⟩ := h.form
    exact ⟨v, W, by rw [e1]; exact app_noS _ _ _ _ _ _ hc1, by rw [List.append_nil]; exact h, Below.refl _ _⟩
  · rcases hf with e | ⟨b, off, e, hb, hc⟩
    · rw [e] at h0; simp at h0
    · subst e
      obtain ⟨g, cap, w', hr, own, gr⟩ := app_rowS W B v l f h hB ⟨b, off, none⟩ c (fun j u hj => by rw [smp_add]; exact hc j u hj) h0 hn
      refine ⟨_, w', hr, Or.inl ?_, (Below.refl B W).grown gr hB (fun k e => h.bound e)⟩
      rw [List.length_append]
      exact own
def stL (st : Nat → Stp) (n : Nat) : List Stp := (List.range n).map st
theorem stL_len (st : Nat → Stp) (n : Nat) : (stL st n).length = n := by simp [stL]
theorem stL_get (st : Nat → Stp) {n i : Nat} (h : i < n) : (stL st n)[i]? = some (st i) := by simp [stL, h]
theorem StIn.sln {w : World} {a : Option Addr} {n : Nat} {st : Nat → Stp} (h : StIn w a n st) : SLn w a (stL st n) := by
  rcases h.2.2 with h0 | ⟨b, off, e, hb, hc⟩
  · left; subst h0; rfl
  · refine Or.inr ⟨b, off, e, hb, fun j u hj => ?_⟩
    have hjl := (List.getElem?_eq_some_iff.1 hj).1
    rw [encS_len, stL_len] at hjl
    have hi : j / 6 < n := by omega
    obtain ⟨c0, c1, c2, c3, c4, c5⟩ := hc (j / 6) hi
    have hg := encS_get (stL st n) (j / 6) (st (j / 6)) (stL_get st hi) (j % 6) (by omega)
    rw [show j / 6 * 6 + j % 6 = j by omega, hj] at hg
    have hr : j % 6 < 6 := by omega
    rw [show off + j = off + j / 6 * 6 + j % 6 by omega]
    generalize j % 6 = r at *
    match r, hr with
    | 0, _ => simp [Stp.enc] at hg; rw [hg]; exact c0
    | 1, _ => simp [Stp.enc] at hg; rw [hg]; exact c1
    | 2, _ => simp [Stp.enc] at hg; rw [hg]; exact c2
    | 3, _ => simp [Stp.enc] at hg; rw [hg]; exact c3
    | 4, _ => simp [Stp.enc] at hg; rw [hg]; exact c4
    | 5, _ => simp [Stp.enc] at hg; rw [hg]; exact c5
instance instStp : Inhabited Stp := ⟨⟨0, 0, 0, 0, 0, none, 0, []⟩⟩
theorem OS.stin {w : World} {B : Nat} {v : Value} {F : List Stp} (h : OS w B v F) (hn : F.length ≤ 2199023255552) (hk : ∀ s ∈ F, s.ok) : ∃ a cap, v = .slice a F.length cap ∧ StIn w a F.length (fun i => F.getD i default) := by
  have hok : ∀ i, i < F.length → (F.getD i default).ok := fun i hi => by
    rw [List.getD_eq_getElem?_getD, List.getElem?_eq_getElem hi]; exact hk _ (List.getElem_mem hi)
  rcases h with h | ⟨e, g, e2, _⟩
  · rcases h.2 with ⟨e, e0⟩ | ⟨g, cap, cur, e1, _⟩
    · exact ⟨none, 0, by rw [e, e0], hn, hok, Or.inl e0⟩
    · refine ⟨_, cap, e1, hn, hok, Or.inr ⟨g, 0, rfl, (h.lt g (by rw [e1]; rfl)).2, fun i hi => ?_⟩⟩
      have hg : F[i]? = some (F.getD i default) := by rw [List.getD_eq_getElem?_getD, List.getElem?_eq_getElem hi]; rfl
      have hc : ∀ r, r < 6 → w.cell? ⟨g, 0 + i * 6 + r, none⟩ = (F.getD i default).enc[r]? := fun r hr => by
        subst e1
        have hz : i * 6 + r < (encS F).length := by rw [encS_len]; omega
        have := h.cells (g := g) rfl (i * 6 + r) _ (List.getElem?_eq_getElem hz)
        rw [smp_add] at this
        rw [Nat.add_assoc, this, ← List.getElem?_eq_getElem hz, encS_get F i _ hg r hr]
      exact ⟨hc 0 (by omega), hc 1 (by omega), hc 2 (by omega), hc 3 (by omega), hc 4 (by omega), hc 5 (by omega)⟩
  · exact ⟨_, 0, by rw [e2, e]; rfl, hn, hok, Or.inl (by rw [e]; rfl)⟩
end Go.Proofs.Ytfncgpojoccgfaa
