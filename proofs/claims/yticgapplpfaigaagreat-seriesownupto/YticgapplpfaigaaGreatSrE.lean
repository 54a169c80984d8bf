
import Derived.Test.YticgapplpfaigaaGreatSrD
namespace Go.Proofs.YticgapplpfaigaaGreat
open Go.RowKit
set_option linter.unusedVariables false
set_option linter.unusedSimpArgs false
/-- samples laid into others, the last one first. -/
def layR (l : List Smp) : List Smp → Nat → List Smp → List Smp
  | [], e, r => l.take e ++ r
  | s :: fs, e, r => layR l fs (ahd (l.take e) s.t) (s :: (l.take e).drop (ahd (l.take e) s.t) ++ r)
def layL (l f : List Smp) : List Smp := layR l f.reverse l.length []
theorem layR_mem (l : List Smp) : ∀ (fs : List Smp) (e : Nat) (r : List Smp) (x : Smp), x ∈ layR l fs e r ↔ x ∈ l.take e ∨ x ∈ fs ∨ x ∈ r
  | [], e, r, x => by simp [layR]
  | s :: fs, e, r, x => by
    rw [layR, layR_mem l fs]
    have ht : l.take (ahd (l.take e) s.t) = (l.take e).take (ahd (l.take e) s.t) := by
      rw [List.take_take, Nat.min_eq_left]
      have := ahd_le (l.take e) s.t
      rw [List.length_take] at this; omega
    rw [ht]
    have : x ∈ l.take e ↔ x ∈ (l.take e).take (ahd (l.take e) s.t) ∨ x ∈ (l.take e).drop (ahd (l.take e) s.t) := by
      conv => lhs; rw [← List.take_append_drop (ahd (l.take e) s.t) (l.take e)]
      rw [List.mem_append]
    rw [this]
    simp only [List.mem_append, List.mem_cons]
    constructor
    · rintro (h | h | (h | h) | h)
      · exact Or.inl (Or.inl h)
      · exact Or.inr (Or.inl (Or.inr h))
      · exact Or.inr (Or.inl (Or.inl h))
      · exact Or.inl (Or.inr h)
      · exact Or.inr (Or.inr h)
    · rintro ((h | h) | (h | h) | h)
      · exact Or.inl h
      · exact Or.inr (Or.inr (Or.inl (Or.inr h)))
      · exact Or.inr (Or.inr (Or.inl (Or.inl h)))
      · exact Or.inr (Or.inl h)
      · exact Or.inr (Or.inr (Or.inr h))
theorem layR_len (l : List Smp) : ∀ (fs : List Smp) (e : Nat) (r : List Smp), e ≤ l.length → (layR l fs e r).length = e + fs.length + r.length
  | [], e, r, he => by simp [layR, Nat.min_eq_left he]
  | s :: fs, e, r, he => by
    have h1 := ahd_le (l.take e) s.t
    rw [List.length_take, Nat.min_eq_left he] at h1
    rw [layR, layR_len l fs _ _ (by omega)]
    simp [Nat.min_eq_left he]
    omega
theorem layR_rise (l : List Smp) : ∀ (fs : List Smp) (e : Nat) (r : List Smp), Rise (l.take e ++ r) → (∀ s ∈ fs, ∀ y ∈ r, s.t < y.t) → fs.Pairwise (fun a b => b.t < a.t) → (∀ s ∈ fs, ∀ y ∈ l, y.t ≠ s.t) → Rise (layR l fs e r)
  | [], e, r, h, _, _, _ => h
  | s :: fs, e, r, h, h1, h2, h3 => by
    rw [layR]
    have hr : Rise (l.take e) := (List.pairwise_append.1 h).1
    obtain ⟨p, hp⟩ : ∃ p, p = ahd (l.take e) s.t := ⟨_, rfl⟩
    rw [← hp]
    have hpl : p ≤ (l.take e).length := by rw [hp]; exact ahd_le _ _
    have ht : l.take p = (l.take e).take p := by
      rw [List.take_take, Nat.min_eq_left]
      rw [List.length_take] at hpl; omega
    have lo : ∀ y ∈ (l.take e).take p, y.t < s.t := by
      intro y hy
      obtain ⟨j, hj⟩ := List.getElem?_of_mem hy
      rw [List.getElem?_take] at hj
      split at hj
      · rename_i hjp; exact (ahd_iff hr s.t hj).1 (by omega)
      · cases hj
    have hi : ∀ y ∈ (l.take e).drop p, s.t < y.t := by
      intro y hy
      obtain ⟨j, hj⟩ := List.getElem?_of_mem hy
      rw [List.getElem?_drop] at hj
      have k1 : ¬ y.t < s.t := fun hh => by have := (ahd_iff hr s.t hj).2 hh; omega
      have k2 := h3 s (by simp) y (List.mem_of_mem_take (List.mem_of_getElem? hj))
      omega
    refine layR_rise l fs p _ ?_ ?_ (List.pairwise_cons.1 h2).2 (fun y hy => h3 y (by simp [hy]))
    · rw [ht]
      unfold Rise
      rw [List.pairwise_append]
      have ha : ((l.take e).take p ++ (l.take e).drop p ++ r).Pairwise (fun a b => a.t < b.t) := by rw [List.take_append_drop]; exact h
      rw [List.pairwise_append, List.pairwise_append] at ha
      obtain ⟨⟨a1, a2, a3⟩, a4, a5⟩ := ha
      refine ⟨a1, ?_, ?_⟩
      · rw [List.cons_append, List.pairwise_cons]
        refine ⟨fun y hy => ?_, ?_⟩
        · rcases List.mem_append.1 hy with hy | hy
          · exact hi y hy
          · exact h1 s (by simp) y hy
        · rw [List.pairwise_append]
          exact ⟨a2, a4, fun x hx y hy => a5 x (List.mem_append.2 (Or.inr hx)) y hy⟩
      · intro x hx y hy
        rw [List.cons_append, List.mem_cons, List.mem_append] at hy
        rcases hy with rfl | hy | hy
        · exact lo x hx
        · exact a3 x hx y hy
        · exact a5 x (List.mem_append.2 (Or.inl hx)) y hy
    · intro y hy z hz
      have hys := (List.pairwise_cons.1 h2).1 y hy
      rw [List.cons_append, List.mem_cons, List.mem_append] at hz
      rcases hz with rfl | hz | hz
      · exact hys
      · have := hi z hz; omega
      · exact h1 y (by simp [hy]) z hz
theorem rise_eq : ∀ {a b : List Smp}, Rise a → Rise b → (∀ x, x ∈ a ↔ x ∈ b) → a = b
  | [], [], _, _, _ => rfl
  | [], y :: b, _, _, h => by have := (h y).2 (by simp); cases this
  | x :: a, [], _, _, h => by have := (h x).1 (by simp); cases this
  | x :: a, y :: b, ha, hb, h => by
    have ha1 := (List.pairwise_cons.1 ha).1
    have hb1 := (List.pairwise_cons.1 hb).1
    have e : x = y := by
      have h1 := (h x).1 (by simp)
      have h2 := (h y).2 (by simp)
      rcases List.mem_cons.1 h1 with e | h1
      · exact e
      · rcases List.mem_cons.1 h2 with e | h2
        · exact e.symm
        · have := hb1 x h1; have := ha1 y h2; omega
    subst e
    congr 1
    refine rise_eq (List.pairwise_cons.1 ha).2 (List.pairwise_cons.1 hb).2 (fun z => ⟨fun hz => ?_, fun hz => ?_⟩)
    · rcases List.mem_cons.1 ((h z).1 (by simp [hz])) with e | h1
      · subst e; have := ha1 z hz; omega
      · exact h1
    · rcases List.mem_cons.1 ((h z).2 (by simp [hz])) with e | h1
      · subst e; have := hb1 z hz; omega
      · exact h1
theorem step_copy_run {P : Program} {ops : Array Oper} {o : Oper} {a : Act} {w : World} {K : Act → World → Prop} {Q : Exit → Act → World → Prop} {E : Prop}
    (hg : o.guard = none) (s x : Operand) (t : TypeId) (hop : o.op = Op.call { callee := Callee.builtin Builtin.copy, args := #[s, x], argTypes := #[t, t] })
    (v y v' : Value) (w' : World) (hs : a.eval s = v) (hx : a.eval x = y) (hr : (Builtin.copy_ #[t, t] o.type #[v, y]).run P w = .ok v' w') (hK : K (a.put o.dst v') w') :
    if Region.wanted o (yielded ops a.tmps) = true then Oper.wp P o a w K Q else E := by
  have hw : Region.wanted o (yielded ops a.tmps) = true := by simp [Region.wanted, hg]
  rw [if_pos hw]
  unfold Oper.wp execOp
  simp only [hop, resolve, invoke, builtin, Sem.run_bind, Sem.run_pure, Result.andThen_ok, List.map_toArray, List.map_cons, List.map_nil, hs, hx, hr]
  exact hK
theorem copy_zero (w : World) (d s : Option Addr) (dLen dCap sCap : Nat) : (Builtin.copy_ #[62, 62] 3 #[.slice d dLen dCap, .slice s 0 sCap]).run Tryz.prog w = .ok (goInt (0 : Nat)) w := by
  obtain ⟨i, i1, i0⟩ := Option.map_eq_some_iff.1 smp_info
  cases d <;> cases s <;> simp [Builtin.copy_, run_underlying Tryz.underlying62, Builtin.lenOf, Builtin.firstCells, sizeOf, typeInfo, i1, storeCells, loadCells, loadCellsFrom, goInt]
theorem own_set3 {w : World} {B g cap n : Nat} {l : List Smp} (h : w.ownsRow B 89 3 (.slice (some ⟨g, 0, none⟩) n cap) n (encL l)) {i : Nat} (hi : i < l.length) (s : Smp) :
    (((w.setCell ⟨g, i * 3, none⟩ (.int .i64 s.t)).setCell ⟨g, i * 3 + 1, none⟩ (.int .u8 (s.k : Int))).setCell ⟨g, i * 3 + 2, none⟩ (.int .i64 s.x)).ownsRow B 89 3 (.slice (some ⟨g, 0, none⟩) n cap) n (encL (l.set i s)) := by
  have h2 := (((h.stored (i * 3) (.int .i64 s.t)).1.stored (i * 3 + 1) (.int .u8 (s.k : Int))).1.stored (i * 3 + 2) (.int .i64 s.x)).1
  have e : encL (l.set i s) = (((encL l).set (i * 3) (.int .i64 s.t)).set (i * 3 + 1) (.int .u8 (s.k : Int))).set (i * 3 + 2) (.int .i64 s.x) := by
    clear h h2
    induction l generalizing i with
    | nil => simp at hi
    | cons a r ih =>
      cases i with
      | zero => simp [encL, Smp.enc]
      | succ i =>
        simp at hi
        rw [List.set_cons_succ, show (i + 1) * 3 = i * 3 + 3 by omega]
        simp [encL, Smp.enc, ih hi]
  rw [e]
  exact h2
theorem lay_list (l mid rest : List Smp) (e i p : Nat) (s : Smp) (he : e ≤ l.length) (hm : mid.length = i + 1) (ha : p ≤ e) : ∃ mid' : List Smp, mid'.length = i ∧
    ((l.take e ++ mid ++ rest).take (p + i + 1) ++ ((l.take e ++ mid ++ rest).drop p).take (e - p) ++ (l.take e ++ mid ++ rest).drop (p + i + 1 + (e - p))).set (p + i) s = l.take p ++ mid' ++ (s :: (l.take e).drop p ++ rest) := by
  have hA : (l.take e).length = e := by rw [List.length_take]; omega
  have h1 : (l.take e ++ mid ++ rest).drop (p + i + 1 + (e - p)) = rest := by
    rw [show p + i + 1 + (e - p) = (l.take e ++ mid).length by rw [List.length_append, hA, hm]; omega, List.drop_left]
  have h2 : ((l.take e ++ mid ++ rest).drop p).take (e - p) = (l.take e).drop p := by
    rw [List.append_assoc, List.drop_append_of_le_length (by omega), show e - p = ((l.take e).drop p).length by rw [List.length_drop, hA], List.take_left]
  obtain ⟨T, hT⟩ : ∃ T, T = (l.take e ++ mid ++ rest).take (p + i) := ⟨_, rfl⟩
  have hlen : p + i < (l.take e ++ mid ++ rest).length := by rw [List.length_append, List.length_append, hA, hm]; omega
  have hTl : T.length = p + i := by rw [hT, List.length_take]; omega
  have h3 : (l.take e ++ mid ++ rest).take (p + i + 1) = T ++ [(l.take e ++ mid ++ rest)[p + i]] := by rw [hT, List.take_succ_eq_append_getElem hlen]
  have h4 : T.take p = l.take p := by
    rw [hT, List.take_take, Nat.min_eq_left (by omega), List.append_assoc, List.take_append_of_le_length (by omega), List.take_take, Nat.min_eq_left ha]
  refine ⟨T.drop p, by rw [List.length_drop, hTl]; omega, ?_⟩
  rw [h1, h2, h3]
  generalize (l.take e ++ mid ++ rest)[p + i] = y
  have h5 : (T ++ [y] ++ (l.take e).drop p ++ rest).set (p + i) s = T ++ s :: ((l.take e).drop p ++ rest) := by
    rw [← hTl]
    simp [List.set_append]
  rw [h5, ← h4, List.take_append_drop]
  simp
theorem own_take {w : World} {B g cap n m : Nat} {l : List Smp} (h : w.ownsRow B 89 3 (.slice (some ⟨g, 0, none⟩) n cap) n (encL l)) (hl : l.length = n) (hm : m ≤ n) : w.ownsRow B 89 3 (.slice (some ⟨g, 0, none⟩) m cap) m (encL (l.take m)) := by
  refine ⟨by rw [encL_len, List.length_take]; congr 1; omega, ?_⟩
  rcases h.2 with ⟨hq, _⟩ | ⟨g0, cap0, cur, hq, hbg, hg, hnc, hcm, hcs, htake⟩
  · cases hq
  cases hq
  refine Or.inr ⟨g, cap, cur, rfl, hbg, hg, by omega, hcm, hcs, ?_⟩
  rw [encL_take, ← htake, List.take_take, Nat.min_eq_left (by omega)]
/-- while samples are laid in. -/
structure LS (N B g cap : Nat) (v : Value) (l f : List Smp) (w wr : World) (k e : Nat) : Prop where
  c0 : wr.cell? ⟨N, 0, none⟩ = some (.slice (some ⟨g, 0, none⟩) (l.length + f.length) cap)
  f0 : wr.frozen? ⟨N, 0, none⟩ = false
  he : e ≤ l.length
  hk : k ≤ f.length
  row : ∃ mid rest : List Smp, mid.length = k ∧ (l.take e ++ mid ++ rest).length = l.length + f.length ∧ wr.ownsRow B 89 3 (.slice (some ⟨g, 0, none⟩) (l.length + f.length) cap) (l.length + f.length) (encL (l.take e ++ mid ++ rest)) ∧ layR l (f.take k).reverse e rest = layL l f
  hN : N < wr.heap.size
  fr : SFr N v (.slice (some ⟨g, 0, none⟩) (l.length + f.length) cap) w wr
theorem LS.next {N B g cap : Nat} {v : Value} {l f : List Smp} {w wr w2 w4 : World} {k e i p : Nat} {s : Smp} (h : LS N B g cap v l f w wr k e) (hki : k = i + 1) (hs : f[i]? = some s) (hp : p = ahd (l.take e) s.t) (hB : Below wr.heap.size wr w2) (hgN : g ≠ N) {mid rest : List Smp} (hm : mid.length = i + 1) (hlen : (l.take e ++ mid ++ rest).length = l.length + f.length)
    (heq : layR l (f.take k).reverse e rest = layL l f) (own : w4.ownsRow B 89 3 (.slice (some ⟨g, 0, none⟩) (l.length + f.length) cap) (l.length + f.length) (encL (((l.take e ++ mid ++ rest).take (p + i + 1) ++ ((l.take e ++ mid ++ rest).drop p).take (e - p) ++ (l.take e ++ mid ++ rest).drop (p + i + 1 + (e - p))).set (p + i) s)))
    (b4 : Below 0 w2 w4) (hkeep : ∀ j, j < w2.heap.size → j ≠ g → w4.heap[j]? = w2.heap[j]?) : LS N B g cap v l f w w4 i p := by
  have hpe : p ≤ e := by
    have := ahd_le (l.take e) s.t
    rw [List.length_take] at this; omega
  have hNw2 : N < w2.heap.size := Nat.lt_of_lt_of_le h.hN hB.size
  have hN4 : w4.heap[N]? = wr.heap[N]? := (hkeep N hNw2 (fun e => hgN e.symm)).trans (hB.block N h.hN)
  obtain ⟨mid', hm', hl'⟩ := lay_list l mid rest e i p s h.he hm hpe
  rw [hl'] at own
  refine ⟨by rw [World.cell?_of_block (w := wr) hN4]; exact h.c0, by rw [frozen_block hN4]; exact h.f0, by have := h.he; omega, by have := h.hk; omega, ⟨mid', _, hm', ?_, own, ?_⟩, Nat.lt_of_lt_of_le hNw2 b4.size, ?_⟩
  · have := own.1
    rw [encL_len] at this; omega
  · have e1 : f.take k = f.take i ++ [s] := by
      rw [hki]
      obtain ⟨h1, h2⟩ := List.getElem?_eq_some_iff.1 hs
      rw [List.take_succ_eq_append_getElem h1, h2]
    rw [← heq, e1, List.reverse_append, List.reverse_singleton, List.singleton_append, layR, ← hp]
  · refine h.fr.trans ⟨(hB.mono (Nat.zero_le _)).trans b4, fun j hj hn ho => ?_, Or.inl rfl⟩
    rw [hkeep j (Nat.lt_of_lt_of_le hj hB.size) (fun e => ho (by simp [Value.ownBlock, e])), hB.block j hj]
set_option maxRecDepth 100000 in
set_option maxHeartbeats 4000000 in
theorem lay_any (N B : Nat) (v : Value) (l f : List Smp) (w : World) (h : SS N B v l w) (fb fo fc : Nat) (hfn : fb ≠ N) (hfo : some fb ≠ v.ownBlock) (hf : LIn w (some ⟨fb, fo, none⟩) f) (hfr : Rise f) (hd : ∀ s ∈ f, ∀ y ∈ l, y.t ≠ s.t) (h0 : 0 < f.length) (hn : l.length + f.length ≤ 2199023255552) :
    Calls Tryz.prog 30 #[.pointer (some ⟨N, 0, none⟩), .slice (some ⟨fb, fo, none⟩) f.length fc] w fun e w' => e = .returned undef ∧ ∃ v', SS N B v' (layL l f) w' ∧ SFr N v v' w w' := by
  obtain ⟨a, cap, rfl, hcap, hL⟩ := h.row.lin h.hk
  have c0 := h.c0
  have f0 := h.f0
  have hne := h.ne
  have hNs := h.hN
  have hBN := h.hB
  have hfl : fb < w.heap.size ∧ ∀ i s, f[i]? = some s → w.cell? ⟨fb, fo + i * 3, none⟩ = some (.int .i64 s.t) ∧ w.cell? ⟨fb, fo + i * 3 + 1, none⟩ = some (.int .u8 (s.k : Int)) ∧ w.cell? ⟨fb, fo + i * 3 + 2, none⟩ = some (.int .i64 s.x) := by
    rcases hf.2 with e | ⟨b, off, e, hb, hc⟩
    · rw [e] at h0; simp at h0
    · cases e; exact ⟨hb, hc⟩
  obtain ⟨g, cap', w1, hr1, own1, gr1, hat, hlt⟩ := app_row w B (.slice a l.length cap) l f h.row (by omega) ⟨fb, fo, none⟩ fc (by
    intro j u hj
    have hj3 : j < f.length * 3 := by rw [← encL_len]; exact (List.getElem?_eq_some_iff.1 hj).1
    obtain ⟨s, hs⟩ : ∃ s, f[j / 3]? = some s := ⟨_, List.getElem?_eq_getElem (by omega)⟩
    obtain ⟨e1, e2, e3⟩ := encL_get f _ s hs
    obtain ⟨c1, c2, c3⟩ := hfl.2 _ s hs
    rw [smp_add]
    rcases (by omega : j % 3 = 0 ∨ j % 3 = 1 ∨ j % 3 = 2) with q | q | q
    · rw [show j = j / 3 * 3 by omega] at hj ⊢
      rw [e1] at hj
      rw [c1, ← hj]
    · rw [show j = j / 3 * 3 + 1 by omega] at hj ⊢
      rw [e2] at hj
      rw [← Nat.add_assoc, c2, ← hj]
    · rw [show j = j / 3 * 3 + 2 by omega] at hj ⊢
      rw [e3] at hj
      rw [← Nat.add_assoc, c3, ← hj]) h0 (by omega)
  have hH : Hid _ := h
  have hgN : g ≠ N := by
    rcases hat with e | e
    · intro e'; exact hne (by rw [e, e'])
    · omega
  have c1 := (gr1.cell_far ⟨N, 0, none⟩ hNs hne.symm).trans c0
  have f1 := (gr1.frozen_far ⟨N, 0, none⟩ hNs hne.symm).trans f0
  have hR1 : Hid _ := hr1
  clear hL hcap h hr1
  go_enter Tryz.func30, Tryz.ntmps30
  go_wp2_with (at_builtin; refine wpList_append_run (by rfl) _ _ _ (by rfl) _ _ _ _ (by rfl) (by rfl) hR1.out ?_)
  go_loopw [4, 5] (fun e i wr => ∃ k e' : Nat, e = .int .i64 (e' : Int) ∧ i = .int .i64 ((k : Int) - 1) ∧ LS N B g cap' (.slice a l.length cap) l f w wr k e') (fun _ i _ => ((intOf i) + 1).toNat)
  case atStart =>
    refine ⟨f.length, l.length, rfl, by simp, ?_⟩
    have hst : (w1.setCell ⟨N, 0, none⟩ (.slice (some ⟨g, 0, none⟩) (l.length + f.length) cap')).cell? ⟨N, 0, none⟩ = some (.slice (some ⟨g, 0, none⟩) (l.length + f.length) cap') := World.cell?_setCell_same _ _ _ c1
    have hk1 : ∀ j, j ≠ N → (w1.setCell ⟨N, 0, none⟩ (.slice (some ⟨g, 0, none⟩) (l.length + f.length) cap')).heap[j]? = w1.heap[j]? := fun j hj => Below.heap_setCell _ _ _ _ hj
    refine ⟨hst, by simpa using f1, Nat.le_refl _, Nat.le_refl _, ⟨f, [], rfl, by simp, ?_, ?_⟩, by have := gr1.size; simp; omega, ?_⟩
    · rw [List.take_length, List.append_nil]
      refine ⟨own1.1, ?_⟩
      rcases own1.2 with ⟨hq, _⟩ | ⟨g0, cap0, cur, hq, hbg, hg, rest⟩
      · cases hq
      cases hq
      exact Or.inr ⟨g, cap', cur, rfl, hbg, by rw [hk1 g hgN]; exact hg, rest⟩
    · rw [List.take_length]; rfl
    · refine ⟨⟨gr1.os, gr1.tape, gr1.output, by have := gr1.size; simpa using this, fun j hj => absurd hj (Nat.not_lt_zero _)⟩, fun j hj hn ho => ?_, ?_⟩
      · rw [hk1 j hn]; exact gr1.block j hj ho
      · rcases hat with e | e
        · exact Or.inl e.symm
        · exact Or.inr ⟨g, rfl, by omega⟩
  case round =>
    obtain ⟨k, e, rfl, rfl, hLS⟩ := hrel
    rcases Nat.eq_zero_or_pos k with rfl | hkp
    · have hLH : Hid _ := hLS
      clear hLS
      go_wp2_with fail
      first | go_end0 | (simp only [Exit.inBlock, Exit.then]; refine bodyPost_ret (results_none rfl _ _ _) rfl ?_) | refine bodyPost_ret (results_none rfl _ _ _) rfl ?_
      refine ⟨rfl, _, ?_, hLH.out.fr⟩
      obtain ⟨mid, rest, hm, hlen, own, heq⟩ := hLH.out.row
      obtain rfl : mid = [] := List.eq_nil_of_length_eq_zero hm
      have hll : (layL l f).length = l.length + f.length := by unfold layL; rw [layR_len _ _ _ _ (Nat.le_refl _)]; simp
      have heq2 : l.take e ++ [] ++ rest = layL l f := by rw [← heq]; simp [layR]
      rw [heq2] at own
      have hmem := fun x => layR_mem l f.reverse l.length [] x
      refine ⟨hLH.out.c0, hLH.out.f0, Or.inl (by rw [hll]; exact own), by simp [Value.ownBlock, hgN], hLH.out.hN, hBN, ?_, ?_, by omega⟩
      · intro x hx
        have := (hmem x).1 hx
        simp at this
        rcases this with h | h
        · exact hH.out.hk x h
        · exact hf.1 x h
      · refine layR_rise l f.reverse l.length [] ?_ (by simp) ?_ ?_
        · rw [List.take_length, List.append_nil]; exact hH.out.hr
        · rw [List.pairwise_reverse]; exact hfr
        · intro s hs y hy; exact hd s (by simpa using hs) y hy
    · obtain ⟨i, hi⟩ : ∃ i : Nat, i = k - 1 := ⟨_, rfl⟩
      have hiI : (k : Int) - 1 = (i : Int) := by omega
      obtain ⟨s, hs⟩ : ∃ s, f[i]? = some s := ⟨_, List.getElem?_eq_getElem (by have := hLS.hk; omega)⟩
      have hfb : wr.heap[fb]? = w.heap[fb]? := hLS.fr.keep fb hfl.1 hfn hfo
      obtain ⟨x1, x2, x3⟩ := hfl.2 i s hs
      rw [← World.cell?_of_block (w := w) hfb] at x1 x2 x3
      have hfw : fb < wr.heap.size := Nat.lt_of_lt_of_le hfl.1 hLS.fr.b.size
      have m0 := hLS.c0
      have mN := hLS.hN
      have he := hLS.he
      have hkf := hLS.hk
      have hgl : g < wr.heap.size := by obtain ⟨_, _, _, _, own, _⟩ := hLS.row; exact (own.lt g rfl).2
      have hcap' : l.length + f.length ≤ cap' ∧ cap' ≤ 9223372036854775807 := by
        obtain ⟨_, _, _, _, own, _⟩ := hLS.row
        rcases own.2 with ⟨hq, _⟩ | ⟨g0, cap0, cur, hq, hbg, hg, hnc, hcm, _⟩
        · cases hq
        · cases hq; exact ⟨hnc, by simpa [maxLen] using hcm⟩
      have hLH : Hid _ := hLS
      have hKI : Hid ((k : Int) - 1 = (i : Int) ∧ k = i + 1) := ⟨hiI, by omega⟩
      have hS : Hid (f[i]? = some s) := hs
      have hlf : i < f.length := by omega
      obtain ⟨n, hn'⟩ : ∃ n, n = l.length + f.length := ⟨_, rfl⟩
      have hNN : Hid (n = l.length + f.length) := hn'
      have hen : e ≤ n := by omega
      have hin : e + i < n := by omega
      have hn2 : n ≤ 2199023255552 := by omega
      rw [hiI]
      rw [← hn'] at m0 hcap' ⊢
      have hcap1 := hcap'.1
      have hHr : Hid _ := hH.out
      have hfg : fb ≠ g := by
        rcases hat with e | e
        · intro e'; exact hfo (by rw [e, e'])
        · omega
      clear hLS hi hiI hs hfb hfl hn hcap' hn' hf hfr hd h0 hkp hkf he hH hR1 own1 gr1 c1 f1 c0 f0 hat hne
      have hi0 : (0 : Int) ≤ (i : Int) := by omega
      have hOS : Hid _ := find_any wr.heap.size B (.slice (some ⟨g, 0, none⟩) e cap') (l.take e) s.t (wr.alloc (.cells #[.slice (some ⟨g, 0, none⟩) e cap'] 80)) (by
        have hr0 := hHr.out.hr
        obtain ⟨mid, rest, hm, hlen, own, _⟩ := hLH.out.row
        have hte : (l.take e).length = e := by rw [List.length_take]; have := hLH.out.he; omega
        have own2 := own_take own hlen (by rw [← hNN.out]; exact hen : e ≤ l.length + f.length)
        rw [List.append_assoc, List.take_append_of_le_length (by omega), List.take_of_length_le (by omega)] at own2
        refine ⟨by simp [go_sem], frozen_new _ _ _ _, Or.inl ?_, by simp [Value.ownBlock]; omega, by simp, by omega, fun y hy => hHr.out.hk y (List.mem_of_mem_take hy), List.Pairwise.sublist (List.take_sublist _ _) hr0, by omega⟩
        rw [hte]
        exact own2.alloc _)
      have hpl : ahd (l.take e) s.t ≤ e := by
        have := ahd_le (l.take e) s.t
        rw [List.length_take] at this; omega
      obtain ⟨p, hp⟩ : ∃ p, p = ahd (l.take e) s.t := ⟨_, rfl⟩
      have hP : Hid (p = ahd (l.take e) s.t) := hp
      rw [← hp] at hOS hpl
      clear hp
      go_wp2_with fail
      refine Calls.mono hOS.out ?_
      rintro e3 w2 ⟨rfl, hB2⟩
      have hB2' := alloc_below hB2
      have m0' := (hB2'.cell (p := ⟨N, 0, none⟩) mN).trans m0
      have x1' := (hB2'.cell (p := ⟨fb, fo + i * 3, none⟩) hfw).trans x1
      have x2' := (hB2'.cell (p := ⟨fb, fo + i * 3 + 1, none⟩) hfw).trans x2
      have x3' := (hB2'.cell (p := ⟨fb, fo + i * 3 + 2, none⟩) hfw).trans x3
      clear hB2 hOS m0 x1 x2 x3
      go_wp2_with fail
      obtain ⟨mid, rest, hm, hlen, own0, heq⟩ := hLH.out.row
      have own2 : w2.ownsRow B 89 3 (.slice (some ⟨g, 0, none⟩) (l.take e ++ mid ++ rest).length cap') (l.take e ++ mid ++ rest).length (encL (l.take e ++ mid ++ rest)) := by
        rw [hlen]
        refine ⟨own0.1, ?_⟩
        rcases own0.2 with ⟨hq, _⟩ | ⟨g0, cap0, cur, hq, hbg, hg, rs⟩
        · cases hq
        cases hq
        exact Or.inr ⟨g, cap', cur, rfl, hbg, by rw [hB2'.block g hgl]; exact hg, rs⟩
      have hlenH : Hid ((l.take e ++ mid ++ rest).length = n) := by rw [hNN.out]; exact hlen
      have hmH : Hid (mid.length = i + 1) := by rw [← hKI.out.2]; exact hm
      have heqH : Hid _ := heq
      have own2H : Hid _ := own2
      clear own0 hm hlen heq own2
      obtain ⟨q, hq⟩ : ∃ q : Nat, q = p + i := ⟨_, rfl⟩
      obtain ⟨j, hj⟩ : ∃ j : Nat, j = p + i + 1 := ⟨_, rfl⟩
      have hqH : Hid (q = p + i ∧ j = p + i + 1) := ⟨hq, hj⟩
      have hw1 : IntKind.i64.wrap ((p : Int) + (i : Int)) = (q : Int) := by rw [IntWalk.i64_in _ (by omega)]; omega
      have hw2 : IntKind.i64.wrap ((q : Int) + 1) = (j : Int) := by rw [IntWalk.i64_in _ (by omega)]; omega
      have q1 : (j : Int) ≤ (n : Int) := by omega
      have q2 : (0 : Int) ≤ (j : Int) := by omega
      have q3 : (p : Int) ≤ (e : Int) := by omega
      have q4 : (0 : Int) ≤ (p : Int) := by omega
      have q5 : (e : Int) ≤ (cap' : Int) := by omega
      have q6 : (n : Int) ≤ (cap' : Int) := by omega
      have q7 : ¬ cap' = p := by omega
      have S5 : w2.cell? ⟨N, 0, none⟩ = some (.slice (some ⟨g, 0, none⟩) n cap') := m0'
      rcases Nat.lt_or_ge p e with hpe | hpe
      · have q8 : ¬ cap' = j := by omega
        obtain ⟨w3, hr3, own3, gr3⟩ := copy_row w2.drew B g cap' (l.take e ++ mid ++ rest) own2H.out j p (e - p) (n - j) (cap' - j) (cap' - p) (by have := hlenH.out; omega) (by have := hlenH.out; omega) (by omega)
        have hr3H : Hid _ := hr3
        have hNw2 : N < w2.heap.size := Nat.lt_of_lt_of_le mN hB2'.size
        have m3 : w3.cell? ⟨N, 0, none⟩ = some (.slice (some ⟨g, 0, none⟩) n cap') := (gr3.cell_far ⟨N, 0, none⟩ hNw2 (by simp; omega)).trans m0'
        have hgr : Hid _ := gr3
        have hown : Hid _ := own3
        clear hr3 hq hj gr3 own3
        go_region_held3 (fun w' => w'.cell? ⟨N, 0, none⟩ = some (.slice (some ⟨g, 0, none⟩) n cap')) (first | assumption)
          (first
            | (refine step_copy_run rfl (.tmp 54) (.tmp 61) 62 rfl _ _ _ _ rfl rfl hr3H.out ?_))
        have hF3 : Hid (∀ j, j < w2.heap.size → j ≠ g → w3.heap[j]? = w2.heap[j]?) := (fun j hj hg => hgr.out.block j hj (by simpa using hg))
        have hMl : ((l.take e ++ mid ++ rest).take j ++ ((l.take e ++ mid ++ rest).drop p).take (e - p) ++ (l.take e ++ mid ++ rest).drop (j + (e - p))).length = n := by
          rw [List.length_append, List.length_append, List.length_take, List.length_take, List.length_drop, List.length_drop]
          have := hlenH.out; have := hqH.out; omega
        obtain ⟨M2, hM2⟩ : ∃ M2, M2 = (l.take e ++ mid ++ rest).take j ++ ((l.take e ++ mid ++ rest).drop p).take (e - p) ++ (l.take e ++ mid ++ rest).drop (j + (e - p)) := ⟨_, rfl⟩
        have own3 : w3.ownsRow B 89 3 (.slice (some ⟨g, 0, none⟩) n cap') n (encL M2) := by
          have h3 := (show World.ownsRow _ _ _ _ _ _ _ from hown.out)
          rw [hlenH.out] at h3
          rw [hM2]; exact h3
        rw [← hM2] at hMl
        have hM2H : Hid (M2 = _) := hM2
        clear hM2
        have hqn : q < n := by have := hqH.out; omega
        obtain ⟨y, hy⟩ : ∃ y, M2[q]? = some y := ⟨_, List.getElem?_eq_getElem (by omega)⟩
        obtain ⟨y1, y2, y3⟩ := encL_get M2 q y hy
        have d1 := (own3.cellAt (q * 3) (by omega)).trans y1
        have d2 := (own3.cellAt (q * 3 + 1) (by omega)).trans y2
        have d3 := (own3.cellAt (q * 3 + 2) (by omega)).trans y3
        have f1 := own3.frozenAt (q * 3)
        have f2 := own3.frozenAt (q * 3 + 1)
        have f3 := own3.frozenAt (q * 3 + 2)
        have hfw2 : fb < w2.heap.size := Nat.lt_of_lt_of_le hfw hB2'.size
        have hNw2' : N < w2.heap.size := Nat.lt_of_lt_of_le mN hB2'.size
        have z0 : w3.cell? ⟨N, 0, none⟩ = some (.slice (some ⟨g, 0, none⟩) n cap') := by rw [World.cell?_of_block (w := w2) (hF3.out N hNw2' (fun e => hgN e.symm))]; exact m0'
        have z1 : w3.cell? ⟨fb, fo + i * 3, none⟩ = some (.int .i64 s.t) := by rw [World.cell?_of_block (w := w2) (hF3.out fb hfw2 hfg)]; exact x1'
        have z2 : w3.cell? ⟨fb, fo + i * 3 + 1, none⟩ = some (.int .u8 (s.k : Int)) := by rw [World.cell?_of_block (w := w2) (hF3.out fb hfw2 hfg)]; exact x2'
        have z3 : w3.cell? ⟨fb, fo + i * 3 + 2, none⟩ = some (.int .i64 s.x) := by rw [World.cell?_of_block (w := w2) (hF3.out fb hfw2 hfg)]; exact x3'
        have own4 : Hid _ := own_set3 own3 (i := q) (by omega) s
        have hq0 : (0 : Int) ≤ (q : Int) := by omega
        have hqn2 : (q : Int) < (n : Int) := by omega
        have hif : (i : Int) < (f.length : Int) := by omega
        clear hy y1 y2 y3
        go_wp2_with fail
        go_region
        go_wp2_with fail
        go_round
        case measure => simp only [intOf]; omega
        case rel =>
          refine ⟨i, p, rfl, rfl, ?_⟩
          have hn3 := hNN.out
          refine hLH.out.next hKI.out.2 hS.out hP.out hB2' hgN (mid := mid) (rest := rest) hmH.out (by rw [← hn3]; exact hlenH.out) heqH.out ?_ ?_ ?_
          · rw [← hn3]
            obtain ⟨e1, e2⟩ := hqH.out
            rw [← e2, ← e1, ← hM2H.out]
            exact own4.out
          · exact (((⟨hgr.out.os, hgr.out.tape, hgr.out.output, hgr.out.size, fun k hk => absurd hk (Nat.not_lt_zero _)⟩ : Below 0 w2 w3).setCell (p := ⟨g, q * 3, none⟩) (Nat.zero_le _) _).setCell (p := ⟨g, q * 3 + 1, none⟩) (Nat.zero_le _) _).setCell (p := ⟨g, q * 3 + 2, none⟩) (Nat.zero_le _) _ |>.drew
          · intro j' hj' hg'
            have := hF3.out j' hj' hg'
            rw [← this]
            show (((w3.setCell ⟨g, q * 3, none⟩ (.int .i64 s.t)).setCell ⟨g, q * 3 + 1, none⟩ (.int .u8 (s.k : Int))).setCell ⟨g, q * 3 + 2, none⟩ (.int .i64 s.x)).drew.heap[j']? = w3.heap[j']?
            rw [heap_drew, heap_setCell_other _ ⟨g, q * 3 + 2, none⟩ j' _ hg', heap_setCell_other _ ⟨g, q * 3 + 1, none⟩ j' _ hg', heap_setCell_other _ ⟨g, q * 3, none⟩ j' _ hg']
      · obtain rfl : p = e := by omega
        have hr3 := copy_zero w2.drew
        have hnp : p - p = 0 := by omega
        have hr3H : Hid _ := hr3
        clear hr3 hq hj
        rcases Nat.decEq cap' j with q8 | q8
        · go_region_held3 (fun w' => w'.cell? ⟨N, 0, none⟩ = some (.slice (some ⟨g, 0, none⟩) n cap')) (first | assumption)
            (first
              | (refine step_copy_run rfl (.tmp 54) (.tmp 61) 62 rfl _ _ _ _ rfl rfl (hr3H.out (some ⟨g, j * 3, none⟩) (some ⟨g, p * 3, none⟩) _ _ _) ?_))
          generalize hW3 : w2.drew = w3
          have hWH : Hid (w2.drew = w3) := hW3
          have hB23 : Below 0 w2 w3 := by rw [← hW3]; exact (Below.refl 0 w2).drew
          clear hW3 S5
          have hF3 : Hid (∀ j, j < w2.heap.size → j ≠ g → w3.heap[j]? = w2.heap[j]?) := (fun j hj hg => by rw [← hWH.out]; rfl)
          have hMl : ((l.take p ++ mid ++ rest).take j ++ ((l.take p ++ mid ++ rest).drop p).take (p - p) ++ (l.take p ++ mid ++ rest).drop (j + (p - p))).length = n := by
            rw [List.length_append, List.length_append, List.length_take, List.length_take, List.length_drop, List.length_drop]
            have := hlenH.out; have := hqH.out; omega
          obtain ⟨M2, hM2⟩ : ∃ M2, M2 = (l.take p ++ mid ++ rest).take j ++ ((l.take p ++ mid ++ rest).drop p).take (p - p) ++ (l.take p ++ mid ++ rest).drop (j + (p - p)) := ⟨_, rfl⟩
          have own3 : w3.ownsRow B 89 3 (.slice (some ⟨g, 0, none⟩) n cap') n (encL M2) := by
            have h3 := (show w3.ownsRow B 89 3 (.slice (some ⟨g, 0, none⟩) (l.take p ++ mid ++ rest).length cap') (l.take p ++ mid ++ rest).length (encL ((l.take p ++ mid ++ rest).take j ++ ((l.take p ++ mid ++ rest).drop p).take (p - p) ++ (l.take p ++ mid ++ rest).drop (j + (p - p)))) from by rw [← hWH.out, hnp, List.take_zero, List.append_nil, Nat.add_zero, List.take_append_drop]; exact own2H.out)
            rw [hlenH.out] at h3
            rw [hM2]; exact h3
          rw [← hM2] at hMl
          have hM2H : Hid (M2 = _) := hM2
          clear hM2
          have hqn : q < n := by have := hqH.out; omega
          obtain ⟨y, hy⟩ : ∃ y, M2[q]? = some y := ⟨_, List.getElem?_eq_getElem (by omega)⟩
          obtain ⟨y1, y2, y3⟩ := encL_get M2 q y hy
          have d1 := (own3.cellAt (q * 3) (by omega)).trans y1
          have d2 := (own3.cellAt (q * 3 + 1) (by omega)).trans y2
          have d3 := (own3.cellAt (q * 3 + 2) (by omega)).trans y3
          have f1 := own3.frozenAt (q * 3)
          have f2 := own3.frozenAt (q * 3 + 1)
          have f3 := own3.frozenAt (q * 3 + 2)
          have hfw2 : fb < w2.heap.size := Nat.lt_of_lt_of_le hfw hB2'.size
          have hNw2' : N < w2.heap.size := Nat.lt_of_lt_of_le mN hB2'.size
          have z0 : w3.cell? ⟨N, 0, none⟩ = some (.slice (some ⟨g, 0, none⟩) n cap') := by rw [World.cell?_of_block (w := w2) (hF3.out N hNw2' (fun e => hgN e.symm))]; exact m0'
          have z1 : w3.cell? ⟨fb, fo + i * 3, none⟩ = some (.int .i64 s.t) := by rw [World.cell?_of_block (w := w2) (hF3.out fb hfw2 hfg)]; exact x1'
          have z2 : w3.cell? ⟨fb, fo + i * 3 + 1, none⟩ = some (.int .u8 (s.k : Int)) := by rw [World.cell?_of_block (w := w2) (hF3.out fb hfw2 hfg)]; exact x2'
          have z3 : w3.cell? ⟨fb, fo + i * 3 + 2, none⟩ = some (.int .i64 s.x) := by rw [World.cell?_of_block (w := w2) (hF3.out fb hfw2 hfg)]; exact x3'
          have own4 : Hid _ := own_set3 own3 (i := q) (by omega) s
          have hq0 : (0 : Int) ≤ (q : Int) := by omega
          have hqn2 : (q : Int) < (n : Int) := by omega
          have hif : (i : Int) < (f.length : Int) := by omega
          clear hy y1 y2 y3
          go_wp2_with fail
          go_region
          go_wp2_with fail
          go_round
          case measure => simp only [intOf]; omega
          case rel =>
            refine ⟨i, p, rfl, rfl, ?_⟩
            have hn3 := hNN.out
            refine hLH.out.next hKI.out.2 hS.out hP.out hB2' hgN (mid := mid) (rest := rest) hmH.out (by rw [← hn3]; exact hlenH.out) heqH.out ?_ ?_ ?_
            · rw [← hn3]
              obtain ⟨e1, e2⟩ := hqH.out
              rw [← e2, ← e1, ← hM2H.out]
              exact own4.out
            · exact ((hB23.setCell (p := ⟨g, q * 3, none⟩) (Nat.zero_le _) _).setCell (p := ⟨g, q * 3 + 1, none⟩) (Nat.zero_le _) _).setCell (p := ⟨g, q * 3 + 2, none⟩) (Nat.zero_le _) _ |>.drew
            · intro j' hj' hg'
              have := hF3.out j' hj' hg'
              rw [← this]
              show (((w3.setCell ⟨g, q * 3, none⟩ (.int .i64 s.t)).setCell ⟨g, q * 3 + 1, none⟩ (.int .u8 (s.k : Int))).setCell ⟨g, q * 3 + 2, none⟩ (.int .i64 s.x)).drew.heap[j']? = w3.heap[j']?
              rw [heap_drew, heap_setCell_other _ ⟨g, q * 3 + 2, none⟩ j' _ hg', heap_setCell_other _ ⟨g, q * 3 + 1, none⟩ j' _ hg', heap_setCell_other _ ⟨g, q * 3, none⟩ j' _ hg']
        · subst q8
          go_region_held3 (fun w' => w'.cell? ⟨N, 0, none⟩ = some (.slice (some ⟨g, 0, none⟩) n cap')) (first | assumption)
            (first
              | (refine step_copy_run rfl (.tmp 54) (.tmp 61) 62 rfl _ _ _ _ rfl rfl (hr3H.out (some ⟨g, 0, none⟩) (some ⟨g, p * 3, none⟩) _ _ _) ?_))
          generalize hW3 : w2.drew = w3
          have hWH : Hid (w2.drew = w3) := hW3
          have hB23 : Below 0 w2 w3 := by rw [← hW3]; exact (Below.refl 0 w2).drew
          clear hW3 S5
          have hF3 : Hid (∀ j, j < w2.heap.size → j ≠ g → w3.heap[j]? = w2.heap[j]?) := (fun j hj hg => by rw [← hWH.out]; rfl)
          have hMl : ((l.take p ++ mid ++ rest).take cap' ++ ((l.take p ++ mid ++ rest).drop p).take (p - p) ++ (l.take p ++ mid ++ rest).drop (cap' + (p - p))).length = n := by
            rw [List.length_append, List.length_append, List.length_take, List.length_take, List.length_drop, List.length_drop]
            have := hlenH.out; have := hqH.out; omega
          obtain ⟨M2, hM2⟩ : ∃ M2, M2 = (l.take p ++ mid ++ rest).take cap' ++ ((l.take p ++ mid ++ rest).drop p).take (p - p) ++ (l.take p ++ mid ++ rest).drop (cap' + (p - p)) := ⟨_, rfl⟩
          have own3 : w3.ownsRow B 89 3 (.slice (some ⟨g, 0, none⟩) n cap') n (encL M2) := by
            have h3 := (show w3.ownsRow B 89 3 (.slice (some ⟨g, 0, none⟩) (l.take p ++ mid ++ rest).length cap') (l.take p ++ mid ++ rest).length (encL ((l.take p ++ mid ++ rest).take cap' ++ ((l.take p ++ mid ++ rest).drop p).take (p - p) ++ (l.take p ++ mid ++ rest).drop (cap' + (p - p)))) from by rw [← hWH.out, hnp, List.take_zero, List.append_nil, Nat.add_zero, List.take_append_drop]; exact own2H.out)
            rw [hlenH.out] at h3
            rw [hM2]; exact h3
          rw [← hM2] at hMl
          have hM2H : Hid (M2 = _) := hM2
          clear hM2
          have hqn : q < n := by have := hqH.out; omega
          obtain ⟨y, hy⟩ : ∃ y, M2[q]? = some y := ⟨_, List.getElem?_eq_getElem (by omega)⟩
          obtain ⟨y1, y2, y3⟩ := encL_get M2 q y hy
          have d1 := (own3.cellAt (q * 3) (by omega)).trans y1
          have d2 := (own3.cellAt (q * 3 + 1) (by omega)).trans y2
          have d3 := (own3.cellAt (q * 3 + 2) (by omega)).trans y3
          have f1 := own3.frozenAt (q * 3)
          have f2 := own3.frozenAt (q * 3 + 1)
          have f3 := own3.frozenAt (q * 3 + 2)
          have hfw2 : fb < w2.heap.size := Nat.lt_of_lt_of_le hfw hB2'.size
          have hNw2' : N < w2.heap.size := Nat.lt_of_lt_of_le mN hB2'.size
          have z0 : w3.cell? ⟨N, 0, none⟩ = some (.slice (some ⟨g, 0, none⟩) n cap') := by rw [World.cell?_of_block (w := w2) (hF3.out N hNw2' (fun e => hgN e.symm))]; exact m0'
          have z1 : w3.cell? ⟨fb, fo + i * 3, none⟩ = some (.int .i64 s.t) := by rw [World.cell?_of_block (w := w2) (hF3.out fb hfw2 hfg)]; exact x1'
          have z2 : w3.cell? ⟨fb, fo + i * 3 + 1, none⟩ = some (.int .u8 (s.k : Int)) := by rw [World.cell?_of_block (w := w2) (hF3.out fb hfw2 hfg)]; exact x2'
          have z3 : w3.cell? ⟨fb, fo + i * 3 + 2, none⟩ = some (.int .i64 s.x) := by rw [World.cell?_of_block (w := w2) (hF3.out fb hfw2 hfg)]; exact x3'
          have own4 : Hid _ := own_set3 own3 (i := q) (by omega) s
          have hq0 : (0 : Int) ≤ (q : Int) := by omega
          have hqn2 : (q : Int) < (n : Int) := by omega
          have hif : (i : Int) < (f.length : Int) := by omega
          clear hy y1 y2 y3
          go_wp2_with fail
          go_region
          go_wp2_with fail
          go_round
          case measure => simp only [intOf]; omega
          case rel =>
            refine ⟨i, p, rfl, rfl, ?_⟩
            have hn3 := hNN.out
            refine hLH.out.next hKI.out.2 hS.out hP.out hB2' hgN (mid := mid) (rest := rest) hmH.out (by rw [← hn3]; exact hlenH.out) heqH.out ?_ ?_ ?_
            · rw [← hn3]
              obtain ⟨e1, e2⟩ := hqH.out
              rw [← e2, ← e1, ← hM2H.out]
              exact own4.out
            · exact ((hB23.setCell (p := ⟨g, q * 3, none⟩) (Nat.zero_le _) _).setCell (p := ⟨g, q * 3 + 1, none⟩) (Nat.zero_le _) _).setCell (p := ⟨g, q * 3 + 2, none⟩) (Nat.zero_le _) _ |>.drew
            · intro j' hj' hg'
              have := hF3.out j' hj' hg'
              rw [← this]
              show (((w3.setCell ⟨g, q * 3, none⟩ (.int .i64 s.t)).setCell ⟨g, q * 3 + 1, none⟩ (.int .u8 (s.k : Int))).setCell ⟨g, q * 3 + 2, none⟩ (.int .i64 s.x)).drew.heap[j']? = w3.heap[j']?
              rw [heap_drew, heap_setCell_other _ ⟨g, q * 3 + 2, none⟩ j' _ hg', heap_setCell_other _ ⟨g, q * 3 + 1, none⟩ j' _ hg', heap_setCell_other _ ⟨g, q * 3, none⟩ j' _ hg']
end Go.Proofs.YticgapplpfaigaaGreat
