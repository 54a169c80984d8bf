
import Derived.Test.YtfijagdbdbbbpaaDoorBuB
import Derived.Maps.AppendAt
import Derived.Laws.AppendOwnNone
import Derived.Test.YtfijagdbdbbbpaaDoorBuD
import Derived.Lib.AppendStr
import Derived.Test.YtfijagdbdbbbpaaDoorWwCq
namespace Go.Proofs.YtfijagdbdbbbpaaDoor
open Go.RowKit
set_option linter.unusedVariables false
set_option linter.unusedSimpArgs false
/-- a slice that grows takes at most a quarter more than it needs. -/
theorem nextcap_tight {need old : Nat} (h : old < need) : Builtin.nextslicecap need old ≤ need + need / 4 + 768 := by
  unfold Builtin.nextslicecap
  split
  · omega
  · split
    · omega
    · rw [growBy_four]
      repeat' split
      all_goals omega
theorem wpList_append_run {P : Program} {ops : Array Oper} {rest : List Oper} {o : Oper} {a : Act} {Q : Exit → Act → World → Prop} {w : World} (hgd : o.guard = none) (s x : Operand) (t : TypeId)
    (ho : o.op = .call { callee := .builtin .append, args := #[s, x], argTypes := #[t, t] }) (v y v' : Value) (w' : World) (hs : a.eval s = v) (hx : a.eval x = y) (hr : (Builtin.append_ #[t, t] o.type #[v, y]).run P w = .ok v' w')
    (h : wpList P ops Q rest (a.put o.dst v') w') : wpList P ops Q (o :: rest) a w := by
  refine wpList_plain hgd fun K hK => ?_
  unfold Oper.wp execOp
  simp only [ho, resolve, invoke, builtin, Sem.run_bind, Sem.run_pure, Result.andThen_ok, List.map_toArray, List.map_cons, List.map_nil, hs, hx, hr]
  exact hK _ _ h
/-- bytes appended to a row of the call's own, of whatever length a machine holds. -/
theorem app_fit (base g cap n m : Nat) (xs news : List Value) (w : World) (ad : Addr) (c : Nat) (ho : w.ownsRow base 5 1 (.slice (some ⟨g, 0, none⟩) n cap) n xs) (hl : news.length = m)
    (hnews : ∀ j u, news[j]? = some u → w.cell? (ad.add j) = some u) (h1 : ∀ u ∈ news, u.oneCell' = true) (hbig : n + m ≤ 200000000000000) (hbase : base ≤ w.heap.size) :
    ∃ g' c' w', (Builtin.append_ #[60, 60] 60 #[.slice (some ⟨g, 0, none⟩) n cap, .slice (some ad) m c]).run Tryd.prog w = .ok (.slice (some ⟨g', 0, none⟩) (n + m) c') w' ∧ w'.ownsRow base 5 1 (.slice (some ⟨g', 0, none⟩) (n + m) c') (n + m) (xs ++ news) ∧ w.grownBy w' (some g) := by
  obtain ⟨i, i1, i0⟩ := Option.map_eq_some_iff.1 byte_info
  have i2 : i.zero = some (.int .u8 0) := congrArg (·.1) i0
  have i3 : i.bytes = 1 := congrArg (·.2.1) i0
  have i4 : i.size = 1 := congrArg (·.2.2) i0
  have hml : maxLen = 9223372036854775807 := by decide
  have hl' : news.length = m * i.size := by rw [i4]; omega
  rcases ho.2 with ⟨hq, _⟩ | ⟨g0, cap0, cur, hq, hbg, hg, hnc, hcm, hcs, htake⟩
  · cases hq
  have hx := ho.1
  simp only [Value.slice.injEq, Option.some.injEq, Addr.mk.injEq, and_true, true_and] at hq
  obtain ⟨rfl, rfl⟩ := hq
  have hlen : (xs ++ news).length = (n + m) * 1 := by rw [List.length_append, hx, hl, Nat.add_mul]; omega
  by_cases hroom : n + m ≤ cap
  · have hfit : n * i.size + news.length ≤ cur.size := by rw [i4, hl, hcs]; omega
    have hr := run_append_room (P := Tryd.prog) w 60 60 5 i Tryd.underlying60 i1 g n cap cur hg ad m c news hl' hnews h1 hroom hfit
    refine ⟨g, cap, _, hr, ⟨hlen, .inr ⟨g, cap, _, rfl, hbg, setRow_heap w g cur _ 5 _ hg, hroom, hcm, ?_, ?_⟩⟩, ⟨rfl, rfl, rfl, by simp, fun k _ hk => setRow_other w g k _ (fun e => hk (by rw [e]))⟩⟩
    · simp only [List.size_toArray, List.length_append, List.length_take, List.length_drop, Array.length_toList]
      rw [i4, hl]; omega
    · rw [i4, htake]
      simp only [Nat.mul_one] at hlen ⊢
      rw [← hlen]; exact List.take_left
  · have hr := run_append_grow (P := Tryd.prog) w 60 60 5 i (.int .u8 0) Tryd.underlying60 i1 i2 ⟨g, 0, none⟩ n cap xs (by rw [i4]; exact hx) (ho.cells (g := g) rfl) ad m c news hl' hnews (by omega) (by omega)
      (by have := nextcap_tight (need := n + m) (old := cap) (by omega); rw [i3]; omega)
    have hge := grownCap_ge w (n + m) cap 5
    have hcm' := grownCap_le_maxLen w (n + m) cap 5 (by omega)
    refine ⟨w.heap.size, _, _, hr, ⟨hlen, .inr ⟨w.heap.size, _, _, rfl, hbase, heap_alloc_new w.drew _, hge, hcm', ?_, ?_⟩⟩, ⟨rfl, rfl, rfl, by simp, fun k hk _ => _root_.Go.heap_alloc_old w.drew _ hk⟩⟩
    · simp only [Array.size_append, List.size_toArray, size_zeroCells]
      have hz : (Value.int .u8 0).cells.size = 1 := rfl
      rw [hz, hl, hx]; omega
    · simp only [Array.toList_append, List.append_assoc]
      rw [← List.append_assoc, ← hlen]; exact List.take_left
/-- the same of what was read, perhaps nothing. -/
theorem app_any (base g cap n m : Nat) (l r : List Nat) (w : World) (a : Option Addr) (c : Nat) (ho : w.ownsRow base 5 1 (.slice (some ⟨g, 0, none⟩) n cap) n (enc l)) (hm : r.length = m)
    (h : m = 0 ∨ ∃ b off, a = some ⟨b, off, none⟩ ∧ BytesAt w b off m (natsOf r)) (hbig : n + m ≤ 200000000000000) (hbase : base ≤ w.heap.size) :
    ∃ g' c' w', (Builtin.append_ #[60, 60] 60 #[.slice (some ⟨g, 0, none⟩) n cap, .slice a m c]).run Tryd.prog w = .ok (.slice (some ⟨g', 0, none⟩) (n + m) c') w' ∧ w'.ownsRow base 5 1 (.slice (some ⟨g', 0, none⟩) (n + m) c') (n + m) (enc (l ++ r)) ∧ w.grownBy w' (some g) := by
  cases a with
  | none =>
    obtain rfl : m = 0 := by
      rcases h with h | ⟨b, off, h, _⟩
      · exact h
      · cases h
    obtain rfl : r = [] := List.eq_nil_of_length_eq_zero hm
    refine ⟨g, cap, w, ?_, by rw [Nat.add_zero, List.append_nil]; exact ho, ⟨rfl, rfl, rfl, Nat.le_refl _, fun _ _ _ => rfl⟩⟩
    obtain ⟨i, i1, i0⟩ := Option.map_eq_some_iff.1 byte_info
    have hnc : n ≤ cap := by
      rcases ho.2 with ⟨hq, _⟩ | ⟨g0, cap0, cur, hq, _, _, hnc, _⟩
      · cases hq
      · cases hq; exact hnc
    simp [Builtin.append_, run_underlying Tryd.underlying60, sizeOf, typeInfo, i1, Builtin.lenOf, hnc, run_firstCells_none, storeCells]
  | some ad =>
    rw [← enc_append]
    refine app_fit base g cap n m (enc l) (enc r) w ad c ho (by rw [enc_len, hm]) ?_ (enc_one r) hbig hbase
    rcases h with h | ⟨b, off, h, hb⟩
    · obtain rfl : r = [] := List.eq_nil_of_length_eq_zero (by omega)
      intro j u hu; simp [enc] at hu
    · obtain rfl := Option.some.inj h
      subst hm
      exact bytes_news hb
end Go.Proofs.YtfijagdbdbbbpaaDoor

namespace Go.Proofs.YtfijagdbdbbbpaaDoor
open Go.RowKit Go.Lib
set_option linter.unusedVariables false
set_option linter.unusedSimpArgs false
/-- bytes appended to a row of the call's own, of whatever length a machine holds. -/
theorem app_fit2 (base g cap n m : Nat) (xs news : List Value) (w : World) (ad : Addr) (c : Nat) (ho : w.ownsRow base 5 1 (.slice (some ⟨g, 0, none⟩) n cap) n xs) (hl : news.length = m)
    (hnews : ∀ j u, news[j]? = some u → w.cell? (ad.add j) = some u) (h1 : ∀ u ∈ news, u.oneCell' = true) (hbig : n + m ≤ 200000000000000) (hbase : base ≤ w.heap.size) :
    ∃ g' c' w', (Builtin.append_ #[60, 60] 60 #[.slice (some ⟨g, 0, none⟩) n cap, .slice (some ad) m c]).run Tryd.prog w = .ok (.slice (some ⟨g', 0, none⟩) (n + m) c') w' ∧ w'.ownsRow base 5 1 (.slice (some ⟨g', 0, none⟩) (n + m) c') (n + m) (xs ++ news) ∧ w.grownBy w' (some g) ∧ (g' = g ∨ w.heap.size ≤ g') := by
  obtain ⟨i, i1, i0⟩ := Option.map_eq_some_iff.1 byte_info
  have i2 : i.zero = some (.int .u8 0) := congrArg (·.1) i0
  have i3 : i.bytes = 1 := congrArg (·.2.1) i0
  have i4 : i.size = 1 := congrArg (·.2.2) i0
  have hml : maxLen = 9223372036854775807 := by decide
  have hl' : news.length = m * i.size := by rw [i4]; omega
  rcases ho.2 with ⟨hq, _⟩ | ⟨g0, cap0, cur, hq, hbg, hg, hnc, hcm, hcs, htake⟩
  · cases hq
  have hx := ho.1
  simp only [Value.slice.injEq, Option.some.injEq, Addr.mk.injEq, and_true, true_and] at hq
  obtain ⟨rfl, rfl⟩ := hq
  have hlen : (xs ++ news).length = (n + m) * 1 := by rw [List.length_append, hx, hl, Nat.add_mul]; omega
  by_cases hroom : n + m ≤ cap
  · have hfit : n * i.size + news.length ≤ cur.size := by rw [i4, hl, hcs]; omega
    have hr := run_append_room (P := Tryd.prog) w 60 60 5 i Tryd.underlying60 i1 g n cap cur hg ad m c news hl' hnews h1 hroom hfit
    refine ⟨g, cap, _, hr, ⟨hlen, .inr ⟨g, cap, _, rfl, hbg, setRow_heap w g cur _ 5 _ hg, hroom, hcm, ?_, ?_⟩⟩, ⟨rfl, rfl, rfl, by simp, fun k _ hk => setRow_other w g k _ (fun e => hk (by rw [e]))⟩, Or.inl rfl⟩
    · simp only [List.size_toArray, List.length_append, List.length_take, List.length_drop, Array.length_toList]
      rw [i4, hl]; omega
    · rw [i4, htake]
      simp only [Nat.mul_one] at hlen ⊢
      rw [← hlen]; exact List.take_left
  · have hr := run_append_grow (P := Tryd.prog) w 60 60 5 i (.int .u8 0) Tryd.underlying60 i1 i2 ⟨g, 0, none⟩ n cap xs (by rw [i4]; exact hx) (ho.cells (g := g) rfl) ad m c news hl' hnews (by omega) (by omega)
      (by have := nextcap_tight (need := n + m) (old := cap) (by omega); rw [i3]; omega)
    have hge := grownCap_ge w (n + m) cap 5
    have hcm' := grownCap_le_maxLen w (n + m) cap 5 (by omega)
    refine ⟨w.heap.size, _, _, hr, ⟨hlen, .inr ⟨w.heap.size, _, _, rfl, hbase, heap_alloc_new w.drew _, hge, hcm', ?_, ?_⟩⟩, ⟨rfl, rfl, rfl, by simp, fun k hk _ => _root_.Go.heap_alloc_old w.drew _ hk⟩, Or.inr (Nat.le_refl _)⟩
    · simp only [Array.size_append, List.size_toArray, size_zeroCells]
      have hz : (Value.int .u8 0).cells.size = 1 := rfl
      rw [hz, hl, hx]; omega
    · simp only [Array.toList_append, List.append_assoc]
      rw [← List.append_assoc, ← hlen]; exact List.take_left
theorem app_any2 (base g cap n m : Nat) (l r : List Nat) (w : World) (a : Option Addr) (c : Nat) (ho : w.ownsRow base 5 1 (.slice (some ⟨g, 0, none⟩) n cap) n (enc l)) (hm : r.length = m)
    (h : m = 0 ∨ ∃ b off, a = some ⟨b, off, none⟩ ∧ BytesAt w b off m (natsOf r)) (hbig : n + m ≤ 200000000000000) (hbase : base ≤ w.heap.size) :
    ∃ g' c' w', (Builtin.append_ #[60, 60] 60 #[.slice (some ⟨g, 0, none⟩) n cap, .slice a m c]).run Tryd.prog w = .ok (.slice (some ⟨g', 0, none⟩) (n + m) c') w' ∧ w'.ownsRow base 5 1 (.slice (some ⟨g', 0, none⟩) (n + m) c') (n + m) (enc (l ++ r)) ∧ w.grownBy w' (some g) ∧ (g' = g ∨ w.heap.size ≤ g') := by
  cases a with
  | none =>
    obtain rfl : m = 0 := by
      rcases h with h | ⟨b, off, h, _⟩
      · exact h
      · cases h
    obtain rfl : r = [] := List.eq_nil_of_length_eq_zero hm
    refine ⟨g, cap, w, ?_, by rw [Nat.add_zero, List.append_nil]; exact ho, ⟨rfl, rfl, rfl, Nat.le_refl _, fun _ _ _ => rfl⟩, Or.inl rfl⟩
    obtain ⟨i, i1, i0⟩ := Option.map_eq_some_iff.1 byte_info
    have hnc : n ≤ cap := by
      rcases ho.2 with ⟨hq, _⟩ | ⟨g0, cap0, cur, hq, _, _, hnc, _⟩
      · cases hq
      · cases hq; exact hnc
    simp [Builtin.append_, run_underlying Tryd.underlying60, sizeOf, typeInfo, i1, Builtin.lenOf, hnc, run_firstCells_none, storeCells]
  | some ad =>
    rw [← enc_append]
    refine app_fit2 base g cap n m (enc l) (enc r) w ad c ho (by rw [enc_len, hm]) ?_ (enc_one r) hbig hbase
    rcases h with h | ⟨b, off, h, hb⟩
    · obtain rfl : r = [] := List.eq_nil_of_length_eq_zero (by omega)
      intro j u hu; simp [enc] at hu
    · obtain rfl := Option.some.inj h
      subst hm
      exact bytes_news hb

theorem wpList_append_run2 {P : Program} {ops : Array Oper} {rest : List Oper} {o : Oper} {a : Act} {Q : Exit → Act → World → Prop} {w : World} (hgd : o.guard = none) (s x : Operand) (t u : TypeId)
    (ho : o.op = .call { callee := .builtin .append, args := #[s, x], argTypes := #[t, u] }) (v y v' : Value) (w' : World) (hs : a.eval s = v) (hx : a.eval x = y) (hr : (Builtin.append_ #[t, u] o.type #[v, y]).run P w = .ok v' w')
    (h : wpList P ops Q rest (a.put o.dst v') w') : wpList P ops Q (o :: rest) a w := by
  refine wpList_plain hgd fun K hK => ?_
  unfold Oper.wp execOp
  simp only [ho, resolve, invoke, builtin, Sem.run_bind, Sem.run_pure, Result.andThen_ok, List.map_toArray, List.map_cons, List.map_nil, hs, hx, hr]
  exact hK _ _ h
/-- a text appended to a row of the call's own. -/
theorem app_str2 (base g cap n : Nat) (xs : List Value) (w : World) (s : ByteArray) (ho : w.ownsRow base 5 1 (.slice (some ⟨g, 0, none⟩) n cap) n xs) (hbig : n + s.size ≤ 140737488355328) (hbase : base ≤ w.heap.size) :
    ∃ g' c' w', (Builtin.append_ #[60, 9] 60 #[.slice (some ⟨g, 0, none⟩) n cap, .string s]).run Tryd.prog w = .ok (.slice (some ⟨g', 0, none⟩) (n + s.size) c') w' ∧ w'.ownsRow base 5 1 (.slice (some ⟨g', 0, none⟩) (n + s.size) c') (n + s.size) (xs ++ strCells s) ∧ w.grownBy w' (some g) ∧ (g' = g ∨ w.heap.size ≤ g') := by
  obtain ⟨i, i1, i0⟩ := Option.map_eq_some_iff.1 byte_info
  have i2 : i.zero = some (.int .u8 0) := congrArg (·.1) i0
  have i3 : i.bytes = 1 := congrArg (·.2.1) i0
  have i4 : i.size = 1 := congrArg (·.2.2) i0
  have hml : maxLen = 9223372036854775807 := by decide
  obtain ⟨v', w', hr, h2, h3, h4⟩ := run_append_own_string (P := Tryd.prog) w base 60 9 60 5 i Tryd.underlying60 Tryd.underlying9 i1 i2 i4 i3 _ n xs ho s (by omega) hbig hbase
  rcases ho.2 with ⟨hq, _⟩ | ⟨g0, cap0, cur, hq, hbg, hg, hnc, hcm, hcs, htake⟩
  · cases hq
  have hx := ho.1
  simp only [Value.slice.injEq, Option.some.injEq, Addr.mk.injEq, and_true, true_and] at hq
  obtain ⟨rfl, rfl⟩ := hq
  by_cases hroom : n + s.size ≤ cap
  · have hr2 := run_append_room_string (P := Tryd.prog) w 60 9 60 5 i Tryd.underlying60 Tryd.underlying9 i1 i4 g n cap cur hg s hroom (by omega)
    rw [hr2] at hr
    injection hr with e1 e2
    subst e1 e2
    exact ⟨g, cap, _, hr2, h2, h3, Or.inl rfl⟩
  · have hr2 := run_append_grow_string (P := Tryd.prog) w 60 9 60 5 i (.int .u8 0) Tryd.underlying60 Tryd.underlying9 i1 i2 ⟨g, 0, none⟩ n cap xs (by rw [i4]; simpa using hx) (ho.cells (g := g) rfl) s (by omega) (by omega) (by rw [i3]; exact growslice_fits (by omega) (by omega))
    rw [hr2] at hr
    injection hr with e1 e2
    subst e1 e2
    exact ⟨_, _, _, hr2, h2, h3, Or.inr (Nat.le_refl _)⟩
theorem strCells_enc (s : ByteArray) : strCells s = enc (bytesL (fun i => (s.data.toList.getD i 0).toNat) s.size) := by
  apply List.ext_getElem?
  intro j
  have hs : s.size = s.data.toList.length := rfl
  simp only [strCells, enc, bytesL, List.getElem?_map, hs]
  rcases Nat.lt_or_ge j s.data.toList.length with h | h
  · have h' : j < s.data.size := by simpa using h
    have h2 : j < s.size := h'
    simp [List.getElem?_range h2, List.getElem?_eq_getElem h, List.getD_eq_getElem?_getD, h']
    rw [Array.getElem?_eq_getElem h']; rfl
  · rw [List.getElem?_eq_none h, List.getElem?_eq_none (by simpa using h)]; rfl
theorem nats_bytesL (bs : Nat → Nat) (m i : Nat) (h : i < m) : natsOf (bytesL bs m) i = bs i := by
  simp [natsOf, bytesL, List.getD_eq_getElem?_getD, List.getElem?_range h]
/-- its slice grown, the free bits as they were. -/
theorem WS.grew {N : Nat} {w1 wx : World} {fr : Int} {g cap n : Nat} {xs : List Value} (h : WS N w1 fr (.slice (some ⟨g, 0, none⟩) n cap) n xs wx) {g' c' n' : Nat} {ys : List Value} {w' : World}
    (hown : w'.ownsRow (N + 1) 5 1 (.slice (some ⟨g', 0, none⟩) n' c') n' ys) (hgrow : wx.grownBy w' (some g)) (hg' : g' = g ∨ wx.heap.size ≤ g') :
    WS N w1 fr (.slice (some ⟨g', 0, none⟩) n' c') n' ys (w'.setCell ⟨N, 0, none⟩ (.slice (some ⟨g', 0, none⟩) n' c')) ∧ Fr N (.slice (some ⟨g, 0, none⟩) n cap) (.slice (some ⟨g', 0, none⟩) n' c') wx (w'.setCell ⟨N, 0, none⟩ (.slice (some ⟨g', 0, none⟩) n' c')) ∧ w'.cell? ⟨N, 0, none⟩ = some (.slice (some ⟨g, 0, none⟩) n cap) ∧ w'.frozen? ⟨N, 0, none⟩ = false := by
  have hs := h.sz
  have hne : some N ≠ (some g : Option Nat) := fun e => by have := (h.own.lt g rfl).1; injection e with e; omega
  have y0 := (hgrow.cell_far ⟨N, 0, none⟩ hs hne).trans h.c0
  have y1 := (hgrow.cell_far ⟨N, 1, none⟩ hs hne).trans h.c1
  have y2 := (hgrow.frozen_far ⟨N, 0, none⟩ hs hne).trans h.f0
  have y3 := (hgrow.frozen_far ⟨N, 1, none⟩ hs hne).trans h.f1
  have hb' := h.b.grown hgrow (by omega) (fun k e => by injection e with e; have := (h.own.lt g rfl).1; omega)
  have hz' := hgrow.size
  refine ⟨WS.put0 y0 y1 y2 y3 hb' (by omega) hown, ⟨by simpa using hz', fun k hk hn ho => ?_, ?_⟩, y0, y2⟩
  · rw [Below.heap_setCell _ _ _ _ hn, hgrow.block k hk ho]
  · rcases hg' with e | e
    · exact Or.inl (by rw [e]; rfl)
    · exact Or.inr ⟨g', rfl, e⟩
set_option maxRecDepth 100000 in
set_option maxHeartbeats 2000000 in
theorem wraw_fr (N : Nat) (w1 : World) (fr : Int) (v : Value) (n : Nat) (l : List Nat) (w : World) (h : WS N w1 fr v n (enc l) w) (a : Option Addr) (m c : Nat) (bs : Nat → Nat)
    (hin : m = 0 ∨ ∃ b off, a = some ⟨b, off, none⟩ ∧ b < w.heap.size ∧ b ≠ N ∧ some b ≠ v.ownBlock ∧ BytesAt w b off m bs) (hb : n + m + 20 ≤ 140737488355328) :
    Calls Tryd.prog 25 #[.pointer (some ⟨N, 0, none⟩), .slice a m c] w fun e w' => e = .returned undef ∧ ∃ v' n', WS N w1 0 v' n' (enc l ++ enc (uB m) ++ enc (bytesL bs m)) w' ∧ n' ≤ n + 11 + m ∧ Fr N v v' w w' := by
  have hmw : (m : Int) % 18446744073709551616 = (m : Int) := by omega
  go_enter Tryd.func25, Tryd.ntmps25
  go_wp2_with fail
  refine (wuint_fr N w1 fr v n (enc l) _ h m (by omega) _ (by omega) (by omega)).mono ?_
  rintro e w2 ⟨rfl, v2, n2, h2, b2, F2⟩
  rw [enc_append] at h2
  have hn2 : 0 < n2 := by
    have hl := h2.own.1
    rw [enc_len, List.length_append] at hl
    have : 0 < (uB m).length := by unfold uB uBf; split <;> simp
    omega
  obtain ⟨g, cap, rfl, hg, hgl⟩ := h2.own.form hn2
  have hin2 : m = 0 ∨ ∃ b off, a = some ⟨b, off, none⟩ ∧ BytesAt w2 b off m (natsOf (bytesL bs m)) := by
    rcases hin with h0 | ⟨b, off, rfl, hbl, hbN, hbo, hB⟩
    · exact Or.inl h0
    · refine Or.inr ⟨b, off, rfl, fun i hi => ?_⟩
      rw [nats_bytesL bs m i hi]
      exact F2.bytes hB hbl hbN hbo i hi
  obtain ⟨g', c', w3, hr, hown, hgrow, hg'⟩ := app_any2 (N + 1) g cap n2 m (l ++ uB m) (bytesL bs m) w2 a c h2.own (by simp [bytesL]) hin2 (by omega) (by have := h2.sz; omega)
  obtain ⟨h4, F4, y0, y2⟩ := h2.grew hown hgrow hg'
  have c0 := h2.c0
  have s2 := h2.sz
  have s3 := hgrow.size
  have h4H : Hid _ := h4
  have F4H : Hid _ := F2.trans F4
  have hrH : Hid _ := hr
  clear hin hin2 h2 h F2 F4 h4 hr hgrow hown hg'
  go_wp2_with (at_builtin; refine wpList_append_run2 (by rfl) _ _ _ _ (by rfl) _ _ _ _ (by rfl) (by rfl) hrH.out ?_)
  go_wp2_with fail
  first | go_end0 | (simp only [Exit.inBlock, Exit.then]; refine bodyPost_ret (results_none rfl _ _ _) rfl ?_) | refine bodyPost_ret (results_none rfl _ _ _) rfl ?_
  exact ⟨rfl, _, n2 + m, by rw [enc_append, enc_append]; exact h4H.out, by omega, F4H.out⟩
end Go.Proofs.YtfijagdbdbbbpaaDoor

namespace Go.Proofs.YtfijagdbdbbbpaaDoor
open Go.RowKit
set_option linter.unusedVariables false
set_option linter.unusedSimpArgs false
theorem WS.here {N : Nat} {w1 wx : World} {fr : Int} {v : Value} {n : Nat} {xs : List Value} (h : WS N w1 fr v n xs wx) : WS N wx fr v n xs wx := ⟨h.c0, h.c1, h.f0, h.f1, h.own, Below.refl _ _, h.sz⟩
/-- a Writer, when another one at N has written. -/
theorem WS.other {N M : Nat} {wx w' : World} {fr : Int} {v v' u : Value} {n : Nat} {xs : List Value} (h : WS M wx fr u n xs wx) (F : Fr N v v' wx w') (hMN : M ≠ N) (ho : some M ≠ v.ownBlock) (hu : some N ≠ u.ownBlock) (huv : u.ownBlock = none ∨ u.ownBlock ≠ v.ownBlock) : WS M w' fr u n xs w' := by
  have hb : w'.heap[M]? = wx.heap[M]? := F.keep M h.sz hMN ho
  refine ⟨?_, ?_, ?_, ?_, ⟨h.own.1, ?_⟩, Below.refl _ _, Nat.lt_of_lt_of_le h.sz F.size⟩
  · rw [World.cell?_of_block (w := wx) hb]; exact h.c0
  · rw [World.cell?_of_block (w := wx) hb]; exact h.c1
  · rw [World.frozen?_of_block (w := wx) hb]; exact h.f0
  · rw [World.frozen?_of_block (w := wx) hb]; exact h.f1
  · rcases h.own.2 with h2 | ⟨g, cap, cur, e1, e2, e3, e4⟩
    · exact Or.inl h2
    · refine Or.inr ⟨g, cap, cur, e1, e2, ?_, e4⟩
      have eo : u.ownBlock = some g := by rw [e1]; rfl
      rw [F.keep g (Array.getElem?_eq_some_iff.1 e3).1 (fun e => hu (by rw [eo, e])) ?_]
      · exact e3
      · rcases huv with e | e
        · rw [eo] at e; cases e
        · rw [eo] at e; exact e
/-- two Writers in one world: the program's, and the document's. -/
structure TW (w0 : World) (N1 N2 : Nat) (fr : Int) (l1 : List Nat) (v : Value) (b : Int) (l2 : List Nat) (u : Value) (wx : World) : Prop where
  r : WS N1 wx fr v l1.length (enc l1) wx
  d : WS N2 wx b u l2.length (enc l2) wx
  nn : N1 ≠ N2
  s1 : some N2 ≠ v.ownBlock
  s2 : some N1 ≠ u.ownBlock
  s3 : v.ownBlock = none ∨ u.ownBlock = none ∨ v.ownBlock ≠ u.ownBlock
  lo1 : w0.heap.size ≤ N1
  lo2 : w0.heap.size ≤ N2
  bb : Below w0.heap.size w0 wx
theorem WS.len {N : Nat} {w1 wx : World} {fr : Int} {v : Value} {n : Nat} {l : List Nat} (h : WS N w1 fr v n (enc l) wx) : n = l.length := by
  have := h.own.1; rw [enc_len] at this; omega
theorem own_lt {w : World} {base n : Nat} {v : Value} {xs : List Value} (h : w.ownsRow base 5 1 v n xs) {k : Nat} (e : v.ownBlock = some k) : k < w.heap.size := (h.lt k e).2
theorem TW.real {w0 : World} {N1 N2 : Nat} {fr b fr' : Int} {l1 l2 l1' : List Nat} {v u v' : Value} {n' : Nat} {wx w' w1 : World} (h : TW w0 N1 N2 fr l1 v b l2 u wx) (hW : WS N1 w1 fr' v' n' (enc l1') w') (hw1 : w1 = wx) (F : Fr N1 v v' wx w') : TW w0 N1 N2 fr' l1' v' b l2 u w' := by
  subst hw1
  have hn := hW.len
  subst hn
  refine ⟨hW.here, h.d.other F (fun e => h.nn e.symm) h.s1 h.s2 ?_, h.nn, ?_, h.s2, ?_, h.lo1, h.lo2, h.bb.trans (hW.b.mono h.lo1)⟩
  · rcases h.s3 with e | e | e
    · rw [e]; cases u.ownBlock <;> simp
    · exact Or.inl e
    · exact Or.inr (fun e' => e e'.symm)
  · rcases F.own with e | ⟨k, e, hk⟩
    · rw [e]; exact h.s1
    · rw [e]; intro e'; injection e' with e'; have := h.d.sz; omega
  · rcases F.own with e | ⟨k, e, hk⟩
    · rw [e]; exact h.s3
    · cases hu : u.ownBlock with
      | none => exact Or.inr (Or.inl rfl)
      | some g => exact Or.inr (Or.inr (by rw [e]; intro e'; injection e' with e'; have := own_lt h.d.own hu; omega))
theorem TW.doc {w0 : World} {N1 N2 : Nat} {fr b b' : Int} {l1 l2 l2' : List Nat} {v u u' : Value} {n' : Nat} {wx w' w1 : World} (h : TW w0 N1 N2 fr l1 v b l2 u wx) (hW : WS N2 w1 b' u' n' (enc l2') w') (hw1 : w1 = wx) (F : Fr N2 u u' wx w') : TW w0 N1 N2 fr l1 v b' l2' u' w' := by
  subst hw1
  have hn := hW.len
  subst hn
  refine ⟨h.r.other F h.nn h.s2 h.s1 ?_, hW.here, h.nn, h.s1, ?_, ?_, h.lo1, h.lo2, h.bb.trans (hW.b.mono h.lo2)⟩
  · rcases h.s3 with e | e | e
    · exact Or.inl e
    · rw [e]; cases v.ownBlock <;> simp
    · exact Or.inr e
  · rcases F.own with e | ⟨k, e, hk⟩
    · rw [e]; exact h.s2
    · rw [e]; intro e'; injection e' with e'; have := h.r.sz; omega
  · rcases F.own with e | ⟨k, e, hk⟩
    · rw [e]; exact h.s3
    · cases hv : v.ownBlock with
      | none => exact Or.inl rfl
      | some g => exact Or.inr (Or.inr (by rw [e]; intro e'; injection e' with e'; have := own_lt h.r.own hv; omega))
theorem TW.alloc {w0 : World} {N1 N2 : Nat} {fr b : Int} {l1 l2 : List Nat} {v u : Value} {wx : World} (h : TW w0 N1 N2 fr l1 v b l2 u wx) (o : Obj) : TW w0 N1 N2 fr l1 v b l2 u (wx.alloc o) :=
  ⟨(h.r.alloc o).here, (h.d.alloc o).here, h.nn, h.s1, h.s2, h.s3, h.lo1, h.lo2, h.bb.alloc h.bb.size o⟩
theorem TW.below {w0 : World} {N1 N2 : Nat} {fr b : Int} {l1 l2 : List Nat} {v u : Value} {wx w' : World} (h : TW w0 N1 N2 fr l1 v b l2 u wx) (hb : Below wx.heap.size wx w') : TW w0 N1 N2 fr l1 v b l2 u w' := by
  have F : Fr N1 v v wx w' := ⟨hb.size, fun k hk _ _ => hb.block k hk, Or.inl rfl⟩
  have hr : WS N1 wx fr v l1.length (enc l1) w' := by
    obtain ⟨c0, c1, f0, f1, own, b, sz⟩ := h.r
    refine ⟨?_, ?_, ?_, ?_, ⟨own.1, ?_⟩, hb.mono (by omega), Nat.lt_of_lt_of_le sz hb.size⟩
    · rw [hb.cell (p := ⟨N1, 0, none⟩) sz]; exact c0
    · rw [hb.cell (p := ⟨N1, 1, none⟩) sz]; exact c1
    · rw [hb.frozen (p := ⟨N1, 0, none⟩) sz]; exact f0
    · rw [hb.frozen (p := ⟨N1, 1, none⟩) sz]; exact f1
    · rcases own.2 with h2 | ⟨g, cap, cur, e1, e2, e3, e4⟩
      · exact Or.inl h2
      · exact Or.inr ⟨g, cap, cur, e1, e2, by rw [hb.block g (Array.getElem?_eq_some_iff.1 e3).1]; exact e3, e4⟩
  exact h.real hr rfl F
/-- a cell that is neither Writer's. -/
theorem Fr.cell {N : Nat} {v v' : Value} {w w' : World} (F : Fr N v v' w w') {k o : Nat} (hk : k < w.heap.size) (hn : k ≠ N) (ho : some k ≠ v.ownBlock) : w'.cell? ⟨k, o, none⟩ = w.cell? ⟨k, o, none⟩ :=
  World.cell?_of_block (w := w) (F.keep k hk hn ho)
theorem uBf_lt : ∀ (f v : Nat), v < 128 ^ (f + 1) → ∀ y ∈ uBf f v, y < 256 := by
  intro f
  induction f with
  | zero => intro v h y hy; simp [uBf] at hy; simp at h; omega
  | succ f ih =>
    intro v h y hy
    unfold uBf at hy
    split at hy
    · simp at hy; omega
    · rcases List.mem_cons.1 hy with e | hy
      · omega
      · exact ih (v / 128) (by rw [Nat.div_lt_iff_lt_mul (by omega)]; rw [Nat.pow_succ] at h; omega) y hy
theorem uB_lt (k : Nat) (h : k < 18446744073709551616) : ∀ y ∈ uB k, y < 256 := uBf_lt 10 k (by omega)
theorem bytesL_lt {bs : Nat → Nat} {m : Nat} (h : ∀ i, i < m → bs i < 256) : ∀ y ∈ bytesL bs m, y < 256 := by
  intro y hy; unfold bytesL at hy; simp at hy; obtain ⟨i, hi, rfl⟩ := hy; exact h i hi
theorem CL.app {l r : List Nat} {b : Nat} (h : CL l b) (hr : ∀ y ∈ r, y < 256) : CL (l ++ r) 0 :=
  ⟨by omega, fun y hy => by rcases List.mem_append.1 hy with e | e; exact h.2.1 y e; exact hr y e, fun e => absurd rfl e⟩
/-- bytes as a text, and what it says. -/
theorem to_text2 {w : World} {a : Option Addr} {n c : Nat} {bs : Nat → Nat} (h : BytesIn w a n bs) : ∃ s : ByteArray, s.size = n ∧ bytesL (fun i => (s.data.toList.getD i 0).toNat) s.size = bytesL bs n ∧ ∀ w', Below w.heap.size w w' → (convert 60 9 (.slice a n c)).run Tryd.prog w' = .ok (.string s) w' := by
  rcases h.2 with h0 | ⟨b, off, rfl, hb, hB⟩
  · subst h0
    refine ⟨ByteArray.empty, rfl, rfl, fun w' _ => ?_⟩
    rw [run_convert_bytes_string w' 60 9 5 _ 0 c Tryd.underlying60 Tryd.underlying5 Tryd.underlying9]
    cases a <;> simp [Conv.bytesToString, loadCells]
    all_goals rfl
  · refine ⟨strOfNums ((List.range n).map fun i => (bs i : Int)), by rw [strOfNums_size]; simp, ?_, fun w' hw => ?_⟩
    · have hsz : (strOfNums ((List.range n).map fun i => (bs i : Int))).size = n := by rw [strOfNums_size]; simp
      rw [hsz]
      unfold bytesL
      refine List.map_congr_left fun i hi => ?_
      have hi' : i < n := List.mem_range.1 hi
      have := (hB i hi').2
      simp [strOfNums, List.getD_eq_getElem?_getD, List.getElem?_range hi', hi']
      omega
    · refine run_convert_bytes_arg w' 60 5 Tryd.underlying60 Tryd.underlying5 b off n c _ (by simp) (fun i hi => ?_) 9 Tryd.underlying9
      rw [((hB.below hw hb) i hi).1]
      simp [List.getD_eq_getElem?_getD, hi]
end Go.Proofs.YtfijagdbdbbbpaaDoor

namespace Go.Proofs.YtfijagdbdbbbpaaDoor
open Go.RowKit
set_option linter.unusedVariables false
set_option linter.unusedSimpArgs false
theorem wrap64_range2 (n : Int) : -9223372036854775808 ≤ wrap64 n ∧ wrap64 n ≤ 9223372036854775807 := by unfold wrap64; omega
/-- what one thing that is written does. -/
def opOn (k : Int) (x : Nat) (bits : Int) (m : Nat) (bs : Nat → Nat) (s : List Nat × Nat) : List Nat × Nat :=
  if k = 0 then (s.1 ++ [x % 256], 0) else if k = 1 then (s.1 ++ be4 (x % 4294967296), 0) else if k = 2 then (s.1 ++ uB x, 0) else if k = 3 then (s.1 ++ uB (foldZ (wrap64 (x : Int))), 0)
  else if k = 4 ∨ k = 5 then (s.1 ++ (uB m ++ bytesL bs m), 0) else if k = 6 then bitsOn x (broughtN bits) s else s
theorem bitsOn_len (x : Nat) : ∀ (k : Nat) (s : List Nat × Nat), (bitsOn x k s).1.length ≤ s.1.length + k := by
  intro k
  induction k with
  | zero => intro s; exact Nat.le_refl _
  | succ k ih =>
    intro s
    have h1 := ih (bitOn (x / 2 ^ k % 2) s)
    have h2 : (bitOn (x / 2 ^ k % 2) s).1.length ≤ s.1.length + 1 := by
      unfold bitOn
      simp only
      split <;> split <;> simp
    show (bitsOn x k (bitOn (x / 2 ^ k % 2) s)).1.length ≤ _
    omega
theorem own_le {v v' : Value} {n m : Nat} (h : v'.ownBlock = v.ownBlock ∨ ∃ k, v'.ownBlock = some k ∧ n ≤ k) (hm : m ≤ n) : ∀ k, v'.ownBlock = some k → v.ownBlock = some k ∨ m ≤ k := fun k e => by
  rcases h with q | ⟨j, q, hj⟩
  · exact Or.inl (by rw [← q]; exact e)
  · rw [q] at e; injection e with e; exact Or.inr (by omega)
/-- what both leave alone. -/
structure KP (N1 N2 : Nat) (v u v' u' : Value) (w w' : World) : Prop where
  size : w.heap.size ≤ w'.heap.size
  keep : ∀ k, k < w.heap.size → k ≠ N1 → k ≠ N2 → some k ≠ v.ownBlock → some k ≠ u.ownBlock → w'.heap[k]? = w.heap[k]?
  own1 : ∀ k, v'.ownBlock = some k → v.ownBlock = some k ∨ w.heap.size ≤ k
  own2 : ∀ k, u'.ownBlock = some k → u.ownBlock = some k ∨ w.heap.size ≤ k
end Go.Proofs.YtfijagdbdbbbpaaDoor

namespace Go.Proofs.YtfijagdbdbbbpaaDoor
open Go.RowKit
set_option linter.unusedVariables false
set_option linter.unusedSimpArgs false
theorem WS.bytes {N : Nat} {w1 wx : World} {fr : Int} {v : Value} {l : List Nat} (h : WS N w1 fr v l.length (enc l) wx) (hl : ∀ y ∈ l, y < 256) (hb : l.length ≤ 140737488355327) : ∃ a cap, v = .slice a l.length cap ∧ BytesIn wx a l.length (natsOf l) := by
  rcases Nat.eq_zero_or_pos l.length with h0 | h0
  · rcases h.own.2 with ⟨e, e0⟩ | ⟨g, cap, cur, e1, _⟩
    · exact ⟨none, 0, by rw [e, h0], hb, Or.inl h0⟩
    · exact ⟨_, cap, e1, hb, Or.inl h0⟩
  · obtain ⟨g, cap, rfl, hg, hgl⟩ := h.own.form h0
    exact ⟨_, cap, rfl, hb, Or.inr ⟨g, 0, rfl, hgl, bytes_own h.own hl⟩⟩
theorem clone_nil (w : World) : Calls Tryd.prog 67 #[.slice none 0 0] w fun e w' => e = .returned (.slice none 0 0) ∧ w' = w := by
  have hnil : ∀ w0 : World, (binOp .eql 60 (.slice none 0 0) (.slice none 0 0)).run Tryd.prog w0 = .ok (.bool true) w0 := fun w0 => Go.Lib.run_eql_slice_nil w0 60 5 none 0 0 0 0 Tryd.underlying60
  go_enter Tryd.func67, Tryd.ntmps67
  go_wp2_with fail
  go_ret
  exact ⟨rfl, rfl⟩
theorem clone_none (g c : Nat) (w : World) : Calls Tryd.prog 67 #[.slice (some ⟨g, 0, none⟩) 0 c] w fun e w' => (∃ a c', e = .returned (.slice a 0 c')) ∧ Below w.heap.size w w' := by
  have hnil : ∀ w0 : World, (binOp .eql 60 (.slice (some ⟨g, 0, none⟩) 0 c) (.slice none 0 0)).run Tryd.prog w0 = .ok (.bool false) w0 := fun w0 => Go.Lib.run_eql_slice_nil w0 60 5 (some ⟨g, 0, none⟩) 0 c 0 0 Tryd.underlying60
  have hown : (w.alloc (.cells #[] 5)).ownsRow w.heap.size 5 1 (.slice (some ⟨w.heap.size, 0, none⟩) 0 0) 0 (enc []) := World.ownsRow_lit w #[] 0 (Nat.le_refl _) (by omega) (by simp)
  obtain ⟨g', c', w', hr, ho, hgrow, _⟩ := app_any2 w.heap.size w.heap.size 0 0 0 [] [] _ (some ⟨g, 0, none⟩) c hown rfl (Or.inl rfl) (by omega) (by simp)
  have hB := below_grown (below_new (Below.refl _ w) (.cells #[] 5)) hgrow (fun k e => by injection e with e; omega)
  have hrH : Hid _ := hr
  clear hr ho hgrow hown
  go_enter Tryd.func67, Tryd.ntmps67
  go_wp2_with (at_builtin; refine wpList_append_run2 (by rfl) _ _ _ _ (by rfl) _ _ _ _ (by rfl) (by rfl) hrH.out ?_)
  go_wp2_with fail
  go_ret
  exact ⟨⟨_, _, rfl⟩, hB⟩
theorem bytesB (N : Nat) (w1 : World) (fr : Int) (v : Value) (l : List Nat) (w : World) (h : WS N w1 fr v l.length (enc l) w) (hl : ∀ y ∈ l, y < 256) (hb : l.length ≤ 140737488355327) :
    Calls Tryd.prog 19 #[.pointer (some ⟨N, 0, none⟩)] w fun e w' => ∃ a c, e = .returned (.slice a l.length c) ∧ BytesIn w' a l.length (natsOf l) ∧ Below w.heap.size w w' := by
  rcases Nat.eq_zero_or_pos l.length with h0 | h0
  · obtain rfl : l = [] := List.eq_nil_of_length_eq_zero h0
    have c0 := h.c0
    rcases h.own.2 with ⟨e, e0⟩ | ⟨g, cap, cur, e1, _⟩
    · subst e
      go_enter Tryd.func19, Tryd.ntmps19
      go_wp2_with fail
      refine (clone_nil _).mono ?_
      rintro e w' ⟨rfl, rfl⟩
      go_wp2_with fail
      go_ret
      exact ⟨none, 0, rfl, ⟨by simp, Or.inl rfl⟩, Below.refl _ _⟩
    · subst e1
      go_enter Tryd.func19, Tryd.ntmps19
      go_wp2_with fail
      refine (clone_none g cap _).mono ?_
      rintro e w' ⟨⟨a, c', rfl⟩, hB⟩
      go_wp2_with fail
      go_ret
      exact ⟨a, c', rfl, ⟨by simp, Or.inl rfl⟩, hB⟩
  · refine (bytes_any N w1 fr v l.length (enc l) w h (enc_one l) h0 (by omega)).mono ?_
    rintro e w' ⟨g', cap', rfl, ho, hB⟩
    exact ⟨_, cap', rfl, ⟨hb, Or.inr ⟨g', 0, rfl, (ho.lt g' rfl).2, bytes_own ho hl⟩⟩, hB⟩
set_option maxRecDepth 100000 in
theorem same_in (a1 a2 : Option Addr) (m c1 c2 : Nat) (bs : Nat → Nat) (w : World) (h1 : BytesIn w a1 m bs) (h2 : BytesIn w a2 m bs) :
    Calls Tryd.prog 37 #[.slice a1 m c1, .slice a2 m c2] w fun e w' => e = .returned (.bool true) ∧ Below w.heap.size w w' := by
  rcases Nat.eq_zero_or_pos m with h0 | hp
  · subst h0
    go_enter Tryd.func37, Tryd.ntmps37
    go_wp2_with fail
    go_loopw [5] (fun i wr => i = .int .i64 0 ∧ wr = w) (fun i _ => 0)
    case atStart => exact ⟨rfl, rfl⟩
    case round =>
      obtain ⟨rfl, rfl⟩ := hrel
      go_wp2_with fail
      go_ret
      exact ⟨rfl, Below.refl _ _⟩
  · rcases h1.2 with h0 | ⟨b1, o1, rfl, hb1, hB1⟩
    · omega
    rcases h2.2 with h0 | ⟨b2, o2, rfl, hb2, hB2⟩
    · omega
    · exact same_true b1 o1 c1 b2 o2 c2 m bs w (by have := h1.1; omega) hB1 hB2
end Go.Proofs.YtfijagdbdbbbpaaDoor
