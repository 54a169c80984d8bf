
import Derived.Test.YtepgcgphnjlcoaaDoorWwBq
import Derived.Test.YtepgcgphnjlcoaaDoorTornAq
import Derived.Lib.AppendStr
namespace Go.Proofs.YtepgcgphnjlcoaaDoor
open Go.RowKit Go.Lib
set_option linter.unusedVariables false
set_option linter.unusedSimpArgs false
/-- bytes appended to a row of the call's own, of whatever length a machine holds. -/
theorem app_fit2 (base g cap n m : Nat) (xs news : List Value) (w : World) (ad : Addr) (c : Nat) (ho : w.ownsRow base 5 1 (.slice (some ⟨g, 0, none⟩) n cap) n xs) (hl : news.length = m)
    (hnews : ∀ j u, news[j]? = some u → w.cell? (ad.add j) = some u) (h1 : ∀ u ∈ news, u.oneCell' = true) (hbig : n + m ≤ 200000000000000) (hbase : base ≤ w.heap.size) :
    ∃ g' c' w', (Builtin.append_ #[23, 23] 23 #[.slice (some ⟨g, 0, none⟩) n cap, .slice (some ad) m c]).run Tryd.prog w = .ok (.slice (some ⟨g', 0, none⟩) (n + m) c') w' ∧ w'.ownsRow base 5 1 (.slice (some ⟨g', 0, none⟩) (n + m) c') (n + m) (xs ++ news) ∧ w.grownBy w' (some g) ∧ (g' = g ∨ w.heap.size ≤ g') := by
  obtain ⟨i, i1, i0⟩ := Option.map_eq_some_iff.1 byte_info
  have i2 : i.zero = some (.int .u8 0) := congrArg (·.1) i0
  have i3 : i.bytes = 1 := congrArg (·.2.1) i0
  have i4 : i.size = 1 := congrArg (·.2.2) i0
  have hml : maxLen = 9223372036854775807 := by decide
  have hl' : news.length = m * i.size := by rw [i4]; omega
  rcases ho.2 with ⟨hq, _⟩ | ⟨g0, cap0, cur, hq, hbg, hg, hnc, hcm, hcs, htake⟩
  · cases hq
  have hx := ho.1
  simp only [Value.slice.injEq, Option.some.injEq, Addr.mk.injEq, and_true, true_and] at hq
  obtain ⟨rfl, rfl⟩ := hq
  have hlen : (xs ++ news).length = (n + m) * 1 := by rw [List.length_append, hx, hl, Nat.add_mul]; omega
  by_cases hroom : n + m ≤ cap
  · have hfit : n * i.size + news.length ≤ cur.size := by rw [i4, hl, hcs]; omega
    have hr := run_append_room (P := Tryd.prog) w 23 23 5 i Tryd.underlying23 i1 g n cap cur hg ad m c news hl' hnews h1 hroom hfit
    refine ⟨g, cap, _, hr, ⟨hlen, .inr ⟨g, cap, _, rfl, hbg, setRow_heap w g cur _ 5 _ hg, hroom, hcm, ?_, ?_⟩⟩, ⟨rfl, rfl, rfl, by simp, fun k _ hk => setRow_other w g k _ (fun e => hk (by rw [e]))⟩, Or.inl rfl⟩
    · simp only [List.size_toArray, List.length_append, List.length_take, List.length_drop, Array.length_toList]
      rw [i4, hl]; omega
    · rw [i4, htake]
      simp only [Nat.mul_one] at hlen ⊢
      rw [← hlen]; exact List.take_left
  · have hr := run_append_grow (P := Tryd.prog) w 23 23 5 i (.int .u8 0) Tryd.underlying23 i1 i2 ⟨g, 0, none⟩ n cap xs (by rw [i4]; exact hx) (ho.cells (g := g) rfl) ad m c news hl' hnews (by omega) (by omega)
      (by have := nextcap_tight (need := n + m) (old := cap) (by omega); rw [i3]; omega)
    have hge := grownCap_ge w (n + m) cap 5
    have hcm' := grownCap_le_maxLen w (n + m) cap 5 (by omega)
    refine ⟨w.heap.size, _, _, hr, ⟨hlen, .inr ⟨w.heap.size, _, _, rfl, hbase, heap_alloc_new w.drew _, hge, hcm', ?_, ?_⟩⟩, ⟨rfl, rfl, rfl, by simp, fun k hk _ => _root_.Go.heap_alloc_old w.drew _ hk⟩, Or.inr (Nat.le_refl _)⟩
    · simp only [Array.size_append, List.size_toArray, size_zeroCells]
      have hz : (Value.int .u8 0).cells.size = 1 := rfl
      rw [hz, hl, hx]; omega
    · simp only [Array.toList_append, List.append_assoc]
      rw [← List.append_assoc, ← hlen]; exact List.take_left
theorem app_any2 (base g cap n m : Nat) (l r : List Nat) (w : World) (a : Option Addr) (c : Nat) (ho : w.ownsRow base 5 1 (.slice (some ⟨g, 0, none⟩) n cap) n (enc l)) (hm : r.length = m)
    (h : m = 0 ∨ ∃ b off, a = some ⟨b, off, none⟩ ∧ BytesAt w b off m (natsOf r)) (hbig : n + m ≤ 200000000000000) (hbase : base ≤ w.heap.size) :
    ∃ g' c' w', (Builtin.append_ #[23, 23] 23 #[.slice (some ⟨g, 0, none⟩) n cap, .slice a m c]).run Tryd.prog w = .ok (.slice (some ⟨g', 0, none⟩) (n + m) c') w' ∧ w'.ownsRow base 5 1 (.slice (some ⟨g', 0, none⟩) (n + m) c') (n + m) (enc (l ++ r)) ∧ w.grownBy w' (some g) ∧ (g' = g ∨ w.heap.size ≤ g') := by
  cases a with
  | none =>
    obtain rfl : m = 0 := by
      rcases h with h | ⟨b, off, h, _⟩
      · exact h
      · cases h
    obtain rfl : r = [] := List.eq_nil_of_length_eq_zero hm
    refine ⟨g, cap, w, ?_, by rw [Nat.add_zero, List.append_nil]; exact ho, ⟨rfl, rfl, rfl, Nat.le_refl _, fun _ _ _ => rfl⟩, Or.inl rfl⟩
    obtain ⟨i, i1, i0⟩ := Option.map_eq_some_iff.1 byte_info
    have hnc : n ≤ cap := by
      rcases ho.2 with ⟨hq, _⟩ | ⟨g0, cap0, cur, hq, _, _, hnc, _⟩
      · cases hq
      · cases hq; exact hnc
    simp [Builtin.append_, run_underlying Tryd.underlying23, sizeOf, typeInfo, i1, Builtin.lenOf, hnc, run_firstCells_none, storeCells]
  | some ad =>
    rw [← enc_append]
    refine app_fit2 base g cap n m (enc l) (enc r) w ad c ho (by rw [enc_len, hm]) ?_ (enc_one r) hbig hbase
    rcases h with h | ⟨b, off, h, hb⟩
    · obtain rfl : r = [] := List.eq_nil_of_length_eq_zero (by omega)
      intro j u hu; simp [enc] at hu
    · obtain rfl := Option.some.inj h
      subst hm
      exact bytes_news hb

theorem wpList_append_run2 {P : Program} {ops : Array Oper} {rest : List Oper} {o : Oper} {a : Act} {Q : Exit → Act → World → Prop} {w : World} (hgd : o.guard = none) (s x : Operand) (t u : TypeId)
    (ho : o.op = .call { callee := .builtin .append, args := #[s, x], argTypes := #[t, u] }) (v y v' : Value) (w' : World) (hs : a.eval s = v) (hx : a.eval x = y) (hr : (Builtin.append_ #[t, u] o.type #[v, y]).run P w = .ok v' w')
    (h : wpList P ops Q rest (a.put o.dst v') w') : wpList P ops Q (o :: rest) a w := by
  refine wpList_plain hgd fun K hK => ?_
  unfold Oper.wp execOp
  simp only [ho, resolve, invoke, builtin, Sem.run_bind, Sem.run_pure, Result.andThen_ok, List.map_toArray, List.map_cons, List.map_nil, hs, hx, hr]
  exact hK _ _ h
/-- a text appended to a row of the call's own. -/
theorem app_str2 (base g cap n : Nat) (xs : List Value) (w : World) (s : ByteArray) (ho : w.ownsRow base 5 1 (.slice (some ⟨g, 0, none⟩) n cap) n xs) (hbig : n + s.size ≤ 140737488355328) (hbase : base ≤ w.heap.size) :
    ∃ g' c' w', (Builtin.append_ #[23, 9] 23 #[.slice (some ⟨g, 0, none⟩) n cap, .string s]).run Tryd.prog w = .ok (.slice (some ⟨g', 0, none⟩) (n + s.size) c') w' ∧ w'.ownsRow base 5 1 (.slice (some ⟨g', 0, none⟩) (n + s.size) c') (n + s.size) (xs ++ strCells s) ∧ w.grownBy w' (some g) ∧ (g' = g ∨ w.heap.size ≤ g') := by
  obtain ⟨i, i1, i0⟩ := Option.map_eq_some_iff.1 byte_info
  have i2 : i.zero = some (.int .u8 0) := congrArg (·.1) i0
  have i3 : i.bytes = 1 := congrArg (·.2.1) i0
  have i4 : i.size = 1 := congrArg (·.2.2) i0
  have hml : maxLen = 9223372036854775807 := by decide
  obtain ⟨v', w', hr, h2, h3, h4⟩ := run_append_own_string (P := Tryd.prog) w base 23 9 23 5 i Tryd.underlying23 Tryd.underlying9 i1 i2 i4 i3 _ n xs ho s (by omega) hbig hbase
  rcases ho.2 with ⟨hq, _⟩ | ⟨g0, cap0, cur, hq, hbg, hg, hnc, hcm, hcs, htake⟩
  · cases hq
  have hx := ho.1
  simp only [Value.slice.injEq, Option.some.injEq, Addr.mk.injEq, and_true, true_and] at hq
  obtain ⟨rfl, rfl⟩ := hq
  by_cases hroom : n + s.size ≤ cap
  · have hr2 := run_append_room_string (P := Tryd.prog) w 23 9 23 5 i Tryd.underlying23 Tryd.underlying9 i1 i4 g n cap cur hg s hroom (by omega)
    rw [hr2] at hr
    injection hr with e1 e2
    subst e1 e2
    exact ⟨g, cap, _, hr2, h2, h3, Or.inl rfl⟩
  · have hr2 := run_append_grow_string (P := Tryd.prog) w 23 9 23 5 i (.int .u8 0) Tryd.underlying23 Tryd.underlying9 i1 i2 ⟨g, 0, none⟩ n cap xs (by rw [i4]; simpa using hx) (ho.cells (g := g) rfl) s (by omega) (by omega) (by rw [i3]; exact growslice_fits (by omega) (by omega))
    rw [hr2] at hr
    injection hr with e1 e2
    subst e1 e2
    exact ⟨_, _, _, hr2, h2, h3, Or.inr (Nat.le_refl _)⟩
theorem strCells_enc (s : ByteArray) : strCells s = enc (bytesL (fun i => (s.data.toList.getD i 0).toNat) s.size) := by
  apply List.ext_getElem?
  intro j
  have hs : s.size = s.data.toList.length := rfl
  simp only [strCells, enc, bytesL, List.getElem?_map, hs]
  rcases Nat.lt_or_ge j s.data.toList.length with h | h
  · have h' : j < s.data.size := by simpa using h
    have h2 : j < s.size := h'
    simp [List.getElem?_range h2, List.getElem?_eq_getElem h, List.getD_eq_getElem?_getD, h']
    rw [Array.getElem?_eq_getElem h']; rfl
  · rw [List.getElem?_eq_none h, List.getElem?_eq_none (by simpa using h)]; rfl
theorem nats_bytesL (bs : Nat → Nat) (m i : Nat) (h : i < m) : natsOf (bytesL bs m) i = bs i := by
  simp [natsOf, bytesL, List.getD_eq_getElem?_getD, List.getElem?_range h]
/-- its slice grown, the free bits as they were. -/
theorem WS.grew {N : Nat} {w1 wx : World} {fr : Int} {g cap n : Nat} {xs : List Value} (h : WS N w1 fr (.slice (some ⟨g, 0, none⟩) n cap) n xs wx) {g' c' n' : Nat} {ys : List Value} {w' : World}
    (hown : w'.ownsRow (N + 1) 5 1 (.slice (some ⟨g', 0, none⟩) n' c') n' ys) (hgrow : wx.grownBy w' (some g)) (hg' : g' = g ∨ wx.heap.size ≤ g') :
    WS N w1 fr (.slice (some ⟨g', 0, none⟩) n' c') n' ys (w'.setCell ⟨N, 0, none⟩ (.slice (some ⟨g', 0, none⟩) n' c')) ∧ Fr N (.slice (some ⟨g, 0, none⟩) n cap) (.slice (some ⟨g', 0, none⟩) n' c') wx (w'.setCell ⟨N, 0, none⟩ (.slice (some ⟨g', 0, none⟩) n' c')) ∧ w'.cell? ⟨N, 0, none⟩ = some (.slice (some ⟨g, 0, none⟩) n cap) ∧ w'.frozen? ⟨N, 0, none⟩ = false := by
  have hs := h.sz
  have hne : some N ≠ (some g : Option Nat) := fun e => by have := (h.own.lt g rfl).1; injection e with e; omega
  have y0 := (hgrow.cell_far ⟨N, 0, none⟩ hs hne).trans h.c0
  have y1 := (hgrow.cell_far ⟨N, 1, none⟩ hs hne).trans h.c1
  have y2 := (hgrow.frozen_far ⟨N, 0, none⟩ hs hne).trans h.f0
  have y3 := (hgrow.frozen_far ⟨N, 1, none⟩ hs hne).trans h.f1
  have hb' := h.b.grown hgrow (by omega) (fun k e => by injection e with e; have := (h.own.lt g rfl).1; omega)
  have hz' := hgrow.size
  refine ⟨WS.put0 y0 y1 y2 y3 hb' (by omega) hown, ⟨by simpa using hz', fun k hk hn ho => ?_, ?_⟩, y0, y2⟩
  · rw [Below.heap_setCell _ _ _ _ hn, hgrow.block k hk ho]
  · rcases hg' with e | e
    · exact Or.inl (by rw [e]; rfl)
    · exact Or.inr ⟨g', rfl, e⟩
set_option maxRecDepth 100000 in
set_option maxHeartbeats 2000000 in
theorem wraw_fr (N : Nat) (w1 : World) (fr : Int) (v : Value) (n : Nat) (l : List Nat) (w : World) (h : WS N w1 fr v n (enc l) w) (a : Option Addr) (m c : Nat) (bs : Nat → Nat)
    (hin : m = 0 ∨ ∃ b off, a = some ⟨b, off, none⟩ ∧ b < w.heap.size ∧ b ≠ N ∧ some b ≠ v.ownBlock ∧ BytesAt w b off m bs) (hb : n + m + 20 ≤ 140737488355328) :
    Calls Tryd.prog 24 #[.pointer (some ⟨N, 0, none⟩), .slice a m c] w fun e w' => e = .returned undef ∧ ∃ v' n', WS N w1 0 v' n' (enc l ++ enc (uB m) ++ enc (bytesL bs m)) w' ∧ n' ≤ n + 11 + m ∧ Fr N v v' w w' := by
  have hmw : (m : Int) % 18446744073709551616 = (m : Int) := by omega
  go_enter Tryd.func24, Tryd.ntmps24
  go_wp2_with fail
  refine (wuint_fr N w1 fr v n (enc l) _ h m (by omega) _ (by omega) (by omega)).mono ?_
  rintro e w2 ⟨rfl, v2, n2, h2, b2, F2⟩
  rw [enc_append] at h2
  have hn2 : 0 < n2 := by
    have hl := h2.own.1
    rw [enc_len, List.length_append] at hl
    have : 0 < (uB m).length := by unfold uB uBf; split <;> simp
    omega
  obtain ⟨g, cap, rfl, hg, hgl⟩ := h2.own.form hn2
  have hin2 : m = 0 ∨ ∃ b off, a = some ⟨b, off, none⟩ ∧ BytesAt w2 b off m (natsOf (bytesL bs m)) := by
    rcases hin with h0 | ⟨b, off, rfl, hbl, hbN, hbo, hB⟩
    · exact Or.inl h0
    · refine Or.inr ⟨b, off, rfl, fun i hi => ?_⟩
      rw [nats_bytesL bs m i hi]
      exact F2.bytes hB hbl hbN hbo i hi
  obtain ⟨g', c', w3, hr, hown, hgrow, hg'⟩ := app_any2 (N + 1) g cap n2 m (l ++ uB m) (bytesL bs m) w2 a c h2.own (by simp [bytesL]) hin2 (by omega) (by have := h2.sz; omega)
  obtain ⟨h4, F4, y0, y2⟩ := h2.grew hown hgrow hg'
  have c0 := h2.c0
  have s2 := h2.sz
  have s3 := hgrow.size
  have h4H : Hid _ := h4
  have F4H : Hid _ := F2.trans F4
  have hrH : Hid _ := hr
  clear hin hin2 h2 h F2 F4 h4 hr hgrow hown hg'
  go_wp2_with (at_builtin; refine wpList_append_run2 (by rfl) _ _ _ _ (by rfl) _ _ _ _ (by rfl) (by rfl) hrH.out ?_)
  go_wp2_with fail
  first | go_end0 | (simp only [Exit.inBlock, Exit.then]; refine bodyPost_ret (results_none rfl _ _ _) rfl ?_) | refine bodyPost_ret (results_none rfl _ _ _) rfl ?_
  exact ⟨rfl, _, n2 + m, by rw [enc_append, enc_append]; exact h4H.out, by omega, F4H.out⟩
set_option maxRecDepth 100000 in
set_option maxHeartbeats 2000000 in
theorem wtext_fr (N : Nat) (w1 : World) (fr : Int) (v : Value) (n : Nat) (l : List Nat) (w : World) (h : WS N w1 fr v n (enc l) w) (s : ByteArray) (hb : n + s.size + 20 ≤ 140737488355328) :
    Calls Tryd.prog 22 #[.pointer (some ⟨N, 0, none⟩), .string s] w fun e w' => e = .returned undef ∧ ∃ v' n', WS N w1 0 v' n' (enc l ++ enc (uB s.size) ++ enc (bytesL (fun i => (s.data.toList.getD i 0).toNat) s.size)) w' ∧ n' ≤ n + 11 + s.size ∧ Fr N v v' w w' := by
  have hmw : (s.size : Int) % 18446744073709551616 = (s.size : Int) := by omega
  go_enter Tryd.func22, Tryd.ntmps22
  go_wp2_with fail
  refine (wuint_fr N w1 fr v n (enc l) _ h s.size (by omega) _ (by omega) (by omega)).mono ?_
  rintro e w2 ⟨rfl, v2, n2, h2, b2, F2⟩
  rw [enc_append] at h2
  have hn2 : 0 < n2 := by
    have hl := h2.own.1
    rw [enc_len, List.length_append] at hl
    have : 0 < (uB s.size).length := by unfold uB uBf; split <;> simp
    omega
  obtain ⟨g, cap, rfl, hg, hgl⟩ := h2.own.form hn2
  obtain ⟨g', c', w3, hr, hown, hgrow, hg'⟩ := app_str2 (N + 1) g cap n2 _ w2 s h2.own (by omega) (by have := h2.sz; omega)
  rw [strCells_enc, enc_append] at hown
  obtain ⟨h4, F4, y0, y2⟩ := h2.grew hown hgrow hg'
  have c0 := h2.c0
  have s2 := h2.sz
  have s3 := hgrow.size
  have h4H : Hid _ := h4
  have F4H : Hid _ := F2.trans F4
  have hrH : Hid _ := hr
  clear h2 h F2 F4 h4 hr hgrow hown hg'
  go_wp2_with (at_builtin; refine wpList_append_run2 (by rfl) _ _ _ _ (by rfl) _ _ _ _ (by rfl) (by rfl) hrH.out ?_)
  go_wp2_with fail
  first | go_end0 | (simp only [Exit.inBlock, Exit.then]; refine bodyPost_ret (results_none rfl _ _ _) rfl ?_) | refine bodyPost_ret (results_none rfl _ _ _) rfl ?_
  exact ⟨rfl, _, n2 + s.size, by rw [enc_append, enc_append]; exact h4H.out, by omega, F4H.out⟩
end Go.Proofs.YtepgcgphnjlcoaaDoor
