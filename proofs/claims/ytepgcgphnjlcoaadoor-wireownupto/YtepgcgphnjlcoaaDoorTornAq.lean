
import Derived.Test.YtepgcgphnjlcoaaDoorSealAq
import Derived.Maps.AppendAt
import Derived.Laws.AppendOwnNone
namespace Go.Proofs.YtepgcgphnjlcoaaDoor
open Go.RowKit
set_option linter.unusedVariables false
set_option linter.unusedSimpArgs false
/-- a slice that grows takes at most a quarter more than it needs. -/
theorem nextcap_tight {need old : Nat} (h : old < need) : Builtin.nextslicecap need old ≤ need + need / 4 + 768 := by
  unfold Builtin.nextslicecap
  split
  · omega
  · split
    · omega
    · rw [growBy_four]
      repeat' split
      all_goals omega
theorem wpList_append_run {P : Program} {ops : Array Oper} {rest : List Oper} {o : Oper} {a : Act} {Q : Exit → Act → World → Prop} {w : World} (hgd : o.guard = none) (s x : Operand) (t : TypeId)
    (ho : o.op = .call { callee := .builtin .append, args := #[s, x], argTypes := #[t, t] }) (v y v' : Value) (w' : World) (hs : a.eval s = v) (hx : a.eval x = y) (hr : (Builtin.append_ #[t, t] o.type #[v, y]).run P w = .ok v' w')
    (h : wpList P ops Q rest (a.put o.dst v') w') : wpList P ops Q (o :: rest) a w := by
  refine wpList_plain hgd fun K hK => ?_
  unfold Oper.wp execOp
  simp only [ho, resolve, invoke, builtin, Sem.run_bind, Sem.run_pure, Result.andThen_ok, List.map_toArray, List.map_cons, List.map_nil, hs, hx, hr]
  exact hK _ _ h
/-- bytes appended to a row of the call's own, of whatever length a machine holds. -/
theorem app_fit (base g cap n m : Nat) (xs news : List Value) (w : World) (ad : Addr) (c : Nat) (ho : w.ownsRow base 5 1 (.slice (some ⟨g, 0, none⟩) n cap) n xs) (hl : news.length = m)
    (hnews : ∀ j u, news[j]? = some u → w.cell? (ad.add j) = some u) (h1 : ∀ u ∈ news, u.oneCell' = true) (hbig : n + m ≤ 200000000000000) (hbase : base ≤ w.heap.size) :
    ∃ g' c' w', (Builtin.append_ #[23, 23] 23 #[.slice (some ⟨g, 0, none⟩) n cap, .slice (some ad) m c]).run Tryd.prog w = .ok (.slice (some ⟨g', 0, none⟩) (n + m) c') w' ∧ w'.ownsRow base 5 1 (.slice (some ⟨g', 0, none⟩) (n + m) c') (n + m) (xs ++ news) ∧ w.grownBy w' (some g) := by
  obtain ⟨i, i1, i0⟩ := Option.map_eq_some_iff.1 byte_info
  have i2 : i.zero = some (.int .u8 0) := congrArg (·.1) i0
  have i3 : i.bytes = 1 := congrArg (·.2.1) i0
  have i4 : i.size = 1 := congrArg (·.2.2) i0
  have hml : maxLen = 9223372036854775807 := by decide
  have hl' : news.length = m * i.size := by rw [i4]; omega
  rcases ho.2 with ⟨hq, _⟩ | ⟨g0, cap0, cur, hq, hbg, hg, hnc, hcm, hcs, htake⟩
  · cases hq
  have hx := ho.1
  simp only [Value.slice.injEq, Option.some.injEq, Addr.mk.injEq, and_true, true_and] at hq
  obtain ⟨rfl, rfl⟩ := hq
  have hlen : (xs ++ news).length = (n + m) * 1 := by rw [List.length_append, hx, hl, Nat.add_mul]; omega
  by_cases hroom : n + m ≤ cap
  · have hfit : n * i.size + news.length ≤ cur.size := by rw [i4, hl, hcs]; omega
    have hr := run_append_room (P := Tryd.prog) w 23 23 5 i Tryd.underlying23 i1 g n cap cur hg ad m c news hl' hnews h1 hroom hfit
    refine ⟨g, cap, _, hr, ⟨hlen, .inr ⟨g, cap, _, rfl, hbg, setRow_heap w g cur _ 5 _ hg, hroom, hcm, ?_, ?_⟩⟩, ⟨rfl, rfl, rfl, by simp, fun k _ hk => setRow_other w g k _ (fun e => hk (by rw [e]))⟩⟩
    · simp only [List.size_toArray, List.length_append, List.length_take, List.length_drop, Array.length_toList]
      rw [i4, hl]; omega
    · rw [i4, htake]
      simp only [Nat.mul_one] at hlen ⊢
      rw [← hlen]; exact List.take_left
  · have hr := run_append_grow (P := Tryd.prog) w 23 23 5 i (.int .u8 0) Tryd.underlying23 i1 i2 ⟨g, 0, none⟩ n cap xs (by rw [i4]; exact hx) (ho.cells (g := g) rfl) ad m c news hl' hnews (by omega) (by omega)
      (by have := nextcap_tight (need := n + m) (old := cap) (by omega); rw [i3]; omega)
    have hge := grownCap_ge w (n + m) cap 5
    have hcm' := grownCap_le_maxLen w (n + m) cap 5 (by omega)
    refine ⟨w.heap.size, _, _, hr, ⟨hlen, .inr ⟨w.heap.size, _, _, rfl, hbase, heap_alloc_new w.drew _, hge, hcm', ?_, ?_⟩⟩, ⟨rfl, rfl, rfl, by simp, fun k hk _ => _root_.Go.heap_alloc_old w.drew _ hk⟩⟩
    · simp only [Array.size_append, List.size_toArray, size_zeroCells]
      have hz : (Value.int .u8 0).cells.size = 1 := rfl
      rw [hz, hl, hx]; omega
    · simp only [Array.toList_append, List.append_assoc]
      rw [← List.append_assoc, ← hlen]; exact List.take_left
/-- the same of what was read, perhaps nothing. -/
theorem app_any (base g cap n m : Nat) (l r : List Nat) (w : World) (a : Option Addr) (c : Nat) (ho : w.ownsRow base 5 1 (.slice (some ⟨g, 0, none⟩) n cap) n (enc l)) (hm : r.length = m)
    (h : m = 0 ∨ ∃ b off, a = some ⟨b, off, none⟩ ∧ BytesAt w b off m (natsOf r)) (hbig : n + m ≤ 200000000000000) (hbase : base ≤ w.heap.size) :
    ∃ g' c' w', (Builtin.append_ #[23, 23] 23 #[.slice (some ⟨g, 0, none⟩) n cap, .slice a m c]).run Tryd.prog w = .ok (.slice (some ⟨g', 0, none⟩) (n + m) c') w' ∧ w'.ownsRow base 5 1 (.slice (some ⟨g', 0, none⟩) (n + m) c') (n + m) (enc (l ++ r)) ∧ w.grownBy w' (some g) := by
  cases a with
  | none =>
    obtain rfl : m = 0 := by
      rcases h with h | ⟨b, off, h, _⟩
      · exact h
      · cases h
    obtain rfl : r = [] := List.eq_nil_of_length_eq_zero hm
    refine ⟨g, cap, w, ?_, by rw [Nat.add_zero, List.append_nil]; exact ho, ⟨rfl, rfl, rfl, Nat.le_refl _, fun _ _ _ => rfl⟩⟩
    obtain ⟨i, i1, i0⟩ := Option.map_eq_some_iff.1 byte_info
    have hnc : n ≤ cap := by
      rcases ho.2 with ⟨hq, _⟩ | ⟨g0, cap0, cur, hq, _, _, hnc, _⟩
      · cases hq
      · cases hq; exact hnc
    simp [Builtin.append_, run_underlying Tryd.underlying23, sizeOf, typeInfo, i1, Builtin.lenOf, hnc, run_firstCells_none, storeCells]
  | some ad =>
    rw [← enc_append]
    refine app_fit base g cap n m (enc l) (enc r) w ad c ho (by rw [enc_len, hm]) ?_ (enc_one r) hbig hbase
    rcases h with h | ⟨b, off, h, hb⟩
    · obtain rfl : r = [] := List.eq_nil_of_length_eq_zero (by omega)
      intro j u hu; simp [enc] at hu
    · obtain rfl := Option.some.inj h
      subst hm
      exact bytes_news hb
end Go.Proofs.YtepgcgphnjlcoaaDoor
