
import Derived.Test.YticgapplpfaigaaGreatSrC
import Derived.Laws.CopyOwn
namespace Go.Proofs.YticgapplpfaigaaGreat
open Go.RowKit
set_option linter.unusedVariables false
set_option linter.unusedSimpArgs false
theorem smp_info : (Tryz.prog.info? 89).map (fun i => (i.zero, i.bytes, i.size)) = some (some (.agg #[.int .i64 0, .int .u8 0, .int .i64 0]), 24, 3) := by kernel_rfl
theorem wpList_append_run {P : Program} {ops : Array Oper} {rest : List Oper} {o : Oper} {a : Act} {Q : Exit → Act → World → Prop} {w : World} (hgd : o.guard = none) (s x : Operand) (t : TypeId)
    (ho : o.op = .call { callee := .builtin .append, args := #[s, x], argTypes := #[t, t] }) (v y v' : Value) (w' : World) (hs : a.eval s = v) (hx : a.eval x = y) (hr : (Builtin.append_ #[t, t] o.type #[v, y]).run P w = .ok v' w')
    (h : wpList P ops Q rest (a.put o.dst v') w') : wpList P ops Q (o :: rest) a w := by
  refine wpList_plain hgd fun K hK => ?_
  unfold Oper.wp execOp
  simp only [ho, resolve, invoke, builtin, Sem.run_bind, Sem.run_pure, Result.andThen_ok, List.map_toArray, List.map_cons, List.map_nil, hs, hx, hr]
  exact hK _ _ h
/-- samples appended to a row of one's own. -/
theorem app_row (W : World) (B : Nat) (v : Value) (l f : List Smp) (h : OR W B v l) (hB : B ≤ W.heap.size) (ad : Addr) (c : Nat) (hnews : ∀ j u, (encL f)[j]? = some u → W.cell? (ad.add j) = some u) (hm : 0 < f.length) (hn : l.length + f.length ≤ 4398046511104) :
    ∃ g cap w', (Builtin.append_ #[62, 62] 62 #[v, .slice (some ad) f.length c]).run Tryz.prog W = .ok (.slice (some ⟨g, 0, none⟩) (l.length + f.length) cap) w' ∧ w'.ownsRow B 89 3 (.slice (some ⟨g, 0, none⟩) (l.length + f.length) cap) (l.length + f.length) (encL (l ++ f)) ∧ W.grownBy w' v.ownBlock ∧ (v.ownBlock = some g ∨ g = W.heap.size) ∧ g < w'.heap.size := by
  obtain ⟨i, i1, i0⟩ := Option.map_eq_some_iff.1 smp_info
  have i2 : i.zero = some (.agg #[.int .i64 0, .int .u8 0, .int .i64 0]) := congrArg (·.1) i0
  have i3 : i.bytes = 24 := congrArg (·.2.1) i0
  have i4 : i.size = 3 := congrArg (·.2.2) i0
  have hml : maxLen = 9223372036854775807 := by decide
  rw [encL_append]
  rcases h with h | ⟨rfl, g0, rfl, hb0, _⟩
  · exact run_append_lies (P := Tryz.prog) W 62 _ B 89 i (.agg #[.int .i64 0, .int .u8 0, .int .i64 0]) 3 24 Tryz.underlying62 i1 i2 i4 i3 rfl (by omega) v l.length (encL l) h ad f.length c (encL f) (encL_len _) hnews (encL_one _) hm (by omega) (by omega) hB _ rfl
  · have hr := run_append_grow (P := Tryz.prog) W 62 62 89 i (.agg #[.int .i64 0, .int .u8 0, .int .i64 0]) Tryz.underlying62 i1 i2 ⟨g0, 0, none⟩ 0 0 [] (by simp) (by simp) ad f.length c (encL f) (by rw [i4]; exact encL_len _) hnews (by omega) (by simp at hn; omega) (growslice_fits (by omega) (by rw [i3]; simp at hn; omega))
    have hge := grownCap_ge W (0 + f.length) 0 89
    have hcm : grownCap W (0 + f.length) 0 89 ≤ maxLen := grownCap_le_maxLen W (0 + f.length) 0 89 (by simp at hn; omega)
    refine ⟨_, _, _, hr, ⟨by simp [encL, encL_len], .inr ⟨W.heap.size, _, _, rfl, hB, heap_alloc_new W.drew _, hge, hcm, ?_, ?_⟩⟩, ⟨rfl, rfl, rfl, by simp, fun k hk _ => Below.heap_alloc W.drew _ k hk⟩, Or.inr rfl, by simp⟩
    · have : (Value.cells (.agg #[.int .i64 0, .int .u8 0, .int .i64 0])).size = 3 := rfl
      simp only [Array.size_append, List.size_toArray, size_zeroCells, this, encL_len, List.length_nil]
      omega
    · simp only [Array.toList_append, List.append_assoc, encL, List.nil_append, List.length_nil, Nat.zero_add]
      rw [← encL_len]
      simp
/-- samples of one's row copied over others. -/
theorem copy_row (w : World) (B g cap : Nat) (M : List Smp) (own : w.ownsRow B 89 3 (.slice (some ⟨g, 0, none⟩) M.length cap) M.length (encL M)) (a b n dLen dCap sCap : Nat) (hb : b + n ≤ M.length) (ha : a + n ≤ M.length) (hd : n ≤ dLen) :
    ∃ w', (Builtin.copy_ #[62, 62] 3 #[.slice (some ⟨g, a * 3, none⟩) dLen dCap, .slice (some ⟨g, b * 3, none⟩) n sCap]).run Tryz.prog w = .ok (goInt n) w' ∧ w'.ownsRow B 89 3 (.slice (some ⟨g, 0, none⟩) M.length cap) M.length (encL (M.take a ++ (M.drop b).take n ++ M.drop (a + n))) ∧ w.grownBy w' (some g) := by
  obtain ⟨i, i1, i0⟩ := Option.map_eq_some_iff.1 smp_info
  have i4 : i.size = 3 := congrArg (·.2.2) i0
  rcases own.2 with ⟨hq, _⟩ | ⟨g0, cap0, cur, hq, hbg, hg, hnc, hcm, hcs, htake⟩
  · cases hq
  cases hq
  have hcl := own.cells (g := g) rfl
  obtain ⟨cs, hcs0⟩ : ∃ cs, cs = encL ((M.drop b).take n) := ⟨_, rfl⟩
  have hln : ((M.drop b).take n).length = n := by rw [List.length_take, List.length_drop]; omega
  have hcl2 : cs.length = n * 3 := by rw [hcs0, encL_len, hln]
  have hsrc : ∀ j v, cs[j]? = some v → w.cell? ((⟨g, b * 3, none⟩ : Addr).add j) = some v := fun j v hj => by
    have := hcl (b * 3 + j) v (by
      rw [hcs0, encL_take, encL_drop] at hj
      rw [List.getElem?_take] at hj
      split at hj
      · rw [List.getElem?_drop] at hj; exact hj
      · cases hj)
    rw [smp_add] at this ⊢
    rw [Nat.zero_add] at this; exact this
  have h1 : ∀ v ∈ cs, v.oneCell' = true := by rw [hcs0]; exact encL_one _
  have hl := run_loadCells_list (P := Tryz.prog) w ⟨g, b * 3, none⟩ cs hsrc
  have hst := run_storeCells_at Tryz.prog g (a * 3) 89 cs 0 cur w hg (by rw [hcl2, hcs]; omega) h1
  refine ⟨w.setRow g (cur.toList.take (a * 3 + 0) ++ cs ++ cur.toList.drop (a * 3 + 0 + cs.length)).toArray, ?_, ?_, ?_⟩
  · simp [Builtin.copy_, run_underlying Tryz.underlying62, Builtin.lenOf, Builtin.firstCells, sizeOf, typeInfo, i1, i4, Nat.min_eq_left hd]
    rw [← hcl2, hl]
    simp [hst]
  · have hlen : (M.take a ++ (M.drop b).take n ++ M.drop (a + n)).length = M.length := by
      rw [List.length_append, List.length_append, hln, List.length_take, List.length_drop]; omega
    refine ⟨by rw [encL_len, hlen], .inr ⟨g, cap, _, rfl, hbg, setRow_heap w g cur _ _ _ hg, hnc, hcm, ?_, ?_⟩⟩
    · simp [hcl2]; omega
    · rw [encL_append, encL_append, encL_take, encL_drop, ← hcs0, ← htake]
      simp only [Nat.add_zero]
      have e1 : (cur.toList.take (M.length * 3)).take (a * 3) = cur.toList.take (a * 3) := by rw [List.take_take, Nat.min_eq_left (by omega)]
      rw [e1, List.take_append, List.take_append]
      have e2 : (cur.toList.take (a * 3)).length = a * 3 := by rw [List.length_take, Array.length_toList]; omega
      rw [List.take_of_length_le (l := cur.toList.take (a * 3)) (by omega), List.take_of_length_le (l := cs) (by omega)]
      refine congrArg (fun x => (cur.toList.take (a * 3) ++ cs) ++ x) ?_
      simp only [List.length_append, e2, hcl2]
      rw [List.drop_take, ← Nat.add_mul, ← Nat.sub_mul]
  · exact ⟨rfl, rfl, rfl, by simp, fun k _ hk => setRow_other w g k _ (fun e => hk (by simp [e]))⟩
end Go.Proofs.YticgapplpfaigaaGreat
