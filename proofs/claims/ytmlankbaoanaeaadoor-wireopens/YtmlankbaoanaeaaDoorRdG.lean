
import Derived.Test.YtmlankbaoanaeaaDoorRdF
namespace Go.Proofs.YtmlankbaoanaeaaDoor
open Go.RowKit
set_option linter.unusedVariables false
set_option linter.unusedSimpArgs false
/-- bytes that are read from a block above M. -/
def InAbove (M : Nat) (W : World) (a : Option Addr) (n : Nat) (f : Nat → Nat) : Prop := n ≤ 140737488355327 ∧ (n = 0 ∨ ∃ g, a = some ⟨g, 0, none⟩ ∧ M < g ∧ g < W.heap.size ∧ BytesAt W g 0 n f)
theorem InAbove.set {M o : Nat} {W : World} {a : Option Addr} {n : Nat} {f : Nat → Nat} {u : Value} (h : InAbove M W a n f) : InAbove M (W.setCell ⟨M, o, none⟩ u) a n f := by
  obtain ⟨hn, h⟩ := h
  refine ⟨hn, ?_⟩
  rcases h with h | ⟨g, h0, h1, h2, h3⟩
  · exact Or.inl h
  · exact Or.inr ⟨g, h0, h1, by simpa using h2, fun i hi => ⟨by rw [World.cell?_setCell_other _ _ _ _ (by intro e; injection e with e1; omega)]; exact (h3 i hi).1, (h3 i hi).2⟩⟩
theorem InAbove.inn {M : Nat} {W : World} {a : Option Addr} {n : Nat} {f : Nat → Nat} (h : InAbove M W a n f) : BytesIn W a n f := by
  obtain ⟨hn, h⟩ := h
  refine ⟨hn, ?_⟩
  rcases h with h | ⟨g, h0, h1, h2, h3⟩
  · exact Or.inl h
  · exact Or.inr ⟨g, 0, h0, h2, h3⟩
theorem bytes_sub2 {w : World} {b off len n m : Nat} {bs : Nat → Nat} (h : BytesAt w b off len bs) (hn : n + m ≤ len) : ∀ j u, (enc ((List.range m).map fun i => bs (n + i)))[j]? = some u → w.cell? ((⟨b, off + n, none⟩ : Addr).add j) = some u := by
  intro j u hj
  have hj' : j < m := by
    rcases Nat.lt_or_ge j m with h' | h'
    · exact h'
    · rw [List.getElem?_eq_none (by rw [enc_len]; simp; exact h')] at hj; cases hj
  have h0 := (h (n + j) (by omega)).1
  have e : (⟨b, off + n, none⟩ : Addr).add j = ⟨b, off + (n + j), none⟩ := by rw [← Nat.add_assoc]; unfold Addr.add; split <;> simp_all
  rw [e, h0]
  simp [enc, hj'] at hj
  rw [← hj]
theorem InAbove.low {M M' : Nat} {W : World} {a : Option Addr} {n : Nat} {f : Nat → Nat} (h : InAbove M W a n f) (hm : M' + 1 ≤ M) : InAbove M' W a n f := by
  obtain ⟨hn, h⟩ := h
  refine ⟨hn, ?_⟩
  rcases h with h | ⟨g, h0, h1, h2⟩
  · exact Or.inl h
  · exact Or.inr ⟨g, h0, by omega, h2⟩
theorem wpList_append_run {P : Program} {ops : Array Oper} {rest : List Oper} {o : Oper} {a : Act} {Q : Exit → Act → World → Prop} {w : World} (hgd : o.guard = none) (s x : Operand) (t : TypeId)
    (ho : o.op = .call { callee := .builtin .append, args := #[s, x], argTypes := #[t, t] }) (v y v' : Value) (w' : World) (hs : a.eval s = v) (hx : a.eval x = y) (hr : (Builtin.append_ #[t, t] o.type #[v, y]).run P w = .ok v' w')
    (h : wpList P ops Q rest (a.put o.dst v') w') : wpList P ops Q (o :: rest) a w := by
  refine wpList_plain hgd fun K hK => ?_
  unfold Oper.wp execOp
  simp only [ho, resolve, invoke, builtin, Sem.run_bind, Sem.run_pure, Result.andThen_ok, List.map_toArray, List.map_cons, List.map_nil, hs, hx, hr]
  exact hK _ _ h
/-- 'append(nil, b[n:n+m]...)', m may be 0. -/
theorem app_sub (b off len c n m : Nat) (bs : Nat → Nat) (w : World) (h : BytesAt w b off len bs) (hn : n + m ≤ len) (hm : m ≤ 140737488355327) :
    ∃ a9 c9 w9, (Builtin.append_ #[24, 24] 24 #[.slice none 0 0, .slice (some ⟨b, off + n, none⟩) m c]).run Tryd.prog w = .ok (.slice a9 m c9) w9 ∧ InAbove (w.heap.size - 1) w9 a9 m (fun i => bs (n + i)) ∧ Below w.heap.size w w9 := by
  obtain ⟨i, i1, i0⟩ := Option.map_eq_some_iff.1 byte_info
  have i2 : i.zero = some (.int .u8 0) := congrArg (·.1) i0
  have i3 : i.bytes = 1 := congrArg (·.2.1) i0
  have i4 : i.size = 1 := congrArg (·.2.2) i0
  have hml : maxLen = 9223372036854775807 := by decide
  have hl256 : ∀ x ∈ ((List.range m).map fun i => bs (n + i)), x < 256 := fun x hx => by
    simp at hx; obtain ⟨j, hj, rfl⟩ := hx; exact (h (n + j) (by omega)).2
  obtain ⟨v', w', hr, ho', hg, _, _⟩ := run_append_own_at (P := Tryd.prog) w w.heap.size 24 24 5 i (.int .u8 0) 1 1 Tryd.underlying24 i1 i2 i4 i3 rfl (by omega) (.slice none 0 0) 0 [] (World.ownsRow_nil _ _ _ _) ⟨b, off + n, none⟩ m c (enc ((List.range m).map fun i => bs (n + i))) (by simp [enc]) (bytes_sub2 h hn) (enc_one _) (by omega) (by omega) (Nat.le_refl _)
  have ho : w'.ownsRow w.heap.size 5 1 v' m (enc ((List.range m).map fun i => bs (n + i))) := by rw [Nat.zero_add, List.nil_append] at ho'; exact ho'
  have hB : Below w.heap.size w w' := (Below.refl _ w).grown hg (Nat.le_refl _) (fun k e => by simp [Value.ownBlock] at e)
  rcases Nat.eq_zero_or_pos m with h0 | h0
  · rcases ho.2 with ⟨h1, _⟩ | ⟨g9, c9, cur, h1, _⟩
    · exact ⟨none, 0, w', by rw [hr, h1, h0], ⟨hm, Or.inl h0⟩, hB⟩
    · exact ⟨_, c9, w', by rw [hr, h1], ⟨hm, Or.inl h0⟩, hB⟩
  · obtain ⟨g9, c9, h1, gb, gl⟩ := ho.form h0
    subst h1
    have hpos : 0 < w.heap.size := by
      have := World.block_lt_of_cell? _ _ (h (n + 0) (by omega)).1; simp at this; omega
    refine ⟨_, c9, w', hr, ⟨hm, Or.inr ⟨g9, rfl, by omega, gl, fun j hj => ?_⟩⟩, hB⟩
    have h2 := bytes_own ho hl256 j hj
    rw [show natsOf ((List.range m).map fun i => bs (n + i)) j = bs (n + j) by simp [natsOf, List.getD_eq_getElem?_getD, hj]] at h2
    exact h2
set_option maxRecDepth 100000 in
set_option maxHeartbeats 4000000 in
theorem ropen_ok (b off len cap : Nat) (bs : Nat → Nat) (w : World) (hb : BytesAt w b off len bs) (hbk : b < w.heap.size) (h17 : 17 ≤ len) (hlen : len ≤ 140737488355327) (hlc : len ≤ cap) (hfitY : Hid (fitB bs 13 = true)) (hcc3 : Hid (¬ 67108864 < u32At bs 1)) (hcc4 : Hid (¬ len < 21 + u32At bs 1)) (hokY : Hid (okB bs (u32At bs 1) = true)) :
    Calls Tryd.prog 43 #[.slice (some ⟨b, off, none⟩) len cap] w fun e w' => RO bs len e w' ∧ Below w.heap.size w w' := by
  have hbs : ∀ i, i < len → bs i < 256 := fun i hi => (hb i hi).2
  have z1 := u32At_lt bs 1 (fun i hi => hbs i (by omega))
  have z5 := u32At_lt bs 5 (fun i hi => hbs i (by omega))
  have z9 := u32At_lt bs 9 (fun i hi => hbs i (by omega))
  have hI : ¬ (len : Int) < 17 := by omega
  have hwb : Hid _ := bad_start w
  have hbA : Hid (∀ wx, Below (w.heap.size + 1) (w.alloc (.cells #[.int .i64 0, .int .i64 0, .int .i64 0, .bool false, .bool false] 51)) wx → BytesAt wx b off len bs) := fun wx hx => (hb.below ((Below.refl _ w).alloc (Nat.le_refl _) (.cells #[.int .i64 0, .int .i64 0, .int .i64 0, .bool false, .bool false] 51)) hbk).below hx (by omega)
  have hb0 : BytesAt (w.alloc (.cells #[.int .i64 0, .int .i64 0, .int .i64 0, .bool false, .bool false] 51)) b off len bs := hb.below ((Below.refl _ w).alloc (Nat.le_refl _) (.cells #[.int .i64 0, .int .i64 0, .int .i64 0, .bool false, .bool false] 51)) hbk
  go_enter Tryd.func43, Tryd.ntmps43
  go_wp2_with fail
  refine (rdNew_any b off len cap bs _ hb0 (by simp; omega) (by omega) (by omega)).mono ?_
  rintro e w1 ⟨rfl, g, rcap, h1'⟩
  have h1 : RS (w.heap.size + 1) (w.alloc (.cells #[.int .i64 0, .int .i64 0, .int .i64 0, .bool false, .bool false] 51)) g len rcap 0 bs w1 := by simpa using h1'
  clear h1' hb0 hb hbk hI
  go_wp2_with fail
  refine (rdByte_any (w.heap.size + 1) _ g len rcap 0 bs _ h1 (by omega) (by omega)).mono ?_
  rintro e w2 ⟨rfl, h2⟩
  clear h1
  go_wp2_with fail
  refine (rdFix_any (w.heap.size + 1) _ g len rcap 1 bs _ h2 (by omega) (by omega)).mono ?_
  rintro e w3 ⟨rfl, h3⟩
  clear h2
  generalize hn1 : u32At bs 1 = size at *
  have hn1' : Hid _ := hn1
  clear hn1
  have c3 := hcc3.out
  have c4 := hcc4.out
  have hok : Hid _ := hokY.out
  clear hcc3 hcc4 hokY
  go_wp2_with fail
  refine (rdFix_any (w.heap.size + 1) _ g len rcap 5 bs _ h3 (by omega) (by omega)).mono ?_
  rintro e w4 ⟨rfl, h4⟩
  clear h3
  generalize hn5 : u32At bs 5 = n5 at *
  have hn5' : Hid _ := hn5
  clear hn5
  go_wp2_with fail
  refine (rdFix_any (w.heap.size + 1) _ g len rcap 9 bs _ h4 (by omega) (by omega)).mono ?_
  rintro e w5 ⟨rfl, h5⟩
  clear h4
  generalize hn9 : u32At bs 9 = n9 at *
  have hn9' : Hid _ := hn9
  clear hn9
  have wr1 : ((n5 : Int) * 4294967296 + (n9 : Int)) % 18446744073709551616 = (n5 : Int) * 4294967296 + (n9 : Int) := by omega
  obtain ⟨k13, hk13⟩ : ∃ k, k = crcTo bs 13 ^^^ 4294967295 := ⟨_, rfl⟩
  obtain ⟨s13, hs13⟩ : ∃ k, k = u32At bs 13 := ⟨_, rfl⟩
  have hc13 : Hid (∀ wx, BytesAt wx b off len bs → Calls Tryd.prog 39 #[.slice (some ⟨b, off, none⟩) 13 cap] wx fun e w' => e = .returned (.int .u32 (k13 : Int)) ∧ w' = wx) := fun wx hx => by rw [hk13]; exact crc_ref b off 13 cap bs wx (by omega) (fun i hi => hx i (by omega))
  have hf13 : Hid (∀ wx, RS (w.heap.size + 1) (w.alloc (.cells #[.int .i64 0, .int .i64 0, .int .i64 0, .bool false, .bool false] 51)) g len rcap 13 bs wx → Calls Tryd.prog 60 #[.pointer (some ⟨w.heap.size + 1, 0, none⟩)] wx fun e w' => e = .returned (.int .u32 (s13 : Int)) ∧ RS (w.heap.size + 1) (w.alloc (.cells #[.int .i64 0, .int .i64 0, .int .i64 0, .bool false, .bool false] 51)) g len rcap 17 bs w') := fun wx hx => by rw [hs13]; exact rdFix_any _ _ g len rcap 13 bs wx hx (by omega) (by omega)
  have hfit : Hid (fitB bs 13 = ((s13 : Int) == (k13 : Int))) := by unfold Hid fitB; rw [hk13, hs13]
  clear hk13 hs13
  have l13 : (13 : Int) ≤ (cap : Int) := by omega
  clear hbs
  have hc1' : ¬ len < 17 := by omega
  have hc1 : Hid _ := hc1'
  clear hc1'
  have c2' : ((s13 : Int) == (k13 : Int)) = true := hfit.out.symm.trans hfitY.out
  have c2 : s13 = k13 := by have := eq_of_beq c2'; omega
  clear c2' hfit
  subst c2
  go_wp2_with fail
  go_region_with (first
    | (go_at_call 60; refine Calls.mono (hf13.out _ h5.drew) ?_; rintro e w6 ⟨rfl, h6⟩)
    | (go_at_call 39; refine Calls.mono (hc13.out _ (hbA.out _ (by first | exact h6.b | exact h5.drew.b))) ?_; rintro e w7 ⟨rfl, hw7⟩))
  all_goals
    have hw8 := hw7.symm
    subst hw8
    have s6 := h6.sz
    clear hf13 hc13 h5
    have c3I : ¬ (67108864 : Int) < (size : Int) := by omega
    have c4I : ¬ (len : Int) - 21 < (size : Int) := by omega
    have p1 : 17 + (size : Int) ≤ (len : Int) := by omega
    have p2 : 17 + (size : Int) ≤ (cap : Int) := by omega
    have p3 : (0 : Int) ≤ 17 + (size : Int) := by omega
    have p4 : (len : Int) ≤ (cap : Int) := by omega
    have hn17 : (17 + (size : Int)).toNat = 17 + size := by omega
    have hcn : ¬ cap = 17 + size := by omega
    have hw6 := h6.b
    have hby := hbA.out _ hw6
    have hbl := World.block_lt_of_cell? _ _ (hby 0 (by omega)).1
    have hb2 : BytesAt w6 b (off + (17 + size)) (len - (17 + size)) (fun i => bs (17 + size + i)) := fun i hi => by
      have := hby (17 + size + i) (by omega)
      rw [← Nat.add_assoc off] at this; exact this
    go_wp2_with fail
    refine (rdNew_any b (off + (17 + size)) (len - (17 + size)) (cap - (17 + size)) (fun i => bs (17 + size + i)) _ hb2 hbl (by omega) (by omega)).mono ?_
    rintro e w8 ⟨rfl, g8, c8, h8⟩
    obtain ⟨k2, hk2⟩ : ∃ k, k = crcTo bs (17 + size) ^^^ 4294967295 := ⟨_, rfl⟩
    obtain ⟨s2, hs2⟩ : ∃ k, k = u32At bs (17 + size) := ⟨_, rfl⟩
    have hcc : Hid (∀ wx, BytesAt wx b off len bs → Calls Tryd.prog 39 #[.slice (some ⟨b, off, none⟩) (17 + size) cap] wx fun e w' => e = .returned (.int .u32 (k2 : Int)) ∧ w' = wx) := fun wx hx => crc_sub b off len cap (17 + size) bs k2 hk2 wx hx (by omega) (by omega)
    have hff : Hid (∀ wx, RS w6.heap.size w6 g8 (len - (17 + size)) c8 0 (fun i => bs (17 + size + i)) wx → Calls Tryd.prog 60 #[.pointer (some ⟨w6.heap.size, 0, none⟩)] wx fun e w' => e = .returned (.int .u32 (s2 : Int)) ∧ RS w6.heap.size w6 g8 (len - (17 + size)) c8 4 (fun i => bs (17 + size + i)) w') := fun wx hx => rdFix_sub _ _ g8 (len - (17 + size)) c8 (17 + size) bs s2 hs2 wx hx (by omega) (by omega)
    have hfit2 : okB bs size = ((s2 : Int) == (k2 : Int)) := ok_of bs size k2 s2 hk2 hs2
    rw [hok.out] at hfit2
    clear hk2 hs2 hb2 hby hbl
    have m6 : w.heap.size + 1 ≤ w6.heap.size := by omega
    have c5 : s2 = k2 := by have := eq_of_beq hfit2.symm; omega
    clear hfit2
    subst c5
    go_wp2_with fail
    have P2 : 17 + (size : Int) ≤ (cap : Int) := by omega
    have P3 : (0 : Int) ≤ 17 + (size : Int) := by omega
    have H17 : (17 + (size : Int)).toNat = 17 + size := by omega
    have wz : IntKind.i64.wrap (17 + (size : Int)) = 17 + (size : Int) := by rw [IntKind.wrap_i64]; omega
    go_region_with (first
      | (go_at_call 60; refine Calls.mono (hff.out _ h8.drew) ?_; rintro e x6 ⟨rfl, k6⟩)
      | (go_at_call 39; refine Calls.mono (hcc.out _ (hbA.out _ (by first | exact hw6.trans (k6.b.mono m6) | exact hw6.trans (h8.drew.b.mono m6)))) ?_; rintro e x7 ⟨rfl, hx7⟩))
    all_goals
      clear wz P2 P3 H17
      have hx8 := hx7.symm
      subst hx8
      have hxB := hw6.trans (k6.b.mono m6)
      have s9 := k6.sz
      clear hff hcc h8
      have M9 : w.heap.size + 1 ≤ x6.heap.size := Nat.le_trans m6 (Nat.le_of_lt s9)
      have b47 : size ≤ 140737488355327 := by omega
      have b17 : 17 + size ≤ len := by omega
      clear wr1 l13
      have q1 : (17 : Int) ≤ 17 + (size : Int) := by omega
      have q2 : 17 + (size : Int) ≤ (cap : Int) := by omega
      have q3 : ¬ cap = 17 := by omega
      have q4 : (17 + (size : Int)).toNat - 17 = size := by omega
      have q5 : (17 + (size : Int)).toNat = 17 + size := by omega
      obtain ⟨a9, c9, w9, hr, hin, hB9x⟩ := app_sub b off len (cap - 17) 17 size bs x6 (hbA.out _ hxB) b17 b47
      have hB9 : Below (w.heap.size + 1) (w.alloc (.cells #[.int .i64 0, .int .i64 0, .int .i64 0, .bool false, .bool false] 51)) w9 := hxB.trans (hB9x.mono M9)
      have hBB : Below w.heap.size w w9 := (below_new (Below.refl _ w) _).trans (hB9.mono (Nat.le_succ _))
      have hin2 := InAbove.low (M' := w.heap.size) hin (by omega)
      have hin' : Hid _ := hin2
      obtain ⟨z0, z1, z2, z3, z4, y0, y1, y2, y3, y4⟩ := hwb.out.below hB9
      have hE : Hid (openE bs len = 0) := by unfold Hid openE; rw [if_neg hc1.out, if_neg (by rw [hfitY.out]; decide), hn1'.out, if_neg c3, if_neg c4, if_neg (by rw [hok.out]; decide)]
      have hRO : Hid (∀ W, BytesIn W a9 size (fun i => bs (17 + i)) → RO bs len (.returned (.tuple #[.int .u8 (bs 0 : Int), .int .u64 ((n5 : Int) * 4294967296 + (n9 : Int)), .slice a9 size c9, .int .i64 (21 + (size : Int)), .agg #[.int .i64 0, .int .i64 0, .int .i64 0, .bool false, .bool false]])) W) := fun W hW => by
        unfold RO; rw [if_pos hE.out, hn1'.out, hn5'.out, hn9'.out]; exact ⟨a9, c9, rfl, hW⟩
      clear hin hin2 hxB k6 hw6 h6 hB9x
      have wz2 : IntKind.i64.wrap (21 + (size : Int)) = 21 + (size : Int) := by rw [IntKind.wrap_i64]; omega
      have hr' : Hid _ := hr
      clear hr
      go_wp2_with (at_builtin; refine wpList_append_run (by rfl) _ _ _ (by rfl) _ _ _ _ (by rfl) (by rfl) hr'.out ?_)
      go_wp2_with fail
      simp [bodyPost, results, Tryd.results43, go_sem, z0, z1, z2, z3, z4, y0, y1, y2, y3, y4, wz2]
      refine ⟨hRO.out _ ?_, bad_set hBB _ _ _ _ _⟩
      exact (InAbove.set (InAbove.set (InAbove.set (InAbove.set (InAbove.set hin'.out))))).inn
end Go.Proofs.YtmlankbaoanaeaaDoor
