
import Derived.Test.YtepgcgphnjlcoaaDoorOpenBq
import Derived.Test.YtepgcgphnjlcoaaDoorSealAq
import Derived.Test.YtepgcgphnjlcoaaDoorBaseq
import Derived.Maps.AppendAt
namespace Go.Proofs.YtepgcgphnjlcoaaDoor
open Go.RowKit
set_option linter.unusedVariables false
set_option linter.unusedSimpArgs false
set_option maxRecDepth 100000 in
theorem clone_all (g off m c : Nat) (news : List Value) (w : World) (hl : news.length = m) (hnews : ∀ j u, news[j]? = some u → w.cell? ((⟨g, off, none⟩ : Addr).add j) = some u) (h1 : ∀ u ∈ news, u.oneCell' = true) (hb : m ≤ 140737488355328) :
    Calls Tryd.prog 28 #[.slice (some ⟨g, off, none⟩) m c] w fun e w' => ∃ g' cap', e = .returned (.slice (some ⟨g', 0, none⟩) m cap') ∧ w'.ownsRow w.heap.size 5 1 (.slice (some ⟨g', 0, none⟩) m cap') m news ∧ Below w.heap.size w w' := by
  obtain ⟨i, i1, i0⟩ := Option.map_eq_some_iff.1 byte_info
  have i2 : i.zero = some (.int .u8 0) := congrArg (·.1) i0
  have i3 : i.bytes = 1 := congrArg (·.2.1) i0
  have i4 : i.size = 1 := congrArg (·.2.2) i0
  have hml : maxLen = 9223372036854775807 := by decide
  have hown : (w.alloc (.cells #[] 5)).ownsRow w.heap.size 5 1 (.slice (some ⟨w.heap.size, 0, none⟩) 0 0) 0 [] := World.ownsRow_lit w #[] 0 (Nat.le_refl _) (by omega) (by simp)
  have hnews' : ∀ j u, news[j]? = some u → (w.alloc (.cells #[] 5)).cell? ((⟨g, off, none⟩ : Addr).add j) = some u := fun j u hj => by
    have h0 := hnews j u hj
    rw [World.cell?_alloc_lt _ _ _ (World.block_lt_of_cell? w _ h0)]; exact h0
  have hnil : ∀ w0 : World, (binOp .eql 23 (.slice (some ⟨g, off, none⟩) m c) (.slice none 0 0)).run Tryd.prog w0 = .ok (.bool false) w0 := fun w0 => Go.Lib.run_eql_slice_nil w0 23 5 (some ⟨g, off, none⟩) m c 0 0 Tryd.underlying23
  clear i0 hnews
  go_enter Tryd.func28, Tryd.ntmps28
  go_wp2_with (at_builtin; refine wpList_append_own_at _ (by rfl) _ _ _ (by rfl) w.heap.size 5 i (.int .u8 0) 1 1 Tryd.underlying23 i1 i2 i4 i3 rfl (by omega) _ 0 [] (by rfl) hown ⟨g, off, none⟩ m c news (by rfl) (by rw [hl, Nat.mul_one]) hnews' h1 (by omega) (by omega) (by simp) ?_)
  intro v' w2 ho' hgrow hn' hat
  have ho : w2.ownsRow w.heap.size 5 1 v' m news := ho'
  have hB := below_grown (below_new (Below.refl _ w) (.cells #[] 5)) hgrow (fun k e => by simp [Value.ownBlock] at e; omega)
  obtain ⟨g', cap', rfl⟩ : ∃ g' cap', v' = .slice (some ⟨g', 0, none⟩) m cap' := by
    rcases ho.2 with ⟨h0, _⟩ | ⟨g', cap', cur, h0, _⟩
    · exact absurd h0 hn'
    · exact ⟨g', cap', h0⟩
  clear hown hnews' hgrow hat h1 hn' ho'
  go_wp2_with fail
  go_ret
  exact ⟨g', cap', rfl, ho, hB⟩
theorem open_bad (H len cap : Nat) (bs : Nat → Nat) (w0 w : World) (h : OH H len bs w0 w) (hlc : len ≤ cap) (hm : len ≤ 9000000000000000000) (he : openE bs len ≠ 0) :
    Calls Tryd.prog 8 #[.slice (some ⟨H, 0, none⟩) len cap] w fun e w' => e = .returned (.tuple #[.int .u8 0, .int .u64 0, .slice none 0 0, .int .i64 0, .iface 88 (.int .i64 (openE bs len : Nat))]) ∧ OH H len bs w0 w' := by
  have hme := measure_any H len cap bs w0 w h hlc hm
  rw [if_neg he] at hme
  generalize openE bs len = c at *
  have hc : ((c : Int) == 0) = false := by rw [beq_eq_false_iff_ne]; omega
  have hc1 : ¬ (c : Int) = 0 := by omega
  have hc2 : ¬ c = 0 := he
  have hme' : Hid _ := hme
  clear hme
  go_enter Tryd.func8, Tryd.ntmps8
  go_wp2_with fail
  refine Calls.mono hme'.out ?_
  rintro e w1 ⟨rfl, h1⟩
  go_wp2_with fail
  refine (new_any (c : Int) hc _).mono ?_
  rintro e w2 ⟨rfl, rfl⟩
  go_wp2_with fail
  simp [bodyPost, results, Tryd.results8, go_sem]
  exact h1
theorem bytes_sub {w : World} {H len n m : Nat} {bs : Nat → Nat} (h : BytesAt w H 0 len bs) (hn : n + m ≤ len) : ∀ j u, (enc ((List.range m).map fun i => bs (n + i)))[j]? = some u → w.cell? ((⟨H, n, none⟩ : Addr).add j) = some u := by
  intro j u hj
  have hj' : j < m := by
    rcases Nat.lt_or_ge j m with h' | h'
    · exact h'
    · rw [List.getElem?_eq_none (by rw [enc_len]; simp; exact h')] at hj; cases hj
  have h0 := (h (n + j) (by omega)).1
  have e : (⟨H, n, none⟩ : Addr).add j = ⟨H, n + j, none⟩ := by unfold Addr.add; split <;> simp_all
  rw [e, ← Nat.zero_add (n + j), h0]
  simp [enc, hj'] at hj
  rw [← hj]
theorem clone_oh (H len cap n size : Nat) (bs : Nat → Nat) (w0 w : World) (h : OH H len bs w0 w) (hH : H < w0.heap.size) (hn : n + size ≤ len) (hsz : size ≤ 140737488355328) :
    Calls Tryd.prog 28 #[.slice (some ⟨H, n, none⟩) size cap] w fun e w' => ∃ g' cap', e = .returned (.slice (some ⟨g', 0, none⟩) size cap') ∧ BytesAt w' g' 0 size (fun i => bs (n + i)) ∧ g' < w'.heap.size ∧ OH H len bs w0 w' := by
  obtain ⟨hb, hs, hB⟩ := h
  have hl256 : ∀ x ∈ ((List.range size).map fun i => bs (n + i)), x < 256 := fun x hx => by
    simp at hx; obtain ⟨j, hj, rfl⟩ := hx; exact (hb (n + j) (by omega)).2
  refine (clone_all H n size cap (enc ((List.range size).map fun i => bs (n + i))) w (by simp [enc]) (bytes_sub hb hn) (enc_one _) hsz).mono ?_
  rintro e w' ⟨g', cap', rfl, ho, hB'⟩
  refine ⟨g', cap', rfl, ?_, (ho.lt g' rfl).2, hb.below hB' (Nat.lt_of_lt_of_le hH hB.size), ST_below hs hB', hB.trans (hB'.mono hB.size)⟩
  have := bytes_own ho hl256
  intro i hi
  have h2 := this i hi
  rw [show natsOf ((List.range size).map fun i => bs (n + i)) i = bs (n + i) by simp [natsOf, List.getD_eq_getElem?_getD, hi]] at h2
  exact h2
theorem or32 (a b : Nat) (ha : a < 4294967296) (hb : b < 4294967296) : bits .or .u64 ((a : Int) * 4294967296) (b : Int) = (a : Int) * 4294967296 + (b : Int) := by
  have h1 := u64_or_nat (a * 4294967296) b (by omega) (by omega)
  have h2 := Nat.two_pow_add_eq_or_of_lt (i := 32) hb a
  rw [Nat.mul_comm] at h2
  rw [← h2] at h1
  rw [show ((a * 4294967296 : Nat) : Int) = (a : Int) * 4294967296 by omega] at h1
  rw [h1]; omega
theorem OH.cell0 {H len : Nat} {bs : Nat → Nat} {w0 wx : World} (h : OH H len bs w0 wx) (hl : 0 < len) : wx.cell? ⟨H, 0, none⟩ = some (.int .u8 (bs 0 : Int)) := (h.1 0 hl).1
set_option maxRecDepth 100000 in
set_option maxHeartbeats 4000000 in
theorem open_ok (H len cap : Nat) (bs : Nat → Nat) (w0 w : World) (h : OH H len bs w0 w) (hH : H < w0.heap.size) (hlc : len ≤ cap) (hm : len ≤ 9000000000000000000) (he : openE bs len = 0) (h17 : 21 + u32At bs 1 ≤ len) :
    Calls Tryd.prog 8 #[.slice (some ⟨H, 0, none⟩) len cap] w fun e w' => ∃ g cap', e = .returned (.tuple #[.int .u8 (bs 0 : Int), .int .u64 ((u32At bs 5 : Int) * 4294967296 + (u32At bs 9 : Int)), .slice (some ⟨g, 0, none⟩) (u32At bs 1) cap', .int .i64 (17 + (u32At bs 1 : Int) + 4), .nilIface]) ∧ BytesAt w' g 0 (u32At bs 1) (fun i => bs (17 + i)) ∧ g < w'.heap.size ∧ OH H len bs w0 w' := by
  have hme := measure_any H len cap bs w0 w h hlc hm
  rw [he, if_pos rfl] at hme
  have hbs : ∀ i, i < len → bs i < 256 := fun i hi => (h.1 i hi).2
  have z5 := u32At_lt bs 5 (fun i hi => hbs i (by omega))
  have z9 := u32At_lt bs 9 (fun i hi => hbs i (by omega))
  have eo := or32 _ _ z5 z9
  have z1 := u32At_lt bs 1 (fun i hi => hbs i (by omega))
  generalize hsz : u32At bs 1 = size at *
  rw [show ((17 + size : Nat) : Int) = 17 + (size : Int) by omega] at hme
  have hme' : Hid _ := hme
  clear hme he hsz
  have q1 : (5 : Int) ≤ (len : Int) := by omega
  have q2 : (9 : Int) ≤ (len : Int) := by omega
  have q3 : (5 : Int) ≤ (cap : Int) := by omega
  have q4 : (9 : Int) ≤ (cap : Int) := by omega
  have q5 : (len : Int) ≤ (cap : Int) := by omega
  have q6 : ¬ cap = 5 := by omega
  have q7 : ¬ cap = 9 := by omega
  have q8 : ¬ cap = 17 := by omega
  have q9 : (17 : Int) ≤ 17 + (size : Int) := by omega
  have q10 : 17 + (size : Int) ≤ (cap : Int) := by omega
  have q11 : (0 : Int) < (len : Int) := by omega
  have q12 : 0 < len := by omega
  have q13 : (17 + (size : Int)).toNat - 17 = size := by omega
  go_enter Tryd.func8, Tryd.ntmps8
  go_wp2_with fail
  refine Calls.mono hme'.out ?_
  rintro e w1 ⟨rfl, h1⟩
  have h1d : OH H len bs w0 w1.drew := ⟨h1.1, h1.2.1, h1.2.2.drew⟩
  clear h hbs hme'
  go_wp2_with fail
  go_region_held3 (fun w' => OH H len bs w0 w') (first | assumption)
    (first | (go_at_call 33; refine (unfour_oh H len cap _ bs w0 _ (by assumption) (by omega)).mono ?_; rintro e w' ⟨rfl, hO⟩))
  all_goals
    have hS0 : OH H len bs w0 w'.drew ∧ w'.drew.cell? ⟨H, 0, none⟩ = some (.int .u8 (bs 0 : Int)) := ⟨⟨hO.1, hO.2.1, hO.2.2.drew⟩, hO.cell0 q12⟩
    go_wp2_with fail
    go_region_held3 (fun w' => OH H len bs w0 w' ∧ w'.cell? ⟨H, 0, none⟩ = some (.int .u8 (bs 0 : Int))) (first | assumption)
      (first | (go_at_call 28; refine (clone_oh H len (cap - 17) 17 size bs w0 _ (And.left (by assumption)) hH (by omega) (by omega)).mono ?_; rintro e w2 ⟨g2, c2, rfl, hg2, hl2, hO2⟩; have hS2 : OH H len bs w0 w2 ∧ w2.cell? ⟨H, 0, none⟩ = some (.int .u8 (bs 0 : Int)) := ⟨hO2, hO2.cell0 q12⟩))
    go_wp2_with fail
    simp [bodyPost, results, Tryd.results8, go_sem]
    refine ⟨g2, ⟨?_, rfl, by rw [IntKind.wrap_i64]; omega⟩, hg2, hl2, hO2⟩
    rw [show IntKind.u64.wrap ((u32At bs 5 : Nat) : Int) = ((u32At bs 5 : Nat) : Int) by rw [IntKind.wrap_u64]; omega, show IntKind.u64.wrap (((u32At bs 5 : Nat) : Int) * 4294967296) = ((u32At bs 5 : Nat) : Int) * 4294967296 by rw [IntKind.wrap_u64]; omega, show IntKind.u64.wrap ((u32At bs 9 : Nat) : Int) = ((u32At bs 9 : Nat) : Int) by rw [IntKind.wrap_u64]; omega]
    exact eo
end Go.Proofs.YtepgcgphnjlcoaaDoor
