
import Derived.Test.YticgapplpfaigaaGreatDrG
namespace Go.Proofs.YticgapplpfaigaaGreat
open Go.RowKit
set_option linter.unusedVariables false
set_option linter.unusedSimpArgs false
set_option maxRecDepth 100000 in
set_option maxHeartbeats 4000000 in
theorem sameTags_nil (w : World) : Calls Tryz.prog 92 #[.slice none 0 0, .slice none 0 0] w fun e w' => e = .returned (.bool true) ∧ Below w.heap.size w w' := by
  go_enter Tryz.func92, Tryz.ntmps92
  go_wp2_with fail
  go_loopw [5] (fun i wr => i = .int .i64 0 ∧ wr = w) (fun _ _ => 0)
  case atStart => exact ⟨rfl, rfl⟩
  case round =>
    obtain ⟨rfl, rfl⟩ := hrel
    go_wp2_with fail
    go_ret
    exact ⟨rfl, Below.refl _ _⟩
set_option maxRecDepth 100000 in
set_option maxHeartbeats 4000000 in
theorem sameSeries_nil (w : World) : Calls Tryz.prog 84 #[.agg #[.string ⟨#[]⟩, .slice none 0 0, .string ⟨#[]⟩], .agg #[.string ⟨#[]⟩, .slice none 0 0, .string ⟨#[]⟩]] w fun e w' => e = .returned (.bool true) ∧ Below w.heap.size w w' := by
  go_enter Tryz.func84, Tryz.ntmps84
  go_wp2_with fail
  refine Calls.mono (sameTags_nil _) ?_
  rintro e w1 ⟨rfl, hB1⟩
  have hB := alloc_below2 hB1
  clear hB1
  go_wp2_with fail
  go_ret
  exact ⟨rfl, hB⟩
/-- a row of deltas that is there. -/
def DIn (w : World) (a : Option Addr) (D : List Dlt) : Prop := D = [] ∨ ∃ g, a = some ⟨g, 0, none⟩ ∧ g < w.heap.size ∧ ∀ k d, D[k]? = some d → ∀ j, j < 10 → w.cell? ⟨g, k * 10 + j, none⟩ = d.enc[j]?
theorem own_DIn {w : World} {B : Nat} {v : Value} {D : List Dlt} (h : w.ownsRow B 95 10 v D.length (encD D)) : ∃ a c, v = .slice a D.length c ∧ DIn w a D := by
  rcases h.2 with ⟨e, e0⟩ | ⟨g, cap, cur, e1, _⟩
  · exact ⟨none, 0, by rw [e, e0], Or.inl (List.eq_nil_of_length_eq_zero e0)⟩
  · refine ⟨_, cap, e1, Or.inr ⟨g, rfl, (h.lt g (by rw [e1]; rfl)).2, fun k d hd j hj => ?_⟩⟩
    have hk := (List.getElem?_eq_some_iff.1 hd).1
    subst e1
    have hz : k * 10 + j < (encD D).length := by rw [encD_len]; omega
    have := h.cells (g := g) rfl (k * 10 + j) _ (List.getElem?_eq_getElem hz)
    rw [smp_add, Nat.zero_add] at this
    rw [this, ← List.getElem?_eq_getElem hz, encD_get D k d hd j hj]
theorem DIn.below {w w' : World} {a : Option Addr} {D : List Dlt} (h : DIn w a D) (hB : Below w.heap.size w w') : DIn w' a D := by
  rcases h with h | ⟨g, e, hg, hc⟩
  · exact Or.inl h
  · exact Or.inr ⟨g, e, Nat.lt_of_lt_of_le hg hB.size, fun k d hd j hj => by rw [hB.cell (p := ⟨g, k * 10 + j, none⟩) hg]; exact hc k d hd j hj⟩
theorem DIn.at {w : World} {a : Option Addr} {D : List Dlt} (h : DIn w a D) {k : Nat} (hk : k < D.length) : ∃ g d, a = some ⟨g, 0, none⟩ ∧ D[k]? = some d ∧ g < w.heap.size ∧ w.cell? ⟨g, k * 10, none⟩ = some (.string ⟨#[]⟩) ∧ w.cell? ⟨g, k * 10 + 1, none⟩ = some (.slice none 0 0) ∧ w.cell? ⟨g, k * 10 + 2, none⟩ = some (.string ⟨#[]⟩) ∧ w.cell? ⟨g, k * 10 + 3, none⟩ = some (.int .i64 d.t) ∧ w.cell? ⟨g, k * 10 + 4, none⟩ = some (.bool d.had) ∧ w.cell? ⟨g, k * 10 + 5, none⟩ = some (.bool true) ∧ w.cell? ⟨g, k * 10 + 6, none⟩ = some (.int .u8 (d.ok : Int)) ∧ w.cell? ⟨g, k * 10 + 7, none⟩ = some (.int .i64 d.ox) ∧ w.cell? ⟨g, k * 10 + 8, none⟩ = some (.int .u8 (d.nk : Int)) ∧ w.cell? ⟨g, k * 10 + 9, none⟩ = some (.int .i64 d.nx) := by
  rcases h with h | ⟨g, e, hg, hc⟩
  · rw [h] at hk; simp at hk
  · have hd : D[k]? = some D[k] := List.getElem?_eq_getElem hk
    have h0 := hc k _ hd
    exact ⟨g, D[k], e, hd, hg, h0 0 (by omega), h0 1 (by omega), h0 2 (by omega), h0 3 (by omega), h0 4 (by omega), h0 5 (by omega), h0 6 (by omega), h0 7 (by omega), h0 8 (by omega), h0 9 (by omega)⟩
set_option maxRecDepth 100000 in
set_option maxHeartbeats 4000000 in
theorem sameD_any (a1 a2 : Option Addr) (c1 c2 : Nat) (D : List Dlt) (w : World) (h1 : DIn w a1 D) (h2 : DIn w a2 D) (hn : D.length ≤ 1000000000000) : Calls Tryz.prog 37 #[.slice a1 D.length c1, .slice a2 D.length c2] w fun e w' => e = .returned (.bool true) ∧ Below w.heap.size w w' := by
  have hI1 : Hid (DIn w a1 D) := h1
  have hI2 : Hid (DIn w a2 D) := h2
  have hss : Hid (∀ W, Calls Tryz.prog 84 #[.agg #[.string ⟨#[]⟩, .slice none 0 0, .string ⟨#[]⟩], .agg #[.string ⟨#[]⟩, .slice none 0 0, .string ⟨#[]⟩]] W fun e w' => e = .returned (.bool true) ∧ Below W.heap.size W w') := sameSeries_nil
  obtain ⟨n, hnl⟩ : ∃ n, n = D.length := ⟨_, rfl⟩
  have hnH : Hid (n = D.length) := hnl
  rw [← hnl] at hn ⊢
  clear hnl h1 h2
  go_enter Tryz.func37, Tryz.ntmps37
  go_wp2_with fail
  go_loopw [5] (fun i wr => ∃ k : Nat, k ≤ n ∧ i = .int .i64 (k : Int) ∧ Below w.heap.size w wr) (fun i _ => n - (intOf i).toNat)
  case atStart => exact ⟨0, by omega, rfl, Below.refl _ _⟩
  case round =>
    obtain ⟨k, hk, rfl, hB⟩ := hrel
    by_cases hkn : k < n
    · have hkI : (k : Int) < (n : Int) := by omega
      have k1 : (0 : Int) ≤ (k : Int) := by omega
      obtain ⟨g, d, rfl, hd, hg, d0, d1, d2, d3, d4, d5, d6, d7, d8, d9⟩ := (hI1.out.below hB).at (by have := hnH.out; omega : k < D.length)
      obtain ⟨g', d', rfl, hd', hg', e0, e1, e2, e3, e4, e5, e6, e7, e8, e9⟩ := (hI2.out.below hB).at (by have := hnH.out; omega : k < D.length)
      obtain rfl : d = d' := by rw [hd] at hd'; exact Option.some.inj hd'
      clear hd hd'
      have S5 : wr.cell? ⟨g, k * 10, none⟩ = some (.string ⟨#[]⟩) ∧ wr.cell? ⟨g, k * 10 + 1, none⟩ = some (.slice none 0 0) ∧ wr.cell? ⟨g, k * 10 + 2, none⟩ = some (.string ⟨#[]⟩) ∧ wr.cell? ⟨g, k * 10 + 3, none⟩ = some (.int .i64 d.t) ∧ wr.cell? ⟨g, k * 10 + 4, none⟩ = some (.bool d.had) ∧ wr.cell? ⟨g, k * 10 + 5, none⟩ = some (.bool true) ∧ wr.cell? ⟨g, k * 10 + 6, none⟩ = some (.int .u8 (d.ok : Int)) ∧ wr.cell? ⟨g, k * 10 + 7, none⟩ = some (.int .i64 d.ox) ∧ wr.cell? ⟨g, k * 10 + 8, none⟩ = some (.int .u8 (d.nk : Int)) ∧ wr.cell? ⟨g, k * 10 + 9, none⟩ = some (.int .i64 d.nx) ∧ wr.cell? ⟨g', k * 10, none⟩ = some (.string ⟨#[]⟩) ∧ wr.cell? ⟨g', k * 10 + 1, none⟩ = some (.slice none 0 0) ∧ wr.cell? ⟨g', k * 10 + 2, none⟩ = some (.string ⟨#[]⟩) ∧ wr.cell? ⟨g', k * 10 + 3, none⟩ = some (.int .i64 d.t) ∧ wr.cell? ⟨g', k * 10 + 4, none⟩ = some (.bool d.had) ∧ wr.cell? ⟨g', k * 10 + 5, none⟩ = some (.bool true) ∧ wr.cell? ⟨g', k * 10 + 6, none⟩ = some (.int .u8 (d.ok : Int)) ∧ wr.cell? ⟨g', k * 10 + 7, none⟩ = some (.int .i64 d.ox) ∧ wr.cell? ⟨g', k * 10 + 8, none⟩ = some (.int .u8 (d.nk : Int)) ∧ wr.cell? ⟨g', k * 10 + 9, none⟩ = some (.int .i64 d.nx) := ⟨d0, d1, d2, d3, d4, d5, d6, d7, d8, d9, e0, e1, e2, e3, e4, e5, e6, e7, e8, e9⟩
      have hcall : Hid (Calls Tryz.prog 84 #[.agg #[.string ⟨#[]⟩, .slice none 0 0, .string ⟨#[]⟩], .agg #[.string ⟨#[]⟩, .slice none 0 0, .string ⟨#[]⟩]] wr.drew fun e w' => e = .returned (.bool true) ∧ (w'.cell? ⟨g, k * 10, none⟩ = some (.string ⟨#[]⟩) ∧ w'.cell? ⟨g, k * 10 + 1, none⟩ = some (.slice none 0 0) ∧ w'.cell? ⟨g, k * 10 + 2, none⟩ = some (.string ⟨#[]⟩) ∧ w'.cell? ⟨g, k * 10 + 3, none⟩ = some (.int .i64 d.t) ∧ w'.cell? ⟨g, k * 10 + 4, none⟩ = some (.bool d.had) ∧ w'.cell? ⟨g, k * 10 + 5, none⟩ = some (.bool true) ∧ w'.cell? ⟨g, k * 10 + 6, none⟩ = some (.int .u8 (d.ok : Int)) ∧ w'.cell? ⟨g, k * 10 + 7, none⟩ = some (.int .i64 d.ox) ∧ w'.cell? ⟨g, k * 10 + 8, none⟩ = some (.int .u8 (d.nk : Int)) ∧ w'.cell? ⟨g, k * 10 + 9, none⟩ = some (.int .i64 d.nx) ∧ w'.cell? ⟨g', k * 10, none⟩ = some (.string ⟨#[]⟩) ∧ w'.cell? ⟨g', k * 10 + 1, none⟩ = some (.slice none 0 0) ∧ w'.cell? ⟨g', k * 10 + 2, none⟩ = some (.string ⟨#[]⟩) ∧ w'.cell? ⟨g', k * 10 + 3, none⟩ = some (.int .i64 d.t) ∧ w'.cell? ⟨g', k * 10 + 4, none⟩ = some (.bool d.had) ∧ w'.cell? ⟨g', k * 10 + 5, none⟩ = some (.bool true) ∧ w'.cell? ⟨g', k * 10 + 6, none⟩ = some (.int .u8 (d.ok : Int)) ∧ w'.cell? ⟨g', k * 10 + 7, none⟩ = some (.int .i64 d.ox) ∧ w'.cell? ⟨g', k * 10 + 8, none⟩ = some (.int .u8 (d.nk : Int)) ∧ w'.cell? ⟨g', k * 10 + 9, none⟩ = some (.int .i64 d.nx)) ∧ Below w.heap.size w w') := by
        refine Calls.mono (hss.out _) ?_
        rintro e w' ⟨rfl, hb⟩
        have hb' : Below wr.heap.size wr w' := ((Below.refl _ wr).drew).trans hb
        refine ⟨rfl, ⟨(hb'.cell (p := ⟨g, k * 10, none⟩) hg).trans d0, (hb'.cell (p := ⟨g, k * 10 + 1, none⟩) hg).trans d1, (hb'.cell (p := ⟨g, k * 10 + 2, none⟩) hg).trans d2, (hb'.cell (p := ⟨g, k * 10 + 3, none⟩) hg).trans d3, (hb'.cell (p := ⟨g, k * 10 + 4, none⟩) hg).trans d4, (hb'.cell (p := ⟨g, k * 10 + 5, none⟩) hg).trans d5, (hb'.cell (p := ⟨g, k * 10 + 6, none⟩) hg).trans d6, (hb'.cell (p := ⟨g, k * 10 + 7, none⟩) hg).trans d7, (hb'.cell (p := ⟨g, k * 10 + 8, none⟩) hg).trans d8, (hb'.cell (p := ⟨g, k * 10 + 9, none⟩) hg).trans d9, (hb'.cell (p := ⟨g', k * 10, none⟩) hg').trans e0, (hb'.cell (p := ⟨g', k * 10 + 1, none⟩) hg').trans e1, (hb'.cell (p := ⟨g', k * 10 + 2, none⟩) hg').trans e2, (hb'.cell (p := ⟨g', k * 10 + 3, none⟩) hg').trans e3, (hb'.cell (p := ⟨g', k * 10 + 4, none⟩) hg').trans e4, (hb'.cell (p := ⟨g', k * 10 + 5, none⟩) hg').trans e5, (hb'.cell (p := ⟨g', k * 10 + 6, none⟩) hg').trans e6, (hb'.cell (p := ⟨g', k * 10 + 7, none⟩) hg').trans e7, (hb'.cell (p := ⟨g', k * 10 + 8, none⟩) hg').trans e8, (hb'.cell (p := ⟨g', k * 10 + 9, none⟩) hg').trans e9⟩, hB.trans (hb'.mono hB.size)⟩
      clear hss hB d0 d1 d2 d3 d4 d5 d6 d7 d8 d9 e0 e1 e2 e3 e4 e5 e6 e7 e8 e9
      go_wp2_with fail
      simp only [List.append_eq, List.cons_append, List.nil_append]
      go_region_held3 (fun w' => w'.cell? ⟨g, k * 10, none⟩ = some (.string ⟨#[]⟩) ∧ w'.cell? ⟨g, k * 10 + 1, none⟩ = some (.slice none 0 0) ∧ w'.cell? ⟨g, k * 10 + 2, none⟩ = some (.string ⟨#[]⟩) ∧ w'.cell? ⟨g, k * 10 + 3, none⟩ = some (.int .i64 d.t) ∧ w'.cell? ⟨g, k * 10 + 4, none⟩ = some (.bool d.had) ∧ w'.cell? ⟨g, k * 10 + 5, none⟩ = some (.bool true) ∧ w'.cell? ⟨g, k * 10 + 6, none⟩ = some (.int .u8 (d.ok : Int)) ∧ w'.cell? ⟨g, k * 10 + 7, none⟩ = some (.int .i64 d.ox) ∧ w'.cell? ⟨g, k * 10 + 8, none⟩ = some (.int .u8 (d.nk : Int)) ∧ w'.cell? ⟨g, k * 10 + 9, none⟩ = some (.int .i64 d.nx) ∧ w'.cell? ⟨g', k * 10, none⟩ = some (.string ⟨#[]⟩) ∧ w'.cell? ⟨g', k * 10 + 1, none⟩ = some (.slice none 0 0) ∧ w'.cell? ⟨g', k * 10 + 2, none⟩ = some (.string ⟨#[]⟩) ∧ w'.cell? ⟨g', k * 10 + 3, none⟩ = some (.int .i64 d.t) ∧ w'.cell? ⟨g', k * 10 + 4, none⟩ = some (.bool d.had) ∧ w'.cell? ⟨g', k * 10 + 5, none⟩ = some (.bool true) ∧ w'.cell? ⟨g', k * 10 + 6, none⟩ = some (.int .u8 (d.ok : Int)) ∧ w'.cell? ⟨g', k * 10 + 7, none⟩ = some (.int .i64 d.ox) ∧ w'.cell? ⟨g', k * 10 + 8, none⟩ = some (.int .u8 (d.nk : Int)) ∧ w'.cell? ⟨g', k * 10 + 9, none⟩ = some (.int .i64 d.nx)) (first | assumption)
        (first
          | (go_at_call 84; (with_reducible refine Calls.mono hcall.out ?_); rintro e w2 ⟨rfl, hSk, hB2⟩))
      go_wp2_with fail
      first
        | exact ⟨⟨k + 1, by omega, by go_num, hB2⟩, by simp [intOf]; omega⟩
        | exact ⟨⟨k + 1, by omega, by go_num, below_drewN hB2 _⟩, by simp [intOf]; omega⟩
        | exact ⟨⟨k + 1, by omega, by go_num, hB2.drew⟩, by simp [intOf]; omega⟩
    · obtain rfl : k = n := by omega
      go_wp2_with fail
      go_ret
      exact ⟨rfl, hB⟩
end Go.Proofs.YticgapplpfaigaaGreat
