
import Derived.Test.YtmlankbaoanaeaaDoorRdF
import Derived.Test.YtmlankbaoanaeaaDoorRdG
import Derived.Test.YtmlankbaoanaeaaDoorSealW
namespace Go.Proofs.YtmlankbaoanaeaaDoor
open Go.RowKit
set_option linter.unusedVariables false
set_option linter.unusedSimpArgs false
theorem RO_err2 (bs : Nat → Nat) (len c : Nat) (hc : 0 < c) (h : openE bs len = c) (W : World) : RO bs len (.returned (.tuple #[.int .u8 0, .int .u64 0, .slice none 0 0, .int .i64 0, .agg #[.int .i64 (c : Nat), .int .i64 0, .int .i64 0, .bool false, .bool false]])) W := by
  unfold RO; rw [h, if_neg (by omega)]
/-- the document's Open, of whatever bytes. -/
theorem ropen_in (a : Option Addr) (len cap : Nat) (bs : Nat → Nat) (w : World) (h : BytesIn w a len bs) (hlc : len ≤ cap) :
    Calls Tryd.prog 43 #[.slice a len cap] w fun e w' => RO bs len e w' ∧ Below w.heap.size w w' := by
  obtain ⟨hm, h⟩ := h
  rcases Nat.lt_or_ge len 17 with c1 | c1
  · refine (ropen_short a len cap w c1).mono ?_
    rintro e w' ⟨rfl, hB⟩
    exact ⟨RO_err2 bs len 30 (by omega) (by unfold openE; rw [if_pos c1]) w', hB⟩
  rcases h with h0 | ⟨b, off, rfl, hb, h⟩
  · omega
  by_cases c2 : fitB bs 13 = false
  · exact ropen_sum b off len cap bs w h hb c1 hm hlc c2
  have c2' : fitB bs 13 = true := by simpa using c2
  by_cases c3 : 67108864 < u32At bs 1
  · exact ropen_big b off len cap bs w h hb c1 hm hlc c2' c3
  by_cases c4 : len < 21 + u32At bs 1
  · exact ropen_cut b off len cap bs w h hb c1 hm hlc c2' c3 c4
  by_cases c5 : okB bs (u32At bs 1) = false
  · exact ropen_torn b off len cap bs w h hb c1 hm hlc c2' c3 c4 c5
  have c5' : okB bs (u32At bs 1) = true := by simpa using c5
  exact ropen_ok b off len cap bs w h hb c1 hm hlc c2' c3 c4 c5'
theorem openE_ok {bs : Nat → Nat} {len : Nat} (h : openE bs len = 0) : 21 + u32At bs 1 ≤ len := by
  unfold openE at h
  split at h
  · omega
  · split at h
    · omega
    · split at h
      · omega
      · split at h
        · omega
        · omega
set_option maxRecDepth 100000 in
set_option maxHeartbeats 4000000 in
theorem wireOpens_bad (a : Option Addr) (len cap : Nat) (bs : Nat → Nat) (w : World) (hs : ST w) (hg : ET w) (h : BytesIn w a len bs) (hlc : len ≤ cap) (hbs : ∀ j, j < len → bs j < 256) (he : Hid (openE bs len ≠ 0)) :
    Calls Tryd.prog 8 #[.slice a len cap] w fun e w' => e = .returned (.bool true) ∧ Below w.heap.size w w' := by
  have hm := h.1
  go_enter Tryd.func8, Tryd.ntmps8
  go_wp2_with fail
  refine (hand_some a len cap bs w h).mono ?_
  rintro e w1 ⟨rfl, hR⟩
  have hB1 : Below w.heap.size w w1 := hR.b
  have b1 := hR.bytes hbs
  have s1 := ST_below hs hB1
  have z1 := hR.sz
  have hO : OH w.heap.size len bs w1 w1 := ⟨b1, s1, Below.refl _ _⟩
  clear b1 s1
  go_wp2_with fail
  have hop := open_bad w.heap.size len (len + 9) bs w1 w1 hO (by omega) (by omega) he.out
  have hrop := fun w2 (h2 : BytesIn w2 a len bs) => ropen_in a len cap bs w2 h2 hlc
  have hRO : ∀ e W, RO bs len e W → e = .returned (.tuple #[.int .u8 0, .int .u64 0, .slice none 0 0, .int .i64 0, .agg #[.int .i64 (openE bs len : Nat), .int .i64 0, .int .i64 0, .bool false, .bool false]]) := fun e W hh => by unfold RO at hh; rw [if_neg he.out] at hh; exact hh
  have hc : ((openE bs len : Nat) : Int) ≠ 0 := by have := he.out; omega
  generalize openE bs len = c at *
  have hcb : ((c : Int) == 0) = false := beq_eq_false_iff_ne.2 hc
  refine Calls.mono hop ?_
  rintro e w2 ⟨rfl, hO2⟩
  have hB2 := hO2.2.2
  have hB02 := below_then hB1 hB2
  have hrop' : Hid _ := hrop w2 (h.below hB02)
  have hRO' : Hid _ := hRO
  clear hop hrop hRO hc hO hO2
  go_wp2_with fail
  refine Calls.mono hrop'.out ?_
  rintro e w3 ⟨hr, hB3⟩
  obtain rfl := hRO'.out e w3 hr
  have hB03 := below_then hB02 hB3
  clear hr hrop' hRO'
  go_wp2_with fail
  have hB4 : Below w3.heap.size w3 (w3.alloc (.cells #[.int .i64 (c : Int), .int .i64 0, .int .i64 0, .bool false, .bool false] 51)) := (Below.refl _ _).alloc (Nat.le_refl _) _
  have hB04 := below_then hB03 hB4
  have d0 : ∀ wx, Below (w3.alloc (.cells #[.int .i64 (c : Int), .int .i64 0, .int .i64 0, .bool false, .bool false] 51)).heap.size (w3.alloc (.cells #[.int .i64 (c : Int), .int .i64 0, .int .i64 0, .bool false, .bool false] 51)) wx → wx.cell? ⟨w3.heap.size, 0, none⟩ = some (.int .i64 (c : Int)) ∧ wx.cell? ⟨w3.heap.size, 1, none⟩ = some (.int .i64 0) ∧ wx.cell? ⟨w3.heap.size, 2, none⟩ = some (.int .i64 0) ∧ wx.cell? ⟨w3.heap.size, 3, none⟩ = some (.bool false) ∧ wx.cell? ⟨w3.heap.size, 4, none⟩ = some (.bool false) := fun wx hx => by
    refine ⟨?_, ?_, ?_, ?_, ?_⟩ <;> rw [hx.cell (by simp)] <;> simp [go_sem]
  refine (live_wire _ (ST_below hs hB04)).mono ?_
  rintro e w5 ⟨rfl, hB5⟩
  have hB35 := below_then hB4 hB5
  have k0' := d0 w5 hB5
  clear d0 hB5 hB04 hB4
  go_wp2_with fail
  refine (same_zero none none 0 0 w5).mono ?_
  rintro e w6 ⟨rfl, hB6⟩
  have hB36 := below_then hB35 hB6
  have z3 : w3.heap.size < w5.heap.size := World.block_lt_of_cell? _ _ k0'.1
  have g6 := ET_below hg (below_then hB03 hB36)
  have k0 := (hB6.cell (p := ⟨w3.heap.size, 0, none⟩) z3).trans k0'.1
  have k1 := (hB6.cell (p := ⟨w3.heap.size, 1, none⟩) z3).trans k0'.2.1
  have k2 := (hB6.cell (p := ⟨w3.heap.size, 2, none⟩) z3).trans k0'.2.2.1
  have k3 := (hB6.cell (p := ⟨w3.heap.size, 3, none⟩) z3).trans k0'.2.2.2.1
  have k4 := (hB6.cell (p := ⟨w3.heap.size, 4, none⟩) z3).trans k0'.2.2.2.2
  clear k0' hB35 hB6
  go_wp2_with fail
  refine (same_err (c : Int) hcb w6 g6).mono ?_
  rintro e w7 ⟨rfl, hB7⟩
  have hB37 := below_then hB36 hB7
  have hB07 := below_then hB03 hB37
  have hB17 := (below_then hB2 (below_then hB3 hB37))
  have h7 := h.below hB07
  clear k0 k1 k2 k3 k4
  go_wp2_with fail
  refine (kept_true w.heap.size a len cap bs w7 (Nat.lt_of_lt_of_le z1 hB17.size) (fun j hj => by rw [hB17.cell (p := ⟨w.heap.size, j, none⟩) z1]; exact hR.c j hj) hbs h7).mono ?_
  rintro e w8 ⟨rfl, hB8⟩
  go_wp2_with fail
  go_ret
  exact ⟨rfl, below_then hB07 hB8⟩
set_option maxRecDepth 100000 in
set_option maxHeartbeats 4000000 in
theorem wireOpens_ok (a : Option Addr) (len cap : Nat) (bs : Nat → Nat) (w : World) (hs : ST w) (hg : ET w) (h : BytesIn w a len bs) (hlc : len ≤ cap) (hbs : ∀ j, j < len → bs j < 256) (he : Hid (openE bs len = 0)) :
    Calls Tryd.prog 8 #[.slice a len cap] w fun e w' => e = .returned (.bool true) ∧ Below w.heap.size w w' := by
  have hm := h.1
  go_enter Tryd.func8, Tryd.ntmps8
  go_wp2_with fail
  refine (hand_some a len cap bs w h).mono ?_
  rintro e w1 ⟨rfl, hR⟩
  have hB1 : Below w.heap.size w w1 := hR.b
  have b1 := hR.bytes hbs
  have s1 := ST_below hs hB1
  have z1 := hR.sz
  have hO : OH w.heap.size len bs w1 w1 := ⟨b1, s1, Below.refl _ _⟩
  clear b1 s1
  go_wp2_with fail
  have h17 := openE_ok he.out
  have hop := open_ok w.heap.size len (len + 9) bs w1 w1 hO z1 (by omega) (by omega) he.out h17
  have hrop := fun w2 (h2 : BytesIn w2 a len bs) => ropen_in a len cap bs w2 h2 hlc
  have hRO : ∀ e W, RO bs len e W → ∃ a' cap', e = .returned (.tuple #[.int .u8 (bs 0 : Int), .int .u64 ((u32At bs 5 : Int) * 4294967296 + (u32At bs 9 : Int)), .slice a' (u32At bs 1) cap', .int .i64 (21 + (u32At bs 1 : Int)), .agg #[.int .i64 0, .int .i64 0, .int .i64 0, .bool false, .bool false]]) ∧ BytesIn W a' (u32At bs 1) (fun i => bs (17 + i)) := fun e W hh => by unfold RO at hh; rw [if_pos he.out] at hh; exact hh
  generalize u32At bs 1 = size at *
  generalize u32At bs 5 = n5 at *
  generalize u32At bs 9 = n9 at *
  have hsz : (17 + (size : Int) + 4 == 21 + (size : Int)) = true := by rw [beq_iff_eq]; omega
  refine Calls.mono hop ?_
  rintro e w2 ⟨g2, c2, rfl, f2, l2, hO2⟩
  have hB2 := hO2.2.2
  have hB02 := below_then hB1 hB2
  have hrop' : Hid _ := hrop w2 (h.below hB02)
  have hRO' : Hid _ := hRO
  clear hop hrop hRO hO hO2
  go_wp2_with fail
  refine Calls.mono hrop'.out ?_
  rintro e w3 ⟨hr, hB3⟩
  obtain ⟨a3, c3, rfl, f3⟩ := hRO'.out e w3 hr
  have hB03 := below_then hB02 hB3
  clear hr hrop' hRO'
  go_wp2_with fail
  have hB4 : Below w3.heap.size w3 (w3.alloc (.cells #[.int .i64 0, .int .i64 0, .int .i64 0, .bool false, .bool false] 51)) := (Below.refl _ _).alloc (Nat.le_refl _) _
  have hB04 := below_then hB03 hB4
  have d0 : ∀ wx, Below (w3.alloc (.cells #[.int .i64 0, .int .i64 0, .int .i64 0, .bool false, .bool false] 51)).heap.size (w3.alloc (.cells #[.int .i64 0, .int .i64 0, .int .i64 0, .bool false, .bool false] 51)) wx → wx.cell? ⟨w3.heap.size, 0, none⟩ = some (.int .i64 0) ∧ wx.cell? ⟨w3.heap.size, 1, none⟩ = some (.int .i64 0) ∧ wx.cell? ⟨w3.heap.size, 2, none⟩ = some (.int .i64 0) ∧ wx.cell? ⟨w3.heap.size, 3, none⟩ = some (.bool false) ∧ wx.cell? ⟨w3.heap.size, 4, none⟩ = some (.bool false) := fun wx hx => by
    refine ⟨?_, ?_, ?_, ?_, ?_⟩ <;> rw [hx.cell (by simp)] <;> simp [go_sem]
  refine (live_wire _ (ST_below hs hB04)).mono ?_
  rintro e w5 ⟨rfl, hB5⟩
  have hB35 := below_then hB4 hB5
  have k0' := d0 w5 hB5
  clear d0 hB5 hB04 hB4
  have f5 : BytesAt w5 g2 0 size _ := (f2.below hB3 l2).below hB35 (Nat.lt_of_lt_of_le l2 hB3.size)
  have f5' := f3.below hB35
  go_wp2_with fail
  refine (same_in g2 0 c2 a3 c3 size _ w5 f5 f5').mono ?_
  rintro e w6 ⟨rfl, hB6⟩
  have hB36 := below_then hB35 hB6
  have z3 : w3.heap.size < w5.heap.size := World.block_lt_of_cell? _ _ k0'.1
  have g6 := ET_below hg (below_then hB03 hB36)
  have k0 := (hB6.cell (p := ⟨w3.heap.size, 0, none⟩) z3).trans k0'.1
  have k1 := (hB6.cell (p := ⟨w3.heap.size, 1, none⟩) z3).trans k0'.2.1
  have k2 := (hB6.cell (p := ⟨w3.heap.size, 2, none⟩) z3).trans k0'.2.2.1
  have k3 := (hB6.cell (p := ⟨w3.heap.size, 3, none⟩) z3).trans k0'.2.2.2.1
  have k4 := (hB6.cell (p := ⟨w3.heap.size, 4, none⟩) z3).trans k0'.2.2.2.2
  clear k0' hB35 hB6
  go_wp2_with fail
  refine (same_nil w6).mono ?_
  rintro e w7 ⟨rfl, hB7⟩
  have hB37 := below_then hB36 hB7
  have hB07 := below_then hB03 hB37
  have hB17 := (below_then hB2 (below_then hB3 hB37))
  have h7 := h.below hB07
  clear k0 k1 k2 k3 k4
  go_wp2_with fail
  refine (kept_true w.heap.size a len cap bs w7 (Nat.lt_of_lt_of_le z1 hB17.size) (fun j hj => by rw [hB17.cell (p := ⟨w.heap.size, j, none⟩) z1]; exact hR.c j hj) hbs h7).mono ?_
  rintro e w8 ⟨rfl, hB8⟩
  go_wp2_with fail
  go_ret
  exact ⟨rfl, below_then hB07 hB8⟩
open Go.ChangeShapes Go.WideShapes Go.ChangeAt in
theorem bytes_cap {H : Type} {enc : TypeId × Value → H} {t e : TypeId} {W : World} {a : Option Addr} {len cap : Nat} {d : DataW H} {p : List MemPlace}
    (ht : Tryd.prog.underlying t = some (.slice e)) (he : Tryd.prog.underlying e = some (.int .u8)) (hc : Tryd.prog.cellsOf e = 1)
    (h : DataW.Trod enc Tryd.prog W 0 (fun _ => true) true t (.slice a len cap) d p) : len ≤ cap := by
  obtain ⟨fuel, hf⟩ := h
  rcases open_ints ht he hc hf with ⟨hcs, _⟩ | ⟨a', len', cap', zs, hcs, _, hl, _⟩
  · simp [Value.cells] at hcs; omega
  · simp [Value.cells] at hcs
    obtain ⟨_, rfl, rfl⟩ := hcs
    exact hl
theorem wireOpens_walk (a : Option Addr) (len cap : Nat) (bs : Nat → Nat) (w : World) (hs : ST w) (hg : ET w) (h : BytesIn w a len bs) (hlc : len ≤ cap) :
    Calls Tryd.prog 8 #[.slice a len cap] w fun e w' => e = .returned (.bool true) ∧ Below w.heap.size w w' := by
  have hbs : ∀ j, j < len → bs j < 256 := fun j hj => by
    rcases h.2 with h0 | ⟨b, off, _, _, hB⟩
    · omega
    · exact (hB j hj).2
  by_cases he : openE bs len = 0
  · exact wireOpens_ok a len cap bs w hs hg h hlc hbs he
  · exact wireOpens_bad a len cap bs w hs hg h hlc hbs he
end Go.Proofs.YtmlankbaoanaeaaDoor
