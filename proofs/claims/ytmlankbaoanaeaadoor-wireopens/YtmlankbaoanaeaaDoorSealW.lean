
import Derived.Test.YtmlankbaoanaeaaDoorSealD
import Derived.Test.YtmlankbaoanaeaaDoorHandA
import Derived.Test.YtmlankbaoanaeaaDoorSame
namespace Go.Proofs.YtmlankbaoanaeaaDoor
open Go.RowKit
set_option linter.unusedVariables false
set_option linter.unusedSimpArgs false
def listOf (bs : Nat → Nat) (n : Nat) : List Nat := (List.range n).map bs
theorem listOf_len (bs : Nat → Nat) (n : Nat) : (listOf bs n).length = n := by simp [listOf]
theorem natsOf_listOf (bs : Nat → Nat) (n i : Nat) (h : i < n) : natsOf (listOf bs n) i = bs i := by simp [natsOf, listOf, List.getD_eq_getElem?_getD, h]
theorem BytesAt.congr {w : World} {b off n : Nat} {f g : Nat → Nat} (h : BytesAt w b off n f) (e : ∀ i, i < n → f i = g i) : BytesAt w b off n g := fun i hi => by rw [← e i hi]; exact h i hi
theorem RowAt.bytes {H len : Nat} {bs : Nat → Nat} {w1 wx : World} (h : RowAt H (len + 9) (handF bs len) w1 wx) (hbs : ∀ j, j < len → bs j < 256) : BytesAt wx H 0 len bs := fun i hi => by
  have := h.c i (by omega)
  unfold handF at this
  rw [if_pos hi] at this
  exact ⟨by rw [Nat.zero_add]; exact this, hbs i hi⟩
/-- the document's seal of bytes that are read. -/
theorem rseal_in (kind number : Nat) (hk : kind < 256) (hn : number < 18446744073709551616) (a : Option Addr) (len cap : Nat) (bs : Nat → Nat) (w : World) (hlen : len ≤ 67108864) (h : BytesIn w a len bs) (hbs : ∀ j, j < len → bs j < 256) :
    Calls Tryd.prog 41 #[.int .u8 (kind : Int), .int .u64 (number : Int), .slice a len cap] w fun e w' => ∃ g cap', e = .returned (.tuple #[.slice (some ⟨g, 0, none⟩) (17 + len + 4) cap', .agg #[.int .i64 0, .int .i64 0, .int .i64 0, .bool false, .bool false]]) ∧ w'.ownsRow w.heap.size 5 1 (.slice (some ⟨g, 0, none⟩) (17 + len + 4) cap') (17 + len + 4) (enc (frameOf kind number (listOf bs len))) ∧ Below w.heap.size w w' := by
  have hl := listOf_len bs len
  have hx : ∀ x ∈ listOf bs len, x < 256 := fun x hx => by simp [listOf] at hx; obtain ⟨j, hj, rfl⟩ := hx; exact hbs j hj
  obtain ⟨hm, h⟩ := h
  rcases h with h0 | ⟨b, off, rfl, hb, h⟩
  · have := rseal_none kind number hk hn a cap (listOf bs len) w (by rw [hl]; exact hlen) (by rw [hl]; exact h0) hx
    rw [hl] at this; exact this
  · have := rseal_some kind number hk hn b off cap (listOf bs len) w (by rw [hl]; exact hlen) hb (by rw [hl]; exact h.congr fun i hi => (natsOf_listOf bs len i hi).symm) hx
    rw [hl] at this; exact this
theorem seal_in (kind number : Nat) (hk : kind < 256) (hn : number < 18446744073709551616) (b cap len : Nat) (bs : Nat → Nat) (w : World) (hlen : len ≤ 67108864) (hbk : b < w.heap.size) (h : BytesAt w b 0 len bs) (hbs : ∀ j, j < len → bs j < 256) (hs : ST w) :
    Calls Tryd.prog 40 #[.int .u8 (kind : Int), .int .u64 (number : Int), .slice (some ⟨b, 0, none⟩) len cap] w fun e w' => ∃ g cap', e = .returned (.tuple #[.slice (some ⟨g, 0, none⟩) (17 + len + 4) cap', .nilIface]) ∧ w'.ownsRow w.heap.size 5 1 (.slice (some ⟨g, 0, none⟩) (17 + len + 4) cap') (17 + len + 4) (enc (frameOf kind number (listOf bs len))) ∧ Below w.heap.size w w' := by
  have hl := listOf_len bs len
  have hx : ∀ x ∈ listOf bs len, x < 256 := fun x hx => by simp [listOf] at hx; obtain ⟨j, hj, rfl⟩ := hx; exact hbs j hj
  have := seal_some kind number hk hn b 0 cap (listOf bs len) w (by rw [hl]; exact hlen) hbk (by rw [hl]; exact h.congr fun i hi => (natsOf_listOf bs len i hi).symm) hx hs
  rw [hl] at this; exact this
theorem frame_lt (kind number : Nat) (hk : kind < 256) (l : List Nat) (hl : ∀ x ∈ l, x < 256) : ∀ x ∈ frameOf kind number l, x < 256 := by
  intro x hx
  rcases List.mem_append.1 hx with hx | hx
  · rcases List.mem_append.1 hx with hx | hx
    · exact head2_lt kind number _ hk x hx
    · exact hl x hx
  · exact be4_lt _ x hx
set_option maxRecDepth 100000 in
set_option maxHeartbeats 4000000 in
theorem wireSeals_short (kind number : Nat) (hk : kind < 256) (hn : number < 18446744073709551616) (a : Option Addr) (len cap : Nat) (bs : Nat → Nat) (w : World) (hs : ST w) (hg : ET w) (h : BytesIn w a len bs) (hbs : ∀ j, j < len → bs j < 256) (hlen : len ≤ 67108864) :
    Calls Tryd.prog 7 #[.int .u8 (kind : Int), .int .u64 (number : Int), .slice a len cap] w fun e w' => e = .returned (.bool true) ∧ Below w.heap.size w w' := by
  go_enter Tryd.func7, Tryd.ntmps7
  go_wp2_with fail
  refine (hand_some a len cap bs w h).mono ?_
  rintro e w1 ⟨rfl, hR⟩
  have hB1 : Below w.heap.size w w1 := hR.b
  have b1 := hR.bytes hbs
  have s1 := ST_below hs hB1
  have z1 := hR.sz
  go_wp2_with fail
  refine (seal_in kind number hk hn w.heap.size (len + 9) len bs w1 hlen z1 b1 hbs s1).mono ?_
  rintro e w2 ⟨g2, c2, rfl, o2, hB2⟩
  have hl := listOf_len bs len
  have hx : ∀ x ∈ frameOf kind number (listOf bs len), x < 256 := frame_lt kind number hk _ fun x hx => by simp [listOf] at hx; obtain ⟨j, hj, rfl⟩ := hx; exact hbs j hj
  have f2 := bytes_own o2 hx
  have l2 := (o2.lt g2 rfl).2
  have hB02 := below_then hB1 hB2
  have h2 := h.below hB02
  clear o2 b1 s1
  go_wp2_with fail
  refine (rseal_in kind number hk hn a len cap bs w2 hlen h2 hbs).mono ?_
  rintro e w3 ⟨g3, c3, rfl, o3, hB3⟩
  have f3 := bytes_own o3 hx
  have l3 := (o3.lt g3 rfl).2
  have hB03 := below_then hB02 hB3
  clear o3 h2
  go_wp2_with fail
  have hB4 : Below w3.heap.size w3 (w3.alloc (.cells #[.int .i64 0, .int .i64 0, .int .i64 0, .bool false, .bool false] 51)) := (Below.refl _ _).alloc (Nat.le_refl _) _
  have hB04 := below_then hB03 hB4
  have d0 : ∀ wx, Below (w3.alloc (.cells #[.int .i64 0, .int .i64 0, .int .i64 0, .bool false, .bool false] 51)).heap.size (w3.alloc (.cells #[.int .i64 0, .int .i64 0, .int .i64 0, .bool false, .bool false] 51)) wx → wx.cell? ⟨w3.heap.size, 0, none⟩ = some (.int .i64 0) ∧ wx.cell? ⟨w3.heap.size, 1, none⟩ = some (.int .i64 0) ∧ wx.cell? ⟨w3.heap.size, 2, none⟩ = some (.int .i64 0) ∧ wx.cell? ⟨w3.heap.size, 3, none⟩ = some (.bool false) ∧ wx.cell? ⟨w3.heap.size, 4, none⟩ = some (.bool false) := fun wx hx => by
    refine ⟨?_, ?_, ?_, ?_, ?_⟩ <;> rw [hx.cell (by simp)] <;> simp [go_sem]
  refine (live_wire _ (ST_below hs hB04)).mono ?_
  rintro e w5 ⟨rfl, hB5⟩
  obtain ⟨k0, k1, k2, k3, k4⟩ := d0 w5 hB5
  have hB35 := below_then hB4 hB5
  have hB05 := below_then hB03 hB35
  have g5 := ET_below hg hB05
  clear d0 hB5 hB04 hB4
  go_wp2_with fail
  refine (same_nil w5).mono ?_
  rintro e w6 ⟨rfl, hB6⟩
  have hB36 := below_then hB35 hB6
  have hB06 := below_then hB03 hB36
  clear k0 k1 k2 k3 k4 hB35 hB05 hB6
  have f6 : BytesAt w6 g2 0 (17 + len + 4) _ := (f2.below hB3 l2).below hB36 (Nat.lt_of_lt_of_le l2 hB3.size)
  have f6' : BytesAt w6 g3 0 (17 + len + 4) _ := f3.below hB36 l3
  go_wp2_with fail
  refine (same_true g2 0 c2 g3 0 c3 (17 + len + 4) _ w6 (by omega) f6 f6').mono ?_
  rintro e w7 ⟨rfl, hB7⟩
  have hB37 := below_then hB36 hB7
  have hB07 := below_then hB03 hB37
  have hB17 := (below_then hB2 (below_then hB3 hB37))
  have h7 := h.below hB07
  go_wp2_with fail
  refine (kept_true w.heap.size a len cap bs w7 (Nat.lt_of_lt_of_le z1 hB17.size) (fun j hj => by rw [hB17.cell (p := ⟨w.heap.size, j, none⟩) z1]; exact hR.c j hj) hbs h7).mono ?_
  rintro e w8 ⟨rfl, hB8⟩
  go_wp2_with fail
  go_ret
  exact ⟨rfl, below_then hB07 hB8⟩
set_option maxRecDepth 100000 in
set_option maxHeartbeats 4000000 in
theorem wireSeals_long (kind number : Nat) (a : Option Addr) (len cap : Nat) (bs : Nat → Nat) (w : World) (hs : ST w) (hg : ET w) (h : BytesIn w a len bs) (hbs : ∀ j, j < len → bs j < 256) (hlen : 67108864 < len) :
    Calls Tryd.prog 7 #[.int .u8 (kind : Int), .int .u64 (number : Int), .slice a len cap] w fun e w' => e = .returned (.bool true) ∧ Below w.heap.size w w' := by
  go_enter Tryd.func7, Tryd.ntmps7
  go_wp2_with fail
  refine (hand_some a len cap bs w h).mono ?_
  rintro e w1 ⟨rfl, hR⟩
  have hB1 : Below w.heap.size w w1 := hR.b
  have z1 := hR.sz
  go_wp2_with fail
  refine (seal_long kind number _ len (len + 9) w1 hlen).mono ?_
  rintro e w2 ⟨rfl, rfl⟩
  have hB2 := Below.refl w2.heap.size w2
  go_wp2_with fail
  refine (rseal_long kind number a len cap w2 hlen).mono ?_
  rintro e w3 ⟨rfl, hB3⟩
  have hB03 := below_then hB1 hB3
  go_wp2_with fail
  have hB4 : Below w3.heap.size w3 (w3.alloc (.cells #[.int .i64 6, .int .i64 0, .int .i64 0, .bool false, .bool false] 51)) := (Below.refl _ _).alloc (Nat.le_refl _) _
  have hB04 := below_then hB03 hB4
  have d0 : ∀ wx, Below (w3.alloc (.cells #[.int .i64 6, .int .i64 0, .int .i64 0, .bool false, .bool false] 51)).heap.size (w3.alloc (.cells #[.int .i64 6, .int .i64 0, .int .i64 0, .bool false, .bool false] 51)) wx → wx.cell? ⟨w3.heap.size, 0, none⟩ = some (.int .i64 6) ∧ wx.cell? ⟨w3.heap.size, 1, none⟩ = some (.int .i64 0) ∧ wx.cell? ⟨w3.heap.size, 2, none⟩ = some (.int .i64 0) ∧ wx.cell? ⟨w3.heap.size, 3, none⟩ = some (.bool false) ∧ wx.cell? ⟨w3.heap.size, 4, none⟩ = some (.bool false) := fun wx hx => by
    refine ⟨?_, ?_, ?_, ?_, ?_⟩ <;> rw [hx.cell (by simp)] <;> simp [go_sem]
  refine (live_wire _ (ST_below hs hB04)).mono ?_
  rintro e w5 ⟨rfl, hB5⟩
  obtain ⟨k0, k1, k2, k3, k4⟩ := d0 w5 hB5
  have hB35 := below_then hB4 hB5
  have hB05 := below_then hB03 hB35
  have g5 := ET_below hg hB05
  clear d0 hB5 hB04 hB4
  go_wp2_with fail
  refine (same_err 6 rfl w5 g5).mono ?_
  rintro e w6 ⟨rfl, hB6⟩
  have hB36 := below_then hB35 hB6
  have hB06 := below_then hB03 hB36
  clear k0 k1 k2 k3 k4 hB35 hB05 hB6
  go_wp2_with fail
  refine (same_zero none none 0 0 w6).mono ?_
  rintro e w7 ⟨rfl, hB7⟩
  have hB37 := below_then hB36 hB7
  have hB07 := below_then hB03 hB37
  have hB17 := (below_then hB2 (below_then hB3 hB37))
  have h7 := h.below hB07
  go_wp2_with fail
  refine (kept_true w.heap.size a len cap bs w7 (Nat.lt_of_lt_of_le z1 hB17.size) (fun j hj => by rw [hB17.cell (p := ⟨w.heap.size, j, none⟩) z1]; exact hR.c j hj) hbs h7).mono ?_
  rintro e w8 ⟨rfl, hB8⟩
  go_wp2_with fail
  go_ret
  exact ⟨rfl, below_then hB07 hB8⟩
theorem wireSeals_walk (kind number : Int) (hk : 0 ≤ kind ∧ kind < 256) (hn : 0 ≤ number ∧ number < 18446744073709551616) (a : Option Addr) (len cap : Nat) (bs : Nat → Nat) (w : World) (hs : ST w) (hg : ET w) (h : BytesIn w a len bs) :
    Calls Tryd.prog 7 #[.int .u8 kind, .int .u64 number, .slice a len cap] w fun e w' => e = .returned (.bool true) ∧ Below w.heap.size w w' := by
  obtain ⟨k, rfl⟩ := Int.eq_ofNat_of_zero_le hk.1
  obtain ⟨n, rfl⟩ := Int.eq_ofNat_of_zero_le hn.1
  have hbs : ∀ j, j < len → bs j < 256 := fun j hj => by
    rcases h.2 with h0 | ⟨b, off, _, _, hB⟩
    · omega
    · exact (hB j hj).2
  rcases Nat.lt_or_ge 67108864 len with hl | hl
  · exact wireSeals_long k n a len cap bs w hs hg h hbs hl
  · exact wireSeals_short k n (by omega) (by omega) a len cap bs w hs hg h hbs hl
end Go.Proofs.YtmlankbaoanaeaaDoor
