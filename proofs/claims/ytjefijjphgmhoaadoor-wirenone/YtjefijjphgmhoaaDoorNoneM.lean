
import Derived.Test.YtjefijjphgmhoaaDoorNoneW
namespace Go.Proofs.YtjefijjphgmhoaaDoor
open Go.RowKit
set_option linter.unusedVariables false
set_option linter.unusedSimpArgs false
set_option maxRecDepth 100000 in
set_option maxHeartbeats 4000000 in
theorem wireNone_walk (k : Int) (x : Int) (hx : 0 ≤ x ∧ x < 18446744073709551616) (bits : Int) (a : Option Addr) (m c : Nat) (bs : Nat → Nat) (w : World) (hs : ST w) (hg : ET w) (hm : m ≤ 140737488351232) (h : BytesIn w a m bs) :
    Calls Tryd.prog 4 #[.agg #[.int .i64 k, .int .u64 x, .int .i64 bits, .slice a m c]] w fun e w' => e = .returned (.bool true) ∧ Below w.heap.size w w' := by
  obtain ⟨x, rfl⟩ := Int.eq_ofNat_of_zero_le hx.1
  have hx' : x < 18446744073709551616 := by omega
  obtain ⟨W, hW⟩ : ∃ W, W = w.alloc (.cells #[.int .i64 k, .int .u64 (x : Int), .int .i64 bits, .slice a m c] 32) := ⟨_, rfl⟩
  have hB0 : Below w.heap.size w W := by rw [hW]; exact (Below.refl _ _).alloc (Nat.le_refl _) _
  have hsz : W.heap.size = w.heap.size + 1 := by rw [hW]; simp
  have t2 : W.cell? ⟨w.heap.size, 2, none⟩ = some (.int .i64 bits) := by rw [hW]; simp [go_sem]
  have sW := ST_below hs hB0
  have gW := ET_below hg hB0
  have hS : WS W.heap.size W 0 (.slice none 0 0) 0 [] (W.alloc (.cells #[.slice none 0 0, .int .i64 0] 29)) :=
    ⟨by simp [go_sem], by simp [go_sem], by simp [go_sem], by simp [go_sem], World.ownsRow_nil _ _ _ _, (Below.refl _ _).alloc (Nat.le_refl _) _, by simp⟩
  have hin : m = 0 ∨ ∃ b off, a = some ⟨b, off, none⟩ ∧ b < W.heap.size ∧ BytesAt (W.alloc (.cells #[.slice none 0 0, .int .i64 0] 29)) b off m bs := by
    rcases (h.below hB0).2 with h0 | ⟨b, off, e, hb, hB⟩
    · exact Or.inl h0
    · exact Or.inr ⟨b, off, e, hb, hB.below ((Below.refl _ _).alloc (Nat.le_refl _) _) hb⟩
  have hwr := write_nil W.heap.size W _ hS k x hx' bits a m c bs hm hin
  rw [hsz, hW] at hwr
  have hwr' : Hid _ := hwr
  clear hwr hS hin
  go_enter Tryd.func4, Tryd.ntmps4
  go_wp2_with fail
  refine Calls.mono hwr'.out ?_
  rintro e w2 ⟨rfl, P2', _⟩
  have P2 : Below W.heap.size W w2 := by rw [hsz, hW]; exact P2'
  clear P2' hwr'
  go_wp2_with fail
  refine (new_any 3 rfl _).mono ?_
  rintro e x2 ⟨rfl, rfl⟩
  go_wp2_with fail
  refine (nil_Fail _ _).mono ?_
  rintro e w3 ⟨rfl, B3⟩
  have P3 := below_then P2 B3
  clear B3
  go_wp2_with fail
  refine (live_wire _ (ST_below sW P3)).mono ?_
  rintro e w4 ⟨rfl, B4⟩
  have P4 := below_then P3 B4
  clear B4
  go_wp2_with fail
  refine (nilw_Len _).mono ?_
  rintro e w5 ⟨rfl, B5⟩
  have P5 := below_then P4 B5
  clear B5
  go_wp2_with fail
  refine (nilw_Bytes _).mono ?_
  rintro e w6 ⟨rfl, B6⟩
  have P6 := below_then P5 B6
  clear B6
  go_wp2_with fail
  refine (nil_Byte _).mono ?_
  rintro e w7 ⟨rfl, B7⟩
  have P7 := below_then P6 B7
  clear B7
  go_wp2_with fail
  refine (nil_Fix32 _).mono ?_
  rintro e w8 ⟨rfl, B8⟩
  have P8 := below_then P7 B8
  clear B8
  go_wp2_with fail
  refine (nil_Uint 9 _).mono ?_
  rintro e w9 ⟨rfl, B9⟩
  have P9 := below_then P8 B9
  clear B9
  go_wp2_with fail
  refine (nil_Int _).mono ?_
  rintro e w10 ⟨rfl, B10⟩
  have P10 := below_then P9 B10
  clear B10
  go_wp2_with fail
  refine (nil_Text _).mono ?_
  rintro e w11 ⟨rfl, B11⟩
  have P11 := below_then P10 B11
  clear B11
  go_wp2_with fail
  refine (nil_Raw _).mono ?_
  rintro e w12 ⟨rfl, B12⟩
  have P12 := below_then P11 B12
  clear B12
  have u2 : w12.cell? ⟨w.heap.size, 2, none⟩ = some (.int .i64 bits) := by rw [P12.cell (by simp; omega)]; exact t2
  go_wp2_with fail
  refine (nil_Bits bits _).mono ?_
  rintro e w13 ⟨rfl, B13⟩
  have P13 := below_then P12 B13
  clear B13
  go_wp2_with fail
  refine (nil_At _).mono ?_
  rintro e w14 ⟨rfl, B14⟩
  have P14 := below_then P13 B14
  clear B14
  go_wp2_with fail
  refine (nil_Left _).mono ?_
  rintro e w15 ⟨rfl, B15⟩
  have P15 := below_then P14 B15
  clear B15
  go_wp2_with fail
  refine (nil_Fault _).mono ?_
  rintro e w16 ⟨rfl, B16⟩
  have P16 := below_then P15 B16
  clear B16
  go_wp2_with fail
  refine (is_errno 1 1 rfl _ (ET_below gW P16)).mono ?_
  rintro e w17 ⟨rfl, B17⟩
  have P17 := below_then P16 B17
  clear B17
  go_wp2_with fail
  refine (nil_Done _).mono ?_
  rintro e w18 ⟨rfl, B18⟩
  have P18 := below_then P17 B18
  clear B18
  go_wp2_with fail
  refine (is_errno 1 1 rfl _ (ET_below gW P18)).mono ?_
  rintro e w19 ⟨rfl, B19⟩
  have P19 := below_then P18 B19
  clear B19
  go_wp2_with fail
  go_ret
  exact ⟨rfl, below_then hB0 P19⟩
end Go.Proofs.YtjefijjphgmhoaaDoor
