
import Derived.Test.YtmlankbaoanaeaaDoorSealC
namespace Go.Proofs.YtmlankbaoanaeaaDoor
open Go.RowKit
set_option linter.unusedVariables false
set_option linter.unusedSimpArgs false
/-- a document's error in a block of its own, as it may be written. -/
structure BadAt (M : Nat) (wx : World) : Prop where
  z0 : wx.cell? ⟨M, 0, none⟩ = some (.int .i64 0)
  z1 : wx.cell? ⟨M, 1, none⟩ = some (.int .i64 0)
  z2 : wx.cell? ⟨M, 2, none⟩ = some (.int .i64 0)
  z3 : wx.cell? ⟨M, 3, none⟩ = some (.bool false)
  z4 : wx.cell? ⟨M, 4, none⟩ = some (.bool false)
  y0 : wx.frozen? ⟨M, 0, none⟩ = false
  y1 : wx.frozen? ⟨M, 1, none⟩ = false
  y2 : wx.frozen? ⟨M, 2, none⟩ = false
  y3 : wx.frozen? ⟨M, 3, none⟩ = false
  y4 : wx.frozen? ⟨M, 4, none⟩ = false
theorem bad_start (w : World) : BadAt w.heap.size (w.alloc (.cells #[.int .i64 0, .int .i64 0, .int .i64 0, .bool false, .bool false] 51)) := by
  refine ⟨?_, ?_, ?_, ?_, ?_, ?_, ?_, ?_, ?_, ?_⟩ <;> simp [go_sem]
theorem BadAt.below {M : Nat} {w wx : World} (h : BadAt M w) (hb : Below (M + 1) w wx) : BadAt M wx := by
  obtain ⟨z0, z1, z2, z3, z4, y0, y1, y2, y3, y4⟩ := h
  refine ⟨?_, ?_, ?_, ?_, ?_, ?_, ?_, ?_, ?_, ?_⟩
  · rw [hb.cell (p := ⟨M, 0, none⟩) (Nat.lt_succ_self _)]; exact z0
  · rw [hb.cell (p := ⟨M, 1, none⟩) (Nat.lt_succ_self _)]; exact z1
  · rw [hb.cell (p := ⟨M, 2, none⟩) (Nat.lt_succ_self _)]; exact z2
  · rw [hb.cell (p := ⟨M, 3, none⟩) (Nat.lt_succ_self _)]; exact z3
  · rw [hb.cell (p := ⟨M, 4, none⟩) (Nat.lt_succ_self _)]; exact z4
  · rw [hb.frozen (p := ⟨M, 0, none⟩) (Nat.lt_succ_self _)]; exact y0
  · rw [hb.frozen (p := ⟨M, 1, none⟩) (Nat.lt_succ_self _)]; exact y1
  · rw [hb.frozen (p := ⟨M, 2, none⟩) (Nat.lt_succ_self _)]; exact y2
  · rw [hb.frozen (p := ⟨M, 3, none⟩) (Nat.lt_succ_self _)]; exact y3
  · rw [hb.frozen (p := ⟨M, 4, none⟩) (Nat.lt_succ_self _)]; exact y4
theorem bad_set {w wx : World} (h : Below w.heap.size w wx) (u0 u1 u2 u3 u4 : Value) : Below w.heap.size w (((((wx.setCell ⟨w.heap.size, 0, none⟩ u0).setCell ⟨w.heap.size, 1, none⟩ u1).setCell ⟨w.heap.size, 2, none⟩ u2).setCell ⟨w.heap.size, 3, none⟩ u3).setCell ⟨w.heap.size, 4, none⟩ u4) :=
  ((((h.setCell (p := ⟨w.heap.size, 0, none⟩) (Nat.le_refl _) _).setCell (p := ⟨w.heap.size, 1, none⟩) (Nat.le_refl _) _).setCell (p := ⟨w.heap.size, 2, none⟩) (Nat.le_refl _) _).setCell (p := ⟨w.heap.size, 3, none⟩) (Nat.le_refl _) _).setCell (p := ⟨w.heap.size, 4, none⟩) (Nat.le_refl _) _
theorem own_far {x : World} {base n : Nat} {v : Value} {xs : List Value} {p : Addr} {u : Value} (hp : p.block < base) (h : x.ownsRow base 5 1 v n xs) : (x.setCell p u).ownsRow base 5 1 v n xs := by
  obtain ⟨h1, h2⟩ := h
  refine ⟨h1, ?_⟩
  rcases h2 with h2 | ⟨g, cap, cur, e1, e2, e3, e4⟩
  · exact Or.inl h2
  · exact Or.inr ⟨g, cap, cur, e1, e2, by rw [Below.heap_setCell _ _ _ _ (by omega)]; exact e3, e4⟩
theorem own_mono {x : World} {base base' n : Nat} {v : Value} {xs : List Value} (hb : base' ≤ base) (h : x.ownsRow base 5 1 v n xs) : x.ownsRow base' 5 1 v n xs := by
  obtain ⟨h1, h2⟩ := h
  refine ⟨h1, ?_⟩
  rcases h2 with h2 | ⟨g, cap, cur, e1, e2, e3, e4⟩
  · exact Or.inl h2
  · exact Or.inr ⟨g, cap, cur, e1, Nat.le_trans hb e2, e3, e4⟩
theorem rseal_long (kind : Int) (number : Int) (a : Option Addr) (len cap : Nat) (w : World) (hl : 67108864 < len) :
    Calls Tryd.prog 41 #[.int .u8 kind, .int .u64 number, .slice a len cap] w fun e w' => e = .returned (.tuple #[.slice none 0 0, .agg #[.int .i64 6, .int .i64 0, .int .i64 0, .bool false, .bool false]]) ∧ Below w.heap.size w w' := by
  have hI : (67108864 : Int) < (len : Int) := by omega
  have hwb := bad_start w
  go_enter Tryd.func41, Tryd.ntmps41
  go_wp2_with fail
  refine (rnew_6 _).mono ?_
  rintro e w1 ⟨rfl, hB⟩
  have hB' : Below (w.heap.size + 1) (w.alloc (.cells #[.int .i64 0, .int .i64 0, .int .i64 0, .bool false, .bool false] 51)) w1 := by simpa using hB
  have hBB : Below w.heap.size w w1 := (below_new (Below.refl _ w) _).trans (hB'.mono (by omega))
  obtain ⟨z0, z1, z2, z3, z4, y0, y1, y2, y3, y4⟩ := hwb.below hB'
  go_wp2_with fail
  simp [bodyPost, results, Tryd.results41, go_sem, *]
  exact bad_set hBB _ _ _ _ _
set_option maxRecDepth 100000 in
set_option maxHeartbeats 4000000 in
theorem rseal_none (kind number : Nat) (hk : kind < 256) (hn : number < 18446744073709551616) (a : Option Addr) (cap : Nat) (l : List Nat) (w : World) (hlen : l.length ≤ 67108864) (h00 : Hid (l.length = 0)) (hl : ∀ x ∈ l, x < 256) :
    Calls Tryd.prog 41 #[.int .u8 (kind : Int), .int .u64 (number : Int), .slice a l.length cap] w fun e w' => ∃ g cap', e = .returned (.tuple #[.slice (some ⟨g, 0, none⟩) (17 + l.length + 4) cap', .agg #[.int .i64 0, .int .i64 0, .int .i64 0, .bool false, .bool false]]) ∧ w'.ownsRow w.heap.size 5 1 (.slice (some ⟨g, 0, none⟩) (17 + l.length + 4) cap') (17 + l.length + 4) (enc (frameOf kind number l)) ∧ Below w.heap.size w w' := by
  have hI : ¬ (67108864 : Int) < (l.length : Int) := by omega
  have hm : (number : Int) % 4294967296 % 4294967296 = (number : Int) % 4294967296 := by omega
  have hwb := bad_start w
  have h0 : WS (w.heap.size + 1) (w.alloc (.cells #[.int .i64 0, .int .i64 0, .int .i64 0, .bool false, .bool false] 51)) 0 (.slice none 0 0) 0 (enc []) ((w.alloc (.cells #[.int .i64 0, .int .i64 0, .int .i64 0, .bool false, .bool false] 51)).alloc (.cells #[.slice none 0 0, .int .i64 0] 29)) := by
    refine ⟨by simp, by simp, by simp, by simp, World.ownsRow_nil _ _ _ _, (Below.refl _ _).alloc (by simp) _, by simp⟩
  generalize hN : l.length = n at *
  go_enter Tryd.func41, Tryd.ntmps41
  go_wp2_with fail
  refine (rbyte_any (w.heap.size + 1) _ 0 _ 0 _ _ h0 kind (by omega)).mono ?_
  rintro e w1 ⟨rfl, v1, h1⟩
  clear h0
  go_wp2_with fail
  refine (rfix_any (w.heap.size + 1) _ 0 v1 1 (enc [kind]) w1 h1 n (by omega) _ (by omega) (by omega)).mono ?_
  rintro e w2 ⟨rfl, v2, h2⟩
  rw [enc_append] at h2
  clear h1
  go_wp2_with fail
  refine (rfix_any (w.heap.size + 1) _ 0 v2 5 _ w2 h2 (number / 4294967296) (by omega) _ (by omega) (by omega)).mono ?_
  rintro e w3 ⟨rfl, v3, h3⟩
  rw [enc_append] at h3
  clear h2
  go_wp2_with fail
  refine (rfix_any (w.heap.size + 1) _ 0 v3 9 _ w3 h3 (number % 4294967296) (by omega) _ (by omega) (by omega)).mono ?_
  rintro e w4 ⟨rfl, v4, h4'⟩
  rw [enc_append] at h4'
  have h4 : WS (w.heap.size + 1) (w.alloc (.cells #[.int .i64 0, .int .i64 0, .int .i64 0, .bool false, .bool false] 51)) 0 v4 13 (enc (head1 kind number n)) w4 := h4'
  clear h3 h4'
  obtain ⟨g4, c4, rfl, gb4, gl4⟩ := h4.own.form (by omega)
  have hlt1 : ∀ x ∈ head1 kind number n, x < 256 := head1_lt kind number n hk
  have hc1 := crcOf_lt hlt1
  have b4 := bytes_own h4.own hlt1
  have s4 := h4.sz
  have d4 := h4.c0
  go_wp2_with fail
  refine (crc_ref g4 0 13 c4 _ _ (by omega) b4).mono ?_
  rintro e x5 ⟨rfl, rfl⟩
  rw [show crcTo (natsOf (head1 kind number n)) 13 ^^^ 4294967295 = crcOf (head1 kind number n) from rfl]
  clear b4 d4
  go_wp2_with fail
  refine (rfix_any (w.heap.size + 1) _ 0 _ 13 _ _ h4 (crcOf (head1 kind number n)) hc1 _ rfl (by omega)).mono ?_
  rintro e w5 ⟨rfl, v5, h5'⟩
  rw [enc_append] at h5'
  have h5 : WS (w.heap.size + 1) (w.alloc (.cells #[.int .i64 0, .int .i64 0, .int .i64 0, .bool false, .bool false] 51)) 0 v5 17 (enc (head2 kind number n)) w5 := h5'
  clear h4 h5' s4
  go_wp2_with fail
  go_loopw [9] (fun i wr => ∃ (k : Nat) (v' : Value), k ≤ n ∧ i = .int .i64 k ∧ WS (w.heap.size + 1) (w.alloc (.cells #[.int .i64 0, .int .i64 0, .int .i64 0, .bool false, .bool false] 51)) 0 v' (17 + k) (enc (head2 kind number n ++ l.take k)) wr) (fun i _ => n - (intOf i).toNat)
  case atStart => exact ⟨0, v5, Nat.zero_le _, rfl, by simpa using h5⟩
  case round =>
    clear h5
    obtain ⟨k, v', hk', rfl, hW⟩ := hrel
    by_cases hlt : k < n
    · exact absurd h00.out (by omega)
    · obtain rfl : k = n := by omega
      rw [List.take_of_length_le (by omega)] at hW
      obtain ⟨g6, c6, rfl, gb6, gl6⟩ := hW.own.form (by omega)
      have hlt2 : ∀ x ∈ head2 kind number k ++ l, x < 256 := fun x hx => by
        rcases List.mem_append.1 hx with hx | hx
        · exact head2_lt kind number k hk x hx
        · exact hl x hx
      have hc2 := crcOf_lt hlt2
      have hl2 : (head2 kind number k ++ l).length = 17 + k := by rw [List.length_append, hN]; rfl
      have b6 := bytes_own hW.own hlt2
      have s6 := hW.sz
      have d6 := hW.c0
      go_wp2_with fail
      refine (crc_ref g6 0 (17 + k) c6 _ _ (by omega) b6).mono ?_
      rintro e x7 ⟨rfl, rfl⟩
      rw [show crcTo (natsOf (head2 kind number k ++ l)) (17 + k) ^^^ 4294967295 = crcOf (head2 kind number k ++ l) by rw [crcOf, hl2]]
      clear b6 d6
      go_wp2_with fail
      refine (rfix_any (w.heap.size + 1) _ 0 _ (17 + k) _ _ hW (crcOf (head2 kind number k ++ l)) hc2 _ rfl (by omega)).mono ?_
      rintro e w8 ⟨rfl, v8, h8⟩
      rw [enc_append] at h8
      clear hW s6
      obtain ⟨g8, c8, rfl, gb8, gl8⟩ := h8.own.form (by omega)
      have s8 := h8.sz
      have d8 := h8.c0
      have hwb8 := hwb.below (h8.b)
      obtain ⟨z0, z1, z2, z3, z4, y0, y1, y2, y3, y4⟩ := hwb8
      go_wp2_with fail
      have hBB : Below w.heap.size w w8 := (below_new (Below.refl _ w) _).trans (h8.b.mono (by omega))
      have o8 := h8.own
      have e8 : frameOf kind number l = (head2 kind number k ++ l) ++ be4 (crcOf (head2 kind number k ++ l)) := by rw [frameOf, hN]
      rw [← e8] at o8
      clear e8 h8
      simp [bodyPost, results, Tryd.results41, go_sem, *]
      refine ⟨g8, c8, ⟨rfl, rfl⟩, ?_, bad_set hBB _ _ _ _ _⟩
      exact own_mono (by omega) (own_far (by simp; omega) (own_far (by simp; omega) (own_far (by simp; omega) (own_far (by simp; omega) (own_far (by simp; omega) o8)))))
set_option maxRecDepth 100000 in
set_option maxHeartbeats 4000000 in
theorem rseal_some (kind number : Nat) (hk : kind < 256) (hn : number < 18446744073709551616) (b off : Nat) (cap : Nat) (l : List Nat) (w : World) (hlen : l.length ≤ 67108864) (hbk : b < w.heap.size) (hb : BytesAt w b off l.length (natsOf l)) (hl : ∀ x ∈ l, x < 256) :
    Calls Tryd.prog 41 #[.int .u8 (kind : Int), .int .u64 (number : Int), .slice (some ⟨b, off, none⟩) l.length cap] w fun e w' => ∃ g cap', e = .returned (.tuple #[.slice (some ⟨g, 0, none⟩) (17 + l.length + 4) cap', .agg #[.int .i64 0, .int .i64 0, .int .i64 0, .bool false, .bool false]]) ∧ w'.ownsRow w.heap.size 5 1 (.slice (some ⟨g, 0, none⟩) (17 + l.length + 4) cap') (17 + l.length + 4) (enc (frameOf kind number l)) ∧ Below w.heap.size w w' := by
  have hI : ¬ (67108864 : Int) < (l.length : Int) := by omega
  have hm : (number : Int) % 4294967296 % 4294967296 = (number : Int) % 4294967296 := by omega
  have hwb := bad_start w
  have h0 : WS (w.heap.size + 1) (w.alloc (.cells #[.int .i64 0, .int .i64 0, .int .i64 0, .bool false, .bool false] 51)) 0 (.slice none 0 0) 0 (enc []) ((w.alloc (.cells #[.int .i64 0, .int .i64 0, .int .i64 0, .bool false, .bool false] 51)).alloc (.cells #[.slice none 0 0, .int .i64 0] 29)) := by
    refine ⟨by simp, by simp, by simp, by simp, World.ownsRow_nil _ _ _ _, (Below.refl _ _).alloc (by simp) _, by simp⟩
  generalize hN : l.length = n at *
  go_enter Tryd.func41, Tryd.ntmps41
  go_wp2_with fail
  refine (rbyte_any (w.heap.size + 1) _ 0 _ 0 _ _ h0 kind (by omega)).mono ?_
  rintro e w1 ⟨rfl, v1, h1⟩
  clear h0
  go_wp2_with fail
  refine (rfix_any (w.heap.size + 1) _ 0 v1 1 (enc [kind]) w1 h1 n (by omega) _ (by omega) (by omega)).mono ?_
  rintro e w2 ⟨rfl, v2, h2⟩
  rw [enc_append] at h2
  clear h1
  go_wp2_with fail
  refine (rfix_any (w.heap.size + 1) _ 0 v2 5 _ w2 h2 (number / 4294967296) (by omega) _ (by omega) (by omega)).mono ?_
  rintro e w3 ⟨rfl, v3, h3⟩
  rw [enc_append] at h3
  clear h2
  go_wp2_with fail
  refine (rfix_any (w.heap.size + 1) _ 0 v3 9 _ w3 h3 (number % 4294967296) (by omega) _ (by omega) (by omega)).mono ?_
  rintro e w4 ⟨rfl, v4, h4'⟩
  rw [enc_append] at h4'
  have h4 : WS (w.heap.size + 1) (w.alloc (.cells #[.int .i64 0, .int .i64 0, .int .i64 0, .bool false, .bool false] 51)) 0 v4 13 (enc (head1 kind number n)) w4 := h4'
  clear h3 h4'
  obtain ⟨g4, c4, rfl, gb4, gl4⟩ := h4.own.form (by omega)
  have hlt1 : ∀ x ∈ head1 kind number n, x < 256 := head1_lt kind number n hk
  have hc1 := crcOf_lt hlt1
  have b4 := bytes_own h4.own hlt1
  have s4 := h4.sz
  have d4 := h4.c0
  go_wp2_with fail
  refine (crc_ref g4 0 13 c4 _ _ (by omega) b4).mono ?_
  rintro e x5 ⟨rfl, rfl⟩
  rw [show crcTo (natsOf (head1 kind number n)) 13 ^^^ 4294967295 = crcOf (head1 kind number n) from rfl]
  clear b4 d4
  go_wp2_with fail
  refine (rfix_any (w.heap.size + 1) _ 0 _ 13 _ _ h4 (crcOf (head1 kind number n)) hc1 _ rfl (by omega)).mono ?_
  rintro e w5 ⟨rfl, v5, h5'⟩
  rw [enc_append] at h5'
  have h5 : WS (w.heap.size + 1) (w.alloc (.cells #[.int .i64 0, .int .i64 0, .int .i64 0, .bool false, .bool false] 51)) 0 v5 17 (enc (head2 kind number n)) w5 := h5'
  clear h4 h5' s4
  go_wp2_with fail
  go_loopw [9] (fun i wr => ∃ (k : Nat) (v' : Value), k ≤ n ∧ i = .int .i64 k ∧ WS (w.heap.size + 1) (w.alloc (.cells #[.int .i64 0, .int .i64 0, .int .i64 0, .bool false, .bool false] 51)) 0 v' (17 + k) (enc (head2 kind number n ++ l.take k)) wr) (fun i _ => n - (intOf i).toNat)
  case atStart => exact ⟨0, v5, Nat.zero_le _, rfl, by simpa using h5⟩
  case round =>
    clear h5
    obtain ⟨k, v', hk', rfl, hW⟩ := hrel
    by_cases hlt : k < n
    · have hbl : b < w.heap.size + 1 := by omega
      have hltI : (k : Int) < (n : Int) := by omega
      have hz : wr.cell? ⟨b, off + k, none⟩ = some (.int .u8 ((natsOf l k : Nat) : Int)) := by
        rw [hW.b.cell (p := ⟨b, off + k, none⟩) hbl, World.cell?_alloc_lt _ _ ⟨b, off + k, none⟩ hbk]; exact (hb k hlt).1
      go_wp2_with fail
      refine (rbyte_any (w.heap.size + 1) _ 0 v' (17 + k) _ wr hW (natsOf l k) (by omega)).mono ?_
      rintro e w6 ⟨rfl, v6, h6⟩
      go_wp2_with fail
      go_roundw
      case rel =>
        refine ⟨k + 1, v6, by omega, by go_num, ?_⟩
        have e6 : l.take (k + 1) = l.take k ++ [natsOf l k] := by
          rw [List.take_add_one]; simp [natsOf, List.getD_eq_getElem?_getD, show k < l.length by omega]
        rw [e6, ← List.append_assoc, ← enc_append]; exact h6
      case measure => simp [intOf]; omega
    · obtain rfl : k = n := by omega
      rw [List.take_of_length_le (by omega)] at hW
      obtain ⟨g6, c6, rfl, gb6, gl6⟩ := hW.own.form (by omega)
      have hlt2 : ∀ x ∈ head2 kind number k ++ l, x < 256 := fun x hx => by
        rcases List.mem_append.1 hx with hx | hx
        · exact head2_lt kind number k hk x hx
        · exact hl x hx
      have hc2 := crcOf_lt hlt2
      have hl2 : (head2 kind number k ++ l).length = 17 + k := by rw [List.length_append, hN]; rfl
      have b6 := bytes_own hW.own hlt2
      have s6 := hW.sz
      have d6 := hW.c0
      go_wp2_with fail
      refine (crc_ref g6 0 (17 + k) c6 _ _ (by omega) b6).mono ?_
      rintro e x7 ⟨rfl, rfl⟩
      rw [show crcTo (natsOf (head2 kind number k ++ l)) (17 + k) ^^^ 4294967295 = crcOf (head2 kind number k ++ l) by rw [crcOf, hl2]]
      clear b6 d6
      go_wp2_with fail
      refine (rfix_any (w.heap.size + 1) _ 0 _ (17 + k) _ _ hW (crcOf (head2 kind number k ++ l)) hc2 _ rfl (by omega)).mono ?_
      rintro e w8 ⟨rfl, v8, h8⟩
      rw [enc_append] at h8
      clear hW s6
      obtain ⟨g8, c8, rfl, gb8, gl8⟩ := h8.own.form (by omega)
      have s8 := h8.sz
      have d8 := h8.c0
      have hwb8 := hwb.below (h8.b)
      obtain ⟨z0, z1, z2, z3, z4, y0, y1, y2, y3, y4⟩ := hwb8
      go_wp2_with fail
      have hBB : Below w.heap.size w w8 := (below_new (Below.refl _ w) _).trans (h8.b.mono (by omega))
      have o8 := h8.own
      have e8 : frameOf kind number l = (head2 kind number k ++ l) ++ be4 (crcOf (head2 kind number k ++ l)) := by rw [frameOf, hN]
      rw [← e8] at o8
      clear e8 h8
      simp [bodyPost, results, Tryd.results41, go_sem, *]
      refine ⟨g8, c8, ⟨rfl, rfl⟩, ?_, bad_set hBB _ _ _ _ _⟩
      exact own_mono (by omega) (own_far (by simp; omega) (own_far (by simp; omega) (own_far (by simp; omega) (own_far (by simp; omega) (own_far (by simp; omega) o8)))))
end Go.Proofs.YtmlankbaoanaeaaDoor
