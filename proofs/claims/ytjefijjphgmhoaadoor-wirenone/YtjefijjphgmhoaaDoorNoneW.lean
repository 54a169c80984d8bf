
import Derived.Test.YtjefijjphgmhoaaDoorDocB
import Derived.Test.YtjefijjphgmhoaaDoorNilA
import Derived.Test.YtjefijjphgmhoaaDoorDocF
import Derived.Test.YtjefijjphgmhoaaDoorWrL
namespace Go.Proofs.YtjefijjphgmhoaaDoor
open Go.RowKit
set_option linter.unusedVariables false
set_option linter.unusedSimpArgs false
/-- weirboth.Is, of an Errno. -/
theorem is_errno (c e : Int) (he : (e == 0) = false) (w : World) (hg : ET w) :
    Calls Tryd.prog 25 #[.iface 44 (.int .i64 c), .int .i64 e] w fun ev w' => ev = .returned (.bool (c == e)) ∧ Below w.heap.size w w' := by
  have hgA : ET (w.alloc (.cells #[.int .i64 0] 44)) := ET_alloc hg _
  go_enter Tryd.func25, Tryd.ntmps25
  go_wp2_with fail
  refine (as_EE c ⟨w.heap.size, 0, none⟩ (.int .i64 0) _ hgA (by simp) (by simp)).mono ?_
  rintro ev w1 ⟨rfl, rfl⟩
  go_wp2
  go_ret
  exact ⟨rfl, below_new (below_new (below_new (below_new (below_new (Below.refl _ _) _) _) _) _) _⟩
/-- bytes as a text. -/
theorem to_text {w : World} {a : Option Addr} {n c : Nat} {bs : Nat → Nat} (h : BytesIn w a n bs) : ∃ s : ByteArray, s.size = n ∧ ∀ w', Below w.heap.size w w' → (convert 24 9 (.slice a n c)).run Tryd.prog w' = .ok (.string s) w' := by
  rcases h.2 with h0 | ⟨b, off, rfl, hb, hB⟩
  · subst h0
    refine ⟨ByteArray.empty, rfl, fun w' _ => ?_⟩
    rw [run_convert_bytes_string w' 24 9 5 _ 0 c Tryd.underlying24 Tryd.underlying5 Tryd.underlying9]
    cases a <;> simp [Conv.bytesToString, loadCells]
    all_goals rfl
  · refine ⟨strOfNums ((List.range n).map fun i => (bs i : Int)), by rw [strOfNums_size]; simp, fun w' hw => ?_⟩
    refine run_convert_bytes_arg w' 24 5 Tryd.underlying24 Tryd.underlying5 b off n c _ (by simp) (fun i hi => ?_) 9 Tryd.underlying9
    rw [((hB.below hw hb) i hi).1]
    simp [List.getD_eq_getElem?_getD, hi]
theorem WS.below {N : Nat} {w1 wx : World} {fr : Int} {v : Value} {n : Nat} {xs : List Value} (h : WS N w1 fr v n xs wx) {w' : World} (hb : Below wx.heap.size wx w') : WS N w1 fr v n xs w' := by
  obtain ⟨c0, c1, f0, f1, own, b, sz⟩ := h
  refine ⟨?_, ?_, ?_, ?_, ⟨own.1, ?_⟩, b.trans (hb.mono (by omega)), Nat.lt_of_lt_of_le sz hb.size⟩
  · rw [hb.cell (p := ⟨N, 0, none⟩) sz]; exact c0
  · rw [hb.cell (p := ⟨N, 1, none⟩) sz]; exact c1
  · rw [hb.frozen (p := ⟨N, 0, none⟩) sz]; exact f0
  · rw [hb.frozen (p := ⟨N, 1, none⟩) sz]; exact f1
  · rcases own.2 with h2 | ⟨g, cap, cur, e1, e2, e3, e4⟩
    · exact Or.inl h2
    · exact Or.inr ⟨g, cap, cur, e1, e2, by rw [hb.block g (Array.getElem?_eq_some_iff.1 e3).1]; exact e3, e4⟩
theorem wrap64_range (n : Int) : -9223372036854775808 ≤ wrap64 n ∧ wrap64 n ≤ 9223372036854775807 := by unfold wrap64; omega
def opV (k : Int) (x : Nat) (bits : Int) (a : Option Addr) (m c : Nat) : Value := .agg #[.int .i64 k, .int .u64 (x : Int), .int .i64 bits, .slice a m c]
set_option maxRecDepth 100000 in
set_option maxHeartbeats 4000000 in
theorem write_nil (N : Nat) (w1 : World) (w : World) (h : WS N w1 0 (.slice none 0 0) 0 [] w) (k : Int) (x : Nat) (hx : x < 18446744073709551616) (bits : Int) (a : Option Addr) (m c : Nat) (bs : Nat → Nat) (hm : m ≤ 140737488351232)
    (hin : m = 0 ∨ ∃ b off, a = some ⟨b, off, none⟩ ∧ b < N ∧ BytesAt w b off m bs) :
    Calls Tryd.prog 9 #[.pointer none, .pointer (some ⟨N, 0, none⟩), .agg #[.int .i64 k, .int .u64 (x : Int), .int .i64 bits, .slice a m c]] w fun e w' => e = .returned undef ∧ Below N w1 w' ∧ w.heap.size ≤ w'.heap.size := by
  obtain ⟨wa, hwa⟩ : ∃ wa, wa = w.alloc (.cells #[.int .i64 k, .int .u64 (x : Int), .int .i64 bits, .slice a m c] 32) := ⟨_, rfl⟩
  have hWa : WS N w1 0 (.slice none 0 0) 0 [] wa := by rw [hwa]; exact h.alloc _
  have hza : wa.heap.size = w.heap.size + 1 := by rw [hwa]; simp
  have t1 : wa.cell? ⟨w.heap.size, 1, none⟩ = some (.int .u64 (x : Int)) := by rw [hwa]; simp [go_sem]
  have t2 : wa.cell? ⟨w.heap.size, 2, none⟩ = some (.int .i64 bits) := by rw [hwa]; simp [go_sem]
  have t3 : wa.cell? ⟨w.heap.size, 3, none⟩ = some (.slice a m c) := by rw [hwa]; simp [go_sem]
  have hsN := h.sz
  have hina : m = 0 ∨ ∃ b off, a = some ⟨b, off, none⟩ ∧ b < N ∧ BytesAt wa b off m bs := by
    rcases hin with h0 | ⟨b, off, e, hb, hB⟩
    · exact Or.inl h0
    · exact Or.inr ⟨b, off, e, hb, by rw [hwa]; exact hB.below ((Below.refl _ _).alloc (Nat.le_refl _) _) (by omega)⟩
  have hin' : BytesIn wa a m bs := ⟨by omega, by
    rcases hina with h0 | ⟨b, off, e, hb, hB⟩
    · exact Or.inl h0
    · exact Or.inr ⟨b, off, e, by omega, hB⟩⟩
  by_cases hk0 : k = 0
  · subst hk0
    go_enter Tryd.func9, Tryd.ntmps9
    go_wp2_with fail
    rw [← hwa]
    refine (nilw_Byte _ wa).mono ?_
    rintro e w2 ⟨rfl, B2⟩
    have hz2 := B2.size
    have h2 := hWa.below B2
    have u1 : w2.cell? ⟨w.heap.size, 1, none⟩ = some (.int .u64 (x : Int)) := by rw [B2.cell (by simp; omega)]; exact t1
    have u2 : w2.cell? ⟨w.heap.size, 2, none⟩ = some (.int .i64 bits) := by rw [B2.cell (by simp; omega)]; exact t2
    have u3 : w2.cell? ⟨w.heap.size, 3, none⟩ = some (.slice a m c) := by rw [B2.cell (by simp; omega)]; exact t3
    have h2' : Hid _ := h2
    clear h2
    go_wp2_with fail
    refine (rbyte_fr N w1 0 _ 0 [] w2 h2'.out (x % 256) _ (by omega) (by omega)).mono ?_
    rintro e w3 ⟨rfl, v3, h3, F3⟩
    have hz3 := F3.size
    go_wp2_with fail
    first | go_end0 | (simp only [Exit.inBlock, Exit.then]; refine bodyPost_ret (results_none rfl _ _ _) rfl ?_) | refine bodyPost_ret (results_none rfl _ _ _) rfl ?_
    exact ⟨rfl, h3.b, by omega⟩
  by_cases hk1 : k = 1
  · subst hk1
    go_enter Tryd.func9, Tryd.ntmps9
    go_wp2_with fail
    rw [← hwa]
    refine (nilw_Fix32 _ wa).mono ?_
    rintro e w2 ⟨rfl, B2⟩
    have hz2 := B2.size
    have h2 := hWa.below B2
    have u1 : w2.cell? ⟨w.heap.size, 1, none⟩ = some (.int .u64 (x : Int)) := by rw [B2.cell (by simp; omega)]; exact t1
    have u2 : w2.cell? ⟨w.heap.size, 2, none⟩ = some (.int .i64 bits) := by rw [B2.cell (by simp; omega)]; exact t2
    have u3 : w2.cell? ⟨w.heap.size, 3, none⟩ = some (.slice a m c) := by rw [B2.cell (by simp; omega)]; exact t3
    have h2' : Hid _ := h2
    clear h2
    go_wp2_with fail
    refine (rfix_fr N w1 0 _ 0 [] w2 h2'.out (x % 4294967296) (by omega) _ (by omega) (by omega)).mono ?_
    rintro e w3 ⟨rfl, v3, h3, F3⟩
    have hz3 := F3.size
    go_wp2_with fail
    first | go_end0 | (simp only [Exit.inBlock, Exit.then]; refine bodyPost_ret (results_none rfl _ _ _) rfl ?_) | refine bodyPost_ret (results_none rfl _ _ _) rfl ?_
    exact ⟨rfl, h3.b, by omega⟩
  by_cases hk2 : k = 2
  · subst hk2
    go_enter Tryd.func9, Tryd.ntmps9
    go_wp2_with fail
    rw [← hwa]
    refine (nilw_Uint _ wa).mono ?_
    rintro e w2 ⟨rfl, B2⟩
    have hz2 := B2.size
    have h2 := hWa.below B2
    have u1 : w2.cell? ⟨w.heap.size, 1, none⟩ = some (.int .u64 (x : Int)) := by rw [B2.cell (by simp; omega)]; exact t1
    have u2 : w2.cell? ⟨w.heap.size, 2, none⟩ = some (.int .i64 bits) := by rw [B2.cell (by simp; omega)]; exact t2
    have u3 : w2.cell? ⟨w.heap.size, 3, none⟩ = some (.slice a m c) := by rw [B2.cell (by simp; omega)]; exact t3
    have h2' : Hid _ := h2
    clear h2
    go_wp2_with fail
    refine (ruint_fr N w1 0 _ 0 [] w2 h2'.out x hx _ rfl (by omega)).mono ?_
    rintro e w3 ⟨rfl, v3, n3, h3, b3, F3⟩
    have hz3 := F3.size
    go_wp2_with fail
    first | go_end0 | (simp only [Exit.inBlock, Exit.then]; refine bodyPost_ret (results_none rfl _ _ _) rfl ?_) | refine bodyPost_ret (results_none rfl _ _ _) rfl ?_
    exact ⟨rfl, h3.b, by omega⟩
  by_cases hk3 : k = 3
  · subst hk3
    go_enter Tryd.func9, Tryd.ntmps9
    go_wp2_with fail
    rw [← hwa]
    refine (nilw_Int _ wa).mono ?_
    rintro e w2 ⟨rfl, B2⟩
    have hz2 := B2.size
    have h2 := hWa.below B2
    have u1 : w2.cell? ⟨w.heap.size, 1, none⟩ = some (.int .u64 (x : Int)) := by rw [B2.cell (by simp; omega)]; exact t1
    have u2 : w2.cell? ⟨w.heap.size, 2, none⟩ = some (.int .i64 bits) := by rw [B2.cell (by simp; omega)]; exact t2
    have u3 : w2.cell? ⟨w.heap.size, 3, none⟩ = some (.slice a m c) := by rw [B2.cell (by simp; omega)]; exact t3
    have h2' : Hid _ := h2
    clear h2
    go_wp2_with fail
    refine (rint_fr N w1 0 _ 0 [] w2 h2'.out _ (wrap64_range _) (by omega)).mono ?_
    rintro e w3 ⟨rfl, v3, n3, h3, b3, F3⟩
    have hz3 := F3.size
    go_wp2_with fail
    first | go_end0 | (simp only [Exit.inBlock, Exit.then]; refine bodyPost_ret (results_none rfl _ _ _) rfl ?_) | refine bodyPost_ret (results_none rfl _ _ _) rfl ?_
    exact ⟨rfl, h3.b, by omega⟩
  by_cases hk4 : k = 4
  · subst hk4
    obtain ⟨s, hs, hconv⟩ := to_text (c := c) hin'
    have hc1 := hconv wa (Below.refl _ _)
    rw [hwa] at hc1
    go_enter Tryd.func9, Tryd.ntmps9
    go_wp2_with fail
    rw [← hwa]
    refine (nilw_Text _ wa).mono ?_
    rintro e w2 ⟨rfl, B2⟩
    have hz2 := B2.size
    have h2 := hWa.below B2
    have u1 : w2.cell? ⟨w.heap.size, 1, none⟩ = some (.int .u64 (x : Int)) := by rw [B2.cell (by simp; omega)]; exact t1
    have u2 : w2.cell? ⟨w.heap.size, 2, none⟩ = some (.int .i64 bits) := by rw [B2.cell (by simp; omega)]; exact t2
    have u3 : w2.cell? ⟨w.heap.size, 3, none⟩ = some (.slice a m c) := by rw [B2.cell (by simp; omega)]; exact t3
    have h2' : Hid _ := h2
    have hc2 := hconv w2 B2
    clear h2
    go_wp2_with fail
    refine (rtext_fr N w1 0 _ 0 [] w2 h2'.out s (by omega)).mono ?_
    rintro e w3 ⟨rfl, v3, n3, h3, b3, F3⟩
    have hz3 := F3.size
    go_wp2_with fail
    first | go_end0 | (simp only [Exit.inBlock, Exit.then]; refine bodyPost_ret (results_none rfl _ _ _) rfl ?_) | refine bodyPost_ret (results_none rfl _ _ _) rfl ?_
    exact ⟨rfl, h3.b, by omega⟩
  by_cases hk5 : k = 5
  · subst hk5
    go_enter Tryd.func9, Tryd.ntmps9
    go_wp2_with fail
    rw [← hwa]
    refine (nilw_Raw a m c wa).mono ?_
    rintro e w2 ⟨rfl, B2⟩
    have hz2 := B2.size
    have h2 := hWa.below B2
    have u1 : w2.cell? ⟨w.heap.size, 1, none⟩ = some (.int .u64 (x : Int)) := by rw [B2.cell (by simp; omega)]; exact t1
    have u2 : w2.cell? ⟨w.heap.size, 2, none⟩ = some (.int .i64 bits) := by rw [B2.cell (by simp; omega)]; exact t2
    have u3 : w2.cell? ⟨w.heap.size, 3, none⟩ = some (.slice a m c) := by rw [B2.cell (by simp; omega)]; exact t3
    have h2' : Hid _ := h2
    have hr2 : m = 0 ∨ ∃ b off, a = some ⟨b, off, none⟩ ∧ b < w2.heap.size ∧ b ≠ N ∧ some b ≠ (Value.slice none 0 0).ownBlock ∧ BytesAt w2 b off m bs := by
      rcases hina with h0 | ⟨b, off, e, hb, hB⟩
      · exact Or.inl h0
      · exact Or.inr ⟨b, off, e, by omega, by omega, by simp [Value.ownBlock], hB.below B2 (by omega)⟩
    clear h2
    go_wp2_with fail
    refine (rraw_fr N w1 0 _ 0 [] w2 h2'.out a m c bs hr2 (by omega)).mono ?_
    rintro e w3 ⟨rfl, v3, n3, h3, b3, F3⟩
    have hz3 := F3.size
    go_wp2_with fail
    first | go_end0 | (simp only [Exit.inBlock, Exit.then]; refine bodyPost_ret (results_none rfl _ _ _) rfl ?_) | refine bodyPost_ret (results_none rfl _ _ _) rfl ?_
    exact ⟨rfl, h3.b, by omega⟩
  by_cases hk6 : k = 6
  · subst hk6
    go_enter Tryd.func9, Tryd.ntmps9
    go_wp2_with fail
    rw [← hwa]
    refine (nilw_Bits _ _ wa).mono ?_
    rintro e w2 ⟨rfl, B2⟩
    have hz2 := B2.size
    have h2 := hWa.below B2
    have u1 : w2.cell? ⟨w.heap.size, 1, none⟩ = some (.int .u64 (x : Int)) := by rw [B2.cell (by simp; omega)]; exact t1
    have u2 : w2.cell? ⟨w.heap.size, 2, none⟩ = some (.int .i64 bits) := by rw [B2.cell (by simp; omega)]; exact t2
    have u3 : w2.cell? ⟨w.heap.size, 3, none⟩ = some (.slice a m c) := by rw [B2.cell (by simp; omega)]; exact t3
    have h2' : Hid _ := h2
    clear h2
    go_wp2_with fail
    refine (rbits_fr N w1 0 (by omega) _ [] w2 h2'.out (fun h => absurd rfl h) x hx bits (by simp)).mono ?_
    rintro e w3 ⟨rfl, v3, h3, F3⟩
    have hz3 := F3.size
    go_wp2_with fail
    first | go_end0 | (simp only [Exit.inBlock, Exit.then]; refine bodyPost_ret (results_none rfl _ _ _) rfl ?_) | refine bodyPost_ret (results_none rfl _ _ _) rfl ?_
    exact ⟨rfl, h3.b, by omega⟩
  go_enter Tryd.func9, Tryd.ntmps9
  go_wp2_with fail
  first | go_end0 | (simp only [Exit.inBlock, Exit.then]; refine bodyPost_ret (results_none rfl _ _ _) rfl ?_) | refine bodyPost_ret (results_none rfl _ _ _) rfl ?_
  rw [← hwa]
  exact ⟨rfl, hWa.b, by omega⟩
end Go.Proofs.YtjefijjphgmhoaaDoor
