
import Derived.Test.YtepgcgphnjlcoaaDoorWwEq
namespace Go.Proofs.YtepgcgphnjlcoaaDoor
open Go.RowKit
set_option linter.unusedVariables false
set_option linter.unusedSimpArgs false
theorem wrap64_range2 (n : Int) : -9223372036854775808 ≤ wrap64 n ∧ wrap64 n ≤ 9223372036854775807 := by unfold wrap64; omega
/-- what one thing that is written does. -/
def opOn (k : Int) (x : Nat) (bits : Int) (m : Nat) (bs : Nat → Nat) (s : List Nat × Nat) : List Nat × Nat :=
  if k = 0 then (s.1 ++ [x % 256], 0) else if k = 1 then (s.1 ++ be4 (x % 4294967296), 0) else if k = 2 then (s.1 ++ uB x, 0) else if k = 3 then (s.1 ++ uB (foldZ (wrap64 (x : Int))), 0)
  else if k = 4 ∨ k = 5 then (s.1 ++ (uB m ++ bytesL bs m), 0) else if k = 6 then bitsOn x (broughtN bits) s else s
theorem bitsOn_len (x : Nat) : ∀ (k : Nat) (s : List Nat × Nat), (bitsOn x k s).1.length ≤ s.1.length + k := by
  intro k
  induction k with
  | zero => intro s; exact Nat.le_refl _
  | succ k ih =>
    intro s
    have h1 := ih (bitOn (x / 2 ^ k % 2) s)
    have h2 : (bitOn (x / 2 ^ k % 2) s).1.length ≤ s.1.length + 1 := by
      unfold bitOn
      simp only
      split <;> split <;> simp
    show (bitsOn x k (bitOn (x / 2 ^ k % 2) s)).1.length ≤ _
    omega
theorem own_le {v v' : Value} {n m : Nat} (h : v'.ownBlock = v.ownBlock ∨ ∃ k, v'.ownBlock = some k ∧ n ≤ k) (hm : m ≤ n) : ∀ k, v'.ownBlock = some k → v.ownBlock = some k ∨ m ≤ k := fun k e => by
  rcases h with q | ⟨j, q, hj⟩
  · exact Or.inl (by rw [← q]; exact e)
  · rw [q] at e; injection e with e; exact Or.inr (by omega)
/-- what both leave alone. -/
structure KP (N1 N2 : Nat) (v u v' u' : Value) (w w' : World) : Prop where
  size : w.heap.size ≤ w'.heap.size
  keep : ∀ k, k < w.heap.size → k ≠ N1 → k ≠ N2 → some k ≠ v.ownBlock → some k ≠ u.ownBlock → w'.heap[k]? = w.heap[k]?
  own1 : ∀ k, v'.ownBlock = some k → v.ownBlock = some k ∨ w.heap.size ≤ k
  own2 : ∀ k, u'.ownBlock = some k → u.ownBlock = some k ∨ w.heap.size ≤ k
set_option maxRecDepth 100000 in
set_option maxHeartbeats 8000000 in
theorem write_any (w0 : World) (N1 N2 : Nat) (l : List Nat) (b : Nat) (v u : Value) (w : World) (h : TW w0 N1 N2 (((8 - b) % 8 : Nat) : Int) l v (b : Int) l u w) (hcl : CL l b) (k : Int) (x : Nat) (hx : x < 18446744073709551616) (bits : Int) (a : Option Addr) (m c : Nat) (bs : Nat → Nat)
    (hin : BytesIn w0 a m bs) (hb : l.length + m + 100 ≤ 140737488355328) :
    Calls Tryd.prog 4 #[.pointer (some ⟨N1, 0, none⟩), .pointer (some ⟨N2, 0, none⟩), .agg #[.int .i64 k, .int .u64 (x : Int), .int .i64 bits, .slice a m c]] w fun e w' => e = .returned undef ∧ ∃ v' u',
      TW w0 N1 N2 (((8 - (opOn k x bits m bs (l, b)).2) % 8 : Nat) : Int) (opOn k x bits m bs (l, b)).1 v' (((opOn k x bits m bs (l, b)).2 : Nat) : Int) (opOn k x bits m bs (l, b)).1 u' w' ∧ CL (opOn k x bits m bs (l, b)).1 (opOn k x bits m bs (l, b)).2 ∧ (opOn k x bits m bs (l, b)).1.length ≤ l.length + m + 64 ∧ KP N1 N2 v u v' u' w w' := by
  obtain ⟨wa, hwa⟩ : ∃ wa, wa = w.alloc (.cells #[.int .i64 k, .int .u64 (x : Int), .int .i64 bits, .slice a m c] 62) := ⟨_, rfl⟩
  have hT : TW w0 N1 N2 (((8 - b) % 8 : Nat) : Int) l v (b : Int) l u wa := by rw [hwa]; exact h.alloc _
  have hza : wa.heap.size = w.heap.size + 1 := by rw [hwa]; simp
  have t1 : wa.cell? ⟨w.heap.size, 1, none⟩ = some (.int .u64 (x : Int)) := by rw [hwa]; simp [go_sem]
  have t2 : wa.cell? ⟨w.heap.size, 2, none⟩ = some (.int .i64 bits) := by rw [hwa]; simp [go_sem]
  have t3 : wa.cell? ⟨w.heap.size, 3, none⟩ = some (.slice a m c) := by rw [hwa]; simp [go_sem]
  have z1 := h.r.sz
  have z2 := h.d.sz
  have nz1 : w.heap.size ≠ N1 := by omega
  have nv : some w.heap.size ≠ v.ownBlock := fun e => by have := own_lt h.r.own e.symm; omega
  have hina : BytesIn wa a m bs := hin.below hT.bb
  have hz0 := h.bb.size
  have hm := hin.1
  have hbl : m = 0 ∨ ∃ k off, a = some ⟨k, off, none⟩ ∧ k < w0.heap.size ∧ BytesAt w0 k off m bs := hin.2
  have hbsl : ∀ i, i < m → bs i < 256 := by
    rcases hbl with h0 | ⟨_, _, _, _, hB⟩
    · intro i hi; omega
    · exact fun i hi => (hB i hi).2
  have ow1 : ∀ k, k < w0.heap.size → k ≠ N1 ∧ k ≠ N2 := fun k hk => ⟨by have := h.lo1; omega, by have := h.lo2; omega⟩
  have hTH : Hid _ := hT
  have hlo1 := h.lo1
  have hlo2 := h.lo2
  have hwaH : Hid _ := hwa
  have hwk : ∀ k, k < w.heap.size → wa.heap[k]? = w.heap[k]? := fun k hk => by rw [hwa]; exact Below.heap_alloc w _ k hk
  have hwkH : Hid _ := hwk
  clear hwk
  by_cases hk0 : k = 0
  · subst hk0
    have hop : Hid (opOn 0 x bits m bs (l, b) = (l ++ [x % 256], 0)) := by show _ = _; simp [opOn]
    rw [hop.out]
    clear h hT hwa hbl
    go_enter Tryd.func4, Tryd.ntmps4
    go_wp2_with fail
    rw [← hwaH.out]
    refine (wbyte_fr N1 _ _ v l.length (enc l) wa hTH.out.r (x % 256) _ (by omega) (by omega)).mono ?_
    rintro e w2 ⟨rfl, v2, h2, F2⟩
    rw [enc_append] at h2
    have T2 := hTH.out.real h2 rfl F2
    have hz2 := F2.size
    have u1 : w2.cell? ⟨w.heap.size, 1, none⟩ = some (.int .u64 (x : Int)) := by rw [F2.cell (by omega) nz1 nv]; exact t1
    have u2 : w2.cell? ⟨w.heap.size, 2, none⟩ = some (.int .i64 bits) := by rw [F2.cell (by omega) nz1 nv]; exact t2
    have u3 : w2.cell? ⟨w.heap.size, 3, none⟩ = some (.slice a m c) := by rw [F2.cell (by omega) nz1 nv]; exact t3
    have T2H : Hid _ := T2
    have F2H : Hid _ := F2
    clear T2 h2 F2
    go_wp2_with fail
    refine (rbyte_fr N2 _ _ u l.length (enc l) w2 T2H.out.d (x % 256) _ (by omega) (by omega)).mono ?_
    rintro e w3 ⟨rfl, u2', h3, F3⟩
    rw [enc_append] at h3
    have T3 := T2H.out.doc h3 rfl F3
    have hKP : KP N1 N2 v u _ _ w w3 := ⟨by have := F3.size; omega, fun k hk n1 n2 o1 o2 => by rw [F3.keep k (by omega) n2 o2, F2H.out.keep k (by omega) n1 o1]; exact hwkH.out k hk, own_le F2H.out.own (by omega), own_le F3.own (by omega)⟩
    go_wp2_with fail
    first | go_end0 | (simp only [Exit.inBlock, Exit.then]; refine bodyPost_ret (results_none rfl _ _ _) rfl ?_) | refine bodyPost_ret (results_none rfl _ _ _) rfl ?_
    exact ⟨rfl, _, _, T3, hcl.app (by intro y hy; simp at hy; omega), by simp; omega, hKP⟩
  by_cases hk1 : k = 1
  · subst hk1
    have hop : Hid (opOn 1 x bits m bs (l, b) = (l ++ be4 (x % 4294967296), 0)) := by show _ = _; simp [opOn]
    rw [hop.out]
    clear h hT hwa hbl
    go_enter Tryd.func4, Tryd.ntmps4
    go_wp2_with fail
    rw [← hwaH.out]
    refine (wfix_fr N1 _ _ v l.length (enc l) wa hTH.out.r (x % 4294967296) (by omega) _ (by omega) (by omega)).mono ?_
    rintro e w2 ⟨rfl, v2, h2, F2⟩
    rw [enc_append] at h2
    have T2 := hTH.out.real h2 rfl F2
    have hz2 := F2.size
    have u1 : w2.cell? ⟨w.heap.size, 1, none⟩ = some (.int .u64 (x : Int)) := by rw [F2.cell (by omega) nz1 nv]; exact t1
    have u2 : w2.cell? ⟨w.heap.size, 2, none⟩ = some (.int .i64 bits) := by rw [F2.cell (by omega) nz1 nv]; exact t2
    have u3 : w2.cell? ⟨w.heap.size, 3, none⟩ = some (.slice a m c) := by rw [F2.cell (by omega) nz1 nv]; exact t3
    have T2H : Hid _ := T2
    have F2H : Hid _ := F2
    clear T2 h2 F2
    go_wp2_with fail
    refine (rfix_fr N2 _ _ u l.length (enc l) w2 T2H.out.d (x % 4294967296) (by omega) _ (by omega) (by omega)).mono ?_
    rintro e w3 ⟨rfl, u2', h3, F3⟩
    rw [enc_append] at h3
    have T3 := T2H.out.doc h3 rfl F3
    have hKP : KP N1 N2 v u _ _ w w3 := ⟨by have := F3.size; omega, fun k hk n1 n2 o1 o2 => by rw [F3.keep k (by omega) n2 o2, F2H.out.keep k (by omega) n1 o1]; exact hwkH.out k hk, own_le F2H.out.own (by omega), own_le F3.own (by omega)⟩
    go_wp2_with fail
    first | go_end0 | (simp only [Exit.inBlock, Exit.then]; refine bodyPost_ret (results_none rfl _ _ _) rfl ?_) | refine bodyPost_ret (results_none rfl _ _ _) rfl ?_
    exact ⟨rfl, _, _, T3, hcl.app (be4_lt _), by simp [be4]; omega, hKP⟩
  by_cases hk2 : k = 2
  · subst hk2
    have hop : Hid (opOn 2 x bits m bs (l, b) = (l ++ uB x, 0)) := by show _ = _; simp [opOn]
    rw [hop.out]
    clear h hT hwa hbl
    go_enter Tryd.func4, Tryd.ntmps4
    go_wp2_with fail
    rw [← hwaH.out]
    refine (wuint_fr N1 _ _ v l.length (enc l) wa hTH.out.r x hx _ rfl (by omega)).mono ?_
    rintro e w2 ⟨rfl, v2, n2, h2, b2, F2⟩
    rw [enc_append] at h2
    have T2 := hTH.out.real h2 rfl F2
    have hz2 := F2.size
    have u1 : w2.cell? ⟨w.heap.size, 1, none⟩ = some (.int .u64 (x : Int)) := by rw [F2.cell (by omega) nz1 nv]; exact t1
    have u2 : w2.cell? ⟨w.heap.size, 2, none⟩ = some (.int .i64 bits) := by rw [F2.cell (by omega) nz1 nv]; exact t2
    have u3 : w2.cell? ⟨w.heap.size, 3, none⟩ = some (.slice a m c) := by rw [F2.cell (by omega) nz1 nv]; exact t3
    have T2H : Hid _ := T2
    have F2H : Hid _ := F2
    clear T2 h2 F2
    go_wp2_with fail
    refine (ruint_fr N2 _ _ u l.length (enc l) w2 T2H.out.d x hx _ rfl (by omega)).mono ?_
    rintro e w3 ⟨rfl, u2', n3, h3, b3, F3⟩
    rw [enc_append] at h3
    have T3 := T2H.out.doc h3 rfl F3
    have hKP : KP N1 N2 v u _ _ w w3 := ⟨by have := F3.size; omega, fun k hk n1 n2 o1 o2 => by rw [F3.keep k (by omega) n2 o2, F2H.out.keep k (by omega) n1 o1]; exact hwkH.out k hk, own_le F2H.out.own (by omega), own_le F3.own (by omega)⟩
    go_wp2_with fail
    first | go_end0 | (simp only [Exit.inBlock, Exit.then]; refine bodyPost_ret (results_none rfl _ _ _) rfl ?_) | refine bodyPost_ret (results_none rfl _ _ _) rfl ?_
    exact ⟨rfl, _, _, T3, hcl.app (uB_lt x hx), by have := uBf_len 10 x; simp only [List.length_append]; unfold uB; omega, hKP⟩
  by_cases hk3 : k = 3
  · subst hk3
    have hop : Hid (opOn 3 x bits m bs (l, b) = (l ++ uB (foldZ (wrap64 (x : Int))), 0)) := by show _ = _; simp [opOn]
    rw [hop.out]
    clear h hT hwa hbl
    go_enter Tryd.func4, Tryd.ntmps4
    go_wp2_with fail
    rw [← hwaH.out]
    refine (wint_fr N1 _ _ v l.length (enc l) wa hTH.out.r _ (wrap64_range2 _) (by omega)).mono ?_
    rintro e w2 ⟨rfl, v2, n2, h2, b2, F2⟩
    rw [enc_append] at h2
    have T2 := hTH.out.real h2 rfl F2
    have hz2 := F2.size
    have u1 : w2.cell? ⟨w.heap.size, 1, none⟩ = some (.int .u64 (x : Int)) := by rw [F2.cell (by omega) nz1 nv]; exact t1
    have u2 : w2.cell? ⟨w.heap.size, 2, none⟩ = some (.int .i64 bits) := by rw [F2.cell (by omega) nz1 nv]; exact t2
    have u3 : w2.cell? ⟨w.heap.size, 3, none⟩ = some (.slice a m c) := by rw [F2.cell (by omega) nz1 nv]; exact t3
    have T2H : Hid _ := T2
    have F2H : Hid _ := F2
    clear T2 h2 F2
    go_wp2_with fail
    refine (rint_fr N2 _ _ u l.length (enc l) w2 T2H.out.d _ (wrap64_range2 _) (by omega)).mono ?_
    rintro e w3 ⟨rfl, u2', n3, h3, b3, F3⟩
    rw [enc_append] at h3
    have T3 := T2H.out.doc h3 rfl F3
    have hKP : KP N1 N2 v u _ _ w w3 := ⟨by have := F3.size; omega, fun k hk n1 n2 o1 o2 => by rw [F3.keep k (by omega) n2 o2, F2H.out.keep k (by omega) n1 o1]; exact hwkH.out k hk, own_le F2H.out.own (by omega), own_le F3.own (by omega)⟩
    go_wp2_with fail
    first | go_end0 | (simp only [Exit.inBlock, Exit.then]; refine bodyPost_ret (results_none rfl _ _ _) rfl ?_) | refine bodyPost_ret (results_none rfl _ _ _) rfl ?_
    exact ⟨rfl, _, _, T3, hcl.app (uB_lt _ (foldZ_lt _ (wrap64_range2 _))), by have := uBf_len 10 (foldZ (wrap64 (x : Int))); simp only [List.length_append]; unfold uB; omega, hKP⟩
  by_cases hk4 : k = 4
  · subst hk4
    have hop : Hid (opOn 4 x bits m bs (l, b) = (l ++ (uB m ++ bytesL bs m), 0)) := by show _ = _; simp [opOn]
    rw [hop.out]
    obtain ⟨s, hs, hsb, hconv⟩ := to_text2 (c := c) hin
    have hc1 := hconv wa hT.bb
    rw [hwa] at hc1
    have hconvH : Hid _ := hconv
    have hsbH : Hid _ := hsb
    clear hconv hsb
    clear h hT hwa hbl
    go_enter Tryd.func4, Tryd.ntmps4
    go_wp2_with fail
    rw [← hwaH.out]
    refine (wtext_fr N1 _ _ v l.length l wa hTH.out.r s (by omega)).mono ?_
    rintro e w2 ⟨rfl, v2, n2, h2, b2, F2⟩
    rw [List.append_assoc, enc_append, enc_append] at h2
    have T2 := hTH.out.real h2 rfl F2
    have hz2 := F2.size
    have u1 : w2.cell? ⟨w.heap.size, 1, none⟩ = some (.int .u64 (x : Int)) := by rw [F2.cell (by omega) nz1 nv]; exact t1
    have u2 : w2.cell? ⟨w.heap.size, 2, none⟩ = some (.int .i64 bits) := by rw [F2.cell (by omega) nz1 nv]; exact t2
    have u3 : w2.cell? ⟨w.heap.size, 3, none⟩ = some (.slice a m c) := by rw [F2.cell (by omega) nz1 nv]; exact t3
    have hc2 := hconvH.out w2 T2.bb
    have T2H : Hid _ := T2
    have F2H : Hid _ := F2
    clear T2 h2 F2
    go_wp2_with fail
    refine (rtext_fr N2 _ _ u l.length (enc l) w2 T2H.out.d s (by omega)).mono ?_
    rintro e w3 ⟨rfl, u2', n3, h3, b3, F3⟩
    rw [List.append_assoc, enc_append, enc_append] at h3
    have T3 := T2H.out.doc h3 rfl F3
    have hKP : KP N1 N2 v u _ _ w w3 := ⟨by have := F3.size; omega, fun k hk n1 n2 o1 o2 => by rw [F3.keep k (by omega) n2 o2, F2H.out.keep k (by omega) n1 o1]; exact hwkH.out k hk, own_le F2H.out.own (by omega), own_le F3.own (by omega)⟩
    go_wp2_with fail
    first | go_end0 | (simp only [Exit.inBlock, Exit.then]; refine bodyPost_ret (results_none rfl _ _ _) rfl ?_) | refine bodyPost_ret (results_none rfl _ _ _) rfl ?_
    rw [hsbH.out, hs] at T3
    exact ⟨rfl, _, _, T3, hcl.app (fun y hy => by rcases List.mem_append.1 hy with e | e; exact uB_lt m (by omega) y e; exact bytesL_lt hbsl y e), by have := uBf_len 10 m; simp only [List.length_append]; unfold uB bytesL; simp; omega, hKP⟩
  by_cases hk5 : k = 5
  · subst hk5
    have hop : Hid (opOn 5 x bits m bs (l, b) = (l ++ (uB m ++ bytesL bs m), 0)) := by show _ = _; simp [opOn]
    rw [hop.out]
    have hr1 : m = 0 ∨ ∃ b off, a = some ⟨b, off, none⟩ ∧ b < wa.heap.size ∧ b ≠ N1 ∧ some b ≠ v.ownBlock ∧ BytesAt wa b off m bs := by
      rcases hbl with h0 | ⟨k, off, e, hk, hB⟩
      · exact Or.inl h0
      · exact Or.inr ⟨k, off, e, by omega, (ow1 k hk).1, fun e => by have := (h.r.own.lt k e.symm).1; omega, hB.below hT.bb hk⟩
    have hblH : Hid _ := hbl
    clear h hT hwa hbl
    go_enter Tryd.func4, Tryd.ntmps4
    go_wp2_with fail
    rw [← hwaH.out]
    refine (wraw_fr N1 _ _ v l.length l wa hTH.out.r a m c bs hr1 (by omega)).mono ?_
    rintro e w2 ⟨rfl, v2, n2, h2, b2, F2⟩
    rw [List.append_assoc, enc_append, enc_append] at h2
    have T2 := hTH.out.real h2 rfl F2
    have hz2 := F2.size
    have u1 : w2.cell? ⟨w.heap.size, 1, none⟩ = some (.int .u64 (x : Int)) := by rw [F2.cell (by omega) nz1 nv]; exact t1
    have u2 : w2.cell? ⟨w.heap.size, 2, none⟩ = some (.int .i64 bits) := by rw [F2.cell (by omega) nz1 nv]; exact t2
    have u3 : w2.cell? ⟨w.heap.size, 3, none⟩ = some (.slice a m c) := by rw [F2.cell (by omega) nz1 nv]; exact t3
    have hr2 : m = 0 ∨ ∃ b off, a = some ⟨b, off, none⟩ ∧ b < w2.heap.size ∧ b ≠ N2 ∧ some b ≠ u.ownBlock ∧ BytesAt w2 b off m bs := by
      rcases hblH.out with h0 | ⟨k, off, e, hk, hB⟩
      · exact Or.inl h0
      · exact Or.inr ⟨k, off, e, by omega, (ow1 k hk).2, fun e => by have := (T2.d.own.lt k e.symm).1; omega, hB.below T2.bb hk⟩
    have T2H : Hid _ := T2
    have F2H : Hid _ := F2
    clear T2 h2 F2
    go_wp2_with fail
    refine (rraw_fr N2 _ _ u l.length (enc l) w2 T2H.out.d a m c bs hr2 (by omega)).mono ?_
    rintro e w3 ⟨rfl, u2', n3, h3, b3, F3⟩
    rw [List.append_assoc, enc_append, enc_append] at h3
    have T3 := T2H.out.doc h3 rfl F3
    have hKP : KP N1 N2 v u _ _ w w3 := ⟨by have := F3.size; omega, fun k hk n1 n2 o1 o2 => by rw [F3.keep k (by omega) n2 o2, F2H.out.keep k (by omega) n1 o1]; exact hwkH.out k hk, own_le F2H.out.own (by omega), own_le F3.own (by omega)⟩
    go_wp2_with fail
    first | go_end0 | (simp only [Exit.inBlock, Exit.then]; refine bodyPost_ret (results_none rfl _ _ _) rfl ?_) | refine bodyPost_ret (results_none rfl _ _ _) rfl ?_
    exact ⟨rfl, _, _, T3, hcl.app (fun y hy => by rcases List.mem_append.1 hy with e | e; exact uB_lt m (by omega) y e; exact bytesL_lt hbsl y e), by have := uBf_len 10 m; simp only [List.length_append]; unfold uB bytesL; simp; omega, hKP⟩
  by_cases hk6 : k = 6
  · subst hk6
    have hop : Hid (opOn 6 x bits m bs (l, b) = bitsOn x (broughtN bits) (l, b)) := by show _ = _; simp [opOn]
    rw [hop.out]
    clear h hT hwa hbl
    go_enter Tryd.func4, Tryd.ntmps4
    go_wp2_with fail
    rw [← hwaH.out]
    refine (wbits_fr N1 _ b v l wa hTH.out.r hcl x hx bits (by omega)).mono ?_
    rintro e w2 ⟨rfl, v2, h2, F2, cl2⟩
    have T2 := hTH.out.real h2 rfl F2
    have hz2 := F2.size
    have u1 : w2.cell? ⟨w.heap.size, 1, none⟩ = some (.int .u64 (x : Int)) := by rw [F2.cell (by omega) nz1 nv]; exact t1
    have u2 : w2.cell? ⟨w.heap.size, 2, none⟩ = some (.int .i64 bits) := by rw [F2.cell (by omega) nz1 nv]; exact t2
    have u3 : w2.cell? ⟨w.heap.size, 3, none⟩ = some (.slice a m c) := by rw [F2.cell (by omega) nz1 nv]; exact t3
    have T2H : Hid _ := T2
    have F2H : Hid _ := F2
    clear T2 h2 F2
    go_wp2_with fail
    refine (rbits_fr N2 _ b hcl.1 u l w2 T2H.out.d (fun hne => by obtain ⟨L, y, rfl, _⟩ := hcl.2.2 hne; simp) x hx bits (by omega)).mono ?_
    rintro e w3 ⟨rfl, u2', h3, F3⟩
    have T3 := T2H.out.doc h3 rfl F3
    have hKP : KP N1 N2 v u _ _ w w3 := ⟨by have := F3.size; omega, fun k hk n1 n2 o1 o2 => by rw [F3.keep k (by omega) n2 o2, F2H.out.keep k (by omega) n1 o1]; exact hwkH.out k hk, own_le F2H.out.own (by omega), own_le F3.own (by omega)⟩
    go_wp2_with fail
    first | go_end0 | (simp only [Exit.inBlock, Exit.then]; refine bodyPost_ret (results_none rfl _ _ _) rfl ?_) | refine bodyPost_ret (results_none rfl _ _ _) rfl ?_
    exact ⟨rfl, _, _, T3, cl2, by have := bitsOn_len x (broughtN bits) (l, b); have := broughtN_le bits; simp only at *; omega, hKP⟩
  have hop : Hid (opOn k x bits m bs (l, b) = (l, b)) := by show _ = _; simp [opOn, hk0, hk1, hk2, hk3, hk4, hk5, hk6]
  rw [hop.out]
  go_enter Tryd.func4, Tryd.ntmps4
  go_wp2_with fail
  first | go_end0 | (simp only [Exit.inBlock, Exit.then]; refine bodyPost_ret (results_none rfl _ _ _) rfl ?_) | refine bodyPost_ret (results_none rfl _ _ _) rfl ?_
  rw [← hwaH.out]
  exact ⟨rfl, _, _, hTH.out, hcl, Nat.le_trans (Nat.le_add_right _ m) (Nat.le_add_right _ 64), ⟨by omega, fun k hk _ _ _ _ => hwkH.out k hk, fun k e => Or.inl e, fun k e => Or.inl e⟩⟩
end Go.Proofs.YtepgcgphnjlcoaaDoor
