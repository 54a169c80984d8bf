
import Derived.Test.YtepgcgphnjlcoaaDoorCrcDq
import Derived.Test.YtepgcgphnjlcoaaDoorOpenBq
namespace Go.Proofs.YtepgcgphnjlcoaaDoor
/-! ### what Open finds in a frame with something behind it -/
theorem natsOf_left (a b : List Nat) (i : Nat) (h : i < a.length) : natsOf (a ++ b) i = natsOf a i := by
  simp [natsOf, List.getD_eq_getElem?_getD, List.getElem?_append_left h]
theorem natsOf_right (a b : List Nat) (i : Nat) : natsOf (a ++ b) (a.length + i) = natsOf b i := by
  simp [natsOf, List.getD_eq_getElem?_getD, List.getElem?_append_right]
theorem u32At_be4 (a b : List Nat) (v : Nat) (hv : v < 4294967296) : u32At (natsOf (a ++ (be4 v ++ b))) a.length = v := by
  have h0 : natsOf (a ++ (be4 v ++ b)) a.length = v / 16777216 % 256 := natsOf_right a _ 0
  have h1 : natsOf (a ++ (be4 v ++ b)) (a.length + 1) = v / 65536 % 256 := natsOf_right a _ 1
  have h2 : natsOf (a ++ (be4 v ++ b)) (a.length + 2) = v / 256 % 256 := natsOf_right a _ 2
  have h3 : natsOf (a ++ (be4 v ++ b)) (a.length + 3) = v % 256 := natsOf_right a _ 3
  unfold u32At
  rw [h0, h1, h2, h3]; omega
theorem crcTo_left (a b : List Nat) : crcTo (natsOf (a ++ b)) a.length ^^^ 4294967295 = crcOf a := by
  rw [crcTo_congr (natsOf (a ++ b)) (natsOf a) a.length fun i hi => natsOf_left a b i hi]; rfl
theorem fit_be4 (a b : List Nat) (ha : ∀ x ∈ a, x < 256) : fitB (natsOf (a ++ (be4 (crcOf a) ++ b))) a.length = true := by
  unfold fitB
  rw [u32At_be4 a b _ (crcOf_lt ha), crcTo_left]; simp
theorem head1_len (kind number len : Nat) : (head1 kind number len).length = 13 := rfl
theorem head2_len (kind number len : Nat) : (head2 kind number len).length = 17 := rfl
theorem frame_len (kind number : Nat) (l : List Nat) : (frameOf kind number l).length = 21 + l.length := by
  unfold frameOf; rw [List.length_append, List.length_append, head2_len]
  show 17 + l.length + 4 = _; omega
theorem frame_open (kind number : Nat) (l behind : List Nat) (hk : kind < 256) (hl : ∀ x ∈ l, x < 256) (hlen : l.length ≤ 67108864) :
    u32At (natsOf (frameOf kind number l ++ behind)) 1 = l.length ∧ openE (natsOf (frameOf kind number l ++ behind)) (21 + l.length + behind.length) = 0 := by
  have e1 : frameOf kind number l ++ behind = head1 kind number l.length ++ (be4 (crcOf (head1 kind number l.length)) ++ (l ++ be4 (crcOf (head2 kind number l.length ++ l)) ++ behind)) := by
    simp only [frameOf, head2, List.append_assoc]
  have e2 : frameOf kind number l ++ behind = (head2 kind number l.length ++ l) ++ (be4 (crcOf (head2 kind number l.length ++ l)) ++ behind) := by
    simp only [frameOf, List.append_assoc]
  have e3 : frameOf kind number l ++ behind = [kind] ++ (be4 l.length ++ (be4 (number / 4294967296) ++ be4 (number % 4294967296) ++ be4 (crcOf (head1 kind number l.length)) ++ l ++ be4 (crcOf (head2 kind number l.length ++ l)) ++ behind)) := by
    simp only [frameOf, head2, head1, List.append_assoc]
  have hs : u32At (natsOf (frameOf kind number l ++ behind)) 1 = l.length := by
    rw [e3]; exact u32At_be4 [kind] _ l.length (by omega)
  have h13 : fitB (natsOf (frameOf kind number l ++ behind)) 13 = true := by
    rw [e1]; exact fit_be4 (head1 kind number l.length) _ (head1_lt kind number l.length hk)
  have hok : okB (natsOf (frameOf kind number l ++ behind)) l.length = true := by
    unfold okB
    have hx : ∀ x ∈ head2 kind number l.length ++ l, x < 256 := fun x hx => by
      rcases List.mem_append.1 hx with hx | hx
      · exact head2_lt kind number l.length hk x hx
      · exact hl x hx
    have := fit_be4 (head2 kind number l.length ++ l) behind hx
    rw [List.length_append, head2_len] at this
    rw [e2]; exact this
  refine ⟨hs, ?_⟩
  unfold openE
  rw [if_neg (by omega), if_neg (by rw [h13]; decide), hs, if_neg (by omega), if_neg (by omega), if_neg (by rw [hok]; decide)]
/-- cut short it is told. -/
theorem frame_cut (kind number : Nat) (l : List Nat) (hk : kind < 256) (hl : ∀ x ∈ l, x < 256) (hlen : l.length ≤ 67108864) (n : Nat) (hn : n < 21 + l.length) : openE (natsOf (frameOf kind number l)) n ≠ 0 := by
  obtain ⟨hs, _⟩ := frame_open kind number l [] hk hl hlen
  rw [List.append_nil] at hs
  unfold openE
  split
  · omega
  · split
    · omega
    · rw [hs, if_neg (by omega), if_pos hn]; omega
theorem fitB_iff (f : Nat → Nat) (n : Nat) : fitB f n = true ↔ u32At f n = crcTo f n ^^^ 4294967295 := by
  unfold fitB; rw [beq_iff_eq]; omega
theorem u32At_congr (f g : Nat → Nat) (n : Nat) (h : ∀ j, n ≤ j → j < n + 4 → f j = g j) : u32At f n = u32At g n := by
  unfold u32At; rw [h n (by omega) (by omega), h (n + 1) (by omega) (by omega), h (n + 2) (by omega) (by omega), h (n + 3) (by omega) (by omega)]
theorem u32At_turned (f g : Nat → Nat) (n i : Nat) (h1 : n ≤ i) (h2 : i < n + 4) (hf : ∀ j, n ≤ j → j < n + 4 → f j < 256) (hg : ∀ j, n ≤ j → j < n + 4 → g j < 256) (hd : f i ≠ g i) (he : ∀ j, n ≤ j → j < n + 4 → j ≠ i → f j = g j) : u32At f n ≠ u32At g n := by
  have f0 := hf n (by omega) (by omega); have f1 := hf (n + 1) (by omega) (by omega); have f2 := hf (n + 2) (by omega) (by omega); have f3 := hf (n + 3) (by omega) (by omega)
  have g0 := hg n (by omega) (by omega); have g1 := hg (n + 1) (by omega) (by omega); have g2 := hg (n + 2) (by omega) (by omega); have g3 := hg (n + 3) (by omega) (by omega)
  unfold u32At
  rcases (show i = n ∨ i = n + 1 ∨ i = n + 2 ∨ i = n + 3 by omega) with rfl | rfl | rfl | rfl
  · have e1 := he (i + 1) (by omega) (by omega) (by omega); have e2 := he (i + 2) (by omega) (by omega) (by omega); have e3 := he (i + 3) (by omega) (by omega) (by omega); omega
  · have e1 := he n (by omega) (by omega) (by omega); have e2 := he (n + 2) (by omega) (by omega) (by omega); have e3 := he (n + 3) (by omega) (by omega) (by omega); omega
  · have e1 := he n (by omega) (by omega) (by omega); have e2 := he (n + 1) (by omega) (by omega) (by omega); have e3 := he (n + 3) (by omega) (by omega) (by omega); omega
  · have e1 := he n (by omega) (by omega) (by omega); have e2 := he (n + 1) (by omega) (by omega) (by omega); have e3 := he (n + 2) (by omega) (by omega) (by omega); omega
/-- a byte turned ahead of a sum, or in it: the sum does not fit. -/
theorem fit_turned (f g : Nat → Nat) (n i : Nat) (hi : i < n + 4) (hf : ∀ j, j < n + 4 → f j < 256) (hg : ∀ j, j < n + 4 → g j < 256) (hd : f i ≠ g i) (he : ∀ j, j < n + 4 → j ≠ i → f j = g j) (h : fitB f n = true) : fitB g n = false := by
  have h' := (fitB_iff f n).1 h
  cases hq : fitB g n
  · rfl
  · exfalso
    have hq' := (fitB_iff g n).1 hq
    rcases Nat.lt_or_ge i n with c | c
    · have e1 := u32At_congr f g n fun j h1 h2 => he j (by omega) (by omega)
      have e2 : crcTo f n = crcTo g n := xor_right_inj _ _ 4294967295 (by rw [← h', ← hq', e1])
      exact crcTo_turned f g i n c (fun j hj => hf j (by omega)) (fun j hj => hg j (by omega)) hd (fun j hj hne => he j (by omega) hne) e2
    · have e1 := crcTo_congr f g n fun j hj => he j (by omega) (by omega)
      exact u32At_turned f g n i c hi (fun j _ h2 => hf j h2) (fun j _ h2 => hg j h2) hd (fun j _ h2 hne => he j h2 hne) (by rw [h', hq', e1])
theorem fit_congr (f g : Nat → Nat) (n : Nat) (h : ∀ j, j < n + 4 → f j = g j) : fitB f n = fitB g n := by
  unfold fitB; rw [u32At_congr f g n fun j _ h2 => h j h2, crcTo_congr f g n fun j hj => h j (by omega)]
/-- a frame of which one byte is turned is told. -/
theorem frame_turned (kind number : Nat) (l : List Nat) (hk : kind < 256) (hl : ∀ x ∈ l, x < 256) (hlen : l.length ≤ 67108864) (g : Nat → Nat) (i : Nat) (hi : i < 21 + l.length) (hg : ∀ j, j < 21 + l.length → g j < 256)
    (hf : ∀ j, j < 21 + l.length → natsOf (frameOf kind number l) j < 256) (hd : natsOf (frameOf kind number l) i ≠ g i) (he : ∀ j, j < 21 + l.length → j ≠ i → natsOf (frameOf kind number l) j = g j) : openE g (21 + l.length) ≠ 0 := by
  obtain ⟨hs, ho⟩ := frame_open kind number l [] hk hl hlen
  rw [List.append_nil] at hs ho
  have h13 : fitB (natsOf (frameOf kind number l)) 13 = true := by
    cases hq : fitB (natsOf (frameOf kind number l)) 13
    · exfalso; unfold openE at ho; rw [if_neg (by simp; omega), if_pos hq] at ho; omega
    · rfl
  have hok : okB (natsOf (frameOf kind number l)) l.length = true := by
    cases hq : okB (natsOf (frameOf kind number l)) l.length
    · exfalso; unfold openE at ho; rw [if_neg (by simp; omega), if_neg (by rw [h13]; decide), hs, if_neg (by omega), if_neg (by simp), if_pos hq] at ho; omega
    · rfl
  unfold openE
  rcases Nat.lt_or_ge i 17 with c | c
  · have := fit_turned _ g 13 i (by omega) (fun j hj => hf j (by omega)) (fun j hj => hg j (by omega)) hd (fun j hj hne => he j (by omega) hne) h13
    rw [if_neg (by omega), if_pos this]; omega
  · have e1 := fit_congr _ g 13 fun j hj => he j (by omega) (by omega)
    have e2 : u32At g 1 = l.length := by rw [← u32At_congr _ g 1 fun j h1 h2 => he j (by omega) (by omega)]; exact hs
    have e3 : okB g l.length = false := fit_turned _ g (17 + l.length) i (by omega) (fun j hj => hf j (by omega)) (fun j hj => hg j (by omega)) hd (fun j hj hne => he j (by omega) hne) hok
    rw [if_neg (by omega), if_neg (by rw [← e1, h13]; decide), e2, if_neg (by omega), if_neg (by omega), if_pos e3]; omega
end Go.Proofs.YtepgcgphnjlcoaaDoor
