
import Derived.Test.YtipahdplkmmofaaGreatDoorWxB
import Derived.Test.YtipahdplkmmofaaGreatDoorWxD
import Derived.Test.YtipahdplkmmofaaGreatDoorWxE
import Derived.Maps.AppendAt
namespace Go.Proofs.YtipahdplkmmofaaGreatDoor.Wi
/-! ### a sum tells a turned byte: its steps lose nothing -/
theorem step_zero (x : Nat) (h : x < 4294967296) (e : stepN x = 0) : x = 0 := by
  unfold stepN at e
  split at e
  · have h2 : x / 2 = 3988292384 := by
      have := congrArg (· ^^^ 3988292384) e
      simpa [Nat.xor_assoc] using this
    omega
  · omega
theorem step_inj (a b : Nat) (ha : a < 4294967296) (hb : b < 4294967296) (e : stepN a = stepN b) : a = b := by
  have h1 : stepN (a ^^^ b) = 0 := by rw [step_xor, e, Nat.xor_self]
  have h2 := step_zero (a ^^^ b) (xor_lt32 a b ha hb) h1
  have h3 : a ^^^ b ^^^ b = 0 ^^^ b := by rw [h2]
  rw [Nat.xor_assoc, Nat.xor_self, Nat.xor_zero, Nat.zero_xor] at h3
  exact h3
theorem step4_inj (a b : Nat) (ha : a < 4294967296) (hb : b < 4294967296) (e : step4 a = step4 b) : a = b := by
  unfold step4 at e
  have l : ∀ x, x < 4294967296 → stepN x < 4294967296 := step_lt
  exact step_inj _ _ ha hb (step_inj _ _ (l _ ha) (l _ hb) (step_inj _ _ (l _ (l _ ha)) (l _ (l _ hb)) (step_inj _ _ (l _ (l _ (l _ ha))) (l _ (l _ (l _ hb))) e)))
theorem step8_inj (a b : Nat) (ha : a < 4294967296) (hb : b < 4294967296) (e : step8 a = step8 b) : a = b :=
  step4_inj _ _ ha hb (step4_inj _ _ (step4_lt _ ha) (step4_lt _ hb) e)
theorem xor_right_inj (a b c : Nat) (e : a ^^^ c = b ^^^ c) : a = b := by
  have h : a ^^^ c ^^^ c = b ^^^ c ^^^ c := by rw [e]
  rw [Nat.xor_assoc, Nat.xor_self, Nat.xor_zero, Nat.xor_assoc, Nat.xor_self, Nat.xor_zero] at h
  exact h
theorem xor_left_inj (a b c : Nat) (e : c ^^^ a = c ^^^ b) : a = b := xor_right_inj a b c (by rw [Nat.xor_comm a, Nat.xor_comm b]; exact e)
theorem crcTo_congr (f g : Nat → Nat) (n : Nat) (h : ∀ i, i < n → f i = g i) : crcTo f n = crcTo g n := by
  induction n with
  | zero => rfl
  | succ k ih => simp only [crcTo]; rw [ih fun i hi => h i (by omega), h k (by omega)]
/-- of bytes that differ at one place alone the sums differ. -/
theorem crcTo_turned (f g : Nat → Nat) (i n : Nat) (hi : i < n) (hf : ∀ j, j < n → f j < 256) (hg : ∀ j, j < n → g j < 256) (hd : f i ≠ g i) (he : ∀ j, j < n → j ≠ i → f j = g j) : crcTo f n ≠ crcTo g n := by
  induction n with
  | zero => omega
  | succ k ih =>
    have lf := crcTo_lt f k fun j hj => hf j (by omega)
    have lg := crcTo_lt g k fun j hj => hg j (by omega)
    have hfk := hf k (by omega)
    have hgk := hg k (by omega)
    intro e
    have e1 := step8_inj _ _ (xor_lt32 _ _ lf (by omega)) (xor_lt32 _ _ lg (by omega)) e
    rcases Nat.lt_or_ge i k with h | h
    · rw [he k (by omega) (by omega)] at e1
      exact ih h (fun j hj => hf j (by omega)) (fun j hj => hg j (by omega)) (fun j hj hne => he j (by omega) hne) (xor_right_inj _ _ _ e1)
    · obtain rfl : i = k := by omega
      rw [crcTo_congr f g i fun j hj => he j (by omega) (by omega)] at e1
      exact hd (xor_left_inj _ _ _ e1)
end Go.Proofs.YtipahdplkmmofaaGreatDoor.Wi

namespace Go.Proofs.YtipahdplkmmofaaGreatDoor.Wi
open Go.RowKit
set_option linter.unusedVariables false
set_option linter.unusedSimpArgs false
/-- bytes at a block, the table, and what was below as it was. -/
def OH (H len : Nat) (bs : Nat → Nat) (w0 wx : World) : Prop := BytesAt wx H 0 len bs ∧ ST wx ∧ Below w0.heap.size w0 wx
theorem ST_drew {w : World} (h : ST w) : ST w.drew := h
theorem unfour_oh (H len cap n : Nat) (bs : Nat → Nat) (w0 w : World) (h : OH H len bs w0 w) (hn : n + 4 ≤ len) :
    Calls Tryz.prog 59 #[.slice (some ⟨H, n, none⟩) (len - n) (cap - n)] w fun e w' => e = .returned (.int .u32 (u32At bs n : Nat)) ∧ OH H len bs w0 w' := by
  obtain ⟨hb, hs, hB⟩ := h
  have c : ∀ j, j < len → w.cell? ⟨H, j, none⟩ = some (.int .u8 (bs j : Int)) ∧ bs j < 256 := fun j hj => by have := hb j hj; rw [Nat.zero_add] at this; exact this
  refine (unfour_any H n (len - n) (cap - n) (bs n) (bs (n + 1)) (bs (n + 2)) (bs (n + 3)) w (by omega) (c n (by omega)).1 (c (n + 1) (by omega)).1 (c (n + 2) (by omega)).1 (c (n + 3) (by omega)).1 (c n (by omega)).2 (c (n + 1) (by omega)).2 (c (n + 2) (by omega)).2 (c (n + 3) (by omega)).2).mono ?_
  rintro e w' ⟨rfl, rfl⟩
  exact ⟨rfl, hb, hs, hB.drew⟩
theorem crc_oh (H len cap n : Nat) (bs : Nat → Nat) (w0 w : World) (h : OH H len bs w0 w) (hn : n ≤ len) (hm : len ≤ 9223372036854775807) :
    Calls Tryz.prog 56 #[.slice (some ⟨H, 0, none⟩) n cap] w fun e w' => e = .returned (.int .u32 (crcTo bs n ^^^ 4294967295 : Nat)) ∧ OH H len bs w0 w' := by
  obtain ⟨hb, hs, hB⟩ := h
  refine (crc_wire H 0 n cap bs w (by omega) (fun i hi => hb i (by omega)) hs).mono ?_
  rintro e w' ⟨rfl, rfl⟩
  exact ⟨rfl, hb, hs, hB⟩
def fitB (bs : Nat → Nat) (n : Nat) : Bool := ((u32At bs n : Nat) : Int) == ((crcTo bs n ^^^ 4294967295 : Nat) : Int)
set_option maxRecDepth 100000 in
theorem fits_any (H len cap n : Nat) (bs : Nat → Nat) (w0 w : World) (h : OH H len bs w0 w) (hn : n + 4 ≤ len) (hlc : len ≤ cap) (hm : len ≤ 9223372036854775807) :
    Calls Tryz.prog 96 #[.slice (some ⟨H, 0, none⟩) len cap, .int .i64 (n : Int)] w fun e w' => e = .returned (.bool (fitB bs n)) ∧ OH H len bs w0 w' := by
  have n0 : (0 : Int) ≤ (n : Int) := by omega
  have n1 : (n : Int) ≤ (len : Int) := by omega
  have n2 : (n : Int) ≤ (cap : Int) := by omega
  have n3 : (len : Int) ≤ (cap : Int) := by omega
  have hcn : ¬ cap = n := by omega
  have h' : OH H len bs w0 w.drew := ⟨h.1, h.2.1, h.2.2.drew⟩
  go_enter Tryz.func96, Tryz.ntmps96
  go_wp2_with fail
  go_region_held3 (fun w' => OH H len bs w0 w') (first | assumption)
    (first
      | (go_at_call 59; refine (unfour_oh H len cap n bs w0 _ (by assumption) hn).mono ?_; rintro e w' ⟨rfl, hO⟩)
      | (go_at_call 56; refine (crc_oh H len cap n bs w0 _ (by assumption) (by omega) (by omega)).mono ?_; rintro e w' ⟨rfl, hO⟩))
  all_goals
    go_wp2_with fail
    go_ret
    exact ⟨rfl, by assumption⟩
theorem fits_z (H len cap n : Nat) (z : Int) (hz : z = (n : Int)) (bs : Nat → Nat) (w0 w : World) (h : OH H len bs w0 w) (hn : n + 4 ≤ len) (hlc : len ≤ cap) (hm : len ≤ 9223372036854775807) :
    Calls Tryz.prog 96 #[.slice (some ⟨H, 0, none⟩) len cap, .int .i64 z] w fun e w' => e = .returned (.bool (fitB bs n)) ∧ OH H len bs w0 w' := by
  subst hz; exact fits_any H len cap n bs w0 w h hn hlc hm
theorem u32At_lt (bs : Nat → Nat) (n : Nat) (h : ∀ i, i < n + 4 → bs i < 256) : u32At bs n < 4294967296 := by
  have h0 := h n (by omega); have h1 := h (n + 1) (by omega); have h2 := h (n + 2) (by omega); have h3 := h (n + 3) (by omega)
  unfold u32At; omega
def okB (bs : Nat → Nat) (size : Nat) : Bool := fitB bs (17 + size)
/-- the error of what begins with a frame, as a number; 0 if there is none. -/
def openE (bs : Nat → Nat) (len : Nat) : Nat :=
  if len < 17 then 30 else if fitB bs 13 = false then 32 else if 67108864 < u32At bs 1 then 6 else if len < 21 + u32At bs 1 then 30 else if okB bs (u32At bs 1) = false then 32 else 0
set_option maxRecDepth 100000 in
set_option maxHeartbeats 2000000 in
theorem measure_any (H len cap : Nat) (bs : Nat → Nat) (w0 w : World) (h : OH H len bs w0 w) (hlc : len ≤ cap) (hm : len ≤ 9000000000000000000) :
    Calls Tryz.prog 58 #[.slice (some ⟨H, 0, none⟩) len cap] w fun e w' => e = .returned (.tuple #[.int .i64 (if openE bs len = 0 then ((17 + u32At bs 1 : Nat) : Int) else 0), .int .i64 (openE bs len : Nat)]) ∧ OH H len bs w0 w' := by
  have hbs : ∀ i, i < len → bs i < 256 := fun i hi => (h.1 i hi).2
  by_cases c1 : len < 17
  · have e : openE bs len = 30 := by unfold openE; rw [if_pos c1]
    rw [e, if_neg (by decide)]
    have cI : (len : Int) < 17 := by omega
    go_enter Tryz.func58, Tryz.ntmps58
    go_wp2_with fail
    go_ret2
    exact ⟨rfl, h⟩
  have cI : ¬ (len : Int) < 17 := by omega
  by_cases c2 : fitB bs 13 = false
  · have e : openE bs len = 32 := by unfold openE; rw [if_neg c1, if_pos c2]
    rw [e, if_neg (by decide)]
    go_enter Tryz.func58, Tryz.ntmps58
    go_wp2_with fail
    refine (fits_any H len cap 13 bs w0 _ h (by omega) hlc (by omega)).mono ?_
    rintro e w1 ⟨rfl, h1⟩
    rw [c2]
    go_wp2_with fail
    go_ret2
    exact ⟨rfl, h1⟩
  have c2' : fitB bs 13 = true := by simpa using c2
  have k0 : (1 : Int) ≤ (len : Int) := by omega
  have k1 : (1 : Int) ≤ (cap : Int) := by omega
  have k2 : (len : Int) ≤ (cap : Int) := by omega
  have k3 : ¬ cap = 1 := by omega
  have hz := u32At_lt bs 1 (fun i hi => hbs i (by omega))
  generalize hsz : u32At bs 1 = size at *
  by_cases c3 : 67108864 < size
  · have e : openE bs len = 6 := by unfold openE; rw [if_neg c1, if_neg c2, hsz, if_pos c3]
    rw [e, if_neg (by decide)]
    have c3I : (67108864 : Int) < (size : Int) := by omega
    go_enter Tryz.func58, Tryz.ntmps58
    go_wp2_with fail
    refine (fits_any H len cap 13 bs w0 _ h (by omega) hlc (by omega)).mono ?_
    rintro e w1 ⟨rfl, h1⟩
    rw [c2']
    go_wp2_with fail
    refine (unfour_oh H len cap 1 bs w0 _ h1 (by omega)).mono ?_
    rintro e w2 ⟨rfl, h2⟩
    rw [hsz]
    go_wp2_with fail
    go_ret2
    exact ⟨rfl, h2⟩
  have c3I : ¬ (67108864 : Int) < (size : Int) := by omega
  have ew : (size : Int) % 4294967296 = (size : Int) := by omega
  by_cases c4 : len < 21 + size
  · have e : openE bs len = 30 := by unfold openE; rw [if_neg c1, if_neg c2, hsz, if_neg c3, if_pos c4]
    rw [e, if_neg (by decide)]
    have c4I : (len : Int) < 17 + (size : Int) + 4 := by omega
    go_enter Tryz.func58, Tryz.ntmps58
    go_wp2_with fail
    refine (fits_any H len cap 13 bs w0 _ h (by omega) hlc (by omega)).mono ?_
    rintro e w1 ⟨rfl, h1⟩
    rw [c2']
    go_wp2_with fail
    refine (unfour_oh H len cap 1 bs w0 _ h1 (by omega)).mono ?_
    rintro e w2 ⟨rfl, h2⟩
    rw [hsz]
    go_wp2_with fail
    go_ret2
    exact ⟨rfl, h2⟩
  have c4I : ¬ (len : Int) < 17 + (size : Int) + 4 := by omega
  obtain ⟨q, hq⟩ : ∃ q, q = fitB bs (17 + size) := ⟨_, rfl⟩
  have hf : Hid (∀ w2, OH H len bs w0 w2 → Calls Tryz.prog 96 #[.slice (some ⟨H, 0, none⟩) len cap, .int .i64 (17 + (size : Int))] w2 fun e w' => e = .returned (.bool q) ∧ OH H len bs w0 w') := fun w2 h2 => by
    rw [hq]; exact fits_z H len cap (17 + size) _ (by omega) bs w0 _ h2 (by omega) hlc (by omega)
  have e : openE bs len = if q = false then 32 else 0 := by unfold openE; rw [if_neg c1, if_neg c2, hsz, if_neg c3, if_neg c4, hq]; rfl
  rw [e, show ((17 + size : Nat) : Int) = 17 + (size : Int) by omega]
  clear e hq
  go_enter Tryz.func58, Tryz.ntmps58
  go_wp2_with fail
  refine (fits_any H len cap 13 bs w0 _ h (by omega) hlc (by omega)).mono ?_
  rintro e w1 ⟨rfl, h1⟩
  rw [c2']
  go_wp2_with fail
  refine (unfour_oh H len cap 1 bs w0 _ h1 (by omega)).mono ?_
  rintro e w2 ⟨rfl, h2⟩
  rw [hsz]
  go_wp2_with fail
  refine (hf.out _ h2).mono ?_
  rintro e w3 ⟨rfl, h3⟩
  clear hbs h h1 h2 hz c2 c2' hsz hf
  cases q
  · go_wp2_with fail
    go_ret2
    exact ⟨rfl, h3⟩
  · go_wp2_with fail
    go_ret2
    exact ⟨rfl, h3⟩
end Go.Proofs.YtipahdplkmmofaaGreatDoor.Wi

namespace Go.Proofs.YtipahdplkmmofaaGreatDoor.Wi
/-! ### what Open finds in a frame with something behind it -/
theorem natsOf_left (a b : List Nat) (i : Nat) (h : i < a.length) : natsOf (a ++ b) i = natsOf a i := by
  simp [natsOf, List.getD_eq_getElem?_getD, List.getElem?_append_left h]
theorem natsOf_right (a b : List Nat) (i : Nat) : natsOf (a ++ b) (a.length + i) = natsOf b i := by
  simp [natsOf, List.getD_eq_getElem?_getD, List.getElem?_append_right]
theorem u32At_be4 (a b : List Nat) (v : Nat) (hv : v < 4294967296) : u32At (natsOf (a ++ (be4 v ++ b))) a.length = v := by
  have h0 : natsOf (a ++ (be4 v ++ b)) a.length = v / 16777216 % 256 := natsOf_right a _ 0
  have h1 : natsOf (a ++ (be4 v ++ b)) (a.length + 1) = v / 65536 % 256 := natsOf_right a _ 1
  have h2 : natsOf (a ++ (be4 v ++ b)) (a.length + 2) = v / 256 % 256 := natsOf_right a _ 2
  have h3 : natsOf (a ++ (be4 v ++ b)) (a.length + 3) = v % 256 := natsOf_right a _ 3
  unfold u32At
  rw [h0, h1, h2, h3]; omega
theorem crcTo_left (a b : List Nat) : crcTo (natsOf (a ++ b)) a.length ^^^ 4294967295 = crcOf a := by
  rw [crcTo_congr (natsOf (a ++ b)) (natsOf a) a.length fun i hi => natsOf_left a b i hi]; rfl
theorem fit_be4 (a b : List Nat) (ha : ∀ x ∈ a, x < 256) : fitB (natsOf (a ++ (be4 (crcOf a) ++ b))) a.length = true := by
  unfold fitB
  rw [u32At_be4 a b _ (crcOf_lt ha), crcTo_left]; simp
theorem head1_len (kind number len : Nat) : (head1 kind number len).length = 13 := rfl
theorem head2_len (kind number len : Nat) : (head2 kind number len).length = 17 := rfl
theorem frame_len (kind number : Nat) (l : List Nat) : (frameOf kind number l).length = 21 + l.length := by
  unfold frameOf; rw [List.length_append, List.length_append, head2_len]
  show 17 + l.length + 4 = _; omega
theorem frame_open (kind number : Nat) (l behind : List Nat) (hk : kind < 256) (hl : ∀ x ∈ l, x < 256) (hlen : l.length ≤ 67108864) :
    u32At (natsOf (frameOf kind number l ++ behind)) 1 = l.length ∧ openE (natsOf (frameOf kind number l ++ behind)) (21 + l.length + behind.length) = 0 := by
  have e1 : frameOf kind number l ++ behind = head1 kind number l.length ++ (be4 (crcOf (head1 kind number l.length)) ++ (l ++ be4 (crcOf (head2 kind number l.length ++ l)) ++ behind)) := by
    simp only [frameOf, head2, List.append_assoc]
  have e2 : frameOf kind number l ++ behind = (head2 kind number l.length ++ l) ++ (be4 (crcOf (head2 kind number l.length ++ l)) ++ behind) := by
    simp only [frameOf, List.append_assoc]
  have e3 : frameOf kind number l ++ behind = [kind] ++ (be4 l.length ++ (be4 (number / 4294967296) ++ be4 (number % 4294967296) ++ be4 (crcOf (head1 kind number l.length)) ++ l ++ be4 (crcOf (head2 kind number l.length ++ l)) ++ behind)) := by
    simp only [frameOf, head2, head1, List.append_assoc]
  have hs : u32At (natsOf (frameOf kind number l ++ behind)) 1 = l.length := by
    rw [e3]; exact u32At_be4 [kind] _ l.length (by omega)
  have h13 : fitB (natsOf (frameOf kind number l ++ behind)) 13 = true := by
    rw [e1]; exact fit_be4 (head1 kind number l.length) _ (head1_lt kind number l.length hk)
  have hok : okB (natsOf (frameOf kind number l ++ behind)) l.length = true := by
    unfold okB
    have hx : ∀ x ∈ head2 kind number l.length ++ l, x < 256 := fun x hx => by
      rcases List.mem_append.1 hx with hx | hx
      · exact head2_lt kind number l.length hk x hx
      · exact hl x hx
    have := fit_be4 (head2 kind number l.length ++ l) behind hx
    rw [List.length_append, head2_len] at this
    rw [e2]; exact this
  refine ⟨hs, ?_⟩
  unfold openE
  rw [if_neg (by omega), if_neg (by rw [h13]; decide), hs, if_neg (by omega), if_neg (by omega), if_neg (by rw [hok]; decide)]
/-- cut short it is told. -/
theorem frame_cut (kind number : Nat) (l : List Nat) (hk : kind < 256) (hl : ∀ x ∈ l, x < 256) (hlen : l.length ≤ 67108864) (n : Nat) (hn : n < 21 + l.length) : openE (natsOf (frameOf kind number l)) n ≠ 0 := by
  obtain ⟨hs, _⟩ := frame_open kind number l [] hk hl hlen
  rw [List.append_nil] at hs
  unfold openE
  split
  · omega
  · split
    · omega
    · rw [hs, if_neg (by omega), if_pos hn]; omega
theorem fitB_iff (f : Nat → Nat) (n : Nat) : fitB f n = true ↔ u32At f n = crcTo f n ^^^ 4294967295 := by
  unfold fitB; rw [beq_iff_eq]; omega
theorem u32At_congr (f g : Nat → Nat) (n : Nat) (h : ∀ j, n ≤ j → j < n + 4 → f j = g j) : u32At f n = u32At g n := by
  unfold u32At; rw [h n (by omega) (by omega), h (n + 1) (by omega) (by omega), h (n + 2) (by omega) (by omega), h (n + 3) (by omega) (by omega)]
theorem u32At_turned (f g : Nat → Nat) (n i : Nat) (h1 : n ≤ i) (h2 : i < n + 4) (hf : ∀ j, n ≤ j → j < n + 4 → f j < 256) (hg : ∀ j, n ≤ j → j < n + 4 → g j < 256) (hd : f i ≠ g i) (he : ∀ j, n ≤ j → j < n + 4 → j ≠ i → f j = g j) : u32At f n ≠ u32At g n := by
  have f0 := hf n (by omega) (by omega); have f1 := hf (n + 1) (by omega) (by omega); have f2 := hf (n + 2) (by omega) (by omega); have f3 := hf (n + 3) (by omega) (by omega)
  have g0 := hg n (by omega) (by omega); have g1 := hg (n + 1) (by omega) (by omega); have g2 := hg (n + 2) (by omega) (by omega); have g3 := hg (n + 3) (by omega) (by omega)
  unfold u32At
  rcases (show i = n ∨ i = n + 1 ∨ i = n + 2 ∨ i = n + 3 by omega) with rfl | rfl | rfl | rfl
  · have e1 := he (i + 1) (by omega) (by omega) (by omega); have e2 := he (i + 2) (by omega) (by omega) (by omega); have e3 := he (i + 3) (by omega) (by omega) (by omega); omega
  · have e1 := he n (by omega) (by omega) (by omega); have e2 := he (n + 2) (by omega) (by omega) (by omega); have e3 := he (n + 3) (by omega) (by omega) (by omega); omega
  · have e1 := he n (by omega) (by omega) (by omega); have e2 := he (n + 1) (by omega) (by omega) (by omega); have e3 := he (n + 3) (by omega) (by omega) (by omega); omega
  · have e1 := he n (by omega) (by omega) (by omega); have e2 := he (n + 1) (by omega) (by omega) (by omega); have e3 := he (n + 2) (by omega) (by omega) (by omega); omega
/-- a byte turned ahead of a sum, or in it: the sum does not fit. -/
theorem fit_turned (f g : Nat → Nat) (n i : Nat) (hi : i < n + 4) (hf : ∀ j, j < n + 4 → f j < 256) (hg : ∀ j, j < n + 4 → g j < 256) (hd : f i ≠ g i) (he : ∀ j, j < n + 4 → j ≠ i → f j = g j) (h : fitB f n = true) : fitB g n = false := by
  have h' := (fitB_iff f n).1 h
  cases hq : fitB g n
  · rfl
  · exfalso
    have hq' := (fitB_iff g n).1 hq
    rcases Nat.lt_or_ge i n with c | c
    · have e1 := u32At_congr f g n fun j h1 h2 => he j (by omega) (by omega)
      have e2 : crcTo f n = crcTo g n := xor_right_inj _ _ 4294967295 (by rw [← h', ← hq', e1])
      exact crcTo_turned f g i n c (fun j hj => hf j (by omega)) (fun j hj => hg j (by omega)) hd (fun j hj hne => he j (by omega) hne) e2
    · have e1 := crcTo_congr f g n fun j hj => he j (by omega) (by omega)
      exact u32At_turned f g n i c hi (fun j _ h2 => hf j h2) (fun j _ h2 => hg j h2) hd (fun j _ h2 hne => he j h2 hne) (by rw [h', hq', e1])
theorem fit_congr (f g : Nat → Nat) (n : Nat) (h : ∀ j, j < n + 4 → f j = g j) : fitB f n = fitB g n := by
  unfold fitB; rw [u32At_congr f g n fun j _ h2 => h j h2, crcTo_congr f g n fun j hj => h j (by omega)]
/-- a frame of which one byte is turned is told. -/
theorem frame_turned (kind number : Nat) (l : List Nat) (hk : kind < 256) (hl : ∀ x ∈ l, x < 256) (hlen : l.length ≤ 67108864) (g : Nat → Nat) (i : Nat) (hi : i < 21 + l.length) (hg : ∀ j, j < 21 + l.length → g j < 256)
    (hf : ∀ j, j < 21 + l.length → natsOf (frameOf kind number l) j < 256) (hd : natsOf (frameOf kind number l) i ≠ g i) (he : ∀ j, j < 21 + l.length → j ≠ i → natsOf (frameOf kind number l) j = g j) : openE g (21 + l.length) ≠ 0 := by
  obtain ⟨hs, ho⟩ := frame_open kind number l [] hk hl hlen
  rw [List.append_nil] at hs ho
  have h13 : fitB (natsOf (frameOf kind number l)) 13 = true := by
    cases hq : fitB (natsOf (frameOf kind number l)) 13
    · exfalso; unfold openE at ho; rw [if_neg (by simp; omega), if_pos hq] at ho; omega
    · rfl
  have hok : okB (natsOf (frameOf kind number l)) l.length = true := by
    cases hq : okB (natsOf (frameOf kind number l)) l.length
    · exfalso; unfold openE at ho; rw [if_neg (by simp; omega), if_neg (by rw [h13]; decide), hs, if_neg (by omega), if_neg (by simp), if_pos hq] at ho; omega
    · rfl
  unfold openE
  rcases Nat.lt_or_ge i 17 with c | c
  · have := fit_turned _ g 13 i (by omega) (fun j hj => hf j (by omega)) (fun j hj => hg j (by omega)) hd (fun j hj hne => he j (by omega) hne) h13
    rw [if_neg (by omega), if_pos this]; omega
  · have e1 := fit_congr _ g 13 fun j hj => he j (by omega) (by omega)
    have e2 : u32At g 1 = l.length := by rw [← u32At_congr _ g 1 fun j h1 h2 => he j (by omega) (by omega)]; exact hs
    have e3 : okB g l.length = false := fit_turned _ g (17 + l.length) i (by omega) (fun j hj => hf j (by omega)) (fun j hj => hg j (by omega)) hd (fun j hj hne => he j (by omega) hne) hok
    rw [if_neg (by omega), if_neg (by rw [← e1, h13]; decide), e2, if_neg (by omega), if_neg (by omega), if_pos e3]; omega
end Go.Proofs.YtipahdplkmmofaaGreatDoor.Wi

namespace Go.Proofs.YtipahdplkmmofaaGreatDoor.Wi
open Go.RowKit
set_option linter.unusedVariables false
set_option linter.unusedSimpArgs false
theorem seal_long (kind : Int) (number : Int) (a : Option Addr) (len cap : Nat) (w : World) (hl : 67108864 < len) :
    Calls Tryz.prog 17 #[.int .u8 kind, .int .u64 number, .slice a len cap] w fun e w' => e = .returned (.tuple #[.slice none 0 0, .iface 27 (.int .i64 6)]) ∧ w' = w := by
  have hI : (67108864 : Int) < (len : Int) := by omega
  go_enter Tryz.func17, Tryz.ntmps17
  go_wp2_with fail
  refine (new_any 6 rfl _).mono ?_
  rintro e w1 ⟨rfl, rfl⟩
  go_wp2_with fail
  go_ret2
  exact ⟨rfl, rfl⟩
set_option maxRecDepth 100000 in
set_option maxHeartbeats 4000000 in
theorem seal_any (kind number : Nat) (hk : kind < 256) (hn : number < 18446744073709551616) (a : Option Addr) (cap : Nat) (l : List Nat) (w : World) (hlen : l.length ≤ 67108864)
    (hb : l.length = 0 ∨ ∃ b off, a = some ⟨b, off, none⟩ ∧ b < w.heap.size ∧ BytesAt w b off l.length (natsOf l)) (hl : ∀ x ∈ l, x < 256) (hs : ST w) :
    Calls Tryz.prog 17 #[.int .u8 (kind : Int), .int .u64 (number : Int), .slice a l.length cap] w fun e w' => ∃ g cap', e = .returned (.tuple #[.slice (some ⟨g, 0, none⟩) (17 + l.length + 4) cap', .nilIface]) ∧ w'.ownsRow w.heap.size 5 1 (.slice (some ⟨g, 0, none⟩) (17 + l.length + 4) cap') (17 + l.length + 4) (enc (frameOf kind number l)) ∧ Below w.heap.size w w' := by
  obtain ⟨i, i1, i0⟩ := Option.map_eq_some_iff.1 byte_info
  have i2 : i.zero = some (.int .u8 0) := congrArg (·.1) i0
  have i3 : i.bytes = 1 := congrArg (·.2.1) i0
  have i4 : i.size = 1 := congrArg (·.2.2) i0
  have hml : maxLen = 9223372036854775807 := by decide
  have hI : ¬ (67108864 : Int) < (l.length : Int) := by omega
  have hmk := make_u8 (21 + l.length) (by omega)
  have hmc : ((21 + l.length : Nat) : Int) = 17 + (l.length : Int) + 4 := by omega
  rw [hmc] at hmk
  clear i0
  generalize hN : l.length = n at *
  go_enter Tryz.func17, Tryz.ntmps17
  have own0 : ((w.alloc (.cells (madeCells #[.int .u8 0] (21 + n)) 5)).alloc (.cells #[.int .u8 (kind : Int)] 5)).ownsRow w.heap.size 5 1 (.slice (some ⟨w.heap.size, 0, none⟩) 0 (21 + n)) 0 (enc []) :=
    (World.ownsRow_made w _ (21 + n) (Nat.le_refl _) (by omega) (made_size _)).alloc _
  have news0 : ∀ j u, (enc [kind])[j]? = some u → ((w.alloc (.cells (madeCells #[.int .u8 0] (21 + n)) 5)).alloc (.cells #[.int .u8 (kind : Int)] 5)).cell? ((⟨w.heap.size + 1, 0, none⟩ : Addr).add j) = some u := by
    have := cells_news (w.alloc (.cells (madeCells #[.int .u8 0] (21 + n)) 5)) [kind] (0, 0)
    simpa [enc] using this
  have B0 := below_new (below_new (Below.refl _ w) (.cells (madeCells #[.int .u8 0] (21 + n)) 5)) (.cells #[.int .u8 (kind : Int)] 5)
  go_wp2_with (at_builtin; refine wpList_append_lies _ (by rfl) _ _ _ (by rfl) w.heap.size 5 i (.int .u8 0) 1 1 Tryz.underlying40 i1 i2 i4 i3 rfl (by omega) _ 0 (enc []) (by rfl) own0 ⟨w.heap.size + 1, 0, none⟩ 1 1 (enc [kind]) (by rfl) (by simp [enc]) news0 (enc_one _) (by omega) (by omega) (by omega) (by simp; omega) _ rfl ?_)
  intro g1 c1 w1 p1 gr1 at1 lt1
  have o1 : w1.ownsRow w.heap.size 5 1 (.slice (some ⟨g1, 0, none⟩) 1 c1) 1 (enc [kind]) := p1
  have B1 := below_grown B0 gr1 (fun k e => by simp [Value.ownBlock] at e; omega)
  clear own0 news0 B0 p1 gr1 at1 hmk
  have x1 : (n : Int) % 4294967296 = (n : Int) := by omega
  go_wp2_with fail
  refine (four_z (n) (by omega) _ (by omega) _).mono ?_
  rintro e v2 ⟨rfl, rfl⟩
  go_wp2_with (at_builtin; refine wpList_append_lies _ (by rfl) _ _ _ (by rfl) w.heap.size 5 i (.int .u8 0) 1 1 Tryz.underlying40 i1 i2 i4 i3 rfl (by omega) _ 1 (enc ([kind])) (by rfl) (o1.alloc _) ⟨w1.heap.size, 0, none⟩ 4 4 (enc (be4 (n))) (by rfl) (by simp [enc, be4]) (cells_news w1 (be4 (n)) (0, 0)) (enc_one _) (by omega) (by omega) (by omega) (by have := B1.size; simp; omega) _ rfl ?_)
  intro g2 c2 w2 p2 gr2 at2 lt2
  have o2 : w2.ownsRow w.heap.size 5 1 (.slice (some ⟨g2, 0, none⟩) 5 c2) 5 (enc ([kind] ++ be4 (n))) := by have := p2; rw [enc_append] at this; exact this
  have B2 := below_grown (below_new B1 (.cells (enc (be4 (n))).toArray 5)) gr2 (fun k e => (o1.lt k e).1)
  clear p2 gr2 at2 o1 B1
  go_wp2_with fail
  refine (four_z (number / 4294967296) (by omega) _ (by omega) _).mono ?_
  rintro e v3 ⟨rfl, rfl⟩
  go_wp2_with (at_builtin; refine wpList_append_lies _ (by rfl) _ _ _ (by rfl) w.heap.size 5 i (.int .u8 0) 1 1 Tryz.underlying40 i1 i2 i4 i3 rfl (by omega) _ 5 (enc ([kind] ++ be4 (n))) (by rfl) (o2.alloc _) ⟨w2.heap.size, 0, none⟩ 4 4 (enc (be4 (number / 4294967296))) (by rfl) (by simp [enc, be4]) (cells_news w2 (be4 (number / 4294967296)) (0, 0)) (enc_one _) (by omega) (by omega) (by omega) (by have := B2.size; simp; omega) _ rfl ?_)
  intro g3 c3 w3 p3 gr3 at3 lt3
  have o3 : w3.ownsRow w.heap.size 5 1 (.slice (some ⟨g3, 0, none⟩) 9 c3) 9 (enc ([kind] ++ be4 (n) ++ be4 (number / 4294967296))) := by have := p3; rw [enc_append] at this; exact this
  have B3 := below_grown (below_new B2 (.cells (enc (be4 (number / 4294967296))).toArray 5)) gr3 (fun k e => (o2.lt k e).1)
  clear p3 gr3 at3 o2 B2
  go_wp2_with fail
  refine (four_z (number % 4294967296) (by omega) _ (by omega) _).mono ?_
  rintro e v4 ⟨rfl, rfl⟩
  go_wp2_with (at_builtin; refine wpList_append_lies _ (by rfl) _ _ _ (by rfl) w.heap.size 5 i (.int .u8 0) 1 1 Tryz.underlying40 i1 i2 i4 i3 rfl (by omega) _ 9 (enc ([kind] ++ be4 (n) ++ be4 (number / 4294967296))) (by rfl) (o3.alloc _) ⟨w3.heap.size, 0, none⟩ 4 4 (enc (be4 (number % 4294967296))) (by rfl) (by simp [enc, be4]) (cells_news w3 (be4 (number % 4294967296)) (0, 0)) (enc_one _) (by omega) (by omega) (by omega) (by have := B3.size; simp; omega) _ rfl ?_)
  intro g4 c4 w4 p4 gr4 at4 lt4
  have o4 : w4.ownsRow w.heap.size 5 1 (.slice (some ⟨g4, 0, none⟩) 13 c4) 13 (enc ([kind] ++ be4 (n) ++ be4 (number / 4294967296) ++ be4 (number % 4294967296))) := by have := p4; rw [enc_append] at this; exact this
  have B4 := below_grown (below_new B3 (.cells (enc (be4 (number % 4294967296))).toArray 5)) gr4 (fun k e => (o3.lt k e).1)
  clear p4 gr4 at4 o3 B3
  have o4h : w4.ownsRow w.heap.size 5 1 (.slice (some ⟨g4, 0, none⟩) 13 c4) 13 (enc (head1 kind number n)) := o4
  clear o4
  have hlt1 : ∀ x ∈ head1 kind number n, x < 256 := head1_lt kind number n hk
  have hc1 := crcOf_lt hlt1
  have hl1 : (head1 kind number n).length = 13 := rfl
  have ST4 := ST_below hs B4
  have b4 := bytes_own o4h hlt1
  go_wp2_with fail
  refine (crc_wire g4 0 13 c4 _ _ (by omega) b4 ST4).mono ?_
  rintro e v5 ⟨rfl, rfl⟩
  rw [show crcTo (natsOf (head1 kind number n)) 13 ^^^ 4294967295 = crcOf (head1 kind number n) from rfl]
  clear b4 ST4
  have o4 := o4h
  go_wp2_with fail
  refine (four_z (crcOf (head1 kind number n)) hc1 _ rfl _).mono ?_
  rintro e v5 ⟨rfl, rfl⟩
  go_wp2_with (at_builtin; refine wpList_append_lies _ (by rfl) _ _ _ (by rfl) w.heap.size 5 i (.int .u8 0) 1 1 Tryz.underlying40 i1 i2 i4 i3 rfl (by omega) _ 13 (enc (head1 kind number n)) (by rfl) (o4h.alloc _) ⟨v5.heap.size, 0, none⟩ 4 4 (enc (be4 (crcOf (head1 kind number n)))) (by rfl) (by simp [enc, be4]) (cells_news v5 (be4 (crcOf (head1 kind number n))) (0, 0)) (enc_one _) (by omega) (by omega) (by omega) (by have := B4.size; simp; omega) _ rfl ?_)
  intro g5 c5 w5 p5 gr5 at5 lt5
  have o5 : w5.ownsRow w.heap.size 5 1 (.slice (some ⟨g5, 0, none⟩) 17 c5) 17 (enc (head1 kind number n ++ be4 (crcOf (head1 kind number n)))) := by have := p5; rw [enc_append] at this; exact this
  have B5 := below_grown (below_new B4 (.cells (enc (be4 (crcOf (head1 kind number n)))).toArray 5)) gr5 (fun k e => (o4.lt k e).1)
  clear p5 gr5 at5 o4 B4
  have o5h : w5.ownsRow w.heap.size 5 1 (.slice (some ⟨g5, 0, none⟩) 17 c5) 17 (enc (head2 kind number n)) := o5
  clear o5
  have bl : n = 0 ∨ ∃ b off, a = some ⟨b, off, none⟩ ∧ BytesAt w5 b off n (natsOf l) := by
    rcases hb with h0 | ⟨b, off, rfl, hbk, hb⟩
    · exact Or.inl h0
    · exact Or.inr ⟨b, off, rfl, hb.below B5 hbk⟩
  obtain ⟨g6, c6, w6, hr6, p6, gr6⟩ := app_any w.heap.size g5 c5 17 n (head2 kind number n) l w5 a cap o5h hN bl (by omega) (by have := B5.size; omega)
  have lt6 := (p6.lt g6 rfl).2
  have o6 : w6.ownsRow w.heap.size 5 1 (.slice (some ⟨g6, 0, none⟩) (17 + n) c6) (17 + n) (enc (head2 kind number n ++ l)) := p6
  have B6 := below_grown B5 gr6 (fun k e => (o5h.lt k e).1)
  have hr6' : Hid _ := hr6
  clear p6 gr6 bl hr6 hb
  go_wp2_with (at_builtin; refine wpList_append_run (by rfl) _ _ _ (by rfl) _ _ _ _ (by rfl) (by rfl) hr6'.out ?_)
  clear hr6' o5h B5
  have hlt2 : ∀ x ∈ head2 kind number n ++ l, x < 256 := fun x hx => by
    rcases List.mem_append.1 hx with hx | hx
    · exact head2_lt kind number n hk x hx
    · exact hl x hx
  have hc2 := crcOf_lt hlt2
  have hl2 : (head2 kind number n ++ l).length = 17 + n := by rw [List.length_append, hN]; rfl
  have ST6 := ST_below hs B6
  have b6 := bytes_own o6 hlt2
  go_wp2_with fail
  refine (crc_wire g6 0 (17 + n) c6 _ _ (by omega) b6 ST6).mono ?_
  rintro e v7 ⟨rfl, rfl⟩
  rw [show crcTo (natsOf (head2 kind number n ++ l)) (17 + n) ^^^ 4294967295 = crcOf (head2 kind number n ++ l) by rw [crcOf, hl2]]
  clear b6 ST6
  go_wp2_with fail
  refine (four_z (crcOf (head2 kind number n ++ l)) hc2 _ rfl _).mono ?_
  rintro e v7 ⟨rfl, rfl⟩
  go_wp2_with (at_builtin; refine wpList_append_lies _ (by rfl) _ _ _ (by rfl) w.heap.size 5 i (.int .u8 0) 1 1 Tryz.underlying40 i1 i2 i4 i3 rfl (by omega) _ (17 + n) (enc (head2 kind number n ++ l)) (by rfl) (o6.alloc _) ⟨v7.heap.size, 0, none⟩ 4 4 (enc (be4 (crcOf (head2 kind number n ++ l)))) (by rfl) (by simp [enc, be4]) (cells_news v7 (be4 (crcOf (head2 kind number n ++ l))) (0, 0)) (enc_one _) (by omega) (by omega) (by omega) (by have := B6.size; simp; omega) _ rfl ?_)
  intro g7 c7 w7 p7 gr7 at7 lt7
  have o7 : w7.ownsRow w.heap.size 5 1 (.slice (some ⟨g7, 0, none⟩) (17 + n + 4) c7) (17 + n + 4) (enc (head2 kind number n ++ l ++ be4 (crcOf (head2 kind number n ++ l)))) := by have := p7; rw [enc_append] at this; exact this
  have B7 := below_grown (below_new B6 (.cells (enc (be4 (crcOf (head2 kind number n ++ l)))).toArray 5)) gr7 (fun k e => (o6.lt k e).1)
  clear p7 gr7 at7 o6 B6
  go_wp2_with fail
  go_ret2
  refine ⟨g7, c7, rfl, ?_, B7⟩
  have e7 : frameOf kind number l = (head2 kind number n ++ l) ++ be4 (crcOf (head2 kind number n ++ l)) := by rw [frameOf, hN]
  rw [e7]; exact o7
end Go.Proofs.YtipahdplkmmofaaGreatDoor.Wi

namespace Go.Proofs.YtipahdplkmmofaaGreatDoor.Wi
open Go.RowKit
set_option linter.unusedVariables false
set_option linter.unusedSimpArgs false
set_option maxRecDepth 100000 in
theorem clone_all (g off m c : Nat) (news : List Value) (w : World) (hl : news.length = m) (hnews : ∀ j u, news[j]? = some u → w.cell? ((⟨g, off, none⟩ : Addr).add j) = some u) (h1 : ∀ u ∈ news, u.oneCell' = true) (hb : m ≤ 140737488355328) :
    Calls Tryz.prog 57 #[.slice (some ⟨g, off, none⟩) m c] w fun e w' => ∃ g' cap', e = .returned (.slice (some ⟨g', 0, none⟩) m cap') ∧ w'.ownsRow w.heap.size 5 1 (.slice (some ⟨g', 0, none⟩) m cap') m news ∧ Below w.heap.size w w' := by
  obtain ⟨i, i1, i0⟩ := Option.map_eq_some_iff.1 byte_info
  have i2 : i.zero = some (.int .u8 0) := congrArg (·.1) i0
  have i3 : i.bytes = 1 := congrArg (·.2.1) i0
  have i4 : i.size = 1 := congrArg (·.2.2) i0
  have hml : maxLen = 9223372036854775807 := by decide
  have hown : (w.alloc (.cells #[] 5)).ownsRow w.heap.size 5 1 (.slice (some ⟨w.heap.size, 0, none⟩) 0 0) 0 [] := World.ownsRow_lit w #[] 0 (Nat.le_refl _) (by omega) (by simp)
  have hnews' : ∀ j u, news[j]? = some u → (w.alloc (.cells #[] 5)).cell? ((⟨g, off, none⟩ : Addr).add j) = some u := fun j u hj => by
    have h0 := hnews j u hj
    rw [World.cell?_alloc_lt _ _ _ (World.block_lt_of_cell? w _ h0)]; exact h0
  have hnil : ∀ w0 : World, (binOp .eql 40 (.slice (some ⟨g, off, none⟩) m c) (.slice none 0 0)).run Tryz.prog w0 = .ok (.bool false) w0 := fun w0 => Go.Lib.run_eql_slice_nil w0 40 5 (some ⟨g, off, none⟩) m c 0 0 Tryz.underlying40
  clear i0 hnews
  go_enter Tryz.func57, Tryz.ntmps57
  go_wp2_with (at_builtin; refine wpList_append_own_at _ (by rfl) _ _ _ (by rfl) w.heap.size 5 i (.int .u8 0) 1 1 Tryz.underlying40 i1 i2 i4 i3 rfl (by omega) _ 0 [] (by rfl) hown ⟨g, off, none⟩ m c news (by rfl) (by rw [hl, Nat.mul_one]) hnews' h1 (by omega) (by omega) (by simp) ?_)
  intro v' w2 ho' hgrow hn' hat
  have ho : w2.ownsRow w.heap.size 5 1 v' m news := ho'
  have hB := below_grown (below_new (Below.refl _ w) (.cells #[] 5)) hgrow (fun k e => by simp [Value.ownBlock] at e; omega)
  obtain ⟨g', cap', rfl⟩ : ∃ g' cap', v' = .slice (some ⟨g', 0, none⟩) m cap' := by
    rcases ho.2 with ⟨h0, _⟩ | ⟨g', cap', cur, h0, _⟩
    · exact absurd h0 hn'
    · exact ⟨g', cap', h0⟩
  clear hown hnews' hgrow hat h1 hn' ho'
  go_wp2_with fail
  go_ret
  exact ⟨g', cap', rfl, ho, hB⟩
theorem open_bad (H len cap : Nat) (bs : Nat → Nat) (w0 w : World) (h : OH H len bs w0 w) (hlc : len ≤ cap) (hm : len ≤ 9000000000000000000) (he : openE bs len ≠ 0) :
    Calls Tryz.prog 20 #[.slice (some ⟨H, 0, none⟩) len cap] w fun e w' => e = .returned (.tuple #[.int .u8 0, .int .u64 0, .slice none 0 0, .int .i64 0, .iface 27 (.int .i64 (openE bs len : Nat))]) ∧ OH H len bs w0 w' := by
  have hme := measure_any H len cap bs w0 w h hlc hm
  rw [if_neg he] at hme
  generalize openE bs len = c at *
  have hc : ((c : Int) == 0) = false := by rw [beq_eq_false_iff_ne]; omega
  have hc1 : ¬ (c : Int) = 0 := by omega
  have hc2 : ¬ c = 0 := he
  have hme' : Hid _ := hme
  clear hme
  go_enter Tryz.func20, Tryz.ntmps20
  go_wp2_with fail
  refine Calls.mono hme'.out ?_
  rintro e w1 ⟨rfl, h1⟩
  go_wp2_with fail
  refine (new_any (c : Int) hc _).mono ?_
  rintro e w2 ⟨rfl, rfl⟩
  go_wp2_with fail
  simp [bodyPost, results, Tryz.results20, go_sem]
  exact h1
theorem bytes_sub {w : World} {H len n m : Nat} {bs : Nat → Nat} (h : BytesAt w H 0 len bs) (hn : n + m ≤ len) : ∀ j u, (enc ((List.range m).map fun i => bs (n + i)))[j]? = some u → w.cell? ((⟨H, n, none⟩ : Addr).add j) = some u := by
  intro j u hj
  have hj' : j < m := by
    rcases Nat.lt_or_ge j m with h' | h'
    · exact h'
    · rw [List.getElem?_eq_none (by rw [enc_len]; simp; exact h')] at hj; cases hj
  have h0 := (h (n + j) (by omega)).1
  have e : (⟨H, n, none⟩ : Addr).add j = ⟨H, n + j, none⟩ := by unfold Addr.add; split <;> simp_all
  rw [e, ← Nat.zero_add (n + j), h0]
  simp [enc, hj'] at hj
  rw [← hj]
theorem clone_oh (H len cap n size : Nat) (bs : Nat → Nat) (w0 w : World) (h : OH H len bs w0 w) (hH : H < w0.heap.size) (hn : n + size ≤ len) (hsz : size ≤ 140737488355328) :
    Calls Tryz.prog 57 #[.slice (some ⟨H, n, none⟩) size cap] w fun e w' => ∃ g' cap', e = .returned (.slice (some ⟨g', 0, none⟩) size cap') ∧ BytesAt w' g' 0 size (fun i => bs (n + i)) ∧ g' < w'.heap.size ∧ OH H len bs w0 w' := by
  obtain ⟨hb, hs, hB⟩ := h
  have hl256 : ∀ x ∈ ((List.range size).map fun i => bs (n + i)), x < 256 := fun x hx => by
    simp at hx; obtain ⟨j, hj, rfl⟩ := hx; exact (hb (n + j) (by omega)).2
  refine (clone_all H n size cap (enc ((List.range size).map fun i => bs (n + i))) w (by simp [enc]) (bytes_sub hb hn) (enc_one _) hsz).mono ?_
  rintro e w' ⟨g', cap', rfl, ho, hB'⟩
  refine ⟨g', cap', rfl, ?_, (ho.lt g' rfl).2, hb.below hB' (Nat.lt_of_lt_of_le hH hB.size), ST_below hs hB', hB.trans (hB'.mono hB.size)⟩
  have := bytes_own ho hl256
  intro i hi
  have h2 := this i hi
  rw [show natsOf ((List.range size).map fun i => bs (n + i)) i = bs (n + i) by simp [natsOf, List.getD_eq_getElem?_getD, hi]] at h2
  exact h2
theorem or32 (a b : Nat) (ha : a < 4294967296) (hb : b < 4294967296) : bits .or .u64 ((a : Int) * 4294967296) (b : Int) = (a : Int) * 4294967296 + (b : Int) := by
  have h1 := u64_or_nat (a * 4294967296) b (by omega) (by omega)
  have h2 := Nat.two_pow_add_eq_or_of_lt (i := 32) hb a
  rw [Nat.mul_comm] at h2
  rw [← h2] at h1
  rw [show ((a * 4294967296 : Nat) : Int) = (a : Int) * 4294967296 by omega] at h1
  rw [h1]; omega
theorem OH.cell0 {H len : Nat} {bs : Nat → Nat} {w0 wx : World} (h : OH H len bs w0 wx) (hl : 0 < len) : wx.cell? ⟨H, 0, none⟩ = some (.int .u8 (bs 0 : Int)) := (h.1 0 hl).1
set_option maxRecDepth 100000 in
set_option maxHeartbeats 4000000 in
theorem open_ok (H len cap : Nat) (bs : Nat → Nat) (w0 w : World) (h : OH H len bs w0 w) (hH : H < w0.heap.size) (hlc : len ≤ cap) (hm : len ≤ 9000000000000000000) (he : openE bs len = 0) (h17 : 21 + u32At bs 1 ≤ len) :
    Calls Tryz.prog 20 #[.slice (some ⟨H, 0, none⟩) len cap] w fun e w' => ∃ g cap', e = .returned (.tuple #[.int .u8 (bs 0 : Int), .int .u64 ((u32At bs 5 : Int) * 4294967296 + (u32At bs 9 : Int)), .slice (some ⟨g, 0, none⟩) (u32At bs 1) cap', .int .i64 (17 + (u32At bs 1 : Int) + 4), .nilIface]) ∧ BytesAt w' g 0 (u32At bs 1) (fun i => bs (17 + i)) ∧ g < w'.heap.size ∧ OH H len bs w0 w' := by
  have hme := measure_any H len cap bs w0 w h hlc hm
  rw [he, if_pos rfl] at hme
  have hbs : ∀ i, i < len → bs i < 256 := fun i hi => (h.1 i hi).2
  have z5 := u32At_lt bs 5 (fun i hi => hbs i (by omega))
  have z9 := u32At_lt bs 9 (fun i hi => hbs i (by omega))
  have eo := or32 _ _ z5 z9
  have z1 := u32At_lt bs 1 (fun i hi => hbs i (by omega))
  generalize hsz : u32At bs 1 = size at *
  rw [show ((17 + size : Nat) : Int) = 17 + (size : Int) by omega] at hme
  have hme' : Hid _ := hme
  clear hme he hsz
  have q1 : (5 : Int) ≤ (len : Int) := by omega
  have q2 : (9 : Int) ≤ (len : Int) := by omega
  have q3 : (5 : Int) ≤ (cap : Int) := by omega
  have q4 : (9 : Int) ≤ (cap : Int) := by omega
  have q5 : (len : Int) ≤ (cap : Int) := by omega
  have q6 : ¬ cap = 5 := by omega
  have q7 : ¬ cap = 9 := by omega
  have q8 : ¬ cap = 17 := by omega
  have q9 : (17 : Int) ≤ 17 + (size : Int) := by omega
  have q10 : 17 + (size : Int) ≤ (cap : Int) := by omega
  have q11 : (0 : Int) < (len : Int) := by omega
  have q12 : 0 < len := by omega
  have q13 : (17 + (size : Int)).toNat - 17 = size := by omega
  go_enter Tryz.func20, Tryz.ntmps20
  go_wp2_with fail
  refine Calls.mono hme'.out ?_
  rintro e w1 ⟨rfl, h1⟩
  have h1d : OH H len bs w0 w1.drew := ⟨h1.1, h1.2.1, h1.2.2.drew⟩
  clear h hbs hme'
  go_wp2_with fail
  go_region_held3 (fun w' => OH H len bs w0 w') (first | assumption)
    (first | (go_at_call 59; refine (unfour_oh H len cap _ bs w0 _ (by assumption) (by omega)).mono ?_; rintro e w' ⟨rfl, hO⟩))
  all_goals
    have hS0 : OH H len bs w0 w'.drew ∧ w'.drew.cell? ⟨H, 0, none⟩ = some (.int .u8 (bs 0 : Int)) := ⟨⟨hO.1, hO.2.1, hO.2.2.drew⟩, hO.cell0 q12⟩
    go_wp2_with fail
    go_region_held3 (fun w' => OH H len bs w0 w' ∧ w'.cell? ⟨H, 0, none⟩ = some (.int .u8 (bs 0 : Int))) (first | assumption)
      (first | (go_at_call 57; refine (clone_oh H len (cap - 17) 17 size bs w0 _ (And.left (by assumption)) hH (by omega) (by omega)).mono ?_; rintro e w2 ⟨g2, c2, rfl, hg2, hl2, hO2⟩; have hS2 : OH H len bs w0 w2 ∧ w2.cell? ⟨H, 0, none⟩ = some (.int .u8 (bs 0 : Int)) := ⟨hO2, hO2.cell0 q12⟩))
    go_wp2_with fail
    simp [bodyPost, results, Tryz.results20, go_sem]
    refine ⟨g2, ⟨?_, rfl, by rw [IntKind.wrap_i64]; omega⟩, hg2, hl2, hO2⟩
    rw [show IntKind.u64.wrap ((u32At bs 5 : Nat) : Int) = ((u32At bs 5 : Nat) : Int) by rw [IntKind.wrap_u64]; omega, show IntKind.u64.wrap (((u32At bs 5 : Nat) : Int) * 4294967296) = ((u32At bs 5 : Nat) : Int) * 4294967296 by rw [IntKind.wrap_u64]; omega, show IntKind.u64.wrap ((u32At bs 9 : Nat) : Int) = ((u32At bs 9 : Nat) : Int) by rw [IntKind.wrap_u64]; omega]
    exact eo
end Go.Proofs.YtipahdplkmmofaaGreatDoor.Wi
