
import Derived.Test.YtepgcgphnjlcoaaDoorOpenAq
namespace Go.Proofs.YtepgcgphnjlcoaaDoor
open Go.RowKit
set_option linter.unusedVariables false
set_option linter.unusedSimpArgs false
/-- bytes at a block, the table, and what was below as it was. -/
def OH (H len : Nat) (bs : Nat → Nat) (w0 wx : World) : Prop := BytesAt wx H 0 len bs ∧ ST wx ∧ Below w0.heap.size w0 wx
theorem ST_drew {w : World} (h : ST w) : ST w.drew := h
theorem unfour_oh (H len cap n : Nat) (bs : Nat → Nat) (w0 w : World) (h : OH H len bs w0 w) (hn : n + 4 ≤ len) :
    Calls Tryd.prog 33 #[.slice (some ⟨H, n, none⟩) (len - n) (cap - n)] w fun e w' => e = .returned (.int .u32 (u32At bs n : Nat)) ∧ OH H len bs w0 w' := by
  obtain ⟨hb, hs, hB⟩ := h
  have c : ∀ j, j < len → w.cell? ⟨H, j, none⟩ = some (.int .u8 (bs j : Int)) ∧ bs j < 256 := fun j hj => by have := hb j hj; rw [Nat.zero_add] at this; exact this
  refine (unfour_any H n (len - n) (cap - n) (bs n) (bs (n + 1)) (bs (n + 2)) (bs (n + 3)) w (by omega) (c n (by omega)).1 (c (n + 1) (by omega)).1 (c (n + 2) (by omega)).1 (c (n + 3) (by omega)).1 (c n (by omega)).2 (c (n + 1) (by omega)).2 (c (n + 2) (by omega)).2 (c (n + 3) (by omega)).2).mono ?_
  rintro e w' ⟨rfl, rfl⟩
  exact ⟨rfl, hb, hs, hB.drew⟩
theorem crc_oh (H len cap n : Nat) (bs : Nat → Nat) (w0 w : World) (h : OH H len bs w0 w) (hn : n ≤ len) (hm : len ≤ 9223372036854775807) :
    Calls Tryd.prog 31 #[.slice (some ⟨H, 0, none⟩) n cap] w fun e w' => e = .returned (.int .u32 (crcTo bs n ^^^ 4294967295 : Nat)) ∧ OH H len bs w0 w' := by
  obtain ⟨hb, hs, hB⟩ := h
  refine (crc_wire H 0 n cap bs w (by omega) (fun i hi => hb i (by omega)) hs).mono ?_
  rintro e w' ⟨rfl, rfl⟩
  exact ⟨rfl, hb, hs, hB⟩
def fitB (bs : Nat → Nat) (n : Nat) : Bool := ((u32At bs n : Nat) : Int) == ((crcTo bs n ^^^ 4294967295 : Nat) : Int)
set_option maxRecDepth 100000 in
theorem fits_any (H len cap n : Nat) (bs : Nat → Nat) (w0 w : World) (h : OH H len bs w0 w) (hn : n + 4 ≤ len) (hlc : len ≤ cap) (hm : len ≤ 9223372036854775807) :
    Calls Tryd.prog 68 #[.slice (some ⟨H, 0, none⟩) len cap, .int .i64 (n : Int)] w fun e w' => e = .returned (.bool (fitB bs n)) ∧ OH H len bs w0 w' := by
  have n0 : (0 : Int) ≤ (n : Int) := by omega
  have n1 : (n : Int) ≤ (len : Int) := by omega
  have n2 : (n : Int) ≤ (cap : Int) := by omega
  have n3 : (len : Int) ≤ (cap : Int) := by omega
  have hcn : ¬ cap = n := by omega
  have h' : OH H len bs w0 w.drew := ⟨h.1, h.2.1, h.2.2.drew⟩
  go_enter Tryd.func68, Tryd.ntmps68
  go_wp2_with fail
  go_region_held3 (fun w' => OH H len bs w0 w') (first | assumption)
    (first
      | (go_at_call 33; refine (unfour_oh H len cap n bs w0 _ (by assumption) hn).mono ?_; rintro e w' ⟨rfl, hO⟩)
      | (go_at_call 31; refine (crc_oh H len cap n bs w0 _ (by assumption) (by omega) (by omega)).mono ?_; rintro e w' ⟨rfl, hO⟩))
  all_goals
    go_wp2_with fail
    go_ret
    exact ⟨rfl, by assumption⟩
theorem fits_z (H len cap n : Nat) (z : Int) (hz : z = (n : Int)) (bs : Nat → Nat) (w0 w : World) (h : OH H len bs w0 w) (hn : n + 4 ≤ len) (hlc : len ≤ cap) (hm : len ≤ 9223372036854775807) :
    Calls Tryd.prog 68 #[.slice (some ⟨H, 0, none⟩) len cap, .int .i64 z] w fun e w' => e = .returned (.bool (fitB bs n)) ∧ OH H len bs w0 w' := by
  subst hz; exact fits_any H len cap n bs w0 w h hn hlc hm
theorem u32At_lt (bs : Nat → Nat) (n : Nat) (h : ∀ i, i < n + 4 → bs i < 256) : u32At bs n < 4294967296 := by
  have h0 := h n (by omega); have h1 := h (n + 1) (by omega); have h2 := h (n + 2) (by omega); have h3 := h (n + 3) (by omega)
  unfold u32At; omega
def okB (bs : Nat → Nat) (size : Nat) : Bool := fitB bs (17 + size)
/-- the error of what begins with a frame, as a number; 0 if there is none. -/
def openE (bs : Nat → Nat) (len : Nat) : Nat :=
  if len < 17 then 30 else if fitB bs 13 = false then 32 else if 67108864 < u32At bs 1 then 6 else if len < 21 + u32At bs 1 then 30 else if okB bs (u32At bs 1) = false then 32 else 0
set_option maxRecDepth 100000 in
set_option maxHeartbeats 2000000 in
theorem measure_any (H len cap : Nat) (bs : Nat → Nat) (w0 w : World) (h : OH H len bs w0 w) (hlc : len ≤ cap) (hm : len ≤ 9000000000000000000) :
    Calls Tryd.prog 32 #[.slice (some ⟨H, 0, none⟩) len cap] w fun e w' => e = .returned (.tuple #[.int .i64 (if openE bs len = 0 then ((17 + u32At bs 1 : Nat) : Int) else 0), .int .i64 (openE bs len : Nat)]) ∧ OH H len bs w0 w' := by
  have hbs : ∀ i, i < len → bs i < 256 := fun i hi => (h.1 i hi).2
  by_cases c1 : len < 17
  · have e : openE bs len = 30 := by unfold openE; rw [if_pos c1]
    rw [e, if_neg (by decide)]
    have cI : (len : Int) < 17 := by omega
    go_enter Tryd.func32, Tryd.ntmps32
    go_wp2_with fail
    go_ret2
    exact ⟨rfl, h⟩
  have cI : ¬ (len : Int) < 17 := by omega
  by_cases c2 : fitB bs 13 = false
  · have e : openE bs len = 32 := by unfold openE; rw [if_neg c1, if_pos c2]
    rw [e, if_neg (by decide)]
    go_enter Tryd.func32, Tryd.ntmps32
    go_wp2_with fail
    refine (fits_any H len cap 13 bs w0 _ h (by omega) hlc (by omega)).mono ?_
    rintro e w1 ⟨rfl, h1⟩
    rw [c2]
    go_wp2_with fail
    go_ret2
    exact ⟨rfl, h1⟩
  have c2' : fitB bs 13 = true := by simpa using c2
  have k0 : (1 : Int) ≤ (len : Int) := by omega
  have k1 : (1 : Int) ≤ (cap : Int) := by omega
  have k2 : (len : Int) ≤ (cap : Int) := by omega
  have k3 : ¬ cap = 1 := by omega
  have hz := u32At_lt bs 1 (fun i hi => hbs i (by omega))
  generalize hsz : u32At bs 1 = size at *
  by_cases c3 : 67108864 < size
  · have e : openE bs len = 6 := by unfold openE; rw [if_neg c1, if_neg c2, hsz, if_pos c3]
    rw [e, if_neg (by decide)]
    have c3I : (67108864 : Int) < (size : Int) := by omega
    go_enter Tryd.func32, Tryd.ntmps32
    go_wp2_with fail
    refine (fits_any H len cap 13 bs w0 _ h (by omega) hlc (by omega)).mono ?_
    rintro e w1 ⟨rfl, h1⟩
    rw [c2']
    go_wp2_with fail
    refine (unfour_oh H len cap 1 bs w0 _ h1 (by omega)).mono ?_
    rintro e w2 ⟨rfl, h2⟩
    rw [hsz]
    go_wp2_with fail
    go_ret2
    exact ⟨rfl, h2⟩
  have c3I : ¬ (67108864 : Int) < (size : Int) := by omega
  have ew : (size : Int) % 4294967296 = (size : Int) := by omega
  by_cases c4 : len < 21 + size
  · have e : openE bs len = 30 := by unfold openE; rw [if_neg c1, if_neg c2, hsz, if_neg c3, if_pos c4]
    rw [e, if_neg (by decide)]
    have c4I : (len : Int) < 17 + (size : Int) + 4 := by omega
    go_enter Tryd.func32, Tryd.ntmps32
    go_wp2_with fail
    refine (fits_any H len cap 13 bs w0 _ h (by omega) hlc (by omega)).mono ?_
    rintro e w1 ⟨rfl, h1⟩
    rw [c2']
    go_wp2_with fail
    refine (unfour_oh H len cap 1 bs w0 _ h1 (by omega)).mono ?_
    rintro e w2 ⟨rfl, h2⟩
    rw [hsz]
    go_wp2_with fail
    go_ret2
    exact ⟨rfl, h2⟩
  have c4I : ¬ (len : Int) < 17 + (size : Int) + 4 := by omega
  obtain ⟨q, hq⟩ : ∃ q, q = fitB bs (17 + size) := ⟨_, rfl⟩
  have hf : Hid (∀ w2, OH H len bs w0 w2 → Calls Tryd.prog 68 #[.slice (some ⟨H, 0, none⟩) len cap, .int .i64 (17 + (size : Int))] w2 fun e w' => e = .returned (.bool q) ∧ OH H len bs w0 w') := fun w2 h2 => by
    rw [hq]; exact fits_z H len cap (17 + size) _ (by omega) bs w0 _ h2 (by omega) hlc (by omega)
  have e : openE bs len = if q = false then 32 else 0 := by unfold openE; rw [if_neg c1, if_neg c2, hsz, if_neg c3, if_neg c4, hq]; rfl
  rw [e, show ((17 + size : Nat) : Int) = 17 + (size : Int) by omega]
  clear e hq
  go_enter Tryd.func32, Tryd.ntmps32
  go_wp2_with fail
  refine (fits_any H len cap 13 bs w0 _ h (by omega) hlc (by omega)).mono ?_
  rintro e w1 ⟨rfl, h1⟩
  rw [c2']
  go_wp2_with fail
  refine (unfour_oh H len cap 1 bs w0 _ h1 (by omega)).mono ?_
  rintro e w2 ⟨rfl, h2⟩
  rw [hsz]
  go_wp2_with fail
  refine (hf.out _ h2).mono ?_
  rintro e w3 ⟨rfl, h3⟩
  clear hbs h h1 h2 hz c2 c2' hsz hf
  cases q
  · go_wp2_with fail
    go_ret2
    exact ⟨rfl, h3⟩
  · go_wp2_with fail
    go_ret2
    exact ⟨rfl, h3⟩
end Go.Proofs.YtepgcgphnjlcoaaDoor
