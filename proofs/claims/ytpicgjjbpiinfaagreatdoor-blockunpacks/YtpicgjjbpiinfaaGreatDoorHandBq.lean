
import Derived.Test.YtpicgjjbpiinfaaGreatDoorBuB
namespace Go.Proofs.YtpicgjjbpiinfaaGreatDoor
open Go.RowKit
set_option linter.unusedVariables false
set_option linter.unusedSimpArgs false
theorem make_full (n : Nat) (h : n ≤ 281474976710656) (w : World) : (Instr.makeSlice 22 (.int .i64 (n : Int)) (.int .i64 (n : Int))).run Tryz.prog w = .ok (.slice (some ⟨w.heap.size, 0, none⟩) n n) (w.alloc (.cells (madeCells #[.int .u8 0] n) 5)) := by
  obtain ⟨i, h1, h0⟩ := Option.map_eq_some_iff.1 byte_info
  have h2 : i.zero = some (.int .u8 0) := congrArg (·.1) h0
  have h3 : i.bytes = 1 := congrArg (·.2.1) h0
  have h4 : i.size = 1 := congrArg (·.2.2) h0
  have := run_make (P := Tryz.prog) w 22 5 i (.int .u8 0) Tryz.underlying22 h1 h2 .i64 .i64 (n : Int) (n : Int) (by omega) (by omega) (by rw [h3]; omega) (by omega)
  rw [h4] at this
  simpa [Value.cells] using this
/-- bytes in a block of one's own. -/
structure RowAt (H m : Nat) (f : Nat → Nat) (w1 wx : World) : Prop where
  c : ∀ j, j < m → wx.cell? ⟨H, j, none⟩ = some (.int .u8 (f j))
  z : ∀ j, j < m → wx.frozen? ⟨H, j, none⟩ = false
  b : Below H w1 wx
  sz : H < wx.heap.size
def updN (f : Nat → Nat) (k v : Nat) : Nat → Nat := fun j => if j = k then v else f j
theorem RowAt.set {H m : Nat} {f : Nat → Nat} {w1 wx : World} (h : RowAt H m f w1 wx) (k v : Nat) (hk : k < m) : RowAt H m (updN f k v) w1 (wx.setCell ⟨H, k, none⟩ (.int .u8 (v : Int))) := by
  refine ⟨fun j hj => ?_, fun j hj => by simpa using h.z j hj, h.b.setCell (p := ⟨H, k, none⟩) (Nat.le_refl _) _, by simpa using h.sz⟩
  unfold updN
  by_cases e : j = k
  · subst e; rw [if_pos rfl]; exact World.cell?_setCell_same _ _ _ (h.c j hj)
  · rw [if_neg e, World.cell?_setCell_other _ _ _ _ (by intro e'; injection e' with e1 e2; omega)]; exact h.c j hj
theorem RowAt.ext {H m : Nat} {f g : Nat → Nat} {w1 wx : World} (h : RowAt H m f w1 wx) (e : ∀ j, j < m → f j = g j) : RowAt H m g w1 wx :=
  ⟨fun j hj => by rw [← e j hj]; exact h.c j hj, h.z, h.b, h.sz⟩
theorem RowAt.start (w : World) (n : Nat) : RowAt w.heap.size n (fun _ => 0) w (w.alloc (.cells (madeCells #[.int .u8 0] n) 5)) := by
  have hz : ∀ j, j < n → (madeCells #[Value.int .u8 0] n)[j]? = some (.int .u8 0) := fun j hj => by
    rw [← Array.getElem?_toList, toList_madeCells_one]; simp [hj]
  refine ⟨fun j hj => ?_, fun j hj => ?_, (Below.refl _ _).alloc (Nat.le_refl _) _, by simp⟩
  · rw [cell_of_row _ w.heap.size j _ 5 (0, 0) (heap_alloc_new w _)]; exact hz j hj
  · exact frozen_of_row _ w.heap.size j _ 5 (heap_alloc_new w _)
def handF (bs : Nat → Nat) (len : Nat) : Nat → Nat := fun j => if j < len then bs j else 160 + j - len
def handT (bs : Nat → Nat) (len k : Nat) : Nat → Nat := fun j => if j < len then bs j else if j < k then 160 + j - len else 0
set_option maxRecDepth 100000 in
set_option maxHeartbeats 2000000 in
theorem hand_some (a : Option Addr) (len cap : Nat) (bs : Nat → Nat) (w : World) (h : BytesIn w a len bs) :
    Calls Tryz.prog 5 #[.slice a len cap] w fun e w' => e = .returned (.slice (some ⟨w.heap.size, 0, none⟩) len (len + 9)) ∧ RowAt w.heap.size (len + 9) (handF bs len) w w' := by
  obtain ⟨hm, hin⟩ := h
  have hmk := make_full (len + 9) (by omega)
  have hmc : ((len + 9 : Nat) : Int) = (len : Int) + 9 := by omega
  rw [hmc] at hmk
  clear hmc
  have hin' : Hid _ := hin
  clear hin
  go_enter Tryz.func5, Tryz.ntmps5
  go_wp2_with fail
  clear hmk
  go_loopw [4] (fun i wr => ∃ (k : Nat), k ≤ len ∧ i = .int .i64 k ∧ RowAt w.heap.size (len + 9) (fun j => if j < k then bs j else 0) w wr) (fun i _ => len - (intOf i).toNat)
  case atStart => exact ⟨0, Nat.zero_le _, rfl, (RowAt.start w (len + 9)).ext (fun j _ => by simp)⟩
  case round =>
    obtain ⟨k, hk, rfl, hR⟩ := hrel
    by_cases hlt : k < len
    · rcases hin'.out with h0 | ⟨b, off, rfl, hb, hB⟩
      · omega
      · have hltI : (k : Int) < (len : Int) := by omega
        have hlt9 : (k : Int) < (len : Int) + 9 := by omega
        obtain ⟨x1, x2⟩ := hB k hlt
        have hz : wr.cell? ⟨b, off + k, none⟩ = some (.int .u8 (bs k : Int)) := by rw [hR.b.cell (p := ⟨b, off + k, none⟩) hb]; exact x1
        have y1 := hR.c k (by omega)
        have y2 := hR.z k (by omega)
        have hR' := hR.set k (bs k) (by omega)
        go_wp2_with fail
        go_roundw
        case rel =>
          refine ⟨k + 1, by omega, by go_num, hR'.ext (fun j hj => ?_)⟩
          unfold updN
          by_cases e : j = k
          · subst e; rw [if_pos rfl, if_pos (by omega)]
          · rw [if_neg e]
            show (if j < k then bs j else 0) = (if j < k + 1 then bs j else 0)
            by_cases e2 : j < k
            · rw [if_pos e2, if_pos (by omega)]
            · rw [if_neg e2, if_neg (by omega)]
        case measure => simp [intOf]; omega
    · obtain rfl : k = len := by omega
      clear hlt hk
      go_wp2_with fail
      go_loopw [5] (fun i wr => ∃ (m : Nat), k ≤ m ∧ m ≤ k + 9 ∧ i = .int .i64 m ∧ RowAt w.heap.size (k + 9) (handT bs k m) w wr) (fun i _ => k + 9 - (intOf i).toNat)
      case atStart => exact ⟨k, Nat.le_refl _, by omega, rfl, hR.ext (fun j _ => by unfold handT; by_cases e : j < k <;> simp [e])⟩
      case round =>
        clear hR
        obtain ⟨m, hm1, hm2, rfl, hR⟩ := hrel
        by_cases hlt : m < k + 9
        · have hltI : (m : Int) < (k : Int) + 9 := by omega
          have y1 := hR.c m hlt
          have y2 := hR.z m hlt
          have hR' := hR.set m (160 + m - k) hlt
          have e8 : ((160 + m - k : Nat) : Int) = 160 + (m : Int) - (k : Int) := by omega
          rw [e8] at hR'
          go_wp2_with fail
          go_roundw
          case rel =>
            refine ⟨m + 1, by omega, by omega, by go_num, hR'.ext (fun j hj => ?_)⟩
            unfold updN handT
            by_cases e : j = m
            · subst e; rw [if_pos rfl, if_neg (by omega), if_pos (by omega)]
            · rw [if_neg e]
              by_cases e2 : j < k
              · rw [if_pos e2, if_pos e2]
              · rw [if_neg e2, if_neg e2]
                by_cases e3 : j < m
                · rw [if_pos e3, if_pos (by omega)]
                · rw [if_neg e3, if_neg (by omega)]
          case measure => simp [intOf]; omega
        · obtain rfl : m = k + 9 := by omega
          have hF : RowAt w.heap.size (k + 9) (handF bs k) w wr := hR.ext (fun j hj => by
            unfold handT handF
            by_cases e : j < k
            · rw [if_pos e, if_pos e]
            · rw [if_neg e, if_neg e, if_pos hj])
          clear hR hlt
          go_wp2_with fail
          go_ret
          exact ⟨rfl, hF⟩
theorem same_zeroH (a1 a2 : Option Addr) (c1 c2 : Nat) (w : World) :
    Calls Tryz.prog 35 #[.slice a1 0 c1, .slice a2 0 c2] w fun e w' => e = .returned (.bool true) ∧ Below w.heap.size w w' := by
  go_enter Tryz.func35, Tryz.ntmps35
  go_wp2_with fail
  go_loopw [5] (fun i wr => i = .int .i64 0 ∧ Below w.heap.size w wr) (fun _ _ => 0)
  case atStart => exact ⟨rfl, Below.refl _ _⟩
  case round =>
    obtain ⟨rfl, hB⟩ := hrel
    go_wp2_with fail
    go_ret
    exact ⟨rfl, hB⟩
theorem same_inH (g1 o1 c1 : Nat) (a : Option Addr) (c2 m : Nat) (bs : Nat → Nat) (w : World) (h1 : BytesAt w g1 o1 m bs) (h2 : BytesIn w a m bs) :
    Calls Tryz.prog 35 #[.slice (some ⟨g1, o1, none⟩) m c1, .slice a m c2] w fun e w' => e = .returned (.bool true) ∧ Below w.heap.size w w' := by
  obtain ⟨hm, h2⟩ := h2
  rcases h2 with rfl | ⟨b, off, rfl, hb, h2⟩
  · exact same_zeroH _ _ c1 c2 w
  · exact same_true g1 o1 c1 b off c2 m bs w (by omega) h1 h2
set_option maxRecDepth 100000 in
set_option maxHeartbeats 2000000 in
theorem kept_true (H : Nat) (a : Option Addr) (len cap : Nat) (bs : Nat → Nat) (w : World) (hH : H < w.heap.size) (hR : ∀ j, j < len + 9 → w.cell? ⟨H, j, none⟩ = some (.int .u8 (handF bs len j))) (hbs : ∀ j, j < len → bs j < 256) (h : BytesIn w a len bs) :
    Calls Tryz.prog 11 #[.slice (some ⟨H, 0, none⟩) len (len + 9), .slice a len cap] w fun e w' => e = .returned (.bool true) ∧ Below w.heap.size w w' := by
  have hm := h.1
  have h1 : BytesAt w H 0 len bs := fun i hi => by
    refine ⟨?_, hbs i hi⟩
    have := hR i (by omega)
    unfold handF at this
    rw [if_pos hi] at this
    rw [Nat.zero_add]; exact this
  go_enter Tryz.func11, Tryz.ntmps11
  go_wp2_with fail
  refine (same_inH H 0 (len + 9) a cap len bs _ h1 h).mono ?_
  rintro e w1 ⟨rfl, hB1⟩
  have hlI : (len : Int) + 9 ≤ ((len + 9 : Nat) : Int) := by omega
  go_wp2_with fail
  go_loopw [6] (fun i wr => ∃ (m : Nat), len ≤ m ∧ m ≤ len + 9 ∧ i = .int .i64 m ∧ Below w.heap.size w wr) (fun i _ => len + 9 - (intOf i).toNat)
  case atStart => exact ⟨len, Nat.le_refl _, by omega, rfl, hB1⟩
  case round =>
    obtain ⟨m, hm1, hm2, rfl, hB⟩ := hrel
    by_cases hlt : m < len + 9
    · have hltI : (m : Int) < (len : Int) + 9 := by omega
      have hltN : (m : Int) < ((len + 9 : Nat) : Int) := by omega
      have x1 : wr.cell? ⟨H, m, none⟩ = some (.int .u8 (160 + (m : Int) - (len : Int))) := by
        rw [hB.cell (p := ⟨H, m, none⟩) hH, hR m hlt]
        unfold handF
        rw [if_neg (by omega), show ((160 + m - len : Nat) : Int) = 160 + (m : Int) - (len : Int) by omega]
      clear hR h1 h
      go_wp2_with fail
      go_roundw
      case rel => exact ⟨m + 1, by omega, by omega, by go_num, hB⟩
      case measure => simp [intOf]; omega
    · clear hR h1 h
      obtain rfl : m = len + 9 := by omega
      go_wp2_with fail
      go_ret
      exact ⟨rfl, hB⟩
end Go.Proofs.YtpicgjjbpiinfaaGreatDoor
