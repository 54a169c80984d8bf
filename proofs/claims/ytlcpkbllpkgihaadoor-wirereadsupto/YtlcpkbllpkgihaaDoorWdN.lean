
import Derived.Test.YtlcpkbllpkgihaaDoorWBytes
import Derived.Test.YtlcpkbllpkgihaaDoorWdM
import Derived.Test.YtlcpkbllpkgihaaDoorSameD
import Derived.Test.YtlcpkbllpkgihaaDoorBkM
namespace Go.Proofs.YtlcpkbllpkgihaaDoor
open Go.RowKit
set_option linter.unusedVariables false
set_option linter.unusedSimpArgs false
theorem make_full (n : Nat) (h : n ≤ 281474976710656) (w : World) : (Instr.makeSlice 24 (.int .i64 (n : Int)) (.int .i64 (n : Int))).run Tryd.prog w = .ok (.slice (some ⟨w.heap.size, 0, none⟩) n n) (w.alloc (.cells (madeCells #[.int .u8 0] n) 5)) := by
  obtain ⟨i, h1, h0⟩ := Option.map_eq_some_iff.1 byte_info
  have h2 : i.zero = some (.int .u8 0) := congrArg (·.1) h0
  have h3 : i.bytes = 1 := congrArg (·.2.1) h0
  have h4 : i.size = 1 := congrArg (·.2.2) h0
  have := run_make (P := Tryd.prog) w 24 5 i (.int .u8 0) Tryd.underlying24 h1 h2 .i64 .i64 (n : Int) (n : Int) (by omega) (by omega) (by rw [h3]; omega) (by omega)
  rw [h4] at this
  simpa [Value.cells] using this
/-- bytes in a block of one's own. -/
structure RowAt (H m : Nat) (f : Nat → Nat) (w1 wx : World) : Prop where
  c : ∀ j, j < m → wx.cell? ⟨H, j, none⟩ = some (.int .u8 (f j))
  z : ∀ j, j < m → wx.frozen? ⟨H, j, none⟩ = false
  b : Below H w1 wx
  sz : H < wx.heap.size
def updN (f : Nat → Nat) (k v : Nat) : Nat → Nat := fun j => if j = k then v else f j
theorem RowAt.set {H m : Nat} {f : Nat → Nat} {w1 wx : World} (h : RowAt H m f w1 wx) (k v : Nat) (hk : k < m) : RowAt H m (updN f k v) w1 (wx.setCell ⟨H, k, none⟩ (.int .u8 (v : Int))) := by
  refine ⟨fun j hj => ?_, fun j hj => by simpa using h.z j hj, h.b.setCell (p := ⟨H, k, none⟩) (Nat.le_refl _) _, by simpa using h.sz⟩
  unfold updN
  by_cases e : j = k
  · subst e; rw [if_pos rfl]; exact World.cell?_setCell_same _ _ _ (h.c j hj)
  · rw [if_neg e, World.cell?_setCell_other _ _ _ _ (by intro e'; injection e' with e1 e2; omega)]; exact h.c j hj
theorem RowAt.ext {H m : Nat} {f g : Nat → Nat} {w1 wx : World} (h : RowAt H m f w1 wx) (e : ∀ j, j < m → f j = g j) : RowAt H m g w1 wx :=
  ⟨fun j hj => by rw [← e j hj]; exact h.c j hj, h.z, h.b, h.sz⟩
theorem RowAt.start (w : World) (n : Nat) : RowAt w.heap.size n (fun _ => 0) w (w.alloc (.cells (madeCells #[.int .u8 0] n) 5)) := by
  have hz : ∀ j, j < n → (madeCells #[Value.int .u8 0] n)[j]? = some (.int .u8 0) := fun j hj => by
    rw [← Array.getElem?_toList, toList_madeCells_one]; simp [hj]
  refine ⟨fun j hj => ?_, fun j hj => ?_, (Below.refl _ _).alloc (Nat.le_refl _) _, by simp⟩
  · rw [cell_of_row _ w.heap.size j _ 5 (0, 0) (heap_alloc_new w _)]; exact hz j hj
  · exact frozen_of_row _ w.heap.size j _ 5 (heap_alloc_new w _)
def handF (bs : Nat → Nat) (len : Nat) : Nat → Nat := fun j => if j < len then bs j else 160 + j - len
def handT (bs : Nat → Nat) (len k : Nat) : Nat → Nat := fun j => if j < len then bs j else if j < k then 160 + j - len else 0
set_option maxRecDepth 100000 in
set_option maxHeartbeats 2000000 in
theorem hand_some (a : Option Addr) (len cap : Nat) (bs : Nat → Nat) (w : World) (h : BytesIn w a len bs) :
    Calls Tryd.prog 13 #[.slice a len cap] w fun e w' => e = .returned (.slice (some ⟨w.heap.size, 0, none⟩) len (len + 9)) ∧ RowAt w.heap.size (len + 9) (handF bs len) w w' := by
  obtain ⟨hm, hin⟩ := h
  have hmk := make_full (len + 9) (by omega)
  have hmc : ((len + 9 : Nat) : Int) = (len : Int) + 9 := by omega
  rw [hmc] at hmk
  clear hmc
  have hin' : Hid _ := hin
  clear hin
  go_enter Tryd.func13, Tryd.ntmps13
  go_wp2_with fail
  clear hmk
  go_loopw [4] (fun i wr => ∃ (k : Nat), k ≤ len ∧ i = .int .i64 k ∧ RowAt w.heap.size (len + 9) (fun j => if j < k then bs j else 0) w wr) (fun i _ => len - (intOf i).toNat)
  case atStart => exact ⟨0, Nat.zero_le _, rfl, (RowAt.start w (len + 9)).ext (fun j _ => by simp)⟩
  case round =>
    obtain ⟨k, hk, rfl, hR⟩ := hrel
    by_cases hlt : k < len
    · rcases hin'.out with h0 | ⟨b, off, rfl, hb, hB⟩
      · omega
      · have hltI : (k : Int) < (len : Int) := by omega
        have hlt9 : (k : Int) < (len : Int) + 9 := by omega
        obtain ⟨x1, x2⟩ := hB k hlt
        have hz : wr.cell? ⟨b, off + k, none⟩ = some (.int .u8 (bs k : Int)) := by rw [hR.b.cell (p := ⟨b, off + k, none⟩) hb]; exact x1
        have y1 := hR.c k (by omega)
        have y2 := hR.z k (by omega)
        have hR' := hR.set k (bs k) (by omega)
        go_wp2_with fail
        go_roundw
        case rel =>
          refine ⟨k + 1, by omega, by go_num, hR'.ext (fun j hj => ?_)⟩
          unfold updN
          by_cases e : j = k
          · subst e; rw [if_pos rfl, if_pos (by omega)]
          · rw [if_neg e]
            show (if j < k then bs j else 0) = (if j < k + 1 then bs j else 0)
            by_cases e2 : j < k
            · rw [if_pos e2, if_pos (by omega)]
            · rw [if_neg e2, if_neg (by omega)]
        case measure => simp [intOf]; omega
    · obtain rfl : k = len := by omega
      clear hlt hk
      go_wp2_with fail
      go_loopw [5] (fun i wr => ∃ (m : Nat), k ≤ m ∧ m ≤ k + 9 ∧ i = .int .i64 m ∧ RowAt w.heap.size (k + 9) (handT bs k m) w wr) (fun i _ => k + 9 - (intOf i).toNat)
      case atStart => exact ⟨k, Nat.le_refl _, by omega, rfl, hR.ext (fun j _ => by unfold handT; by_cases e : j < k <;> simp [e])⟩
      case round =>
        clear hR
        obtain ⟨m, hm1, hm2, rfl, hR⟩ := hrel
        by_cases hlt : m < k + 9
        · have hltI : (m : Int) < (k : Int) + 9 := by omega
          have y1 := hR.c m hlt
          have y2 := hR.z m hlt
          have hR' := hR.set m (160 + m - k) hlt
          have e8 : ((160 + m - k : Nat) : Int) = 160 + (m : Int) - (k : Int) := by omega
          rw [e8] at hR'
          go_wp2_with fail
          go_roundw
          case rel =>
            refine ⟨m + 1, by omega, by omega, by go_num, hR'.ext (fun j hj => ?_)⟩
            unfold updN handT
            by_cases e : j = m
            · subst e; rw [if_pos rfl, if_neg (by omega), if_pos (by omega)]
            · rw [if_neg e]
              by_cases e2 : j < k
              · rw [if_pos e2, if_pos e2]
              · rw [if_neg e2, if_neg e2]
                by_cases e3 : j < m
                · rw [if_pos e3, if_pos (by omega)]
                · rw [if_neg e3, if_neg (by omega)]
          case measure => simp [intOf]; omega
        · obtain rfl : m = k + 9 := by omega
          have hF : RowAt w.heap.size (k + 9) (handF bs k) w wr := hR.ext (fun j hj => by
            unfold handT handF
            by_cases e : j < k
            · rw [if_pos e, if_pos e]
            · rw [if_neg e, if_neg e, if_pos hj])
          clear hR hlt
          go_wp2_with fail
          go_ret
          exact ⟨rfl, hF⟩
theorem same_zeroH (a1 a2 : Option Addr) (c1 c2 : Nat) (w : World) :
    Calls Tryd.prog 10 #[.slice a1 0 c1, .slice a2 0 c2] w fun e w' => e = .returned (.bool true) ∧ Below w.heap.size w w' := by
  go_enter Tryd.func10, Tryd.ntmps10
  go_wp2_with fail
  go_loopw [5] (fun i wr => i = .int .i64 0 ∧ Below w.heap.size w wr) (fun _ _ => 0)
  case atStart => exact ⟨rfl, Below.refl _ _⟩
  case round =>
    obtain ⟨rfl, hB⟩ := hrel
    go_wp2_with fail
    go_ret
    exact ⟨rfl, hB⟩
theorem same_inH (g1 o1 c1 : Nat) (a : Option Addr) (c2 m : Nat) (bs : Nat → Nat) (w : World) (h1 : BytesAt w g1 o1 m bs) (h2 : BytesIn w a m bs) :
    Calls Tryd.prog 10 #[.slice (some ⟨g1, o1, none⟩) m c1, .slice a m c2] w fun e w' => e = .returned (.bool true) ∧ Below w.heap.size w w' := by
  obtain ⟨hm, h2⟩ := h2
  rcases h2 with rfl | ⟨b, off, rfl, hb, h2⟩
  · exact same_zeroH _ _ c1 c2 w
  · exact same_true g1 o1 c1 b off c2 m bs w (by omega) h1 h2
set_option maxRecDepth 100000 in
set_option maxHeartbeats 2000000 in
theorem kept_true (H : Nat) (a : Option Addr) (len cap : Nat) (bs : Nat → Nat) (w : World) (hH : H < w.heap.size) (hR : ∀ j, j < len + 9 → w.cell? ⟨H, j, none⟩ = some (.int .u8 (handF bs len j))) (hbs : ∀ j, j < len → bs j < 256) (h : BytesIn w a len bs) :
    Calls Tryd.prog 26 #[.slice (some ⟨H, 0, none⟩) len (len + 9), .slice a len cap] w fun e w' => e = .returned (.bool true) ∧ Below w.heap.size w w' := by
  have hm := h.1
  have h1 : BytesAt w H 0 len bs := fun i hi => by
    refine ⟨?_, hbs i hi⟩
    have := hR i (by omega)
    unfold handF at this
    rw [if_pos hi] at this
    rw [Nat.zero_add]; exact this
  go_enter Tryd.func26, Tryd.ntmps26
  go_wp2_with fail
  refine (same_inH H 0 (len + 9) a cap len bs _ h1 h).mono ?_
  rintro e w1 ⟨rfl, hB1⟩
  have hlI : (len : Int) + 9 ≤ ((len + 9 : Nat) : Int) := by omega
  go_wp2_with fail
  go_loopw [6] (fun i wr => ∃ (m : Nat), len ≤ m ∧ m ≤ len + 9 ∧ i = .int .i64 m ∧ Below w.heap.size w wr) (fun i _ => len + 9 - (intOf i).toNat)
  case atStart => exact ⟨len, Nat.le_refl _, by omega, rfl, hB1⟩
  case round =>
    obtain ⟨m, hm1, hm2, rfl, hB⟩ := hrel
    by_cases hlt : m < len + 9
    · have hltI : (m : Int) < (len : Int) + 9 := by omega
      have hltN : (m : Int) < ((len + 9 : Nat) : Int) := by omega
      have x1 : wr.cell? ⟨H, m, none⟩ = some (.int .u8 (160 + (m : Int) - (len : Int))) := by
        rw [hB.cell (p := ⟨H, m, none⟩) hH, hR m hlt]
        unfold handF
        rw [if_neg (by omega), show ((160 + m - len : Nat) : Int) = 160 + (m : Int) - (len : Int) by omega]
      clear hR h1 h
      go_wp2_with fail
      go_roundw
      case rel => exact ⟨m + 1, by omega, by omega, by go_num, hB⟩
      case measure => simp [intOf]; omega
    · clear hR h1 h
      obtain rfl : m = len + 9 := by omega
      go_wp2_with fail
      go_ret
      exact ⟨rfl, hB⟩
end Go.Proofs.YtlcpkbllpkgihaaDoor

namespace Go.Proofs.YtlcpkbllpkgihaaDoor
open Go.RowKit
set_option linter.unusedVariables false
set_option linter.unusedSimpArgs false
theorem RowAt.bytes2 {H len : Nat} {bs : Nat → Nat} {w1 wx : World} (h : RowAt H (len + 9) (handF bs len) w1 wx) (hbs : ∀ j, j < len → bs j < 256) : BytesAt wx H 0 len bs := fun i hi => by
  have := h.c i (by omega)
  unfold handF at this
  rw [if_pos hi] at this
  exact ⟨by rw [Nat.zero_add]; exact this, hbs i hi⟩
theorem same_nil2 (w : World) : Calls Tryd.prog 21 #[.nilIface, .agg #[.int .i64 0, .int .i64 0, .int .i64 0, .bool false, .bool false]] w fun e w' => e = .returned (.bool true) ∧ Below w.heap.size w w' := by
  have hB := below_new (Below.refl _ w) (.cells #[.int .i64 0, .int .i64 0, .int .i64 0, .bool false, .bool false] 51)
  have hBH : Hid _ := hB
  clear hB
  go_enter Tryd.func21, Tryd.ntmps21
  go_wp2_with fail
  go_ret
  exact ⟨rfl, hBH.out⟩
theorem same_fv (fv : Option (Int × Int)) (hfe : ∀ x, fv = some x → (x.2 == 0) = false) (w : World) (hg : ET w) : Calls Tryd.prog 21 #[fvV fv, fvB fv] w fun e w' => e = .returned (.bool true) ∧ Below w.heap.size w w' := by
  cases fv with
  | none => exact same_nil2 w
  | some x =>
    obtain ⟨q, e⟩ := x
    exact sameC_hit_miss [(false, q)] e (hfe _ rfl) q [] rfl rfl w hg
theorem doneF_fe {bs : Nat → Nat} {n p r : Nat} {fv : Option (Int × Int)} (h : ∀ x, fv = some x → (x.2 == 0) = false) : ∀ x, doneF bs n p r fv = some x → (x.2 == 0) = false := by
  intro x hx
  unfold doneF startF at hx
  cases fv with
  | some y => exact h x (by simpa using hx)
  | none =>
    by_cases hg : ragb bs p r = true
    · simp [hg] at hx; rw [← hx]; rfl
    · by_cases hp : p < n
      · simp [hg, hp] at hx; rw [← hx]; rfl
      · simp [hg, hp] at hx
theorem read_any {w : World} {N M : Nat} {a1 : Option Addr} {c1 : Nat} {a2 : Option Addr} {c2 : Nat} {L : List Nat} {wr : World} (h : TT w N M a1 c1 a2 c2 L wr) (K : Int) (X : Nat) (hX : X < 18446744073709551616) (B : Int) (hB : -9223372036854775808 ≤ B ∧ B ≤ 9223372036854775807) (sa : Option Addr) (sm sc : Nat) :
    Calls Tryd.prog 16 #[.pointer (some ⟨N, 0, none⟩), .pointer (some ⟨M, 0, none⟩), .agg #[.int .i64 K, .int .u64 (X : Int), .int .i64 B, .slice sa sm sc]] wr fun e w' => e = .returned (.bool true) ∧ TT w N M a1 c1 a2 c2 L w' := by
  by_cases k0 : K = 0
  · subst k0; exact read_0 h X hX B hB sa sm sc
  by_cases k1 : K = 1
  · subst k1; exact read_1 h X hX B hB sa sm sc
  by_cases k2 : K = 2
  · subst k2; exact read_2 h X hX B hB sa sm sc
  by_cases k3 : K = 3
  · subst k3; exact read_3 h X hX B hB sa sm sc
  by_cases k4 : K = 4
  · subst k4; exact read_4 h X hX B hB sa sm sc
  by_cases k5 : K = 5
  · subst k5; exact read_5 h X hX B hB sa sm sc
  by_cases k6 : K = 6
  · subst k6; exact read_6 h X hX B hB sa sm sc
  by_cases k7 : K = 7
  · subst k7; exact read_7 h X hX B hB sa sm sc
  exact read_else h K ⟨k0, k1, k2, k3, k4, k5, k6, k7⟩ X B sa sm sc
theorem TT.start {w w2 w3 : World} {N : Nat} {a1 : Option Addr} {c1 : Nat} {a2 : Option Addr} {c2 : Nat} {L : List Nat} (hN : w.heap.size ≤ N) (hR : RR N w2 a1 L.length c1 (natsOf L) 0 0 none w2) (hB2 : Below w.heap.size w w2) (hQ : QR w2.heap.size w2 a2 L.length c2 (natsOf L) 0 0 none w3) (hg : L.length = 0 ∨ ∃ g, a2 = some ⟨g, 0, none⟩ ∧ w2.heap.size < g) (hB3 : Below w2.heap.size w2 w3) : TT w N w2.heap.size a1 c1 a2 c2 L w3 := by
  refine ⟨0, 0, none, (hR.below hB3).here, hQ.here, by omega, hN, hR.sz, ?_, hg, below_then hB2 hB3⟩
  rcases hR.row with h0 | ⟨b, off, e, h1, _⟩
  · exact Or.inl h0
  · exact Or.inr ⟨b, off, e, h1⟩
set_option maxRecDepth 100000 in
set_option maxHeartbeats 8000000 in
theorem reads_walk (ba : Option Addr) (bc : Nat) (L : List Nat) (hL : ∀ y ∈ L, y < 256) (w : World) (hbv : BytesIn w ba L.length (natsOf L))
    (a : Option Addr) (len cap : Nat) (o : Ops) (hs : ST w) (hg : ET w) (hO : OpsAt w a len o) (hOB : ∀ i, i < len → -9223372036854775808 ≤ o.B i ∧ o.B i ≤ 9223372036854775807) (hlen : len ≤ 9223372036854775807) :
    Calls Tryd.prog 4 #[.slice ba L.length bc, .slice a len cap] w fun e w' => e = .returned (.bool true) ∧ Below w.heap.size w w' := by
  have hHand : Hid _ := hand_some ba L.length bc (natsOf L) w hbv
  have hL2 : ∀ j, j < L.length → natsOf L j < 256 := fun j hj => by
    unfold natsOf
    rw [List.getD_eq_getElem?_getD, List.getElem?_eq_getElem hj]
    exact hL _ (List.getElem_mem hj)
  have hL2H : Hid _ := hL2
  have hOH : Hid _ := hO
  have hOBH : Hid _ := hOB
  have hsH : Hid _ := hs
  have hgH : Hid _ := hg
  have hbvH : Hid (BytesIn w ba L.length (natsOf L)) := hbv
  have hl47 := hbv.1
  clear hO hs hL hbv hOB hg hL2
  go_enter Tryd.func4, Tryd.ntmps4
  go_wp2_with fail
  refine Calls.mono hHand.out ?_
  rintro e w1 ⟨rfl, hRow⟩
  have hB1 : Below w.heap.size w w1 := hRow.b
  have hNew : Hid _ := newR_in (some ⟨w.heap.size, 0, none⟩) (L.length + 9) L w1 ⟨hl47, Or.inr ⟨w.heap.size, 0, rfl, hRow.sz, hRow.bytes2 hL2H.out⟩⟩ (fun e => by cases e)
  have hRowH : Hid _ := hRow
  have hz1 := hRow.sz
  clear hRow hHand
  go_wp2_with fail
  refine Calls.mono hNew.out ?_
  rintro e w2 ⟨N, ra, rcap, rfl, hN, hRR, hB2⟩
  have hB02 := below_then hB1 hB2
  have hDoc : Hid _ := dNew_any ba L.length bc (natsOf L) w2 (hbvH.out.below hB02)
  have hRRH : Hid _ := hRR
  clear hRR hNew
  go_wp2_with fail
  refine Calls.mono hDoc.out ?_
  rintro e w3 ⟨rfl, ⟨da, dcap, hQ, hgg⟩, hB3⟩
  have hT0 : TT w1 N w2.heap.size ra rcap da dcap L w3 := TT.start hN hRRH.out hB2 hQ hgg hB3
  have hT0H : Hid (TT w1 N w2.heap.size ra rcap da dcap L w3) := hT0
  clear hQ hgg hRRH hT0 hDoc
  obtain ⟨M, hM⟩ : ∃ M, M = w2.heap.size := ⟨_, rfl⟩
  rw [← hM] at hT0H ⊢
  clear hM
  have hB01 : Hid (Below w.heap.size w w1) := hB1
  clear hB1 hB02 hB2 hB3 hN
  go_wp2_with fail
  go_loopw [20] (fun i wr => ∃ k : Nat, k ≤ len ∧ i = .int .i64 (k : Int) ∧ TT w1 N M ra rcap da dcap L wr) (fun i _ => len - (intOf i).toNat)
  case atStart => exact ⟨0, Nat.zero_le _, rfl, hT0H.out⟩
  case round =>
    clear hT0H
    obtain ⟨k, hk, rfl, hT⟩ := hrel
    by_cases hkl : k < len
    · have hkI : (k : Int) < (len : Int) := by omega
      have k0 : (0 : Int) ≤ (k : Int) := by omega
      rcases hOH.out with h0 | ⟨b, off, rfl, hbk, hc⟩
      · omega
      obtain ⟨⟨c0, c1, c2, c3⟩, hx, hB⟩ := hc k hkl
      have hbb := below_then hB01.out hT.bb
      have hX := hOBH.out k hkl
      have e0 : wr.cell? ⟨b, off + k * 4, none⟩ = some (.int .i64 (o.K k)) := by rw [hbb.cell (p := ⟨b, off + k * 4, none⟩) hbk]; exact c0
      have e1 : wr.cell? ⟨b, off + k * 4 + 1, none⟩ = some (.int .u64 (o.X k : Int)) := by rw [hbb.cell (p := ⟨b, off + k * 4 + 1, none⟩) hbk]; exact c1
      have e2 : wr.cell? ⟨b, off + k * 4 + 2, none⟩ = some (.int .i64 (o.B k)) := by rw [hbb.cell (p := ⟨b, off + k * 4 + 2, none⟩) hbk]; exact c2
      have e3 : wr.cell? ⟨b, off + k * 4 + 3, none⟩ = some (.slice (o.A k) (o.M k) (o.C k)) := by rw [hbb.cell (p := ⟨b, off + k * 4 + 3, none⟩) hbk]; exact c3
      obtain ⟨oK, hoK⟩ : ∃ oK, oK = o.K k := ⟨_, rfl⟩
      obtain ⟨oX, hoX⟩ : ∃ oX, oX = o.X k := ⟨_, rfl⟩
      obtain ⟨oB, hoB⟩ : ∃ oB, oB = o.B k := ⟨_, rfl⟩
      rw [← hoK] at e0
      rw [← hoX] at e1 hx
      rw [← hoB] at e2 hX
      have hTz : TT w1 N M ra rcap da dcap L (wr.alloc (.cells #[.int .i64 oK, .int .u64 (oX : Int), .int .i64 oB, .slice (o.A k) (o.M k) (o.C k)] 32)) := hT.below (below_new (Below.refl _ _) _)
      have hRd : Hid _ := read_any hTz oK oX hx oB hX (o.A k) (o.M k) (o.C k)
      clear c0 c1 c2 c3 hc hB hbb hoK hoX hoB hT hTz
      go_wp2_with fail
      refine Calls.mono hRd.out ?_
      rintro e w4 ⟨rfl, p, r, fv, h4⟩
      have hA1 : Hid _ := wAt_gen h4.rd
      have h4H : Hid _ := h4
      clear h4 hRd
      go_wp2_with fail
      refine Calls.mono hA1.out ?_
      rintro e w5 ⟨rfl, hw⟩
      have hw' := hw.symm
      subst hw'
      clear hw hA1
      have hA2 : Hid _ := dAt_gen h4H.out.dc
      go_wp2_with fail
      refine Calls.mono hA2.out ?_
      rintro e w5 ⟨rfl, hw⟩
      have hw' := hw.symm
      subst hw'
      clear hw hA2
      have hL1 : Hid _ := wLeft_gen h4H.out.rd
      go_wp2_with fail
      refine Calls.mono hL1.out ?_
      rintro e w6 ⟨rfl, hR6, F6⟩
      have h6 := h4H.out.real hR6 F6 h4H.out.r8
      have hL3 : Hid _ := dLeft_gen h6.dc
      have h6H : Hid _ := h6
      clear h6 hR6 hL1 h4H
      go_wp2_with fail
      refine Calls.mono hL3.out ?_
      rintro e w7 ⟨rfl, hB7⟩
      have h7 := h6H.out.below hB7
      have hF1 : Hid _ := fault_any h7.rd
      have h7H : Hid _ := h7
      clear h7 hL3 h6H
      obtain ⟨V, hV⟩ : ∃ V, V = fvV fv := ⟨_, rfl⟩
      have hfe := h7H.out.dc.fe
      rw [← hV] at hF1
      have hVH : Hid (V = fvV fv) := hV
      clear hV
      go_wp2_with fail
      refine Calls.mono hF1.out ?_
      rintro e w8 ⟨rfl, hw⟩
      have hw' := hw.symm
      subst hw'
      clear hw hF1
      have hF2 : Hid _ := dFault_gen h7H.out.dc
      obtain ⟨U, hU⟩ : ∃ U, U = fvB fv := ⟨_, rfl⟩
      rw [← hU] at hF2
      have hUH : Hid (U = fvB fv) := hU
      clear hU
      go_wp2_with fail
      refine Calls.mono hF2.out ?_
      rintro e w9 ⟨rfl, hB9⟩
      have h9 := h7H.out.below hB9
      have hSm : Hid _ := same_fv fv hfe w9 (ET_below (ET_below hgH.out hB01.out) h9.bb)
      rw [← hVH.out, ← hUH.out] at hSm
      have h9H : Hid _ := h9
      clear h9 hF2 h7H
      go_wp2_with fail
      refine Calls.mono hSm.out ?_
      rintro e w10 ⟨rfl, hB10⟩
      have hT10 : Hid (TT w1 N M ra rcap da dcap L w10) := ⟨p, r, fv, h9H.out.below hB10⟩
      clear h9H hSm
      go_wp2_with fail
      go_roundw
      case rel => exact ⟨k + 1, by omega, by go_num, hT10.out⟩
      case measure => simp [intOf]; omega
    · obtain rfl : len = k := by omega
      have hbb := below_then hB01.out hT.bb
      have hLi : Hid _ := live_wire wr (ST_below hsH.out hbb)
      have hTH : Hid (TT w1 N M ra rcap da dcap L wr) := hT
      clear hkl hk hOH hT hOBH
      go_wp2_with fail
      refine Calls.mono hLi.out ?_
      rintro e w4 ⟨rfl, BB⟩
      obtain ⟨p, r, fv, h4⟩ := TT.below hTH.out BB
      have hD1 : Hid _ := done_gen h4.rd
      have h4H : Hid _ := h4
      obtain ⟨dv, hdv⟩ : ∃ dv, dv = doneF (natsOf L) L.length p r fv := ⟨_, rfl⟩
      have hdfe := doneF_fe (bs := natsOf L) (n := L.length) (p := p) (r := r) h4.dc.fe
      rw [← hdv] at hD1 hdfe
      obtain ⟨V, hV⟩ : ∃ V, V = fvV dv := ⟨_, rfl⟩
      rw [← hV] at hD1
      have hVH : Hid (V = fvV dv) := hV
      have hdH : Hid (dv = doneF (natsOf L) L.length p r fv) := hdv
      clear h4 hLi hTH hV hdv
      go_wp2_with fail
      refine Calls.mono hD1.out ?_
      rintro e w5 ⟨rfl, hR5, F5⟩
      have h5 := h4H.out.real hR5 F5 h4H.out.r8
      have hD2 : Hid _ := dDone_gen h5.dc
      obtain ⟨U, hU⟩ : ∃ U, U = fvB dv := ⟨_, rfl⟩
      rw [← hdH.out, ← hU] at hD2
      have hUH : Hid (U = fvB dv) := hU
      clear hU
      have h5H : Hid _ := h5
      clear h5 hR5 hD1 h4H
      go_wp2_with fail
      refine Calls.mono hD2.out ?_
      rintro e w6 ⟨rfl, hB6⟩
      have hB16 : Below w1.heap.size w1 w6 := h5H.out.bb.trans (hB6.mono (by have := h5H.out.lo; have := h5H.out.nm; omega))
      have hB06 := below_then hB01.out hB16
      have hSm : Hid _ := same_fv dv hdfe w6 (ET_below hgH.out hB06)
      rw [← hVH.out, ← hUH.out] at hSm
      clear hD2 h5H hB6
      go_wp2_with fail
      refine Calls.mono hSm.out ?_
      rintro e w7 ⟨rfl, hB7⟩
      have hB17 := below_then hB16 hB7
      have hB07 := below_then hB06 hB7
      have hKe : Hid _ := kept_true w.heap.size ba L.length bc (natsOf L) w7 (Nat.lt_of_lt_of_le hz1 hB17.size) (fun j hj => by rw [hB17.cell (p := ⟨w.heap.size, j, none⟩) hz1]; exact hRowH.out.c j hj) hL2H.out (hbvH.out.below hB07)
      clear hSm
      go_wp2_with fail
      refine Calls.mono hKe.out ?_
      rintro e w8 ⟨rfl, hB8⟩
      go_wp2_with fail
      go_ret
      exact ⟨rfl, below_then hB07 hB8⟩
end Go.Proofs.YtlcpkbllpkgihaaDoor
