
import Derived.Test.YticgapplpfaigaaGreatDrI
namespace Go.Proofs.YticgapplpfaigaaGreat
open Go.RowKit
set_option linter.unusedVariables false
set_option linter.unusedSimpArgs false
theorem SRow.self {H m : Nat} {f : Nat → Smp} {w1 wx w' : World} (h : SRow H m f w1 wx) (e : w'.heap[H]? = wx.heap[H]?) (hs : wx.heap.size ≤ w'.heap.size) : SRow H m f w' w' :=
  ⟨fun j hj => by rw [World.cell?_of_block (w := wx) e]; exact h.c0 j hj, fun j hj => by rw [World.cell?_of_block (w := wx) e]; exact h.c1 j hj, fun j hj => by rw [World.cell?_of_block (w := wx) e]; exact h.c2 j hj, fun j => by rw [frozen_block e]; exact h.z j, Below.refl _ _, Nat.lt_of_lt_of_le h.sz hs⟩
theorem TW.other {S R B H o : Nat} {vs vr : Value} {X Y : List Smp} {w : World} (h : TW S R B vs vr X Y w) (h1 : S ≠ H) (h2 : R ≠ H) (h3 : vs.ownBlock ≠ some H) (h4 : vr.ownBlock ≠ some H) (u : Value) : TW S R B vs vr X Y (w.setCell ⟨H, o, none⟩ u) :=
  ⟨h.s.other (p := ⟨H, o, none⟩) h1 h3 u, h.r.other (p := ⟨H, o, none⟩) h2 h4 u, h.ne, h.sr, h.rs, h.vv⟩
set_option maxRecDepth 100000 in
set_option maxHeartbeats 4000000 in
theorem step_load (S R B : Nat) (vs vr : Value) (X : List Smp) (s : Stp) (w : World) (h : TW S R B vs vr X X w) (hL : ∀ W, Below B w W → LIn W s.la s.ls) (hn : X.length + s.ls.length ≤ 1000000000000) (q0 : s.k = 3) :
    Calls Tryz.prog 13 #[.pointer (some ⟨S, 0, none⟩), .pointer (some ⟨R, 0, none⟩), .agg #[.int .i64 s.k, .int .i64 s.t, .int .i64 s.u, .int .u8 (s.vk : Int), .int .i64 s.vx, .slice s.la s.ls.length s.lc]] w fun e w' => e = .returned (.bool true) ∧ ∃ vs' vr', TW S R B vs' vr' (putAll X s.ls) (putAll X s.ls) w' ∧ Below B w w' ∧ TFr S R vs vr vs' vr' w w' := by
  have hT : Hid (TW S R B vs vr X X w) := h
  have hBw : B ≤ w.heap.size := by have := h.s.hB; have := h.s.hN; omega
  have hLH : Hid (∀ W, Below B w W → LIn W s.la s.ls) := hL
  clear h hL
  rw [q0]
  have hX0 : Box w.heap.size s _ := Box.new w s 64
  rw [q0] at hX0
  have hB0 : Below B w (w.alloc (.cells #[.int .i64 3, .int .i64 s.t, .int .i64 s.u, .int .u8 (s.vk : Int), .int .i64 s.vx, .slice s.la s.ls.length s.lc] 64)) := (Below.refl B w).alloc hBw _
  have hp1 : Hid _ := handS_any s.la s.lc s.ls (w.alloc (.cells #[.int .i64 3, .int .i64 s.t, .int .i64 s.u, .int .u8 (s.vk : Int), .int .i64 s.vx, .slice s.la s.ls.length s.lc] 64)) (hLH.out _ hB0) (by omega)
  go_enter Tryz.func13, Tryz.ntmps13
  go_wp2_with fail
  refine Calls.mono hp1.out ?_
  rintro e w1 ⟨rfl, hR1⟩
  have hb1 : Below (w.alloc (.cells #[.int .i64 3, .int .i64 s.t, .int .i64 s.u, .int .u8 (s.vk : Int), .int .i64 s.vx, .slice s.la s.ls.length s.lc] 64)).heap.size (w.alloc (.cells #[.int .i64 3, .int .i64 s.t, .int .i64 s.u, .int .u8 (s.vk : Int), .int .i64 s.vx, .slice s.la s.ls.length s.lc] 64)) w1 := hR1.b
  have hT1 : Hid (TW S R B vs vr X X w1) := (hT.out.alloc _).below hb1
  have hF1 : Hid (TFr S R vs vr vs vr w w1) := (TFr.new w _).trans (TFr.of hb1)
  have hX1 : Box w.heap.size s w1 := hX0.below hb1 (by simp)
  have hB1 : Below B w w1 := hB0.trans (hb1.mono (by have := hB0.size; omega))
  have hHs : (w.alloc (.cells #[.int .i64 3, .int .i64 s.t, .int .i64 s.u, .int .u8 (s.vk : Int), .int .i64 s.vx, .slice s.la s.ls.length s.lc] 64)).heap.size = w.heap.size + 1 := by simp
  rw [hHs] at hR1 ⊢
  obtain ⟨H, hH⟩ : ∃ H, H = w.heap.size + 1 := ⟨_, rfl⟩
  rw [← hH] at hR1 ⊢
  have hwH : w.heap.size < H := by omega
  have hRH : Hid (SRow H (s.ls.length + 9) (handSF s.ls) (w.alloc (.cells #[.int .i64 3, .int .i64 s.t, .int .i64 s.u, .int .u8 (s.vk : Int), .int .i64 s.vx, .slice s.la s.ls.length s.lc] 64)) w1) := hR1
  have hH1 : H < w1.heap.size := hR1.sz
  have hp2 : Hid _ := load_any S B vs X s.ls (some ⟨H, 0, none⟩) (s.ls.length + 9) w1 hT1.out.s (hR1.lin (by omega) (hLH.out _ hB1).1) hn
  obtain ⟨x0, x1, x2, x3, x4, x5, x6⟩ := hX1
  have hX1H : Hid (Box w.heap.size s w1) := ⟨x0, x1, x2, x3, x4, x5, x6⟩
  clear hp1 hX0 hR1 hb1 hB0 hHs hH
  go_wp2_with fail
  refine Calls.mono hp2.out ?_
  rintro e w2 ⟨r1, vs', K, rfl, hKr, hKm, h1, f1, hD1, _, _⟩
  rw [← putAll_load hT.out.s.hr hKr hKm] at h1
  have hD1' : w2.ownsRow w1.heap.size 95 10 r1 (rdl X (putAll X s.ls)).length (encD (rdl X (putAll X s.ls))) := by
    rw [putAll_load hT.out.s.hr hKr hKm, rdl_load hT.out.s.hr _ hKr]; exact hD1
  have hD1H : Hid (w2.ownsRow w1.heap.size 95 10 r1 (rdl X (putAll X s.ls)).length (encD (rdl X (putAll X s.ls)))) := hD1'
  have hT2 : Hid (TW S R B vs' vr (putAll X s.ls) X w2) := hT1.out.onS h1 f1.r
  have hX2 : Box w.heap.size s w2 := hX1H.out.keep (f1.r.newer hT.out.s (Nat.le_refl _) x0) f1.b.size
  have hB2 : Below B w w2 := hB1.trans (f1.below hT1.out.s)
  have hR2 : Hid (SRow H (s.ls.length + 9) (handSF s.ls) w2 w2) := hRH.out.self (f1.r.newer hT.out.s (by omega) hH1) f1.b.size
  have hz2 : w1.heap.size ≤ w2.heap.size := f1.b.size
  have hF2 : Hid (TFr S R vs vr vs' vr w w2) := hF1.out.trans (TFr.onS f1.r)
  have hvH : Hid (vs'.ownBlock ≠ some H) := fun e => by
    rcases f1.r.own H e with e1 | e1
    · have := hT.out.s.row.lt e1; omega
    · omega
  have hp3 : Hid _ := rload_any R B vr X s.ls s.la s.lc w2 hT2.out.r (fun W hb => hLH.out W (hB2.trans hb)) hn
  obtain ⟨a1, c1, hr1, _⟩ := own_DIn hD1'
  have hr1H : Hid (r1 = .slice a1 (rdl X (putAll X s.ls)).length c1) := hr1
  rw [hr1]
  clear x0 x1 x2 x3 x4 x5 x6
  obtain ⟨x0, x1, x2, x3, x4, x5, x6⟩ := hX2
  have hX2H : Hid (Box w.heap.size s w2) := ⟨x0, x1, x2, x3, x4, x5, x6⟩
  rw [q0] at x1
  clear hp2 h1 hD1 hD1' hKr hKm hT1 hRH hr1 hX1H
  go_wp2_with fail
  refine Calls.mono hp3.out ?_
  rintro e w3 ⟨r2, vr', rfl, h3, f3, hD2⟩
  have hT3 : Hid (TW S R B vs' vr' (putAll X s.ls) (putAll X s.ls) w3) := hT2.out.onR h3 f3
  have hB3 : Below B w w3 := hB2.trans (f3.below hT2.out.r)
  have hF3 : Hid (TFr S R vs vr vs' vr' w w3) := hF2.out.trans (TFr.onR f3)
  have hX3 : Hid (Box w.heap.size s w3) := hX2H.out.keep (f3.newer hT.out.r (Nat.le_refl _) x0) f3.b.size
  have hR3 : Hid (SRow H (s.ls.length + 9) (handSF s.ls) w3 w3) := hR2.out.self (f3.newer hT.out.r (by omega) hR2.out.sz) f3.b.size
  have hwH2 : Hid (vr'.ownBlock ≠ some H) := fun e => by
    rcases f3.own H e with e1 | e1
    · have := hT.out.r.row.lt e1; omega
    · have := hR2.out.sz; omega
  have hD13 : w3.ownsRow w1.heap.size 95 10 r1 (rdl X (putAll X s.ls)).length (encD (rdl X (putAll X s.ls))) := own_keepD hD1H.out (fun g e => f3.newer hT.out.r (by have := (hD1H.out.lt g e).1; omega) (hD1H.out.lt g e).2)
  rw [hr1H.out] at hD13
  obtain ⟨a1', c1', e1', hI1⟩ := own_DIn hD13
  injection e1' with e2' e3' e4'
  subst e2'
  clear e3' e4'
  obtain ⟨a2, c2, hr2, hI2⟩ := own_DIn hD2
  rw [hr2]
  have hml : (rdl X (putAll X s.ls)).length ≤ 1000000000000 := by
    have h5 := rdl_len X (putAll X s.ls)
    have h6 := (putAll_spec hT.out.s.hr s.ls s.ls.length (Nat.le_refl _)).2.1
    rw [List.take_length] at h6
    omega
  have hsm : Hid _ := sameD_any a1 a2 c1 c2 (rdl X (putAll X s.ls)) w3 hI1 hI2 hml
  have hz3 : w.heap.size < w3.heap.size := hX3.out.1
  clear hp3 h3 hD2 hT2 hR2 x0 x1 x2 x3 x4 x5 x6 hD13 hI1 hI2 hr2 hX2H hml
  generalize (rdl X (putAll X s.ls)).length = nd at *
  go_wp2_with fail
  refine Calls.mono hsm.out ?_
  rintro e w4 ⟨rfl, hb4⟩
  have hT4 : Hid (TW S R B vs' vr' (putAll X s.ls) (putAll X s.ls) w4) := hT3.out.below hb4
  have hB4 : Below B w w4 := hB3.trans (hb4.mono (by omega))
  have hF4 : Hid (TFr S R vs vr vs' vr' w w4) := hF3.out.trans (TFr.of hb4)
  have hR4 : Hid (SRow H (s.ls.length + 9) (handSF s.ls) w4 w4) := hR3.out.self (hb4.block _ hR3.out.sz) hb4.size
  obtain ⟨x0, x1, x2, x3, x4, x5, x6⟩ := hX3.out.below hb4 hz3
  have hkp : Hid _ := keptS_any H s.la s.lc s.ls w4 w4 hR4.out (hLH.out _ hB4) (by omega)
  clear hsm hT3 hR3 hX3 hb4 x1 x2 x3 x4 x5
  go_wp2_with fail
  refine Calls.mono hkp.out ?_
  rintro e w5 ⟨rfl, hb5⟩
  have h50 : Hid (TW S R B vs' vr' (putAll X s.ls) (putAll X s.ls) w5 ∧ (∃ f W1, SRow H (s.ls.length + 9) f W1 w5) ∧ Below B w w5) := ⟨hT4.out.below hb5, ⟨_, _, hR4.out.self (hb5.block _ hR4.out.sz) hb5.size⟩, hB4.trans (hb5.mono (by have := hB4.size; omega))⟩
  have hF5 : Hid (TFr S R vs vr vs' vr' w w5) := hF4.out.trans (TFr.of hb5)
  have hSH : S ≠ H := by have := hT.out.s.hN; omega
  have hRH : R ≠ H := by have := hT.out.r.hN; omega
  clear hkp hT4 hR4 hb5 x0 x6
  generalize s.ls.length = n at *
  go_wp2_with fail
  go_loopw [19] (fun i wr => ∃ k : Nat, k ≤ n ∧ i = .int .i64 (k : Int) ∧ Hid (TW S R B vs' vr' (putAll X s.ls) (putAll X s.ls) wr ∧ (∃ f W1, SRow H (n + 9) f W1 wr) ∧ Below B w wr ∧ TFr S R vs vr vs' vr' w wr)) (fun i _ => n - (intOf i).toNat)
  case atStart => exact ⟨0, by omega, rfl, h50.out.1, h50.out.2.1, h50.out.2.2, hF5.out⟩
  case round =>
    obtain ⟨k, hk, rfl, hrr⟩ := hrel
    clear h50
    by_cases hkn : k < n
    · have hkI : (k : Int) < (n : Int) := by omega
      have k1 : (0 : Int) ≤ (k : Int) := by omega
      obtain ⟨hTr, ⟨f, W1, hR⟩, hBr, hFr⟩ := hrr.out
      have y1 := hR.c0 k (by omega)
      have y2 := hR.c1 k (by omega)
      have y3 := hR.c2 k (by omega)
      have y4 := hR.z (k * 3)
      have y5 := hR.z (k * 3 + 1)
      have y6 := hR.z (k * 3 + 2)
      have hBH : B ≤ H := by omega
      have hnx : Hid (TW S R B vs' vr' (putAll X s.ls) (putAll X s.ls) (((wr.setCell ⟨H, k * 3, none⟩ (.int .i64 77)).setCell ⟨H, k * 3 + 1, none⟩ (.int .u8 0)).setCell ⟨H, k * 3 + 2, none⟩ (.int .i64 0)) ∧ (∃ f W1, SRow H (n + 9) f W1 (((wr.setCell ⟨H, k * 3, none⟩ (.int .i64 77)).setCell ⟨H, k * 3 + 1, none⟩ (.int .u8 0)).setCell ⟨H, k * 3 + 2, none⟩ (.int .i64 0))) ∧ Below B w (((wr.setCell ⟨H, k * 3, none⟩ (.int .i64 77)).setCell ⟨H, k * 3 + 1, none⟩ (.int .u8 0)).setCell ⟨H, k * 3 + 2, none⟩ (.int .i64 0)) ∧ TFr S R vs vr vs' vr' w (((wr.setCell ⟨H, k * 3, none⟩ (.int .i64 77)).setCell ⟨H, k * 3 + 1, none⟩ (.int .u8 0)).setCell ⟨H, k * 3 + 2, none⟩ (.int .i64 0))) :=
        ⟨((hTr.other hSH hRH hvH.out hwH2.out _).other hSH hRH hvH.out hwH2.out _).other hSH hRH hvH.out hwH2.out _, ⟨_, _, hR.set k ⟨77, 0, 0⟩ (by omega)⟩, ((hBr.setCell (p := ⟨H, k * 3, none⟩) hBH _).setCell (p := ⟨H, k * 3 + 1, none⟩) hBH _).setCell (p := ⟨H, k * 3 + 2, none⟩) hBH _, ((hFr.cell (by omega) _).cell (by omega) _).cell (by omega) _⟩
      clear hR hrr hTr hBr hFr
      go_wp2_with fail
      exact ⟨⟨k + 1, by omega, by go_num, hnx.out⟩, by simp [intOf]; omega⟩
    · obtain rfl : k = n := by omega
      go_wp2_with fail
      go_ret
      exact ⟨rfl, vs', vr', hrr.out.1, hrr.out.2.2.1, hrr.out.2.2.2⟩
/-- a step of any kind. -/
theorem step_any (S R B : Nat) (vs vr : Value) (X : List Smp) (s : Stp) (w : World) (h : TW S R B vs vr X X w) (hs : s.ok) (hL : ∀ W, Below B w W → LIn W s.la s.ls) (hn : X.length + s.ls.length + 1 ≤ 1000000000000) :
    Calls Tryz.prog 13 #[.pointer (some ⟨S, 0, none⟩), .pointer (some ⟨R, 0, none⟩), .agg #[.int .i64 s.k, .int .i64 s.t, .int .i64 s.u, .int .u8 (s.vk : Int), .int .i64 s.vx, .slice s.la s.ls.length s.lc]] w fun e w' => e = .returned (.bool true) ∧ ∃ vs' vr', TW S R B vs' vr' (run1 X s) (run1 X s) w' ∧ Below B w w' ∧ TFr S R vs vr vs' vr' w w' := by
  unfold run1
  by_cases q0 : s.k = 0
  · rw [if_pos q0]; exact step_put S R B vs vr X s w h ⟨hs.1, hs.2.2⟩ (by omega) q0
  · rw [if_neg q0]
    by_cases q1 : s.k = 1
    · rw [if_pos q1]; exact step_cut S R B vs vr X s w h (by omega) q1
    · rw [if_neg q1]
      by_cases q2 : s.k = 2
      · rw [if_pos q2]; exact step_del S R B vs vr X s w h (by omega) q2
      · rw [if_neg q2]
        by_cases q3 : s.k = 3
        · rw [if_pos q3]; exact step_load S R B vs vr X s w h hL (by omega) q3
        · rw [if_neg q3]; exact step_none S R B vs vr X s w h ⟨q0, q1, q2, q3⟩
theorem run1_len {X : List Smp} (hX : Rise X) (s : Stp) : (run1 X s).length ≤ X.length + s.ls.length + 1 := by
  unfold run1
  split
  · have := putL_len (l := X) ⟨s.t, s.vk, s.vx⟩; omega
  · split
    · have : (cutL X s.t).length ≤ X.length := by
        unfold cutL
        split
        · exact (cut_sub X _ _ (by omega)).length_le
        · exact Nat.le_refl _
      omega
    · split
      · have : (delL X s.t s.u).length ≤ X.length := (cut_sub X _ _ (Nat.le_max_left _ _)).length_le
        omega
      · split
        · have h6 := (putAll_spec hX s.ls s.ls.length (Nat.le_refl _)).2.1
          rw [List.take_length] at h6
          omega
        · omega
end Go.Proofs.YticgapplpfaigaaGreat
