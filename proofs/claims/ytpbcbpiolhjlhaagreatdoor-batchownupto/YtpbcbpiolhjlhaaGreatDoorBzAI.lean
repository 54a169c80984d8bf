
import Derived.Test.YtpbcbpiolhjlhaaGreatDoorBzAA
import Derived.Test.YtpbcbpiolhjlhaaGreatDoorPoCq
import Derived.Test.YtpbcbpiolhjlhaaGreatDoorBzAD

namespace Go.Proofs.YtpbcbpiolhjlhaaGreatDoor.So.Wr
open Go.RowKit
set_option linter.unusedVariables false
set_option linter.unusedSimpArgs false
theorem wrs_info : (Tryz.prog.info? 23).map (fun i => (i.zero, i.bytes, i.size)) = some (some (.slice none 0 0), 24, 1) := by kernel_rfl
def plV (b0 cp n : Nat) (h : Nat → Pc) (m : Nat) : List Value := (List.range m).map fun i => pV b0 cp n (h i)
theorem plV_more (b0 cp n : Nat) (h : Nat → Pc) (m : Nat) (p : Pc) : plV b0 cp n (updP h m p) (m + 1) = plV b0 cp n h m ++ [pV b0 cp n p] := by
  unfold plV
  rw [List.range_succ, List.map_append]
  congr 1
  · apply List.map_congr_left
    intro i hi
    unfold updP
    rw [if_neg (by have := List.mem_range.1 hi; omega)]
  · simp [updP]
/-- what stands while the row is cut. -/
structure CT1 (w : World) (b0 cp n : Nat) (ah : Nat → Nat → Bool) (x m : Nat) (v : Value) (h : Nat → Pc) (wr : World) : Prop where
  ct : Cts ah n m x h
  few : m ≤ x
  row : OH wr 23 w.heap.size v (plV b0 cp n h m)
  bl : Below w.heap.size w wr
theorem CT1.below {w : World} {b0 cp n x m : Nat} {ah : Nat → Nat → Bool} {v : Value} {h : Nat → Pc} {wr wx : World} (s : CT1 w b0 cp n ah x m v h wr) (hB : Below wr.heap.size wr wx) : CT1 w b0 cp n ah x m v h wx := ⟨s.ct, s.few, s.row.below hB (Nat.le_refl _), s.bl.trans (hB.mono s.bl.size)⟩
set_option maxRecDepth 100000 in
set_option maxHeartbeats 8000000 in
theorem pieces_any (w : World) (b0 cp n : Nat) (X : Nat → WrA) (ah : Nat → Nat → Bool) (hA : AhA w 27 n X ah) (hw : RW w b0 cp n X) (hn : n ≤ 1099511627770) (hcp : n ≤ cp) :
    Calls Tryz.prog 74 #[.slice (some ⟨b0, 0, none⟩) n cp, .func (.func 27) #[] #[]] w fun e w' => ∃ a m c h, e = .returned (.slice a m c) ∧ CT1 w b0 cp n ah n m (.slice a m c) h w' := by
  have hAH : Hid (∀ (a b : Nat) (W : World), a < n → b < n → Below w.heap.size w W → Calls Tryz.prog 27 #[wV (X a).1 (X a).2.1 (X a).2.2, wV (X b).1 (X b).2.1 (X b).2.2] W fun e w' => e = .returned (.bool (ah a b)) ∧ Below W.heap.size W w') := fun a b W h1 h2 h3 => hA a b W h1 h2 h3
  have hwH : Hid (RW w b0 cp n X) := hw
  clear hA hw
  go_enter Tryz.func74, Tryz.ntmps74
  go_wp2_with fail
  go_loopw [0, 5] (fun vr vc wr => ∃ (x m lr cr c3 : Nat) (ar a3 : Option Addr) (h : Nat → Pc), vr = .slice ar lr cr ∧ vc = .slice a3 m c3 ∧ x ≤ n ∧ Hid (lr = n - x ∧ (x < n → ar = some ⟨b0, x * 6, none⟩ ∧ cr = cp - x)) ∧ Hid (CT1 w b0 cp n ah x m (.slice a3 m c3) h wr)) (fun vr _ _ => slLen vr)
  case atStart => exact ⟨0, 0, n, cp, 0, some ⟨b0, 0, none⟩, none, fun _ => (0, 0), rfl, rfl, Nat.zero_le _, ⟨by omega, fun _ => ⟨rfl, by omega⟩⟩, ⟨Cts.zero _ _, Nat.le_refl _, OH.nil _ _ _, Below.refl _ _⟩⟩
  case round =>
    obtain ⟨x, m, lr, cr, c3, ar, a3, h, rfl, rfl, hxn, hlr, hC⟩ := hrel
    by_cases hx : 0 < lr
    · have hxI : (lr : Int) > 0 := by omega
      have hxJ : (0 : Int) < (lr : Int) := by omega
      obtain ⟨e1, e2⟩ := hlr.out
      obtain ⟨e3, e4⟩ := e2 (by omega)
      subst e3
      have hl : Hid (lr = n - x) := e1
      have hcH : Hid (cr = cp - x) := e4
      have hxl : x + lr = n := by omega
      have hlH : Hid (x + lr = n) := hxl
      have hcrn : lr ≤ n := by omega
      have hlc : lr ≤ cr := by omega
      clear e1 e2 e4 hlr hxl
      go_wp2_with fail
      go_loopw [6] (fun vk wx => ∃ k : Nat, vk = .int .i64 (k : Int) ∧ 1 ≤ k ∧ k ≤ lr ∧ Hid (Run ah (x, x + k)) ∧ Hid (CT1 w b0 cp n ah x m (.slice a3 m c3) h wx)) (fun vk _ => lr - (intOf vk).toNat)
      case atStart => exact ⟨1, rfl, Nat.le_refl _, hx, Run.one ah x, hC⟩
      case round =>
        clear hC
        obtain ⟨k, rfl, hk1, hkl, hrun, hC⟩ := hrel
        have kw : IntKind.i64.wrap ((k : Int) + 1) = ((k + 1 : Nat) : Int) := IntWalk.i64_in _ (by omega)
        have kv : IntKind.i64.wrap ((k : Int) - 1) = (k : Int) - 1 := IntWalk.i64_in _ (by omega)
        have k0 : (0 : Int) ≤ (k : Int) := by omega
        have k2 : (0 : Int) ≤ (k : Int) - 1 := by omega
        have k4 : (1 : Int) ≤ (k : Int) := by omega
        by_cases hk : k < lr
        · have hkI : (k : Int) < (lr : Int) := by omega
          have hkd : decide ((k : Int) < (lr : Int)) = true := decide_eq_true hkI
          have k3 : (k : Int) - 1 < (lr : Int) := by omega
          have kne : ¬ k = lr := by omega
          have ax := (hwH.out.2 (x + (k - 1)) (by have := hlH.out; omega)).below hC.out.bl hwH.out.1
          have ay := (hwH.out.2 (x + k) (by have := hlH.out; omega)).below hC.out.bl hwH.out.1
          rw [Nat.add_mul] at ax ay
          have bl : b0 < wr.heap.size := Nat.lt_of_lt_of_le hwH.out.1 hC.out.bl.size
          have CH : Hid (∀ W, Below w.heap.size w W → Calls Tryz.prog 27 #[wV (X (x + (k - 1))).1 (X (x + (k - 1))).2.1 (X (x + (k - 1))).2.2, wV (X (x + k)).1 (X (x + k)).2.1 (X (x + k)).2.2] W fun e w' => e = .returned (.bool (ah (x + k - 1) (x + k))) ∧ Below W.heap.size W w') := fun W hW => by
            have := hAH.out (x + k - 1) (x + k) W (by have := hlH.out; omega) (by have := hlH.out; omega) hW
            rw [show x + k - 1 = x + (k - 1) by omega] at this ⊢
            exact this
          obtain ⟨bv, hbv⟩ : ∃ bv, ah (x + k - 1) (x + k) = bv := ⟨_, rfl⟩
          rw [hbv] at CH
          have hbH : Hid (ah (x + k - 1) (x + k) = bv) := hbv
          clear hbv
          unfold WAt at ax ay
          unfold wV at CH
          generalize X (x + (k - 1)) = Xx at ax CH
          generalize X (x + k) = Yy at ay CH
          obtain ⟨XX, tx, cx⟩ := Xx
          obtain ⟨YY, ty, cy⟩ := Yy
          simp only at ax ay CH
          generalize XX.s.t.length = nx at ax CH
          generalize YY.s.t.length = ny at ay CH
          obtain ⟨ca1, ca2, ca3, ca4, ca5, ca6⟩ := ax
          obtain ⟨b1, b2, b3, b4, b5, b6⟩ := ay
          cases bv with
          | true =>
            go_wp2_with fail
            refine wp_region_noPanic ?_
            refine wp_region_held_drew (S := fun W => (W.cell? ⟨b0, x * 6 + (k - 1) * 6, none⟩ = some (.string XX.s.m) ∧ W.cell? ⟨b0, x * 6 + (k - 1) * 6 + 1, none⟩ = some (.slice tx nx cx) ∧ W.cell? ⟨b0, x * 6 + (k - 1) * 6 + 2, none⟩ = some (.string XX.s.f) ∧ W.cell? ⟨b0, x * 6 + (k - 1) * 6 + 3, none⟩ = some (.int .i64 XX.tm) ∧ W.cell? ⟨b0, x * 6 + (k - 1) * 6 + 4, none⟩ = some (.int .u8 (XX.kd : Int)) ∧ W.cell? ⟨b0, x * 6 + (k - 1) * 6 + 5, none⟩ = some (.int .i64 XX.n)) ∧ W.cell? ⟨b0, x * 6 + k * 6, none⟩ = some (.string YY.s.m) ∧ W.cell? ⟨b0, x * 6 + k * 6 + 1, none⟩ = some (.slice ty ny cy) ∧ W.cell? ⟨b0, x * 6 + k * 6 + 2, none⟩ = some (.string YY.s.f) ∧ W.cell? ⟨b0, x * 6 + k * 6 + 3, none⟩ = some (.int .i64 YY.tm) ∧ W.cell? ⟨b0, x * 6 + k * 6 + 4, none⟩ = some (.int .u8 (YY.kd : Int)) ∧ W.cell? ⟨b0, x * 6 + k * 6 + 5, none⟩ = some (.int .i64 YY.n)) (by kernel_rfl) ⟨⟨ca1, ca2, ca3, ca4, ca5, ca6⟩, b1, b2, b3, b4, b5, b6⟩ (fun hHeld => ?_)
            refine zT 0 (v := ?_) rfl ?_ ?_
            rotate_left 1
            · (intro w0 hSw; (try dsimp only at hSw); obtain ⟨⟨s1, s2, s3, s4, s5, s6⟩, t1, t2, t3, t4, t5, t6⟩ := hSw; go_simp; try with_reducible rfl)
            (try simp only [z1, z2, z3]); (try simp only [Act.put, z4, z5, z6])
            refine zT 1 (v := ?_) rfl ?_ ?_
            rotate_left 1
            · (intro w0 hSw; (try dsimp only at hSw); obtain ⟨⟨s1, s2, s3, s4, s5, s6⟩, t1, t2, t3, t4, t5, t6⟩ := hSw; go_simp; try with_reducible rfl)
            (try simp only [z1, z2, z3]); (try simp only [Act.put, z4, z5, z6])
            refine zT 2 (v := ?_) rfl ?_ ?_
            rotate_left 1
            · (intro w0 hSw; (try dsimp only at hSw); obtain ⟨⟨s1, s2, s3, s4, s5, s6⟩, t1, t2, t3, t4, t5, t6⟩ := hSw; go_simp; try with_reducible rfl)
            (try simp only [z1, z2, z3]); (try simp only [Act.put, z4, z5, z6])
            refine zT 3 (v := ?_) rfl ?_ ?_
            rotate_left 1
            · (intro w0 hSw; (try dsimp only at hSw); obtain ⟨⟨s1, s2, s3, s4, s5, s6⟩, t1, t2, t3, t4, t5, t6⟩ := hSw; go_simp; try with_reducible rfl)
            (try simp only [z1, z2, z3]); (try simp only [Act.put, z4, z5, z6])
            refine zT 4 (v := ?_) rfl ?_ ?_
            rotate_left 1
            · (intro w0 hSw; (try dsimp only at hSw); obtain ⟨⟨s1, s2, s3, s4, s5, s6⟩, t1, t2, t3, t4, t5, t6⟩ := hSw; go_simp; try with_reducible rfl)
            (try simp only [z1, z2, z3]); (try simp only [Act.put, z4, z5, z6])
            refine zT 5 (v := ?_) rfl ?_ ?_
            rotate_left 1
            · (intro w0 hSw; (try dsimp only at hSw); obtain ⟨⟨s1, s2, s3, s4, s5, s6⟩, t1, t2, t3, t4, t5, t6⟩ := hSw; go_simp; try with_reducible rfl)
            (try simp only [z1, z2, z3]); (try simp only [Act.put, z4, z5, z6])
            refine zT 6 (v := ?_) rfl ?_ ?_
            rotate_left 1
            · (intro w0 hSw; (try dsimp only at hSw); obtain ⟨⟨s1, s2, s3, s4, s5, s6⟩, t1, t2, t3, t4, t5, t6⟩ := hSw; go_simp; try with_reducible rfl)
            (try simp only [z1, z2, z3]); (try simp only [Act.put, z4, z5, z6])
            refine zT 7 (v := ?_) rfl ?_ ?_
            rotate_left 1
            · (intro w0 hSw; (try dsimp only at hSw); obtain ⟨⟨s1, s2, s3, s4, s5, s6⟩, t1, t2, t3, t4, t5, t6⟩ := hSw; go_simp; try with_reducible rfl)
            (try simp only [z1, z2, z3]); (try simp only [Act.put, z4, z5, z6])
            refine zT 8 (v := ?_) rfl ?_ ?_
            rotate_left 1
            · (intro w0 hSw; (try dsimp only at hSw); obtain ⟨⟨s1, s2, s3, s4, s5, s6⟩, t1, t2, t3, t4, t5, t6⟩ := hSw; go_simp; try with_reducible rfl)
            (try simp only [z1, z2, z3]); (try simp only [Act.put, z4, z5, z6])
            refine zT 9 (v := ?_) rfl ?_ ?_
            rotate_left 1
            · (intro w0 hSw; (try dsimp only at hSw); obtain ⟨⟨s1, s2, s3, s4, s5, s6⟩, t1, t2, t3, t4, t5, t6⟩ := hSw; go_simp; try with_reducible rfl)
            (try simp only [z1, z2, z3]); (try simp only [Act.put, z4, z5, z6])
            refine zT 10 (v := ?_) rfl ?_ ?_
            rotate_left 1
            · (intro w0 hSw; (try dsimp only at hSw); obtain ⟨⟨s1, s2, s3, s4, s5, s6⟩, t1, t2, t3, t4, t5, t6⟩ := hSw; go_simp; try with_reducible rfl)
            (try simp only [z1, z2, z3]); (try simp only [Act.put, z4, z5, z6])
            refine zT 11 (v := ?_) rfl ?_ ?_
            rotate_left 1
            · (intro w0 hSw; (try dsimp only at hSw); obtain ⟨⟨s1, s2, s3, s4, s5, s6⟩, t1, t2, t3, t4, t5, t6⟩ := hSw; go_simp; try with_reducible rfl)
            (try simp only [z1, z2, z3]); (try simp only [Act.put, z4, z5, z6])
            refine zT 12 (v := ?_) rfl ?_ ?_
            rotate_left 1
            · (intro w0 hSw; (try dsimp only at hSw); obtain ⟨⟨s1, s2, s3, s4, s5, s6⟩, t1, t2, t3, t4, t5, t6⟩ := hSw; go_simp; try with_reducible rfl)
            (try simp only [z1, z2, z3]); (try simp only [Act.put, z4, z5, z6])
            refine zT 13 (v := ?_) rfl ?_ ?_
            rotate_left 1
            · (intro w0 hSw; (try dsimp only at hSw); obtain ⟨⟨s1, s2, s3, s4, s5, s6⟩, t1, t2, t3, t4, t5, t6⟩ := hSw; go_simp; try with_reducible rfl)
            (try simp only [z1, z2, z3]); (try simp only [Act.put, z4, z5, z6])
            refine zT 14 (v := ?_) rfl ?_ ?_
            rotate_left 1
            · (intro w0 hSw; (try dsimp only at hSw); obtain ⟨⟨s1, s2, s3, s4, s5, s6⟩, t1, t2, t3, t4, t5, t6⟩ := hSw; go_simp; try with_reducible rfl)
            (try simp only [z1, z2, z3]); (try simp only [Act.put, z4, z5, z6])
            refine wpAnyH_ready (rs := [15]) (by kernel_rfl) (by simp) ?_
            refine AllReadyH.cons (o := _) rfl (fun K hK => ?_) AllReadyH.nil
            go_simp
            refine Calls.mono (CH.out _ (show Below w.heap.size w wr.drew from hC.out.bl.drew)) ?_
            rintro e w' ⟨rfl, BB⟩
            try dsimp only
            refine hK _ _ ?_ (fun hHeld => ?_)
            · exact ⟨⟨by rw [BB.cell (p := ⟨b0, x * 6 + (k - 1) * 6, none⟩) bl]; exact ca1, by rw [BB.cell (p := ⟨b0, x * 6 + (k - 1) * 6 + 1, none⟩) bl]; exact ca2, by rw [BB.cell (p := ⟨b0, x * 6 + (k - 1) * 6 + 2, none⟩) bl]; exact ca3, by rw [BB.cell (p := ⟨b0, x * 6 + (k - 1) * 6 + 3, none⟩) bl]; exact ca4, by rw [BB.cell (p := ⟨b0, x * 6 + (k - 1) * 6 + 4, none⟩) bl]; exact ca5, by rw [BB.cell (p := ⟨b0, x * 6 + (k - 1) * 6 + 5, none⟩) bl]; exact ca6⟩, by rw [BB.cell (p := ⟨b0, x * 6 + k * 6, none⟩) bl]; exact b1, by rw [BB.cell (p := ⟨b0, x * 6 + k * 6 + 1, none⟩) bl]; exact b2, by rw [BB.cell (p := ⟨b0, x * 6 + k * 6 + 2, none⟩) bl]; exact b3, by rw [BB.cell (p := ⟨b0, x * 6 + k * 6 + 3, none⟩) bl]; exact b4, by rw [BB.cell (p := ⟨b0, x * 6 + k * 6 + 4, none⟩) bl]; exact b5, by rw [BB.cell (p := ⟨b0, x * 6 + k * 6 + 5, none⟩) bl]; exact b6⟩
            clear hK K
            (try simp only [z1, z2, z3]); (try simp only [Act.put, z4, z5, z6])
            refine zT 16 (v := ?_) rfl ?_ ?_
            rotate_left 1
            · (intro w0 hSw; (try dsimp only at hSw); obtain ⟨⟨s1, s2, s3, s4, s5, s6⟩, t1, t2, t3, t4, t5, t6⟩ := hSw; go_simp; try with_reducible rfl)
            (try simp only [z1, z2, z3]); (try simp only [Act.put, z4, z5, z6])
            refine wpAnyH_done (by kernel_rfl) ?_ _
            refine NoPanic.normal ?_
            have hC2 : Hid (CT1 w b0 cp n ah x m (.slice a3 m c3) h w') := hC.out.below ((show Below wr.heap.size wr wr.drew from (Below.refl _ wr).drew).trans BB)
            have nx : Hid (Run ah (x, x + (k + 1))) := hrun.out.more hk1 hbH.out
            clear ca1 ca2 ca3 ca4 ca5 ca6 b1 b2 b3 b4 b5 b6 BB CH hbH hC bl hHeld hrun
            go_wp2_with fail
            exact ⟨⟨k + 1, by first | rfl | simp, by omega, by omega, nx, hC2⟩, by simp [intOf]; omega⟩
          | false =>
            go_wp2_with fail
            refine wp_region_noPanic ?_
            refine wp_region_held_drew (S := fun W => (W.cell? ⟨b0, x * 6 + (k - 1) * 6, none⟩ = some (.string XX.s.m) ∧ W.cell? ⟨b0, x * 6 + (k - 1) * 6 + 1, none⟩ = some (.slice tx nx cx) ∧ W.cell? ⟨b0, x * 6 + (k - 1) * 6 + 2, none⟩ = some (.string XX.s.f) ∧ W.cell? ⟨b0, x * 6 + (k - 1) * 6 + 3, none⟩ = some (.int .i64 XX.tm) ∧ W.cell? ⟨b0, x * 6 + (k - 1) * 6 + 4, none⟩ = some (.int .u8 (XX.kd : Int)) ∧ W.cell? ⟨b0, x * 6 + (k - 1) * 6 + 5, none⟩ = some (.int .i64 XX.n)) ∧ W.cell? ⟨b0, x * 6 + k * 6, none⟩ = some (.string YY.s.m) ∧ W.cell? ⟨b0, x * 6 + k * 6 + 1, none⟩ = some (.slice ty ny cy) ∧ W.cell? ⟨b0, x * 6 + k * 6 + 2, none⟩ = some (.string YY.s.f) ∧ W.cell? ⟨b0, x * 6 + k * 6 + 3, none⟩ = some (.int .i64 YY.tm) ∧ W.cell? ⟨b0, x * 6 + k * 6 + 4, none⟩ = some (.int .u8 (YY.kd : Int)) ∧ W.cell? ⟨b0, x * 6 + k * 6 + 5, none⟩ = some (.int .i64 YY.n)) (by kernel_rfl) ⟨⟨ca1, ca2, ca3, ca4, ca5, ca6⟩, b1, b2, b3, b4, b5, b6⟩ (fun hHeld => ?_)
            refine zT 0 (v := ?_) rfl ?_ ?_
            rotate_left 1
            · (intro w0 hSw; (try dsimp only at hSw); obtain ⟨⟨s1, s2, s3, s4, s5, s6⟩, t1, t2, t3, t4, t5, t6⟩ := hSw; go_simp; try with_reducible rfl)
            (try simp only [z1, z2, z3]); (try simp only [Act.put, z4, z5, z6])
            refine zT 1 (v := ?_) rfl ?_ ?_
            rotate_left 1
            · (intro w0 hSw; (try dsimp only at hSw); obtain ⟨⟨s1, s2, s3, s4, s5, s6⟩, t1, t2, t3, t4, t5, t6⟩ := hSw; go_simp; try with_reducible rfl)
            (try simp only [z1, z2, z3]); (try simp only [Act.put, z4, z5, z6])
            refine zT 2 (v := ?_) rfl ?_ ?_
            rotate_left 1
            · (intro w0 hSw; (try dsimp only at hSw); obtain ⟨⟨s1, s2, s3, s4, s5, s6⟩, t1, t2, t3, t4, t5, t6⟩ := hSw; go_simp; try with_reducible rfl)
            (try simp only [z1, z2, z3]); (try simp only [Act.put, z4, z5, z6])
            refine zT 3 (v := ?_) rfl ?_ ?_
            rotate_left 1
            · (intro w0 hSw; (try dsimp only at hSw); obtain ⟨⟨s1, s2, s3, s4, s5, s6⟩, t1, t2, t3, t4, t5, t6⟩ := hSw; go_simp; try with_reducible rfl)
            (try simp only [z1, z2, z3]); (try simp only [Act.put, z4, z5, z6])
            refine zT 4 (v := ?_) rfl ?_ ?_
            rotate_left 1
            · (intro w0 hSw; (try dsimp only at hSw); obtain ⟨⟨s1, s2, s3, s4, s5, s6⟩, t1, t2, t3, t4, t5, t6⟩ := hSw; go_simp; try with_reducible rfl)
            (try simp only [z1, z2, z3]); (try simp only [Act.put, z4, z5, z6])
            refine zT 5 (v := ?_) rfl ?_ ?_
            rotate_left 1
            · (intro w0 hSw; (try dsimp only at hSw); obtain ⟨⟨s1, s2, s3, s4, s5, s6⟩, t1, t2, t3, t4, t5, t6⟩ := hSw; go_simp; try with_reducible rfl)
            (try simp only [z1, z2, z3]); (try simp only [Act.put, z4, z5, z6])
            refine zT 6 (v := ?_) rfl ?_ ?_
            rotate_left 1
            · (intro w0 hSw; (try dsimp only at hSw); obtain ⟨⟨s1, s2, s3, s4, s5, s6⟩, t1, t2, t3, t4, t5, t6⟩ := hSw; go_simp; try with_reducible rfl)
            (try simp only [z1, z2, z3]); (try simp only [Act.put, z4, z5, z6])
            refine zT 7 (v := ?_) rfl ?_ ?_
            rotate_left 1
            · (intro w0 hSw; (try dsimp only at hSw); obtain ⟨⟨s1, s2, s3, s4, s5, s6⟩, t1, t2, t3, t4, t5, t6⟩ := hSw; go_simp; try with_reducible rfl)
            (try simp only [z1, z2, z3]); (try simp only [Act.put, z4, z5, z6])
            refine zT 8 (v := ?_) rfl ?_ ?_
            rotate_left 1
            · (intro w0 hSw; (try dsimp only at hSw); obtain ⟨⟨s1, s2, s3, s4, s5, s6⟩, t1, t2, t3, t4, t5, t6⟩ := hSw; go_simp; try with_reducible rfl)
            (try simp only [z1, z2, z3]); (try simp only [Act.put, z4, z5, z6])
            refine zT 9 (v := ?_) rfl ?_ ?_
            rotate_left 1
            · (intro w0 hSw; (try dsimp only at hSw); obtain ⟨⟨s1, s2, s3, s4, s5, s6⟩, t1, t2, t3, t4, t5, t6⟩ := hSw; go_simp; try with_reducible rfl)
            (try simp only [z1, z2, z3]); (try simp only [Act.put, z4, z5, z6])
            refine zT 10 (v := ?_) rfl ?_ ?_
            rotate_left 1
            · (intro w0 hSw; (try dsimp only at hSw); obtain ⟨⟨s1, s2, s3, s4, s5, s6⟩, t1, t2, t3, t4, t5, t6⟩ := hSw; go_simp; try with_reducible rfl)
            (try simp only [z1, z2, z3]); (try simp only [Act.put, z4, z5, z6])
            refine zT 11 (v := ?_) rfl ?_ ?_
            rotate_left 1
            · (intro w0 hSw; (try dsimp only at hSw); obtain ⟨⟨s1, s2, s3, s4, s5, s6⟩, t1, t2, t3, t4, t5, t6⟩ := hSw; go_simp; try with_reducible rfl)
            (try simp only [z1, z2, z3]); (try simp only [Act.put, z4, z5, z6])
            refine zT 12 (v := ?_) rfl ?_ ?_
            rotate_left 1
            · (intro w0 hSw; (try dsimp only at hSw); obtain ⟨⟨s1, s2, s3, s4, s5, s6⟩, t1, t2, t3, t4, t5, t6⟩ := hSw; go_simp; try with_reducible rfl)
            (try simp only [z1, z2, z3]); (try simp only [Act.put, z4, z5, z6])
            refine zT 13 (v := ?_) rfl ?_ ?_
            rotate_left 1
            · (intro w0 hSw; (try dsimp only at hSw); obtain ⟨⟨s1, s2, s3, s4, s5, s6⟩, t1, t2, t3, t4, t5, t6⟩ := hSw; go_simp; try with_reducible rfl)
            (try simp only [z1, z2, z3]); (try simp only [Act.put, z4, z5, z6])
            refine zT 14 (v := ?_) rfl ?_ ?_
            rotate_left 1
            · (intro w0 hSw; (try dsimp only at hSw); obtain ⟨⟨s1, s2, s3, s4, s5, s6⟩, t1, t2, t3, t4, t5, t6⟩ := hSw; go_simp; try with_reducible rfl)
            (try simp only [z1, z2, z3]); (try simp only [Act.put, z4, z5, z6])
            refine wpAnyH_ready (rs := [15]) (by kernel_rfl) (by simp) ?_
            refine AllReadyH.cons (o := _) rfl (fun K hK => ?_) AllReadyH.nil
            go_simp
            refine Calls.mono (CH.out _ (show Below w.heap.size w wr.drew from hC.out.bl.drew)) ?_
            rintro e w' ⟨rfl, BB⟩
            try dsimp only
            refine hK _ _ ?_ (fun hHeld => ?_)
            · exact ⟨⟨by rw [BB.cell (p := ⟨b0, x * 6 + (k - 1) * 6, none⟩) bl]; exact ca1, by rw [BB.cell (p := ⟨b0, x * 6 + (k - 1) * 6 + 1, none⟩) bl]; exact ca2, by rw [BB.cell (p := ⟨b0, x * 6 + (k - 1) * 6 + 2, none⟩) bl]; exact ca3, by rw [BB.cell (p := ⟨b0, x * 6 + (k - 1) * 6 + 3, none⟩) bl]; exact ca4, by rw [BB.cell (p := ⟨b0, x * 6 + (k - 1) * 6 + 4, none⟩) bl]; exact ca5, by rw [BB.cell (p := ⟨b0, x * 6 + (k - 1) * 6 + 5, none⟩) bl]; exact ca6⟩, by rw [BB.cell (p := ⟨b0, x * 6 + k * 6, none⟩) bl]; exact b1, by rw [BB.cell (p := ⟨b0, x * 6 + k * 6 + 1, none⟩) bl]; exact b2, by rw [BB.cell (p := ⟨b0, x * 6 + k * 6 + 2, none⟩) bl]; exact b3, by rw [BB.cell (p := ⟨b0, x * 6 + k * 6 + 3, none⟩) bl]; exact b4, by rw [BB.cell (p := ⟨b0, x * 6 + k * 6 + 4, none⟩) bl]; exact b5, by rw [BB.cell (p := ⟨b0, x * 6 + k * 6 + 5, none⟩) bl]; exact b6⟩
            clear hK K
            (try simp only [z1, z2, z3]); (try simp only [Act.put, z4, z5, z6])
            refine zT 16 (v := ?_) rfl ?_ ?_
            rotate_left 1
            · (intro w0 hSw; (try dsimp only at hSw); obtain ⟨⟨s1, s2, s3, s4, s5, s6⟩, t1, t2, t3, t4, t5, t6⟩ := hSw; go_simp; try with_reducible rfl)
            (try simp only [z1, z2, z3]); (try simp only [Act.put, z4, z5, z6])
            refine wpAnyH_done (by kernel_rfl) ?_ _
            refine NoPanic.normal ?_
            have hC2 : Hid (CT1 w b0 cp n ah x m (.slice a3 m c3) h w') := hC.out.below ((show Below wr.heap.size wr wr.drew from (Below.refl _ wr).drew).trans BB)
            clear ca1 ca2 ca3 ca4 ca5 ca6 b1 b2 b3 b4 b5 b6 BB CH hbH hC bl hHeld
            have hlen : (plV b0 cp n h m).length = m := by simp [plV]
            obtain ⟨g, c, w1, hr1, ho1, hb1⟩ := app1H 43 23 (.slice none 0 0) 24 Tryz.underlying43 wrs_info rfl (by omega) (by omega) w' w.heap.size (.slice a3 m c3) (plV b0 cp n h m) hC2.out.row hC2.out.bl.size (.slice (some ⟨b0, x * 6, none⟩) k cr) rfl (by rw [hlen]; have := hC2.out.few; omega)
            rw [hlen] at hr1 ho1
            have hpv : pV b0 cp n (x, x + k) = .slice (some ⟨b0, x * 6, none⟩) k cr := by
              unfold pV
              simp only
              rw [show x + k - x = k by omega, show cp - x = cr from hcH.out.symm]
            rw [← hpv, ← plV_more] at ho1
            have hC3 : Hid (CT1 w b0 cp n ah (x + k) (m + 1) (.slice (some ⟨g, 0, none⟩) (m + 1) c) (updP h m (x, x + k)) w1) := ⟨hC2.out.ct.more (fun i hi => by unfold updP; rw [if_neg (by omega)]) (by unfold updP; rw [if_pos rfl]) hrun.out (by have := hlH.out; omega), by have := hC2.out.few; omega, ho1, hC2.out.bl.trans hb1⟩
            have hrH : Hid (∀ W, W = w'.alloc (.cells #[.slice (some ⟨b0, x * 6, none⟩) k cr] 23) → (Builtin.append_ #[43, 43] 43 #[.slice a3 m c3, .slice (some ⟨w'.heap.size, 0, none⟩) 1 1]).run Tryz.prog W = .ok (.slice (some ⟨g, 0, none⟩) (m + 1) c) w1) := fun W e => by subst e; exact hr1
            have hkc : (k : Int) ≤ (lr : Int) := by omega
            have hkc2 : (k : Int) ≤ (cr : Int) := by omega
            clear hr1 ho1 hb1 hlen hpv hrun hC2
            go_wp2_with (at_builtin; refine wpList_append_runB (by rfl) _ _ _ (by rfl) _ _ _ _ (by rfl) (by rfl) (hrH.out _ rfl) ?_)
            exact ⟨⟨x + k, m + 1, _, _, c, _, _, updP h m (x, x + k), rfl, rfl, by have := hlH.out; omega, ⟨by have := hlH.out; omega, fun _ => ⟨by first | rfl | rw [Nat.add_mul] | simp [Nat.add_mul], by have := hlH.out; have := hcH.out; omega⟩⟩, hC3⟩, by simp [slLen]; omega⟩
        · have hkI : ¬ (k : Int) < (lr : Int) := by omega
          have hkd : decide ((k : Int) < (lr : Int)) = false := decide_eq_false hkI
          obtain rfl : k = lr := by omega
          go_wp2_with fail
          go_quiet (fail)
          generalize hwq : World.drewN wr _ = w'
          have hC2 : Hid (CT1 w b0 cp n ah x m (.slice a3 m c3) h w') := hC.out.below (hwq ▸ bdrewB (Below.refl _ wr) _)
          clear hC hwq
          have hlen : (plV b0 cp n h m).length = m := by simp [plV]
          obtain ⟨g, c, w1, hr1, ho1, hb1⟩ := app1H 43 23 (.slice none 0 0) 24 Tryz.underlying43 wrs_info rfl (by omega) (by omega) w' w.heap.size (.slice a3 m c3) (plV b0 cp n h m) hC2.out.row hC2.out.bl.size (.slice (some ⟨b0, x * 6, none⟩) k cr) rfl (by rw [hlen]; have := hC2.out.few; omega)
          rw [hlen] at hr1 ho1
          have hpv : pV b0 cp n (x, x + k) = .slice (some ⟨b0, x * 6, none⟩) k cr := by
            unfold pV
            simp only
            rw [show x + k - x = k by omega, show cp - x = cr from hcH.out.symm]
          rw [← hpv, ← plV_more] at ho1
          have hC3 : Hid (CT1 w b0 cp n ah (x + k) (m + 1) (.slice (some ⟨g, 0, none⟩) (m + 1) c) (updP h m (x, x + k)) w1) := ⟨hC2.out.ct.more (fun i hi => by unfold updP; rw [if_neg (by omega)]) (by unfold updP; rw [if_pos rfl]) hrun.out (by have := hlH.out; omega), by have := hC2.out.few; omega, ho1, hC2.out.bl.trans hb1⟩
          have hrH : Hid (∀ W, W = w'.alloc (.cells #[.slice (some ⟨b0, x * 6, none⟩) k cr] 23) → (Builtin.append_ #[43, 43] 43 #[.slice a3 m c3, .slice (some ⟨w'.heap.size, 0, none⟩) 1 1]).run Tryz.prog W = .ok (.slice (some ⟨g, 0, none⟩) (m + 1) c) w1) := fun W e => by subst e; exact hr1
          have hkc : (k : Int) ≤ (k : Int) := by omega
          have hkc2 : (k : Int) ≤ (cr : Int) := by omega
          clear hr1 ho1 hb1 hlen hpv hrun hC2
          go_wp2_with (at_builtin; refine wpList_append_runB (by rfl) _ _ _ (by rfl) _ _ _ _ (by rfl) (by rfl) (hrH.out _ rfl) ?_)
          exact ⟨⟨x + k, m + 1, _, _, c, _, _, updP h m (x, x + k), rfl, rfl, by have := hlH.out; omega, ⟨by have := hlH.out; omega, fun q => by have := hlH.out; omega⟩, hC3⟩, by simp [slLen]; omega⟩
    · have hxI : ¬ (lr : Int) > 0 := by omega
      have hxJ : ¬ (0 : Int) < (lr : Int) := by omega
      have fin : Hid (CT1 w b0 cp n ah n m (.slice a3 m c3) h wr) := by
        obtain ⟨e1, _⟩ := hlr.out
        have e : x = n := by omega
        have := hC.out
        rw [e] at this; exact this
      clear hC hlr
      go_wp2_with fail
      go_ret
      first | exact ⟨a3, m, ⟨c3, rfl⟩, h, fin.out⟩ | exact ⟨a3, m, c3, h, rfl, fin.out⟩ | exact ⟨a3, m, c3, rfl, h, fin.out⟩
end Go.Proofs.YtpbcbpiolhjlhaaGreatDoor.So.Wr


namespace Go.Proofs.YtpbcbpiolhjlhaaGreatDoor.So.Wr
open Go.RowKit
set_option linter.unusedVariables false
set_option linter.unusedSimpArgs false
def zW : Array Value := #[.string ⟨#[]⟩, .slice none 0 0, .string ⟨#[]⟩, .int .i64 0, .int .u8 0, .int .i64 0]
theorem make_zero (n : Nat) (h : n ≤ 1099511627776) (w : World) : (Instr.makeSlice 23 (.int .i64 0) (.int .i64 (n : Int))).run Tryz.prog w = .ok (.slice (some ⟨w.heap.size, 0, none⟩) 0 n) (w.alloc (.cells (madeCells zW (n * 6)) 76)) := by
  obtain ⟨i, i1, i0⟩ := Option.map_eq_some_iff.1 wr_info
  have i2 : i.zero = some (.agg #[.string ⟨#[]⟩, .slice none 0 0, .string ⟨#[]⟩, .int .i64 0, .int .u8 0, .int .i64 0]) := congrArg (·.1) i0
  have i3 : i.bytes = 80 := congrArg (·.2.1) i0
  have i4 : i.size = 6 := congrArg (·.2.2) i0
  have := run_make (P := Tryz.prog) w 23 76 i (.agg #[.string ⟨#[]⟩, .slice none 0 0, .string ⟨#[]⟩, .int .i64 0, .int .u8 0, .int .i64 0]) Tryz.underlying23 i1 i2 .i64 .i64 0 (n : Int) (by omega) (by omega) (by rw [i3]; omega) (by omega)
  rw [i4] at this
  simpa [Value.cells, zW] using this
/-- a row of samples of one's own, as cells alone. -/
def OR6 (w : World) (B : Nat) (v : Value) (L : List WrA) : Prop := w.ownsRow B 76 6 v L.length (encW L)
theorem OR6.below {w w' : World} {B : Nat} {v : Value} {L : List WrA} (h : OR6 w B v L) (hb : Below w.heap.size w w') : OR6 w' B v L := by
  refine ⟨h.1, ?_⟩
  rcases h.2 with h2 | ⟨g, cap, cur, e1, e2, e3, e4⟩
  · exact Or.inl h2
  · exact Or.inr ⟨g, cap, cur, e1, e2, by rw [hb.block g (Array.getElem?_eq_some_iff.1 e3).1]; exact e3, e4⟩
theorem OR6.ob {w w' : World} {B hb : Nat} {v : Value} {L : List WrA} (h : OR6 w B v L) (hO : OB hb w w') (hB : hb < B) : OR6 w' B v L := by
  refine ⟨h.1, ?_⟩
  rcases h.2 with h2 | ⟨g, cap, cur, e1, e2, e3, e4⟩
  · exact Or.inl h2
  · exact Or.inr ⟨g, cap, cur, e1, e2, by rw [hO.keep g (Array.getElem?_eq_some_iff.1 e3).1 (by omega)]; exact e3, e4⟩
theorem OR6.made (w : World) (n : Nat) (hn : n ≤ 1099511627776) : OR6 (w.alloc (.cells (madeCells zW (n * 6)) 76)) w.heap.size (.slice (some ⟨w.heap.size, 0, none⟩) 0 n) [] := by
  have := World.ownsRow_made (e := 76) (size := 6) (base := w.heap.size) w (madeCells zW (n * 6)) n (Nat.le_refl _) (by simp [maxLen]; omega) (by simp [madeCells, zW])
  exact this
/-- one more. -/
theorem app1R (W : World) (B : Nat) (v : Value) (L : List WrA) (h : OR6 W B v L) (hB : B ≤ W.heap.size) (t : WrA) (hn : L.length + 1 ≤ 1099511627776) :
    ∃ g c w', (Builtin.append_ #[23, 23] 23 #[v, .slice (some ⟨W.heap.size, 0, none⟩) 1 1]).run Tryz.prog (W.alloc (.cells #[.string t.1.s.m, .slice t.2.1 t.1.s.t.length t.2.2, .string t.1.s.f, .int .i64 t.1.tm, .int .u8 (t.1.kd : Int), .int .i64 t.1.n] 76)) = .ok (.slice (some ⟨g, 0, none⟩) (L.length + 1) c) w' ∧ OR6 w' B (.slice (some ⟨g, 0, none⟩) (L.length + 1) c) (L ++ [t]) ∧ Below B W w' := by
  have b1 : Below W.heap.size W (W.alloc (.cells #[.string t.1.s.m, .slice t.2.1 t.1.s.t.length t.2.2, .string t.1.s.f, .int .i64 t.1.tm, .int .u8 (t.1.kd : Int), .int .i64 t.1.n] 76)) := (Below.refl _ W).alloc (Nat.le_refl _) _
  have ho2 := h.below b1
  obtain ⟨i, i1, i0⟩ := Option.map_eq_some_iff.1 wr_info
  have i2 : i.zero = some (.agg #[.string ⟨#[]⟩, .slice none 0 0, .string ⟨#[]⟩, .int .i64 0, .int .u8 0, .int .i64 0]) := congrArg (·.1) i0
  have i3 : i.bytes = 80 := congrArg (·.2.1) i0
  have i4 : i.size = 6 := congrArg (·.2.2) i0
  have hml : maxLen = 9223372036854775807 := by decide
  have hB2 := Nat.le_trans hB b1.size
  obtain ⟨g, cap, w', hr, own, gr, hat, hlt⟩ := run_append_lies (P := Tryz.prog) _ 23 23 B 76 i (.agg #[.string ⟨#[]⟩, .slice none 0 0, .string ⟨#[]⟩, .int .i64 0, .int .u8 0, .int .i64 0]) 6 80 Tryz.underlying23 i1 i2 i4 i3 rfl (by omega) v L.length (encW L) ho2 ⟨W.heap.size, 0, none⟩ 1 1 (encW [t]) rfl (fun j u hj => by
    rcases j with _ | _ | _ | _ | _ | _ | j <;> simp [encW] at hj <;> (try (subst hj; simp [go_sem]))) (encW_one _) (by omega) (by omega) (by omega) hB2 _ rfl
  refine ⟨g, cap, w', hr, ?_, (b1.mono hB).trans ((Below.refl B _).grown gr hB2 (fun k e => (World.ownsRow.lt ho2 k e).1))⟩
  unfold OR6
  rw [List.length_append, List.length_singleton, encW_append]; exact own
theorem HR.belowC {w w' : World} {hb m b0 cp n C : Nat} {h : Nat → Pc} (r : HR w hb m b0 cp n h) (hB : Below C w w') (hC : hb < C) : HR w' hb m b0 cp n h := ⟨Nat.lt_of_lt_of_le r.1 hB.size, fun i hi => by
  rw [hB.cell (p := ⟨hb, i, none⟩) hC, hB.frozen (p := ⟨hb, i, none⟩) hC]; exact r.2 i hi⟩
/-- what stands while the first of all is taken off. -/
structure TK1 (w0 : World) (X : Nat → WrA) (b0 cp n hb Bo : Nat) (ah : Nat → Nat → Bool) (m : Nat) (g : Nat → Pc) (v : Value) (out : List Nat) (wr : World) : Prop where
  s : So1 ah n m g out
  hp : HP (hl ah) 0 m g
  hr : HR wr hb m b0 cp n g
  row : OR6 wr Bo v (out.map X)
  bl : Below w0.heap.size w0 wr
  sz : Bo ≤ wr.heap.size
/-- while the heap is made: from j on it stands. -/
structure BL1 (w0 : World) (b0 cp n hb m : Nat) (ah : Nat → Nat → Bool) (j : Nat) (g : Nat → Pc) (wr : World) : Prop where
  s : So1 ah n m g []
  hp : HP (hl ah) j m g
  hr : HR wr hb m b0 cp n g
  bl : Below w0.heap.size w0 wr
theorem OH.hr {w : World} {B hb m c b0 cp n : Nat} {h : Nat → Pc} (r : OH w 23 B (.slice (some ⟨hb, 0, none⟩) m c) (plV b0 cp n h m)) : HR w hb m b0 cp n h := by
  have hl : (plV b0 cp n h m).length = m := by simp [plV]
  unfold OH at r
  rw [hl] at r
  have hcs := World.ownsRow.cells r (g := hb) rfl
  refine ⟨(World.ownsRow.lt r hb rfl).2, fun i hi => ⟨?_, World.ownsRow.frozenAt r i⟩⟩
  have := hcs i (pV b0 cp n (h i)) (by simp [plV, hi])
  rw [addB, Nat.zero_add] at this
  exact this
/-- what sorted tells. -/
def SrtR (w w' : World) (X : Nat → WrA) (ah : Nat → Nat → Bool) (n : Nat) (e : Ending) : Prop := ∃ (out : List Nat) (g c : Nat), e = .returned (.slice (some ⟨g, 0, none⟩) out.length c) ∧ Sorted1 ah n out ∧ g < w'.heap.size ∧ (∀ (i p : Nat), out[i]? = some p → WAt w' g (i * 6) (X p).1 (X p).2.1 (X p).2.2) ∧ Below w.heap.size w w'
set_option maxRecDepth 100000 in
set_option maxHeartbeats 8000000 in
theorem sorted_any (w : World) (b0 cp n : Nat) (X : Nat → WrA) (ah : Nat → Nat → Bool) (o : AO ah n) (hA : AhA w 27 n X ah) (hw : RW w b0 cp n X) (hn : n ≤ 1099511627770) (hcp : n ≤ cp) :
    Calls Tryz.prog 26 #[.slice (some ⟨b0, 0, none⟩) n cp, .func (.func 27) #[] #[]] w fun e w' => SrtR w w' X ah n e := by
  obtain ⟨w0, hw0⟩ : ∃ w0, w0 = w.alloc (.cells #[.func (.func 27) #[] #[]] 97) := ⟨_, rfl⟩
  obtain ⟨P2, hP2⟩ : ∃ P2, P2 = w.heap.size := ⟨_, rfl⟩
  have B0 : Below w.heap.size w w0 := by rw [hw0]; exact (Below.refl _ w).alloc (Nat.le_refl _) _
  have s0 : w0.heap.size = P2 + 1 := by rw [hw0, hP2]; simp
  have c0 : w0.cell? ⟨P2, 0, none⟩ = some (.func (.func 27) #[] #[]) := by rw [hw0, hP2]; simp [go_sem]
  have hA0 : AhA w0 27 n X ah := fun a b W h1 h2 h3 => hA a b W h1 h2 (B0.trans (h3.mono B0.size))
  have hw1 : RW w0 b0 cp n X := hw.below B0
  have CP : Hid _ := pieces_any w0 b0 cp n X ah hA0 hw1 hn hcp
  have hFH : Hid (FiA w0 b0 cp n P2 ah) := fun p q W h1 h2 h3 h4 h5 => first_any w0 b0 cp n P2 X ah hA0 hw1 (by omega) c0 p q W h1 h2 h3 h4 (by omega) h5
  have hwH : Hid (RW w0 b0 cp n X) := hw1
  have B0H : Hid (Below w.heap.size w w0) := B0
  have hmk := make_zero n (by omega)
  clear hA hA0 hw hw1 B0
  go_enter Tryz.func26, Tryz.ntmps26
  go_wp2_with fail
  rw [← hw0, ← hP2]
  clear hw0 c0 hP2 s0
  refine Calls.mono CP.out ?_
  rintro e w1 ⟨a, m, c, h, rfl, hC⟩
  clear CP
  rcases (hC.row.len).2 with m0 | ⟨hb, rfl, hb1, hb2⟩
  · subst m0
    have n0 : n = 0 := by
      rcases Nat.eq_zero_or_pos n with q | q
      · exact q
      · obtain ⟨i, hi, _⟩ := (hC.ct.upto 0).2 q
        omega
    subst n0
    have B1 : Hid (Below w.heap.size w w1) := B0H.out.trans (hC.bl.mono B0H.out.size)
    have hmk0 : ∀ w, (Instr.makeSlice 23 (.int .i64 0) (.int .i64 0)).run Tryz.prog w = .ok (.slice (some ⟨w.heap.size, 0, none⟩) 0 0) (w.alloc (.cells (madeCells zW 0) 76)) := fun w => by simpa using make_zero 0 (by omega) w
    clear hC hFH hwH B0H hmk
    go_wp2_with fail
    go_loopw [7] (fun v wr => v = .int .i64 (-1) ∧ wr = w1) (fun _ _ => 0)
    case atStart => exact ⟨rfl, rfl⟩
    case round =>
      obtain ⟨rfl, hwr⟩ := hrel
      subst hwr
      have fin : Hid (SrtR w (wr.alloc (.cells (madeCells zW 0) 76)) X ah 0 (.returned (.slice (some ⟨wr.heap.size, 0, none⟩) 0 0))) := ⟨[], wr.heap.size, 0, rfl, ⟨List.Pairwise.nil, fun p => by simp⟩, by simp, fun i p hi => by simp at hi, B1.out.alloc B1.out.size _⟩
      clear B1
      go_wp2_with fail
      generalize wr.alloc (.cells (madeCells zW 0) 76) = w2 at fin ⊢
      generalize wr.heap.size = go at fin ⊢
      go_loopw [5, 8] (fun v5 v8 wx => v5 = .slice a 0 c ∧ v8 = .slice (some ⟨go, 0, none⟩) 0 0 ∧ wx = w2) (fun _ _ _ => 0)
      case atStart => exact ⟨rfl, rfl, rfl⟩
      case round =>
        obtain ⟨rfl, rfl, hwx⟩ := hrel
        subst hwx
        go_wp2_with fail
        go_ret
        exact fin.out
  · have hmc : m ≤ c := by
      have hl : (plV b0 cp n h m).length = m := by simp [plV]
      have r := hC.row
      unfold OH at r
      rw [hl] at r
      rcases r.2 with ⟨q, _⟩ | ⟨g', cap, cur, q, _, _, hc', _⟩
      · cases q
      · injection q with q1 q2 q3
        omega
    have S0 : Hid (BL1 w0 b0 cp n hb m ah m h w1) := ⟨hC.ct.start, HP.none m h, (OH.hr hC.row), hC.bl⟩
    have mn : m ≤ n := hC.few
    have psm : Hid (w0.heap.size ≤ hb) := hb1
    have z1 : IntKind.i64.wrap ((m : Int) - 1) = (m : Int) - 1 := IntWalk.i64_in _ (by omega)
    clear hC
    go_wp2_with fail
    go_loopw [7] (fun v wr => ∃ (j : Nat) (R : Int) (g : Nat → Pc), v = .int .i64 R ∧ Hid (R = (j : Int) - 1) ∧ j ≤ m ∧ Hid (BL1 w0 b0 cp n hb m ah j g wr)) (fun v _ => (intOf v + 1).toNat)
    case atStart => exact ⟨m, (m : Int) - 1, h, rfl, rfl, Nat.le_refl _, S0⟩
    case round =>
      clear S0 z1
      obtain ⟨j, R, g, rfl, hR, hjm, hS⟩ := hrel
      by_cases hj : 0 ≤ R
      · obtain ⟨q, hq⟩ : ∃ q : Nat, R = (q : Int) := ⟨R.toNat, by omega⟩
        subst hq
        have hjq : j = q + 1 := by have := hR.out; omega
        subst hjq
        have hqI : (q : Int) ≥ 0 := by omega
        have qw : IntKind.i64.wrap ((q : Int) - 1) = (q : Int) - 1 := IntWalk.i64_in _ (by omega)
        have C : Hid _ := sink_any w0 b0 cp n P2 ah o hFH.out hb m c q q g wr hS.out.hr hS.out.bl psm.out hS.out.s.ps (HX.start hS.out.hp) (Nat.le_refl _) (by omega) (by omega)
        go_wp2_with fail
        refine Calls.mono C.out ?_
        rintro e w2 ⟨rfl, g', P2', H2, R2, O2⟩
        have S2 : Hid (BL1 w0 b0 cp n hb m ah q g' w2) := ⟨hS.out.s.pr P2', H2, R2, O2.into hS.out.bl psm.out hS.out.bl.size⟩
        clear C hS H2 R2 O2 P2'
        go_wp2_with fail
        exact ⟨⟨q, (q : Int) - 1, g', rfl, rfl, by omega, S2⟩, by simp [intOf] <;> omega⟩
      · have hjI : ¬ R ≥ 0 := by omega
        have hj0 : j = 0 := by have := hR.out; omega
        subst hj0
        obtain ⟨Bo, hBo⟩ : ∃ Bo, Bo = wr.heap.size := ⟨_, rfl⟩
        have T0 : Hid (TK1 w0 X b0 cp n hb Bo ah m g (.slice (some ⟨Bo, 0, none⟩) 0 n) [] (wr.alloc (.cells (madeCells zW (n * 6)) 76))) := by
          have bA : Below wr.heap.size wr (wr.alloc (.cells (madeCells zW (n * 6)) 76)) := (Below.refl _ wr).alloc (Nat.le_refl _) _
          refine ⟨hS.out.s, hS.out.hp, hS.out.hr.below bA, ?_, hS.out.bl.trans (bA.mono hS.out.bl.size), by rw [hBo]; exact bA.size⟩
          have := OR6.made wr n (by omega)
          rw [← hBo] at this
          exact this
        have hbo : hb < Bo := by rw [hBo]; exact hS.out.hr.1
        have B0o : w0.heap.size ≤ Bo := by rw [hBo]; exact hS.out.bl.size
        clear hS hR
        go_wp2_with fail
        rw [← hBo]
        generalize wr.alloc (.cells (madeCells zW (n * 6)) 76) = w3 at T0 ⊢
        clear hBo hmk
        go_loopw [5, 8] (fun v5 v8 wx => ∃ (k ch z go co : Nat) (g : Nat → Pc) (out : List Nat), v5 = .slice (some ⟨hb, 0, none⟩) k ch ∧ v8 = .slice (some ⟨go, 0, none⟩) z co ∧ k ≤ m ∧ k ≤ ch ∧ Hid (out.length = z ∧ TK1 w0 X b0 cp n hb Bo ah k g (.slice (some ⟨go, 0, none⟩) z co) out wx)) (fun _ v8 _ => n - slLen v8)
        case atStart => exact ⟨m, c, 0, Bo, n, g, [], rfl, rfl, Nat.le_refl _, hmc, ⟨rfl, T0.out⟩⟩
        case round =>
          clear T0
          obtain ⟨k, ch, z, go, co, g, out, rfl, rfl, hkm, hkc, hT⟩ := hrel
          by_cases hk : 0 < k
          · have hkI : (k : Int) > 0 := by omega
            have hkJ : (0 : Int) < (k : Int) := by omega
            have T := hT.out.2
            have zl := hT.out.1
            have run0 := T.s.ps.run 0 hk
            have few := T.s.few o
            obtain ⟨s, e, hse⟩ : ∃ s e, g 0 = (s, e) := ⟨(g 0).1, (g 0).2, rfl⟩
            have a1 := (T.hr.2 0 hk).1
            have a2 := (T.hr.2 0 hk).2
            rw [hse] at run0 a1
            have s1 : s < e := run0.1.1
            have s2 : e ≤ n := run0.2
            have bb := (hwH.out.2 s (by omega)).below T.bl hwH.out.1
            obtain ⟨Xs, hXs⟩ : ∃ Xs, Xs = X s := ⟨_, rfl⟩
            rw [← hXs] at bb
            have hXsH : Hid (Xs = X s) := hXs
            clear hXs
            obtain ⟨go1, co1, w4, hr1, ho0, hb4⟩ := app1R wr Bo (.slice (some ⟨go, 0, none⟩) z co) (out.map X) T.row T.sz Xs (by rw [List.length_map]; omega)
            rw [List.length_map, zl] at hr1 ho0
            have ho1 : OR6 w4 Bo (.slice (some ⟨go1, 0, none⟩) (z + 1) co1) ((out ++ [s]).map X) := by rw [List.map_append, List.map_cons, List.map_nil, ← hXsH.out]; exact ho0
            clear ho0
            obtain ⟨xp, xa, xc⟩ := Xs
            unfold WAt at bb
            simp only at bb hr1
            clear hXsH
            generalize xp.s.t.length = xn at bb hr1
            obtain ⟨b1, b2, b3, b4, b5, b6⟩ := bb
            have hrH : Hid (∀ W, W = wr.alloc (.cells #[.string xp.s.m, .slice xa xn xc, .string xp.s.f, .int .i64 xp.tm, .int .u8 (xp.kd : Int), .int .i64 xp.n] 76) → (Builtin.append_ #[23, 23] 23 #[.slice (some ⟨go, 0, none⟩) z co, .slice (some ⟨wr.heap.size, 0, none⟩) 1 1]).run Tryz.prog W = .ok (.slice (some ⟨go1, 0, none⟩) (z + 1) co1) w4) := fun W e => by subst e; exact hr1
            have R4 : HR w4 hb k b0 cp n g := T.hr.belowC hb4 hbo
            have Bl4 : Below w0.heap.size w0 w4 := T.bl.trans (hb4.mono B0o)
            have c1 := (R4.2 0 hk).1
            have c2 := (R4.2 0 hk).2
            rw [hse] at c1
            have sz4 : Bo ≤ w4.heap.size := Nat.le_trans T.sz hb4.size
            have hseH : Hid (g 0 = (s, e)) := hse
            have hcommon : Hid (HR w4 hb k b0 cp n g ∧ Below w0.heap.size w0 w4 ∧ Bo ≤ w4.heap.size ∧ OR6 w4 Bo (.slice (some ⟨go1, 0, none⟩) (z + 1) co1) ((out ++ [s]).map X)) := ⟨R4, Bl4, sz4, ho1⟩
            have l1 : 0 < e - s := by omega
            have l1I : (0 : Int) < ((e - s : Nat) : Int) := by omega
            have lc : 1 ≤ cp - s := by omega
            have lcI : (1 : Int) ≤ ((cp - s : Nat) : Int) := by omega
            have tail : Hid (∀ (k' : Nat) (g' : Nat → Pc) (W : World) (ch' : Nat), So1 ah n k' g' (out ++ [s]) → HX (hl ah) 0 0 k' g' → HR W hb k' b0 cp n g' → OB hb w4 W → k' ≤ m → Calls Tryz.prog 76 #[.slice (some ⟨hb, 0, none⟩) k' ch', .int .i64 0, .func (.func 75) #[] #[.pointer (some ⟨P2, 0, none⟩)]] W fun e w' => e = .returned undef ∧ ∃ g2, TK1 w0 X b0 cp n hb Bo ah k' g2 (.slice (some ⟨go1, 0, none⟩) (z + 1) co1) (out ++ [s]) w') := fun k' g' W ch' q1 q2 q3 q4 q5 => by
              have BW : Below w0.heap.size w0 W := q4.into Bl4 psm.out Bl4.size
              refine (sink_any w0 b0 cp n P2 ah o hFH.out hb k' ch' 0 0 g' W q3 BW psm.out q1.ps q2 (Nat.le_refl _) (Nat.zero_le _) (by omega)).mono fun e w' hh => ?_
              obtain ⟨rfl, g2, p1, p2, p3, p4⟩ := hh
              exact ⟨rfl, g2, q1.pr p1, p2, p3, (ho1.ob q4 hbo).ob p4 hbo, p4.into BW psm.out BW.size, Nat.le_trans sz4 (Nat.le_trans q4.size p4.size)⟩
            have TH : Hid (TK1 w0 X b0 cp n hb Bo ah k g (.slice (some ⟨go, 0, none⟩) z co) out wr) := T
            have zn : z + 1 ≤ n := by
              have : s ∉ out := fun hx => by
                have := T.s.fore s s hx ⟨0, hk, by rw [hse]; exact Nat.le_refl _, by rw [hse]; exact s1⟩
                rw [o.irr s (by omega)] at this
                cases this
              have q := nodup_leB (s :: out) (List.range n) (List.nodup_cons.2 ⟨this, by
                rw [List.nodup_iff_pairwise_ne]
                refine (List.Pairwise.and_mem.1 T.s.ord).imp ?_
                rintro x y ⟨hx, hy, hxy⟩ e
                subst e
                rw [o.irr x ((T.s.all x).2 (Or.inl hx))] at hxy
                cases hxy⟩) (fun x hx => by
                  rcases List.mem_cons.1 hx with e | e
                  · rw [e]; exact List.mem_range.2 (by omega)
                  · exact List.mem_range.2 ((T.s.all x).2 (Or.inl e)))
              simp at q; omega
            clear T hT hr1 ho1 hb4 R4 Bl4 sz4 hse run0
            unfold pV at a1 c1
            simp only at a1 c1
            by_cases hl1 : s + 1 < e
            · have hlI : ((e - s : Nat) : Int) > 1 := by omega
              have hlJ : (1 : Int) < ((e - s : Nat) : Int) := by omega
              have ne1 : ¬ 1 = cp - s := by omega
              have hpv : pV b0 cp n (s + 1, e) = .slice (some ⟨b0, s * 6 + 6, none⟩) (e - s - 1) (cp - s - 1) := by unfold pV; simp only; rw [show e - (s + 1) = e - s - 1 by omega, show cp - (s + 1) = cp - s - 1 by omega, show (s + 1) * 6 = s * 6 + 6 by omega]
              have C : Hid (Calls Tryz.prog 76 #[.slice (some ⟨hb, 0, none⟩) k ch, .int .i64 0, .func (.func 75) #[] #[.pointer (some ⟨P2, 0, none⟩)]] (w4.setCell ⟨hb, 0, none⟩ (.slice (some ⟨b0, s * 6 + 6, none⟩) (e - s - 1) (cp - s - 1))) fun e w' => e = .returned undef ∧ ∃ g2, TK1 w0 X b0 cp n hb Bo ah k g2 (.slice (some ⟨go1, 0, none⟩) (z + 1) co1) (out ++ [s]) w') := by
                have hs1 : So1 ah n k (fun i => if i = 0 then (s + 1, e) else g i) (out ++ [s]) := by
                  have := TH.out.s.more (g := fun i => if i = 0 then (s + 1, e) else g i) o TH.out.hp hk (by rw [hseH.out]; exact hl1) (by rw [hseH.out]; rfl) (fun i h1 h2 => by simp; omega)
                  rw [hseH.out] at this; exact this
                refine tail.out k _ _ ch hs1 (HX.top TH.out.hp k (Nat.le_refl _) (fun i h1 h2 => by simp; omega)) ?_ (OB.set _ _ _) hkm
                rw [← hpv]; exact hcommon.out.1.set hk (s + 1, e)
              clear tail TH hcommon hseH
              generalize e - s = le at *
              generalize cp - s = lc' at *
              go_wp2_with (at_builtin; refine wpList_append_runB (by rfl) _ _ _ (by rfl) _ _ _ _ (by rfl) (by rfl) (hrH.out _ rfl) ?_)
              refine Calls.mono C.out ?_
              rintro e' w5 ⟨rfl, g2, T5⟩
              have T5H : Hid (TK1 w0 X b0 cp n hb Bo ah k g2 (.slice (some ⟨go1, 0, none⟩) (z + 1) co1) (out ++ [s]) w5) := T5
              clear T5 C hrH a1 a2 b1 b2 b3 b4 b5 b6 c1 c2
              go_wp2_with fail
              exact ⟨⟨k, ch, z + 1, go1, co1, g2, out ++ [s], rfl, rfl, hkm, hkc, ⟨by rw [List.length_append, zl]; rfl, T5H.out⟩⟩, by simp [slLen]; omega⟩
            · have hlI : ¬ ((e - s : Nat) : Int) > 1 := by omega
              have hlJ : ¬ (1 : Int) < ((e - s : Nat) : Int) := by omega
              obtain ⟨k', rfl⟩ : ∃ k', k = k' + 1 := ⟨k - 1, by omega⟩
              have kw : IntKind.i64.wrap ((k' : Int) + 1 - 1) = (k' : Int) := by rw [show (k' : Int) + 1 - 1 = (k' : Int) by omega]; exact IntWalk.i64_in _ (by omega)
              have kw2 : IntKind.i64.wrap (((k' + 1 : Nat) : Int) - 1) = (k' : Int) := by rw [show ((k' + 1 : Nat) : Int) - 1 = (k' : Int) by omega]; exact IntWalk.i64_in _ (by omega)
              have k0 : (0 : Int) ≤ (k' : Int) := by omega
              have k1 : (k' : Int) < (k' : Int) + 1 := by omega
              have k2 : (k' : Int) ≤ (ch : Int) := by omega
              obtain ⟨ax, lx, cx, hX⟩ : ∃ ax lx cx, pV b0 cp n (g k') = .slice ax lx cx := ⟨_, _, _, rfl⟩
              have d1 : w4.cell? ⟨hb, k', none⟩ = some (.slice ax lx cx) := by rw [← hX]; exact (hcommon.out.1.2 k' (by omega)).1
              have C : Hid (Calls Tryz.prog 76 #[.slice (some ⟨hb, 0, none⟩) k' ch, .int .i64 0, .func (.func 75) #[] #[.pointer (some ⟨P2, 0, none⟩)]] (w4.setCell ⟨hb, 0, none⟩ (.slice ax lx cx)) fun e w' => e = .returned undef ∧ ∃ g2, TK1 w0 X b0 cp n hb Bo ah k' g2 (.slice (some ⟨go1, 0, none⟩) (z + 1) co1) (out ++ [s]) w') := by
                have hs1 : So1 ah n k' (fun i => if i = 0 then g k' else g i) (out ++ [s]) := by
                  have := TH.out.s.less (g := fun i => if i = 0 then g k' else g i) o TH.out.hp (by rw [hseH.out]; show e = s + 1; omega) (fun _ => rfl) (fun i h1 h2 => by simp; omega)
                  rw [hseH.out] at this; exact this
                refine tail.out k' _ _ ch hs1 (HX.top TH.out.hp k' (by omega) (fun i h1 h2 => by simp; omega)) ?_ (OB.set _ _ _) (by omega)
                rw [← hX]
                have := hcommon.out.1.set (k := 0) hk (g k')
                exact ⟨this.1, fun i hi => this.2 i (by omega)⟩
              clear tail TH hcommon hseH hX
              generalize e - s = le at *
              generalize cp - s = lc' at *
              go_wp2_with (at_builtin; refine wpList_append_runB (by rfl) _ _ _ (by rfl) _ _ _ _ (by rfl) (by rfl) (hrH.out _ rfl) ?_)
              refine Calls.mono C.out ?_
              rintro e' w5 ⟨rfl, g2, T5⟩
              have T5H : Hid (TK1 w0 X b0 cp n hb Bo ah k' g2 (.slice (some ⟨go1, 0, none⟩) (z + 1) co1) (out ++ [s]) w5) := T5
              clear T5 C hrH a1 a2 b1 b2 b3 b4 b5 b6 c1 c2 d1
              go_wp2_with fail
              exact ⟨⟨k', ch, z + 1, go1, co1, g2, out ++ [s], rfl, rfl, by omega, by omega, ⟨by rw [List.length_append, zl]; rfl, T5H.out⟩⟩, by simp [slLen]; omega⟩
          · have hkI : ¬ (k : Int) > 0 := by omega
            have hkJ : ¬ (0 : Int) < (k : Int) := by omega
            obtain rfl : k = 0 := by omega
            have fin : Hid (SrtR w wr X ah n (.returned (.slice (some ⟨go, 0, none⟩) z co))) := by
              obtain ⟨zl, T⟩ := hT.out
              have ro := T.row
              unfold OR6 at ro
              refine ⟨out, go, co, by rw [zl], T.s.done, (World.ownsRow.lt ro go rfl).2, fun i p hi => ?_, B0H.out.trans (T.bl.mono B0H.out.size)⟩
              have hcs := World.ownsRow.cells ro (g := go) rfl
              obtain ⟨e1, e2, e3, e4, e5, e6⟩ := encW_get (out.map X) i (X p) (by rw [List.getElem?_map, hi]; rfl)
              have k1 := hcs _ _ e1
              have k2 := hcs _ _ e2
              have k3 := hcs _ _ e3
              have k4 := hcs _ _ e4
              have k5 := hcs _ _ e5
              have k6 := hcs _ _ e6
              rw [tag_add, Nat.zero_add] at k1 k2 k3 k4 k5 k6
              exact ⟨k1, k2, k3, k4, k5, k6⟩
            clear hT
            go_wp2_with fail
            go_ret
            exact fin.out
end Go.Proofs.YtpbcbpiolhjlhaaGreatDoor.So.Wr
