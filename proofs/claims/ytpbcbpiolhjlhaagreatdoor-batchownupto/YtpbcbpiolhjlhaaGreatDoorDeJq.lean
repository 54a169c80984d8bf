
import Derived.Test.YtpbcbpiolhjlhaaGreatDoorBzAA
import Derived.Test.YtpbcbpiolhjlhaaGreatDoorBzAK

namespace Go.Proofs.YtpbcbpiolhjlhaaGreatDoor.De
open Go.RowKit _root_.Go.Proofs.YtpbcbpiolhjlhaaGreatDoor.So
set_option linter.unusedVariables false
set_option linter.unusedSimpArgs false
/-- what Order tells. -/
def OrdR (w w' : World) (l : List WrP) (e : Ending) : Prop := ∃ (out : List Nat) (L : List WrA) (v : Value), e = .returned v ∧ Sorted1 (ahW l) l.length out ∧ DW w' w.heap.size v L ∧ L.map (·.1) = ordL l out out.length ∧ Below w.heap.size w w'
set_option maxRecDepth 100000 in
set_option maxHeartbeats 16000000 in
theorem order_any (a : Option Addr) (c : Nat) (l : List WrP) (w : World) (hl : WIn w a l) (hn : l.length ≤ 549755813888) (hts : ∀ x ∈ l, x.s.t.length ≤ 4398046511104) :
    Calls Tryz.prog 7 #[.slice a l.length c] w fun e w' => OrdR w w' l e := by
  obtain ⟨P1, hP1⟩ : ∃ P, P = w.heap.size := ⟨_, rfl⟩
  obtain ⟨w1, hw1⟩ : ∃ w1, w1 = w.alloc (.cells #[.slice a l.length c] 23) := ⟨_, rfl⟩
  have B1 : Below w.heap.size w w1 := by rw [hw1]; exact (Below.refl _ w).alloc (Nat.le_refl _) _
  have s1 : w1.heap.size = P1 + 1 := by rw [hw1, hP1]; simp
  have c1 : w1.cell? ⟨P1, 0, none⟩ = some (.slice a l.length c) := by rw [hw1, hP1]; simp [go_sem]
  have B1H : Hid (Below w.heap.size w w1) := B1
  have s1H : Hid (w1.heap.size = P1 + 1) := s1
  have c1H : Hid (w1.cell? ⟨P1, 0, none⟩ = some (.slice a l.length c)) := c1
  have hlH : Hid (WIn w a l) := hl
  have htsH : Hid (∀ x ∈ l, x.s.t.length ≤ 4398046511104) := hts
  have hmk := make_n l.length (by omega)
  obtain ⟨b0, hb0⟩ : ∃ b, b = w1.heap.size := ⟨_, rfl⟩
  have hb2 : b0 = P1 + 1 := by rw [hb0, s1]
  have F0 : Hid (FP w1 b0 l.length 0 (w1.alloc (.cells (madeCells #[.int .i64 0] l.length) 3))) := by rw [hb0]; exact FP.start w1 l.length
  have hbw : Hid (w1.heap.size ≤ b0) := by rw [hb0]; exact Nat.le_refl _
  have c1' : ∀ o, (w1.alloc o).cell? ⟨P1, 0, none⟩ = some (.slice a l.length c) := fun o => by rw [((Below.refl w1.heap.size w1).alloc (Nat.le_refl _) o).cell (p := ⟨P1, 0, none⟩) (by show P1 < w1.heap.size; omega)]; exact c1
  obtain ⟨n, hnl⟩ : ∃ n, l.length = n := ⟨_, rfl⟩
  have hN : Hid (l.length = n) := hnl
  rw [hnl] at hn c1 hmk F0 c1H hw1 c1' ⊢
  clear hl hts B1 hnl s1
  go_enter Tryz.func7, Tryz.ntmps7
  go_wp2_with fail
  rw [← hw1, ← hP1]
  rw [← hb2]
  generalize w1.alloc (.cells (madeCells #[.int .i64 0] n) 3) = w2 at F0 ⊢
  clear hw1 hP1 hb0 hb2 hmk c1 c1'
  go_loopw [14] (fun v wr => ∃ k : Nat, v = .int .i64 (k : Int) ∧ k ≤ n ∧ Hid (FP w1 b0 n k wr)) (fun v _ => n - (intOf v).toNat)
  case atStart => exact ⟨0, rfl, Nat.zero_le _, F0⟩
  case round =>
    clear F0
    obtain ⟨k, rfl, hkn, hF⟩ := hrel
    have kw : IntKind.i64.wrap ((k : Int) + 1) = ((k + 1 : Nat) : Int) := IntWalk.i64_in _ (by omega)
    by_cases hk : k < n
    · have hkI : (k : Int) < (n : Int) := by omega
      have k0 : (0 : Int) ≤ (k : Int) := by omega
      have cc := hF.out.c k hk
      have ff := hF.out.f k hk
      have F2 : Hid (FP w1 b0 n (k + 1) (wr.setCell ⟨b0, k, none⟩ (.int .i64 (k : Int)))) := hF.out.more hk hbw.out
      clear hF
      go_wp2_with fail
      exact ⟨⟨k + 1, by first | rfl | simp, by omega, F2⟩, by simp [intOf]; omega⟩
    · have hkI : ¬ (k : Int) < (n : Int) := by omega
      obtain rfl : k = n := by omega
      have Bw : Below w.heap.size w wr := B1H.out.trans (hF.out.b.mono B1H.out.size)
      have pcell : wr.cell? ⟨P1, 0, none⟩ = some (.slice a k c) := by rw [hF.out.b.cell (p := ⟨P1, 0, none⟩) (by show P1 < w1.heap.size; have := s1H.out; omega)]; exact c1H.out
      have pl : P1 < wr.heap.size := by have := s1H.out; have := hF.out.b.size; omega
      have CS : Hid (Calls Tryz.prog 18 #[.slice (some ⟨b0, 0, none⟩) k k, .func (.func 19) #[] #[.pointer (some ⟨P1, 0, none⟩)]] wr fun e w' => SrtR wr w' (ahW l) k e) := by
        have hA := ahead_any wr P1 a c l pl (by rw [hN.out]; exact pcell) (hlH.out.below Bw) (by rw [hN.out]; omega)
        rw [hN.out] at hA
        exact sorted_any wr b0 k P1 (ahW l) (ahW_ao l k) hA hF.out.done (by omega)
      have BwH : Hid (Below w.heap.size w wr) := Bw
      have plH : Hid (P1 < wr.heap.size ∧ wr.cell? ⟨P1, 0, none⟩ = some (.slice a k c)) := ⟨pl, pcell⟩
      clear hF Bw pcell pl
      go_wp2_with fail
      refine Calls.mono CS.out ?_
      rintro e w3 ⟨out, g, c', rfl, hsrt, hg, hcells, hB3⟩
      have pcell : w3.cell? ⟨P1, 0, none⟩ = some (.slice a k c) := by rw [hB3.cell (p := ⟨P1, 0, none⟩) plH.out.1]; exact plH.out.2
      have hP3 : Hid (∀ W, Below w3.heap.size w3 W → W.cell? ⟨P1, 0, none⟩ = some (.slice a k c)) := fun W hW => by rw [hW.cell (p := ⟨P1, 0, none⟩) (Nat.lt_of_lt_of_le plH.out.1 hB3.size)]; exact pcell
      have hcH : Hid (∀ (i p : Nat) W, out[i]? = some p → Below w3.heap.size w3 W → W.cell? ⟨g, i, none⟩ = some (.int .i64 (p : Int))) := fun i p W hi hW => by rw [hW.cell (p := ⟨g, i, none⟩) hg]; exact hcells i p hi
      have B3 : Hid (Below w.heap.size w w3) := BwH.out.trans (hB3.mono BwH.out.size)
      have hsH : Hid (Sorted1 (ahW l) k out) := hsrt
      have ple : Hid (P1 < w3.heap.size ∧ g < w3.heap.size) := ⟨Nat.lt_of_lt_of_le plH.out.1 hB3.size, hg⟩
      have D0 : Hid (OD1 w3 l out 0 (.slice none 0 0) [] w3) := ⟨DW.nil _ _, rfl, Below.refl _ _⟩
      have m1 : out.length ≤ k := by
        have := nodup_leB out (List.range k) (by
          rw [List.nodup_iff_pairwise_ne]
          refine (List.Pairwise.and_mem.1 hsrt.ord).imp ?_
          rintro x y ⟨hx, hy, hxy⟩ e
          subst e
          rw [(ahW_ao l k).irr x ((hsrt.all x).1 hx)] at hxy
          cases hxy) (fun x hx => List.mem_range.2 ((hsrt.all x).1 hx))
        simpa using this
      clear hB3 hcells hg hsrt pcell CS plH BwH
      obtain ⟨m, hm⟩ : ∃ m, out.length = m := ⟨_, rfl⟩
      have hM : Hid (out.length = m) := hm
      rw [hm] at m1 ⊢
      clear hm
      go_wp2_with fail
      go_loopw [5, 27] (fun v5 v27 wr => ∃ (k2 z c3 : Nat) (a3 : Option Addr) (L : List WrA), v5 = .slice a3 z c3 ∧ v27 = .int .i64 (k2 : Int) ∧ k2 ≤ m ∧ Hid (OD1 w3 l out k2 (.slice a3 z c3) L wr)) (fun _ v27 _ => m - (intOf v27).toNat)
      case atStart => exact ⟨0, 0, 0, none, [], rfl, rfl, Nat.zero_le _, D0⟩
      case round =>
        clear D0
        obtain ⟨k2, z, c3, a3, L, rfl, rfl, hkm, hD0⟩ := hrel
        have kw : IntKind.i64.wrap ((k2 : Int) + 1) = ((k2 + 1 : Nat) : Int) := IntWalk.i64_in _ (by omega)
        by_cases hk2 : k2 < m
        · have hkI2 : (k2 : Int) < (m : Int) := by omega
          have k0 : (0 : Int) ≤ (k2 : Int) := by omega
          obtain ⟨p, hp⟩ : ∃ p, out[k2]? = some p := ⟨_, List.getElem?_eq_getElem (by have := hM.out; omega)⟩
          have hpH : Hid (out[k2]? = some p) := hp
          have hpn : p < k := (hsH.out.all p).1 (List.mem_of_getElem? hp)
          have p0 : (0 : Int) ≤ (p : Int) := by omega
          have pI : (p : Int) < (k : Int) := by omega
          have gx : l[p]? = some (atW l p) := atW_some (by rw [hN.out]; exact hpn)
          obtain ⟨b, off, tx, cx, e1, hb, _, fx⟩ := (hlH.out.below B3.out).at (Below.refl _ _) gx
          subst e1
          have hxt : (atW l p).s.t.length ≤ 4398046511104 := htsH.out _ (List.mem_of_getElem? gx)
          obtain ⟨x, hx⟩ : ∃ x, atW l p = x := ⟨_, rfl⟩
          rw [hx] at fx hxt
          have hxl : Hid (x = atW l p) := hx.symm
          obtain ⟨nx, hnx'⟩ : ∃ nx, x.s.t.length = nx := ⟨_, rfl⟩
          have hnx : Hid (x.s.t.length = nx) := hnx'
          have hat : Hid (∀ W, Below w3.heap.size w3 W → W.cell? ⟨g, k2, none⟩ = some (.int .i64 (p : Int)) ∧ W.cell? ⟨b, off + p * 6, none⟩ = some (.string x.s.m) ∧ W.cell? ⟨b, off + p * 6 + 1, none⟩ = some (.slice tx nx cx) ∧ W.cell? ⟨b, off + p * 6 + 2, none⟩ = some (.string x.s.f) ∧ W.cell? ⟨b, off + p * 6 + 3, none⟩ = some (.int .i64 x.tm) ∧ W.cell? ⟨b, off + p * 6 + 4, none⟩ = some (.int .u8 (x.kd : Int)) ∧ W.cell? ⟨b, off + p * 6 + 5, none⟩ = some (.int .i64 x.n)) := fun W hW => ⟨hcH.out k2 p W hp hW, by have := (fx W hW).1; unfold WAt at this; rw [hnx'] at this; exact this⟩
          have hser : Hid (∀ W, Below w3.heap.size w3 W → SerIn W tx x.s) := fun W hW => (fx W hW).2
          have hbH : Hid (b < w3.heap.size) := hb
          clear fx hx hnx' gx hb hp
          by_cases hk0 : k2 = 0
          · have hkz : ((k2 : Int) == 0) = true := by simp; omega
            have hk0H : Hid (k2 = 0) := hk0
            clear hk0
            obtain ⟨a0, _, _, _, _, _, _⟩ := hat.out wr hD0.out.bl
            go_wp2_with fail
            go_quiet (fail)
            generalize hwq : World.drewN wr _ = wq
            have hD : Hid (OD1 w3 l out k2 (.slice a3 z c3) L wq) := hD0.out.below (hwq ▸ bdrewB (Below.refl _ wr) _)
            clear hD0 hwq a0
            -- the sample goes in (world wq, state hD)
            obtain ⟨a0, x1, x2, x3, x4, x5, x6⟩ := hat.out wq hD.out.bl
            have pc := hP3.out wq hD.out.bl
            have serx : SerIn wq tx x.s := (hser.out wq hD.out.bl)
            have bA : Below wq.heap.size wq (wq.alloc (.cells #[.string x.s.m, .slice tx nx cx, .string x.s.f, .int .i64 x.tm, .int .u8 (x.kd : Int), .int .i64 x.n] 76)) := (Below.refl _ wq).alloc (Nat.le_refl _) _
            have CC : Hid (Calls Tryz.prog 21 #[.slice tx nx cx] (wq.alloc (.cells #[.string x.s.m, .slice tx nx cx, .string x.s.f, .int .i64 x.tm, .int .u8 (x.kd : Int), .int .i64 x.n] 76)) fun e w9 => ∃ a' c', e = .returned (.slice a' nx c') ∧ OT w9 (wq.heap.size + 1) (.slice a' nx c') x.s.t ∧ Below (wq.heap.size + 1) (wq.alloc (.cells #[.string x.s.m, .slice tx nx cx, .string x.s.f, .int .i64 x.tm, .int .u8 (x.kd : Int), .int .i64 x.n] 76)) w9) := by
              have := cloneO_any tx cx x.s.t (wq.alloc (.cells #[.string x.s.m, .slice tx nx cx, .string x.s.f, .int .i64 x.tm, .int .u8 (x.kd : Int), .int .i64 x.n] 76)) ((serx.belowW bA).1) hxt
              rw [hnx.out] at this
              rw [show (wq.alloc (.cells #[.string x.s.m, .slice tx nx cx, .string x.s.f, .int .i64 x.tm, .int .u8 (x.kd : Int), .int .i64 x.n] 76)).heap.size = wq.heap.size + 1 by simp] at this
              exact this
            have hfin : Hid (∀ (a' : Option Addr) (c' : Nat) (w5 : World), OT w5 (wq.heap.size + 1) (.slice a' nx c') x.s.t → Below (wq.heap.size + 1) (wq.alloc (.cells #[.string x.s.m, .slice tx nx cx, .string x.s.f, .int .i64 x.tm, .int .u8 (x.kd : Int), .int .i64 x.n] 76)) w5 → ∃ a4 z4 c4 L4 w6, (Builtin.append_ #[23, 23] 23 #[.slice a3 z c3, .slice (some ⟨w5.heap.size, 0, none⟩) 1 1]).run Tryz.prog ((w5.setCell ⟨wq.heap.size, 1, none⟩ (.slice a' nx c')).alloc (.cells #[.string x.s.m, .slice a' nx c', .string x.s.f, .int .i64 x.tm, .int .u8 (x.kd : Int), .int .i64 x.n] 76)) = .ok (.slice a4 z4 c4) w6 ∧ OD1 w3 l out (k2 + 1) (.slice a4 z4 c4) L4 w6) := fun a' c' w5 o5 b5 => by
              have sz : (wq.alloc (.cells #[.string x.s.m, .slice tx nx cx, .string x.s.f, .int .i64 x.tm, .int .u8 (x.kd : Int), .int .i64 x.n] 76)).heap.size = wq.heap.size + 1 := by simp
              have b5w : Below wq.heap.size wq w5 := bA.trans (b5.mono (by omega))
              have b5s : Below wq.heap.size wq (w5.setCell ⟨wq.heap.size, 1, none⟩ (.slice a' nx c')) := b5w.setCell (p := ⟨wq.heap.size, 1, none⟩) (Nat.le_refl _) _
              have hD5 := hD.out.below b5s
              have hts : OT (w5.setCell ⟨wq.heap.size, 1, none⟩ (.slice a' nx c')) w3.heap.size (tV (x, a', c')) x.s.t := by
                have h0 : OT (w5.setCell ⟨wq.heap.size, 1, none⟩ (.slice a' nx c')) (wq.heap.size + 1) (.slice a' nx c') x.s.t := OT.keep o5 (fun q e => Below.heap_setCell _ _ _ _ (fun c => by have := (o5.bound e).1; simp only at c; omega))
                have h1 : tV (x, a', c') = .slice a' nx c' := by unfold tV; rw [hnx.out]
                rw [h1]
                exact OT.mono h0 (by have := hD.out.bl.size; omega)
              have lz : L.length = z := by
                obtain ⟨_, _, e, _⟩ := hD.out.row.ow.win
                injection e with _ e _
                exact e.symm
              have few : L.length ≤ k2 := by
                have := ordL_len l out k2
                rw [← hD.out.is, List.length_map] at this
                exact this
              obtain ⟨a4, c4, w6, q1, q2, q3⟩ := appD _ w3.heap.size (.slice a3 z c3) L hD5.row (Nat.le_trans hD.out.bl.size b5s.size) (x, a', c') hts serx.2 (fun q e => by
                have h1 : tV (x, a', c') = .slice a' nx c' := by unfold tV; rw [hnx.out]
                rw [h1] at e
                have h2 := (o5.bound e).1
                exact ⟨fun c => by have := (World.ownsRow.lt hD.out.row.row q c).2; omega, fun u hu c => by have := ((hD.out.row.tg u hu).bound c).2; omega⟩) (by omega)
              refine ⟨a4, L.length + 1, c4, L ++ [(x, a', c')], w6, ?_, q2, ?_, ?_⟩
              · have s5 : (w5.setCell ⟨wq.heap.size, 1, none⟩ (.slice a' nx c')).heap.size = w5.heap.size := by simp
                rw [s5] at q1
                simp only [hnx.out] at q1
                exact q1
              · rw [List.map_append, hD.out.is, ordL_new hpH.out (Or.inl hk0H.out)]
                congr 1
                show [x] = _
                rw [hxl.out]
              · exact hD5.bl.trans q3
            have hwb : Hid (∀ w5, Below (wq.heap.size + 1) (wq.alloc (.cells #[.string x.s.m, .slice tx nx cx, .string x.s.f, .int .i64 x.tm, .int .u8 (x.kd : Int), .int .i64 x.n] 76)) w5 → (w5.cell? ⟨wq.heap.size, 0, none⟩ = some (.string x.s.m) ∧ w5.cell? ⟨wq.heap.size, 1, none⟩ = some (.slice tx nx cx) ∧ w5.cell? ⟨wq.heap.size, 2, none⟩ = some (.string x.s.f) ∧ w5.cell? ⟨wq.heap.size, 3, none⟩ = some (.int .i64 x.tm) ∧ w5.cell? ⟨wq.heap.size, 4, none⟩ = some (.int .u8 (x.kd : Int)) ∧ w5.cell? ⟨wq.heap.size, 5, none⟩ = some (.int .i64 x.n)) ∧ w5.frozen? ⟨wq.heap.size, 1, none⟩ = false) := fun w5 b5 => by
              refine ⟨⟨?_, ?_, ?_, ?_, ?_, ?_⟩, ?_⟩
              · rw [b5.cell (p := ⟨wq.heap.size, 0, none⟩) (by show wq.heap.size < _; omega)]; simp [go_sem]
              · rw [b5.cell (p := ⟨wq.heap.size, 1, none⟩) (by show wq.heap.size < _; omega)]; simp [go_sem]
              · rw [b5.cell (p := ⟨wq.heap.size, 2, none⟩) (by show wq.heap.size < _; omega)]; simp [go_sem]
              · rw [b5.cell (p := ⟨wq.heap.size, 3, none⟩) (by show wq.heap.size < _; omega)]; simp [go_sem]
              · rw [b5.cell (p := ⟨wq.heap.size, 4, none⟩) (by show wq.heap.size < _; omega)]; simp [go_sem]
              · rw [b5.cell (p := ⟨wq.heap.size, 5, none⟩) (by show wq.heap.size < _; omega)]; simp [go_sem]
              · rw [b5.frozen (p := ⟨wq.heap.size, 1, none⟩) (by show wq.heap.size < _; omega)]; simp [go_sem]
            clear serx bA hD
            go_wp2_with fail
            refine Calls.mono CC.out ?_
            rintro e w5 ⟨a', c', rfl, o5, b5⟩
            obtain ⟨⟨y1, y2, y3, y4, y5, y6⟩, y7⟩ := hwb.out w5 b5
            obtain ⟨a4, z4, c4, L4, w6, hr6, hD6⟩ := hfin.out a' c' w5 o5 b5
            have hrH : Hid (∀ W, W = (w5.setCell ⟨wq.heap.size, 1, none⟩ (.slice a' nx c')).alloc (.cells #[.string x.s.m, .slice a' nx c', .string x.s.f, .int .i64 x.tm, .int .u8 (x.kd : Int), .int .i64 x.n] 76) → (Builtin.append_ #[23, 23] 23 #[.slice a3 z c3, .slice (some ⟨w5.heap.size, 0, none⟩) 1 1]).run Tryz.prog W = .ok (.slice a4 z4 c4) w6) := fun W e => by subst e; exact hr6
            have hD6H : Hid (OD1 w3 l out (k2 + 1) (.slice a4 z4 c4) L4 w6) := hD6
            clear o5 b5 CC hwb hfin hr6 hD6 a0 pc x1 x2 x3 x4 x5 x6
            go_wp2_with (at_builtin; refine wpList_append_runB (by rfl) _ _ _ (by rfl) _ _ _ _ (by rfl) (by rfl) (hrH.out _ rfl) ?_)
            exact ⟨⟨k2 + 1, z4, c4, a4, L4, rfl, by first | rfl | simp, by omega, hD6H⟩, by simp [intOf]; omega⟩
          · have hkz : ((k2 : Int) == 0) = false := by simp; omega
            obtain ⟨q, hq⟩ : ∃ q, out[k2 - 1]? = some q := ⟨_, List.getElem?_eq_getElem (by have := hM.out; omega)⟩
            have hqH : Hid (out[k2 - 1]? = some q) := hq
            have hqn : q < k := (hsH.out.all q).1 (List.mem_of_getElem? hq)
            have q0 : (0 : Int) ≤ (q : Int) := by omega
            have qI : (q : Int) < (k : Int) := by omega
            have kv : IntKind.i64.wrap ((k2 : Int) - 1) = (k2 : Int) - 1 := IntWalk.i64_in _ (by omega)
            have k3 : (0 : Int) ≤ (k2 : Int) - 1 := by omega
            have k4 : (k2 : Int) - 1 < (m : Int) := by omega
            have k5 : (1 : Int) ≤ (k2 : Int) := by omega
            have gy : l[q]? = some (atW l q) := atW_some (by rw [hN.out]; exact hqn)
            obtain ⟨b', off', ty, cy, e2, _, _, fy⟩ := (hlH.out.below B3.out).at (Below.refl _ _) gy
            injection e2 with e2
            injection e2 with e3 e4
            subst e3 e4
            obtain ⟨y, hy⟩ : ∃ y, atW l q = y := ⟨_, rfl⟩
            rw [hy] at fy
            have hyl : Hid (y = atW l q) := hy.symm
            obtain ⟨ny, hny⟩ : ∃ ny, y.s.t.length = ny := ⟨_, rfl⟩
            have hay : Hid (∀ W, Below w3.heap.size w3 W → W.cell? ⟨g, k2 - 1, none⟩ = some (.int .i64 (q : Int)) ∧ W.cell? ⟨b, off + q * 6, none⟩ = some (.string y.s.m) ∧ W.cell? ⟨b, off + q * 6 + 1, none⟩ = some (.slice ty ny cy) ∧ W.cell? ⟨b, off + q * 6 + 2, none⟩ = some (.string y.s.f) ∧ W.cell? ⟨b, off + q * 6 + 3, none⟩ = some (.int .i64 y.tm) ∧ W.cell? ⟨b, off + q * 6 + 4, none⟩ = some (.int .u8 (y.kd : Int)) ∧ W.cell? ⟨b, off + q * 6 + 5, none⟩ = some (.int .i64 y.n)) := fun W hW => ⟨hcH.out (k2 - 1) q W hq hW, by have := (fy W hW).1; unfold WAt at this; rw [hny] at this; exact this⟩
            have CH : Hid (∀ W, Below w3.heap.size w3 W → Calls Tryz.prog 20 #[.agg #[.string y.s.m, .slice ty ny cy, .string y.s.f, .int .i64 y.tm, .int .u8 (y.kd : Int), .int .i64 y.n], .agg #[.string x.s.m, .slice tx nx cx, .string x.s.f, .int .i64 x.tm, .int .u8 (x.kd : Int), .int .i64 x.n]] W fun e w' => e = .returned (.int .i64 (wC y x)) ∧ Below W.heap.size W w') := fun W hW => by
              have := bcompare_any y x ty tx cy cx W (fy W hW).2 (hser.out W hW)
              unfold wV at this
              rw [hny, hnx.out] at this
              exact this
            obtain ⟨a0, x1, x2, x3, x4, x5, x6⟩ := hat.out wr hD0.out.bl
            obtain ⟨b0', y1, y2, y3, y4, y5, y6⟩ := hay.out wr hD0.out.bl
            have pc := hP3.out wr hD0.out.bl
            have pl : P1 < wr.heap.size := Nat.lt_of_lt_of_le ple.out.1 hD0.out.bl.size
            have gl : g < wr.heap.size := Nat.lt_of_lt_of_le ple.out.2 hD0.out.bl.size
            have bl : b < wr.heap.size := Nat.lt_of_lt_of_le hbH.out hD0.out.bl.size
            obtain ⟨cv, hcv⟩ : ∃ cv, wC y x = cv := ⟨_, rfl⟩
            rw [hcv] at CH
            have hcvH : Hid (wC y x = cv) := hcv
            clear fy hy hny gy hq hcv hay
            by_cases hc0 : cv = 0
            · have hcb : (cv == 0) = true := by simpa using hc0
              have nx2 : Hid (ordL l out (k2 + 1) = ordL l out k2) := ordL_skip (by omega) hqH.out hpH.out (by rw [← hxl.out, ← hyl.out, hcvH.out]; exact hc0)
              clear hc0
              go_wp2_with fail
              refine wp_region_noPanic ?_
              refine wp_region_held_drew (S := fun W => ((W.cell? ⟨P1, 0, none⟩ = some (.slice (some ⟨b, off, none⟩) k c) ∧ W.cell? ⟨g, k2 - 1, none⟩ = some (.int .i64 (q : Int))) ∧ W.cell? ⟨b, off + q * 6, none⟩ = some (.string y.s.m) ∧ W.cell? ⟨b, off + q * 6 + 1, none⟩ = some (.slice ty ny cy) ∧ W.cell? ⟨b, off + q * 6 + 2, none⟩ = some (.string y.s.f) ∧ W.cell? ⟨b, off + q * 6 + 3, none⟩ = some (.int .i64 y.tm) ∧ W.cell? ⟨b, off + q * 6 + 4, none⟩ = some (.int .u8 (y.kd : Int)) ∧ W.cell? ⟨b, off + q * 6 + 5, none⟩ = some (.int .i64 y.n)) ∧ W.cell? ⟨b, off + p * 6, none⟩ = some (.string x.s.m) ∧ W.cell? ⟨b, off + p * 6 + 1, none⟩ = some (.slice tx nx cx) ∧ W.cell? ⟨b, off + p * 6 + 2, none⟩ = some (.string x.s.f) ∧ W.cell? ⟨b, off + p * 6 + 3, none⟩ = some (.int .i64 x.tm) ∧ W.cell? ⟨b, off + p * 6 + 4, none⟩ = some (.int .u8 (x.kd : Int)) ∧ W.cell? ⟨b, off + p * 6 + 5, none⟩ = some (.int .i64 x.n)) (by kernel_rfl) ⟨⟨⟨pc, b0'⟩, y1, y2, y3, y4, y5, y6⟩, x1, x2, x3, x4, x5, x6⟩ (fun hHeld => ?_)
              refine zT 0 (v := ?_) rfl ?_ ?_
              rotate_left 1
              · (intro w0 hSw; (try dsimp only at hSw); obtain ⟨⟨⟨s0, s00⟩, s1, s2, s3, s4, s5, s6⟩, t1, t2, t3, t4, t5, t6⟩ := hSw; go_simp; try with_reducible rfl)
              (try simp only [z1, z2, z3]); (try simp only [Act.put, z4, z5, z6])
              refine zT 1 (v := ?_) rfl ?_ ?_
              rotate_left 1
              · (intro w0 hSw; (try dsimp only at hSw); obtain ⟨⟨⟨s0, s00⟩, s1, s2, s3, s4, s5, s6⟩, t1, t2, t3, t4, t5, t6⟩ := hSw; go_simp; try with_reducible rfl)
              (try simp only [z1, z2, z3]); (try simp only [Act.put, z4, z5, z6])
              refine zT 2 (v := ?_) rfl ?_ ?_
              rotate_left 1
              · (intro w0 hSw; (try dsimp only at hSw); obtain ⟨⟨⟨s0, s00⟩, s1, s2, s3, s4, s5, s6⟩, t1, t2, t3, t4, t5, t6⟩ := hSw; go_simp; try with_reducible rfl)
              (try simp only [z1, z2, z3]); (try simp only [Act.put, z4, z5, z6])
              refine zT 3 (v := ?_) rfl ?_ ?_
              rotate_left 1
              · (intro w0 hSw; (try dsimp only at hSw); obtain ⟨⟨⟨s0, s00⟩, s1, s2, s3, s4, s5, s6⟩, t1, t2, t3, t4, t5, t6⟩ := hSw; go_simp; try with_reducible rfl)
              (try simp only [z1, z2, z3]); (try simp only [Act.put, z4, z5, z6])
              refine zT 4 (v := ?_) rfl ?_ ?_
              rotate_left 1
              · (intro w0 hSw; (try dsimp only at hSw); obtain ⟨⟨⟨s0, s00⟩, s1, s2, s3, s4, s5, s6⟩, t1, t2, t3, t4, t5, t6⟩ := hSw; go_simp; try with_reducible rfl)
              (try simp only [z1, z2, z3]); (try simp only [Act.put, z4, z5, z6])
              refine zT 5 (v := ?_) rfl ?_ ?_
              rotate_left 1
              · (intro w0 hSw; (try dsimp only at hSw); obtain ⟨⟨⟨s0, s00⟩, s1, s2, s3, s4, s5, s6⟩, t1, t2, t3, t4, t5, t6⟩ := hSw; go_simp; try with_reducible rfl)
              (try simp only [z1, z2, z3]); (try simp only [Act.put, z4, z5, z6])
              refine zT 6 (v := ?_) rfl ?_ ?_
              rotate_left 1
              · (intro w0 hSw; (try dsimp only at hSw); obtain ⟨⟨⟨s0, s00⟩, s1, s2, s3, s4, s5, s6⟩, t1, t2, t3, t4, t5, t6⟩ := hSw; go_simp; try with_reducible rfl)
              (try simp only [z1, z2, z3]); (try simp only [Act.put, z4, z5, z6])
              refine zT 7 (v := ?_) rfl ?_ ?_
              rotate_left 1
              · (intro w0 hSw; (try dsimp only at hSw); obtain ⟨⟨⟨s0, s00⟩, s1, s2, s3, s4, s5, s6⟩, t1, t2, t3, t4, t5, t6⟩ := hSw; go_simp; try with_reducible rfl)
              (try simp only [z1, z2, z3]); (try simp only [Act.put, z4, z5, z6])
              refine zT 8 (v := ?_) rfl ?_ ?_
              rotate_left 1
              · (intro w0 hSw; (try dsimp only at hSw); obtain ⟨⟨⟨s0, s00⟩, s1, s2, s3, s4, s5, s6⟩, t1, t2, t3, t4, t5, t6⟩ := hSw; go_simp; try with_reducible rfl)
              (try simp only [z1, z2, z3]); (try simp only [Act.put, z4, z5, z6])
              refine zT 9 (v := ?_) rfl ?_ ?_
              rotate_left 1
              · (intro w0 hSw; (try dsimp only at hSw); obtain ⟨⟨⟨s0, s00⟩, s1, s2, s3, s4, s5, s6⟩, t1, t2, t3, t4, t5, t6⟩ := hSw; go_simp; try with_reducible rfl)
              (try simp only [z1, z2, z3]); (try simp only [Act.put, z4, z5, z6])
              refine zT 10 (v := ?_) rfl ?_ ?_
              rotate_left 1
              · (intro w0 hSw; (try dsimp only at hSw); obtain ⟨⟨⟨s0, s00⟩, s1, s2, s3, s4, s5, s6⟩, t1, t2, t3, t4, t5, t6⟩ := hSw; go_simp; try with_reducible rfl)
              (try simp only [z1, z2, z3]); (try simp only [Act.put, z4, z5, z6])
              refine zT 11 (v := ?_) rfl ?_ ?_
              rotate_left 1
              · (intro w0 hSw; (try dsimp only at hSw); obtain ⟨⟨⟨s0, s00⟩, s1, s2, s3, s4, s5, s6⟩, t1, t2, t3, t4, t5, t6⟩ := hSw; go_simp; try with_reducible rfl)
              (try simp only [z1, z2, z3]); (try simp only [Act.put, z4, z5, z6])
              refine zT 12 (v := ?_) rfl ?_ ?_
              rotate_left 1
              · (intro w0 hSw; (try dsimp only at hSw); obtain ⟨⟨⟨s0, s00⟩, s1, s2, s3, s4, s5, s6⟩, t1, t2, t3, t4, t5, t6⟩ := hSw; go_simp; try with_reducible rfl)
              (try simp only [z1, z2, z3]); (try simp only [Act.put, z4, z5, z6])
              refine zT 13 (v := ?_) rfl ?_ ?_
              rotate_left 1
              · (intro w0 hSw; (try dsimp only at hSw); obtain ⟨⟨⟨s0, s00⟩, s1, s2, s3, s4, s5, s6⟩, t1, t2, t3, t4, t5, t6⟩ := hSw; go_simp; try with_reducible rfl)
              (try simp only [z1, z2, z3]); (try simp only [Act.put, z4, z5, z6])
              refine zT 14 (v := ?_) rfl ?_ ?_
              rotate_left 1
              · (intro w0 hSw; (try dsimp only at hSw); obtain ⟨⟨⟨s0, s00⟩, s1, s2, s3, s4, s5, s6⟩, t1, t2, t3, t4, t5, t6⟩ := hSw; go_simp; try with_reducible rfl)
              (try simp only [z1, z2, z3]); (try simp only [Act.put, z4, z5, z6])
              refine wpAnyH_ready (rs := [15]) (by kernel_rfl) (by simp) ?_
              refine AllReadyH.cons (o := _) rfl (fun K hK => ?_) AllReadyH.nil
              go_simp
              refine Calls.mono (CH.out _ (show Below w3.heap.size w3 wr.drew from hD0.out.bl.drew)) ?_
              rintro e w' ⟨rfl, BB⟩
              try dsimp only
              refine hK _ _ ?_ (fun hHeld => ?_)
              · exact ⟨⟨⟨by rw [BB.cell (p := ⟨P1, 0, none⟩) pl]; exact pc, by rw [BB.cell (p := ⟨g, k2 - 1, none⟩) gl]; exact b0'⟩, by rw [BB.cell (p := ⟨b, off + q * 6, none⟩) bl]; exact y1, by rw [BB.cell (p := ⟨b, off + q * 6 + 1, none⟩) bl]; exact y2, by rw [BB.cell (p := ⟨b, off + q * 6 + 2, none⟩) bl]; exact y3, by rw [BB.cell (p := ⟨b, off + q * 6 + 3, none⟩) bl]; exact y4, by rw [BB.cell (p := ⟨b, off + q * 6 + 4, none⟩) bl]; exact y5, by rw [BB.cell (p := ⟨b, off + q * 6 + 5, none⟩) bl]; exact y6⟩, by rw [BB.cell (p := ⟨b, off + p * 6, none⟩) bl]; exact x1, by rw [BB.cell (p := ⟨b, off + p * 6 + 1, none⟩) bl]; exact x2, by rw [BB.cell (p := ⟨b, off + p * 6 + 2, none⟩) bl]; exact x3, by rw [BB.cell (p := ⟨b, off + p * 6 + 3, none⟩) bl]; exact x4, by rw [BB.cell (p := ⟨b, off + p * 6 + 4, none⟩) bl]; exact x5, by rw [BB.cell (p := ⟨b, off + p * 6 + 5, none⟩) bl]; exact x6⟩
              clear hK K
              (try simp only [z1, z2, z3]); (try simp only [Act.put, z4, z5, z6])
              refine zT 16 (v := ?_) rfl ?_ ?_
              rotate_left 1
              · (intro w0 hSw; (try dsimp only at hSw); obtain ⟨⟨⟨s0, s00⟩, s1, s2, s3, s4, s5, s6⟩, t1, t2, t3, t4, t5, t6⟩ := hSw; go_simp; try with_reducible rfl)
              (try simp only [z1, z2, z3]); (try simp only [Act.put, z4, z5, z6])
              refine zT 17 (v := ?_) rfl ?_ ?_
              rotate_left 1
              · (intro w0 hSw; (try dsimp only at hSw); obtain ⟨⟨⟨s0, s00⟩, s1, s2, s3, s4, s5, s6⟩, t1, t2, t3, t4, t5, t6⟩ := hSw; go_simp; try with_reducible rfl)
              (try simp only [z1, z2, z3]); (try simp only [Act.put, z4, z5, z6])
              refine wpAnyH_done (by kernel_rfl) ?_ _
              refine NoPanic.normal ?_
              have hD : Hid (OD1 w3 l out (k2 + 1) (.slice a3 z c3) L w') := by
                have d := hD0.out.below ((show Below wr.heap.size wr wr.drew from (Below.refl _ wr).drew).trans BB)
                exact ⟨d.row, by rw [nx2.out]; exact d.is, d.bl⟩
              clear BB CH hD0 a0 x1 x2 x3 x4 x5 x6 b0' y1 y2 y3 y4 y5 y6 pc hHeld
              go_wp2_with fail
              exact ⟨⟨k2 + 1, z, c3, a3, L, rfl, by first | rfl | simp, by omega, hD⟩, by simp [intOf]; omega⟩
            · have hcb : (cv == 0) = false := by simpa using hc0
              have hne : Hid (wC (atW l q) (atW l p) ≠ 0) := by rw [← hxl.out, ← hyl.out, hcvH.out]; exact hc0
              clear hc0
              go_wp2_with fail
              refine wp_region_noPanic ?_
              refine wp_region_held_drew (S := fun W => ((W.cell? ⟨P1, 0, none⟩ = some (.slice (some ⟨b, off, none⟩) k c) ∧ W.cell? ⟨g, k2 - 1, none⟩ = some (.int .i64 (q : Int))) ∧ W.cell? ⟨b, off + q * 6, none⟩ = some (.string y.s.m) ∧ W.cell? ⟨b, off + q * 6 + 1, none⟩ = some (.slice ty ny cy) ∧ W.cell? ⟨b, off + q * 6 + 2, none⟩ = some (.string y.s.f) ∧ W.cell? ⟨b, off + q * 6 + 3, none⟩ = some (.int .i64 y.tm) ∧ W.cell? ⟨b, off + q * 6 + 4, none⟩ = some (.int .u8 (y.kd : Int)) ∧ W.cell? ⟨b, off + q * 6 + 5, none⟩ = some (.int .i64 y.n)) ∧ W.cell? ⟨b, off + p * 6, none⟩ = some (.string x.s.m) ∧ W.cell? ⟨b, off + p * 6 + 1, none⟩ = some (.slice tx nx cx) ∧ W.cell? ⟨b, off + p * 6 + 2, none⟩ = some (.string x.s.f) ∧ W.cell? ⟨b, off + p * 6 + 3, none⟩ = some (.int .i64 x.tm) ∧ W.cell? ⟨b, off + p * 6 + 4, none⟩ = some (.int .u8 (x.kd : Int)) ∧ W.cell? ⟨b, off + p * 6 + 5, none⟩ = some (.int .i64 x.n)) (by kernel_rfl) ⟨⟨⟨pc, b0'⟩, y1, y2, y3, y4, y5, y6⟩, x1, x2, x3, x4, x5, x6⟩ (fun hHeld => ?_)
              refine zT 0 (v := ?_) rfl ?_ ?_
              rotate_left 1
              · (intro w0 hSw; (try dsimp only at hSw); obtain ⟨⟨⟨s0, s00⟩, s1, s2, s3, s4, s5, s6⟩, t1, t2, t3, t4, t5, t6⟩ := hSw; go_simp; try with_reducible rfl)
              (try simp only [z1, z2, z3]); (try simp only [Act.put, z4, z5, z6])
              refine zT 1 (v := ?_) rfl ?_ ?_
              rotate_left 1
              · (intro w0 hSw; (try dsimp only at hSw); obtain ⟨⟨⟨s0, s00⟩, s1, s2, s3, s4, s5, s6⟩, t1, t2, t3, t4, t5, t6⟩ := hSw; go_simp; try with_reducible rfl)
              (try simp only [z1, z2, z3]); (try simp only [Act.put, z4, z5, z6])
              refine zT 2 (v := ?_) rfl ?_ ?_
              rotate_left 1
              · (intro w0 hSw; (try dsimp only at hSw); obtain ⟨⟨⟨s0, s00⟩, s1, s2, s3, s4, s5, s6⟩, t1, t2, t3, t4, t5, t6⟩ := hSw; go_simp; try with_reducible rfl)
              (try simp only [z1, z2, z3]); (try simp only [Act.put, z4, z5, z6])
              refine zT 3 (v := ?_) rfl ?_ ?_
              rotate_left 1
              · (intro w0 hSw; (try dsimp only at hSw); obtain ⟨⟨⟨s0, s00⟩, s1, s2, s3, s4, s5, s6⟩, t1, t2, t3, t4, t5, t6⟩ := hSw; go_simp; try with_reducible rfl)
              (try simp only [z1, z2, z3]); (try simp only [Act.put, z4, z5, z6])
              refine zT 4 (v := ?_) rfl ?_ ?_
              rotate_left 1
              · (intro w0 hSw; (try dsimp only at hSw); obtain ⟨⟨⟨s0, s00⟩, s1, s2, s3, s4, s5, s6⟩, t1, t2, t3, t4, t5, t6⟩ := hSw; go_simp; try with_reducible rfl)
              (try simp only [z1, z2, z3]); (try simp only [Act.put, z4, z5, z6])
              refine zT 5 (v := ?_) rfl ?_ ?_
              rotate_left 1
              · (intro w0 hSw; (try dsimp only at hSw); obtain ⟨⟨⟨s0, s00⟩, s1, s2, s3, s4, s5, s6⟩, t1, t2, t3, t4, t5, t6⟩ := hSw; go_simp; try with_reducible rfl)
              (try simp only [z1, z2, z3]); (try simp only [Act.put, z4, z5, z6])
              refine zT 6 (v := ?_) rfl ?_ ?_
              rotate_left 1
              · (intro w0 hSw; (try dsimp only at hSw); obtain ⟨⟨⟨s0, s00⟩, s1, s2, s3, s4, s5, s6⟩, t1, t2, t3, t4, t5, t6⟩ := hSw; go_simp; try with_reducible rfl)
              (try simp only [z1, z2, z3]); (try simp only [Act.put, z4, z5, z6])
              refine zT 7 (v := ?_) rfl ?_ ?_
              rotate_left 1
              · (intro w0 hSw; (try dsimp only at hSw); obtain ⟨⟨⟨s0, s00⟩, s1, s2, s3, s4, s5, s6⟩, t1, t2, t3, t4, t5, t6⟩ := hSw; go_simp; try with_reducible rfl)
              (try simp only [z1, z2, z3]); (try simp only [Act.put, z4, z5, z6])
              refine zT 8 (v := ?_) rfl ?_ ?_
              rotate_left 1
              · (intro w0 hSw; (try dsimp only at hSw); obtain ⟨⟨⟨s0, s00⟩, s1, s2, s3, s4, s5, s6⟩, t1, t2, t3, t4, t5, t6⟩ := hSw; go_simp; try with_reducible rfl)
              (try simp only [z1, z2, z3]); (try simp only [Act.put, z4, z5, z6])
              refine zT 9 (v := ?_) rfl ?_ ?_
              rotate_left 1
              · (intro w0 hSw; (try dsimp only at hSw); obtain ⟨⟨⟨s0, s00⟩, s1, s2, s3, s4, s5, s6⟩, t1, t2, t3, t4, t5, t6⟩ := hSw; go_simp; try with_reducible rfl)
              (try simp only [z1, z2, z3]); (try simp only [Act.put, z4, z5, z6])
              refine zT 10 (v := ?_) rfl ?_ ?_
              rotate_left 1
              · (intro w0 hSw; (try dsimp only at hSw); obtain ⟨⟨⟨s0, s00⟩, s1, s2, s3, s4, s5, s6⟩, t1, t2, t3, t4, t5, t6⟩ := hSw; go_simp; try with_reducible rfl)
              (try simp only [z1, z2, z3]); (try simp only [Act.put, z4, z5, z6])
              refine zT 11 (v := ?_) rfl ?_ ?_
              rotate_left 1
              · (intro w0 hSw; (try dsimp only at hSw); obtain ⟨⟨⟨s0, s00⟩, s1, s2, s3, s4, s5, s6⟩, t1, t2, t3, t4, t5, t6⟩ := hSw; go_simp; try with_reducible rfl)
              (try simp only [z1, z2, z3]); (try simp only [Act.put, z4, z5, z6])
              refine zT 12 (v := ?_) rfl ?_ ?_
              rotate_left 1
              · (intro w0 hSw; (try dsimp only at hSw); obtain ⟨⟨⟨s0, s00⟩, s1, s2, s3, s4, s5, s6⟩, t1, t2, t3, t4, t5, t6⟩ := hSw; go_simp; try with_reducible rfl)
              (try simp only [z1, z2, z3]); (try simp only [Act.put, z4, z5, z6])
              refine zT 13 (v := ?_) rfl ?_ ?_
              rotate_left 1
              · (intro w0 hSw; (try dsimp only at hSw); obtain ⟨⟨⟨s0, s00⟩, s1, s2, s3, s4, s5, s6⟩, t1, t2, t3, t4, t5, t6⟩ := hSw; go_simp; try with_reducible rfl)
              (try simp only [z1, z2, z3]); (try simp only [Act.put, z4, z5, z6])
              refine zT 14 (v := ?_) rfl ?_ ?_
              rotate_left 1
              · (intro w0 hSw; (try dsimp only at hSw); obtain ⟨⟨⟨s0, s00⟩, s1, s2, s3, s4, s5, s6⟩, t1, t2, t3, t4, t5, t6⟩ := hSw; go_simp; try with_reducible rfl)
              (try simp only [z1, z2, z3]); (try simp only [Act.put, z4, z5, z6])
              refine wpAnyH_ready (rs := [15]) (by kernel_rfl) (by simp) ?_
              refine AllReadyH.cons (o := _) rfl (fun K hK => ?_) AllReadyH.nil
              go_simp
              refine Calls.mono (CH.out _ (show Below w3.heap.size w3 wr.drew from hD0.out.bl.drew)) ?_
              rintro e w' ⟨rfl, BB⟩
              try dsimp only
              refine hK _ _ ?_ (fun hHeld => ?_)
              · exact ⟨⟨⟨by rw [BB.cell (p := ⟨P1, 0, none⟩) pl]; exact pc, by rw [BB.cell (p := ⟨g, k2 - 1, none⟩) gl]; exact b0'⟩, by rw [BB.cell (p := ⟨b, off + q * 6, none⟩) bl]; exact y1, by rw [BB.cell (p := ⟨b, off + q * 6 + 1, none⟩) bl]; exact y2, by rw [BB.cell (p := ⟨b, off + q * 6 + 2, none⟩) bl]; exact y3, by rw [BB.cell (p := ⟨b, off + q * 6 + 3, none⟩) bl]; exact y4, by rw [BB.cell (p := ⟨b, off + q * 6 + 4, none⟩) bl]; exact y5, by rw [BB.cell (p := ⟨b, off + q * 6 + 5, none⟩) bl]; exact y6⟩, by rw [BB.cell (p := ⟨b, off + p * 6, none⟩) bl]; exact x1, by rw [BB.cell (p := ⟨b, off + p * 6 + 1, none⟩) bl]; exact x2, by rw [BB.cell (p := ⟨b, off + p * 6 + 2, none⟩) bl]; exact x3, by rw [BB.cell (p := ⟨b, off + p * 6 + 3, none⟩) bl]; exact x4, by rw [BB.cell (p := ⟨b, off + p * 6 + 4, none⟩) bl]; exact x5, by rw [BB.cell (p := ⟨b, off + p * 6 + 5, none⟩) bl]; exact x6⟩
              clear hK K
              (try simp only [z1, z2, z3]); (try simp only [Act.put, z4, z5, z6])
              refine zT 16 (v := ?_) rfl ?_ ?_
              rotate_left 1
              · (intro w0 hSw; (try dsimp only at hSw); obtain ⟨⟨⟨s0, s00⟩, s1, s2, s3, s4, s5, s6⟩, t1, t2, t3, t4, t5, t6⟩ := hSw; go_simp; try with_reducible rfl)
              (try simp only [z1, z2, z3]); (try simp only [Act.put, z4, z5, z6])
              refine zT 17 (v := ?_) rfl ?_ ?_
              rotate_left 1
              · (intro w0 hSw; (try dsimp only at hSw); obtain ⟨⟨⟨s0, s00⟩, s1, s2, s3, s4, s5, s6⟩, t1, t2, t3, t4, t5, t6⟩ := hSw; go_simp; try with_reducible rfl)
              (try simp only [z1, z2, z3]); (try simp only [Act.put, z4, z5, z6])
              refine wpAnyH_done (by kernel_rfl) ?_ _
              refine NoPanic.normal ?_
              have hD : Hid (OD1 w3 l out k2 (.slice a3 z c3) L w') := hD0.out.below ((show Below wr.heap.size wr wr.drew from (Below.refl _ wr).drew).trans BB)
              clear BB CH hD0 a0 x1 x2 x3 x4 x5 x6 b0' y1 y2 y3 y4 y5 y6 pc hHeld hyl hcvH
              -- the sample goes in (world w', state hD)
              obtain ⟨a0, x1, x2, x3, x4, x5, x6⟩ := hat.out w' hD.out.bl
              have pc := hP3.out w' hD.out.bl
              have serx : SerIn w' tx x.s := (hser.out w' hD.out.bl)
              have bA : Below w'.heap.size w' (w'.alloc (.cells #[.string x.s.m, .slice tx nx cx, .string x.s.f, .int .i64 x.tm, .int .u8 (x.kd : Int), .int .i64 x.n] 76)) := (Below.refl _ w').alloc (Nat.le_refl _) _
              have CC : Hid (Calls Tryz.prog 21 #[.slice tx nx cx] (w'.alloc (.cells #[.string x.s.m, .slice tx nx cx, .string x.s.f, .int .i64 x.tm, .int .u8 (x.kd : Int), .int .i64 x.n] 76)) fun e w9 => ∃ a' c', e = .returned (.slice a' nx c') ∧ OT w9 (w'.heap.size + 1) (.slice a' nx c') x.s.t ∧ Below (w'.heap.size + 1) (w'.alloc (.cells #[.string x.s.m, .slice tx nx cx, .string x.s.f, .int .i64 x.tm, .int .u8 (x.kd : Int), .int .i64 x.n] 76)) w9) := by
                have := cloneO_any tx cx x.s.t (w'.alloc (.cells #[.string x.s.m, .slice tx nx cx, .string x.s.f, .int .i64 x.tm, .int .u8 (x.kd : Int), .int .i64 x.n] 76)) ((serx.belowW bA).1) hxt
                rw [hnx.out] at this
                rw [show (w'.alloc (.cells #[.string x.s.m, .slice tx nx cx, .string x.s.f, .int .i64 x.tm, .int .u8 (x.kd : Int), .int .i64 x.n] 76)).heap.size = w'.heap.size + 1 by simp] at this
                exact this
              have hfin : Hid (∀ (a' : Option Addr) (c' : Nat) (w5 : World), OT w5 (w'.heap.size + 1) (.slice a' nx c') x.s.t → Below (w'.heap.size + 1) (w'.alloc (.cells #[.string x.s.m, .slice tx nx cx, .string x.s.f, .int .i64 x.tm, .int .u8 (x.kd : Int), .int .i64 x.n] 76)) w5 → ∃ a4 z4 c4 L4 w6, (Builtin.append_ #[23, 23] 23 #[.slice a3 z c3, .slice (some ⟨w5.heap.size, 0, none⟩) 1 1]).run Tryz.prog ((w5.setCell ⟨w'.heap.size, 1, none⟩ (.slice a' nx c')).alloc (.cells #[.string x.s.m, .slice a' nx c', .string x.s.f, .int .i64 x.tm, .int .u8 (x.kd : Int), .int .i64 x.n] 76)) = .ok (.slice a4 z4 c4) w6 ∧ OD1 w3 l out (k2 + 1) (.slice a4 z4 c4) L4 w6) := fun a' c' w5 o5 b5 => by
                have sz : (w'.alloc (.cells #[.string x.s.m, .slice tx nx cx, .string x.s.f, .int .i64 x.tm, .int .u8 (x.kd : Int), .int .i64 x.n] 76)).heap.size = w'.heap.size + 1 := by simp
                have b5w : Below w'.heap.size w' w5 := bA.trans (b5.mono (by omega))
                have b5s : Below w'.heap.size w' (w5.setCell ⟨w'.heap.size, 1, none⟩ (.slice a' nx c')) := b5w.setCell (p := ⟨w'.heap.size, 1, none⟩) (Nat.le_refl _) _
                have hD5 := hD.out.below b5s
                have hts : OT (w5.setCell ⟨w'.heap.size, 1, none⟩ (.slice a' nx c')) w3.heap.size (tV (x, a', c')) x.s.t := by
                  have h0 : OT (w5.setCell ⟨w'.heap.size, 1, none⟩ (.slice a' nx c')) (w'.heap.size + 1) (.slice a' nx c') x.s.t := OT.keep o5 (fun q e => Below.heap_setCell _ _ _ _ (fun c => by have := (o5.bound e).1; simp only at c; omega))
                  have h1 : tV (x, a', c') = .slice a' nx c' := by unfold tV; rw [hnx.out]
                  rw [h1]
                  exact OT.mono h0 (by have := hD.out.bl.size; omega)
                have lz : L.length = z := by
                  obtain ⟨_, _, e, _⟩ := hD.out.row.ow.win
                  injection e with _ e _
                  exact e.symm
                have few : L.length ≤ k2 := by
                  have := ordL_len l out k2
                  rw [← hD.out.is, List.length_map] at this
                  exact this
                obtain ⟨a4, c4, w6, q1, q2, q3⟩ := appD _ w3.heap.size (.slice a3 z c3) L hD5.row (Nat.le_trans hD.out.bl.size b5s.size) (x, a', c') hts serx.2 (fun q e => by
                  have h1 : tV (x, a', c') = .slice a' nx c' := by unfold tV; rw [hnx.out]
                  rw [h1] at e
                  have h2 := (o5.bound e).1
                  exact ⟨fun c => by have := (World.ownsRow.lt hD.out.row.row q c).2; omega, fun u hu c => by have := ((hD.out.row.tg u hu).bound c).2; omega⟩) (by omega)
                refine ⟨a4, L.length + 1, c4, L ++ [(x, a', c')], w6, ?_, q2, ?_, ?_⟩
                · have s5 : (w5.setCell ⟨w'.heap.size, 1, none⟩ (.slice a' nx c')).heap.size = w5.heap.size := by simp
                  rw [s5] at q1
                  simp only [hnx.out] at q1
                  exact q1
                · rw [List.map_append, hD.out.is, ordL_new hpH.out (Or.inr ⟨q, hqH.out, hne.out⟩)]
                  congr 1
                  show [x] = _
                  rw [hxl.out]
                · exact hD5.bl.trans q3
              have hwb : Hid (∀ w5, Below (w'.heap.size + 1) (w'.alloc (.cells #[.string x.s.m, .slice tx nx cx, .string x.s.f, .int .i64 x.tm, .int .u8 (x.kd : Int), .int .i64 x.n] 76)) w5 → (w5.cell? ⟨w'.heap.size, 0, none⟩ = some (.string x.s.m) ∧ w5.cell? ⟨w'.heap.size, 1, none⟩ = some (.slice tx nx cx) ∧ w5.cell? ⟨w'.heap.size, 2, none⟩ = some (.string x.s.f) ∧ w5.cell? ⟨w'.heap.size, 3, none⟩ = some (.int .i64 x.tm) ∧ w5.cell? ⟨w'.heap.size, 4, none⟩ = some (.int .u8 (x.kd : Int)) ∧ w5.cell? ⟨w'.heap.size, 5, none⟩ = some (.int .i64 x.n)) ∧ w5.frozen? ⟨w'.heap.size, 1, none⟩ = false) := fun w5 b5 => by
                refine ⟨⟨?_, ?_, ?_, ?_, ?_, ?_⟩, ?_⟩
                · rw [b5.cell (p := ⟨w'.heap.size, 0, none⟩) (by show w'.heap.size < _; omega)]; simp [go_sem]
                · rw [b5.cell (p := ⟨w'.heap.size, 1, none⟩) (by show w'.heap.size < _; omega)]; simp [go_sem]
                · rw [b5.cell (p := ⟨w'.heap.size, 2, none⟩) (by show w'.heap.size < _; omega)]; simp [go_sem]
                · rw [b5.cell (p := ⟨w'.heap.size, 3, none⟩) (by show w'.heap.size < _; omega)]; simp [go_sem]
                · rw [b5.cell (p := ⟨w'.heap.size, 4, none⟩) (by show w'.heap.size < _; omega)]; simp [go_sem]
                · rw [b5.cell (p := ⟨w'.heap.size, 5, none⟩) (by show w'.heap.size < _; omega)]; simp [go_sem]
                · rw [b5.frozen (p := ⟨w'.heap.size, 1, none⟩) (by show w'.heap.size < _; omega)]; simp [go_sem]
              clear serx bA hD
              go_wp2_with fail
              refine Calls.mono CC.out ?_
              rintro e w5 ⟨a', c', rfl, o5, b5⟩
              obtain ⟨⟨y1, y2, y3, y4, y5, y6⟩, y7⟩ := hwb.out w5 b5
              obtain ⟨a4, z4, c4, L4, w6, hr6, hD6⟩ := hfin.out a' c' w5 o5 b5
              have hrH : Hid (∀ W, W = (w5.setCell ⟨w'.heap.size, 1, none⟩ (.slice a' nx c')).alloc (.cells #[.string x.s.m, .slice a' nx c', .string x.s.f, .int .i64 x.tm, .int .u8 (x.kd : Int), .int .i64 x.n] 76) → (Builtin.append_ #[23, 23] 23 #[.slice a3 z c3, .slice (some ⟨w5.heap.size, 0, none⟩) 1 1]).run Tryz.prog W = .ok (.slice a4 z4 c4) w6) := fun W e => by subst e; exact hr6
              have hD6H : Hid (OD1 w3 l out (k2 + 1) (.slice a4 z4 c4) L4 w6) := hD6
              clear o5 b5 CC hwb hfin hr6 hD6 a0 pc x1 x2 x3 x4 x5 x6
              go_wp2_with (at_builtin; refine wpList_append_runB (by rfl) _ _ _ (by rfl) _ _ _ _ (by rfl) (by rfl) (hrH.out _ rfl) ?_)
              exact ⟨⟨k2 + 1, z4, c4, a4, L4, rfl, by first | rfl | simp, by omega, hD6H⟩, by simp [intOf]; omega⟩
        · have hkI2 : ¬ (k2 : Int) < (m : Int) := by omega
          obtain rfl : k2 = m := by omega
          have fin : Hid (OrdR w wr l (.returned (.slice a3 z c3))) := by
            refine ⟨out, L, _, rfl, by rw [hN.out]; exact hsH.out, ?_, by rw [hM.out]; exact hD0.out.is, B3.out.trans (hD0.out.bl.mono B3.out.size)⟩
            exact hD0.out.row.mono B3.out.size
          clear hD0
          go_wp2_with fail
          go_ret
          exact fin.out
end Go.Proofs.YtpbcbpiolhjlhaaGreatDoor.De
