
import Derived.Test.YticgapplpfaigaaGreatDrF
namespace Go.Proofs.YticgapplpfaigaaGreat
open Go.RowKit
set_option linter.unusedVariables false
set_option linter.unusedSimpArgs false
set_option maxRecDepth 100000 in
set_option maxHeartbeats 4000000 in
theorem rload_any (N B : Nat) (v : Value) (l L : List Smp) (a : Option Addr) (cap : Nat) (w : World) (h : SS N B v l w) (hL : ∀ W, Below B w W → LIn W a L) (hn : l.length + L.length ≤ 1000000000000) :
    Calls Tryz.prog 12 #[.pointer (some ⟨N, 0, none⟩), .slice a L.length cap] w fun e w' => ∃ r v', e = .returned r ∧ SS N B v' (putAll l L) w' ∧ RFr N v v' w w' ∧ w'.ownsRow w.heap.size 95 10 r (rdl l (putAll l L)).length (encD (rdl l (putAll l L))) := by
  have hH : Hid (SS N B v l w) := h
  have hLH : Hid (∀ W, Below B w W → LIn W a L) := hL
  have hfk : Hid _ := rfork_any N B v l w h
  have hNw := h.hN
  clear h hL
  obtain ⟨m, hm⟩ : ∃ m, m = L.length := ⟨_, rfl⟩
  have hmH : Hid (m = L.length) := hm
  rw [← hm] at hn ⊢
  clear hm
  go_enter Tryz.func12, Tryz.ntmps12
  go_wp2_with fail
  refine Calls.mono hfk.out ?_
  rintro e w1 ⟨M, vW, rfl, hW1, hvW, hB1⟩
  have h0 : Hid (PutS N B M v vW l L w w1 v 0) := ⟨by simpa [putAll] using hH.out.below hB1, RFr.of hB1, hW1, fun e => by have := hH.out.row.lt e; have := hW1.hB; omega, fun g e e2 => by have := hvW g e; have := hH.out.row.lt e2; omega⟩
  clear hfk hW1 hB1
  go_wp2_with fail
  go_loopw [6] (fun i wr => ∃ (k : Nat) (vk : Value), k ≤ m ∧ i = .int .i64 (k : Int) ∧ Hid (PutS N B M v vW l L w wr vk k)) (fun i _ => m - (intOf i).toNat)
  case atStart => exact ⟨0, v, by omega, rfl, h0.out⟩
  case round =>
    obtain ⟨k, vk, hk, rfl, hD⟩ := hrel
    clear h0
    by_cases hkm : k < m
    · have hkI : (k : Int) < (m : Int) := by omega
      have k1 : (0 : Int) ≤ (k : Int) := by omega
      have hLr : LIn wr a L := hLH.out wr (hD.out.f.below hH.out)
      obtain ⟨b, off, s, rfl, hb, hs, d1, d2, d3⟩ := LIn.at hLr (Below.refl _ _) (by have := hmH.out; omega : k < L.length)
      have hsH : Hid (L[k]? = some s) := hs
      have S5 : wr.cell? ⟨b, off + k * 3, none⟩ = some (.int .i64 s.t) ∧ wr.cell? ⟨b, off + k * 3 + 1, none⟩ = some (.int .u8 (s.k : Int)) ∧ wr.cell? ⟨b, off + k * 3 + 2, none⟩ = some (.int .i64 s.x) := ⟨d1, d2, d3⟩
      have hcall : Hid (Calls Tryz.prog 32 #[.pointer (some ⟨N, 0, none⟩), .int .i64 s.t, .agg #[.int .u8 (s.k : Int), .int .i64 s.x]] wr.drew fun e w' => (∃ r, e = .returned r) ∧ (w'.cell? ⟨b, off + k * 3, none⟩ = some (.int .i64 s.t) ∧ w'.cell? ⟨b, off + k * 3 + 1, none⟩ = some (.int .u8 (s.k : Int)) ∧ w'.cell? ⟨b, off + k * 3 + 2, none⟩ = some (.int .i64 s.x)) ∧ ∃ v', SS N B v' (putL (putAll l (L.take k)) s) w' ∧ RFr N vk v' wr w') := by
        have hdr : Below wr.heap.size wr wr.drew := (Below.refl _ _).drew
        refine Calls.mono (rput_any N B vk (putAll l (L.take k)) wr.drew (hD.out.s.below hdr) s (hLr.1 s (List.mem_of_getElem? hs)) (by have := (putAll_spec hH.out.hr L k (by have := hmH.out; omega)).2.1; omega)) ?_
        rintro e w' ⟨rfl, v', h1, h2⟩
        have h3 : RFr N vk v' wr w' := (RFr.of hdr).trans h2
        obtain ⟨b2, off2, s2, e2, _, hs2, q1, q2, q3⟩ := LIn.at (hLH.out w' ((hD.out.f.trans h3).below hH.out)) (Below.refl _ _) (by have := hmH.out; omega : k < L.length)
        injection e2 with e2
        injection e2 with e3 e4
        rw [hs] at hs2
        injection hs2 with hs2
        subst e3 e4 hs2
        exact ⟨⟨_, rfl⟩, ⟨q1, q2, q3⟩, v', h1, h3⟩
      clear hLr hs d1 d2 d3
      go_wp2_with fail
      go_region_held3 (fun w' => w'.cell? ⟨b, off + k * 3, none⟩ = some (.int .i64 s.t) ∧ w'.cell? ⟨b, off + k * 3 + 1, none⟩ = some (.int .u8 (s.k : Int)) ∧ w'.cell? ⟨b, off + k * 3 + 2, none⟩ = some (.int .i64 s.x)) (first | assumption)
        (first
          | (go_at_call 32; (with_reducible refine Calls.mono hcall.out ?_); rintro e w2 ⟨⟨r, rfl⟩, hSk, v', hS2, hF2⟩))
      have hnx : Hid (PutS N B M v vW l L w w2 v' (k + 1)) := hD.out.next hNw hsH.out hS2 hF2
      clear hcall hS2 hF2 hD hSk S5
      go_wp2_with fail
      exact ⟨⟨k + 1, v', by omega, by go_num, hnx.out⟩, by simp [intOf]; omega⟩
    · obtain rfl : m = k := by omega
      have hD' : Hid (PutS N B M v vW l L w wr vk L.length) := by rw [← hmH.out]; exact hD
      obtain ⟨X, hX⟩ : ∃ X, X = putAll l L := ⟨_, rfl⟩
      have hXH : Hid (X = putAll l L) := hX
      have hS : Hid (SS N B vk X wr) := by have := hD'.out.s; rw [List.take_length, ← hX] at this; exact this
      have hWs : Hid (SS M w.heap.size vW l wr) := hD'.out.ws
      have hF : Hid (RFr N v vk w wr) := hD'.out.f
      have hXl : X.length ≤ l.length + m := by
        have := (putAll_spec hH.out.hr L L.length (Nat.le_refl _)).2.1
        rw [List.take_length, ← hX, ← hmH.out] at this; exact this
      clear hD hD' hX
      obtain ⟨xa, xc, hv, hxc, hLX⟩ := hS.out.row.lin hS.out.hk
      have hLXH : Hid (LIn wr xa X) := hLX
      have c0 := hS.out.c0
      have hN3 := hS.out.hN
      rw [hv] at c0
      obtain ⟨q, hq⟩ : ∃ q, q = X.length := ⟨_, rfl⟩
      have hqH : Hid (q = X.length) := hq
      rw [← hq] at c0 hxc hXl
      clear hq hv hLX
      have hgetr : Hid (∀ W t, Below wr.heap.size wr W → Calls Tryz.prog 33 #[.pointer (some ⟨M, 0, none⟩), .int .i64 t] W fun e w' => e = .returned (.tuple #[.agg #[.int .u8 ((getV l t).1 : Int), .int .i64 (getV l t).2], .bool (hasT l t)]) ∧ Below W.heap.size W w') := fun W t hb => rget_any M w.heap.size vW l t W (hWs.out.below hb)
      obtain ⟨wz, hwz⟩ : ∃ W, W = wr := ⟨_, rfl⟩
      rw [← hwz] at hS hWs hF hLXH c0 hN3 hgetr ⊢
      clear hwz
      have hst2 : Hid (wz.ownsRow wz.heap.size 95 10 (.slice none 0 0) (rdl l (X.take 0)).length (encD (rdl l (X.take 0)))) := by
        have e : rdl l (X.take 0) = [] := by simp [rdl]
        rw [e]; exact World.ownsRow_nil _ _ _ _
      go_wp2_with fail
      go_loopw [7, 8] (fun o i wr => ∃ (k : Nat) (vo : Value), k ≤ q ∧ i = .int .i64 (k : Int) ∧ o = vo ∧ Hid (wr.ownsRow wz.heap.size 95 10 vo (rdl l (X.take k)).length (encD (rdl l (X.take k))) ∧ Below wz.heap.size wz wr)) (fun _ i _ => q - (intOf i).toNat)
      case atStart => exact ⟨0, .slice none 0 0, by omega, rfl, rfl, hst2.out, Below.refl _ _⟩
      case round =>
        obtain ⟨k, vo, hk, rfl, hvo, hrr⟩ := hrel
        obtain rfl := hvo.symm
        clear hst2
        have hB := hrr.out.2
        have c0' := (hB.cell (p := ⟨N, 0, none⟩) hN3).trans c0
        by_cases hkq : k < q
        · have hkI : (k : Int) < (q : Int) := by omega
          have k1 : (0 : Int) ≤ (k : Int) := by omega
          obtain ⟨b, off, s, rfl, hb, hs, d1, d2, d3⟩ := LIn.at hLXH.out hB (by have := hqH.out; omega : k < X.length)
          have hrn : Hid (rdl l (X.take (k + 1)) = rdl l (X.take k) ++ (if isR l s = true then [toD l s] else [])) := rdl_next l hs
          have hlen : (rdl l (X.take k)).length ≤ k := by
            have := rdl_len l (X.take k)
            rw [List.length_take] at this; omega
          clear hs
          go_wp2_with fail
          refine Calls.mono (hgetr.out _ _ hB) ?_
          rintro e w5 ⟨rfl, hB5⟩
          have hB5' := hB.trans (hB5.mono hB.size)
          have c05 := (hB5'.cell (p := ⟨N, 0, none⟩) hN3).trans c0
          have d1' := (hB5'.cell (p := ⟨b, off + k * 3, none⟩) hb).trans ((hB.cell (p := ⟨b, off + k * 3, none⟩) hb).symm.trans d1)
          have d2' := (hB5'.cell (p := ⟨b, off + k * 3 + 1, none⟩) hb).trans ((hB.cell (p := ⟨b, off + k * 3 + 1, none⟩) hb).symm.trans d2)
          have d3' := (hB5'.cell (p := ⟨b, off + k * 3 + 2, none⟩) hb).trans ((hB.cell (p := ⟨b, off + k * 3 + 2, none⟩) hb).symm.trans d3)
          obtain ⟨gv, hgv⟩ : ∃ g, g = getV l s.t := ⟨_, rfl⟩
          obtain ⟨hd, hhd⟩ : ∃ g, g = hasT l s.t := ⟨_, rfl⟩
          have hisR : isR l s = (!hd || decide (gv ≠ (s.k, s.x))) := by unfold isR; rw [hgv, hhd]
          have htoD : toD l s = ⟨s.t, hd, gv.1, gv.2, s.k, s.x⟩ := by unfold toD; rw [hgv, hhd]
          rw [← hgv, ← hhd]
          rw [hisR, htoD] at hrn
          obtain ⟨gk, gx⟩ := gv
          clear hgv hhd hisR htoD
          have hO5 : Hid (w5.ownsRow wz.heap.size 95 10 vo (rdl l (X.take k)).length (encD (rdl l (X.take k)))) := own_keepD hrr.out.1 (fun g e => hB5.block g (hrr.out.1.lt g e).2)
          have o0 : (w5.alloc (.cells #[.int .u8 (gk : Int), .int .i64 gx] 61)).cell? ⟨w5.heap.size, 0, none⟩ = some (.int .u8 (gk : Int)) := by simp [go_sem]
          have o1 : (w5.alloc (.cells #[.int .u8 (gk : Int), .int .i64 gx] 61)).cell? ⟨w5.heap.size, 1, none⟩ = some (.int .i64 gx) := by simp [go_sem]
          have hB6 : Below wz.heap.size wz (w5.alloc (.cells #[.int .u8 (gk : Int), .int .i64 gx] 61)) := hB5'.alloc hB5'.size _
          have hO6 : Hid ((w5.alloc (.cells #[.int .u8 (gk : Int), .int .i64 gx] 61)).ownsRow wz.heap.size 95 10 vo (rdl l (X.take k)).length (encD (rdl l (X.take k)))) := World.ownsRow.alloc hO5.out _
          have hvo5 : ∀ g, vo.ownBlock = some g → g ≠ w5.heap.size := fun g e => by have := (hO5.out.lt g e).2; omega
          clear hB5 hO5 hrr d1 d2 d3
          have hbA := hb
          generalize rdl l (X.take k) = R at *
          cases hd with
          | false =>
            go_wp2_with fail
            go_quiet (fail)
            obtain ⟨wq, hwq⟩ : ∃ W, W = (w5.alloc (.cells #[.int .u8 (gk : Int), .int .i64 gx] 61)).drewN nq := ⟨_, rfl⟩
            rw [← hwq]
            have hBq : Below wz.heap.size wz wq := by rw [hwq]; exact below_drewN hB6 _
            have hOq : Hid (wq.ownsRow wz.heap.size 95 10 vo R.length (encD R)) := by rw [hwq]; exact own_keepD hO6.out (fun g e => rfl)
            have o0q : wq.cell? ⟨w5.heap.size, 0, none⟩ = some (.int .u8 (gk : Int)) := by rw [hwq]; exact o0
            have o1q : wq.cell? ⟨w5.heap.size, 1, none⟩ = some (.int .i64 gx) := by rw [hwq]; exact o1
            have c0q := (hBq.cell (p := ⟨N, 0, none⟩) hN3).trans c0
            have d1q := (hBq.cell (p := ⟨b, off + k * 3, none⟩) hb).trans ((hB5'.cell (p := ⟨b, off + k * 3, none⟩) hb).symm.trans d1')
            have d2q := (hBq.cell (p := ⟨b, off + k * 3 + 1, none⟩) hb).trans ((hB5'.cell (p := ⟨b, off + k * 3 + 1, none⟩) hb).symm.trans d2')
            have d3q := (hBq.cell (p := ⟨b, off + k * 3 + 2, none⟩) hb).trans ((hB5'.cell (p := ⟨b, off + k * 3 + 2, none⟩) hb).symm.trans d3')
            clear hwq o0 o1 c05 c0' d1' d2' d3' hO6 hB6 hB5' hB
            have hO7 : wq.drew.ownsRow wz.heap.size 95 10 vo R.length (encD R) := own_keepD hOq.out (fun g e => rfl)
            obtain ⟨v6, w6, hr6, hO6', gr6, hat6⟩ := app1D wq.drew wz.heap.size vo R hO7 hBq.size ⟨s.t, false, gk, gx, s.k, s.x⟩ (by omega)
            have hr6H : Hid (∀ W, W = wq.drew.alloc (.cells #[.string ⟨#[]⟩, .slice none 0 0, .string ⟨#[]⟩, .int .i64 s.t, .bool false, .bool true, .int .u8 (gk : Int), .int .i64 gx, .int .u8 (s.k : Int), .int .i64 s.x] 95) → (Builtin.append_ #[68, 68] 68 #[vo, .slice (some ⟨wq.heap.size, 0, none⟩) 1 1]).run Tryz.prog W = .ok v6 w6) := fun W e => by rw [e]; exact hr6
            have hBr : Below wz.heap.size wz (wq.drew.alloc (.cells #[.string ⟨#[]⟩, .slice none 0 0, .string ⟨#[]⟩, .int .i64 s.t, .bool false, .bool true, .int .u8 (gk : Int), .int .i64 gx, .int .u8 (s.k : Int), .int .i64 s.x] 95)) := (hBq.drew).alloc hBq.size _
            have hB6 : Below wz.heap.size wz w6 := hBr.grown gr6 hBr.size (fun g e => (hO7.lt g e).1)
            have hw5q : w5.heap.size < wq.heap.size := World.block_lt_of_cell? wq ⟨w5.heap.size, 0, none⟩ o0q
            have hne5 : ∀ g, vo.ownBlock = some g → g ≠ w5.heap.size := hvo5
            have S5 : wq.cell? ⟨N, 0, none⟩ = some (.slice (some ⟨b, off, none⟩) q xc) ∧ wq.cell? ⟨b, off + k * 3, none⟩ = some (.int .i64 s.t) ∧ wq.cell? ⟨b, off + k * 3 + 1, none⟩ = some (.int .u8 (s.k : Int)) ∧ wq.cell? ⟨b, off + k * 3 + 2, none⟩ = some (.int .i64 s.x) ∧ wq.cell? ⟨w5.heap.size, 0, none⟩ = some (.int .u8 (gk : Int)) ∧ wq.cell? ⟨w5.heap.size, 1, none⟩ = some (.int .i64 gx) := ⟨c0q, d1q, d2q, d3q, o0q, o1q⟩
            have S5a : (wq.drew.alloc (.cells #[.string ⟨#[]⟩, .slice none 0 0, .string ⟨#[]⟩, .int .i64 s.t, .bool false, .bool true, .int .u8 (gk : Int), .int .i64 gx, .int .u8 (s.k : Int), .int .i64 s.x] 95)).cell? ⟨N, 0, none⟩ = some (.slice (some ⟨b, off, none⟩) q xc) ∧ (wq.drew.alloc (.cells #[.string ⟨#[]⟩, .slice none 0 0, .string ⟨#[]⟩, .int .i64 s.t, .bool false, .bool true, .int .u8 (gk : Int), .int .i64 gx, .int .u8 (s.k : Int), .int .i64 s.x] 95)).cell? ⟨b, off + k * 3, none⟩ = some (.int .i64 s.t) ∧ (wq.drew.alloc (.cells #[.string ⟨#[]⟩, .slice none 0 0, .string ⟨#[]⟩, .int .i64 s.t, .bool false, .bool true, .int .u8 (gk : Int), .int .i64 gx, .int .u8 (s.k : Int), .int .i64 s.x] 95)).cell? ⟨b, off + k * 3 + 1, none⟩ = some (.int .u8 (s.k : Int)) ∧ (wq.drew.alloc (.cells #[.string ⟨#[]⟩, .slice none 0 0, .string ⟨#[]⟩, .int .i64 s.t, .bool false, .bool true, .int .u8 (gk : Int), .int .i64 gx, .int .u8 (s.k : Int), .int .i64 s.x] 95)).cell? ⟨b, off + k * 3 + 2, none⟩ = some (.int .i64 s.x) ∧ (wq.drew.alloc (.cells #[.string ⟨#[]⟩, .slice none 0 0, .string ⟨#[]⟩, .int .i64 s.t, .bool false, .bool true, .int .u8 (gk : Int), .int .i64 gx, .int .u8 (s.k : Int), .int .i64 s.x] 95)).cell? ⟨w5.heap.size, 0, none⟩ = some (.int .u8 (gk : Int)) ∧ (wq.drew.alloc (.cells #[.string ⟨#[]⟩, .slice none 0 0, .string ⟨#[]⟩, .int .i64 s.t, .bool false, .bool true, .int .u8 (gk : Int), .int .i64 gx, .int .u8 (s.k : Int), .int .i64 s.x] 95)).cell? ⟨w5.heap.size, 1, none⟩ = some (.int .i64 gx) := by
              refine ⟨?_, ?_, ?_, ?_, ?_, ?_⟩
              · exact (hBr.cell (p := ⟨N, 0, none⟩) hN3).trans c0
              · exact (hBr.cell (p := ⟨b, off + k * 3, none⟩) hb).trans ((hBq.cell (p := ⟨b, off + k * 3, none⟩) hb).symm.trans d1q)
              · exact (hBr.cell (p := ⟨b, off + k * 3 + 1, none⟩) hb).trans ((hBq.cell (p := ⟨b, off + k * 3 + 1, none⟩) hb).symm.trans d2q)
              · exact (hBr.cell (p := ⟨b, off + k * 3 + 2, none⟩) hb).trans ((hBq.cell (p := ⟨b, off + k * 3 + 2, none⟩) hb).symm.trans d3q)
              · exact (World.cell?_alloc_lt wq.drew _ ⟨w5.heap.size, 0, none⟩ hw5q).trans o0q
              · exact (World.cell?_alloc_lt wq.drew _ ⟨w5.heap.size, 1, none⟩ hw5q).trans o1q
            have S56 : w6.cell? ⟨N, 0, none⟩ = some (.slice (some ⟨b, off, none⟩) q xc) ∧ w6.cell? ⟨b, off + k * 3, none⟩ = some (.int .i64 s.t) ∧ w6.cell? ⟨b, off + k * 3 + 1, none⟩ = some (.int .u8 (s.k : Int)) ∧ w6.cell? ⟨b, off + k * 3 + 2, none⟩ = some (.int .i64 s.x) ∧ w6.cell? ⟨w5.heap.size, 0, none⟩ = some (.int .u8 (gk : Int)) ∧ w6.cell? ⟨w5.heap.size, 1, none⟩ = some (.int .i64 gx) := by
              refine ⟨?_, ?_, ?_, ?_, ?_, ?_⟩
              · exact (hB6.cell (p := ⟨N, 0, none⟩) hN3).trans c0
              · exact (hB6.cell (p := ⟨b, off + k * 3, none⟩) hb).trans ((hBq.cell (p := ⟨b, off + k * 3, none⟩) hb).symm.trans d1q)
              · exact (hB6.cell (p := ⟨b, off + k * 3 + 1, none⟩) hb).trans ((hBq.cell (p := ⟨b, off + k * 3 + 1, none⟩) hb).symm.trans d2q)
              · exact (hB6.cell (p := ⟨b, off + k * 3 + 2, none⟩) hb).trans ((hBq.cell (p := ⟨b, off + k * 3 + 2, none⟩) hb).symm.trans d3q)
              · exact (gr6.cell_far ⟨w5.heap.size, 0, none⟩ (by simp; omega) (fun e => hne5 _ e.symm rfl)).trans S5a.2.2.2.2.1
              · exact (gr6.cell_far ⟨w5.heap.size, 1, none⟩ (by simp; omega) (fun e => hne5 _ e.symm rfl)).trans S5a.2.2.2.2.2
            have hnx : Hid (w6.ownsRow wz.heap.size 95 10 v6 (rdl l (X.take (k + 1))).length (encD (rdl l (X.take (k + 1)))) ∧ Below wz.heap.size wz w6) := by
              rw [hrn.out]
              first
                | exact ⟨by simpa using hO6', hB6⟩
                | exact ⟨by simpa [hcmp] using hO6', hB6⟩
            clear hr6 hO6' gr6 hat6 hO7 hBr hB6 hne5 hvo5 hOq hrn c0q d1q d2q d3q o0q o1q
            go_wp2_with fail
            go_region_held3 (fun w' => w'.cell? ⟨N, 0, none⟩ = some (.slice (some ⟨b, off, none⟩) q xc) ∧ w'.cell? ⟨b, off + k * 3, none⟩ = some (.int .i64 s.t) ∧ w'.cell? ⟨b, off + k * 3 + 1, none⟩ = some (.int .u8 (s.k : Int)) ∧ w'.cell? ⟨b, off + k * 3 + 2, none⟩ = some (.int .i64 s.x) ∧ w'.cell? ⟨w5.heap.size, 0, none⟩ = some (.int .u8 (gk : Int)) ∧ w'.cell? ⟨w5.heap.size, 1, none⟩ = some (.int .i64 gx)) (first | assumption)
              (first
                | (refine step_append_run rfl (.tmp 69) (.tmp 89) 68 rfl _ _ _ _ rfl rfl (hr6H.out _ rfl) ?_))
            go_wp2_with fail
            exact ⟨⟨k + 1, v6, by omega, by go_num, rfl, hnx.out⟩, by simp [intOf]; omega⟩
          | true =>
            have e6 : (w5.alloc (.cells #[.int .u8 (gk : Int), .int .i64 gx] 61)).heap.size = w5.heap.size + 1 := by simp
            have c06 := (hB6.cell (p := ⟨N, 0, none⟩) hN3).trans c0
            have d16 := (hB6.cell (p := ⟨b, off + k * 3, none⟩) hb).trans ((hB5'.cell (p := ⟨b, off + k * 3, none⟩) hb).symm.trans d1')
            have d26 := (hB6.cell (p := ⟨b, off + k * 3 + 1, none⟩) hb).trans ((hB5'.cell (p := ⟨b, off + k * 3 + 1, none⟩) hb).symm.trans d2')
            have d36 := (hB6.cell (p := ⟨b, off + k * 3 + 2, none⟩) hb).trans ((hB5'.cell (p := ⟨b, off + k * 3 + 2, none⟩) hb).symm.trans d3')
            by_cases hcmp : gk = s.k ∧ gx = s.x
            · obtain ⟨rfl, rfl⟩ := hcmp
              go_wp2_with fail
              go_quiet (fail)
              obtain ⟨wq, hwq⟩ : ∃ W, W = (w5.alloc (.cells #[.int .u8 (s.k : Int), .int .i64 s.x] 61)).drewN nq := ⟨_, rfl⟩
              rw [← hwq]
              have hBq : Below wz.heap.size wz wq := by rw [hwq]; exact below_drewN hB6 _
              have hOq : Hid (wq.ownsRow wz.heap.size 95 10 vo R.length (encD R)) := by rw [hwq]; exact own_keepD hO6.out (fun g e => rfl)
              have hnx : Hid (wq.ownsRow wz.heap.size 95 10 vo (rdl l (X.take (k + 1))).length (encD (rdl l (X.take (k + 1)))) ∧ Below wz.heap.size wz wq) := by
                rw [hrn.out]
                exact ⟨by simpa using hOq.out, hBq⟩
              clear hwq hrn hOq hBq
              go_wp2_with fail
              exact ⟨⟨k + 1, vo, by omega, by go_num, rfl, hnx.out⟩, by simp [intOf]; omega⟩
            · by_cases hneN : gk = s.k
              · subst hneN
                have hne2 : ¬ gx = s.x := fun e => hcmp ⟨rfl, e⟩
                clear hcmp
                go_wp2_with fail
                go_quiet (fail)
                obtain ⟨wq, hwq⟩ : ∃ W, W = (w5.alloc (.cells #[.int .u8 (s.k : Int), .int .i64 gx] 61)).drewN nq := ⟨_, rfl⟩
                rw [← hwq]
                have hBq : Below wz.heap.size wz wq := by rw [hwq]; exact below_drewN hB6 _
                have hOq : Hid (wq.ownsRow wz.heap.size 95 10 vo R.length (encD R)) := by rw [hwq]; exact own_keepD hO6.out (fun g e => rfl)
                have o0q : wq.cell? ⟨w5.heap.size, 0, none⟩ = some (.int .u8 (s.k : Int)) := by rw [hwq]; exact o0
                have o1q : wq.cell? ⟨w5.heap.size, 1, none⟩ = some (.int .i64 gx) := by rw [hwq]; exact o1
                have c0q := (hBq.cell (p := ⟨N, 0, none⟩) hN3).trans c0
                have d1q := (hBq.cell (p := ⟨b, off + k * 3, none⟩) hb).trans ((hB5'.cell (p := ⟨b, off + k * 3, none⟩) hb).symm.trans d1')
                have d2q := (hBq.cell (p := ⟨b, off + k * 3 + 1, none⟩) hb).trans ((hB5'.cell (p := ⟨b, off + k * 3 + 1, none⟩) hb).symm.trans d2')
                have d3q := (hBq.cell (p := ⟨b, off + k * 3 + 2, none⟩) hb).trans ((hB5'.cell (p := ⟨b, off + k * 3 + 2, none⟩) hb).symm.trans d3')
                clear hwq o0 o1 c05 c0' d1' d2' d3' hO6 hB6 hB5' hB e6 c06 d16 d26 d36
                have hO7 : wq.drew.ownsRow wz.heap.size 95 10 vo R.length (encD R) := own_keepD hOq.out (fun g e => rfl)
                obtain ⟨v6, w6, hr6, hO6', gr6, hat6⟩ := app1D wq.drew wz.heap.size vo R hO7 hBq.size ⟨s.t, true, s.k, gx, s.k, s.x⟩ (by omega)
                have hr6H : Hid (∀ W, W = wq.drew.alloc (.cells #[.string ⟨#[]⟩, .slice none 0 0, .string ⟨#[]⟩, .int .i64 s.t, .bool true, .bool true, .int .u8 (s.k : Int), .int .i64 gx, .int .u8 (s.k : Int), .int .i64 s.x] 95) → (Builtin.append_ #[68, 68] 68 #[vo, .slice (some ⟨wq.heap.size, 0, none⟩) 1 1]).run Tryz.prog W = .ok v6 w6) := fun W e => by rw [e]; exact hr6
                have hBr : Below wz.heap.size wz (wq.drew.alloc (.cells #[.string ⟨#[]⟩, .slice none 0 0, .string ⟨#[]⟩, .int .i64 s.t, .bool true, .bool true, .int .u8 (s.k : Int), .int .i64 gx, .int .u8 (s.k : Int), .int .i64 s.x] 95)) := (hBq.drew).alloc hBq.size _
                have hB6 : Below wz.heap.size wz w6 := hBr.grown gr6 hBr.size (fun g e => (hO7.lt g e).1)
                have hw5q : w5.heap.size < wq.heap.size := World.block_lt_of_cell? wq ⟨w5.heap.size, 0, none⟩ o0q
                have hne5 : ∀ g, vo.ownBlock = some g → g ≠ w5.heap.size := hvo5
                have S5 : wq.cell? ⟨N, 0, none⟩ = some (.slice (some ⟨b, off, none⟩) q xc) ∧ wq.cell? ⟨b, off + k * 3, none⟩ = some (.int .i64 s.t) ∧ wq.cell? ⟨b, off + k * 3 + 1, none⟩ = some (.int .u8 (s.k : Int)) ∧ wq.cell? ⟨b, off + k * 3 + 2, none⟩ = some (.int .i64 s.x) ∧ wq.cell? ⟨w5.heap.size, 0, none⟩ = some (.int .u8 (s.k : Int)) ∧ wq.cell? ⟨w5.heap.size, 1, none⟩ = some (.int .i64 gx) := ⟨c0q, d1q, d2q, d3q, o0q, o1q⟩
                have S5a : (wq.drew.alloc (.cells #[.string ⟨#[]⟩, .slice none 0 0, .string ⟨#[]⟩, .int .i64 s.t, .bool true, .bool true, .int .u8 (s.k : Int), .int .i64 gx, .int .u8 (s.k : Int), .int .i64 s.x] 95)).cell? ⟨N, 0, none⟩ = some (.slice (some ⟨b, off, none⟩) q xc) ∧ (wq.drew.alloc (.cells #[.string ⟨#[]⟩, .slice none 0 0, .string ⟨#[]⟩, .int .i64 s.t, .bool true, .bool true, .int .u8 (s.k : Int), .int .i64 gx, .int .u8 (s.k : Int), .int .i64 s.x] 95)).cell? ⟨b, off + k * 3, none⟩ = some (.int .i64 s.t) ∧ (wq.drew.alloc (.cells #[.string ⟨#[]⟩, .slice none 0 0, .string ⟨#[]⟩, .int .i64 s.t, .bool true, .bool true, .int .u8 (s.k : Int), .int .i64 gx, .int .u8 (s.k : Int), .int .i64 s.x] 95)).cell? ⟨b, off + k * 3 + 1, none⟩ = some (.int .u8 (s.k : Int)) ∧ (wq.drew.alloc (.cells #[.string ⟨#[]⟩, .slice none 0 0, .string ⟨#[]⟩, .int .i64 s.t, .bool true, .bool true, .int .u8 (s.k : Int), .int .i64 gx, .int .u8 (s.k : Int), .int .i64 s.x] 95)).cell? ⟨b, off + k * 3 + 2, none⟩ = some (.int .i64 s.x) ∧ (wq.drew.alloc (.cells #[.string ⟨#[]⟩, .slice none 0 0, .string ⟨#[]⟩, .int .i64 s.t, .bool true, .bool true, .int .u8 (s.k : Int), .int .i64 gx, .int .u8 (s.k : Int), .int .i64 s.x] 95)).cell? ⟨w5.heap.size, 0, none⟩ = some (.int .u8 (s.k : Int)) ∧ (wq.drew.alloc (.cells #[.string ⟨#[]⟩, .slice none 0 0, .string ⟨#[]⟩, .int .i64 s.t, .bool true, .bool true, .int .u8 (s.k : Int), .int .i64 gx, .int .u8 (s.k : Int), .int .i64 s.x] 95)).cell? ⟨w5.heap.size, 1, none⟩ = some (.int .i64 gx) := by
                  refine ⟨?_, ?_, ?_, ?_, ?_, ?_⟩
                  · exact (hBr.cell (p := ⟨N, 0, none⟩) hN3).trans c0
                  · exact (hBr.cell (p := ⟨b, off + k * 3, none⟩) hb).trans ((hBq.cell (p := ⟨b, off + k * 3, none⟩) hb).symm.trans d1q)
                  · exact (hBr.cell (p := ⟨b, off + k * 3 + 1, none⟩) hb).trans ((hBq.cell (p := ⟨b, off + k * 3 + 1, none⟩) hb).symm.trans d2q)
                  · exact (hBr.cell (p := ⟨b, off + k * 3 + 2, none⟩) hb).trans ((hBq.cell (p := ⟨b, off + k * 3 + 2, none⟩) hb).symm.trans d3q)
                  · exact (World.cell?_alloc_lt wq.drew _ ⟨w5.heap.size, 0, none⟩ hw5q).trans o0q
                  · exact (World.cell?_alloc_lt wq.drew _ ⟨w5.heap.size, 1, none⟩ hw5q).trans o1q
                have S56 : w6.cell? ⟨N, 0, none⟩ = some (.slice (some ⟨b, off, none⟩) q xc) ∧ w6.cell? ⟨b, off + k * 3, none⟩ = some (.int .i64 s.t) ∧ w6.cell? ⟨b, off + k * 3 + 1, none⟩ = some (.int .u8 (s.k : Int)) ∧ w6.cell? ⟨b, off + k * 3 + 2, none⟩ = some (.int .i64 s.x) ∧ w6.cell? ⟨w5.heap.size, 0, none⟩ = some (.int .u8 (s.k : Int)) ∧ w6.cell? ⟨w5.heap.size, 1, none⟩ = some (.int .i64 gx) := by
                  refine ⟨?_, ?_, ?_, ?_, ?_, ?_⟩
                  · exact (hB6.cell (p := ⟨N, 0, none⟩) hN3).trans c0
                  · exact (hB6.cell (p := ⟨b, off + k * 3, none⟩) hb).trans ((hBq.cell (p := ⟨b, off + k * 3, none⟩) hb).symm.trans d1q)
                  · exact (hB6.cell (p := ⟨b, off + k * 3 + 1, none⟩) hb).trans ((hBq.cell (p := ⟨b, off + k * 3 + 1, none⟩) hb).symm.trans d2q)
                  · exact (hB6.cell (p := ⟨b, off + k * 3 + 2, none⟩) hb).trans ((hBq.cell (p := ⟨b, off + k * 3 + 2, none⟩) hb).symm.trans d3q)
                  · exact (gr6.cell_far ⟨w5.heap.size, 0, none⟩ (by simp; omega) (fun e => hne5 _ e.symm rfl)).trans S5a.2.2.2.2.1
                  · exact (gr6.cell_far ⟨w5.heap.size, 1, none⟩ (by simp; omega) (fun e => hne5 _ e.symm rfl)).trans S5a.2.2.2.2.2
                have hnx : Hid (w6.ownsRow wz.heap.size 95 10 v6 (rdl l (X.take (k + 1))).length (encD (rdl l (X.take (k + 1)))) ∧ Below wz.heap.size wz w6) := by
                  rw [hrn.out]
                  first
                    | exact ⟨by simpa using hO6', hB6⟩
                    | exact ⟨by simpa [hne2] using hO6', hB6⟩
                clear hr6 hO6' gr6 hat6 hO7 hBr hB6 hne5 hvo5 hOq hrn c0q d1q d2q d3q o0q o1q
                go_wp2_with fail
                go_region_held3 (fun w' => w'.cell? ⟨N, 0, none⟩ = some (.slice (some ⟨b, off, none⟩) q xc) ∧ w'.cell? ⟨b, off + k * 3, none⟩ = some (.int .i64 s.t) ∧ w'.cell? ⟨b, off + k * 3 + 1, none⟩ = some (.int .u8 (s.k : Int)) ∧ w'.cell? ⟨b, off + k * 3 + 2, none⟩ = some (.int .i64 s.x) ∧ w'.cell? ⟨w5.heap.size, 0, none⟩ = some (.int .u8 (s.k : Int)) ∧ w'.cell? ⟨w5.heap.size, 1, none⟩ = some (.int .i64 gx)) (first | assumption)
                  (first
                    | (refine step_append_run rfl (.tmp 69) (.tmp 89) 68 rfl _ _ _ _ rfl rfl (hr6H.out _ rfl) ?_))
                go_wp2_with fail
                exact ⟨⟨k + 1, v6, by omega, by go_num, rfl, hnx.out⟩, by simp [intOf]; omega⟩
              · have hneI : ¬ (gk : Int) = (s.k : Int) := by omega
                clear hcmp
                go_wp2_with fail
                go_quiet (fail)
                obtain ⟨wq, hwq⟩ : ∃ W, W = (w5.alloc (.cells #[.int .u8 (gk : Int), .int .i64 gx] 61)).drewN nq := ⟨_, rfl⟩
                rw [← hwq]
                have hBq : Below wz.heap.size wz wq := by rw [hwq]; exact below_drewN hB6 _
                have hOq : Hid (wq.ownsRow wz.heap.size 95 10 vo R.length (encD R)) := by rw [hwq]; exact own_keepD hO6.out (fun g e => rfl)
                have o0q : wq.cell? ⟨w5.heap.size, 0, none⟩ = some (.int .u8 (gk : Int)) := by rw [hwq]; exact o0
                have o1q : wq.cell? ⟨w5.heap.size, 1, none⟩ = some (.int .i64 gx) := by rw [hwq]; exact o1
                have c0q := (hBq.cell (p := ⟨N, 0, none⟩) hN3).trans c0
                have d1q := (hBq.cell (p := ⟨b, off + k * 3, none⟩) hb).trans ((hB5'.cell (p := ⟨b, off + k * 3, none⟩) hb).symm.trans d1')
                have d2q := (hBq.cell (p := ⟨b, off + k * 3 + 1, none⟩) hb).trans ((hB5'.cell (p := ⟨b, off + k * 3 + 1, none⟩) hb).symm.trans d2')
                have d3q := (hBq.cell (p := ⟨b, off + k * 3 + 2, none⟩) hb).trans ((hB5'.cell (p := ⟨b, off + k * 3 + 2, none⟩) hb).symm.trans d3')
                clear hwq o0 o1 c05 c0' d1' d2' d3' hO6 hB6 hB5' hB e6 c06 d16 d26 d36
                have hO7 : wq.drew.ownsRow wz.heap.size 95 10 vo R.length (encD R) := own_keepD hOq.out (fun g e => rfl)
                obtain ⟨v6, w6, hr6, hO6', gr6, hat6⟩ := app1D wq.drew wz.heap.size vo R hO7 hBq.size ⟨s.t, true, gk, gx, s.k, s.x⟩ (by omega)
                have hr6H : Hid (∀ W, W = wq.drew.alloc (.cells #[.string ⟨#[]⟩, .slice none 0 0, .string ⟨#[]⟩, .int .i64 s.t, .bool true, .bool true, .int .u8 (gk : Int), .int .i64 gx, .int .u8 (s.k : Int), .int .i64 s.x] 95) → (Builtin.append_ #[68, 68] 68 #[vo, .slice (some ⟨wq.heap.size, 0, none⟩) 1 1]).run Tryz.prog W = .ok v6 w6) := fun W e => by rw [e]; exact hr6
                have hBr : Below wz.heap.size wz (wq.drew.alloc (.cells #[.string ⟨#[]⟩, .slice none 0 0, .string ⟨#[]⟩, .int .i64 s.t, .bool true, .bool true, .int .u8 (gk : Int), .int .i64 gx, .int .u8 (s.k : Int), .int .i64 s.x] 95)) := (hBq.drew).alloc hBq.size _
                have hB6 : Below wz.heap.size wz w6 := hBr.grown gr6 hBr.size (fun g e => (hO7.lt g e).1)
                have hw5q : w5.heap.size < wq.heap.size := World.block_lt_of_cell? wq ⟨w5.heap.size, 0, none⟩ o0q
                have hne5 : ∀ g, vo.ownBlock = some g → g ≠ w5.heap.size := hvo5
                have S5 : wq.cell? ⟨N, 0, none⟩ = some (.slice (some ⟨b, off, none⟩) q xc) ∧ wq.cell? ⟨b, off + k * 3, none⟩ = some (.int .i64 s.t) ∧ wq.cell? ⟨b, off + k * 3 + 1, none⟩ = some (.int .u8 (s.k : Int)) ∧ wq.cell? ⟨b, off + k * 3 + 2, none⟩ = some (.int .i64 s.x) ∧ wq.cell? ⟨w5.heap.size, 0, none⟩ = some (.int .u8 (gk : Int)) ∧ wq.cell? ⟨w5.heap.size, 1, none⟩ = some (.int .i64 gx) := ⟨c0q, d1q, d2q, d3q, o0q, o1q⟩
                have S5a : (wq.drew.alloc (.cells #[.string ⟨#[]⟩, .slice none 0 0, .string ⟨#[]⟩, .int .i64 s.t, .bool true, .bool true, .int .u8 (gk : Int), .int .i64 gx, .int .u8 (s.k : Int), .int .i64 s.x] 95)).cell? ⟨N, 0, none⟩ = some (.slice (some ⟨b, off, none⟩) q xc) ∧ (wq.drew.alloc (.cells #[.string ⟨#[]⟩, .slice none 0 0, .string ⟨#[]⟩, .int .i64 s.t, .bool true, .bool true, .int .u8 (gk : Int), .int .i64 gx, .int .u8 (s.k : Int), .int .i64 s.x] 95)).cell? ⟨b, off + k * 3, none⟩ = some (.int .i64 s.t) ∧ (wq.drew.alloc (.cells #[.string ⟨#[]⟩, .slice none 0 0, .string ⟨#[]⟩, .int .i64 s.t, .bool true, .bool true, .int .u8 (gk : Int), .int .i64 gx, .int .u8 (s.k : Int), .int .i64 s.x] 95)).cell? ⟨b, off + k * 3 + 1, none⟩ = some (.int .u8 (s.k : Int)) ∧ (wq.drew.alloc (.cells #[.string ⟨#[]⟩, .slice none 0 0, .string ⟨#[]⟩, .int .i64 s.t, .bool true, .bool true, .int .u8 (gk : Int), .int .i64 gx, .int .u8 (s.k : Int), .int .i64 s.x] 95)).cell? ⟨b, off + k * 3 + 2, none⟩ = some (.int .i64 s.x) ∧ (wq.drew.alloc (.cells #[.string ⟨#[]⟩, .slice none 0 0, .string ⟨#[]⟩, .int .i64 s.t, .bool true, .bool true, .int .u8 (gk : Int), .int .i64 gx, .int .u8 (s.k : Int), .int .i64 s.x] 95)).cell? ⟨w5.heap.size, 0, none⟩ = some (.int .u8 (gk : Int)) ∧ (wq.drew.alloc (.cells #[.string ⟨#[]⟩, .slice none 0 0, .string ⟨#[]⟩, .int .i64 s.t, .bool true, .bool true, .int .u8 (gk : Int), .int .i64 gx, .int .u8 (s.k : Int), .int .i64 s.x] 95)).cell? ⟨w5.heap.size, 1, none⟩ = some (.int .i64 gx) := by
                  refine ⟨?_, ?_, ?_, ?_, ?_, ?_⟩
                  · exact (hBr.cell (p := ⟨N, 0, none⟩) hN3).trans c0
                  · exact (hBr.cell (p := ⟨b, off + k * 3, none⟩) hb).trans ((hBq.cell (p := ⟨b, off + k * 3, none⟩) hb).symm.trans d1q)
                  · exact (hBr.cell (p := ⟨b, off + k * 3 + 1, none⟩) hb).trans ((hBq.cell (p := ⟨b, off + k * 3 + 1, none⟩) hb).symm.trans d2q)
                  · exact (hBr.cell (p := ⟨b, off + k * 3 + 2, none⟩) hb).trans ((hBq.cell (p := ⟨b, off + k * 3 + 2, none⟩) hb).symm.trans d3q)
                  · exact (World.cell?_alloc_lt wq.drew _ ⟨w5.heap.size, 0, none⟩ hw5q).trans o0q
                  · exact (World.cell?_alloc_lt wq.drew _ ⟨w5.heap.size, 1, none⟩ hw5q).trans o1q
                have S56 : w6.cell? ⟨N, 0, none⟩ = some (.slice (some ⟨b, off, none⟩) q xc) ∧ w6.cell? ⟨b, off + k * 3, none⟩ = some (.int .i64 s.t) ∧ w6.cell? ⟨b, off + k * 3 + 1, none⟩ = some (.int .u8 (s.k : Int)) ∧ w6.cell? ⟨b, off + k * 3 + 2, none⟩ = some (.int .i64 s.x) ∧ w6.cell? ⟨w5.heap.size, 0, none⟩ = some (.int .u8 (gk : Int)) ∧ w6.cell? ⟨w5.heap.size, 1, none⟩ = some (.int .i64 gx) := by
                  refine ⟨?_, ?_, ?_, ?_, ?_, ?_⟩
                  · exact (hB6.cell (p := ⟨N, 0, none⟩) hN3).trans c0
                  · exact (hB6.cell (p := ⟨b, off + k * 3, none⟩) hb).trans ((hBq.cell (p := ⟨b, off + k * 3, none⟩) hb).symm.trans d1q)
                  · exact (hB6.cell (p := ⟨b, off + k * 3 + 1, none⟩) hb).trans ((hBq.cell (p := ⟨b, off + k * 3 + 1, none⟩) hb).symm.trans d2q)
                  · exact (hB6.cell (p := ⟨b, off + k * 3 + 2, none⟩) hb).trans ((hBq.cell (p := ⟨b, off + k * 3 + 2, none⟩) hb).symm.trans d3q)
                  · exact (gr6.cell_far ⟨w5.heap.size, 0, none⟩ (by simp; omega) (fun e => hne5 _ e.symm rfl)).trans S5a.2.2.2.2.1
                  · exact (gr6.cell_far ⟨w5.heap.size, 1, none⟩ (by simp; omega) (fun e => hne5 _ e.symm rfl)).trans S5a.2.2.2.2.2
                have hnx : Hid (w6.ownsRow wz.heap.size 95 10 v6 (rdl l (X.take (k + 1))).length (encD (rdl l (X.take (k + 1)))) ∧ Below wz.heap.size wz w6) := by
                  rw [hrn.out]
                  first
                    | exact ⟨by simpa using hO6', hB6⟩
                    | exact ⟨by simpa [hneI, hneN] using hO6', hB6⟩
                clear hr6 hO6' gr6 hat6 hO7 hBr hB6 hne5 hvo5 hOq hrn c0q d1q d2q d3q o0q o1q
                go_wp2_with fail
                go_region_held3 (fun w' => w'.cell? ⟨N, 0, none⟩ = some (.slice (some ⟨b, off, none⟩) q xc) ∧ w'.cell? ⟨b, off + k * 3, none⟩ = some (.int .i64 s.t) ∧ w'.cell? ⟨b, off + k * 3 + 1, none⟩ = some (.int .u8 (s.k : Int)) ∧ w'.cell? ⟨b, off + k * 3 + 2, none⟩ = some (.int .i64 s.x) ∧ w'.cell? ⟨w5.heap.size, 0, none⟩ = some (.int .u8 (gk : Int)) ∧ w'.cell? ⟨w5.heap.size, 1, none⟩ = some (.int .i64 gx)) (first | assumption)
                  (first
                    | (refine step_append_run rfl (.tmp 69) (.tmp 89) 68 rfl _ _ _ _ rfl rfl (hr6H.out _ rfl) ?_))
                go_wp2_with fail
                exact ⟨⟨k + 1, v6, by omega, by go_num, rfl, hnx.out⟩, by simp [intOf]; omega⟩
        · obtain rfl : k = q := by omega
          have hend : Hid (∃ v', SS N B v' (putAll l L) wr ∧ RFr N v v' w wr ∧ wr.ownsRow w.heap.size 95 10 vo (rdl l (putAll l L)).length (encD (rdl l (putAll l L)))) := by
            refine ⟨vk, ?_, hF.out.tail (hB.mono hF.out.b.size), ?_⟩
            · rw [← hXH.out]; exact hS.out.below hB
            · have := own_lowD hrr.out.1 hF.out.b.size
              rw [hqH.out, List.take_length, hXH.out] at this
              exact this
          clear hrr hB
          go_wp2_with fail
          go_ret
          obtain ⟨v', e1, e2, e3⟩ := hend.out
          first | exact ⟨vo, v', rfl, e1, e2, e3⟩ | exact ⟨vo, rfl, v', e1, e2, e3⟩
end Go.Proofs.YticgapplpfaigaaGreat
