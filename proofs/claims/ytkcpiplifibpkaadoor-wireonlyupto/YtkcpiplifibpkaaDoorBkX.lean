
import Derived.Test.YtkcpiplifibpkaaDoorBkW
import Derived.Deep.RegionHeld3
import Derived.Deep.Cut
namespace Go.Proofs.YtkcpiplifibpkaaDoor
open Go.RowKit
set_option linter.unusedVariables false
set_option linter.unusedSimpArgs false
theorem newR_any (l : List Nat) (v : Value) (w : World) (h : (v = .slice none 0 0 ∧ l = []) ∨ ∃ g o c, v = .slice (some ⟨g, o, none⟩) l.length c ∧ BytesIn w (some ⟨g, o, none⟩) l.length (natsOf l)) :
    Calls Tryd.prog 14 #[v] w fun e w' => ∃ N a cap, e = .returned (.pointer (some ⟨N, 0, none⟩)) ∧ w.heap.size ≤ N ∧ RR N w' a l.length cap (natsOf l) 0 0 none w' ∧ Below w.heap.size w w' := by
  rcases h with ⟨rfl, rfl⟩ | ⟨g, o, c, rfl, hin⟩
  · exact new_nil _ w
  · exact new_ok g o _ c _ w hin
theorem keepZ {w wx wy : World} {N z : Nat} {v0 v1 v2 v3 : Value} (F : RF N wx wy) (hz : z ≠ N) (hB : Below w.heap.size w wy) (S : Below w.heap.size w wx ∧ z < wx.heap.size ∧ wx.cell? ⟨z, 0, none⟩ = some v0 ∧ wx.cell? ⟨z, 1, none⟩ = some v1 ∧ wx.cell? ⟨z, 2, none⟩ = some v2 ∧ wx.cell? ⟨z, 3, none⟩ = some v3) :
    Below w.heap.size w wy ∧ z < wy.heap.size ∧ wy.cell? ⟨z, 0, none⟩ = some v0 ∧ wy.cell? ⟨z, 1, none⟩ = some v1 ∧ wy.cell? ⟨z, 2, none⟩ = some v2 ∧ wy.cell? ⟨z, 3, none⟩ = some v3 := by
  obtain ⟨b, h1, c0, c1, c2, c3⟩ := S
  have hk := F.keep z h1 hz
  have hs := F.size
  refine ⟨hB, by omega, ?_, ?_, ?_, ?_⟩
  · rw [World.cell?_of_block (w := wx) hk]; exact c0
  · rw [World.cell?_of_block (w := wx) hk]; exact c1
  · rw [World.cell?_of_block (w := wx) hk]; exact c2
  · rw [World.cell?_of_block (w := wx) hk]; exact c3
theorem back_done {w : World} {o : Ops} {len N : Nat} {a : Option Addr} {cap : Nat} {wr : World} (h : RK w o len N a cap len wr) (hO : OpsOk o len) :
    Calls Tryd.prog 24 #[.pointer (some ⟨N, 0, none⟩)] wr fun e w' => e = .returned .nilIface ∧ RK w o len N a cap len w' := by
  obtain ⟨h1, h2, p, r, h3, h4, h5⟩ := h
  have hC := wrAll_CL o len hO len (Nat.le_refl _)
  obtain ⟨hp, hr⟩ := place hC h4 h5
  have hP : PRE ((wrAll o len).1 ++ [], 0) (wrAll o len).1 := by rw [List.append_nil]; exact ⟨Nat.le_refl _, fun q _ => rfl⟩
  obtain ⟨_, g2, _, _⟩ := whole_back (E := []) hC (by simp) hC.2.1 hP h4 h5
  have hp' : p = (wrAll o len).1.length := hp
  subst hp'
  refine (done_ok h3 g2).mono ?_
  rintro e w' ⟨rfl, h6, F⟩
  exact ⟨rfl, RK.next ⟨h1, h2, _, r, h3, h4, h5⟩ h6 h4 h5⟩
theorem low_any (x : Nat) (hx : x < 18446744073709551616) (n : Int) (w : World) : Calls Tryd.prog 34 #[.int .u64 (x : Int), .int .i64 n] w fun e w' => e = .returned (.int .u64 ((x % 2 ^ broughtN n : Nat) : Int)) ∧ w' = w := by
  by_cases h0 : n ≤ 0
  · have e : x % 2 ^ broughtN n = 0 := by
      have : broughtN n = 0 := by unfold broughtN; split; rfl; split <;> omega
      rw [this]; simp [Nat.mod_one]
    rw [e]
    clear e
    go_enter Tryd.func34, Tryd.ntmps34
    go_wp2_with fail
    go_ret
    exact ⟨rfl, rfl⟩
  · by_cases h1 : 64 ≤ n
    · have e : x % 2 ^ broughtN n = x := by
        have : broughtN n = 64 := by unfold broughtN; split; omega; split <;> omega
        rw [this]; exact Nat.mod_eq_of_lt (by simpa using hx)
      rw [e]
      clear e
      go_enter Tryd.func34, Tryd.ntmps34
      go_wp2_with fail
      go_ret
      exact ⟨rfl, rfl⟩
    · obtain ⟨m, rfl⟩ : ∃ m : Nat, n = (m : Int) := ⟨n.toNat, by omega⟩
      have hm : broughtN (m : Int) = m := by unfold broughtN; split; omega; split <;> omega
      rw [hm]
      have hp : 2 ^ m ≤ 2 ^ 63 := Nat.pow_le_pow_right (by omega) (by omega)
      have hp0 : 0 < 2 ^ m := Nat.pow_pos (by omega)
      obtain ⟨P, hP⟩ : ∃ P, P = 2 ^ m := ⟨_, rfl⟩
      have hpw : IntKind.u64.wrap (2 ^ m) = (P : Int) := by
        have : (2 : Int) ^ m = ((2 ^ m : Nat) : Int) := by simp
        rw [this, ← hP, IntKind.wrap_u64]
        have h63 : (2 : Nat) ^ 63 = 9223372036854775808 := by decide
        omega
      rw [← hP] at hp0 ⊢
      have hP0 : ¬ (P : Int) = 0 := by omega
      have hmod : Hid (IntKind.u64.wrap ((x : Int).tmod (P : Int)) = ((x % P : Nat) : Int)) := by
        show _ = _
        have e1 : (x : Int).tmod (P : Int) = ((x % P : Nat) : Int) := by rw [Int.tmod_eq_emod_of_nonneg (Int.natCast_nonneg _)]; simp
        rw [e1, IntKind.wrap_u64]
        have := Nat.mod_le x P
        omega
      have hmod2 : Hid ((x : Int).tmod (P : Int) = ((x % P : Nat) : Int)) := by
        show _ = _
        rw [Int.tmod_eq_emod_of_nonneg (Int.natCast_nonneg _)]; simp
      clear hP hp
      go_enter Tryd.func34, Tryd.ntmps34
      go_wp2_with fail
      go_ret
      refine ⟨congrArg (fun y => Ending.returned (Value.int .u64 y)) ?_, rfl⟩
      first | exact hmod.out | exact hmod2.out | rfl
theorem keepZ4 {w wx wy : World} {N z : Nat} {v0 v1 v2 v3 : Value} {sv : Value} {s : ByteArray} (hcv : Hid (∀ w', Below w.heap.size w w' → (convert 24 9 sv).run Tryd.prog w' = .ok (.string s) w')) (F : RF N wx wy) (hz : z ≠ N) (hB : Below w.heap.size w wy) (S : Below w.heap.size w wx ∧ z < wx.heap.size ∧ wx.cell? ⟨z, 0, none⟩ = some v0 ∧ wx.cell? ⟨z, 1, none⟩ = some v1 ∧ wx.cell? ⟨z, 2, none⟩ = some v2 ∧ wx.cell? ⟨z, 3, none⟩ = some v3 ∧ (convert 24 9 sv).run Tryd.prog wx = .ok (.string s) wx) :
    Below w.heap.size w wy ∧ z < wy.heap.size ∧ wy.cell? ⟨z, 0, none⟩ = some v0 ∧ wy.cell? ⟨z, 1, none⟩ = some v1 ∧ wy.cell? ⟨z, 2, none⟩ = some v2 ∧ wy.cell? ⟨z, 3, none⟩ = some v3 ∧ (convert 24 9 sv).run Tryd.prog wy = .ok (.string s) wy := by
  obtain ⟨h1, h2, h3, h4, h5, h6, _⟩ := S
  obtain ⟨g1, g2, g3, g4, g5, g6⟩ := keepZ F hz hB ⟨h1, h2, h3, h4, h5, h6⟩
  exact ⟨g1, g2, g3, g4, g5, g6, hcv.out _ hB⟩
set_option maxRecDepth 100000 in
set_option maxHeartbeats 8000000 in
theorem back_walk (a : Option Addr) (len cap : Nat) (o : Ops) (w : World) (hs : ST w) (hO : OpsAt w a len o) (hlen : len ≤ 9223372036854775807) (hb : mAll o len + 200 ≤ 140737488355327) :
    Calls Tryd.prog 5 #[.slice a len cap] w fun e w' => e = .returned (.bool true) ∧ Below w.heap.size w w' := by
  have hT0 : Hid (TK w o 0 _) := TK.start w o
  have hOk : Hid (OpsOk o len) := hO.ok
  have hOH : Hid _ := hO
  have hsH : Hid _ := hs
  clear hO hs
  go_enter Tryd.func5, Tryd.ntmps5
  go_wp2_with fail
  go_loopw [17] (fun i wr => ∃ k : Nat, k ≤ len ∧ i = .int .i64 (k : Int) ∧ TK w o k wr) (fun i _ => len - (intOf i).toNat)
  case atStart => exact ⟨0, Nat.zero_le _, rfl, hT0.out⟩
  case round =>
    clear hT0
    obtain ⟨k, hk, rfl, hT⟩ := hrel
    by_cases hkl : k < len
    · have hkI : (k : Int) < (len : Int) := by omega
      have k0 : (0 : Int) ≤ (k : Int) := by omega
      rcases hOH.out with h0 | ⟨b, off, rfl, hbk, hc⟩
      · omega
      obtain ⟨⟨c0, c1, c2, c3⟩, hx, hB⟩ := hc k hkl
      have hbb := hT.bb
      have e0 : wr.cell? ⟨b, off + k * 4, none⟩ = some (.int .i64 (o.K k)) := by rw [hbb.cell (p := ⟨b, off + k * 4, none⟩) hbk]; exact c0
      have e1 : wr.cell? ⟨b, off + k * 4 + 1, none⟩ = some (.int .u64 (o.X k : Int)) := by rw [hbb.cell (p := ⟨b, off + k * 4 + 1, none⟩) hbk]; exact c1
      have e2 : wr.cell? ⟨b, off + k * 4 + 2, none⟩ = some (.int .i64 (o.B k)) := by rw [hbb.cell (p := ⟨b, off + k * 4 + 2, none⟩) hbk]; exact c2
      have e3 : wr.cell? ⟨b, off + k * 4 + 3, none⟩ = some (.slice (o.A k) (o.M k) (o.C k)) := by rw [hbb.cell (p := ⟨b, off + k * 4 + 3, none⟩) hbk]; exact c3
      have hm1 := mAll_mono o (show k + 1 ≤ len by omega)
      have hstep : Hid _ := fun O => write_step w o k wr O hT hx hB (by simp only [mAll] at hm1; omega)
      have hzz := hT.sz
      clear c0 c1 c2 c3 hc hB hT hx
      go_wp2_with fail
      refine (hstep.out _).mono ?_
      rintro e w2 ⟨rfl, hT2, hz2, hq⟩
      have hT2H : Hid (TK w o (k + 1) w2) := hT2
      clear hq e0 e1 e2 e3 hbb hT2
      go_wp2_with fail
      go_roundw
      case rel => exact ⟨k + 1, by omega, by go_num, hT2H.out⟩
      case measure => simp [intOf]; omega
    · obtain rfl : len = k := by omega
      have hBy : Hid (Calls Tryd.prog 11 #[.pointer (some ⟨w.heap.size, 0, none⟩)] wr fun e w' => ((e = .returned (.slice none 0 0) ∧ (wrAll o len).1 = []) ∨ ∃ g o' c, e = .returned (.slice (some ⟨g, o', none⟩) (wrAll o len).1.length c) ∧ BytesIn w' (some ⟨g, o', none⟩) (wrAll o len).1.length (natsOf (wrAll o len).1)) ∧ Below wr.heap.size wr w') := by
        obtain ⟨v, _, _, hW, h1, h2, _⟩ := hT.sides (show mAll o len ≤ _ by omega)
        exact bytesB2 _ _ _ v _ wr hW h1 h2
      have hTb := hT.bb
      clear hT hkl hk
      go_wp2_with fail
      refine Calls.mono hBy.out ?_
      rintro e w2 ⟨hsl, hB2⟩
      obtain ⟨v, rfl, hv⟩ : ∃ v, e = .returned v ∧ ((v = .slice none 0 0 ∧ (wrAll o len).1 = []) ∨ ∃ g o' c, v = .slice (some ⟨g, o', none⟩) (wrAll o len).1.length c ∧ BytesIn w2 (some ⟨g, o', none⟩) (wrAll o len).1.length (natsOf (wrAll o len).1)) := by
        rcases hsl with ⟨rfl, h⟩ | ⟨g, o', c, rfl, h⟩
        · exact ⟨_, rfl, Or.inl ⟨rfl, h⟩⟩
        · exact ⟨_, rfl, Or.inr ⟨g, o', c, rfl, h⟩⟩
      have hNew : Hid _ := newR_any (wrAll o len).1 v w2 hv
      have hP2 := below_then hTb hB2
      clear hsl hv
      go_wp2_with fail
      refine Calls.mono hNew.out ?_
      rintro e w3 ⟨N, ra, rcap, rfl, hN, hRR, hB3⟩
      have hP3 := below_then hP2 hB3
      have hRK0 : Hid (RK w o len N ra rcap 0 w3) := ⟨by have := hP2.size; omega, hP3, 0, 0, hRR, by omega, by simp [wrAll, nbits]⟩
      clear hRR hNew hBy hB2 hB3 hP2 hP3 hTb
      go_wp2_with fail
      go_loopw [31] (fun i wr => ∃ k : Nat, k ≤ len ∧ i = .int .i64 (k : Int) ∧ RK w o len N ra rcap k wr) (fun i _ => len - (intOf i).toNat)
      case atStart => exact ⟨0, Nat.zero_le _, rfl, hRK0.out⟩
      case round =>
        clear hRK0
        obtain ⟨k, hk, rfl, hRK⟩ := hrel
        by_cases hkl : k < len
        · have hkI : (k : Int) < (len : Int) := by omega
          have k0 : (0 : Int) ≤ (k : Int) := by omega
          rcases hOH.out with h0 | ⟨b, off, rfl, hbk, hc⟩
          · omega
          obtain ⟨⟨c0, c1, c2, c3⟩, hx, hB⟩ := hc k hkl
          have hbb := hRK.2.1
          have e0 : wr.cell? ⟨b, off + k * 4, none⟩ = some (.int .i64 (o.K k)) := by rw [hbb.cell (p := ⟨b, off + k * 4, none⟩) hbk]; exact c0
          have e1 : wr.cell? ⟨b, off + k * 4 + 1, none⟩ = some (.int .u64 (o.X k : Int)) := by rw [hbb.cell (p := ⟨b, off + k * 4 + 1, none⟩) hbk]; exact c1
          have e2 : wr.cell? ⟨b, off + k * 4 + 2, none⟩ = some (.int .i64 (o.B k)) := by rw [hbb.cell (p := ⟨b, off + k * 4 + 2, none⟩) hbk]; exact c2
          have e3 : wr.cell? ⟨b, off + k * 4 + 3, none⟩ = some (.slice (o.A k) (o.M k) (o.C k)) := by rw [hbb.cell (p := ⟨b, off + k * 4 + 3, none⟩) hbk]; exact c3
          obtain ⟨wz, hwz⟩ : ∃ wz, wz = wr.alloc (.cells #[.int .i64 (o.K k), .int .u64 (o.X k : Int), .int .i64 (o.B k), .slice (o.A k) (o.M k) (o.C k)] 32) := ⟨_, rfl⟩
          have hBz : Below wr.heap.size wr wz := by rw [hwz]; exact below_new (Below.refl _ _) _
          obtain ⟨z, hz⟩ : ∃ z, z = wr.heap.size := ⟨_, rfl⟩
          have hzN : z ≠ N := by obtain ⟨_, _, p, r, h3, _⟩ := hRK; have := h3.sz; omega
          have hRKz : RK w o len N ra rcap k wz := hRK.below hBz
          have hRKd : RK w o len N ra rcap k wz.drew := hRKz.below (Below.refl _ _).drew
          have S2a : Below w.heap.size w wz ∧ z < wz.heap.size ∧ wz.cell? ⟨z, 0, none⟩ = some (.int .i64 (o.K k)) ∧ wz.cell? ⟨z, 1, none⟩ = some (.int .u64 (o.X k : Int)) ∧ wz.cell? ⟨z, 2, none⟩ = some (.int .i64 (o.B k)) ∧ wz.cell? ⟨z, 3, none⟩ = some (.slice (o.A k) (o.M k) (o.C k)) :=
            ⟨hRKz.2.1, by rw [hwz, hz]; simp, by rw [hwz, hz]; simp [go_sem], by rw [hwz, hz]; simp [go_sem], by rw [hwz, hz]; simp [go_sem], by rw [hwz, hz]; simp [go_sem]⟩
          have hwzH : Hid _ := hwz
          have hzH : Hid _ := hz
          have hBH : Hid (BytesIn w (o.A k) (o.M k) (o.S k)) := hB
          clear c0 c1 c2 c3 hc hRK hwz hz hB hBz hbb
          by_cases hk0 : o.K k = 0
          · have hR : Hid _ := fun (w' : World) (h : RK w o len N ra rcap k w') => (back_byte h hOk.out hkl hk0).mono (fun e w'' (hh : _ ∧ _ ∧ _) => (⟨by rw [hh.1]; congr 2, hh.2.1, hh.2.2⟩ : e = .returned (.int .u8 ((o.X k : Int) % 256)) ∧ RK w o len N ra rcap (k + 1) w'' ∧ RF N w' w''))
            rw [hk0] at e0 S2a
            rw [hk0] at hwzH
            have S2 : Below w.heap.size w wz ∧ z < wz.heap.size ∧ wz.cell? ⟨z, 0, none⟩ = some (.int .i64 (0)) ∧ wz.cell? ⟨z, 1, none⟩ = some (.int .u64 (o.X k : Int)) ∧ wz.cell? ⟨z, 2, none⟩ = some (.int .i64 (o.B k)) ∧ wz.cell? ⟨z, 3, none⟩ = some (.slice (o.A k) (o.M k) (o.C k)) := S2a
            have S2d : Below w.heap.size w wz.drew ∧ z < wz.drew.heap.size ∧ wz.drew.cell? ⟨z, 0, none⟩ = some (.int .i64 (0)) ∧ wz.drew.cell? ⟨z, 1, none⟩ = some (.int .u64 (o.X k : Int)) ∧ wz.drew.cell? ⟨z, 2, none⟩ = some (.int .i64 (o.B k)) ∧ wz.drew.cell? ⟨z, 3, none⟩ = some (.slice (o.A k) (o.M k) (o.C k)) := ⟨S2.1.drew, S2.2⟩
            have hRKd' := hRKd
            clear S2a hk0 hx
            go_wp2_with fail
            rw [← hwzH.out, ← hzH.out]
            go_region_held3 (fun w' => Below w.heap.size w w' ∧ z < w'.heap.size ∧ w'.cell? ⟨z, 0, none⟩ = some (.int .i64 (0)) ∧ w'.cell? ⟨z, 1, none⟩ = some (.int .u64 (o.X k : Int)) ∧ w'.cell? ⟨z, 2, none⟩ = some (.int .i64 (o.B k)) ∧ w'.cell? ⟨z, 3, none⟩ = some (.slice (o.A k) (o.M k) (o.C k))) (first | assumption)
              (first | (go_at_call 27; (with_reducible refine Calls.mono (hR.out _ (by assumption)) ?_); rintro e w' ⟨rfl, hRn, hFn⟩; have SS := keepZ hFn hzN hRn.2.1 (by assumption)))
            all_goals
              go_wp2_with fail
              all_goals first
                | (rename_i hbad; simp at hbad; done)
                | (go_roundw; exact ⟨k + 1, by omega, by go_num, (by assumption : RK w o len N ra rcap (k + 1) _)⟩; (simp [intOf]; omega))
          by_cases hk1 : o.K k = 1
          · have hR : Hid _ := fun (w' : World) (h : RK w o len N ra rcap k w') => (back_fix h hOk.out hkl hk1).mono (fun e w'' (hh : _ ∧ _ ∧ _) => (⟨by rw [hh.1]; congr 2, hh.2.1, hh.2.2⟩ : e = .returned (.int .u32 ((o.X k : Int) % 4294967296)) ∧ RK w o len N ra rcap (k + 1) w'' ∧ RF N w' w''))
            rw [hk1] at e0 S2a
            rw [hk1] at hwzH
            have S2 : Below w.heap.size w wz ∧ z < wz.heap.size ∧ wz.cell? ⟨z, 0, none⟩ = some (.int .i64 (1)) ∧ wz.cell? ⟨z, 1, none⟩ = some (.int .u64 (o.X k : Int)) ∧ wz.cell? ⟨z, 2, none⟩ = some (.int .i64 (o.B k)) ∧ wz.cell? ⟨z, 3, none⟩ = some (.slice (o.A k) (o.M k) (o.C k)) := S2a
            have S2d : Below w.heap.size w wz.drew ∧ z < wz.drew.heap.size ∧ wz.drew.cell? ⟨z, 0, none⟩ = some (.int .i64 (1)) ∧ wz.drew.cell? ⟨z, 1, none⟩ = some (.int .u64 (o.X k : Int)) ∧ wz.drew.cell? ⟨z, 2, none⟩ = some (.int .i64 (o.B k)) ∧ wz.drew.cell? ⟨z, 3, none⟩ = some (.slice (o.A k) (o.M k) (o.C k)) := ⟨S2.1.drew, S2.2⟩
            have hRKd' := hRKd
            clear S2a hk1 hx
            go_wp2_with fail
            rw [← hwzH.out, ← hzH.out]
            go_region_held3 (fun w' => Below w.heap.size w w' ∧ z < w'.heap.size ∧ w'.cell? ⟨z, 0, none⟩ = some (.int .i64 (1)) ∧ w'.cell? ⟨z, 1, none⟩ = some (.int .u64 (o.X k : Int)) ∧ w'.cell? ⟨z, 2, none⟩ = some (.int .i64 (o.B k)) ∧ w'.cell? ⟨z, 3, none⟩ = some (.slice (o.A k) (o.M k) (o.C k))) (first | assumption)
              (first | (go_at_call 28; (with_reducible refine Calls.mono (hR.out _ (by assumption)) ?_); rintro e w' ⟨rfl, hRn, hFn⟩; have SS := keepZ hFn hzN hRn.2.1 (by assumption)))
            all_goals
              go_wp2_with fail
              all_goals first
                | (rename_i hbad; simp at hbad; done)
                | (go_roundw; exact ⟨k + 1, by omega, by go_num, (by assumption : RK w o len N ra rcap (k + 1) _)⟩; (simp [intOf]; omega))
          by_cases hk2 : o.K k = 2
          · have hR : Hid _ := fun (w' : World) (h : RK w o len N ra rcap k w') => back_uint h hOk.out hkl hk2
            rw [hk2] at e0 S2a
            rw [hk2] at hwzH
            have S2 : Below w.heap.size w wz ∧ z < wz.heap.size ∧ wz.cell? ⟨z, 0, none⟩ = some (.int .i64 (2)) ∧ wz.cell? ⟨z, 1, none⟩ = some (.int .u64 (o.X k : Int)) ∧ wz.cell? ⟨z, 2, none⟩ = some (.int .i64 (o.B k)) ∧ wz.cell? ⟨z, 3, none⟩ = some (.slice (o.A k) (o.M k) (o.C k)) := S2a
            have S2d : Below w.heap.size w wz.drew ∧ z < wz.drew.heap.size ∧ wz.drew.cell? ⟨z, 0, none⟩ = some (.int .i64 (2)) ∧ wz.drew.cell? ⟨z, 1, none⟩ = some (.int .u64 (o.X k : Int)) ∧ wz.drew.cell? ⟨z, 2, none⟩ = some (.int .i64 (o.B k)) ∧ wz.drew.cell? ⟨z, 3, none⟩ = some (.slice (o.A k) (o.M k) (o.C k)) := ⟨S2.1.drew, S2.2⟩
            have hRKd' := hRKd
            clear S2a hk2 hx
            go_wp2_with fail
            rw [← hwzH.out, ← hzH.out]
            go_region_held3 (fun w' => Below w.heap.size w w' ∧ z < w'.heap.size ∧ w'.cell? ⟨z, 0, none⟩ = some (.int .i64 (2)) ∧ w'.cell? ⟨z, 1, none⟩ = some (.int .u64 (o.X k : Int)) ∧ w'.cell? ⟨z, 2, none⟩ = some (.int .i64 (o.B k)) ∧ w'.cell? ⟨z, 3, none⟩ = some (.slice (o.A k) (o.M k) (o.C k))) (first | assumption)
              (first | (go_at_call 29; (with_reducible refine Calls.mono (hR.out _ (by assumption)) ?_); rintro e w' ⟨rfl, hRn, hFn⟩; have SS := keepZ hFn hzN hRn.2.1 (by assumption)))
            all_goals
              go_wp2_with fail
              all_goals first
                | (rename_i hbad; simp at hbad; done)
                | (go_roundw; exact ⟨k + 1, by omega, by go_num, (by assumption : RK w o len N ra rcap (k + 1) _)⟩; (simp [intOf]; omega))
          by_cases hk3 : o.K k = 3
          · have hR : Hid _ := fun (w' : World) (h : RK w o len N ra rcap k w') => back_int h hOk.out hkl hk3
            rw [hk3] at e0 S2a
            rw [hk3] at hwzH
            have S2 : Below w.heap.size w wz ∧ z < wz.heap.size ∧ wz.cell? ⟨z, 0, none⟩ = some (.int .i64 (3)) ∧ wz.cell? ⟨z, 1, none⟩ = some (.int .u64 (o.X k : Int)) ∧ wz.cell? ⟨z, 2, none⟩ = some (.int .i64 (o.B k)) ∧ wz.cell? ⟨z, 3, none⟩ = some (.slice (o.A k) (o.M k) (o.C k)) := S2a
            have S2d : Below w.heap.size w wz.drew ∧ z < wz.drew.heap.size ∧ wz.drew.cell? ⟨z, 0, none⟩ = some (.int .i64 (3)) ∧ wz.drew.cell? ⟨z, 1, none⟩ = some (.int .u64 (o.X k : Int)) ∧ wz.drew.cell? ⟨z, 2, none⟩ = some (.int .i64 (o.B k)) ∧ wz.drew.cell? ⟨z, 3, none⟩ = some (.slice (o.A k) (o.M k) (o.C k)) := ⟨S2.1.drew, S2.2⟩
            have hRKd' := hRKd
            clear S2a hk3 hx
            go_wp2_with fail
            rw [← hwzH.out, ← hzH.out]
            go_region_held3 (fun w' => Below w.heap.size w w' ∧ z < w'.heap.size ∧ w'.cell? ⟨z, 0, none⟩ = some (.int .i64 (3)) ∧ w'.cell? ⟨z, 1, none⟩ = some (.int .u64 (o.X k : Int)) ∧ w'.cell? ⟨z, 2, none⟩ = some (.int .i64 (o.B k)) ∧ w'.cell? ⟨z, 3, none⟩ = some (.slice (o.A k) (o.M k) (o.C k))) (first | assumption)
              (first | (go_at_call 30; (with_reducible refine Calls.mono (hR.out _ (by assumption)) ?_); rintro e w' ⟨rfl, hRn, hFn⟩; have SS := keepZ hFn hzN hRn.2.1 (by assumption)))
            all_goals
              go_wp2_with fail
              all_goals first
                | (rename_i hbad; simp at hbad; done)
                | (go_roundw; exact ⟨k + 1, by omega, by go_num, (by assumption : RK w o len N ra rcap (k + 1) _)⟩; (simp [intOf]; omega))
          by_cases hk4 : o.K k = 4
          · obtain ⟨s, hs1, hs2, hconv⟩ := to_text2 (c := o.C k) hBH.out
            have hconvH : Hid (∀ w', Below w.heap.size w w' → (convert 24 9 (.slice (o.A k) (o.M k) (o.C k))).run Tryd.prog w' = .ok (.string s) w') := hconv
            have hR : Hid _ := fun (w' : World) (h : RK w o len N ra rcap k w') => back_text h hOk.out hkl hk4 s hs1 hs2
            rw [hk4] at e0 S2a
            rw [hk4] at hwzH
            have S2 : Below w.heap.size w wz ∧ z < wz.heap.size ∧ wz.cell? ⟨z, 0, none⟩ = some (.int .i64 (4)) ∧ wz.cell? ⟨z, 1, none⟩ = some (.int .u64 (o.X k : Int)) ∧ wz.cell? ⟨z, 2, none⟩ = some (.int .i64 (o.B k)) ∧ wz.cell? ⟨z, 3, none⟩ = some (.slice (o.A k) (o.M k) (o.C k)) ∧ (convert 24 9 (.slice (o.A k) (o.M k) (o.C k))).run Tryd.prog wz = .ok (.string s) wz := ⟨S2a.1, S2a.2.1, S2a.2.2.1, S2a.2.2.2.1, S2a.2.2.2.2.1, S2a.2.2.2.2.2, hconvH.out _ S2a.1⟩
            have S2d : Below w.heap.size w wz.drew ∧ z < wz.drew.heap.size ∧ wz.drew.cell? ⟨z, 0, none⟩ = some (.int .i64 (4)) ∧ wz.drew.cell? ⟨z, 1, none⟩ = some (.int .u64 (o.X k : Int)) ∧ wz.drew.cell? ⟨z, 2, none⟩ = some (.int .i64 (o.B k)) ∧ wz.drew.cell? ⟨z, 3, none⟩ = some (.slice (o.A k) (o.M k) (o.C k)) ∧ (convert 24 9 (.slice (o.A k) (o.M k) (o.C k))).run Tryd.prog wz.drew = .ok (.string s) wz.drew := ⟨S2.1.drew, S2.2.1, S2.2.2.1, S2.2.2.2.1, S2.2.2.2.2.1, S2.2.2.2.2.2.1, hconvH.out _ S2.1.drew⟩
            have hRKd' := hRKd
            clear hs1 hs2 hconv
            clear S2a hk4 hx
            go_wp2_with fail
            rw [← hwzH.out, ← hzH.out]
            go_region_held3 (fun w' => Below w.heap.size w w' ∧ z < w'.heap.size ∧ w'.cell? ⟨z, 0, none⟩ = some (.int .i64 (4)) ∧ w'.cell? ⟨z, 1, none⟩ = some (.int .u64 (o.X k : Int)) ∧ w'.cell? ⟨z, 2, none⟩ = some (.int .i64 (o.B k)) ∧ w'.cell? ⟨z, 3, none⟩ = some (.slice (o.A k) (o.M k) (o.C k)) ∧ (convert 24 9 (.slice (o.A k) (o.M k) (o.C k))).run Tryd.prog w' = .ok (.string s) w') (first | assumption)
              (first | (go_at_call 31; (with_reducible refine Calls.mono (hR.out _ (by assumption)) ?_); rintro e w' ⟨rfl, hRn, hFn⟩; have SS := keepZ4 hconvH hFn hzN hRn.2.1 (by assumption)))
            all_goals
              go_wp2_with fail
              all_goals first
                | (rename_i hbad; simp at hbad; done)
                | (go_roundw; exact ⟨k + 1, by omega, by go_num, (by assumption : RK w o len N ra rcap (k + 1) _)⟩; (simp [intOf]; omega))
          by_cases hk5 : o.K k = 5
          · have hR : Hid _ := fun (w' : World) (h : RK w o len N ra rcap k w') => back_raw h hOk.out hkl hk5
            have hSa : Hid (∀ w' ga gc, BytesIn w' ga (o.M k) (o.S k) → Below w.heap.size w w' → Calls Tryd.prog 10 #[.slice ga (o.M k) gc, .slice (o.A k) (o.M k) (o.C k)] w' fun e w'' => e = .returned (.bool true) ∧ Below w'.heap.size w' w'') := fun w' ga gc h1 h2 => same_in _ _ _ _ _ (o.S k) _ h1 (hBH.out.below h2)
            rw [hk5] at e0 S2a
            rw [hk5] at hwzH
            have S2 : Below w.heap.size w wz ∧ z < wz.heap.size ∧ wz.cell? ⟨z, 0, none⟩ = some (.int .i64 (5)) ∧ wz.cell? ⟨z, 1, none⟩ = some (.int .u64 (o.X k : Int)) ∧ wz.cell? ⟨z, 2, none⟩ = some (.int .i64 (o.B k)) ∧ wz.cell? ⟨z, 3, none⟩ = some (.slice (o.A k) (o.M k) (o.C k)) := S2a
            have S2d : Below w.heap.size w wz.drew ∧ z < wz.drew.heap.size ∧ wz.drew.cell? ⟨z, 0, none⟩ = some (.int .i64 (5)) ∧ wz.drew.cell? ⟨z, 1, none⟩ = some (.int .u64 (o.X k : Int)) ∧ wz.drew.cell? ⟨z, 2, none⟩ = some (.int .i64 (o.B k)) ∧ wz.drew.cell? ⟨z, 3, none⟩ = some (.slice (o.A k) (o.M k) (o.C k)) := ⟨S2.1.drew, S2.2⟩
            have hRKd' := hRKd
            clear S2a hk5 hx
            go_wp2_with fail
            rw [← hwzH.out, ← hzH.out]
            go_region_held3 (fun w' => Below w.heap.size w w' ∧ z < w'.heap.size ∧ w'.cell? ⟨z, 0, none⟩ = some (.int .i64 (5)) ∧ w'.cell? ⟨z, 1, none⟩ = some (.int .u64 (o.X k : Int)) ∧ w'.cell? ⟨z, 2, none⟩ = some (.int .i64 (o.B k)) ∧ w'.cell? ⟨z, 3, none⟩ = some (.slice (o.A k) (o.M k) (o.C k))) (first | assumption)
              (first | (go_at_call 32; (with_reducible refine Calls.mono (hR.out _ (by assumption)) ?_); rintro e w' ⟨⟨ga, gc, rfl, hgb⟩, hRn, hFn⟩; have SS := keepZ hFn hzN hRn.2.1 (by assumption)) | (go_at_call 10; (with_reducible refine Calls.mono (hSa.out _ _ _ (by assumption) (by assumption : Below w.heap.size w _ ∧ _).1) ?_); rintro e w' ⟨rfl, BB⟩; have hRn2 := RK.below (k := k + 1) (by assumption) BB; have SS := keepZ (RF.below BB) hzN hRn2.2.1 (by assumption)))
            all_goals
              go_wp2_with fail
              all_goals first
                | (rename_i hbad; simp at hbad; done)
                | (go_roundw; exact ⟨k + 1, by omega, by go_num, (by assumption : RK w o len N ra rcap (k + 1) _)⟩; (simp [intOf]; omega))
          by_cases hk6 : o.K k = 6
          · have hR : Hid _ := fun (w' : World) (h : RK w o len N ra rcap k w') => back_bits h hOk.out hkl hk6
            have hLo : Hid (∀ w', Calls Tryd.prog 34 #[.int .u64 (o.X k : Int), .int .i64 (o.B k)] w' fun e w'' => e = .returned (.int .u64 ((o.X k % 2 ^ broughtN (o.B k) : Nat) : Int)) ∧ w'' = w') := fun w' => low_any _ hx _ _
            rw [hk6] at e0 S2a
            rw [hk6] at hwzH
            have S2 : Below w.heap.size w wz ∧ z < wz.heap.size ∧ wz.cell? ⟨z, 0, none⟩ = some (.int .i64 (6)) ∧ wz.cell? ⟨z, 1, none⟩ = some (.int .u64 (o.X k : Int)) ∧ wz.cell? ⟨z, 2, none⟩ = some (.int .i64 (o.B k)) ∧ wz.cell? ⟨z, 3, none⟩ = some (.slice (o.A k) (o.M k) (o.C k)) := S2a
            have S2d : Below w.heap.size w wz.drew ∧ z < wz.drew.heap.size ∧ wz.drew.cell? ⟨z, 0, none⟩ = some (.int .i64 (6)) ∧ wz.drew.cell? ⟨z, 1, none⟩ = some (.int .u64 (o.X k : Int)) ∧ wz.drew.cell? ⟨z, 2, none⟩ = some (.int .i64 (o.B k)) ∧ wz.drew.cell? ⟨z, 3, none⟩ = some (.slice (o.A k) (o.M k) (o.C k)) := ⟨S2.1.drew, S2.2⟩
            have hRKd' := hRKd
            clear S2a hk6 hx
            go_wp2_with fail
            rw [← hwzH.out, ← hzH.out]
            go_region_held3 (fun w' => Below w.heap.size w w' ∧ z < w'.heap.size ∧ w'.cell? ⟨z, 0, none⟩ = some (.int .i64 (6)) ∧ w'.cell? ⟨z, 1, none⟩ = some (.int .u64 (o.X k : Int)) ∧ w'.cell? ⟨z, 2, none⟩ = some (.int .i64 (o.B k)) ∧ w'.cell? ⟨z, 3, none⟩ = some (.slice (o.A k) (o.M k) (o.C k))) (first | assumption)
              (first | (go_at_call 33; (with_reducible refine Calls.mono (hR.out _ (by assumption)) ?_); rintro e w' ⟨rfl, hRn, hFn⟩; have SS := keepZ hFn hzN hRn.2.1 (by assumption)) | (go_at_call 34; (with_reducible refine Calls.mono (hLo.out _) ?_); rintro e w' ⟨rfl, rfl⟩))
            all_goals
              go_wp2_with fail
              all_goals first
                | (rename_i hbad; simp at hbad; done)
                | (go_roundw; exact ⟨k + 1, by omega, by go_num, (by assumption : RK w o len N ra rcap (k + 1) _)⟩; (simp [intOf]; omega))
          have hE : wrAll o (k + 1) = wrAll o k := by simp [wrAll, opOn, hk0, hk1, hk2, hk3, hk4, hk5, hk6]
          have hRKn : RK w o len N ra rcap (k + 1) wz := by
            obtain ⟨h1, h2, p, r, h3, h4, h5⟩ := hRKz
            exact ⟨h1, h2, p, r, h3, h4, by rw [hE]; exact h5⟩
          have hRKnH : Hid (RK w o len N ra rcap (k + 1) wz) := hRKn
          clear hRKn hE hRKz hRKd
          go_wp2_with fail
          rw [← hwzH.out]
          go_roundw
          case rel => exact ⟨k + 1, by omega, by go_num, hRKnH.out⟩
          case measure => simp [intOf]; omega
        · obtain rfl : len = k := by omega
          have hRKd : RK w o len N ra rcap len wr.drew := hRK.below (Below.refl _ _).drew
          have hLi : Hid (∀ w', RK w o len N ra rcap len w' → Calls Tryd.prog 12 #[] w' fun e w'' => e = .returned (.bool true) ∧ Below w'.heap.size w' w'') := fun w' h => live_wire w' (ST_below hsH.out h.2.1)
          have hDo : Hid (∀ w', RK w o len N ra rcap len w' → Calls Tryd.prog 24 #[.pointer (some ⟨N, 0, none⟩)] w' fun e w'' => e = .returned .nilIface ∧ RK w o len N ra rcap len w'') := fun w' h => back_done h hOk.out
          clear hkl hk hOH
          go_wp2_with fail
          refine Calls.mono (hLi.out _ hRK) ?_
          rintro e w4 ⟨rfl, BB⟩
          have hRn : RK w o len N ra rcap len w4 := hRK.below BB
          have hDoH : Hid _ := hDo.out _ hRn
          clear hRn hRK hRKd
          go_wp2_with fail
          refine Calls.mono hDoH.out ?_
          rintro e w5 ⟨rfl, hRn5⟩
          have hB5 := hRn5.2.1
          clear hRn5
          go_wp2_with fail
          go_ret
          exact ⟨rfl, hB5⟩
end Go.Proofs.YtkcpiplifibpkaaDoor
