
import Derived.Test.YtlcpkbllpkgihaaDoorWwG
import Derived.Deep.Cut
import Derived.Deep.RegionHeld3
import Derived.BigQuiet
import Derived.WalkSmall
import Derived.Deep.QuietTactic
namespace Go.Proofs.YtlcpkbllpkgihaaDoor
open Go.RowKit
set_option linter.unusedVariables false
set_option linter.unusedSimpArgs false
/-- things to be written, as they lie. -/
structure Ops where
  K : Nat → Int
  X : Nat → Nat
  B : Nat → Int
  A : Nat → Option Addr
  M : Nat → Nat
  C : Nat → Nat
  S : Nat → Nat → Nat
def OpsAt (w : World) (a : Option Addr) (len : Nat) (o : Ops) : Prop :=
  len = 0 ∨ ∃ b off, a = some ⟨b, off, none⟩ ∧ b < w.heap.size ∧ ∀ i, i < len →
    (w.cell? ⟨b, off + i * 4, none⟩ = some (.int .i64 (o.K i)) ∧ w.cell? ⟨b, off + i * 4 + 1, none⟩ = some (.int .u64 (o.X i : Int)) ∧ w.cell? ⟨b, off + i * 4 + 2, none⟩ = some (.int .i64 (o.B i)) ∧ w.cell? ⟨b, off + i * 4 + 3, none⟩ = some (.slice (o.A i) (o.M i) (o.C i))) ∧ o.X i < 18446744073709551616 ∧ BytesIn w (o.A i) (o.M i) (o.S i)
/-- what the first k of them write. -/
def wrAll (o : Ops) : Nat → List Nat × Nat
  | 0 => ([], 0)
  | k + 1 => opOn (o.K k) (o.X k) (o.B k) (o.M k) (o.S k) (wrAll o k)
def mAll (o : Ops) : Nat → Nat
  | 0 => 0
  | k + 1 => mAll o k + o.M k + 64
theorem mAll_mono (o : Ops) {i j : Nat} (h : i ≤ j) : mAll o i ≤ mAll o j := by
  induction j with
  | zero => have : i = 0 := by omega
            subst this; exact Nat.le_refl _
  | succ j ih =>
    rcases Nat.lt_or_ge i (j + 1) with h1 | h1
    · have := ih (by omega); simp only [mAll]; omega
    · have : i = j + 1 := by omega
      subst this; exact Nat.le_refl _
/-- the two Writers behind the first k. -/
def TK (w : World) (o : Ops) (k : Nat) (wr : World) : Prop :=
  ∃ v u, TW w w.heap.size (w.heap.size + 1) (((8 - (wrAll o k).2) % 8 : Nat) : Int) (wrAll o k).1 v (((wrAll o k).2 : Nat) : Int) (wrAll o k).1 u wr ∧ CL (wrAll o k).1 (wrAll o k).2 ∧ (wrAll o k).1.length ≤ mAll o k
theorem TK.start (w : World) (o : Ops) : TK w o 0 ((w.alloc (.cells #[.slice none 0 0, .int .i64 0] 26)).alloc (.cells #[.slice none 0 0, .int .i64 0] 29)) := by
  have e0 : wrAll o 0 = ([], 0) := rfl
  unfold TK
  rw [e0]
  refine ⟨.slice none 0 0, .slice none 0 0, ⟨⟨by simp [go_sem], by simp [go_sem], by simp [go_sem], by simp [go_sem], World.ownsRow_nil _ _ _ _, Below.refl _ _, by simp; omega⟩, ⟨by simp [go_sem], by simp [go_sem], by simp [go_sem], by simp [go_sem], World.ownsRow_nil _ _ _ _, Below.refl _ _, by simp⟩, by omega, by simp [Value.ownBlock], by simp [Value.ownBlock], Or.inl rfl, by omega, by omega, below_new (below_new (Below.refl _ _) _) _⟩, ⟨by omega, by simp, by simp⟩, by simp⟩
theorem TK.below {w : World} {o : Ops} {k : Nat} {wr w' : World} (h : TK w o k wr) (hb : Below wr.heap.size wr w') : TK w o k w' := by
  obtain ⟨v, u, hT, hC, hl⟩ := h
  exact ⟨v, u, hT.below hb, hC, hl⟩
theorem TK.bb {w : World} {o : Ops} {k : Nat} {wr : World} (h : TK w o k wr) : Below w.heap.size w wr := by
  obtain ⟨v, u, hT, hC, hl⟩ := h
  exact hT.bb
theorem TK.sz {w : World} {o : Ops} {k : Nat} {wr : World} (h : TK w o k wr) : w.heap.size + 1 < wr.heap.size := by
  obtain ⟨v, u, hT, hC, hl⟩ := h
  exact hT.d.sz
theorem write_step (w : World) (o : Ops) (k : Nat) (wr : World) (O : Obj) (h : TK w o k wr) (hx : o.X k < 18446744073709551616) (hB : BytesIn w (o.A k) (o.M k) (o.S k)) (hb : mAll o k + o.M k + 100 ≤ 140737488355328) :
    Calls Tryd.prog 8 #[.pointer (some ⟨w.heap.size, 0, none⟩), .pointer (some ⟨w.heap.size + 1, 0, none⟩), .agg #[.int .i64 (o.K k), .int .u64 (o.X k : Int), .int .i64 (o.B k), .slice (o.A k) (o.M k) (o.C k)]] (wr.alloc O) fun e w' => e = .returned undef ∧ TK w o (k + 1) w' ∧ wr.heap.size < w'.heap.size ∧ ∀ j, w'.cell? ⟨wr.heap.size, j, none⟩ = (wr.alloc O).cell? ⟨wr.heap.size, j, none⟩ := by
  obtain ⟨v, u, hT, hC, hl⟩ := h
  have hz := hT.d.sz
  refine (write_any w _ _ _ _ v u _ (hT.alloc O) hC (o.K k) (o.X k) hx (o.B k) (o.A k) (o.M k) (o.C k) (o.S k) hB (by omega)).mono ?_
  rintro e w' ⟨rfl, v', u', hT', hC', hl', hK⟩
  have hs := hK.size
  simp at hs
  refine ⟨rfl, ⟨v', u', hT', hC', by simp only [mAll]; exact Nat.le_trans hl' (by omega)⟩, by omega, fun j => ?_⟩
  refine World.cell?_of_block (w := wr.alloc O) (hK.keep wr.heap.size (by simp) (by omega) (by omega) ?_ ?_)
  · intro e; have := own_lt hT.r.own e.symm; omega
  · intro e; have := own_lt hT.d.own e.symm; omega
/-- what is asked of both at the end of a round. -/
theorem TK.sides {w : World} {o : Ops} {k : Nat} {wr : World} (h : TK w o k wr) (hb : mAll o k ≤ 140737488355327) : ∃ v a c, WS w.heap.size wr (((8 - (wrAll o k).2) % 8 : Nat) : Int) v (wrAll o k).1.length (enc (wrAll o k).1) wr ∧ (∀ y ∈ (wrAll o k).1, y < 256) ∧ (wrAll o k).1.length ≤ 140737488355327 ∧ wr.cell? ⟨w.heap.size + 1, 0, none⟩ = some (.slice a (wrAll o k).1.length c) ∧ BytesIn wr a (wrAll o k).1.length (natsOf (wrAll o k).1) := by
  obtain ⟨v, u, hT, hC, hl⟩ := h
  obtain ⟨a, c, rfl, hB⟩ := hT.d.bytes hC.2.1 (by omega)
  exact ⟨v, a, c, hT.r, hC.2.1, by omega, hT.d.c0, hB⟩
theorem keepW {w : World} {o : Ops} {k : Nat} {a2 : Option Addr} {L z : Nat} {ns : Nat → Nat} {x0 x1 x2 : Value} {wx wy : World} (B : Below wx.heap.size wx wy) (S : TK w o k wx ∧ BytesIn wx a2 L ns ∧ w.heap.size + 1 < wx.heap.size ∧ z < wx.heap.size ∧ wx.cell? ⟨w.heap.size, 0, none⟩ = some x0 ∧ wx.cell? ⟨w.heap.size + 1, 0, none⟩ = some x1 ∧ wx.cell? ⟨z, 0, none⟩ = some x2) :
    TK w o k wy ∧ BytesIn wy a2 L ns ∧ w.heap.size + 1 < wy.heap.size ∧ z < wy.heap.size ∧ wy.cell? ⟨w.heap.size, 0, none⟩ = some x0 ∧ wy.cell? ⟨w.heap.size + 1, 0, none⟩ = some x1 ∧ wy.cell? ⟨z, 0, none⟩ = some x2 := by
  obtain ⟨t, b, h1, h2, c0, c1, c2⟩ := S
  have hs := B.size
  refine ⟨t.below B, b.below B, by omega, by omega, ?_, ?_, ?_⟩
  · rw [B.cell (p := ⟨w.heap.size, 0, none⟩) (show w.heap.size < wx.heap.size by omega)]; exact c0
  · rw [B.cell (p := ⟨w.heap.size + 1, 0, none⟩) h1]; exact c1
  · rw [B.cell (p := ⟨z, 0, none⟩) h2]; exact c2
set_option maxRecDepth 100000 in
set_option maxHeartbeats 8000000 in
theorem writes_walk (a : Option Addr) (len cap : Nat) (o : Ops) (w : World) (hs : ST w) (hO : OpsAt w a len o) (hlen : len ≤ 9223372036854775807) (hb : mAll o len + 200 ≤ 140737488355327) :
    Calls Tryd.prog 3 #[.slice a len cap] w fun e w' => e = .returned (.bool true) ∧ Below w.heap.size w w' := by
  have hT0 : Hid (TK w o 0 _) := TK.start w o
  have hOH : Hid _ := hO
  have hsH : Hid _ := hs
  clear hO hs
  go_enter Tryd.func3, Tryd.ntmps3
  go_wp2_with fail
  go_loopw [13] (fun i wr => ∃ k : Nat, k ≤ len ∧ i = .int .i64 (k : Int) ∧ TK w o k wr) (fun i _ => len - (intOf i).toNat)
  case atStart => exact ⟨0, Nat.zero_le _, rfl, hT0.out⟩
  case round =>
    clear hT0
    obtain ⟨k, hk, rfl, hT⟩ := hrel
    by_cases hkl : k < len
    · have hkI : (k : Int) < (len : Int) := by omega
      have k0 : (0 : Int) ≤ (k : Int) := by omega
      rcases hOH.out with h0 | ⟨b, off, rfl, hbk, hc⟩
      · omega
      obtain ⟨⟨c0, c1, c2, c3⟩, hx, hB⟩ := hc k hkl
      have hbb := hT.bb
      have e0 : wr.cell? ⟨b, off + k * 4, none⟩ = some (.int .i64 (o.K k)) := by rw [hbb.cell (p := ⟨b, off + k * 4, none⟩) hbk]; exact c0
      have e1 : wr.cell? ⟨b, off + k * 4 + 1, none⟩ = some (.int .u64 (o.X k : Int)) := by rw [hbb.cell (p := ⟨b, off + k * 4 + 1, none⟩) hbk]; exact c1
      have e2 : wr.cell? ⟨b, off + k * 4 + 2, none⟩ = some (.int .i64 (o.B k)) := by rw [hbb.cell (p := ⟨b, off + k * 4 + 2, none⟩) hbk]; exact c2
      have e3 : wr.cell? ⟨b, off + k * 4 + 3, none⟩ = some (.slice (o.A k) (o.M k) (o.C k)) := by rw [hbb.cell (p := ⟨b, off + k * 4 + 3, none⟩) hbk]; exact c3
      have hm1 := mAll_mono o (show k + 1 ≤ len by omega)
      have hstep : Hid _ := fun O => write_step w o k wr O hT hx hB (by simp only [mAll] at hm1; omega)
      have hzz := hT.sz
      clear c0 c1 c2 c3 hc hB hT hx
      go_wp2_with fail
      refine (hstep.out _).mono ?_
      rintro e w2 ⟨rfl, hT2, hz2, hq⟩
      have q0 := hq 0
      simp at q0
      clear hq e0 e1 e2 e3 hbb
      obtain ⟨v, a2, cc, hWS, hlt, hle, d0, hB2⟩ := hT2.sides (show mAll o (k + 1) ≤ _ by omega)
      obtain ⟨va, vc, hv⟩ : ∃ va vc, v = .slice va (wrAll o (k + 1)).1.length vc := by
        obtain ⟨x1, x2, x3, _⟩ := hWS.bytes hlt hle
        exact ⟨x1, x2, x3⟩
      have d1 : w2.cell? ⟨w.heap.size, 0, none⟩ = some (.slice va (wrAll o (k + 1)).1.length vc) := by rw [← hv]; exact hWS.c0
      have hLenH : Hid (∀ n, Calls Tryd.prog 9 #[.pointer (some ⟨w.heap.size, 0, none⟩)] (w2.drewN n) fun e w' => e = .returned (.int .i64 ((wrAll o (k + 1)).1.length : Int)) ∧ w' = w2.drewN n) := fun n => wlen_c _ va _ vc _ (by simpa using d1)
      have hLenD : Hid (∀ w', w'.cell? ⟨w.heap.size, 0, none⟩ = some (.slice va (wrAll o (k + 1)).1.length vc) → Calls Tryd.prog 9 #[.pointer (some ⟨w.heap.size, 0, none⟩)] w' fun e w'' => e = .returned (.int .i64 ((wrAll o (k + 1)).1.length : Int)) ∧ w'' = w') := fun w' h => wlen_c _ va _ vc _ h
      have hT2H : Hid (TK w o (k + 1) w2) := hT2
      have hBy : Hid (∀ w', TK w o (k + 1) w' → Calls Tryd.prog 11 #[.pointer (some ⟨w.heap.size, 0, none⟩)] w' fun e w'' => ∃ a c, e = .returned (.slice a (wrAll o (k + 1)).1.length c) ∧ BytesIn w'' a (wrAll o (k + 1)).1.length (natsOf (wrAll o (k + 1)).1) ∧ Below w'.heap.size w' w'') := fun w' h => by
        obtain ⟨v, _, _, hW, h1, h2, _⟩ := h.sides (show mAll o (k + 1) ≤ _ by omega)
        exact bytesB _ _ _ v _ w' hW h1 h2
      obtain ⟨L, hL⟩ : ∃ L, L = (wrAll o (k + 1)).1.length := ⟨_, rfl⟩
      obtain ⟨ns, hns⟩ : ∃ ns, ns = natsOf (wrAll o (k + 1)).1 := ⟨_, rfl⟩
      rw [← hL] at d0 d1 hLenH hLenD hBy hB2
      rw [← hns] at hBy hB2
      clear hWS hlt hle hv hL hns hT2 hstep
      by_cases hK6 : 6 < o.K k
      · have S2 : TK w o (k + 1) w2 ∧ BytesIn w2 a2 L ns ∧ w.heap.size + 1 < w2.heap.size ∧ wr.heap.size < w2.heap.size ∧ w2.cell? ⟨w.heap.size, 0, none⟩ = some (.slice va L vc) ∧ w2.cell? ⟨w.heap.size + 1, 0, none⟩ = some (.slice a2 L cc) ∧ w2.cell? ⟨wr.heap.size, 0, none⟩ = some (.int .i64 (o.K k)) := ⟨hT2H.out, hB2, by omega, hz2, d1, d0, q0⟩
        have S2d : TK w o (k + 1) w2.drew ∧ BytesIn w2.drew a2 L ns ∧ w.heap.size + 1 < w2.drew.heap.size ∧ wr.heap.size < w2.drew.heap.size ∧ w2.drew.cell? ⟨w.heap.size, 0, none⟩ = some (.slice va L vc) ∧ w2.drew.cell? ⟨w.heap.size + 1, 0, none⟩ = some (.slice a2 L cc) ∧ w2.drew.cell? ⟨wr.heap.size, 0, none⟩ = some (.int .i64 (o.K k)) := keepW (Below.refl _ _).drew S2
        have hLenS : Hid (∀ w', (TK w o (k + 1) w' ∧ BytesIn w' a2 L ns ∧ w.heap.size + 1 < w'.heap.size ∧ wr.heap.size < w'.heap.size ∧ w'.cell? ⟨w.heap.size, 0, none⟩ = some (.slice va L vc) ∧ w'.cell? ⟨w.heap.size + 1, 0, none⟩ = some (.slice a2 L cc) ∧ w'.cell? ⟨wr.heap.size, 0, none⟩ = some (.int .i64 (o.K k))) → Calls Tryd.prog 9 #[.pointer (some ⟨w.heap.size, 0, none⟩)] w' fun e w'' => e = .returned (.int .i64 (L : Int)) ∧ w'' = w') := fun w' h => hLenD.out w' h.2.2.2.2.1
        have hByS : Hid (∀ w', (TK w o (k + 1) w' ∧ BytesIn w' a2 L ns ∧ w.heap.size + 1 < w'.heap.size ∧ wr.heap.size < w'.heap.size ∧ w'.cell? ⟨w.heap.size, 0, none⟩ = some (.slice va L vc) ∧ w'.cell? ⟨w.heap.size + 1, 0, none⟩ = some (.slice a2 L cc) ∧ w'.cell? ⟨wr.heap.size, 0, none⟩ = some (.int .i64 (o.K k))) → Calls Tryd.prog 11 #[.pointer (some ⟨w.heap.size, 0, none⟩)] w' fun e w'' => ∃ a c, e = .returned (.slice a L c) ∧ BytesIn w'' a L ns ∧ Below w'.heap.size w' w'') := fun w' h => hBy.out w' h.1
        have hSaS : Hid (∀ w' ga gc, BytesIn w' ga L ns → (TK w o (k + 1) w' ∧ BytesIn w' a2 L ns ∧ w.heap.size + 1 < w'.heap.size ∧ wr.heap.size < w'.heap.size ∧ w'.cell? ⟨w.heap.size, 0, none⟩ = some (.slice va L vc) ∧ w'.cell? ⟨w.heap.size + 1, 0, none⟩ = some (.slice a2 L cc) ∧ w'.cell? ⟨wr.heap.size, 0, none⟩ = some (.int .i64 (o.K k))) → Calls Tryd.prog 10 #[.slice ga L gc, .slice a2 L cc] w' fun e w'' => e = .returned (.bool true) ∧ Below w'.heap.size w' w'') := fun w' ga gc h1 h => same_in _ _ _ _ _ ns _ h1 h.2.1
        clear hLenD hBy hLenH hB2 d0 d1 q0
        go_wp2_with fail
        go_region_held3 (fun w' => TK w o (k + 1) w' ∧ BytesIn w' a2 L ns ∧ w.heap.size + 1 < w'.heap.size ∧ wr.heap.size < w'.heap.size ∧ w'.cell? ⟨w.heap.size, 0, none⟩ = some (.slice va L vc) ∧ w'.cell? ⟨w.heap.size + 1, 0, none⟩ = some (.slice a2 L cc) ∧ w'.cell? ⟨wr.heap.size, 0, none⟩ = some (.int .i64 (o.K k))) (first | assumption)
          (first
            | (go_at_call 9; (with_reducible refine Calls.mono (hLenS.out _ (by assumption)) ?_); rintro e w' ⟨rfl, rfl⟩)
            | (go_at_call 11; (with_reducible refine Calls.mono (hByS.out _ (by assumption)) ?_); rintro e w' ⟨ga, gc, rfl, hgb, BB⟩; have SS := keepW BB (by assumption))
            | (go_at_call 10; (with_reducible refine Calls.mono (hSaS.out _ _ _ (by assumption) (by assumption)) ?_); rintro e w' ⟨rfl, BB⟩; have SS := keepW BB (by assumption)))
        all_goals
          go_wp2_with fail
          go_roundw
          case rel => exact ⟨k + 1, by omega, by go_num, (by assumption : TK w o (k + 1) _ ∧ _).1⟩
          case measure => simp [intOf]; omega
      · have hd : decide (6 < o.K k) = false := by simpa using hK6
        clear hK6 hBy hB2 hLenD
        go_wp2_with fail
        go_quiet ((go_at_call 9; exact Calls.quiet_of_same (hLenH.out _)))
        go_wp2_with fail
        go_roundw
        case rel => exact ⟨k + 1, by omega, by go_num, hT2H.out.below (below_drewN (Below.refl _ _) _)⟩
        case measure => simp [intOf]; omega
    · obtain rfl : k = len := by omega
      have hzz := hT.sz
      obtain ⟨v, a2, cc, hWS, hlt, hle, d0, hB2⟩ := hT.sides (show mAll o k ≤ _ by omega)
      obtain ⟨va, vc, hv⟩ : ∃ va vc, v = .slice va (wrAll o k).1.length vc := by
        obtain ⟨x1, x2, x3, _⟩ := hWS.bytes hlt hle
        exact ⟨x1, x2, x3⟩
      have d1 : wr.cell? ⟨w.heap.size, 0, none⟩ = some (.slice va (wrAll o k).1.length vc) := by rw [← hv]; exact hWS.c0
      have hBy : Hid (∀ w', TK w o k w' → Calls Tryd.prog 11 #[.pointer (some ⟨w.heap.size, 0, none⟩)] w' fun e w'' => ∃ a c, e = .returned (.slice a (wrAll o k).1.length c) ∧ BytesIn w'' a (wrAll o k).1.length (natsOf (wrAll o k).1) ∧ Below w'.heap.size w' w'') := fun w' h => by
        obtain ⟨v, _, _, hW, h1, h2, _⟩ := h.sides (show mAll o k ≤ _ by omega)
        exact bytesB _ _ _ v _ w' hW h1 h2
      obtain ⟨L, hL⟩ : ∃ L, L = (wrAll o k).1.length := ⟨_, rfl⟩
      obtain ⟨ns, hns⟩ : ∃ ns, ns = natsOf (wrAll o k).1 := ⟨_, rfl⟩
      rw [← hL] at d0 d1 hBy hB2
      rw [← hns] at hBy hB2
      have S2 : TK w o k wr ∧ BytesIn wr a2 L ns ∧ w.heap.size + 1 < wr.heap.size ∧ w.heap.size < wr.heap.size ∧ wr.cell? ⟨w.heap.size, 0, none⟩ = some (.slice va L vc) ∧ wr.cell? ⟨w.heap.size + 1, 0, none⟩ = some (.slice a2 L cc) ∧ wr.cell? ⟨w.heap.size, 0, none⟩ = some (.slice va L vc) := ⟨hT, hB2, by omega, by omega, d1, d0, d1⟩
      have S2d : TK w o k wr.drew ∧ BytesIn wr.drew a2 L ns ∧ w.heap.size + 1 < wr.drew.heap.size ∧ w.heap.size < wr.drew.heap.size ∧ wr.drew.cell? ⟨w.heap.size, 0, none⟩ = some (.slice va L vc) ∧ wr.drew.cell? ⟨w.heap.size + 1, 0, none⟩ = some (.slice a2 L cc) ∧ wr.drew.cell? ⟨w.heap.size, 0, none⟩ = some (.slice va L vc) := keepW (Below.refl _ _).drew S2
      have hLiS : Hid (∀ w', (TK w o k w' ∧ BytesIn w' a2 L ns ∧ w.heap.size + 1 < w'.heap.size ∧ w.heap.size < w'.heap.size ∧ w'.cell? ⟨w.heap.size, 0, none⟩ = some (.slice va L vc) ∧ w'.cell? ⟨w.heap.size + 1, 0, none⟩ = some (.slice a2 L cc) ∧ w'.cell? ⟨w.heap.size, 0, none⟩ = some (.slice va L vc)) → Calls Tryd.prog 12 #[] w' fun e w'' => e = .returned (.bool true) ∧ Below w'.heap.size w' w'') := fun w' h => live_wire w' (ST_below hsH.out h.1.bb)
      have hByS : Hid (∀ w', (TK w o k w' ∧ BytesIn w' a2 L ns ∧ w.heap.size + 1 < w'.heap.size ∧ w.heap.size < w'.heap.size ∧ w'.cell? ⟨w.heap.size, 0, none⟩ = some (.slice va L vc) ∧ w'.cell? ⟨w.heap.size + 1, 0, none⟩ = some (.slice a2 L cc) ∧ w'.cell? ⟨w.heap.size, 0, none⟩ = some (.slice va L vc)) → Calls Tryd.prog 11 #[.pointer (some ⟨w.heap.size, 0, none⟩)] w' fun e w'' => ∃ a c, e = .returned (.slice a L c) ∧ BytesIn w'' a L ns ∧ Below w'.heap.size w' w'') := fun w' h => hBy.out w' h.1
      have hSaS : Hid (∀ w' ga gc, BytesIn w' ga L ns → (TK w o k w' ∧ BytesIn w' a2 L ns ∧ w.heap.size + 1 < w'.heap.size ∧ w.heap.size < w'.heap.size ∧ w'.cell? ⟨w.heap.size, 0, none⟩ = some (.slice va L vc) ∧ w'.cell? ⟨w.heap.size + 1, 0, none⟩ = some (.slice a2 L cc) ∧ w'.cell? ⟨w.heap.size, 0, none⟩ = some (.slice va L vc)) → Calls Tryd.prog 10 #[.slice ga L gc, .slice a2 L cc] w' fun e w'' => e = .returned (.bool true) ∧ Below w'.heap.size w' w'') := fun w' ga gc h1 h => same_in _ _ _ _ _ ns _ h1 h.2.1
      clear hBy hB2 d0 d1 hWS hlt hle hv hL hns hT
      go_wp2_with fail
      go_region_held3 (fun w' => TK w o k w' ∧ BytesIn w' a2 L ns ∧ w.heap.size + 1 < w'.heap.size ∧ w.heap.size < w'.heap.size ∧ w'.cell? ⟨w.heap.size, 0, none⟩ = some (.slice va L vc) ∧ w'.cell? ⟨w.heap.size + 1, 0, none⟩ = some (.slice a2 L cc) ∧ w'.cell? ⟨w.heap.size, 0, none⟩ = some (.slice va L vc)) (first | assumption)
        (first
          | (go_at_call 12; (with_reducible refine Calls.mono (hLiS.out _ (by assumption)) ?_); rintro e w' ⟨rfl, BB⟩; have SS := keepW BB (by assumption))
          | (go_at_call 11; (with_reducible refine Calls.mono (hByS.out _ (by assumption)) ?_); rintro e w' ⟨ga, gc, rfl, hgb, BB⟩; have SS := keepW BB (by assumption))
          | (go_at_call 10; (with_reducible refine Calls.mono (hSaS.out _ _ _ (by assumption) (by assumption)) ?_); rintro e w' ⟨rfl, BB⟩; have SS := keepW BB (by assumption)))
      all_goals
        go_wp2_with fail
        go_ret
        exact ⟨rfl, TK.bb (by assumption : TK w o k _ ∧ _).1⟩
end Go.Proofs.YtlcpkbllpkgihaaDoor
