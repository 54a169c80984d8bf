
import Derived.Test.YtdfnomglkibfbaaGreatDoorVfV
namespace Go.Proofs.YtdfnomglkibfbaaGreatDoor.Vf
open Go.RowKit
set_option linter.unusedVariables false
set_option linter.unusedSimpArgs false
set_option maxRecDepth 100000
/-- how often an item is emitted. -/
def isE (a : Nat) (i : InP) : Bool := decide (i.c = 23) && decide (i.a = (a : Int))
def cntE (l : List InP) (a : Nat) : Nat := l.countP (isE a)
def emitB (n : Nat) (l : List InP) : Bool := (List.range n).all fun a => decide (cntE l a = 1)
theorem cnt_take {l : List InP} {k a : Nat} {x : InP} (hx : l[k]? = some x) : cntE (l.take (k + 1)) a = cntE (l.take k) a + if isE a x then 1 else 0 := by
  unfold cntE
  rw [List.take_add_one, hx, List.countP_append]
  simp [List.countP_cons]
theorem cnt_le (l : List InP) (a : Nat) : cntE l a ≤ l.length := List.countP_le_length
theorem InIn.at {w : World} {a : Option Addr} {l : List InP} (h : InIn w a l) {k : Nat} (hk : k < l.length) : ∃ b off s, l[k]? = some s ∧ a = some ⟨b, off, none⟩ ∧ b < w.heap.size ∧ w.cell? ⟨b, off + k * 3, none⟩ = some (.int .u8 (s.c : Int)) ∧ w.cell? ⟨b, off + k * 3 + 1, none⟩ = some (.int .i64 s.a) ∧ w.cell? ⟨b, off + k * 3 + 2, none⟩ = some (.int .i64 s.b) := by
  rcases h with h | ⟨b, off, h1, h2, h3⟩
  · rw [h] at hk; simp at hk
  · obtain ⟨k1, k2, k3⟩ := h3 k _ (List.getElem?_eq_getElem hk)
    exact ⟨b, off, l[k], List.getElem?_eq_getElem hk, h1, h2, k1, k2, k3⟩
set_option maxHeartbeats 4000000 in
theorem emitted_any (p : PrH) (l : List InP) (hl : p.output.n = l.length) (hn : l.length ≤ 1152921504606846976) (hm : p.alias.n ≤ 1152921504606846976) (w : World) (h : InIn w p.output.a l) : Calls Tryz.prog 32 #[p.v] w fun e w' => e = .returned (.bool (emitB p.alias.n l)) ∧ Below w.heap.size w w' := by
  unfold PrH.v
  go_enter Tryz.func32, Tryz.ntmps32
  go_wp2_with fail
  generalize hW : World.alloc w _ = W1
  have hB : Hid (Below w.heap.size w W1) := by rw [← hW]; exact (Below.refl _ w).alloc (Nat.le_refl _) _
  have c6 : W1.cell? ⟨w.heap.size, 6, none⟩ = some (.slice p.alias.a p.alias.n p.alias.c) := by rw [← hW]; simp [go_sem]
  have c13 : W1.cell? ⟨w.heap.size, 13, none⟩ = some (.slice p.output.a l.length p.output.c) := by rw [← hW, ← hl]; simp [go_sem]
  have hH : Hid (InIn W1 p.output.a l) := h.below hB.out (Nat.le_refl _)
  clear h hW hl
  generalize p.output.a = oa at *
  go_loopw [3] (fun v3 wr => wr = W1 ∧ ∃ a : Nat, v3 = .int .i64 (a : Int) ∧ a ≤ p.alias.n ∧ Hid (emitB a l = true)) (fun v3 _ => p.alias.n - (intOf v3).toNat)
  case atStart => exact ⟨rfl, 0, rfl, Nat.zero_le _, rfl⟩
  case round =>
    obtain ⟨rfl, a, rfl, ham, hb⟩ := hrel
    by_cases ha : a < p.alias.n
    · have aI : (a : Int) < (p.alias.n : Int) := by omega
      have a0 : (0 : Int) ≤ (a : Int) := by omega
      have aw : IntKind.i64.wrap ((a : Int) + 1) = ((a + 1 : Nat) : Int) := IntWalk.i64_in _ (by omega)
      go_wp2_with fail
      go_loopw [4, 5] (fun v4 v5 wx => wx = wr ∧ ∃ k n : Nat, v5 = .int .i64 (k : Int) ∧ v4 = .int .i64 (n : Int) ∧ k ≤ l.length ∧ Hid (cntE (l.take k) a = n)) (fun _ v5 _ => l.length - (intOf v5).toNat)
      case atStart => exact ⟨rfl, 0, 0, rfl, rfl, Nat.zero_le _, rfl⟩
      case round =>
        obtain ⟨rfl, k, n, rfl, rfl, hkl, hcn⟩ := hrel
        have nl : n ≤ 1152921504606846976 := by
          have := cnt_le (l.take k) a
          rw [hcn.out, List.length_take] at this
          omega
        by_cases hk : k < l.length
        · obtain ⟨g, off, s, es, rfl, gl, cs1, cs2, cs3⟩ := hH.out.at hk
          have kI : (k : Int) < (l.length : Int) := by omega
          have k0 : (0 : Int) ≤ (k : Int) := by omega
          have kw : IntKind.i64.wrap ((k : Int) + 1) = ((k + 1 : Nat) : Int) := IntWalk.i64_in _ (by omega)
          have nw : IntKind.i64.wrap ((n : Int) + 1) = ((n + 1 : Nat) : Int) := IntWalk.i64_in _ (by omega)
          have ct := cnt_take (a := a) es
          rw [hcn.out] at ct
          obtain ⟨sc, sa, sb⟩ := s
          by_cases h1 : sc = 23
          · subst h1
            by_cases h2 : sa = (a : Int)
            · subst h2
              have NX0 : cntE (l.take (k + 1)) a = n + 1 := by rw [ct]; simp [isE]
              have NX : Hid (cntE (l.take (k + 1)) a = n + 1) := NX0
              clear NX0
              clear hH hcn ct es hb
              go_wp2_with fail
              exact ⟨⟨by first | trivial | rfl, k + 1, n + 1, by first | rfl | (rw [kw]), by first | rfl | (rw [nw]), hk, NX⟩, by first | (simp [intOf]; done) | (simp [intOf]; omega)⟩
            · have NX0 : cntE (l.take (k + 1)) a = n := by rw [ct]; simp [isE, h2]
              have NX : Hid (cntE (l.take (k + 1)) a = n) := NX0
              clear NX0
              have hd : decide (sa = (a : Int)) = false := decide_eq_false h2
              clear hH hcn ct es hb
              go_wp2_with fail
              exact ⟨⟨by first | trivial | rfl, k + 1, n, by first | rfl | (rw [kw]), rfl, hk, NX⟩, by first | (simp [intOf]; done) | (simp [intOf]; omega)⟩
          · have NX0 : cntE (l.take (k + 1)) a = n := by rw [ct]; simp [isE, h1]
            have NX : Hid (cntE (l.take (k + 1)) a = n) := NX0
            clear NX0
            have h1i : ¬ (sc : Int) = 23 := by omega
            have hd : decide ((sc : Int) = 23) = false := decide_eq_false h1i
            clear hH hcn ct es hb
            go_wp2_with fail
            exact ⟨⟨by first | trivial | rfl, k + 1, n, by first | rfl | (rw [kw]), rfl, hk, NX⟩, by first | (simp [intOf]; done) | (simp [intOf]; omega)⟩
        · have kI : ¬ (k : Int) < (l.length : Int) := by omega
          have hc : cntE l a = n := by
            have := hcn.out
            rw [List.take_of_length_le (by omega)] at this
            exact this
          by_cases h1 : n = 1
          · subst h1
            have NX0 : emitB (a + 1) l = true := by
              have := hb.out
              unfold emitB at this ⊢
              rw [List.range_succ, List.all_append, this]
              simp [hc]
            have NX : Hid (emitB (a + 1) l = true) := NX0
            clear NX0
            clear hH hcn hb hc
            go_wp2_with fail
            exact ⟨⟨by first | trivial | rfl, a + 1, by first | rfl | (rw [aw]), ha, NX⟩, by first | (simp [intOf]; done) | (simp [intOf]; omega)⟩
          · have fin : Hid (emitB p.alias.n l = false) := by
              unfold emitB
              rw [List.all_eq_false]
              exact ⟨a, List.mem_range.2 ha, by rw [hc]; simpa using h1⟩
            have h1i : ¬ (n : Int) = 1 := by omega
            clear hH hcn hb hc
            go_wp2_with fail
            go_ret
            exact ⟨by rw [fin.out]; rfl, hB.out⟩
    · have kI : ¬ (a : Int) < (p.alias.n : Int) := by omega
      have fin : Hid (emitB p.alias.n l = true) := by
        have e : a = p.alias.n := by omega
        rw [← e]; exact hb.out
      clear hH hb
      go_wp2_with fail
      go_ret
      exact ⟨by rw [fin.out]; rfl, hB.out⟩
end Go.Proofs.YtdfnomglkibfbaaGreatDoor.Vf
