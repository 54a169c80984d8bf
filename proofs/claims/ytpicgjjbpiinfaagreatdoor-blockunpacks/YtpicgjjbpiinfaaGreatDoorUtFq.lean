
import Derived.Test.YtpicgjjbpiinfaaGreatDoorUvGq
import Derived.Test.YtpicgjjbpiinfaaGreatDoorUtEq
import Derived.Test.YtpicgjjbpiinfaaGreatDoorBuM
namespace Go.Proofs.YtpicgjjbpiinfaaGreatDoor
open Go.RowKit
set_option linter.unusedVariables false
set_option linter.unusedSimpArgs false
theorem uintT_fe2 (bs : Nat → Nat) (n M : Nat) (s : PS) (h : ∀ x, s.fv = some x → (x.2 == 0) = false) : ∀ x, (uintT bs n M s).1.fv = some x → (x.2 == 0) = false := by
  intro x
  unfold uintT
  split
  · rename_i hs
    intro hx
    simp only at hx
    unfold startF at hx
    split at hx
    · exact h x hx
    · split at hx
      · injection hx with hx; rw [← hx]; rfl
      · cases hx
  · split
    · rename_i q hq
      intro hx
      simp at hx
      rw [← hx]; exact numS_fe _ _ _ 10 0 0 _ rfl (by omega) hq
    · split
      · intro hx; simp at hx; rw [← hx]; rfl
      · intro hx; simp at hx
theorem turnT_fe (bs : Nat → Nat) (n : Nat) (s : PS) (h : ∀ x, s.fv = some x → (x.2 == 0) = false) : ∀ x, (turnT bs n s).1.fv = some x → (x.2 == 0) = false := by
  have b1 := bitsT_fe bs n 1 _ h
  have b2 := bitsT_fe bs n 1 _ b1
  have b3 := bitsT_fe bs n 1 _ b2
  have b4 := bitsT_fe bs n 1 _ b3
  unfold turnT
  split
  · exact b1
  · split
    · exact bitsT_fe _ _ _ _ b2
    · split
      · exact bitsT_fe _ _ _ _ b3
      · split
        · exact bitsT_fe _ _ _ _ b4
        · exact bitsT_fe _ _ _ _ b4
theorem readT_fe (bs : Nat → Nat) (n : Nat) (s0 : PS) (h : ∀ x, s0.fv = some x → (x.2 == 0) = false) : ∀ k x, (readT bs n s0 k).s.fv = some x → (x.2 == 0) = false := by
  intro k
  induction k with
  | zero => exact h
  | succ k ih =>
    have e : readT bs n s0 (k + 1) = if (readT bs n s0 k).s.fv.isSome then readT bs n s0 k else timeT bs n k (readT bs n s0 k) := rfl
    rw [e]
    split
    · exact ih
    · unfold timeT
      split
      · exact uintT_fe2 _ _ _ _ ih
      · split
        · exact uintT_fe2 _ _ _ _ ih
        · exact turnT_fe _ _ _ ih
theorem UnTE.same {bs : Nat → Nat} {n : Nat} {e e' : Ending} {w w' : World} (h : UnTE bs n fvV (.iface 29 (.int .i64 90)) .nilIface e w) (h' : UnTE bs n fvB (badV 90) (badV 0) e' w') :
    (∃ x, (x.2 == 0) = false ∧ e = .returned (.tuple #[.slice none 0 0, fvV (some x)]) ∧ e' = .returned (.tuple #[.slice none 0 0, fvB (some x)])) ∨
    (e = .returned (.tuple #[.slice none 0 0, .iface 29 (.int .i64 90)]) ∧ e' = .returned (.tuple #[.slice none 0 0, badV 90])) ∨
    (∃ m tt a c a' c', e = .returned (.tuple #[.slice a m c, .nilIface]) ∧ e' = .returned (.tuple #[.slice a' m c', badV 0]) ∧ IsIn w a m tt ∧ IsIn w' a' m tt) := by
  rcases h with ⟨x, hx, he⟩ | ⟨hd, ⟨hq, a, c, he, hV⟩ | ⟨hq, he⟩⟩
  · left
    refine ⟨x, doneF_fe (fun y hy => readT_fe _ _ _ (uintT_fe _ _ _) _ y hy) x hx, he, ?_⟩
    rcases h' with ⟨x', hx', he'⟩ | ⟨hd', _⟩
    · rw [hx] at hx'; injection hx' with hx'; rw [hx']; exact he'
    · rw [hx] at hd'; cases hd'
  · right; right
    rcases h' with ⟨x', hx', he'⟩ | ⟨hd', ⟨hq', a', c', he', hV'⟩ | ⟨hq', he'⟩⟩
    · rw [hd] at hx'; cases hx'
    · exact ⟨_, _, a, c, a', c', he, he', hV, hV'⟩
    · exact absurd hq hq'
  · right; left
    rcases h' with ⟨x', hx', he'⟩ | ⟨hd', ⟨hq', a', c', he', hV'⟩ | ⟨hq', he'⟩⟩
    · rw [hd] at hx'; cases hx'
    · exact absurd hq' hq
    · exact ⟨he, he'⟩
theorem UnTE.shape {bs : Nat → Nat} {n : Nat} {err : Option (Int × Int) → Value} {bad ok : Value} {e : Ending} {w' : World} (h : UnTE bs n err bad ok e w') : ∃ a m c er, e = .returned (.tuple #[.slice a m c, er]) := by
  rcases h with ⟨x, _, he⟩ | ⟨_, ⟨_, a, c, he, _⟩ | ⟨_, he⟩⟩
  · exact ⟨_, _, _, _, he⟩
  · exact ⟨_, _, _, _, he⟩
  · exact ⟨_, _, _, _, he⟩
theorem isin_none (W : World) : IsIn W none 0 (fun _ => 0) := ⟨by omega, fun i => ⟨by show (-9223372036854775808 : Int) ≤ 0; omega, by show (0 : Int) ≤ 9223372036854775807; omega⟩, Or.inl rfl⟩
theorem UnTE.both {bs : Nat → Nat} {n : Nat} {e e' : Ending} {w w' : World} (h : UnTE bs n fvV (.iface 29 (.int .i64 90)) .nilIface e w) (h' : UnTE bs n fvB (badV 90) (badV 0) e' w') (hB : Below w.heap.size w w') :
    ∃ ra rm rc er da dm dc b0 b1 b2 b3 b4, e = .returned (.tuple #[.slice ra rm rc, er]) ∧ e' = .returned (.tuple #[.slice da dm dc, .agg #[.int .i64 b0, .int .i64 b1, .int .i64 b2, .bool b3, .bool b4]]) ∧ (∀ W, ET W → Calls Tryz.prog 9 #[er, .agg #[.int .i64 b0, .int .i64 b1, .int .i64 b2, .bool b3, .bool b4]] W fun e w' => e = .returned (.bool true) ∧ Below W.heap.size W w') ∧
      (∀ W, Below w'.heap.size w' W → Calls Tryz.prog 10 #[.slice ra rm rc, .slice da dm dc] W fun e w' => e = .returned (.bool true) ∧ Below W.heap.size W w') := by
  rcases UnTE.same h h' with ⟨x, hx, he, he'⟩ | ⟨he, he'⟩ | ⟨m, tt, a, c, a', c', he, he', hV, hV'⟩
  · exact ⟨_, _, _, _, _, _, _, _, _, _, _, _, he, he', fun W hW => same_fv (some x) (fun y hy => by injection hy with hy; rw [← hy]; exact hx) W hW, fun W _ => sameTimes_any none none 0 0 0 _ W (isin_none W) (isin_none W)⟩
  · exact ⟨_, _, _, _, _, _, _, _, _, _, _, _, he, he', fun W hW => same_err 90 rfl W hW, fun W _ => sameTimes_any none none 0 0 0 _ W (isin_none W) (isin_none W)⟩
  · exact ⟨_, _, _, _, _, _, _, _, _, _, _, _, he, he', fun W hW => same_nilB W, fun W hW => sameTimes_any a a' m c c' tt W (IsIn.below (IsIn.below hV hB (Nat.le_refl _)) hW (Nat.le_refl _)) (IsIn.below hV' hW (Nat.le_refl _))⟩
set_option maxRecDepth 100000 in
set_option maxHeartbeats 4000000 in
theorem blockUnTimes_walk (a : Option Addr) (len cap : Nat) (bs : Nat → Nat) (w : World) (h : BytesIn w a len bs) (hct : CT w) (hg : 0 < w.heap.size) (het : ET w) : Calls Tryz.prog 3 #[.slice a len cap] w fun e w' => e = .returned (.bool true) ∧ Below w.heap.size w w' := by
  have hbs : ∀ j, j < len → bs j < 256 := by
    rcases h.2 with h0 | ⟨b, off, e, hb, hB⟩
    · intro j hj; omega
    · exact fun j hj => (hB j hj).2
  have hH : Hid _ := hand_some a len cap bs w h
  have hBl : (bytesL bs len).length = len := by simp [bytesL]
  have hhH : Hid (BytesIn w a len bs) := h
  have hctH : Hid (CT w) := hct
  have hetH : Hid (ET w) := het
  have hbsH : Hid (∀ j, j < len → bs j < 256) := hbs
  have hlen := h.1
  clear h hct het hbs
  go_enter Tryz.func3, Tryz.ntmps3
  go_wp2_with fail
  refine Calls.mono hH.out ?_
  rintro e w1 ⟨rfl, hRow⟩
  have hB1 := hRow.b
  have hin1 : BytesIn w1 (some ⟨w.heap.size, 0, none⟩) len bs := ⟨hlen, Or.inr ⟨w.heap.size, 0, rfl, hRow.sz, hRow.bytes2 hbsH.out⟩⟩
  have hU0 := unTimes_any (some ⟨w.heap.size, 0, none⟩) (len + 9) (bytesL bs len) w1 (by rw [hBl]; exact hin1.nats) (fun h => by cases h) (CT_below hctH.out hB1 hg) (by have := hB1.size; omega)
  rw [hBl] at hU0
  have hU : Hid _ := hU0
  have hRowH : Hid _ := hRow
  clear hH hin1 hU0 hRow
  go_wp2_with fail
  refine Calls.mono hU.out ?_
  rintro e w2 ⟨hE, hB2⟩
  have hB02 := below_then hB1 hB2
  have hD0 := dUnTimes_any a cap (bytesL bs len) w2 (by rw [hBl]; exact (hhH.out.below hB02).nats)
  rw [hBl] at hD0
  have hD : Hid _ := hD0
  have hEH : Hid _ := hE
  clear hU hD0
  obtain ⟨ra0, rm0, rc0, er0, rfl⟩ := UnTE.shape hE
  clear hE
  go_wp2_with fail
  refine Calls.mono hD.out ?_
  rintro e w3 ⟨hE', hB3⟩
  obtain ⟨ra, rm, rc, er, da, dm, dc, b0, b1, b2, b3, b4, he, rfl, hSame, hVals⟩ := UnTE.both hEH.out hE' hB3
  injection he with he
  injection he with he
  simp only [Array.mk.injEq, List.cons.injEq, Value.slice.injEq, and_true] at he
  obtain ⟨⟨rfl, rfl, rfl⟩, rfl⟩ := he
  have hSameH : Hid _ := hSame
  have hValsH : Hid _ := hVals
  have hB03 := below_then hB02 hB3
  have hB13 := below_then hB2 hB3
  clear hD hE' hEH hSame hVals
  have hBz := below_new (Below.refl _ w3) (.cells #[.int .i64 b0, .int .i64 b1, .int .i64 b2, .bool b3, .bool b4] 31)
  have hB04 := below_then hB03 hBz
  have hLi : Hid _ := live_block _ (CT_below hctH.out hB04 hg) (by have := hB04.size; omega)
  go_wp2_with fail
  refine Calls.mono hLi.out ?_
  rintro e w5 ⟨rfl, hB5⟩
  have hzl : w3.heap.size < (w3.alloc (.cells #[.int .i64 b0, .int .i64 b1, .int .i64 b2, .bool b3, .bool b4] 31)).heap.size := by simp
  have cz : ∀ j, w5.cell? ⟨w3.heap.size, j, none⟩ = (w3.alloc (.cells #[.int .i64 b0, .int .i64 b1, .int .i64 b2, .bool b3, .bool b4] 31)).cell? ⟨w3.heap.size, j, none⟩ := fun j => hB5.cell (p := ⟨w3.heap.size, j, none⟩) hzl
  have z0 : w5.cell? ⟨w3.heap.size, 0, none⟩ = some (.int .i64 b0) := by rw [cz]; simp [go_sem]
  have z1 : w5.cell? ⟨w3.heap.size, 1, none⟩ = some (.int .i64 b1) := by rw [cz]; simp [go_sem]
  have z2 : w5.cell? ⟨w3.heap.size, 2, none⟩ = some (.int .i64 b2) := by rw [cz]; simp [go_sem]
  have z3 : w5.cell? ⟨w3.heap.size, 3, none⟩ = some (.bool b3) := by rw [cz]; simp [go_sem]
  have z4 : w5.cell? ⟨w3.heap.size, 4, none⟩ = some (.bool b4) := by rw [cz]; simp [go_sem]
  have hB35 := below_then hBz hB5
  have hB05 := below_then hB03 hB35
  have hSe : Hid _ := hSameH.out w5 (ET_below hetH.out hB05)
  clear hLi hB5 cz hzl hBz hB04 hSameH
  go_wp2_with fail
  refine Calls.mono hSe.out ?_
  rintro e w6 ⟨rfl, hB6⟩
  have hB36 := below_then hB35 hB6
  have hB06 := below_then hB05 hB6
  have hVm : Hid _ := hValsH.out w6 hB36
  clear hSe hB6 z0 z1 z2 z3 z4 hValsH
  go_wp2_with fail
  refine Calls.mono hVm.out ?_
  rintro e w7 ⟨rfl, hB7⟩
  have hB37 := below_then hB36 hB7
  have hB07 := below_then hB06 hB7
  have hB17 := below_then hB13 hB37
  have hKe : Hid _ := kept_true w.heap.size a len cap bs w7 (Nat.lt_of_lt_of_le hRowH.out.sz hB17.size) (fun j hj => by rw [hB17.cell (p := ⟨w.heap.size, j, none⟩) hRowH.out.sz]; exact hRowH.out.c j hj) hbsH.out (hhH.out.below hB07)
  clear hVm hB7
  go_wp2_with fail
  refine Calls.mono hKe.out ?_
  rintro e w8 ⟨rfl, hB8⟩
  have hB08 := below_then hB07 hB8
  clear hKe hB8
  go_wp2_with fail
  go_ret
  exact ⟨rfl, hB08⟩
end Go.Proofs.YtpicgjjbpiinfaaGreatDoor
