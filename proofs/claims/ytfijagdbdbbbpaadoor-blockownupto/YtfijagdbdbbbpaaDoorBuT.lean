
import Derived.Test.YtfijagdbdbbbpaaDoorUtAq
import Derived.Test.YtfijagdbdbbbpaaDoorBuN
import Derived.Test.YtfijagdbdbbbpaaDoorUvDq
namespace Go.Proofs.YtfijagdbdbbbpaaDoor
open Go.RowKit
set_option linter.unusedVariables false
set_option linter.unusedSimpArgs false
/-- what was read of times. -/
structure UT where
  s : PS
  gap : Nat
  la : Int
  L : List Int
def timeT (bs : Nat → Nat) (n : Nat) (i : Nat) (u : UT) : UT :=
  if i = 0 then ⟨(uintT bs n 18446744073709551615 u.s).1, u.gap, unfoldN (uintT bs n 18446744073709551615 u.s).2, u.L ++ [unfoldN (uintT bs n 18446744073709551615 u.s).2]⟩
  else if i = 1 then ⟨(uintT bs n 18446744073709551615 u.s).1, (uintT bs n 18446744073709551615 u.s).2, wrap64 (u.la + ((uintT bs n 18446744073709551615 u.s).2 : Int)), u.L ++ [wrap64 (u.la + ((uintT bs n 18446744073709551615 u.s).2 : Int))]⟩
  else ⟨(turnT bs n u.s).1, (((u.gap : Int) + (turnT bs n u.s).2) % 18446744073709551616).toNat, wrap64 (u.la + ((((u.gap : Int) + (turnT bs n u.s).2) % 18446744073709551616).toNat : Int)), u.L ++ [wrap64 (u.la + ((((u.gap : Int) + (turnT bs n u.s).2) % 18446744073709551616).toNat : Int))]⟩
def readT (bs : Nat → Nat) (n : Nat) (s0 : PS) : Nat → UT
  | 0 => ⟨s0, 0, 0, []⟩
  | k + 1 => if (readT bs n s0 k).s.fv.isSome then readT bs n s0 k else timeT bs n k (readT bs n s0 k)
theorem readT_stay {bs : Nat → Nat} {n : Nat} {s0 : PS} {k : Nat} (h : (readT bs n s0 k).s.fv.isSome = true) : ∀ j, readT bs n s0 (k + j) = readT bs n s0 k := by
  intro j
  induction j with
  | zero => rfl
  | succ j ih =>
    have e : readT bs n s0 (k + (j + 1)) = if (readT bs n s0 (k + j)).s.fv.isSome then readT bs n s0 (k + j) else timeT bs n (k + j) (readT bs n s0 (k + j)) := rfl
    rw [e, ih, if_pos h]
theorem uintT_64 (bs : Nat → Nat) (n : Nat) (s : PS) : (uintT bs n 18446744073709551615 s).2 < 18446744073709551616 := by
  have := uintT_le bs n 18446744073709551615 s; omega
structure TOk (u : UT) : Prop where
  g : u.gap < 18446744073709551616
  l : -9223372036854775808 ≤ u.la ∧ u.la ≤ 9223372036854775807
  L : ∀ x ∈ u.L, -9223372036854775808 ≤ x ∧ x ≤ 9223372036854775807
theorem TOk.step {bs : Nat → Nat} {n i : Nat} {u : UT} (h : TOk u) : TOk (timeT bs n i u) := by
  have add : ∀ x : Int, (-9223372036854775808 ≤ x ∧ x ≤ 9223372036854775807) → ∀ y ∈ u.L ++ [x], -9223372036854775808 ≤ y ∧ y ≤ 9223372036854775807 := fun x hx y hy => by
    rcases List.mem_append.1 hy with hy | hy
    · exact h.L y hy
    · rw [List.mem_singleton.1 hy]; exact hx
  have h64 := uintT_64 bs n u.s
  unfold timeT
  split
  · have hw := unfoldN_rg _ h64
    exact ⟨h.g, hw, add _ hw⟩
  · split
    · have hw := wrap64_rg (u.la + ((uintT bs n 18446744073709551615 u.s).2 : Int))
      exact ⟨h64, hw, add _ hw⟩
    · have hw := wrap64_rg (u.la + ((((u.gap : Int) + (turnT bs n u.s).2) % 18446744073709551616).toNat : Int))
      exact ⟨by simp only; omega, hw, add _ hw⟩
theorem readT_ok (bs : Nat → Nat) (n : Nat) (s0 : PS) : ∀ k, TOk (readT bs n s0 k) := by
  intro k
  induction k with
  | zero => exact ⟨by show 0 < 18446744073709551616; omega, ⟨by show (-9223372036854775808 : Int) ≤ 0; omega, by show (0 : Int) ≤ 9223372036854775807; omega⟩, fun x hx => by cases hx⟩
  | succ k ih =>
    show TOk (if (readT bs n s0 k).s.fv.isSome then _ else _)
    split
    · exact ih
    · exact ih.step
theorem timeT_len (bs : Nat → Nat) (n i : Nat) (u : UT) : (timeT bs n i u).L.length = u.L.length + 1 := by
  unfold timeT
  split
  · simp
  · split <;> simp
def ttL (L : List Int) (i : Nat) : Int := L.getD i 0
theorem encI_L (L : List Int) (x : Int) : encI (ttL (L ++ [x])) (L ++ [x]).length = encI (ttL L) L.length ++ [.int .i64 x] := by
  rw [show (L ++ [x]).length = L.length + 1 by simp, encI_succ]
  congr 1
  · unfold encI
    apply List.map_congr_left
    intro j hj
    have hj' : j < L.length := List.mem_range.1 hj
    unfold ttL
    simp [List.getD_eq_getElem?_getD, List.getElem?_append_left hj']
  · unfold ttL
    simp [List.getD_eq_getElem?_getD]
theorem ttL_rg {L : List Int} (h : ∀ x ∈ L, -9223372036854775808 ≤ x ∧ x ≤ 9223372036854775807) (i : Nat) : -9223372036854775808 ≤ ttL L i ∧ ttL L i ≤ 9223372036854775807 := by
  unfold ttL
  rw [List.getD_eq_getElem?_getD]
  cases hx : L[i]? with
  | none => simp
  | some x => exact h x (List.mem_of_getElem? hx)
/-- a Reader and the row of times. -/
structure TR (N : Nat) (w2 : World) (a : Option Addr) (n cap : Nat) (bs : Nat → Nat) (B : Nat) (s : PS) (L : List Int) (l : Value) (wr : World) : Prop where
  rb : RB N w2 a n cap bs s wr
  own : wr.ownsRow B 2 1 l L.length (encI (ttL L) L.length)
  hN : N < B
  hr : n = 0 ∨ ∀ b off, a = some ⟨b, off, none⟩ → b < B
  hB : B ≤ wr.heap.size
section
variable {N : Nat} {w2 : World} {a : Option Addr} {n cap : Nat} {bs : Nat → Nat} {B : Nat} {s : PS} {L : List Int} {l : Value} {wr : World}
theorem TR.rd (h : TR N w2 a n cap bs B s L l wr) {s' : PS} {w' : World} (hR : RB N w2 a n cap bs s' w') (hF : RF N wr w') : TR N w2 a n cap bs B s' L l w' :=
  ⟨hR, own_RF h.own hF h.hN, h.hN, h.hr, Nat.le_trans h.hB hF.size⟩
theorem TR.app (h : TR N w2 a n cap bs B s L l wr) (hL : L.length < 1048576) (x : Int) : ∃ g c w', (Builtin.append_ #[53, 53] 53 #[l, .slice (some ⟨wr.heap.size, 0, none⟩) 1 1]).run Tryd.prog (wr.alloc (.cells #[.int .i64 x] 2)) = .ok (.slice (some ⟨g, 0, none⟩) (L.length + 1) c) w' ∧ TR N w2 a n cap bs B s (L ++ [x]) (.slice (some ⟨g, 0, none⟩) (L.length + 1) c) w' := by
  obtain ⟨g, c, w', hr, ho, _, _, hB⟩ := app1I wr B l L.length _ h.own h.hB x (by omega)
  exact ⟨g, c, w', hr, h.rb.above hB h.hN h.hr, by rw [encI_L]; simpa using ho, h.hN, h.hr, Nat.le_trans h.hB hB.size⟩
theorem TR.start {w1 w2 : World} (hR : RB N w1 a n cap bs s w2) : TR N w1 a n cap bs w2.heap.size s [] (.slice none 0 0) w2 := by
  have hrow : n = 0 ∨ ∀ b off, a = some ⟨b, off, none⟩ → b < w2.heap.size := by
    rcases hR.1.row with h0 | ⟨b, off, e, hb, _⟩
    · exact Or.inl h0
    · exact Or.inr fun b' off' e' => by rw [e] at e'; injection e' with e'; injection e' with e1; omega
  exact ⟨hR, World.ownsRow_nil _ _ _ _, hR.1.sz, hrow, Nat.le_refl _⟩
end
/-- what is read of bytes as times. -/
def lastT (bs : Nat → Nat) (n : Nat) : UT := readT bs n (uintT bs n 1048576 ⟨0, 0, none⟩).1 (uintT bs n 1048576 ⟨0, 0, none⟩).2
def UnTE (bs : Nat → Nat) (n : Nat) (err : Option (Int × Int) → Value) (bad ok : Value) (e : Ending) (w' : World) : Prop :=
  (∃ x, doneF bs n (lastT bs n).s.p (lastT bs n).s.r (lastT bs n).s.fv = some x ∧ e = .returned (.tuple #[.slice none 0 0, err (some x)])) ∨
  (doneF bs n (lastT bs n).s.p (lastT bs n).s.r (lastT bs n).s.fv = none ∧ (((Rises (ttL (lastT bs n).L) (lastT bs n).L.length ∧ (timesS (ttL (lastT bs n).L) (lastT bs n).L.length (lastT bs n).L.length).1 = bytesL bs n) ∧ ∃ a c, e = .returned (.tuple #[.slice a (lastT bs n).L.length c, ok]) ∧ IsIn w' a (lastT bs n).L.length (ttL (lastT bs n).L)) ∨
   (¬ (Rises (ttL (lastT bs n).L) (lastT bs n).L.length ∧ (timesS (ttL (lastT bs n).L) (lastT bs n).L.length (lastT bs n).L.length).1 = bytesL bs n) ∧ e = .returned (.tuple #[.slice none 0 0, bad]))))
section
variable {bs : Nat → Nat} {n : Nat} {err : Option (Int × Int) → Value} {bad ok : Value} {e : Ending} {w' : World} {u : UT} {x : Int × Int}
theorem UnTE.fault (hl : lastT bs n = u) (hd : doneF bs n u.s.p u.s.r u.s.fv = some x) (he : e = .returned (.tuple #[.slice none 0 0, err (some x)])) : UnTE bs n err bad ok e w' :=
  Or.inl ⟨x, by rw [hl]; exact hd, he⟩
theorem UnTE.good {a : Option Addr} {c : Nat} (hl : lastT bs n = u) (hd : doneF bs n u.s.p u.s.r u.s.fv = none) (hq : Rises (ttL u.L) u.L.length ∧ (timesS (ttL u.L) u.L.length u.L.length).1 = bytesL bs n) (he : e = .returned (.tuple #[.slice a u.L.length c, ok])) (hv : IsIn w' a u.L.length (ttL u.L)) : UnTE bs n err bad ok e w' :=
  Or.inr ⟨by rw [hl]; exact hd, Or.inl ⟨by rw [hl]; exact hq, a, c, by rw [hl]; exact he, by rw [hl]; exact hv⟩⟩
theorem UnTE.worse (hl : lastT bs n = u) (hd : doneF bs n u.s.p u.s.r u.s.fv = none) (hq : ¬ (Rises (ttL u.L) u.L.length ∧ (timesS (ttL u.L) u.L.length u.L.length).1 = bytesL bs n)) (he : e = .returned (.tuple #[.slice none 0 0, bad])) : UnTE bs n err bad ok e w' :=
  Or.inr ⟨by rw [hl]; exact hd, Or.inr ⟨by rw [hl]; exact hq, he⟩⟩
end
theorem timesS_pos (z : Nat → Int) (n : Nat) : ∀ k, 0 < (timesS z n k).1.length := by
  have bpos : ∀ x c s, 0 < s.1.length → 0 < (bitsOn x c s).1.length := fun x c s h => by
    have := bitsOn_ge x c s
    omega
  have upos : ∀ x s, 0 < (uOn x s).1.length := fun x s => by have := uB_pos x; simp [uOn]; omega
  intro k
  induction k with
  | zero => exact upos _ _
  | succ k ih =>
    simp only [timesS, timeOn]
    split
    · exact upos _ _
    · split
      · exact upos _ _
      · exact bpos _ _ _ (bpos _ _ _ ih)
set_option maxRecDepth 100000 in
set_option maxHeartbeats 4000000 in
theorem aloneT_any (a : Option Addr) (m c : Nat) (tt : Nat → Int) (ba : Option Addr) (n bc : Nat) (bs : Nat → Nat) (w : World) (h : IsIn w a m tt) (hm : m ≤ 1048576) (hct : CT w) (hg : 0 < w.heap.size) (hb : BytesIn w ba n bs) (hn : 0 < n) :
    Calls Tryd.prog 33 #[.slice a m c, .slice ba n bc, .func (.func 4) #[] #[]] w fun e w' => ((Rises tt m ∧ (timesS tt m m).1 = bytesL bs n) ∧ e = .returned (.tuple #[.slice a m c, .nilIface]) ∨ ¬ (Rises tt m ∧ (timesS tt m m).1 = bytesL bs n) ∧ e = .returned (.tuple #[.slice none 0 0, .iface 77 (.int .i64 90)])) ∧ Below w.heap.size w w' := by
  have hVa : Hid _ := times_any a m c tt w h hct hg
  have hF : Hid _ := faultNew 90 rfl
  clear h hct
  go_enter Tryd.func33, Tryd.ntmps33
  go_wp2_with fail
  refine Calls.mono hVa.out ?_
  rintro e w2 ⟨hE, hB2⟩
  clear hVa
  rcases hE with ⟨hx, _⟩ | ⟨_, hx, rfl⟩ | ⟨_, hr, ga, gc, rfl, hin⟩
  · omega
  · have hcH : Hid (¬ (Rises tt m ∧ (timesS tt m m).1 = bytesL bs n)) := (fun h => hx h.1 : ¬ (Rises tt m ∧ (timesS tt m m).1 = bytesL bs n))
    clear hx
    go_wp2_with fail
    refine Calls.mono (hF.out _) ?_
    rintro e w3 ⟨rfl, hw⟩
    have hw' := hw.symm
    subst hw'
    clear hw
    go_wp2_with fail
    refine bodyPost_ret (v := .tuple #[.slice none 0 0, .iface 77 (.int .i64 90)]) ?_ rfl ?_
    · simp [results, Tryd.results33, go_sem]
    · exact ⟨Or.inr ⟨hcH.out, rfl⟩, hB2⟩
  · have hpos : 0 < (timesS tt m m).1.length := timesS_pos tt m m
    have hq : Hid _ := equal_in (c1 := gc) (c2 := bc) hin (hb.below hB2) hpos hn
    have hrH : Hid (Rises tt m) := hr
    obtain ⟨V, hV'⟩ : ∃ V, V = (timesS tt m m).1 := ⟨_, rfl⟩
    rw [← hV'] at hq hpos hin ⊢
    have e1 : bytesL (natsOf V) V.length = V := bytesL_nats V
    have hVH : Hid (V = (timesS tt m m).1) := hV'
    clear hV' hin hb hr
    go_wp2_with fail
    refine Calls.mono hq.out ?_
    rintro e w3 ⟨rfl, hw⟩
    have hw' := hw.symm
    subst hw'
    clear hw hq
    rw [e1]
    by_cases hc : V = bytesL bs n
    · rw [decide_eq_true hc]
      have hcH : Hid (V = bytesL bs n) := hc
      clear hc
      go_wp2_with fail
      refine bodyPost_ret (v := .tuple #[.slice a m c, .nilIface]) ?_ rfl ?_
      · simp [results, Tryd.results33, go_sem]
      · exact ⟨Or.inl ⟨⟨hrH.out, by rw [← hVH.out]; exact hcH.out⟩, rfl⟩, hB2⟩
    · rw [decide_eq_false hc]
      have hcH : Hid (V ≠ bytesL bs n) := hc
      clear hc
      go_wp2_with fail
      refine Calls.mono (hF.out _) ?_
      rintro e w3 ⟨rfl, hw⟩
      have hw' := hw.symm
      subst hw'
      clear hw
      go_wp2_with fail
      refine bodyPost_ret (v := .tuple #[.slice none 0 0, .iface 77 (.int .i64 90)]) ?_ rfl ?_
      · simp [results, Tryd.results33, go_sem]
      · exact ⟨Or.inr ⟨fun h => hcH.out (by rw [hVH.out]; exact h.2), rfl⟩, hB2⟩
end Go.Proofs.YtfijagdbdbbbpaaDoor

namespace Go.Proofs.YtfijagdbdbbbpaaDoor
open Go.RowKit
set_option linter.unusedVariables false
set_option linter.unusedSimpArgs false
theorem lastT_empty (bs : Nat → Nat) (n : Nat) (h : n = 0) : doneF bs n (lastT bs n).s.p (lastT bs n).s.r (lastT bs n).s.fv ≠ none := by
  obtain ⟨q, hq⟩ := numS_empty bs n h
  have hT : uintT bs n 1048576 ⟨0, 0, none⟩ = (⟨0, 0, some q⟩, 0) := by
    unfold uintT
    rw [if_neg (by simp [startF, ragb])]
    simp only [hq]
  have e : lastT bs n = ⟨⟨0, 0, some q⟩, 0, 0, []⟩ := by unfold lastT; rw [hT]; rfl
  rw [e]
  simp [doneF, startF]
theorem rb_int {N : Nat} {w1 : World} {a : Option Addr} {n cap : Nat} {bs : Nat → Nat} {s : PS} {w : World} (h : RB N w1 a n cap bs s w) : Calls Tryd.prog 29 #[.pointer (some ⟨N, 0, none⟩)] w fun e w' => e = .returned (.int .i64 (unfoldN (uintT bs n 18446744073709551615 s).2)) ∧ RB N w1 a n cap bs (uintT bs n 18446744073709551615 s).1 w' ∧ RF N w w' := by
  refine (rInt_gen h.1).mono ?_
  rintro e w' ⟨⟨p', r', fv', v, hG, rfl, hR⟩, hF⟩
  have hT := hG.toT
  have hr := uintT_r bs n 18446744073709551615 s h.2
  rw [show (⟨s.p, s.r, s.fv⟩ : PS) = s from rfl] at hT
  rw [hT] at hr ⊢
  exact ⟨rfl, ⟨hR, hr⟩, hF⟩
set_option maxRecDepth 100000 in
set_option maxHeartbeats 8000000 in
theorem unTimes_any (ba : Option Addr) (bc : Nat) (B : List Nat) (w : World) (h : BytesIn w ba B.length (natsOf B)) (hc : ba = none → bc = 0) (hct : CT w) (hg : 0 < w.heap.size) : Calls Tryd.prog 7 #[.slice ba B.length bc] w fun e w' => UnTE (natsOf B) B.length fvV (.iface 77 (.int .i64 90)) .nilIface e w' ∧ Below w.heap.size w w' := by
  have hN : Hid _ := newR_in ba bc B w h hc
  have hbH : Hid (BytesIn w ba B.length (natsOf B)) := h
  have hctH : Hid (CT w) := hct
  clear h hct
  go_enter Tryd.func7, Tryd.ntmps7
  go_wp2_with fail
  refine Calls.mono hN.out ?_
  rintro e w2 ⟨N, a, cap, rfl, hNw, hR, hB2⟩
  have hgN : 0 < N := by omega
  have hct2 : Hid (CT w2) := CT_below hctH.out hB2 hg
  have hst := TR.start (s := ⟨0, 0, none⟩) (⟨hR, by show 0 < 8; omega⟩ : RB N w2 a B.length cap (natsOf B) ⟨0, 0, none⟩ w2)
  have hcnt0 := count_any hst.rb
  obtain ⟨cn, s0, hcs, hcn, hcnt⟩ : ∃ cn s0, uintT (natsOf B) B.length 1048576 ⟨0, 0, none⟩ = (s0, cn) ∧ cn ≤ 1048576 ∧ Hid (Calls Tryd.prog 27 #[.pointer (some ⟨N, 0, none⟩)] w2 fun e w' => e = .returned (.int .i64 (cn : Int)) ∧ RB N w2 a B.length cap (natsOf B) s0 w' ∧ RF N w2 w') :=
    ⟨(uintT (natsOf B) B.length 1048576 ⟨0, 0, none⟩).2, (uintT (natsOf B) B.length 1048576 ⟨0, 0, none⟩).1, rfl, uintT_le _ _ _ _, hcnt0⟩
  have hlast : Hid (lastT (natsOf B) B.length = readT (natsOf B) B.length s0 cn) := (by unfold lastT; rw [hcs] : lastT (natsOf B) B.length = readT (natsOf B) B.length s0 cn)
  have hstH : Hid _ := hst
  clear hN hcnt0 hst hR hcs
  go_wp2_with fail
  refine Calls.mono hcnt.out ?_
  rintro e w3 ⟨rfl, hR3, hF3⟩
  have hV3 : Hid _ := hstH.out.rd hR3 hF3
  clear hcnt hstH hR3 hF3
  go_wp2_with fail
  go_loopw [5, 6, 7, 8] (fun l st t i wr => ∃ k : Nat, k ≤ cn ∧ i = .int .i64 (k : Int) ∧ st = .int .u64 ((readT (natsOf B) B.length s0 k).gap : Int) ∧ t = .int .u64 ((readT (natsOf B) B.length s0 k).la % 18446744073709551616) ∧ (readT (natsOf B) B.length s0 k).L.length = k ∧ TR N w2 a B.length cap (natsOf B) w2.heap.size (readT (natsOf B) B.length s0 k).s (readT (natsOf B) B.length s0 k).L l wr) (fun _ _ _ i _ => cn - (intOf i).toNat)
  case atStart => exact ⟨0, by omega, rfl, rfl, rfl, rfl, hV3.out⟩
  case round =>
    clear hV3
    obtain ⟨k, hk, rfl, rfl, rfl, hLk, hV⟩ := hrel
    obtain ⟨u, hu⟩ : ∃ u, u = readT (natsOf B) B.length s0 k := ⟨_, rfl⟩
    rw [← hu] at hV hLk ⊢
    by_cases hkn : k < cn
    · have hkI : (k : Int) < (cn : Int) := by omega
      have hfa : Hid _ := fault_any hV.rb.1
      by_cases hfv : u.s.fv = none
      · rw [hfv] at hfa
        have hnext : Hid (readT (natsOf B) B.length s0 (k + 1) = timeT (natsOf B) B.length k u) := (by
          show (if (readT (natsOf B) B.length s0 k).s.fv.isSome then _ else _) = _
          rw [← hu, hfv]; rfl : readT (natsOf B) B.length s0 (k + 1) = timeT (natsOf B) B.length k u)
        have hVH : Hid _ := hV
        have hLkH : Hid (u.L.length = k) := hLk
        have hok := readT_ok (natsOf B) B.length s0 k
        rw [← hu] at hok
        obtain ⟨hgp, hla, _⟩ := hok
        clear hV hu
        go_wp2_with fail
        refine Calls.mono hfa.out ?_
        rintro e w4 ⟨rfl, hw⟩
        have hw' := hw.symm
        subst hw'
        clear hw hfa
        simp only [fvV]
        have hk3 : k = 0 ∨ k = 1 ∨ 2 ≤ k := by omega
        rcases hk3 with rfl | rfl | hk2
        · simp only [show ((0 : Nat) : Int) = 0 from rfl]
          obtain ⟨v, s1, e1, hv, hC⟩ : ∃ v s1, uintT (natsOf B) B.length 18446744073709551615 u.s = (s1, v) ∧ v < 18446744073709551616 ∧ Hid (Calls Tryd.prog 29 #[.pointer (some ⟨N, 0, none⟩)] wr fun e w' => e = .returned (.int .i64 (unfoldN v)) ∧ RB N w2 a B.length cap (natsOf B) s1 w' ∧ RF N wr w') := ⟨(uintT (natsOf B) B.length 18446744073709551615 u.s).2, (uintT (natsOf B) B.length 18446744073709551615 u.s).1, rfl, uintT_64 _ _ _, rb_int hVH.out.rb⟩
          have hd := unfoldN_rg v hv
          obtain ⟨d, hdd⟩ : ∃ d, d = unfoldN v := ⟨_, rfl⟩
          have hstep : Hid (timeT (natsOf B) B.length 0 u = ⟨s1, u.gap, d, u.L ++ [d]⟩) := (by unfold timeT; rw [if_pos rfl, e1, hdd] : timeT (natsOf B) B.length 0 u = ⟨s1, u.gap, d, u.L ++ [d]⟩)
          rw [← hdd] at hd
          have hddH : Hid _ := hdd
          clear e1 hdd
          go_wp2_with fail
          refine Calls.mono hC.out ?_
          rintro e w5 ⟨rfl, hR5, hF5⟩
          rw [← hddH.out]
          have hV5 := hVH.out.rd hR5 hF5
          obtain ⟨g, c, w9, hr, hV9⟩ := hV5.app (by omega) d
          rw [hLk] at hr hV9
          have hrH : Hid _ := hr
          have hV9H : Hid _ := hV9
          have k1 : IntKind.u64.wrap d = d % 18446744073709551616 := IntKind.wrap_u64 d
          have hd2 : -9223372036854775808 ≤ d ∧ d ≤ 9223372036854775807 := by rw [hddH.out]; exact unfoldN_rg v hv
          have k2 : wrap64 (d % 18446744073709551616) = d := by unfold wrap64; omega
          clear hC hVH hR5 hF5 hV5 hr hV9 hddH
          go_wp2_with (at_builtin; (refine wpList_append_run2 (by rfl) _ _ _ _ (by rfl) _ _ _ _ (by rfl) (by rfl) hrH.out ?_; clear hrH))
          go_roundw
          case rel =>
            refine ⟨0 + 1, by omega, by first | rfl | go_num, ?_, ?_, ?_, ?_⟩
            · rw [hnext.out, hstep.out]
            · rw [hnext.out, hstep.out]
            · rw [hnext.out, hstep.out]; show (u.L ++ [_]).length = _; rw [List.length_append, hLkH.out]; rfl
            · rw [hnext.out, hstep.out]; exact hV9H.out
          case measure => simp [intOf]; omega
        · simp only [show ((1 : Nat) : Int) = 1 from rfl]
          obtain ⟨v, s1, e1, hv, hC⟩ := rb_uintL hVH.out.rb 18446744073709551615
          have hstep : Hid (timeT (natsOf B) B.length 1 u = ⟨s1, v, wrap64 (u.la + (v : Int)), u.L ++ [wrap64 (u.la + (v : Int))]⟩) := (by unfold timeT; rw [if_neg (by omega), if_pos rfl, e1] : timeT (natsOf B) B.length 1 u = ⟨s1, v, wrap64 (u.la + (v : Int)), u.L ++ [wrap64 (u.la + (v : Int))]⟩)
          clear e1
          simp only [show ((18446744073709551615 : Nat) : Int) = 18446744073709551615 from rfl] at hC
          go_wp2_with fail
          refine Calls.mono hC.out ?_
          rintro e w5 ⟨rfl, hR5, hF5⟩
          have hV5 := hVH.out.rd hR5 hF5
          obtain ⟨g, c, w9, hr, hV9⟩ := hV5.app (by omega) (wrap64 (u.la + (v : Int)))
          rw [hLk] at hr hV9
          have hrH : Hid _ := hr
          have hV9H : Hid _ := hV9
          have k1 : IntKind.u64.wrap (u.la % 18446744073709551616 + (v : Int)) = wrap64 (u.la + (v : Int)) % 18446744073709551616 := by rw [IntKind.wrap_u64]; unfold wrap64; omega
          have k2 : wrap64 (wrap64 (u.la + (v : Int)) % 18446744073709551616) = wrap64 (u.la + (v : Int)) := by unfold wrap64; omega
          clear hC hVH hR5 hF5 hV5 hr hV9
          go_wp2_with (at_builtin; (refine wpList_append_run2 (by rfl) _ _ _ _ (by rfl) _ _ _ _ (by rfl) (by rfl) hrH.out ?_; clear hrH))
          go_roundw
          case rel =>
            refine ⟨1 + 1, by omega, by first | rfl | go_num, ?_, ?_, ?_, ?_⟩
            · rw [hnext.out, hstep.out]
            · rw [hnext.out, hstep.out]
            · rw [hnext.out, hstep.out]; show (u.L ++ [_]).length = _; rw [List.length_append, hLkH.out]; rfl
            · rw [hnext.out, hstep.out]; exact hV9H.out
          case measure => simp [intOf]; omega
        · have hn0 : ¬ (k : Int) = 0 := by omega
          have hn1 : ¬ (k : Int) = 1 := by omega
          obtain ⟨d, s1, e1, hC⟩ : ∃ d s1, turnT (natsOf B) B.length u.s = (s1, d) ∧ Hid (Calls Tryd.prog 31 #[.pointer (some ⟨N, 0, none⟩)] wr fun e w' => e = .returned (.int .i64 d) ∧ RB N w2 a B.length cap (natsOf B) s1 w' ∧ RF N wr w') := ⟨(turnT (natsOf B) B.length u.s).2, (turnT (natsOf B) B.length u.s).1, rfl, turn_any hVH.out.rb (CT_below hct2.out hVH.out.rb.1.b hgN) hgN⟩
          obtain ⟨G, hG⟩ : ∃ G : Nat, G = (((u.gap : Int) + d) % 18446744073709551616).toNat := ⟨_, rfl⟩
          have hGI : (G : Int) = ((u.gap : Int) + d) % 18446744073709551616 := by omega
          have hstep : Hid (timeT (natsOf B) B.length k u = ⟨s1, G, wrap64 (u.la + (G : Int)), u.L ++ [wrap64 (u.la + (G : Int))]⟩) := (by unfold timeT; rw [if_neg (by omega), if_neg (by omega), e1, hG] : timeT (natsOf B) B.length k u = ⟨s1, G, wrap64 (u.la + (G : Int)), u.L ++ [wrap64 (u.la + (G : Int))]⟩)
          clear e1 hG
          have hGH : Hid _ := hGI
          clear hGI
          go_wp2_with fail
          refine Calls.mono hC.out ?_
          rintro e w5 ⟨rfl, hR5, hF5⟩
          have hV5 := hVH.out.rd hR5 hF5
          obtain ⟨g, c, w9, hr, hV9⟩ := hV5.app (by omega) (wrap64 (u.la + (G : Int)))
          rw [hLk] at hr hV9
          have hrH : Hid _ := hr
          have hV9H : Hid _ := hV9
          have k0 : IntKind.u64.wrap ((u.gap : Int) + IntKind.u64.wrap d) = (G : Int) := by rw [IntKind.wrap_u64, IntKind.wrap_u64, hGH.out]; omega
          have k1 : IntKind.u64.wrap (u.la % 18446744073709551616 + (G : Int)) = wrap64 (u.la + (G : Int)) % 18446744073709551616 := by rw [IntKind.wrap_u64]; unfold wrap64; omega
          have k2 : wrap64 (wrap64 (u.la + (G : Int)) % 18446744073709551616) = wrap64 (u.la + (G : Int)) := by unfold wrap64; omega
          clear hC hVH hR5 hF5 hV5 hr hV9
          go_wp2_with (at_builtin; (refine wpList_append_run2 (by rfl) _ _ _ _ (by rfl) _ _ _ _ (by rfl) (by rfl) hrH.out ?_; clear hrH))
          go_roundw
          case rel =>
            refine ⟨k + 1, by omega, by first | rfl | go_num, ?_, ?_, ?_, ?_⟩
            · rw [hnext.out, hstep.out]
            · rw [hnext.out, hstep.out]
            · rw [hnext.out, hstep.out]; show (u.L ++ [_]).length = _; rw [List.length_append, hLkH.out]; rfl
            · rw [hnext.out, hstep.out]; exact hV9H.out
          case measure => simp [intOf]; omega
      · have hsome : u.s.fv.isSome = true := by
          cases hh : u.s.fv with
          | none => exact absurd hh hfv
          | some x => rfl
        obtain ⟨x, hx⟩ := Option.isSome_iff_exists.1 hsome
        have hlast2 : Hid (lastT (natsOf B) B.length = u) := (by
          rw [hlast.out, hu, show cn = k + (cn - k) by omega]; exact readT_stay (by rw [← hu]; exact hsome) _ : lastT (natsOf B) B.length = u)
        have hlenP : u.s.fv = none → u.L.length = cn := fun h => absurd h hfv
        rw [hx] at hfa
        obtain ⟨x1, x2⟩ := x
        have hVq : Hid _ := hV
        have huH : Hid _ := hu
        clear hV hu hlenP
        go_wp2_with fail
        refine Calls.mono hfa.out ?_
        rintro e w4 ⟨rfl, hw⟩
        have hw' := hw.symm
        subst hw'
        clear hw hfa
        simp only [fvV]
        go_wp2_with fail
        have hV := hVq.out
        have hu := huH.out
        have hlenP : u.s.fv = none → u.L.length = cn := fun h => absurd h hfv
        clear hVq huH hfv hsome hx
        have hD : Hid _ := done_gen hV.rb.1
        have hVH : Hid _ := hV
        have hok := (readT_ok (natsOf B) B.length s0 k)
        rw [← hu] at hok
        have hlen : Hid (u.s.fv = none → u.L.length = cn) := (hlenP : u.s.fv = none → u.L.length = cn)
        have hokH : Hid _ := hok
        have hLn : u.L.length ≤ 1048576 := by omega
        clear hV hok hu hlenP hLk
        go_wp2_with fail
        refine Calls.mono hD.out ?_
        rintro e w5 ⟨rfl, hR5, hF5⟩
        have hV5 := hVH.out.rd (⟨hR5, hVH.out.rb.2⟩ : RB N w2 a B.length cap (natsOf B) u.s w5) hF5
        have hB05 : Below w.heap.size w w5 := hB2.trans (hV5.rb.1.b.mono hNw)
        clear hD hVH hR5 hF5
        cases hdn : doneF (natsOf B) B.length u.s.p u.s.r u.s.fv with
        | some x =>
          have hdH : Hid _ := hdn
          obtain ⟨x1, x2⟩ := x
          clear hV5 hdn
          simp only [fvV]
          go_wp2_with fail
          simp [bodyPost, results, Tryd.results7, go_sem]
          exact ⟨UnTE.fault hlast2.out hdH.out rfl, hB05⟩
        | none =>
          have hdH : Hid _ := hdn
          obtain ⟨la, lc, hl5, hVI⟩ := own_IsIn hV5.own hLn (ttL_rg hokH.out.L)
          subst hl5
          have hpos : 0 < B.length := by
            rcases Nat.eq_zero_or_pos B.length with h0 | h0
            · exact absurd hdn (by rw [← hlast2.out]; exact lastT_empty _ _ h0)
            · exact h0
          have hAl : Hid _ := aloneT_any la u.L.length lc (ttL u.L) ba B.length bc (natsOf B) w5 hVI hLn (CT_below hctH.out hB05 hg) (by have := hB05.size; omega) (hbH.out.below hB05) hpos
          have hVIH : Hid _ := hVI
          clear hV5 hdn hVI
          simp only [fvV]
          go_wp2_with fail
          refine Calls.mono hAl.out ?_
          rintro e w6 ⟨hE, hB6⟩
          have hB06 := below_then hB05 hB6
          clear hAl
          rcases hE with ⟨hq, rfl⟩ | ⟨hq, rfl⟩
          · have hqH : Hid _ := hq
            clear hq
            go_wp2_with fail
            simp [bodyPost, results, Tryd.results7, go_sem]
            exact ⟨UnTE.good hlast2.out hdH.out hqH.out rfl (IsIn.below hVIH.out hB6 (Nat.le_refl _)), hB06⟩
          · have hqH : Hid _ := hq
            clear hq
            go_wp2_with fail
            simp [bodyPost, results, Tryd.results7, go_sem]
            exact ⟨UnTE.worse hlast2.out hdH.out hqH.out rfl, hB06⟩
    · obtain rfl : k = cn := by omega
      have hkI : ¬ (k : Int) < (k : Int) := by omega
      have hlast2 : Hid (lastT (natsOf B) B.length = u) := (by rw [hlast.out, hu] : lastT (natsOf B) B.length = u)
      have hlenP : u.s.fv = none → u.L.length = k := fun _ => hLk
      have hD : Hid _ := done_gen hV.rb.1
      have hVH : Hid _ := hV
      have hok := (readT_ok (natsOf B) B.length s0 k)
      rw [← hu] at hok
      have hlen : Hid (u.s.fv = none → u.L.length = k) := (hlenP : u.s.fv = none → u.L.length = k)
      have hokH : Hid _ := hok
      have hLn : u.L.length ≤ 1048576 := by omega
      clear hV hok hu hlenP hLk
      go_wp2_with fail
      refine Calls.mono hD.out ?_
      rintro e w5 ⟨rfl, hR5, hF5⟩
      have hV5 := hVH.out.rd (⟨hR5, hVH.out.rb.2⟩ : RB N w2 a B.length cap (natsOf B) u.s w5) hF5
      have hB05 : Below w.heap.size w w5 := hB2.trans (hV5.rb.1.b.mono hNw)
      clear hD hVH hR5 hF5
      cases hdn : doneF (natsOf B) B.length u.s.p u.s.r u.s.fv with
      | some x =>
        have hdH : Hid _ := hdn
        obtain ⟨x1, x2⟩ := x
        clear hV5 hdn
        simp only [fvV]
        go_wp2_with fail
        simp [bodyPost, results, Tryd.results7, go_sem]
        exact ⟨UnTE.fault hlast2.out hdH.out rfl, hB05⟩
      | none =>
        have hdH : Hid _ := hdn
        obtain ⟨la, lc, hl5, hVI⟩ := own_IsIn hV5.own hLn (ttL_rg hokH.out.L)
        subst hl5
        have hpos : 0 < B.length := by
          rcases Nat.eq_zero_or_pos B.length with h0 | h0
          · exact absurd hdn (by rw [← hlast2.out]; exact lastT_empty _ _ h0)
          · exact h0
        have hAl : Hid _ := aloneT_any la u.L.length lc (ttL u.L) ba B.length bc (natsOf B) w5 hVI hLn (CT_below hctH.out hB05 hg) (by have := hB05.size; omega) (hbH.out.below hB05) hpos
        have hVIH : Hid _ := hVI
        clear hV5 hdn hVI
        simp only [fvV]
        go_wp2_with fail
        refine Calls.mono hAl.out ?_
        rintro e w6 ⟨hE, hB6⟩
        have hB06 := below_then hB05 hB6
        clear hAl
        rcases hE with ⟨hq, rfl⟩ | ⟨hq, rfl⟩
        · have hqH : Hid _ := hq
          clear hq
          go_wp2_with fail
          simp [bodyPost, results, Tryd.results7, go_sem]
          exact ⟨UnTE.good hlast2.out hdH.out hqH.out rfl (IsIn.below hVIH.out hB6 (Nat.le_refl _)), hB06⟩
        · have hqH : Hid _ := hq
          clear hq
          go_wp2_with fail
          simp [bodyPost, results, Tryd.results7, go_sem]
          exact ⟨UnTE.worse hlast2.out hdH.out hqH.out rfl, hB06⟩
end Go.Proofs.YtfijagdbdbbbpaaDoor
