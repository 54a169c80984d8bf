
import Derived.Test.YticgapplpfaigaaGreatSrU
namespace Go.Proofs.YticgapplpfaigaaGreat
open Go.RowKit
set_option linter.unusedVariables false
set_option linter.unusedSimpArgs false
theorem i64_info : (Tryz.prog.info? 2).map (fun i => (i.zero, i.bytes, i.size)) = some (some (.int .i64 0), 8, 1) := by kernel_rfl
def encT (l : List Int) : List Value := l.map (fun x => .int .i64 x)
/-- a row of times of one's own. -/
def TO (w : World) (B : Nat) (v : Value) (l : List Int) : Prop := w.ownsRow B 2 1 v l.length (encT l)
theorem app1T (W : World) (B : Nat) (v : Value) (l : List Int) (own : TO W B v l) (hB : B ≤ W.heap.size) (x : Int) (hbig : l.length + 1 ≤ 17592186044416) :
    ∃ v' w', (Builtin.append_ #[72, 72] 72 #[v, .slice (some ⟨W.heap.size, 0, none⟩) 1 1]).run Tryz.prog (W.alloc (.cells #[.int .i64 x] 2)) = .ok v' w' ∧ TO w' B v' (l ++ [x]) ∧ Below B W w' := by
  obtain ⟨i, i1, i0⟩ := Option.map_eq_some_iff.1 i64_info
  have i2 : i.zero = some (.int .i64 0) := congrArg (·.1) i0
  have i3 : i.bytes = 8 := congrArg (·.2.1) i0
  have i4 : i.size = 1 := congrArg (·.2.2) i0
  have hml : maxLen = 9223372036854775807 := by decide
  have hB0 := below_new (Below.refl _ W) (.cells #[.int .i64 x] 2)
  have own' := World.ownsRow.alloc own (.cells #[.int .i64 x] 2)
  have hB' : B ≤ (W.alloc (.cells #[.int .i64 x] 2)).heap.size := by simp; omega
  obtain ⟨v', w', hr, ho', hg, hnil, hwh⟩ := run_append_own_at (P := Tryz.prog) (W.alloc (.cells #[.int .i64 x] 2)) B 72 72 2 i (.int .i64 0) 1 8 Tryz.underlying72 i1 i2 i4 i3 rfl (by omega) _ l.length (encT l) own' ⟨W.heap.size, 0, none⟩ 1 1 [.int .i64 x] rfl (cell_one_new W (.int .i64 x) 2) (by intro u hu; simp at hu; subst hu; rfl) (by omega) (by omega) hB'
  refine ⟨v', w', hr, ?_, (hB0.mono hB).trans ((Below.refl _ _).grown hg hB' (fun k e => (own'.lt k e).1))⟩
  unfold TO
  rw [List.length_append, List.length_singleton, encT, List.map_append]
  exact ho'
set_option maxRecDepth 100000 in
set_option maxHeartbeats 4000000 in
/-- the times that steps name. -/
theorem named_any (a : Option Addr) (n cap : Nat) (st : Nat → Stp) (w : World) (h : StIn w a n st) (hL : ∀ i, i < n → LIn w (st i).la (st i).ls ∧ (st i).ls.length * 24 ≤ 140737488355328) : Calls Tryz.prog 17 #[.slice a n cap] w fun e w' => ∃ v tl, e = .returned v ∧ TO w' w.heap.size v tl ∧ Below w.heap.size w w' ∧ tl.length ≤ 2 + 6 * n := by
  have hI : Hid (StIn w a n st) := h
  have hLH : Hid _ := hL
  have hn := h.1
  clear h hL
  go_enter Tryz.func17, Tryz.ntmps17
  have hB0 := below_new (Below.refl _ w) (.cells #[.int .i64 (-9223372036854775808), .int .i64 9223372036854775807] 2)
  have hT0 : TO (w.alloc (.cells #[.int .i64 (-9223372036854775808), .int .i64 9223372036854775807] 2)) w.heap.size (.slice (some ⟨w.heap.size, 0, none⟩) 2 2) [-9223372036854775808, 9223372036854775807] := by
    have := World.ownsRow_lit (base := w.heap.size) (e := 2) (size := 1) w #[.int .i64 (-9223372036854775808), .int .i64 9223372036854775807] 2 (Nat.le_refl _) (by decide) rfl
    exact this
  have hT0H : Hid _ := hT0
  clear hT0
  go_wp2_with fail
  go_loopw [3, 4] (fun o i wr => ∃ (k : Nat) (tl : List Int), k ≤ n ∧ i = .int .i64 (k : Int) ∧ Hid (TO wr w.heap.size o tl ∧ tl.length ≤ 2 + 6 * k) ∧ Below w.heap.size w wr) (fun _ i _ => n - (intOf i).toNat)
  case atStart => exact ⟨0, _, by omega, rfl, ⟨hT0H.out, by simp⟩, hB0⟩
  case round =>
    obtain ⟨k, tl, hk, rfl, hT, hB⟩ := hrel
    obtain ⟨v, hv⟩ : ∃ v, v = u3 := ⟨_, rfl⟩
    subst hv
    clear hT0H hB0
    by_cases hkn : k < n
    · have hkI : (k : Int) < (n : Int) := by omega
      have k0 : (0 : Int) ≤ (k : Int) := by omega
      obtain ⟨b, off, rfl, hb, c0, c1, c2, c3, c4, c5⟩ := StIn.cells hI.out hB hkn
      obtain ⟨v1, w1, hr1, ho1, hb1⟩ := app1T wr w.heap.size v tl hT.out.1 hB.size (st k).t (by have := hT.out.2; omega)
      have hr1H : Hid _ := hr1
      have ho1H : Hid (TO w1 w.heap.size v1 (tl ++ [(st k).t])) := ho1
      have hB1 := hB.trans hb1
      clear hr1 ho1 hb1 c3 c4 c5
      have e0 := (StIn.cells hI.out hB1 hkn)
      obtain ⟨b1, off1, e1, _, d0, d1, d2, _⟩ := e0
      cases e1
      obtain ⟨nl, hnl⟩ : ∃ nl, nl = (st k).ls.length := ⟨_, rfl⟩
      have hnlH : Hid (nl = (st k).ls.length) := hnl
      clear hnl
      by_cases q2 : (st k).k = 2
      · rw [q2] at c0 d0
        obtain ⟨v2, w2, hr2, ho2, hb2⟩ := app1T w1 w.heap.size v1 _ ho1H.out hB1.size (st k).u (by have := hT.out.2; simp; omega)
        have hr2H : Hid _ := hr2
        have ho2H : Hid (TO w2 w.heap.size v2 (tl ++ [(st k).t] ++ [(st k).u])) := ho2
        have hB2 := hB1.trans hb2
        clear hr2 ho2 hb2
        go_wp2_with (at_builtin; first | (refine wpList_append_run (by rfl) _ _ _ (by rfl) _ _ _ _ (by rfl) (by rfl) hr1H.out ?_) | (refine wpList_append_run (by rfl) _ _ _ (by rfl) _ _ _ _ (by rfl) (by rfl) hr2H.out ?_))
        go_loopw [3, 5] (fun o q wx => ∃ (tl : List Int) (m : Nat), q = .int .i64 (m : Int) ∧ m ≤ 4 ∧ m ≤ nl ∧ Hid (TO wx w.heap.size o tl ∧ tl.length ≤ 2 + 6 * k + 2 + m) ∧ Below w.heap.size w wx) (fun _ q _ => 4 - (intOf q).toNat)
        case atStart => exact ⟨_, 0, rfl, by omega, by omega, ⟨ho2H.out, by have := hT.out.2; simp; omega⟩, hB2⟩
        case round =>
          obtain ⟨tl5, m, rfl, hm4, hml, hT5, hB5⟩ := hrel
          obtain ⟨v5, hv5⟩ : ∃ v5, v5 = u3 := ⟨_, rfl⟩
          subst hv5
          obtain ⟨b', off', e', _, d0, d1, d2, d3, d4, d5⟩ := StIn.cells hI.out hB5 hkn
          cases e'
          clear d0 d1 d2 d3 d4
          have hlen := (hLH.out k hkn).2
          rw [← hnlH.out] at d5 hlen
          by_cases hmm : m < nl
          · have hmI : (m : Int) < (nl : Int) := by omega
            have hm0 : (0 : Int) ≤ (m : Int) := by omega
            by_cases hm5 : m < 4
            · have hm5I : (m : Int) < 4 := by omega
              obtain ⟨lb, lo, s, hla, hlb, hs, y1, y2, y3⟩ := LIn.at (hLH.out k hkn).1 hB5 (by rw [← hnlH.out]; exact hmm)
              rw [hla] at d5
              obtain ⟨v6, w6, hr6, ho6, hb6⟩ := app1T wr w.heap.size v5 tl5 hT5.out.1 hB5.size s.t (by have := hT5.out.2; omega)
              have hr6H : Hid _ := hr6
              have ho6H : Hid (TO w6 w.heap.size v6 (tl5 ++ [s.t]) ∧ (tl5 ++ [s.t]).length ≤ 2 + 6 * k + 2 + (m + 1)) := ⟨ho6, by have := hT5.out.2; simp; omega⟩
              have hB6 := hB5.trans hb6
              clear hr6 ho6 hb6 hs y2 y3
              go_wp2_with (at_builtin; refine wpList_append_run (by rfl) _ _ _ (by rfl) _ _ _ _ (by rfl) (by rfl) hr6H.out ?_)
              go_roundw
              case rel => exact ⟨_, m + 1, by go_num, by omega, by omega, ho6H.out, hB6⟩
              case measure => simp [intOf]; omega
            · obtain rfl : m = 4 := by omega
              go_wp2_with fail
              go_roundw
              case rel => exact ⟨k + 1, tl5, by omega, by go_num, ⟨hT5.out.1, by have := hT5.out.2; omega⟩, hB5⟩
              case measure => simp [intOf]; omega
          · have hmI : ¬ (m : Int) < (nl : Int) := by omega
            go_wp2_with fail
            go_roundw
            case rel => exact ⟨k + 1, tl5, by omega, by go_num, ⟨hT5.out.1, by have := hT5.out.2; omega⟩, hB5⟩
            case measure => simp [intOf]; omega
      · obtain ⟨kk, hkk⟩ : ∃ kk, kk = (st k).k := ⟨_, rfl⟩
        rw [← hkk] at c0 d0 q2
        clear hkk
        have q2b : (kk == 2) = false := by simpa using q2
        go_wp2_with (at_builtin; refine wpList_append_run (by rfl) _ _ _ (by rfl) _ _ _ _ (by rfl) (by rfl) hr1H.out ?_)
        go_loopw [3, 5] (fun o q wx => ∃ (tl : List Int) (m : Nat), q = .int .i64 (m : Int) ∧ m ≤ 4 ∧ m ≤ nl ∧ Hid (TO wx w.heap.size o tl ∧ tl.length ≤ 2 + 6 * k + 2 + m) ∧ Below w.heap.size w wx) (fun _ q _ => 4 - (intOf q).toNat)
        case atStart => exact ⟨_, 0, rfl, by omega, by omega, ⟨ho1H.out, by have := hT.out.2; simp; omega⟩, hB1⟩
        case round =>
          obtain ⟨tl5, m, rfl, hm4, hml, hT5, hB5⟩ := hrel
          obtain ⟨v5, hv5⟩ : ∃ v5, v5 = u3 := ⟨_, rfl⟩
          subst hv5
          obtain ⟨b', off', e', _, d0, d1, d2, d3, d4, d5⟩ := StIn.cells hI.out hB5 hkn
          cases e'
          clear d0 d1 d2 d3 d4
          have hlen := (hLH.out k hkn).2
          rw [← hnlH.out] at d5 hlen
          by_cases hmm : m < nl
          · have hmI : (m : Int) < (nl : Int) := by omega
            have hm0 : (0 : Int) ≤ (m : Int) := by omega
            by_cases hm5 : m < 4
            · have hm5I : (m : Int) < 4 := by omega
              obtain ⟨lb, lo, s, hla, hlb, hs, y1, y2, y3⟩ := LIn.at (hLH.out k hkn).1 hB5 (by rw [← hnlH.out]; exact hmm)
              rw [hla] at d5
              obtain ⟨v6, w6, hr6, ho6, hb6⟩ := app1T wr w.heap.size v5 tl5 hT5.out.1 hB5.size s.t (by have := hT5.out.2; omega)
              have hr6H : Hid _ := hr6
              have ho6H : Hid (TO w6 w.heap.size v6 (tl5 ++ [s.t]) ∧ (tl5 ++ [s.t]).length ≤ 2 + 6 * k + 2 + (m + 1)) := ⟨ho6, by have := hT5.out.2; simp; omega⟩
              have hB6 := hB5.trans hb6
              clear hr6 ho6 hb6 hs y2 y3
              go_wp2_with (at_builtin; refine wpList_append_run (by rfl) _ _ _ (by rfl) _ _ _ _ (by rfl) (by rfl) hr6H.out ?_)
              go_roundw
              case rel => exact ⟨_, m + 1, by go_num, by omega, by omega, ho6H.out, hB6⟩
              case measure => simp [intOf]; omega
            · obtain rfl : m = 4 := by omega
              go_wp2_with fail
              go_roundw
              case rel => exact ⟨k + 1, tl5, by omega, by go_num, ⟨hT5.out.1, by have := hT5.out.2; omega⟩, hB5⟩
              case measure => simp [intOf]; omega
          · have hmI : ¬ (m : Int) < (nl : Int) := by omega
            go_wp2_with fail
            go_roundw
            case rel => exact ⟨k + 1, tl5, by omega, by go_num, ⟨hT5.out.1, by have := hT5.out.2; omega⟩, hB5⟩
            case measure => simp [intOf]; omega
    · obtain rfl : k = n := by omega
      go_wp2_with fail
      go_ret
      exact ⟨_, tl, rfl, hT.out.1, hB, hT.out.2⟩
end Go.Proofs.YticgapplpfaigaaGreat
