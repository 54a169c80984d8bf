
import Derived.Test.YtpmonckfdnfkdaaSrJ
namespace Go.Proofs.Ytpmonckfdnfkdaa
open Go.RowKit
set_option linter.unusedVariables false
set_option linter.unusedSimpArgs false
theorem lastTo_succ (st : Nat → Stp) {i m : Nat} (h : i < m) : lastTo st i (m + 1) ↔ lastTo st i m ∧ ¬ ((st m).k = 0 ∧ (st m).t = (st i).t) := by
  constructor
  · intro hl
    exact ⟨fun k hk hk2 => hl k hk (by omega), hl m h (by omega)⟩
  · rintro ⟨h1, h2⟩ k hk hk2
    rcases Nat.lt_or_ge k m with h3 | h3
    · exact h1 k hk h3
    · obtain rfl : k = m := by omega
      exact h2
theorem goneTo_succ (st : Nat → Stp) {i m : Nat} (h : i < m) : goneTo st i (m + 1) ↔ goneTo st i m ∨ (st m).rem (st i).t := by
  constructor
  · rintro ⟨k, h1, h2, h3⟩
    rcases Nat.lt_or_ge k m with h4 | h4
    · exact Or.inl ⟨k, h1, h4, h3⟩
    · obtain rfl : k = m := by omega
      exact Or.inr h3
  · rintro (⟨k, h1, h2, h3⟩ | h3)
    · exact ⟨k, h1, by omega, h3⟩
    · exact ⟨m, h, by omega, h3⟩
/-- the flags of the law while it looks at what is behind a put. -/
def FL (st : Nat → Stp) (i m : Nat) (lb gb : Bool) : Prop := (lb = true ↔ lastTo st i m) ∧ (gb = true ↔ goneTo st i m)
theorem FL.start (st : Nat → Stp) (i : Nat) : FL st i (i + 1) true false := ⟨⟨fun _ k hk hk2 => by omega, fun _ => rfl⟩, ⟨fun h => by simp at h, fun ⟨k, h1, h2, _⟩ => by omega⟩⟩
theorem FL.next {st : Nat → Stp} {i m : Nat} {lb gb : Bool} (h : FL st i m lb gb) (hm : i < m) (lb' gb' : Bool) (h1 : (lb' = true ↔ lb = true ∧ ¬ ((st m).k = 0 ∧ (st m).t = (st i).t))) (h2 : gb' = true ↔ (gb = true ∨ (st m).rem (st i).t)) : FL st i (m + 1) lb' gb' := by
  refine ⟨?_, ?_⟩
  · rw [lastTo_succ st hm, h1, h.1]
  · rw [goneTo_succ st hm, h2, h.2]
set_option maxRecDepth 100000 in
set_option maxHeartbeats 4000000 in
theorem seriesLast_walk (a : Option Addr) (n cap : Nat) (st : Nat → Stp) (w : World) (h : StIn w a n st) : Calls Try.prog 4 #[.slice a n cap] w fun e w' => e = .returned (.bool true) ∧ Below w.heap.size w w' := by
  have hl : Hid _ := live_any w
  have hN : Hid (∀ W, Calls Try.prog 10 #[] W fun e w' => e = .returned (.pointer (some ⟨W.heap.size, 0, none⟩)) ∧ SS W.heap.size W.heap.size (.slice none 0 0) [] w' ∧ Below W.heap.size W w') := new_any
  have hI : Hid (StIn w a n st) := h
  have hn := h.1
  clear h
  go_enter Try.func4, Try.ntmps4
  go_wp2_with fail
  refine Calls.mono hl.out ?_
  rintro e w1 ⟨rfl, hB1⟩
  go_wp2_with fail
  refine Calls.mono (hN.out _) ?_
  rintro e w2 ⟨rfl, hS2, hB2⟩
  have hS2H : Hid _ := hS2
  clear hl hN hS2
  generalize hNN : w1.heap.size = N at *
  have hwN : w.heap.size ≤ N := by rw [← hNN]; exact hB1.size
  have hP : Hid (∀ (v : Value) (l : List Smp) (s : Stp) (W : World), SS N N v l W → s.ok → l.length < 2199023255552 → Calls Try.prog 11 #[.pointer (some ⟨N, 0, none⟩), .int .i64 s.t, .agg #[.int .u8 (s.vk : Int), .int .i64 s.vx]] W fun e w' => ∃ x y z, e = .returned (.tuple #[.agg #[.int .u8 x, .int .i64 y], .bool z]) ∧ ∃ v', SS N N v' (putL l s.smp) w' ∧ Below N W w') := fun v l s W hW hs hl => Calls.mono (put_any N N v l W hW s.smp ⟨hs.1, hs.2.2⟩ hl) (by
    rintro e w' ⟨rfl, v', h1, h2⟩
    exact ⟨_, _, _, rfl, v', h1, h2.below hW⟩)
  have hC : Hid (∀ (v : Value) (l : List Smp) (t : Int) (W : World), SS N N v l W → Calls Try.prog 12 #[.pointer (some ⟨N, 0, none⟩), .int .i64 t] W fun e w' => ∃ x y z, e = .returned (.tuple #[.agg #[.int .u8 x, .int .i64 y], .bool z]) ∧ ∃ v', SS N N v' (cutL l t) w' ∧ Below N W w') := fun v l t W hW => Calls.mono (cut_any N N v l W hW t) (by
    rintro e w' ⟨rfl, v', h1, h2⟩
    exact ⟨_, _, _, rfl, v', h1, h2.below hW⟩)
  have hD : Hid (∀ (v : Value) (l : List Smp) (f t : Int) (W : World), SS N N v l W → Calls Try.prog 13 #[.pointer (some ⟨N, 0, none⟩), .int .i64 f, .int .i64 t] W fun e w' => ∃ r, e = .returned r ∧ ∃ v', SS N N v' (delL l f t) w' ∧ Below N W w') := fun v l f t W hW => Calls.mono (delete_any N N v l W hW f t) (by
    rintro e w' ⟨r, v', rfl, h0, h1, h2, h3⟩
    exact ⟨_, rfl, v', h1, h2.below hW⟩)
  go_wp2_with fail
  go_loopw [4] (fun i wr => ∃ k : Nat, k ≤ n ∧ i = .int .i64 (k : Int) ∧ Below w.heap.size w wr ∧ Hid (∃ v, SS N N v (runS st k) wr)) (fun i _ => n - (intOf i).toNat)
  case atStart => exact ⟨0, by omega, rfl, hB1.trans (hB2.mono hwN), ⟨_, hS2H.out⟩⟩
  case round =>
    obtain ⟨k, hk, rfl, hB, hSr⟩ := hrel
    rcases Nat.lt_or_ge k n with hkn | hkn
    · have hknI : (k : Int) < (n : Int) := by omega
      have hk0 : (0 : Int) ≤ (k : Int) := by omega
      obtain ⟨b, off, rfl, hb, c0, c1, c2, c3, c4, c5⟩ := StIn.cells hI.out hB hkn
      have hok : Hid _ := hI.out.2.1 k hkn
      obtain ⟨v, hS⟩ := hSr.out
      have hSH : Hid (SS N N v (runS st k) wr) := hS
      have hlen := runS_len st k
      have hrun : Hid (runS st (k + 1) = (if (st k).k = 0 then putL (runS st k) (st k).smp else if (st k).k = 1 then cutL (runS st k) (st k).t else if (st k).k = 2 then delL (runS st k) (st k).t (st k).u else runS st k)) := rfl
      generalize hst : st k = s at *
      have hstH : Hid (st k = s) := hst
      clear hst hS c5
      by_cases q0 : s.k = 0
      · rw [q0] at c0
        have hcall : Hid (Calls Try.prog 11 #[.pointer (some ⟨N, 0, none⟩), .int .i64 s.t, .agg #[.int .u8 (s.vk : Int), .int .i64 s.vx]] wr.drew fun e w' => (∃ r, e = .returned r) ∧ (w'.cell? ⟨b, off + k * 6 + 1, none⟩ = some (.int .i64 s.t) ∧ w'.cell? ⟨b, off + k * 6 + 3, none⟩ = some (.int .u8 (s.vk : Int)) ∧ w'.cell? ⟨b, off + k * 6 + 4, none⟩ = some (.int .i64 s.vx)) ∧ ∃ v', SS N N v' (putL (runS st k) s.smp) w' ∧ Below N wr w') := Calls.mono (hP.out v (runS st k) s wr.drew ((SS.below hSH.out ((Below.refl _ _).drew))) hok.out (by omega)) (by
          rintro e w' ⟨x, y, z, rfl, v', h1, h2⟩
          have hB'' : Below N wr w' := ((Below.refl _ _).drew).trans h2
          refine ⟨⟨_, rfl⟩, ⟨(hB''.cell (p := ⟨b, off + k * 6 + 1, none⟩) (Nat.lt_of_lt_of_le hb hwN)).trans c1, (hB''.cell (p := ⟨b, off + k * 6 + 3, none⟩) (Nat.lt_of_lt_of_le hb hwN)).trans c3, (hB''.cell (p := ⟨b, off + k * 6 + 4, none⟩) (Nat.lt_of_lt_of_le hb hwN)).trans c4⟩, v', h1, hB''⟩)
        have S5 : wr.cell? ⟨b, off + k * 6 + 1, none⟩ = some (.int .i64 s.t) ∧ wr.cell? ⟨b, off + k * 6 + 3, none⟩ = some (.int .u8 (s.vk : Int)) ∧ wr.cell? ⟨b, off + k * 6 + 4, none⟩ = some (.int .i64 s.vx) := ⟨c1, c3, c4⟩
        clear hP hC hD hSr hok
        go_wp2_with fail
        go_region_held3 (fun w' => w'.cell? ⟨b, off + k * 6 + 1, none⟩ = some (.int .i64 s.t) ∧ w'.cell? ⟨b, off + k * 6 + 3, none⟩ = some (.int .u8 (s.vk : Int)) ∧ w'.cell? ⟨b, off + k * 6 + 4, none⟩ = some (.int .i64 s.vx)) (first | assumption)
          (first
            | (go_at_call 11; (with_reducible refine Calls.mono hcall.out ?_); rintro e w' ⟨⟨r, rfl⟩, hSk, v', hS', hB'⟩))
        have hS'H : Hid (SS N N v' (putL (runS st k) s.smp) w') := hS'
        clear hcall hS'
        go_wp2_with fail
        go_round
        case measure => simp only [intOf]; omega
        case rel =>
          refine ⟨k + 1, by omega, by simp, hB.trans ((hB').mono hwN), ⟨v', ?_⟩⟩
          have hr := hrun.out
          rw [if_pos q0] at hr
          rw [hr]; exact hS'H.out
      · by_cases q1 : s.k = 1
        · rw [q1] at c0
          have hcall : Hid (Calls Try.prog 12 #[.pointer (some ⟨N, 0, none⟩), .int .i64 s.t] wr fun e w' => ∃ x y z, e = .returned (.tuple #[.agg #[.int .u8 x, .int .i64 y], .bool z]) ∧ ∃ v', SS N N v' (cutL (runS st k) s.t) w' ∧ Below N wr w') := hC.out v (runS st k) s.t wr hSH.out
          clear hP hC hD hSr hok
          go_wp2_with fail
          refine Calls.mono hcall.out ?_
          rintro e w' ⟨x, y, z, rfl, v', hS', hB'⟩
          have hS'H : Hid (SS N N v' (cutL (runS st k) s.t) w') := hS'
          clear hcall hS'
          go_wp2_with fail
          go_round
          case measure => simp only [intOf]; omega
          case rel =>
            refine ⟨k + 1, by omega, by simp, hB.trans ((hB').mono hwN), ⟨v', ?_⟩⟩
            have hr := hrun.out
            rw [if_neg q0, if_pos q1] at hr
            rw [hr]; exact hS'H.out
        · by_cases q2 : s.k = 2
          · rw [q2] at c0
            have hcall : Hid (Calls Try.prog 13 #[.pointer (some ⟨N, 0, none⟩), .int .i64 s.t, .int .i64 s.u] wr.drew fun e w' => (∃ r, e = .returned r) ∧ (w'.cell? ⟨b, off + k * 6 + 1, none⟩ = some (.int .i64 s.t) ∧ w'.cell? ⟨b, off + k * 6 + 2, none⟩ = some (.int .i64 s.u)) ∧ ∃ v', SS N N v' (delL (runS st k) s.t s.u) w' ∧ Below N wr w') := Calls.mono (hD.out v (runS st k) s.t s.u wr.drew ((SS.below hSH.out ((Below.refl _ _).drew)))) (by
              rintro e w' ⟨r, rfl, v', h1, h2⟩
              have hB'' : Below N wr w' := ((Below.refl _ _).drew).trans h2
              refine ⟨⟨_, rfl⟩, ⟨(hB''.cell (p := ⟨b, off + k * 6 + 1, none⟩) (Nat.lt_of_lt_of_le hb hwN)).trans c1, (hB''.cell (p := ⟨b, off + k * 6 + 2, none⟩) (Nat.lt_of_lt_of_le hb hwN)).trans c2⟩, v', h1, hB''⟩)
            have S5 : wr.cell? ⟨b, off + k * 6 + 1, none⟩ = some (.int .i64 s.t) ∧ wr.cell? ⟨b, off + k * 6 + 2, none⟩ = some (.int .i64 s.u) := ⟨c1, c2⟩
            clear hP hC hD hSr hok
            go_wp2_with fail
            go_region_held3 (fun w' => w'.cell? ⟨b, off + k * 6 + 1, none⟩ = some (.int .i64 s.t) ∧ w'.cell? ⟨b, off + k * 6 + 2, none⟩ = some (.int .i64 s.u)) (first | assumption)
              (first
                | (go_at_call 13; (with_reducible refine Calls.mono hcall.out ?_); rintro e w' ⟨⟨r, rfl⟩, hSk, v', hS', hB'⟩))
            have hS'H : Hid (SS N N v' (delL (runS st k) s.t s.u) w') := hS'
            clear hcall hS'
            go_wp2_with fail
            go_round
            case measure => simp only [intOf]; omega
            case rel =>
              refine ⟨k + 1, by omega, by simp, hB.trans ((hB').mono hwN), ⟨v', ?_⟩⟩
              have hr := hrun.out
              rw [if_neg q0, if_neg q1, if_pos q2] at hr
              rw [hr]; exact hS'H.out
          · clear hP hC hD hSr hok
            go_wp2_with fail
            go_round
            case measure => simp only [intOf]; omega
            case rel =>
              refine ⟨k + 1, by omega, by simp, hB, ⟨v, ?_⟩⟩
              have hr := hrun.out
              rw [if_neg q0, if_neg q1, if_neg q2] at hr
              rw [hr]; exact hSH.out
    · obtain rfl : n = k := by omega
      obtain ⟨v, hS⟩ := hSr.out
      have hSH : Hid (SS N N v (runS st n) wr) := hS
      have hG : Hid (∀ (t : Int) (W : World), SS N N v (runS st n) W → Calls Try.prog 14 #[.pointer (some ⟨N, 0, none⟩), .int .i64 t] W fun e w' => e = .returned (.tuple #[.agg #[.int .u8 ((getV (runS st n) t).1 : Int), .int .i64 (getV (runS st n) t).2], .bool (hasT (runS st n) t)]) ∧ Below W.heap.size W w') := fun t W hW => get_any N N v (runS st n) t W hW
      have hLn : Hid (∀ (W : World), SS N N v (runS st n) W → Calls Try.prog 15 #[.pointer (some ⟨N, 0, none⟩)] W fun e w' => e = .returned (.int .i64 ((runS st n).length : Int)) ∧ w' = W) := fun W hW => len_any N N v (runS st n) W hW
      clear hS hSr hP hC hD
      go_wp2_with fail
      go_loopw [5, 6] (fun th i wx => ∃ j c : Nat, j ≤ n ∧ i = .int .i64 (j : Int) ∧ th = .int .i64 (c : Int) ∧ c ≤ j ∧ Hid (c = cntS st n j) ∧ Below w.heap.size w wx ∧ Hid (SS N N v (runS st n) wx)) (fun _ i _ => n - (intOf i).toNat)
      case atStart => exact ⟨0, 0, by omega, rfl, rfl, by omega, rfl, hB, hSH.out⟩
      case round =>
        obtain ⟨j, c, hj, rfl, rfl, hcj, hcH, hBx, hSx⟩ := hrel
        rcases Nat.lt_or_ge j n with hjn | hjn
        · have hjnI : (j : Int) < (n : Int) := by omega
          have hj0 : (0 : Int) ≤ (j : Int) := by omega
          obtain ⟨b, off, rfl, hb, c0, c1, c2, c3, c4, c5⟩ := StIn.cells hI.out hBx hjn
          clear c2 c5
          by_cases q0 : (st j).k = 0
          · rw [q0] at c0
            have q0H : Hid ((st j).k = 0) := q0
            generalize htj : (st j).t = t at *
            have htH : Hid ((st j).t = t) := htj
            generalize hvk : (st j).vk = vk at *
            generalize hvx : (st j).vx = vx at *
            have hvH : Hid ((st j).vk = vk ∧ (st j).vx = vx) := ⟨hvk, hvx⟩
            clear htj hvk hvx q0
            go_wp2_with fail
            go_loopw [8, 9, 10] (fun la go kk wy => ∃ (lb gb : Bool) (m : Nat), la = .bool lb ∧ go = .bool gb ∧ kk = .int .i64 (m : Int) ∧ j < m ∧ m ≤ n ∧ Below w.heap.size w wy ∧ Hid (FL st j m lb gb) ∧ Hid (SS N N v (runS st n) wy)) (fun _ _ kk _ => n - (intOf kk).toNat)
            case atStart => exact ⟨true, false, j + 1, rfl, rfl, by simp, by omega, by omega, hBx, FL.start st j, hSx.out⟩
            case round =>
              obtain ⟨lb, gb, m, rfl, rfl, rfl, hjm, hm, hBy, hFL, hSy⟩ := hrel
              rcases Nat.lt_or_ge m n with hmn | hmn
              · have hmnI : (m : Int) < (n : Int) := by omega
                have hm0 : (0 : Int) ≤ (m : Int) := by omega
                obtain ⟨b', off', e', hb', d0, d1, d2, d3, d4, d5⟩ := StIn.cells hI.out hBy hmn
                cases e'
                generalize hsm : st m = s at *
                have hsH : Hid (st m = s) := hsm
                clear hsm c0 c1 c3 c4
                by_cases z0 : s.k = 0
                · rw [z0] at d0
                  by_cases y : s.t = t
                  · rw [y] at d1
                    go_wp2_with fail
                    go_round
                    case measure => simp only [intOf]; omega
                    case rel =>
                      refine ⟨false, gb, m + 1, rfl, rfl, by simp, by omega, by omega, below_new hBy _, (FL.next hFL.out hjm false gb ?_ ?_), SS.alloc hSy.out _⟩
                      · rw [hsH.out, htH.out]; exact ⟨fun h => by simp at h, fun h => absurd (by omega) h.2⟩
                      · rw [hsH.out, htH.out]; unfold Stp.rem; exact ⟨fun h => Or.inl h, fun h => h.elim id (fun h => by omega)⟩
                  · have y' : ¬ (s.t = t) := y
                    go_wp2_with fail
                    go_round
                    case measure => simp only [intOf]; omega
                    case rel =>
                      refine ⟨lb, gb, m + 1, rfl, rfl, by simp, by omega, by omega, below_new hBy _, (FL.next hFL.out hjm lb gb ?_ ?_), SS.alloc hSy.out _⟩
                      · rw [hsH.out, htH.out]; exact ⟨fun h => ⟨h, by omega⟩, fun h => h.1⟩
                      · rw [hsH.out, htH.out]; unfold Stp.rem; exact ⟨fun h => Or.inl h, fun h => h.elim id (fun h => by omega)⟩
                · by_cases z1 : s.k = 1
                  · rw [z1] at d0
                    by_cases y : s.t = t
                    · rw [y] at d1
                      go_wp2_with fail
                      go_round
                      case measure => simp only [intOf]; omega
                      case rel =>
                        refine ⟨lb, true, m + 1, rfl, rfl, by simp, by omega, by omega, below_new hBy _, (FL.next hFL.out hjm lb true ?_ ?_), SS.alloc hSy.out _⟩
                        · rw [hsH.out, htH.out]; exact ⟨fun h => ⟨h, by omega⟩, fun h => h.1⟩
                        · rw [hsH.out, htH.out]; unfold Stp.rem; exact ⟨fun _ => Or.inr (by omega), fun _ => rfl⟩
                    · have y' : ¬ (s.t = t) := y
                      go_wp2_with fail
                      go_round
                      case measure => simp only [intOf]; omega
                      case rel =>
                        refine ⟨lb, gb, m + 1, rfl, rfl, by simp, by omega, by omega, below_new hBy _, (FL.next hFL.out hjm lb gb ?_ ?_), SS.alloc hSy.out _⟩
                        · rw [hsH.out, htH.out]; exact ⟨fun h => ⟨h, by omega⟩, fun h => h.1⟩
                        · rw [hsH.out, htH.out]; unfold Stp.rem; exact ⟨fun h => Or.inl h, fun h => h.elim id (fun h => by omega)⟩
                  · by_cases z2 : s.k = 2
                    · rw [z2] at d0
                      by_cases y : s.t ≤ t
                      · by_cases y2 : t < s.u
                        · have y4 : t < s.u := y2
                          go_wp2_with fail
                          go_round
                          case measure => simp only [intOf]; omega
                          case rel =>
                            refine ⟨lb, true, m + 1, rfl, rfl, by simp, by omega, by omega, below_new hBy _, (FL.next hFL.out hjm lb true ?_ ?_), SS.alloc hSy.out _⟩
                            · rw [hsH.out, htH.out]; exact ⟨fun h => ⟨h, by omega⟩, fun h => h.1⟩
                            · rw [hsH.out, htH.out]; unfold Stp.rem; exact ⟨fun _ => Or.inr (by omega), fun _ => rfl⟩
                        · have y3 : ¬ (t < s.u) := y2
                          go_wp2_with fail
                          go_round
                          case measure => simp only [intOf]; omega
                          case rel =>
                            refine ⟨lb, gb, m + 1, rfl, rfl, by simp, by omega, by omega, below_new hBy _, (FL.next hFL.out hjm lb gb ?_ ?_), SS.alloc hSy.out _⟩
                            · rw [hsH.out, htH.out]; exact ⟨fun h => ⟨h, by omega⟩, fun h => h.1⟩
                            · rw [hsH.out, htH.out]; unfold Stp.rem; exact ⟨fun h => Or.inl h, fun h => h.elim id (fun h => by omega)⟩
                      · have y3 : ¬ (s.t ≤ t) := y
                        go_wp2_with fail
                        go_round
                        case measure => simp only [intOf]; omega
                        case rel =>
                          refine ⟨lb, gb, m + 1, rfl, rfl, by simp, by omega, by omega, below_new hBy _, (FL.next hFL.out hjm lb gb ?_ ?_), SS.alloc hSy.out _⟩
                          · rw [hsH.out, htH.out]; exact ⟨fun h => ⟨h, by omega⟩, fun h => h.1⟩
                          · rw [hsH.out, htH.out]; unfold Stp.rem; exact ⟨fun h => Or.inl h, fun h => h.elim id (fun h => by omega)⟩
                    · have z3 : ¬ (s.k = 2) := z2
                      go_wp2_with fail
                      go_round
                      case measure => simp only [intOf]; omega
                      case rel =>
                        refine ⟨lb, gb, m + 1, rfl, rfl, by simp, by omega, by omega, below_new hBy _, (FL.next hFL.out hjm lb gb ?_ ?_), SS.alloc hSy.out _⟩
                        · rw [hsH.out, htH.out]; exact ⟨fun h => ⟨h, by omega⟩, fun h => h.1⟩
                        · rw [hsH.out, htH.out]; unfold Stp.rem; exact ⟨fun h => Or.inl h, fun h => h.elim id (fun h => by omega)⟩
              · obtain rfl : m = n := by omega
                cases lb with
                | false =>
                  clear c0 c1 c3 c4
                  have hnl : ¬ lastTo st j m := fun h => by have := hFL.out.1.2 h; simp at this
                  have hnlH : Hid (¬ lastTo st j m) := hnl
                  clear hnl
                  go_wp2_with fail
                  go_round
                  case measure => simp only [intOf]; omega
                  case rel =>
                    refine ⟨j + 1, c, by omega, by simp, rfl, by omega, ?_, hBy, hSy.out⟩
                    show c = cntS st m (j + 1)
                    rw [cntS_miss st m j (fun h => hnlH.out h.2.1), hcH.out]
                | true =>
                  have hlt : Hid (lastTo st j m) := hFL.out.1.1 rfl
                  obtain ⟨hh1, hh2⟩ := last_has st m j hjn q0H.out hlt.out
                  rw [htH.out] at hh1 hh2
                  have c3y : wr.cell? ⟨b, off + j * 6 + 3, none⟩ = some (.int .u8 (vk : Int)) := by
                    obtain ⟨b', off', e', _, _, _, _, d3, _⟩ := StIn.cells hI.out hBy hjn
                    cases e'; rw [hvH.out.1] at d3; exact d3
                  have c4y : wr.cell? ⟨b, off + j * 6 + 4, none⟩ = some (.int .i64 vx) := by
                    obtain ⟨b', off', e', _, _, _, _, _, d4, _⟩ := StIn.cells hI.out hBy hjn
                    cases e'; rw [hvH.out.2] at d4; exact d4
                  clear c0 c1 c3 c4
                  have hgo : Hid _ := hFL.out.2
                  cases gb with
                  | true =>
                    have hno : hasT (runS st m) t = false := by
                      cases hx : hasT (runS st m) t with
                      | false => rfl
                      | true => exact absurd (hgo.out.1 rfl) (hh1.1 hx)
                    have hGt : Hid _ := hG.out t wr hSy.out
                    rw [hno, getV_miss hno] at hGt
                    have hnoH : Hid (hasT (runS st m) t = false) := hno
                    clear hno hh1 hh2
                    go_wp2_with fail
                    refine Calls.mono hGt.out ?_
                    rintro e w4 ⟨rfl, hB4⟩
                    have hB04 := hBy.trans (hB4.mono hBy.size)
                    have c3z := (hB4.cell (p := ⟨b, off + j * 6 + 3, none⟩) (Nat.lt_of_lt_of_le hb hBy.size)).trans c3y
                    have c4z := (hB4.cell (p := ⟨b, off + j * 6 + 4, none⟩) (Nat.lt_of_lt_of_le hb hBy.size)).trans c4y
                    have hS4 : Hid (SS N N v (runS st m) w4) := SS.below hSy.out hB4
                    have hbw4 : b < w4.heap.size := Nat.lt_of_lt_of_le hb hB04.size
                    clear hGt c3y c4y
                    go_wp2_with fail
                    go_quiet (fail)
                    go_wp2_with fail
                    go_round
                    case measure => simp only [intOf]; omega
                    case rel =>
                      refine ⟨j + 1, c, by omega, by simp, rfl, by omega, ?_, below_drewN (below_new hB04 _) _, SS.below (SS.alloc hS4.out _) (below_drewN (Below.refl _ _) _)⟩
                      show c = cntS st m (j + 1)
                      rw [cntS_miss st m j (fun h => by have := h.2.2; rw [htH.out, hnoH.out] at this; simp at this), hcH.out]
                  | false =>
                    have hyes : hasT (runS st m) t = true := hh1.2 (fun h => by have := hgo.out.2 h; simp at this)
                    have hGt : Hid _ := hG.out t wr hSy.out
                    rw [hyes, hh2 hyes, hvH.out.1, hvH.out.2] at hGt
                    have hyesH : Hid (hasT (runS st m) t = true) := hyes
                    clear hyes hh1 hh2
                    go_wp2_with fail
                    refine Calls.mono hGt.out ?_
                    rintro e w4 ⟨rfl, hB4⟩
                    have hB04 := hBy.trans (hB4.mono hBy.size)
                    have c3z := (hB4.cell (p := ⟨b, off + j * 6 + 3, none⟩) (Nat.lt_of_lt_of_le hb hBy.size)).trans c3y
                    have c4z := (hB4.cell (p := ⟨b, off + j * 6 + 4, none⟩) (Nat.lt_of_lt_of_le hb hBy.size)).trans c4y
                    have hS4 : Hid (SS N N v (runS st m) w4) := SS.below hSy.out hB4
                    have hbw4 : b < w4.heap.size := Nat.lt_of_lt_of_le hb hB04.size
                    clear hGt c3y c4y
                    go_wp2_with fail
                    go_quiet (fail)
                    go_wp2_with fail
                    go_round
                    case measure => simp only [intOf]; omega
                    case rel =>
                      refine ⟨j + 1, c + 1, by omega, by simp, by simp, by omega, ?_, below_drewN (below_new hB04 _) _, SS.below (SS.alloc hS4.out _) (below_drewN (Below.refl _ _) _)⟩
                      show c + 1 = cntS st m (j + 1)
                      rw [cntS_hit st m j ⟨q0H.out, hlt.out, by rw [htH.out]; exact hyesH.out⟩, hcH.out]
          · have q0H : Hid (¬ (st j).k = 0) := q0
            generalize hkj : (st j).k = kj at *
            have hkH : Hid ((st j).k = kj) := hkj
            clear hkj
            go_wp2_with fail
            go_round
            case measure => simp only [intOf]; omega
            case rel =>
              refine ⟨j + 1, c, by omega, by simp, rfl, by omega, ?_, hBx, hSx.out⟩
              show c = cntS st n (j + 1)
              rw [cntS_miss st n j (fun h => q0H.out (by rw [← hkH.out]; exact h.1)), hcH.out]
        · obtain rfl : j = n := by omega
          have hfin : Hid ((runS st j).length = c) := by
            show (runS st j).length = c
            rw [hcH.out, cntS_len]
          have hLx : Hid _ := hLn.out wr hSx.out
          rw [hfin.out] at hLx
          go_wp2_with fail
          refine Calls.mono hLx.out ?_
          rintro e w4 ⟨rfl, rfl⟩
          go_wp2_with fail
          go_ret
          exact ⟨by simp, hBx⟩
end Go.Proofs.Ytpmonckfdnfkdaa
