
import Derived.Test.YtipahdplkmmofaaGreatDoorSpT
import Derived.Deep.RegionWith
import Derived.Deep.RegionHeld3
namespace Go.Proofs.YtipahdplkmmofaaGreatDoor
open Go.RowKit Go.Shelf
set_option linter.unusedVariables false
set_option linter.unusedSimpArgs false
set_option maxRecDepth 100000 in
set_option maxHeartbeats 4000000 in
theorem frac1_any (C : Nat) (k : Clk) (s : ByteArray) (hs : s.size ≤ 9223372036854775807) (w : World) (hk : CK C k w) :
    Calls Tryz.prog 78 #[.pointer (some ⟨C, 0, none⟩), .string s] w fun e w' => PPost C k fracPc s.data.toList w e w' := by
  have HK : Hid (CK C k w) := hk
  by_cases h0 : s.data.toList.head? = some 46
  · have HC : Hid (∀ W, Calls Tryz.prog 25 #[.string s, .string ⟨#[46]⟩] W fun e w' => e = .returned (.tuple #[.string (s.extract 1 s.size), .bool true]) ∧ w' = W) := fun W => cut_yes s 46 h0 W
    have hT : Hid ((s.extract 1 s.size).data.toList = s.data.toList.drop 1) := ex_list s 1
    have hp := head_len h0
    rw [sz_list] at hp
    have hTz : (s.extract 1 s.size).size = s.size - 1 := ex_size s 1
    have HF : Hid (fracPc k s.data.toList = if cnt (s.data.toList.drop 1) < 1 ∨ 9 < cnt (s.data.toList.drop 1) then none else some (setC 6 (valF 0 ((s.data.toList.drop 1).take (cnt (s.data.toList.drop 1)) ++ List.replicate (9 - cnt (s.data.toList.drop 1)) 48)) k, 1 + cnt (s.data.toList.drop 1))) := by
      show _ = _
      unfold fracPc; rw [if_pos h0]; rfl
    obtain ⟨T, hTe⟩ : ∃ T, s.extract 1 s.size = T := ⟨_, rfl⟩
    rw [hTe] at HC hT hTz
    clear hTe h0
    rw [← hT.out] at HF
    have HQ : Hid (∀ W, Calls Tryz.prog 102 #[.string T] W fun e w' => e = .returned (.int .i64 ((cnt T.data.toList : Nat) : Int)) ∧ w' = W) := fun W => count_any T (by omega) W
    have ql := cnt_le T.data.toList
    rw [sz_list] at ql
    have HD : Hid (allD (T.data.toList.take (cnt T.data.toList))) := allD_cnt _
    obtain ⟨q, hq⟩ : ∃ q, cnt T.data.toList = q := ⟨_, rfl⟩
    rw [hq] at HF HQ ql HD
    clear hq
    by_cases q1 : q < 1
    · have HN : Hid (fracPc k s.data.toList = none) := by show _ = _; rw [HF.out, if_pos (Or.inl q1)]
      have q1' : (q : Int) < 1 := by omega
      clear HF hT HD
      go_enter Tryz.func78, Tryz.ntmps78
      go_wp2_with (first | (go_at_call 25; refine (HC.out _).mono ?_; rintro e w' ⟨rfl, rfl⟩) | (go_at_call 102; refine (HQ.out _).mono ?_; rintro e w' ⟨rfl, rfl⟩))
      go_ret
      exact Or.inl ⟨HN.out, rfl, HK.out, grown_refl _ _⟩
    by_cases q2 : 9 < q
    · have HN : Hid (fracPc k s.data.toList = none) := by show _ = _; rw [HF.out, if_pos (Or.inr q2)]
      have q1' : ¬ (q : Int) < 1 := by omega
      have q2' : 9 < (q : Int) := by omega
      clear HF hT HD
      go_enter Tryz.func78, Tryz.ntmps78
      go_wp2_with (first | (go_at_call 25; refine (HC.out _).mono ?_; rintro e w' ⟨rfl, rfl⟩) | (go_at_call 102; refine (HQ.out _).mono ?_; rintro e w' ⟨rfl, rfl⟩))
      go_ret
      exact Or.inl ⟨HN.out, rfl, HK.out, grown_refl _ _⟩
    have HN : Hid (fracPc k s.data.toList = some (setC 6 (valF 0 (T.data.toList.take q ++ List.replicate (9 - q) 48)) k, 1 + q)) := by show _ = _; rw [HF.out, if_neg (by omega)]
    have HLe : Hid (1 + q ≤ s.data.toList.length) := by show _ ≤ _; rw [sz_list]; omega
    clear HF
    have q1' : ¬ (q : Int) < 1 := by omega
    have q2' : ¬ 9 < (q : Int) := by omega
    obtain ⟨j, hj⟩ : ∃ j : Nat, 9 - q = j := ⟨_, rfl⟩
    rw [hj] at HN
    have jq : (9 : Int) - (q : Int) = (j : Int) := by omega
    have HR : Hid (∀ W, Calls Tryz.prog 93 #[.string ⟨#[48]⟩, .int .i64 (j : Int)] W fun e w' => e = .returned (.string (B (List.replicate j 48))) ∧ Below W.heap.size W w') := fun W => repB j (by omega) W
    have eT : Hid ((T.extract 0 q).data.toList = T.data.toList.take q) := take_list T q
    have lT : (T.extract 0 q).size = q := by rw [← sz_list, eT.out, List.length_take, sz_list]; omega
    have lR : (B (List.replicate j 48)).size = j := by rw [B_size, List.length_replicate]
    have eA : Hid ((T.extract 0 q ++ B (List.replicate j 48)).data.toList = T.data.toList.take q ++ List.replicate j 48) := by
      show _ = _
      rw [ByteArray.data_append, Array.toList_append, eT.out, B_list]
    have HA : Hid (∀ W, Calls Tryz.prog 108 #[.string (T.extract 0 q ++ B (List.replicate j 48))] W fun e w' => e = .returned (.tuple #[.int .i64 (valF 0 (T.data.toList.take q ++ List.replicate j 48)), .nilIface]) ∧ Below W.heap.size W w') := fun W => by
      have H := atoiB (T.extract 0 q ++ B (List.replicate j 48)) (by rw [eA.out]; exact allD_app HD.out (allD_rep j)) (by rw [ByteArray.size_append]; omega) (by rw [ByteArray.size_append]; omega) W
      rw [eA.out] at H; exact H
    obtain ⟨n, hn⟩ : ∃ n, valF 0 (T.data.toList.take q ++ List.replicate j 48) = n := ⟨_, rfl⟩
    rw [hn] at HN HA
    obtain ⟨R, hR⟩ : ∃ R, B (List.replicate j 48) = R := ⟨_, rfl⟩
    rw [hR] at HR HA lR
    obtain ⟨X, hX⟩ : ∃ X, T.extract 0 q = X := ⟨_, rfl⟩
    rw [hX] at HA lT
    have ca : ¬ 9223372036854775807 < X.size + R.size := by omega
    have cb : ¬ 9223372036854775807 < q + j := by omega
    clear eA eT HD hj hn hR hT
    have hTm : T.size ≤ 9223372036854775807 := by omega
    clear hk hTz
    go_enter Tryz.func78, Tryz.ntmps78
    go_wp2_with (first | (go_at_call 25; refine (HC.out _).mono ?_; rintro e w' ⟨rfl, hw⟩; subst w') | (go_at_call 102; refine (HQ.out _).mono ?_; rintro e w' ⟨rfl, hw⟩; subst w'))
    have jw : IntKind.i64.wrap ((9 : Int) - (q : Int)) = (j : Int) := by rw [jq]; exact IntWalk.i64_in _ (by omega)
    have jv : IntKind.i64.wrap (j : Int) = (j : Int) := IntWalk.i64_in _ (by omega)
    have sb1 : (0 : Int) ≤ (q : Int) := by omega
    have sb2 : (q : Int) ≤ (T.size : Int) := by omega
    have S0 : w.grownBy w.drew (some C) := grown_of_below C (Below.refl w.heap.size w).drew
    go_region_held3 (fun W => w.grownBy W (some C)) (first | assumption | exact grown_trans (by assumption) (grown_set _ _ _ _))
      (first | (go_at_call 93; (with_reducible refine Calls.mono (HR.out _) ?_); rintro e w1 ⟨rfl, B1⟩; have S1 := grown_trans S0 (grown_of_below C B1)) | (go_at_call 108; (with_reducible refine Calls.mono (HA.out _) ?_); rintro e w2 ⟨rfl, B2⟩; have B3 : Below w.heap.size w w2 := below_then (below_then (Below.refl w.heap.size w).drew B1) B2; have S2 := grown_of_below C B3; have k6a := ((HK.out.after B3) 6 (by omega)).1; have f6a := ((HK.out.after B3) 6 (by omega)).2))
    all_goals
      go_wp2
      go_ret
      exact Or.inr ⟨setC 6 n k, 1 + q, HN.out, HLe.out, ret_int (by omega), (HK.out.after B3).set 6 (by omega) n, grown_trans S2 (grown_set _ _ _ _)⟩
  · have HC : Hid (∀ W, Calls Tryz.prog 25 #[.string s, .string ⟨#[46]⟩] W fun e w' => e = .returned (.tuple #[.string s, .bool false]) ∧ w' = W) := fun W => cut_no s 46 h0 W
    have HN : Hid (fracPc k s.data.toList = some (k, 0)) := by show _ = _; unfold fracPc; rw [if_neg h0]
    clear h0
    go_enter Tryz.func78, Tryz.ntmps78
    go_wp2_with (go_at_call 25; refine (HC.out _).mono ?_; rintro e w' ⟨rfl, rfl⟩)
    go_ret
    exact Or.inr ⟨k, 0, HN.out, Nat.zero_le _, rfl, HK.out, grown_refl _ _⟩
/-- what takeDay wants of the clock. -/
def DayPre (c : Clk) : Prop := 0 ≤ c.y ∧ c.y ≤ 9999 ∧ 1 ≤ c.mo ∧ c.mo ≤ 12
theorem keepD {C : Nat} {c : Clk} {lo hi : Int} {l : List UInt8} {w w' : World} {e : Ending} (h : PPost C c (numPc 2 lo hi (setC 2)) l w e w') : w'.cell? ⟨C, 0, none⟩ = some (.int .i64 c.y) ∧ w'.cell? ⟨C, 1, none⟩ = some (.int .i64 c.mo) ∧ w.grownBy w' (some C) := by
  rcases h with ⟨_, _, ck, g⟩ | ⟨c', k, hp, _, _, ck, g⟩
  · exact ⟨(ck 0 (by omega)).1, (ck 1 (by omega)).1, g⟩
  · unfold numPc at hp
    split at hp
    · cases hp
    · split at hp
      · cases hp
      · injection hp with hp
        injection hp with hp _
        subst hp
        exact ⟨(ck 0 (by omega)).1, (ck 1 (by omega)).1, g⟩
/-- the same, with its number as a letter. -/
def PRes (C : Nat) (c : Clk) (p : Pc) (l : List UInt8) (w : World) (x : Int) (w' : World) : Prop :=
  (p c l = none ∧ x = -1 ∧ CK C c w' ∧ w.grownBy w' (some C)) ∨ (∃ c' k, p c l = some (c', k) ∧ k ≤ l.length ∧ x = ((k : Nat) : Int) ∧ CK C c' w' ∧ w.grownBy w' (some C))
theorem ppost_val {C : Nat} {c : Clk} {p : Pc} {l : List UInt8} {w w' : World} {e : Ending} (h : PPost C c p l w e w') : ∃ x : Int, e = .returned (.int .i64 x) ∧ PRes C c p l w x w' := by
  rcases h with ⟨h1, h2, h3, h4⟩ | ⟨c', k, h1, h2, h3, h4, h5⟩
  · exact ⟨-1, h2, Or.inl ⟨h1, rfl, h3, h4⟩⟩
  · exact ⟨_, h3, Or.inr ⟨c', k, h1, h2, rfl, h4, h5⟩⟩
theorem pres_post {C : Nat} {c : Clk} {p p' : Pc} {l : List UInt8} {w0 w w' : World} {x : Int} (h : PRes C c p l w x w') (hp : p' c l = p c l) (hg : w0.grownBy w (some C)) : PPost C c p' l w0 (.returned (.int .i64 x)) w' := by
  rcases h with ⟨h1, h2, h3, h4⟩ | ⟨c', k, h1, h2, h3, h4, h5⟩
  · exact Or.inl ⟨by rw [hp]; exact h1, by rw [h2], h3, grown_trans hg h4⟩
  · exact Or.inr ⟨c', k, by rw [hp]; exact h1, h2, by rw [h3], h4, grown_trans hg h5⟩
def NumC (C N size i : Nat) (lo hi : Int) (w : World) : Prop := w.cell? ⟨N, 0, none⟩ = some (.int .i64 (size : Int)) ∧ w.cell? ⟨N + 1, 0, none⟩ = some (.int .i64 lo) ∧ w.cell? ⟨N + 2, 0, none⟩ = some (.int .i64 hi) ∧ w.cell? ⟨N + 3, 0, none⟩ = some (.pointer (some ⟨C, i, none⟩))
def numF (N : Nat) : Value := .func (.func 107) #[] #[.pointer (some ⟨N, 0, none⟩), .pointer (some ⟨N + 1, 0, none⟩), .pointer (some ⟨N + 2, 0, none⟩), .pointer (some ⟨N + 3, 0, none⟩)]
set_option maxRecDepth 100000 in
theorem number_n (C N size i : Nat) (lo hi : Int) (w : World) (hN : w.heap.size = N) : Calls Tryz.prog 75 #[.int .i64 (size : Int), .int .i64 lo, .int .i64 hi, .pointer (some ⟨C, i, none⟩)] w fun e w' =>
    e = .returned (.func (.func 107) #[] #[.pointer (some ⟨N, 0, none⟩), .pointer (some ⟨N + 1, 0, none⟩), .pointer (some ⟨N + 2, 0, none⟩), .pointer (some ⟨N + 3, 0, none⟩)]) ∧ NumC C N size i lo hi w' ∧ Below w.heap.size w w' := by
  have hmf : ∀ (fn : Fn) (first cap : Array Value) (w : World), (Instr.makeFunc fn first cap).run Tryz.prog w = .ok (.func fn first cap) w := fun _ _ _ _ => rfl
  subst hN
  go_enter Tryz.func75, Tryz.ntmps75
  go_wp2
  go_ret
  refine ⟨by simp, ⟨by simp [go_sem], by simp [go_sem], by simp [go_sem], by simp [go_sem]⟩, ?_⟩
  exact below_new (below_new (below_new (below_new (Below.refl _ _) _) _) _) _
theorem NumC.pc {C N size i : Nat} {lo hi : Int} {w : World} (h : NumC C N size i lo hi w) (hN : C < N) (hi' : i < 10) (hs : 1 ≤ size ∧ size ≤ 18) : PcAt C w (numF N) (numPc size lo hi (setC i)) :=
  .num N (N + 1) (N + 2) (N + 3) size i lo hi hi' (by omega) (by omega) (by omega) (by omega) h.1 h.2.1 h.2.2.1 h.2.2.2 hs
set_option maxRecDepth 100000 in
set_option maxHeartbeats 4000000 in
theorem day1_any (C : Nat) (k : Clk) (s : ByteArray) (hs : s.size ≤ 9223372036854775807) (hp : DayPre k) (w : World) (hM : MT w) (hk : CK C k w) :
    Calls Tryz.prog 77 #[.pointer (some ⟨C, 0, none⟩), .string s] w fun e w' => PPost C k dayPc s.data.toList w e w' := by
  have hmf : ∀ (fn : Fn) (first cap : Array Value) (w : World), (Instr.makeFunc fn first cap).run Tryz.prog w = .ok (.func fn first cap) w := fun _ _ _ _ => rfl
  obtain ⟨p1, p2, p3, p4⟩ := hp
  have HK : Hid (CK C k w) := hk
  have c0 : w.cell? ⟨C, 0, none⟩ = some (.int .i64 k.y) := (hk 0 (by omega)).1
  have c1 : w.cell? ⟨C, 1, none⟩ = some (.int .i64 k.mo) := (hk 1 (by omega)).1
  have cl := hk.lt
  have HL : Hid (∀ W, MT W → Calls Tryz.prog 91 #[.int .i64 k.y, .int .i64 k.mo] W fun e w' => e = .returned (.int .i64 (lenM k.y k.mo)) ∧ w' = W) := fun W h => length_any k.y k.mo p1 (by omega) p3 p4 W h
  have HN : Hid (∀ W (N : Nat), W.heap.size = N → Calls Tryz.prog 75 #[.int .i64 2, .int .i64 1, .int .i64 (lenM k.y k.mo), .pointer (some ⟨C, 2, none⟩)] W fun e w' =>
    e = .returned (.func (.func 107) #[] #[.pointer (some ⟨N, 0, none⟩), .pointer (some ⟨N + 1, 0, none⟩), .pointer (some ⟨N + 2, 0, none⟩), .pointer (some ⟨N + 3, 0, none⟩)]) ∧ NumC C N 2 2 1 (lenM k.y k.mo) w' ∧ Below W.heap.size W w') := fun W N hW => number_n C N 2 2 1 (lenM k.y k.mo) W hW
  have HX : Hid (∀ (W : World) (N : Nat), C < N → NumC C N 2 2 1 (lenM k.y k.mo) W → CK C k W → Calls Tryz.prog 107 #[.string s, .pointer (some ⟨N, 0, none⟩), .pointer (some ⟨N + 1, 0, none⟩), .pointer (some ⟨N + 2, 0, none⟩), .pointer (some ⟨N + 3, 0, none⟩)] W fun e w' => PPost C k (numPc 2 1 (lenM k.y k.mo) (setC 2)) s.data.toList W e w') := fun W N hCN h ck =>
    num1_any C k s hs N (N + 1) (N + 2) (N + 3) 2 2 1 (lenM k.y k.mo) (by omega) (by omega) (by omega) (by omega) (by omega) W h.1 h.2.1 h.2.2.1 h.2.2.2 (by omega) ck
  have HD : Hid (dayPc k s.data.toList = numPc 2 1 (lenM k.y k.mo) (setC 2) k s.data.toList) := rfl
  clear hk p1 p2 p3 p4
  have S0 : w.grownBy w.drew (some C) ∧ w.drew.cell? ⟨C, 0, none⟩ = some (.int .i64 k.y) ∧ w.drew.cell? ⟨C, 1, none⟩ = some (.int .i64 k.mo) := ⟨grown_of_below C (Below.refl w.heap.size w).drew, c0, c1⟩
  have HMd : Hid (MT w.drew) := hM.below (Below.refl w.heap.size w).drew
  clear hM
  generalize lenM k.y k.mo = L at *
  go_enter Tryz.func77, Tryz.ntmps77
  go_wp2
  obtain ⟨N, hN⟩ : ∃ N, w.heap.size = N := ⟨_, rfl⟩
  have HNN : Hid (w.drew.heap.size = N) := hN
  have cN : C < N := by rw [← hN]; exact cl
  clear hN cl
  go_region_held3 (fun W => w.grownBy W (some C) ∧ W.cell? ⟨C, 0, none⟩ = some (.int .i64 k.y) ∧ W.cell? ⟨C, 1, none⟩ = some (.int .i64 k.mo)) (first | assumption)
      (first | (go_at_call 91; (with_reducible refine Calls.mono (HL.out _ HMd.out) ?_); rintro e w1 ⟨rfl, hw⟩; subst w1) | (go_at_call 75; (with_reducible refine Calls.mono (HN.out _ N HNN.out) ?_); rintro e w2 ⟨rfl, P2, B2⟩; have CK2 : CK C k w2 := (HK.out.after (Below.refl w.heap.size w).drew).after B2; have g2 : w.grownBy w2 (some C) := grown_trans S0.1 (grown_of_below C B2); have S2 : w.grownBy w2 (some C) ∧ w2.cell? ⟨C, 0, none⟩ = some (.int .i64 k.y) ∧ w2.cell? ⟨C, 1, none⟩ = some (.int .i64 k.mo) := ⟨g2, (CK2 0 (by omega)).1, (CK2 1 (by omega)).1⟩) | (go_at_call 107; (with_reducible refine Calls.mono (HX.out _ N cN P2 CK2) ?_); rintro e w3 P3; have D3 := keepD P3; have S3 : w.grownBy w3 (some C) ∧ w3.cell? ⟨C, 0, none⟩ = some (.int .i64 k.y) ∧ w3.cell? ⟨C, 1, none⟩ = some (.int .i64 k.mo) := ⟨grown_trans g2 D3.2.2, D3.1, D3.2.1⟩; obtain ⟨x, rfl, PX⟩ := ppost_val P3))
  all_goals
    go_wp2
    go_ret
    exact pres_post PX HD.out g2
end Go.Proofs.YtipahdplkmmofaaGreatDoor
