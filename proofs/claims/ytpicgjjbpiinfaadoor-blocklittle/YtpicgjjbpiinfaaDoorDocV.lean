
import Derived.Test.YtpicgjjbpiinfaaDoorDocW
namespace Go.Proofs.YtpicgjjbpiinfaaDoor
open Go.RowKit
set_option linter.unusedVariables false
set_option linter.unusedSimpArgs false
def foldZ (v : Int) : Nat := if 0 ≤ v then (2 * v).toNat else (-2 * v - 1).toNat
theorem foldZ_lt (v : Int) (h : -9223372036854775808 ≤ v ∧ v ≤ 9223372036854775807) : foldZ v < 18446744073709551616 := by unfold foldZ; split <;> omega
set_option maxRecDepth 100000 in
theorem rfold (v : Int) (h : -9223372036854775808 ≤ v ∧ v ≤ 9223372036854775807) (w : World) : Calls Tryd.prog 75 #[.int .i64 v] w fun e w' => e = .returned (.int .u64 ((foldZ v : Nat) : Int)) ∧ w' = w := by
  unfold foldZ
  by_cases hv : 0 ≤ v
  · rw [if_pos hv]
    go_enter Tryd.func75, Tryd.ntmps75
    go_wp2_with fail
    go_ret
    exact ⟨congrArg (fun z => Ending.returned (.int .u64 z)) (show 2 * v = ((2 * v).toNat : Int) by omega), rfl⟩
  · rw [if_neg hv]
    go_enter Tryd.func75, Tryd.ntmps75
    go_wp2_with fail
    go_ret
    exact ⟨congrArg (fun z => Ending.returned (.int .u64 z)) (show 2 * -(v + 1) + 1 = (((-2 * v).toNat - 1 : Nat) : Int) by omega), rfl⟩
set_option maxRecDepth 100000 in
theorem rint_fr (N : Nat) (w1 : World) (fr : Int) (v : Value) (n : Nat) (xs : List Value) (w : World) (h : WS N w1 fr v n xs w) (z : Int) (hz : -9223372036854775808 ≤ z ∧ z ≤ 9223372036854775807) (hb : n + 20 ≤ 140737488355328) :
    Calls Tryd.prog 82 #[.pointer (some ⟨N, 0, none⟩), .int .i64 z] w fun e w' => e = .returned undef ∧ ∃ v' n', WS N w1 0 v' n' (xs ++ enc (uB (foldZ z))) w' ∧ n' ≤ n + 11 ∧ Fr N v v' w w' := by
  go_enter Tryd.func82, Tryd.ntmps82
  go_wp2_with fail
  refine (rfold z hz _).mono ?_
  rintro e w2 ⟨rfl, rfl⟩
  go_wp2_with fail
  refine (ruint_fr N w1 fr v n xs _ h (foldZ z) (foldZ_lt z hz) _ rfl hb).mono ?_
  rintro e w3 ⟨rfl, v3, n3, h3, b3, F3⟩
  go_wp2_with fail
  first | go_end0 | (simp only [Exit.inBlock, Exit.then]; refine bodyPost_ret (results_none rfl _ _ _) rfl ?_) | refine bodyPost_ret (results_none rfl _ _ _) rfl ?_
  exact ⟨rfl, v3, n3, h3, b3, F3⟩
def bytesL (bs : Nat → Nat) (n : Nat) : List Nat := (List.range n).map bs
theorem bytesL_succ (bs : Nat → Nat) (n : Nat) : bytesL bs (n + 1) = bytesL bs n ++ [bs n] := by simp [bytesL, List.range_succ]
set_option maxRecDepth 100000 in
set_option maxHeartbeats 4000000 in
theorem rraw_fr (N : Nat) (w1 : World) (fr : Int) (v : Value) (n : Nat) (xs : List Value) (w : World) (h : WS N w1 fr v n xs w) (a : Option Addr) (m c : Nat) (bs : Nat → Nat)
    (hin : m = 0 ∨ ∃ b off, a = some ⟨b, off, none⟩ ∧ b < w.heap.size ∧ b ≠ N ∧ some b ≠ v.ownBlock ∧ BytesAt w b off m bs) (hb : n + m + 20 ≤ 140737488355328) :
    Calls Tryd.prog 42 #[.pointer (some ⟨N, 0, none⟩), .slice a m c] w fun e w' => e = .returned undef ∧ ∃ v' n', WS N w1 0 v' n' (xs ++ enc (uB m) ++ enc (bytesL bs m)) w' ∧ n' ≤ n + 11 + m ∧ Fr N v v' w w' := by
  have hmw : (m : Int) % 18446744073709551616 = (m : Int) := by omega
  go_enter Tryd.func42, Tryd.ntmps42
  go_wp2_with fail
  refine (ruint_fr N w1 fr v n xs _ h m (by omega) _ (by omega) (by omega)).mono ?_
  rintro e w2 ⟨rfl, v2, n2, h2, b2, F2⟩
  go_wp2_with fail
  go_loopw [4] (fun i wr => ∃ (k : Nat) (v' : Value), i = .int .i64 (k : Int) ∧ k ≤ m ∧ WS N w1 0 v' (n2 + k) (xs ++ enc (uB m) ++ enc (bytesL bs k)) wr ∧ Fr N v v' w wr) (fun i _ => m - (intOf i).toNat)
  case atStart => exact ⟨0, v2, rfl, by omega, by simpa [bytesL, enc] using h2, F2⟩
  case round =>
    obtain ⟨k, v', rfl, hk, hW, hF⟩ := hrel
    by_cases hkm : k < m
    · have hkI : (k : Int) < (m : Int) := by omega
      rcases hin with h0 | ⟨b, off, rfl, hbl, hbN, hbo, hB⟩
      · omega
      have hB' := hF.bytes hB hbl hbN hbo
      obtain ⟨hc, hx⟩ := hB' k hkm
      have k0 : (0 : Int) ≤ (k : Int) := by omega
      have hW' : Hid _ := hW
      clear hB' h2 h hW
      go_wp2_with fail
      refine (rbyte_fr N w1 0 v' (n2 + k) _ _ hW'.out (bs k) _ rfl (by omega)).mono ?_
      rintro e w3 ⟨rfl, v3, h3, F3⟩
      go_wp2_with fail
      go_roundw
      case rel => exact ⟨k + 1, v3, by go_num, by omega, by rw [bytesL_succ, ← enc_append, ← List.append_assoc, ← Nat.add_assoc]; exact h3, hF.trans F3⟩
      case measure => simp [intOf]; omega
    · obtain rfl : k = m := by omega
      go_wp2_with fail
      first | go_end0 | (simp only [Exit.inBlock, Exit.then]; refine bodyPost_ret (results_none rfl _ _ _) rfl ?_) | refine bodyPost_ret (results_none rfl _ _ _) rfl ?_
      exact ⟨rfl, v', n2 + k, hW, by omega, hF⟩
theorem WS.strung {N : Nat} {w1 wx : World} {fr : Int} {v : Value} {n : Nat} {xs : List Value} (h : WS N w1 fr v n xs wx) (e : TypeId) (s : ByteArray) : WS N w1 fr v n xs (Lib.bytesWorld wx e s) := by
  obtain ⟨c0, c1, f0, f1, own, b, sz⟩ := h
  have ho := fun j (hj : j < wx.heap.size) => Lib.bytesWorld_at_old wx e s j hj
  have hz := Lib.bytesWorld_size wx e s
  refine ⟨?_, ?_, ?_, ?_, ⟨own.1, ?_⟩, ⟨b.os, b.tape, b.output, ?_, fun k hk => (ho k (by omega)).trans (b.block k hk)⟩, by omega⟩
  · rw [World.cell?_of_block (w := wx) (ho N sz)]; exact c0
  · rw [World.cell?_of_block (w := wx) (ho N sz)]; exact c1
  · rw [World.frozen?_of_block (w := wx) (ho N sz)]; exact f0
  · rw [World.frozen?_of_block (w := wx) (ho N sz)]; exact f1
  · rcases own.2 with h2 | ⟨g, cap, cur, e1, e2, e3, e4⟩
    · exact Or.inl h2
    · exact Or.inr ⟨g, cap, cur, e1, e2, by rw [ho g (Array.getElem?_eq_some_iff.1 e3).1]; exact e3, e4⟩
  · have := b.size; omega
end Go.Proofs.YtpicgjjbpiinfaaDoor
