
import Derived.Test.YtfgfeipoddnekaaDoorBuU
import Derived.BigQuiet
namespace Go.Proofs.YtfgfeipoddnekaaDoor
open Go.RowKit
set_option linter.unusedVariables false
set_option linter.unusedSimpArgs false
def HeadE (bs : Nat → Nat) (n : Nat) (e : Ending) : Prop :=
  (∃ x, UPf bs n x ∧ e = .returned (.tuple #[.int .i64 0, .int .i64 0, .int .i64 0, fvV (some x)])) ∨
  (UPb bs n ∧ e = .returned (.tuple #[.int .i64 0, .int .i64 0, .int .i64 0, .iface 83 (.int .i64 90)])) ∨
  (UPg bs n ∧ ((tL (pT bs n)).length = 0 ∧ e = .returned (.tuple #[.int .i64 0, .int .i64 0, .int .i64 0, .nilIface]) ∨
    0 < (tL (pT bs n)).length ∧ e = .returned (.tuple #[.int .i64 ((tL (pT bs n)).length : Int), .int .i64 (ttL (tL (pT bs n)) 0), .int .i64 (ttL (tL (pT bs n)) ((tL (pT bs n)).length - 1)), .nilIface])))
set_option maxRecDepth 100000 in
set_option maxHeartbeats 4000000 in
theorem head_any (ba : Option Addr) (bc : Nat) (B : List Nat) (w : World) (h : BytesIn w ba B.length (natsOf B)) (hc : ba = none → bc = 0) (hct : CT w) (hg : 0 < w.heap.size) : Calls Tryd.prog 9 #[.slice ba B.length bc] w fun e w' => HeadE (natsOf B) B.length e ∧ Below w.heap.size w w' := by
  have hU : Hid _ := unpack_any ba bc B w h hc hct hg
  clear h hct
  go_enter Tryd.func9, Tryd.ntmps9
  go_wp2_with fail
  refine Calls.mono hU.out ?_
  rintro e w2 ⟨hE, hB2⟩
  clear hU
  rcases hE with ⟨⟨x1, x2⟩, hx, rfl⟩ | ⟨hx, rfl⟩ | ⟨hG, ra, rc, rfl, hS⟩
  · have hxH : Hid _ := hx
    clear hx
    simp only [fvV]
    go_wp2_with fail
    refine bodyPost_ret (v := .tuple #[.int .i64 0, .int .i64 0, .int .i64 0, fvV (some (x1, x2))]) ?_ rfl ?_
    · simp [results, Tryd.results9, go_sem, fvV]
    · exact ⟨Or.inl ⟨(x1, x2), hxH.out, rfl⟩, hB2⟩
  · have hxH : Hid _ := hx
    clear hx
    go_wp2_with fail
    refine bodyPost_ret (v := .tuple #[.int .i64 0, .int .i64 0, .int .i64 0, .iface 83 (.int .i64 90)]) ?_ rfl ?_
    · simp [results, Tryd.results9, go_sem]
    · exact ⟨Or.inr (Or.inl ⟨hxH.out, rfl⟩), hB2⟩
  · have hGH : Hid _ := hG
    obtain ⟨m, hm⟩ : ∃ m, m = (tL (pT (natsOf B) B.length)).length := ⟨_, rfl⟩
    obtain ⟨tt, htt⟩ : ∃ tt, tt = ttL (tL (pT (natsOf B) B.length)) := ⟨_, rfl⟩
    have hmH : Hid _ := hm
    have htH : Hid _ := htt
    rw [← hm, ← htt] at hS
    rw [← hm]
    clear hG hm htt
    rcases Nat.eq_zero_or_pos m with h0 | h0
    · subst h0
      clear hS
      go_wp2_with fail
      refine bodyPost_ret (v := .tuple #[.int .i64 0, .int .i64 0, .int .i64 0, .nilIface]) ?_ rfl ?_
      · simp [results, Tryd.results9, go_sem]
      · exact ⟨Or.inr (Or.inr ⟨hGH.out, Or.inl ⟨hmH.out.symm, rfl⟩⟩), hB2⟩
    · have hm0 : ¬ (m : Int) = 0 := by omega
      have hmn : ¬ m = 0 := by omega
      have hI0 : (0 : Int) < (m : Int) := by omega
      obtain ⟨hml, _, hz', hc⟩ := hS
      rcases hc with e0 | ⟨b, off, rfl, hb, hcc⟩
      · omega
      have d0 : w2.cell? ⟨b, off, none⟩ = some (.int .i64 (tt 0)) := by have := (hcc 0 h0).1; simpa using this
      have d1 : w2.cell? ⟨b, off + (m - 1) * 3, none⟩ = some (.int .i64 (tt (m - 1))) := (hcc (m - 1) (by omega)).1
      have k2 : (m : Int) - 1 = ((m - 1 : Nat) : Int) := by omega
      have k3 : ((m - 1 : Nat) : Int) < (m : Int) := by omega
      have k4 : (0 : Int) ≤ ((m - 1 : Nat) : Int) := by omega
      have hfin : Hid (∀ W, Below w2.heap.size w2 W → HeadE (natsOf B) B.length (.returned (.tuple #[.int .i64 (m : Int), .int .i64 (tt 0), .int .i64 (tt (m - 1)), .nilIface])) ∧ Below w.heap.size w W) := (by
        intro W hW
        refine ⟨Or.inr (Or.inr ⟨hGH.out, Or.inr ⟨by rw [← hmH.out]; exact h0, ?_⟩⟩), below_then hB2 hW⟩
        rw [← hmH.out, ← htH.out] : ∀ W, Below w2.heap.size w2 W → HeadE (natsOf B) B.length (.returned (.tuple #[.int .i64 (m : Int), .int .i64 (tt 0), .int .i64 (tt (m - 1)), .nilIface])) ∧ Below w.heap.size w W)
      clear hcc hGH hmH htH hz'
      go_wp2_with fail
      go_quiet (fail)
      go_wp2_with fail
      refine bodyPost_ret (v := .tuple #[.int .i64 (m : Int), .int .i64 (tt 0), .int .i64 (tt (m - 1)), .nilIface]) ?_ rfl ?_
      · simp [results, Tryd.results9, go_sem]
      · exact hfin.out _ (below_drewN (Below.refl _ _) _)
theorem UPg.notf2 {bs : Nat → Nat} {n : Nat} {x : Int × Int} (h : UPg bs n) : ¬ UPf bs n x := by
  obtain ⟨h1, h2, h3, h4⟩ := h
  rintro (g | ⟨_, g | ⟨_, g⟩⟩)
  · rw [h1] at g; cases g
  · unfold TF at g; rw [h2.1] at g; cases g
  · unfold VF at g; rw [h3.1] at g; cases g
theorem UPg.notb2 {bs : Nat → Nat} {n : Nat} (h : UPg bs n) : ¬ UPb bs n := by
  obtain ⟨h1, h2, h3, h4⟩ := h
  rintro ⟨_, g | ⟨_, g | ⟨_, g⟩⟩⟩
  · exact g.2 h2.2
  · exact g.2 h3.2
  · exact g h4
end Go.Proofs.YtfgfeipoddnekaaDoor
