
import Derived.Test.YtfpfeecoideedaaGreatDoorKyI
namespace Go.Proofs.YtfpfeecoideedaaGreatDoor
open Go.RowKit Go.Shelf
attribute [local go_sem] Oper.semAt_some
set_option linter.unusedVariables false
set_option linter.unusedSimpArgs false
/-- a piece as it is handed on: its place, its text. -/
abbrev encP (s : ByteArray) (c : Nat × Nat) : Array Value := #[.int .i64 (c.1 : Int), .string (s.extract c.1 (c.1 + c.2))]
/-- the text's block is kept. -/
def KeepB (B : Nat) (W W' : World) : Prop := W.heap.size ≤ W'.heap.size ∧ W'.heap[B]? = W.heap[B]?
theorem KeepB.cell {B : Nat} {W W' : World} (h : KeepB B W W') (o : Nat) : W'.cell? ⟨B, o, none⟩ = W.cell? ⟨B, o, none⟩ := by
  unfold World.cell?
  simp only [h.2]
theorem below_grown {w w' : World} (h : Below w.heap.size w w') : w.grownBy w' none := ⟨h.os, h.tape, h.output, h.size, fun k hk _ => h.block k hk⟩
set_option maxHeartbeats 8000000 in
set_option maxRecDepth 100000 in
theorem pieces_stops (n : Nat) (hn : 3 ≤ n) (Bn : Nat) (s : ByteArray) (w : World) (hs : s.size ≤ 4611686018427387903) (hBn : Bn < w.heap.size) (hc : w.cell? ⟨Bn, 0, none⟩ = some (.string s)) (hM : ∀ a b, MkOk (s.extract a b)) :
    SeqStopsK Fence.wide n Tryz.prog 116 #[.pointer (some ⟨Bn, 0, none⟩)] (encP s) (KeepB Bn) (fun xs => xs = cutsF s.data.toList s.size 0) (fun pre => pre <+: cutsF s.data.toList s.size 0) s.size w := fun l J Jx W hW hJ hJx hY h0 => by
  have hlen : Hid (s.data.toList.length = s.size) := (Lib.size_eq s).symm
  have hcW : W.cell? ⟨Bn, 0, none⟩ = some (.string s) := by rw [hW.cell (p := ⟨Bn, 0, none⟩) hBn]; exact hc
  have hMH : Hid (∀ k, MkOk (s.extract k s.size)) := fun k => hM k s.size
  clear hM hc
  refine callsIn_of_wp Tryz.func116 rfl trivial ?_ rfl
  simp only [Tryz.ntmps116, List.size_toArray, List.length_cons, List.length_nil, Nat.reduceAdd, Nat.reduceSub, Array.replicate_succ, Array.replicate_zero, List.push_toArray, List.append_toArray, List.nil_append, List.cons_append]
  gi_wp2
  gi_loopw [3] (fun p wr => ∃ (pre : List (Nat × Nat)) (k g : Nat), p = .int .i64 (k : Int) ∧ k ≤ s.size ∧ pre.length ≤ k ∧ s.size - k ≤ g ∧ Hid (cutsF s.data.toList s.size 0 = pre ++ cutsF s.data.toList g k) ∧ wr.cell? ⟨Bn, 0, none⟩ = some (.string s) ∧ W.heap.size ≤ wr.heap.size ∧ J pre wr)
    (fun p _ => s.size - (intOf p).toNat)
  case atStart => exact ⟨[], 0, s.size, rfl, by omega, by simp, by omega, rfl, hcW, Nat.le_refl _, h0⟩
  case round =>
    obtain ⟨pre, k, g, rfl, hk, hpre, hg, hcut, hcr, hWr, hJs⟩ := hrel
    by_cases hlt : k < s.size
    · have hltI : (k : Int) < (s.size : Int) := by omega
      obtain ⟨i, hi⟩ : ∃ i, idxM (s.extract k s.size).data.toList = i := ⟨_, rfl⟩
      have hI : Hid (∀ W, Calls Tryz.prog 117 #[.string (s.extract k s.size), .string ⟨#[44, 32, 61, 92]⟩] W fun e w' => e = .returned (.int .i64 i) ∧ Below W.heap.size W w') := by rw [← hi]; exact hMH.out k
      obtain ⟨z, hz⟩ : ∃ z, szM (s.data.toList.drop k) = z := ⟨_, rfl⟩
      have hzz : 1 ≤ z ∧ k + z ≤ s.size := by
        have h1 : s.data.toList.drop k ≠ [] := by
          intro e
          have := congrArg List.length e
          rw [List.length_drop, hlen.out] at this
          simp at this
          omega
        have h2 := szM_ok h1
        rw [hz, List.length_drop, hlen.out] at h2
        omega
      rw [Lib.extract_to_end] at hi
      have hzi : Hid (z = if i = -1 then s.size - k else if i = 0 then 1 else i.toNat) := by
        have h : szM (s.data.toList.drop k) = if i = -1 then s.size - k else if i = 0 then 1 else i.toNat := by unfold szM; rw [hi, List.length_drop, hlen.out]
        rw [hz] at h
        exact h
      have hige : Hid (-1 ≤ i) := by have := idxM_ge (s.data.toList.drop k); rw [hi] at this; exact this
      have hcut2 : Hid (cutsF s.data.toList s.size 0 = (pre ++ [(k, z)]) ++ cutsF s.data.toList (g - 1) (k + z)) := by
        have h := hcut.out
        obtain ⟨g', rfl⟩ : ∃ g', g = g' + 1 := ⟨g - 1, by omega⟩
        rw [cuts_step (by rw [hlen.out]; exact hlt), hz] at h
        have h2 : cutsF s.data.toList s.size 0 = (pre ++ [(k, z)]) ++ cutsF s.data.toList g' (k + z) := by rw [h]; simp
        exact h2
      clear hi hz hcut
      have h1m : i = -1 ∨ i = 0 ∨ 1 ≤ i := by have := hige.out; omega
      rcases h1m with h | h | h
      · subst h
        have hz1 : z = s.size - k := by have := hzi.out; simpa using this
        have ez : (z : Int) = (s.size : Int) - k := by omega
        have ezH : Hid ((z : Int) = (s.size : Int) - k) := ez
        clear ez hzi hige hz1
        have hsl : ∀ wx, (Instr.slice 9 (.string s) (some (.int .i64 (k : Int))) (some (.int .i64 ((k : Int) + ((s.size : Int) - (k : Int))))) none).run Tryz.prog wx = .ok (.string (s.extract k (k + z))) wx := fun wx => by
          rw [show (k : Int) + ((s.size : Int) - (k : Int)) = ((k + z : Nat) : Int) by have := ezH.out; omega]
          have h := run_slice_string (P := Tryz.prog) (w := wx) 9 s .i64 .i64 (k : Int) ((k + z : Nat) : Int) Tryz.underlying9 (by omega) (by omega) (by omega)
          rw [Int.toNat_natCast, Int.toNat_natCast] at h
          exact h
        gi_wp2
        refine ⟨trivial, fun _ => by omega, ?_⟩
        refine (callsIn_wide.2 (hI.out _)).mono ?_
        rintro e w1 ⟨rfl, hb⟩
        have hJ1 : J pre w1 := hJ pre wr w1 none hJs (below_grown hb) (fun r e => by cases e)
        have hc1 : w1.cell? ⟨Bn, 0, none⟩ = some (.string s) := by rw [hb.cell (p := ⟨Bn, 0, none⟩) (show Bn < wr.heap.size by have := hW.size; omega)]; exact hcr
        obtain ⟨fn, tmps, assign, body, hy, hR⟩ := hY pre (k, z) w1 hJ1 (by omega)
        dsimp only [encP] at hy
        clear hI
        gi_wp2
        refine ⟨fun _ => by omega, hR.mono ?_⟩
        rintro e W3 (⟨rfl, hJ3, hk3⟩ | ⟨rfl, hJx3⟩)
        · have hc3 : W3.cell? ⟨Bn, 0, none⟩ = some (.string s) := (hk3.cell 0).trans hc1
          gi_wp2
          go_roundw
          case rel => exact ⟨pre ++ [(k, z)], k + z, g - 1, by have := ezH.out; first | rfl | (congr 1; omega) | simp, by omega, by simp; omega, by omega, hcut2, hc3, by have := hk3.1; have := hb.size; omega, hJ3⟩
          case measure => have := ezH.out; simp only [intOf]; omega
        · gi_wp2
          refine bodyPost_ret (results_none rfl _ _ _) rfl ?_
          exact ⟨⟨_, rfl⟩, .inr ⟨pre ++ [(k, z)], ⟨_, hcut2.out.symm⟩, hJx3⟩⟩
      · subst h
        have hz1 : z = 1 := by have := hzi.out; simpa using this
        have ez : (z : Int) = 1 := by omega
        have ezH : Hid ((z : Int) = 1) := ez
        clear ez hzi hige hz1
        have hsl : ∀ wx, (Instr.slice 9 (.string s) (some (.int .i64 (k : Int))) (some (.int .i64 ((k : Int) + 1))) none).run Tryz.prog wx = .ok (.string (s.extract k (k + z))) wx := fun wx => by
          rw [show (k : Int) + 1 = ((k + z : Nat) : Int) by have := ezH.out; omega]
          have h := run_slice_string (P := Tryz.prog) (w := wx) 9 s .i64 .i64 (k : Int) ((k + z : Nat) : Int) Tryz.underlying9 (by omega) (by omega) (by omega)
          rw [Int.toNat_natCast, Int.toNat_natCast] at h
          exact h
        gi_wp2
        refine ⟨trivial, fun _ => by omega, ?_⟩
        refine (callsIn_wide.2 (hI.out _)).mono ?_
        rintro e w1 ⟨rfl, hb⟩
        have hJ1 : J pre w1 := hJ pre wr w1 none hJs (below_grown hb) (fun r e => by cases e)
        have hc1 : w1.cell? ⟨Bn, 0, none⟩ = some (.string s) := by rw [hb.cell (p := ⟨Bn, 0, none⟩) (show Bn < wr.heap.size by have := hW.size; omega)]; exact hcr
        obtain ⟨fn, tmps, assign, body, hy, hR⟩ := hY pre (k, z) w1 hJ1 (by omega)
        dsimp only [encP] at hy
        clear hI
        gi_wp2
        refine ⟨fun _ => by omega, hR.mono ?_⟩
        rintro e W3 (⟨rfl, hJ3, hk3⟩ | ⟨rfl, hJx3⟩)
        · have hc3 : W3.cell? ⟨Bn, 0, none⟩ = some (.string s) := (hk3.cell 0).trans hc1
          gi_wp2
          go_roundw
          case rel => exact ⟨pre ++ [(k, z)], k + z, g - 1, by have := ezH.out; first | rfl | (congr 1; omega) | simp, by omega, by simp; omega, by omega, hcut2, hc3, by have := hk3.1; have := hb.size; omega, hJ3⟩
          case measure => have := ezH.out; simp only [intOf]; omega
        · gi_wp2
          refine bodyPost_ret (results_none rfl _ _ _) rfl ?_
          exact ⟨⟨_, rfl⟩, .inr ⟨pre ++ [(k, z)], ⟨_, hcut2.out.symm⟩, hJx3⟩⟩
      · have h0 : (i == 0) = false := by simp; omega
        have h1 : (i == -1) = false := by simp; omega
        have hz1 : (z : Int) = i := by have := hzi.out; rw [if_neg (by omega), if_neg (by omega)] at this; omega
        subst hz1
        have ezH : Hid ((z : Int) = (z : Int)) := rfl
        obtain ⟨hzz1, hzz2⟩ := hzz
        clear hzi hige h
        have hsl : ∀ wx, (Instr.slice 9 (.string s) (some (.int .i64 (k : Int))) (some (.int .i64 ((k : Int) + (z : Int)))) none).run Tryz.prog wx = .ok (.string (s.extract k (k + z))) wx := fun wx => by
          rw [show (k : Int) + (z : Int) = ((k + z : Nat) : Int) by have := ezH.out; omega]
          have h := run_slice_string (P := Tryz.prog) (w := wx) 9 s .i64 .i64 (k : Int) ((k + z : Nat) : Int) Tryz.underlying9 (by omega) (by omega) (by omega)
          rw [Int.toNat_natCast, Int.toNat_natCast] at h
          exact h
        gi_wp2
        refine ⟨trivial, fun _ => by omega, ?_⟩
        refine (callsIn_wide.2 (hI.out _)).mono ?_
        rintro e w1 ⟨rfl, hb⟩
        have hJ1 : J pre w1 := hJ pre wr w1 none hJs (below_grown hb) (fun r e => by cases e)
        have hc1 : w1.cell? ⟨Bn, 0, none⟩ = some (.string s) := by rw [hb.cell (p := ⟨Bn, 0, none⟩) (show Bn < wr.heap.size by have := hW.size; omega)]; exact hcr
        obtain ⟨fn, tmps, assign, body, hy, hR⟩ := hY pre (k, z) w1 hJ1 (by omega)
        dsimp only [encP] at hy
        clear hI
        gi_wp2
        refine ⟨fun _ => by omega, hR.mono ?_⟩
        rintro e W3 (⟨rfl, hJ3, hk3⟩ | ⟨rfl, hJx3⟩)
        · have hc3 : W3.cell? ⟨Bn, 0, none⟩ = some (.string s) := (hk3.cell 0).trans hc1
          gi_wp2
          go_roundw
          case rel => exact ⟨pre ++ [(k, z)], k + z, g - 1, by have := ezH.out; first | rfl | (congr 1; omega) | simp, by omega, by simp; omega, by omega, hcut2, hc3, by have := hk3.1; have := hb.size; omega, hJ3⟩
          case measure => have := ezH.out; simp only [intOf]; omega
        · gi_wp2
          refine bodyPost_ret (results_none rfl _ _ _) rfl ?_
          exact ⟨⟨_, rfl⟩, .inr ⟨pre ++ [(k, z)], ⟨_, hcut2.out.symm⟩, hJx3⟩⟩
    · have hltI : ¬ (k : Int) < (s.size : Int) := by omega
      have hend := cuts_end (l := s.data.toList) (n := g) (k := k) (by rw [hlen.out]; omega)
      have hcut2 : Hid (cutsF s.data.toList s.size 0 = pre) := by have := hcut.out; rw [hend, List.append_nil] at this; exact this
      clear hcut hend
      gi_wp2
      go_end0
      first | exact ⟨⟨_, rfl⟩, .inl ⟨pre, hcut2.out.symm, hJs⟩⟩ | (rw [hcut2.out]; exact ⟨⟨_, rfl⟩, .inl hJs⟩) | (rw [hcut2.out]; exact .inl hJs) | (rw [hcut2.out]; exact hJs)
end Go.Proofs.YtfpfeecoideedaaGreatDoor
