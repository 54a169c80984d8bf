
import Derived.Test.YtaknjkinagppoaaGreatDoorKqMq
import Derived.Test.YtaknjkinagppoaaGreatDoorKqH
import Derived.Test.YtaknjkinagppoaaGreatDoorSameD
import Derived.Test.YtaknjkinagppoaaGreatDoorKyB
import Derived.ProofKit
import Derived.OpenShut
import Derived.Deep.SlicePairs
import Derived.Lib.SmallJoins
namespace Go.Proofs.YtaknjkinagppoaaGreatDoor
open Go.RowKit Go.Shelf
attribute [local go_sem] Oper.semAt_some
set_option linter.unusedVariables false
set_option linter.unusedSimpArgs false
theorem same_nilX (w : World) : Calls Tryz.prog 8 #[.nilIface, bdV 0] w fun e w' => e = .returned (.bool true) ∧ Below w.heap.size w w' := by
  have hB : ∀ o, Below w.heap.size w (w.alloc o) := fun o => (Below.refl _ w).alloc (Nat.le_refl _) o
  unfold bdV
  go_enter Tryz.func8, Tryz.ntmps8
  go_wp2
  go_ret
  exact ⟨rfl, hB _⟩
theorem same_erX (n : Int) (w : World) (hg : ET w) : Calls Tryz.prog 8 #[erN n, bdV n] w fun e w' => e = .returned (.bool true) ∧ Below w.heap.size w w' := by
  by_cases h : n = 0
  · subst h; exact same_nilX w
  · rw [erN, if_neg h]
    exact sameC_miss_miss [] n (by simp [h]) rfl rfl w hg
theorem both_ps (l : List UInt8) : ∃ (c A : Int) (P : Bool), bdR l = .agg #[.int .i64 c, .int .i64 A, .int .i64 0, .bool P, .bool false] ∧ ∀ W, ET W → Calls Tryz.prog 8 #[resE l, .agg #[.int .i64 c, .int .i64 A, .int .i64 0, .bool P, .bool false]] W fun e w' => e = .returned (.bool true) ∧ Below W.heap.size W w' := by
  unfold bdR resE errF
  cases h : (stopP l).2 with
  | some p => exact ⟨53, p, true, rfl, fun W hW => sameC_hit_miss [(false, p)] 53 (by decide) p [] rfl rfl W hW⟩
  | none => exact ⟨rightN (serP l), 0, false, rfl, fun W hW => same_erX (rightN (serP l)) W hW⟩
theorem BQ.new (w : World) (c A : Int) (P : Bool) : BQ w.heap.size c A P (w.alloc (.cells #[.int .i64 c, .int .i64 A, .int .i64 0, .bool P, .bool false] 31)) :=
  ⟨by simp, ⟨by simp [go_sem], by simp [go_sem], by simp [go_sem], by simp [go_sem], by simp [go_sem]⟩, fun i _ => by simp [go_sem]⟩
set_option maxRecDepth 100000 in
set_option maxHeartbeats 8000000 in
theorem keyParses_walk (s : ByteArray) (w : World) (hs : s.size ≤ 1048576) (hT : UT w) (hg : ET w) :
    Calls Tryz.prog 3 #[.string s] w fun e w' => e = .returned (.bool true) ∧ Below w.heap.size w w' := by
  have cL : Hid (∀ W, Below w.heap.size w W → Calls Tryz.prog 6 #[] W fun e w' => e = .returned (.bool true) ∧ Below W.heap.size W w') := fun W hW => live_any W (hT.below hW (Nat.le_refl _)) (ET_below hg hW)
  obtain ⟨c, A, P, eB, hSame⟩ := both_ps s.data.toList
  obtain ⟨S, hS⟩ : ∃ S, resS s.data.toList = S := ⟨_, rfl⟩
  obtain ⟨E, hE⟩ : ∃ E, resE s.data.toList = E := ⟨_, rfl⟩
  have hSl : S.t.length ≤ 9223372036854775807 := by
    rw [← hS]
    unfold resS
    split
    · rename_i h
      have := (right_parts h.2).2.2.1
      omega
    · simp
  have cQ : Hid (∀ W, Below w.heap.size w W → Calls Tryz.prog 4 #[.string s] W fun e w' => ∃ v q, e = .returned (.tuple #[.agg #[.string S.m, .slice v S.t.length q, .string S.f], E]) ∧ TgIn w' v S.t ∧ Below W.heap.size W w') := fun W hW => by
    refine Calls.mono (parse_any s W (by omega) (hT.below hW (Nat.le_refl _)) (ET_below hg hW)) ?_
    rintro e w' ⟨v, h1, h2, h3⟩
    rw [hS, hE] at h1
    rw [hS] at h2
    obtain ⟨va, vc, ev, _, ht⟩ := h2.tin
    subst ev
    exact ⟨va, vc, h1, ht, h3⟩
  have cR : Hid (∀ W, Calls Tryz.prog 5 #[.string s] W fun e w' => ∃ v q, e = .returned (.tuple #[.agg #[.string S.m, .slice v S.t.length q, .string S.f], .agg #[.int .i64 c, .int .i64 A, .int .i64 0, .bool P, .bool false]]) ∧ TgIn w' v S.t ∧ Below W.heap.size W w') := fun W => by
    refine Calls.mono (rparse_any s W hs) ?_
    rintro e w' ⟨v, h1, h2, h3⟩
    rw [hS, eB] at h1
    rw [hS] at h2
    obtain ⟨va, vc, ev, _, ht⟩ := h2.tin
    subst ev
    exact ⟨va, vc, h1, ht, h3⟩
  have cS : Hid (∀ W v q v2 q2, TgIn W v S.t → TgIn W v2 S.t → Calls Tryz.prog 7 #[.agg #[.string S.m, .slice v S.t.length q, .string S.f], .agg #[.string S.m, .slice v2 S.t.length q2, .string S.f]] W fun e w' => e = .returned (.bool true) ∧ Below W.heap.size W w') := fun W v q v2 q2 h1 h2 => by
    have := rsame_any v v2 q q2 S S W ⟨h1, hSl⟩ ⟨h2, hSl⟩
    rw [show decide (serC S S = 0) = true by simp; exact (serC_is.zero S S).2 rfl] at this
    exact this
  rw [hE] at hSame
  have cB : Hid (∀ W, Below w.heap.size w W → Calls Tryz.prog 8 #[E, .agg #[.int .i64 c, .int .i64 A, .int .i64 0, .bool P, .bool false]] W fun e w' => e = .returned (.bool true) ∧ Below W.heap.size W w') := fun W hW => hSame W (ET_below hg hW)
  have hTin : Hid (∀ W W' v, Below W.heap.size W W' → TgIn W v S.t → TgIn W' v S.t) := fun W W' v hb h => h.below hb
  clear hSame hE hS eB hT hg
  obtain ⟨m, t, f⟩ := S
  simp only at cQ cR cS hTin
  obtain ⟨n, hn⟩ : ∃ n, t.length = n := ⟨_, rfl⟩
  rw [hn] at cQ cR cS
  clear hn hSl
  go_enter Tryz.func3, Tryz.ntmps3
  go_wp2_with fail
  refine Calls.mono (cQ.out _ (Below.refl _ _)) ?_
  rintro e w1 ⟨va, vq, rfl, t1, B1⟩
  have A1 : Hid (SB w w1.heap.size m (.slice va n vq) f (w1.alloc (.cells #[.string m, .slice va n vq, .string f] 24))) := SB.new w m _ f ⟨_, _, _, rfl⟩ w1 B1
  have T1 : Hid (TgIn (w1.alloc (.cells #[.string m, .slice va n vq, .string f] 24)) va t) := hTin.out _ _ _ ((Below.refl _ w1).alloc (Nat.le_refl _) _) t1
  clear B1 t1
  go_wp2_with fail
  generalize w1.alloc (.cells #[.string m, .slice va n vq, .string f] 24) = w2 at *
  generalize w1.heap.size = N1 at *
  refine Calls.mono (cR.out _) ?_
  rintro e w3 ⟨vb, vr, rfl, t3, B3⟩
  have A3 := A1.out.below B3
  have T3 := hTin.out _ _ _ B3 T1.out
  have h3 := A3.1.2
  have ba : Below w3.heap.size w3 (w3.alloc (.cells #[.string m, .slice vb n vr, .string f] 24)) := (Below.refl _ w3).alloc (Nat.le_refl _) _
  have A4 := SB.new w m (.slice vb n vr) f ⟨_, _, _, rfl⟩ w3 h3
  have A3' := A3.below ba
  have T3' := hTin.out _ _ _ ba T3
  have T4' := hTin.out _ _ _ ba t3
  clear A3 T3 t3 B3 A1 T1 ba h3
  have hz4 : (w3.alloc (.cells #[.string m, .slice vb n vr, .string f] 24)).heap.size = w3.heap.size + 1 := by simp
  have bb : Below (w3.alloc (.cells #[.string m, .slice vb n vr, .string f] 24)).heap.size (w3.alloc (.cells #[.string m, .slice vb n vr, .string f] 24)) ((w3.alloc (.cells #[.string m, .slice vb n vr, .string f] 24)).alloc (.cells #[.int .i64 c, .int .i64 A, .int .i64 0, .bool P, .bool false] 31)) := (Below.refl _ _).alloc (Nat.le_refl _) _
  have Q5' := BQ.new (w3.alloc (.cells #[.string m, .slice vb n vr, .string f] 24)) c A P
  rw [hz4] at Q5'
  have M5 : Hid (SB w N1 m (.slice va n vq) f ((w3.alloc (.cells #[.string m, .slice vb n vr, .string f] 24)).alloc (.cells #[.int .i64 c, .int .i64 A, .int .i64 0, .bool P, .bool false] 31)) ∧ SB w w3.heap.size m (.slice vb n vr) f ((w3.alloc (.cells #[.string m, .slice vb n vr, .string f] 24)).alloc (.cells #[.int .i64 c, .int .i64 A, .int .i64 0, .bool P, .bool false] 31)) ∧ BQ (w3.heap.size + 1) c A P ((w3.alloc (.cells #[.string m, .slice vb n vr, .string f] 24)).alloc (.cells #[.int .i64 c, .int .i64 A, .int .i64 0, .bool P, .bool false] 31)) ∧ TgIn ((w3.alloc (.cells #[.string m, .slice vb n vr, .string f] 24)).alloc (.cells #[.int .i64 c, .int .i64 A, .int .i64 0, .bool P, .bool false] 31)) va t ∧ TgIn ((w3.alloc (.cells #[.string m, .slice vb n vr, .string f] 24)).alloc (.cells #[.int .i64 c, .int .i64 A, .int .i64 0, .bool P, .bool false] 31)) vb t) := ⟨A3'.below bb, A4.below bb, Q5', hTin.out _ _ _ bb T3', hTin.out _ _ _ bb T4'⟩
  clear bb A3' A4 T3' T4' hz4 Q5'
  go_wp2_with fail
  generalize ((w3.alloc (.cells #[.string m, .slice vb n vr, .string f] 24)).alloc (.cells #[.int .i64 c, .int .i64 A, .int .i64 0, .bool P, .bool false] 31)) = w5 at *
  generalize w3.heap.size + 1 = N3 at *
  generalize w3.heap.size = N2 at *
  obtain ⟨A5, A6, Q5, T5, T6⟩ := M5.out
  clear M5
  refine Calls.mono (cL.out _ A5.1.2) ?_
  rintro e w6 ⟨rfl, B6⟩
  have A7 := A5.below B6
  have A8 := A6.below B6
  have Q6 := Q5.below B6 Q5.1
  have T7 := hTin.out _ _ _ B6 T5
  have T8 := hTin.out _ _ _ B6 T6
  have HT7 : Hid (TgIn w6 va t) := T7
  have HT8 : Hid (TgIn w6 vb t) := T8
  have H6 : Hid (Below w.heap.size w w6) := A7.1.2
  have HQ6 : Hid (BQ N3 c A P w6) := Q6
  obtain ⟨_, ⟨r0, r1, r2⟩, _⟩ := A7
  obtain ⟨_, ⟨p0, p1, p2⟩, _⟩ := A8
  clear A5 A6 Q5 Q6 T5 T6 T7 T8 B6
  go_wp2_with fail
  refine Calls.mono (cS.out _ _ _ _ _ HT7.out HT8.out) ?_
  rintro e w7 ⟨rfl, B7⟩
  have H7 : Hid (Below w.heap.size w w7) := H6.out.trans (B7.mono H6.out.size)
  obtain ⟨_, ⟨c0, c1, c2, c3, c4⟩, _⟩ := HQ6.out.below B7 HQ6.out.1
  clear r0 r1 r2 p0 p1 p2 HT7 HT8 HQ6 B7
  go_wp2_with fail
  refine Calls.mono (cB.out _ H7.out) ?_
  rintro e w8 ⟨rfl, B8⟩
  go_wp2_with fail
  go_ret
  exact ⟨rfl, H7.out.trans (B8.mono H7.out.size)⟩
end Go.Proofs.YtaknjkinagppoaaGreatDoor

namespace Go.Proofs.YtaknjkinagppoaaGreatDoor
open Go.ChangeShapes Go.WideShapes Go.ChangeAt Go.RowKit
set_option linter.unusedVariables false
def strOf : Value → ByteArray
  | .string s => s
  | _ => ⟨#[]⟩
set_option maxRecDepth 100000 in
/-- tags, as they are read. -/
theorem tags_read {H : Type} {enc : TypeId × Value → H} {W : World} {v : Value} {y : DataW H × List MemPlace} {fuel : Nat}
    (hf : DataW.trod enc Tryz.prog W 0 (fun _ => true) true fuel 22 [v] = some y) :
    ∃ a l cap, v = .slice a l.length cap ∧ TgIn W a l ∧ l.length ≤ 9223372036854775807 := by
  rcases Go.Deep.open_slice_pairs Tryz.underlying22 Tryz.underlying43 (by kernel_rfl) rfl rfl (by kernel_rfl) (by kernel_rfl) hf with ⟨hcs, hx⟩ | ⟨a, len, cap, m, n, V0, V1, D0, D1, P0, P1, hcs, _, hl, hm, hmeq, hx, hall⟩
  · simp at hcs
    subst hcs
    exact ⟨none, [], 0, rfl, Or.inl rfl, by simp⟩
  · simp at hcs
    subst hcs
    simp only [if_true] at hmeq
    have hml : len ≤ 9223372036854775807 := by have : maxLen = 9223372036854775807 := rfl; omega
    have key : ∀ i, i < m → ∃ s t, V0 i = .string s ∧ V1 i = .string t := fun i hi => by
      obtain ⟨_, _, t0, t1⟩ := hall i hi
      obtain ⟨s, e0, _⟩ := DataW.trod_string Tryz.underlying9 t0
      obtain ⟨t, e1, _⟩ := DataW.trod_string Tryz.underlying9 t1
      simp at e0 e1
      exact ⟨s, t, e0, e1⟩
    refine ⟨some a, (List.range len).map (fun i => (strOf (V0 i), strOf (V1 i))), cap, by simp, ?_, by simpa using hml⟩
    rcases Nat.eq_zero_or_pos len with h0 | h0
    · subst h0; exact Or.inl rfl
    · right
      obtain ⟨b, off, spot⟩ := a
      have hspot : spot = none := by simpa [Addr.add] using World.cell?_spot (hall 0 (by omega)).1
      subst hspot
      refine ⟨b, off, rfl, ?_, fun i t ht => ?_⟩
      · have h' := (hall 0 (by omega)).1
        rw [Go.WideShapes.add_plain] at h'
        rcases Nat.lt_or_ge b W.heap.size with h2 | h2
        · exact h2
        · simp [World.cell?, Array.getElem?_eq_none h2] at h'
      · have hi : i < len := by
          have := (List.getElem?_eq_some_iff.1 ht).1
          simpa using this
        have et : t = (strOf (V0 i), strOf (V1 i)) := by
          rw [List.getElem?_map, List.getElem?_range hi] at ht
          simpa using ht.symm
        subst et
        obtain ⟨s, u, e0, e1⟩ := key i (by omega)
        obtain ⟨c0, c1, _, _⟩ := hall i (by omega)
        rw [Go.WideShapes.add_plain] at c0 c1
        refine ⟨?_, ?_⟩
        · rw [c0, e0]; rfl
        · rw [← Nat.add_assoc] at c1; rw [c1, e1]; rfl
end Go.Proofs.YtaknjkinagppoaaGreatDoor
