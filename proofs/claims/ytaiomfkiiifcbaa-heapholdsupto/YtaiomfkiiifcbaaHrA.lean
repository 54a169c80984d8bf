
import Derived.Test.YtaiomfkiiifcbaaHqA
namespace Go.Proofs.Ytaiomfkiiifcbaa.Hp
open Go.RowKit Go.Maps
set_option linter.unusedVariables false
set_option linter.unusedSimpArgs false
set_option maxRecDepth 100000
theorem ba_toList {a b : ByteArray} (h : a.toList = b.toList) : a = b := by
  have e : ∀ s : ByteArray, s.toList = s.data.toList := fun s => by first | exact ByteArray.toList_eq s | exact Lib.toList_data s | simp
  rw [e, e] at h
  exact ByteArray.ext (Array.toList_inj.1 h)
set_option maxHeartbeats 4000000 in
/-- the document's order. -/
theorem rahead_gr (most : Bool) (a b : Ent) (W : World) : Calls Try.prog 11 #[.bool most, eV a, eV b] W fun e w' => e = .returned (.bool (ahd most a b)) ∧ GR W w' := by
  have fin : Hid (GR W ((W.alloc (.cells #[.int .i64 a.1, .string a.2] 32)).alloc (.cells #[.int .i64 b.1, .string b.2] 32))) := ((GR.refl W).alloc _).alloc _
  have hs := less_str a.2 b.2
  have LE := lowB_eq a b
  have ZR := strC_is.zero a.2 b.2
  have FL := strC_is.flip a.2 b.2
  have LE2 := lowB_eq b a
  unfold eV
  by_cases c1 : a.1 < b.1
  · have r : Hid (ahd most a b = !most) := by
      have e1 : lowB a b = true := LE.2 (Or.inl c1)
      cases most
      · exact e1
      · exact swo_asym lowB_swo e1
    generalize ahd most a b = bv at r ⊢
    clear hs LE ZR FL LE2
    cases most with
    | false =>
      go_enter Try.func11, Try.ntmps11
      go_wp2_with fail
      go_ret
      exact ⟨by rw [r.out]; rfl, fin.out⟩
    | true =>
      go_enter Try.func11, Try.ntmps11
      go_wp2_with fail
      go_ret
      exact ⟨by rw [r.out]; rfl, fin.out⟩
  · by_cases c2 : a.1 = b.1
    · generalize hq : decide (strC a.2 b.2 < 0) = q at hs
      cases q with
      | true =>
        have e1 : lowB a b = true := LE.2 (Or.inr ⟨c2, of_decide_eq_true hq⟩)
        have r : Hid (ahd most a b = !most) := by
          cases most
          · exact e1
          · exact swo_asym lowB_swo e1
        generalize ahd most a b = bv at r ⊢
        rw [c2] at fin ⊢
        clear LE ZR FL LE2 e1 hq c1 c2
        cases most with
        | false =>
          go_enter Try.func11, Try.ntmps11
          go_wp2_with fail
          go_ret
          exact ⟨by rw [r.out]; rfl, fin.out⟩
        | true =>
          go_enter Try.func11, Try.ntmps11
          go_wp2_with fail
          go_ret
          exact ⟨by rw [r.out]; rfl, fin.out⟩
      | false =>
        have hge : ¬ strC a.2 b.2 < 0 := of_decide_eq_false hq
        have e1 : lowB a b = false := by
          cases h : lowB a b with
          | false => rfl
          | true => have := LE.1 h; omega
        by_cases c3 : a.2 = b.2
        · have r : Hid (ahd most a b = false) := by
            cases most
            · exact e1
            · show lowB b a = false
              have : a = b := Prod.ext c2 c3
              rw [this]; exact lowB_swo.irrefl b
          generalize ahd most a b = bv at r ⊢
          obtain ⟨a1, a2⟩ := a
          obtain ⟨b1, b2⟩ := b
          simp only at c2 c3
          subst c2 c3
          simp only at hs fin ⊢
          clear LE ZR FL LE2 e1 hq c1 hge
          cases most with
          | false =>
            go_enter Try.func11, Try.ntmps11
            go_wp2_with fail
            go_ret
            exact ⟨by rw [r.out]; rfl, fin.out⟩
          | true =>
            go_enter Try.func11, Try.ntmps11
            go_wp2_with fail
            go_ret
            exact ⟨by rw [r.out]; rfl, fin.out⟩
        · have r : Hid (ahd most a b = most) := by
            cases most
            · exact e1
            · show lowB b a = true
              refine LE2.2 (Or.inr ⟨c2.symm, ?_⟩)
              have : strC a.2 b.2 ≠ 0 := fun q => c3 (ZR.1 q)
              omega
          have hb : ¬ a.2.toList = b.2.toList := fun q => c3 (ba_toList q)
          generalize ahd most a b = bv at r ⊢
          rw [c2] at fin ⊢
          clear LE ZR FL LE2 e1 hq c1 c2 hge
          cases most with
          | false =>
            go_enter Try.func11, Try.ntmps11
            go_wp2_with fail
            go_ret
            exact ⟨by rw [r.out]; rfl, fin.out⟩
          | true =>
            go_enter Try.func11, Try.ntmps11
            go_wp2_with fail
            go_ret
            exact ⟨by rw [r.out]; rfl, fin.out⟩
    · have r : Hid (ahd most a b = most) := by
        cases most
        · show lowB a b = false
          cases h : lowB a b with
          | false => rfl
          | true => have := LE.1 h; omega
        · exact LE2.2 (Or.inl (by omega))
      have hb : (a.1 == b.1) = false := by simpa using c2
      generalize ahd most a b = bv at r ⊢
      clear LE ZR FL LE2 hs
      cases most with
      | false =>
        go_enter Try.func11, Try.ntmps11
        go_wp2_with fail
        go_ret
        exact ⟨by rw [r.out]; rfl, fin.out⟩
      | true =>
        go_enter Try.func11, Try.ntmps11
        go_wp2_with fail
        go_ret
        exact ⟨by rw [r.out]; rfl, fin.out⟩
end Go.Proofs.Ytaiomfkiiifcbaa.Hp
