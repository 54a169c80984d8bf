
import Derived.Test.YtnfpommplokemaaDoorParB
import Derived.Deep.CutRange
namespace Go.Proofs.YtnfpommplokemaaDoor
open Go.RowKit
set_option linter.unusedVariables false
set_option linter.unusedSimpArgs false
/-- while the document reads a text: nothing is told yet; the sum so far. -/
structure QZ (w : World) (X : Int) (wx : World) : Prop where
  r : wx.cell? ⟨w.heap.size, 0, none⟩ = some (.int .i64 0) ∧ wx.cell? ⟨w.heap.size, 1, none⟩ = some (.int .u64 0)
  e : wx.cell? ⟨w.heap.size + 1, 0, none⟩ = some (.int .i64 0) ∧ wx.cell? ⟨w.heap.size + 1, 1, none⟩ = some (.int .i64 0) ∧ wx.cell? ⟨w.heap.size + 1, 2, none⟩ = some (.int .i64 0) ∧ wx.cell? ⟨w.heap.size + 1, 3, none⟩ = some (.bool false) ∧ wx.cell? ⟨w.heap.size + 1, 4, none⟩ = some (.bool false)
  s : wx.cell? ⟨w.heap.size + 1 + 1, 0, none⟩ = some (.int .i64 (sH X)) ∧ wx.cell? ⟨w.heap.size + 1 + 1, 1, none⟩ = some (.int .u64 (sL X))
  f : ∀ o, wx.frozen? ⟨w.heap.size, o, none⟩ = false ∧ wx.frozen? ⟨w.heap.size + 1, o, none⟩ = false ∧ wx.frozen? ⟨w.heap.size + 1 + 1, o, none⟩ = false
  b : Below w.heap.size w wx
  sz : w.heap.size + 1 + 1 < wx.heap.size
theorem QZ.below {w : World} {X : Int} {wx wy : World} (h : QZ w X wx) (hb : Below wx.heap.size wx wy) : QZ w X wy := by
  obtain ⟨r, e, s, f, b, sz⟩ := h
  have cc : ∀ (p : Nat) (o : Nat), p ≤ w.heap.size + 1 + 1 → wy.cell? ⟨p, o, none⟩ = wx.cell? ⟨p, o, none⟩ := fun p o hp => hb.cell (p := ⟨p, o, none⟩) (by simp; omega)
  have ff : ∀ (p : Nat) (o : Nat), p ≤ w.heap.size + 1 + 1 → wy.frozen? ⟨p, o, none⟩ = wx.frozen? ⟨p, o, none⟩ := fun p o hp => hb.frozen (p := ⟨p, o, none⟩) (by simp; omega)
  have hs := hb.size
  refine ⟨?_, ?_, ?_, fun o => ?_, below_then b hb, by omega⟩
  · rw [cc _ _ (by omega), cc _ _ (by omega)]; exact r
  · rw [cc _ _ (by omega), cc _ _ (by omega), cc _ _ (by omega), cc _ _ (by omega), cc _ _ (by omega)]; exact e
  · rw [cc _ _ (by omega), cc _ _ (by omega)]; exact s
  · rw [ff _ _ (by omega), ff _ _ (by omega), ff _ _ (by omega)]; exact f o
theorem QZ.drew {w : World} {X : Int} {wx : World} (h : QZ w X wx) : QZ w X wx.drew := ⟨h.r, h.e, h.s, h.f, h.b.drew, h.sz⟩
theorem QZ.put {w : World} {X : Int} {wx : World} (h : QZ w X wx) (Y : Int) : QZ w Y ((wx.setCell ⟨w.heap.size + 1 + 1, 0, none⟩ (.int .i64 (sH Y))).setCell ⟨w.heap.size + 1 + 1, 1, none⟩ (.int .u64 (sL Y))) := by
  obtain ⟨r, e, s, f, b, sz⟩ := h
  have ot : ∀ p o x y, p ≠ w.heap.size + 1 + 1 → ((wx.setCell ⟨w.heap.size + 1 + 1, 0, none⟩ x).setCell ⟨w.heap.size + 1 + 1, 1, none⟩ y).cell? ⟨p, o, none⟩ = wx.cell? ⟨p, o, none⟩ := fun p o x y hp => by
    rw [World.cell?_setCell_other _ _ _ _ (by intro e; injection e with e1; omega), World.cell?_setCell_other _ _ _ _ (by intro e; injection e with e1; omega)]
  refine ⟨?_, ?_, ⟨?_, ?_⟩, fun o => by simpa using f o, (b.setCell (p := ⟨w.heap.size + 1 + 1, 0, none⟩) (show w.heap.size ≤ w.heap.size + 1 + 1 by omega) _).setCell (p := ⟨w.heap.size + 1 + 1, 1, none⟩) (show w.heap.size ≤ w.heap.size + 1 + 1 by omega) _, by simpa using sz⟩
  · rw [ot _ _ _ _ (by omega), ot _ _ _ _ (by omega)]; exact r
  · rw [ot _ _ _ _ (by omega), ot _ _ _ _ (by omega), ot _ _ _ _ (by omega), ot _ _ _ _ (by omega), ot _ _ _ _ (by omega)]; exact e
  · rw [World.cell?_setCell_other _ _ _ _ (by simp)]; exact World.cell?_setCell_same _ _ _ s.1
  · exact World.cell?_setCell_same _ _ _ (u := .int .u64 (sL X)) (by rw [World.cell?_setCell_other _ _ _ _ (by simp)]; exact s.2)
theorem wr_addw (P n : Int) : wr (wr P + n) = wr (P + n) := by
  have h1 : ∃ q, wr P = P - 340282366920938463463374607431768211456 * q := ⟨(P + 170141183460469231731687303715884105728) / 340282366920938463463374607431768211456, by unfold wr; omega⟩
  obtain ⟨q, hq⟩ := h1
  rw [hq]; unfold wr; omega
theorem added_next (Y X : Int) (w : World) : Calls Tryd.prog 19 #[.agg #[.int .i64 (sH Y), .int .u64 (sL Y)], .agg #[.int .i64 (sH X), .int .u64 (sL X)]] w fun e w' => e = .returned (.agg #[.int .i64 (sH (wr (Y + X))), .int .u64 (sL (wr (Y + X)))]) ∧ Below w.heap.size w w' := by
  have h := added_any (sH Y) (sL Y) (sH X) (sL X) (U64_sL _) (U64_sL _) w
  rw [sv_H_L, sv_H_L] at h; exact h
theorem rplus_next (Y d : Int) (hY : S128 Y) (hd : I64 d) (w : World) : Calls Tryd.prog 20 #[.agg #[.int .i64 (sH Y), .int .u64 (sL Y)], .int .i64 d] w fun e w' => e = .returned (.agg #[.int .i64 (sH (wr (Y + d))), .int .u64 (sL (wr (Y + d)))]) ∧ Below w.heap.size w w' := by
  have h := rplus_any (sH Y) (sL Y) d (I64_sH Y hY) (U64_sL Y) hd w
  rw [sv_H_L] at h; exact h
theorem rprint_next (Y : Int) (hY : S128 Y) (w : World) : Calls Tryd.prog 21 #[.agg #[.int .i64 (sH Y), .int .u64 (sL Y)]] w fun e w' => e = .returned (.string (decS Y)) ∧ Below w.heap.size w w' := by
  have h := rprint_any (sH Y) (sL Y) (I64_sH Y hY) (U64_sL Y) w
  rw [sv_H_L] at h; exact h
theorem QZ.start (w : World) : QZ w 0 (((w.alloc (.cells #[.int .i64 0, .int .u64 0] 25)).alloc (.cells #[.int .i64 0, .int .i64 0, .int .i64 0, .bool false, .bool false] 32)).alloc (.cells #[.int .i64 0, .int .u64 0] 25)) := by
  have e0 : sH 0 = 0 := by decide
  have e1 : sL 0 = 0 := by decide
  refine ⟨⟨by simp [go_sem], by simp [go_sem]⟩, ⟨by simp [go_sem], by simp [go_sem], by simp [go_sem], by simp [go_sem], by simp [go_sem]⟩, ⟨by rw [e0]; simp [go_sem], by rw [e1]; simp [go_sem]⟩, fun o => ⟨by simp [go_sem], by simp [go_sem], by simp [go_sem]⟩, below_new (below_new (below_new (Below.refl _ _) _) _) _, by simp⟩
theorem docB_none (T : ByteArray) (h : T.size = 0) : docB T.data.toList = false := by
  have : T.data.toList = [] := by
    have h2 : T.data.toList.length = T.size := rfl
    exact List.eq_nil_of_length_eq_zero (by omega)
  rw [this]; rfl
theorem docB_some (T : ByteArray) (h : 0 < T.size) : docB T.data.toList = ((((T[0]'h).toNat : Nat) : Int) == 45) := by
  have h2 : T.data.toList.length = T.size := rfl
  have h3 : T.data.toList.head? = some (T[0]'h) := by
    rw [List.head?_eq_getElem?, List.getElem?_eq_getElem (by omega)]; rfl
  unfold docB; rw [h3]
  generalize (T[0]'h) = x
  rw [Bool.eq_iff_iff]
  simp only [beq_iff_eq, Option.some.injEq]
  constructor
  · rintro rfl; rfl
  · intro h; exact UInt8.toNat_inj.1 (by have : (45 : UInt8).toNat = 45 := rfl; omega)
theorem get_nat (T : ByteArray) (k : Nat) (h : k < T.size) : (T.data.toList.getD k 0).toNat = (T[k]'h).toNat := by
  have h2 : k < T.data.toList.length := h
  rw [List.getD_eq_getElem?_getD, List.getElem?_eq_getElem h2]; rfl
/-- what the document tells of a text. -/
def PT (T : ByteArray) (e : Ending) : Prop :=
  (∃ v, S128 v ∧ decS v = T ∧ e = .returned (.tuple #[.agg #[.int .i64 (sH v), .int .u64 (sL v)], .agg #[.int .i64 0, .int .i64 0, .int .i64 0, .bool false, .bool false]])) ∨
  ((∀ v, S128 v → decS v ≠ T) ∧ e = .returned (.tuple #[.agg #[.int .i64 0, .int .u64 0], .agg #[.int .i64 31, .int .i64 0, .int .i64 0, .bool false, .bool false]]))
set_option maxRecDepth 100000 in
set_option maxHeartbeats 8000000 in
theorem rparse_any (T : ByteArray) (w : World) : Calls Tryd.prog 6 #[.string T] w fun e w' => PT T e ∧ Below w.heap.size w w' := by
  obtain ⟨b, hb⟩ : ∃ b, b = docB T.data.toList := ⟨_, rfl⟩
  have hbH : Hid _ := hb
  clear hb
  go_enter Tryd.func6, Tryd.ntmps6
  go_upto_region 2 with fail
  go_cut [5] from 10 (fun s wx => s = .bool b ∧ QZ w 0 wx)
  case first =>
    by_cases h0 : T.size = 0
    · have h0I : ¬ (0 : Int) < (T.size : Int) := by omega
      have hbb := docB_none T h0
      rw [← hbH.out] at hbb
      subst hbb
      go_wp2_with fail
      go_meet
      exact ⟨rfl, QZ.start w⟩
    · have h1 : 0 < T.size := by omega
      have h0I : (0 : Int) < (T.size : Int) := by omega
      have hbb := docB_some T h1
      rw [← hbH.out] at hbb
      go_wp2_with fail
      go_meet
      exact ⟨by rw [hbb], QZ.start w⟩
  case rest =>
    obtain ⟨rfl, hQ0⟩ := hcut
    go_wp2_with fail
    go_loopw [6] (fun c wx => ∃ k : Nat, c = .int .i64 (k : Int) ∧ k ≤ T.size ∧ QZ w (docV T.data.toList b k) wx) (fun c _ => T.size - (intOf c).toNat)
    case atStart => exact ⟨0, rfl, Nat.zero_le _, hQ0⟩
    case round =>
      clear hQ0
      obtain ⟨k, rfl, hk, hQ⟩ := hrel
      by_cases hgo : k < T.size ∧ T.size ≤ 40
      · obtain ⟨hkl, h40⟩ := hgo
        have hkI : (k : Int) < (T.size : Int) := by omega
        have h40I : (T.size : Int) ≤ 40 := by omega
        have k0 : (0 : Int) ≤ (k : Int) := by omega
        by_cases hskip : k = 0 ∧ b = true
        · obtain ⟨rfl, rfl⟩ := hskip
          have hn : Hid (docV T.data.toList true 0 = docV T.data.toList true (0 + 1)) := rfl
          go_wp2_with fail
          go_roundw
          case rel =>
            refine ⟨0 + 1, by go_num, by omega, ?_⟩
            rw [← hn.out]; exact hQ
          case measure => simp [intOf]; omega
        · have hstep : Hid (docV T.data.toList b (k + 1) = Go.Proofs.YtnfpommplokemaaDoor.wr (docV T.data.toList b k * 10 + (if b = true then - docD T.data.toList k else docD T.data.toList k))) := if_neg hskip
          have hdig : Hid (docD T.data.toList k = ((T[k]'hkl).toNat : Int) - 48) := by unfold Hid docD; rw [get_nat T k hkl]
          have hbad : Hid (¬ (48 ≤ (T[k]'hkl).toNat ∧ (T[k]'hkl).toNat ≤ 57) → ∀ v, S128 v → decS v ≠ T) := fun hno v hv hT => by
            refine hno ?_
            have := doc_dig v k (by rw [hT]; exact hkl) (by rw [hT, ← hbH.out]; exact hskip)
            rw [hT, get_nat T k hkl] at this; exact this
          have hXS := docV_S T.data.toList b k
          obtain ⟨X, hX⟩ : ∃ X, X = docV T.data.toList b k := ⟨_, rfl⟩
          rw [← hX] at hQ hXS hstep
          clear hX
          have r0 := hQ.r.1
          have r1 := hQ.r.2
          obtain ⟨e0, e1, e2, e3, e4⟩ := hQ.e
          have f0 := hQ.f 0
          have f1 := hQ.f 1
          have f2 := hQ.f 2
          have f3 := hQ.f 3
          have f4 := hQ.f 4
          have s0 := hQ.s.1
          have s1 := hQ.s.2
          have hsz := hQ.sz
          have hQH : Hid _ := hQ
          have hXH : Hid _ := hXS
          have hskH : Hid _ := hskip
          clear hQ hXS hskip
          go_upto_region 6 with fail
          go_cut [33] from 18 to 64 (fun s wx => s = .bool false ∧ wr = wx)
          case first =>
            by_cases hk0 : k = 0
            · have hb0 : b = false := by
                cases b
                · rfl
                · exact absurd ⟨hk0, rfl⟩ hskH.out
              subst hk0 hb0
              go_wp2_with fail
              go_meet
              exact ⟨rfl, rfl⟩
            · have hk1 : ((k : Int) == 0) = false := by rw [beq_eq_false_iff_ne]; omega
              go_wp2_with fail
              go_meet
              exact ⟨rfl, rfl⟩
          case rest =>
            obtain ⟨rfl, rfl⟩ := hcut
            by_cases d1 : (T[k]'hkl).toNat < 48
            · have d1I : ((T[k]'hkl).toNat : Int) < 48 := by omega
              have hR : Hid (∀ v, S128 v → decS v ≠ T) := hbad.out (by omega)
              go_wp2_with fail
              refine (rnew_any 31 _).mono ?_
              rintro e w6 ⟨rfl, B6⟩
              have z6 := B6.size
              have k2 : w6.cell? ⟨w.heap.size, 0, none⟩ = some (.int .i64 0) := by rw [B6.cell (by simp; omega)]; exact r0
              have k3 : w6.cell? ⟨w.heap.size, 1, none⟩ = some (.int .u64 0) := by rw [B6.cell (by simp; omega)]; exact r1
              have h0 : w6.cell? ⟨w.heap.size + 1, 0, none⟩ = some (.int .i64 0) := by rw [B6.cell (by simp; omega)]; exact e0
              have h1 : w6.cell? ⟨w.heap.size + 1, 1, none⟩ = some (.int .i64 0) := by rw [B6.cell (by simp; omega)]; exact e1
              have h2 : w6.cell? ⟨w.heap.size + 1, 2, none⟩ = some (.int .i64 0) := by rw [B6.cell (by simp; omega)]; exact e2
              have h3 : w6.cell? ⟨w.heap.size + 1, 3, none⟩ = some (.bool false) := by rw [B6.cell (by simp; omega)]; exact e3
              have h4 : w6.cell? ⟨w.heap.size + 1, 4, none⟩ = some (.bool false) := by rw [B6.cell (by simp; omega)]; exact e4
              have i0 : w6.frozen? ⟨w.heap.size, 0, none⟩ = false := by rw [B6.frozen (by simp; omega)]; exact f0.1
              have i1 : w6.frozen? ⟨w.heap.size, 1, none⟩ = false := by rw [B6.frozen (by simp; omega)]; exact f1.1
              have j0 : w6.frozen? ⟨w.heap.size + 1, 0, none⟩ = false := by rw [B6.frozen (by simp; omega)]; exact f0.2.1
              have j1 : w6.frozen? ⟨w.heap.size + 1, 1, none⟩ = false := by rw [B6.frozen (by simp; omega)]; exact f1.2.1
              have j2 : w6.frozen? ⟨w.heap.size + 1, 2, none⟩ = false := by rw [B6.frozen (by simp; omega)]; exact f2.2.1
              have j3 : w6.frozen? ⟨w.heap.size + 1, 3, none⟩ = false := by rw [B6.frozen (by simp; omega)]; exact f3.2.1
              have j4 : w6.frozen? ⟨w.heap.size + 1, 4, none⟩ = false := by rw [B6.frozen (by simp; omega)]; exact f4.2.1
              have P6 := below_then hQH.out.b B6
              clear r0 r1 e0 e1 e2 e3 e4 f0 f1 f2 f3 f4 B6 s0 s1
              go_wp2_with fail
              simp [bodyPost, results, Tryd.results6, go_sem, k2, k3, h0, h1, h2, h3, h4]
              exact ⟨Or.inr ⟨hR.out, rfl⟩, setBad ((P6.setCell (p := ⟨w.heap.size, 0, none⟩) (Nat.le_refl _) _).setCell (p := ⟨w.heap.size, 1, none⟩) (Nat.le_refl _) _) (Nat.le_succ _)⟩
            · have d1I : ¬ ((T[k]'hkl).toNat : Int) < 48 := by omega
              by_cases d2 : 57 < (T[k]'hkl).toNat
              · have d2I : (57 : Int) < ((T[k]'hkl).toNat : Int) := by omega
                have hR : Hid (∀ v, S128 v → decS v ≠ T) := hbad.out (by omega)
                go_wp2_with fail
                refine (rnew_any 31 _).mono ?_
                rintro e w6 ⟨rfl, B6⟩
                have z6 := B6.size
                have k2 : w6.cell? ⟨w.heap.size, 0, none⟩ = some (.int .i64 0) := by rw [B6.cell (by simp; omega)]; exact r0
                have k3 : w6.cell? ⟨w.heap.size, 1, none⟩ = some (.int .u64 0) := by rw [B6.cell (by simp; omega)]; exact r1
                have h0 : w6.cell? ⟨w.heap.size + 1, 0, none⟩ = some (.int .i64 0) := by rw [B6.cell (by simp; omega)]; exact e0
                have h1 : w6.cell? ⟨w.heap.size + 1, 1, none⟩ = some (.int .i64 0) := by rw [B6.cell (by simp; omega)]; exact e1
                have h2 : w6.cell? ⟨w.heap.size + 1, 2, none⟩ = some (.int .i64 0) := by rw [B6.cell (by simp; omega)]; exact e2
                have h3 : w6.cell? ⟨w.heap.size + 1, 3, none⟩ = some (.bool false) := by rw [B6.cell (by simp; omega)]; exact e3
                have h4 : w6.cell? ⟨w.heap.size + 1, 4, none⟩ = some (.bool false) := by rw [B6.cell (by simp; omega)]; exact e4
                have i0 : w6.frozen? ⟨w.heap.size, 0, none⟩ = false := by rw [B6.frozen (by simp; omega)]; exact f0.1
                have i1 : w6.frozen? ⟨w.heap.size, 1, none⟩ = false := by rw [B6.frozen (by simp; omega)]; exact f1.1
                have j0 : w6.frozen? ⟨w.heap.size + 1, 0, none⟩ = false := by rw [B6.frozen (by simp; omega)]; exact f0.2.1
                have j1 : w6.frozen? ⟨w.heap.size + 1, 1, none⟩ = false := by rw [B6.frozen (by simp; omega)]; exact f1.2.1
                have j2 : w6.frozen? ⟨w.heap.size + 1, 2, none⟩ = false := by rw [B6.frozen (by simp; omega)]; exact f2.2.1
                have j3 : w6.frozen? ⟨w.heap.size + 1, 3, none⟩ = false := by rw [B6.frozen (by simp; omega)]; exact f3.2.1
                have j4 : w6.frozen? ⟨w.heap.size + 1, 4, none⟩ = false := by rw [B6.frozen (by simp; omega)]; exact f4.2.1
                have P6 := below_then hQH.out.b B6
                clear r0 r1 e0 e1 e2 e3 e4 f0 f1 f2 f3 f4 B6 s0 s1
                go_wp2_with fail
                simp [bodyPost, results, Tryd.results6, go_sem, k2, k3, h0, h1, h2, h3, h4]
                exact ⟨Or.inr ⟨hR.out, rfl⟩, setBad ((P6.setCell (p := ⟨w.heap.size, 0, none⟩) (Nat.le_refl _) _).setCell (p := ⟨w.heap.size, 1, none⟩) (Nat.le_refl _) _) (Nat.le_succ _)⟩
              · have d2I : ¬ (57 : Int) < ((T[k]'hkl).toNat : Int) := by omega
                clear e0 e1 e2 e3 e4 r0 r1 f0 f1 f2 f3 f4
                obtain ⟨g, hg⟩ : ∃ g, g = wr.heap.size := ⟨_, rfl⟩
                have hQ1 := hQH.out.below (below_new (Below.refl _ wr) (.cells #[.int .i64 (sH X), .int .u64 (sL X)] 25))
                have c0 : (wr.alloc (.cells #[.int .i64 (sH X), .int .u64 (sL X)] 25)).cell? ⟨wr.heap.size, 0, none⟩ = some (.int .i64 (sH X)) := by simp
                have c1 : (wr.alloc (.cells #[.int .i64 (sH X), .int .u64 (sL X)] 25)).cell? ⟨wr.heap.size, 1, none⟩ = some (.int .u64 (sL X)) := by simp
                have cz : wr.heap.size < (wr.alloc (.cells #[.int .i64 (sH X), .int .u64 (sL X)] 25)).heap.size := by simp
                have c0H : Hid _ := c0
                have c1H : Hid _ := c1
                have czH : Hid _ := cz
                have hQ1H : Hid _ := hQ1
                clear c0 c1 cz hQ1
                go_wp2_with fail
                rw [← hg] at c0H c1H czH ⊢
                rw [← hg] at hsz
                generalize (wr.alloc (.cells #[.int .i64 (sH X), .int .u64 (sL X)] 25)) = W1 at c0H c1H czH hQ1H ⊢
                have hX1 : Hid (Go.Proofs.YtnfpommplokemaaDoor.wr (X * (((0 : Nat) : Int) + 1)) = X) := by
                  show _ = _
                  rw [show X * (((0 : Nat) : Int) + 1) = X by omega]; exact wr_of X hXH.out
                clear s0 s1 hg
                go_loopw [8] (fun c wx => ∃ j : Nat, c = .int .i64 (j : Int) ∧ j ≤ 9 ∧ QZ w (Go.Proofs.YtnfpommplokemaaDoor.wr (X * ((j : Int) + 1))) wx ∧ wx.cell? ⟨g, 0, none⟩ = some (.int .i64 (sH X)) ∧ wx.cell? ⟨g, 1, none⟩ = some (.int .u64 (sL X)) ∧ g < wx.heap.size) (fun c _ => 9 - (intOf c).toNat)
                case atStart => exact ⟨0, rfl, by omega, by rw [hX1.out]; exact hQ1H.out, c0H.out, c1H.out, czH.out⟩
                case round =>
                  clear hX1 hQ1H c0H c1H czH
                  obtain ⟨j, rfl, hj, hQj, q0, q1, hg2⟩ := hrel
                  by_cases hj9 : j < 9
                  · have hjI : (j : Int) < 9 := by omega
                    obtain ⟨Y, hY⟩ : ∃ Y, Y = Go.Proofs.YtnfpommplokemaaDoor.wr (X * ((j : Int) + 1)) := ⟨_, rfl⟩
                    have hYX : Hid (Go.Proofs.YtnfpommplokemaaDoor.wr (Y + X) = Go.Proofs.YtnfpommplokemaaDoor.wr (X * (((j + 1 : Nat) : Int) + 1))) := by
                      show _ = _
                      rw [hY, wr_addw]; congr 1; rw [Int.natCast_add, Int.mul_add, Int.mul_add, Int.mul_add]; simp
                    rw [← hY] at hQj
                    clear hY
                    have s0 := hQj.s.1
                    have s1 := hQj.s.2
                    have hQjH : Hid _ := hQj
                    clear hQj
                    go_wp2_with fail
                    refine (added_next Y X _).mono ?_
                    rintro e w2 ⟨rfl, B2⟩
                    have Q2 := hQjH.out.below B2
                    have z2 := B2.size
                    have t0 : w2.cell? ⟨g, 0, none⟩ = some (.int .i64 (sH X)) := by rw [B2.cell (p := ⟨g, 0, none⟩) hg2]; exact q0
                    have t1 : w2.cell? ⟨g, 1, none⟩ = some (.int .u64 (sL X)) := by rw [B2.cell (p := ⟨g, 1, none⟩) hg2]; exact q1
                    have x0 := Q2.s.1
                    have x1 := Q2.s.2
                    have x2 := (Q2.f 0).2.2
                    have x3 := (Q2.f 1).2.2
                    have x4 := Q2.sz
                    have Q2H : Hid _ := Q2
                    clear Q2 q0 q1 s0 s1 hQjH B2
                    go_wp2_with fail
                    go_roundw
                    case rel =>
                      have hq := Q2H.out.put (Go.Proofs.YtnfpommplokemaaDoor.wr (Y + X))
                      refine ⟨j + 1, by go_num, by omega, ?_, ?_, ?_, by simp; omega⟩
                      · rw [hYX.out] at hq; rw [hYX.out]; exact hq
                      · rw [World.cell?_setCell_other _ _ _ _ (by intro e; injection e with e1; omega), World.cell?_setCell_other _ _ _ _ (by intro e; injection e with e1; omega)]; exact t0
                      · rw [World.cell?_setCell_other _ _ _ _ (by intro e; injection e with e1; omega), World.cell?_setCell_other _ _ _ _ (by intro e; injection e with e1; omega)]; exact t1
                    case measure => simp [intOf]; omega
                  · obtain rfl : j = 9 := by omega
                    obtain ⟨Y, hY⟩ : ∃ Y, Y = Go.Proofs.YtnfpommplokemaaDoor.wr (X * (((9 : Nat) : Int) + 1)) := ⟨_, rfl⟩
                    have hYS : Hid (S128 Y) := by show S128 Y; rw [hY]; exact wr_S128 _
                    have hYd : Hid (∀ d, Go.Proofs.YtnfpommplokemaaDoor.wr (Y + d) = Go.Proofs.YtnfpommplokemaaDoor.wr (X * 10 + d)) := fun d => by rw [hY, wr_addw]; congr 1
                    rw [← hY] at hQj
                    clear hY q0 q1 hg2
                    have s0 := hQj.s.1
                    have s1 := hQj.s.2
                    have hQjH : Hid _ := hQj
                    clear hQj
                    cases b
                    · go_wp2_with fail
                      refine (rplus_next Y (((T[k]'hkl).toNat : Int) - 48) hYS.out (by unfold I64; omega) _).mono ?_
                      rintro e w3 ⟨rfl, B3⟩
                      have Q3 := hQjH.out.below B3
                      have x0 := Q3.s.1
                      have x1 := Q3.s.2
                      have x2 := (Q3.f 0).2.2
                      have x3 := (Q3.f 1).2.2
                      have x4 := Q3.sz
                      have Q3H : Hid _ := Q3
                      have hfin : Hid (Go.Proofs.YtnfpommplokemaaDoor.wr (Y + (((T[k]'hkl).toNat : Int) - 48)) = docV T.data.toList false (k + 1)) := by
                        show _ = _
                        rw [hYd.out, hstep.out, hdig.out]; simp
                      clear Q3 s0 s1 hQjH B3
                      go_wp2_with fail
                      go_roundw
                      case rel =>
                        have hq := Q3H.out.put (Go.Proofs.YtnfpommplokemaaDoor.wr (Y + (((T[k]'hkl).toNat : Int) - 48)))
                        refine ⟨k + 1, by go_num, by omega, ?_⟩
                        rw [hfin.out] at hq; rw [hfin.out]; exact hq
                      case measure => simp [intOf]; omega
                    · go_wp2_with fail
                      refine (rplus_next Y (-(((T[k]'hkl).toNat : Int) - 48)) hYS.out (by unfold I64; omega) _).mono ?_
                      rintro e w3 ⟨rfl, B3⟩
                      have Q3 := hQjH.out.below B3
                      have x0 := Q3.s.1
                      have x1 := Q3.s.2
                      have x2 := (Q3.f 0).2.2
                      have x3 := (Q3.f 1).2.2
                      have x4 := Q3.sz
                      have Q3H : Hid _ := Q3
                      have hfin : Hid (Go.Proofs.YtnfpommplokemaaDoor.wr (Y + (-(((T[k]'hkl).toNat : Int) - 48))) = docV T.data.toList true (k + 1)) := by
                        show _ = _
                        rw [hYd.out, hstep.out, hdig.out]; simp
                      clear Q3 s0 s1 hQjH B3
                      go_wp2_with fail
                      go_roundw
                      case rel =>
                        have hq := Q3H.out.put (Go.Proofs.YtnfpommplokemaaDoor.wr (Y + (-(((T[k]'hkl).toNat : Int) - 48))))
                        refine ⟨k + 1, by go_num, by omega, ?_⟩
                        rw [hfin.out] at hq; rw [hfin.out]; exact hq
                      case measure => simp [intOf]; omega
      · have hXS := docV_S T.data.toList b k
        have hno : Hid (decS (docV T.data.toList b k) ≠ T → ∀ v, S128 v → decS v ≠ T) := fun hne v hv hT => by
          have h40 := doc_len v
          rw [hT] at h40
          have h40' : T.size ≤ 40 := h40
          have hkT : k = T.size := by omega
          have hval := doc_val v hv
          rw [hT, ← hbH.out] at hval
          have : docV T.data.toList b k = v := by rw [hkT]; exact hval
          rw [this] at hne; exact hne hT
        have hXe : Hid _ := rprint_next (docV T.data.toList b k) hXS
        obtain ⟨X, hX⟩ : ∃ X, X = docV T.data.toList b k := ⟨_, rfl⟩
        rw [← hX] at hQ hXS hno hXe
        have r0 := hQ.r.1
        have r1 := hQ.r.2
        have s0 := hQ.s.1
        have s1 := hQ.s.2
        have hsz := hQ.sz
        have hQH : Hid _ := hQ
        have hXH : Hid _ := hXS
        clear hQ hXS hX
        have hexit : (decide ((k : Int) < (T.size : Int)) && decide ((T.size : Int) ≤ 40)) = false := by
          rw [Bool.and_eq_false_iff]
          by_cases h : k < T.size
          · right; simp; omega
          · left; simp; omega
        obtain ⟨P, hP⟩ : ∃ P, P = decS X := ⟨_, rfl⟩
        rw [← hP] at hno hXe
        have hPH : Hid _ := hP
        clear hP
        by_cases c1 : (k : Int) < (T.size : Int)
        · have c2 : ¬ (T.size : Int) ≤ 40 := by omega
          clear hexit hgo
          go_wp2_with fail
          refine (hXe.out _).mono ?_
          rintro e w5 ⟨rfl, B5⟩
          have Q5 := hQH.out.below B5
          have m0 := Q5.s.1
          have m1 := Q5.s.2
          have m2 := Q5.r.1
          have m3 := Q5.r.2
          obtain ⟨e0, e1, e2, e3, e4⟩ := Q5.e
          have m4 := Q5.sz
          have m5 := Q5.b
          have g0 := (Q5.f 0).1
          have g1 := (Q5.f 1).1
          have f0 := (Q5.f 0).2.1
          have f1 := (Q5.f 1).2.1
          have f2 := (Q5.f 2).2.1
          have f3 := (Q5.f 3).2.1
          have f4 := (Q5.f 4).2.1
          clear Q5 hQH s0 s1 r0 r1 hsz
          by_cases hE : P = T
          · have hE2 : (P.toList == T.toList) = true := by rw [hE]; simp
            have hR : Hid (decS X = T) := by unfold Hid; rw [← hPH.out, hE]
            clear hE
            go_wp2_with fail
            simp [bodyPost, results, Tryd.results6, go_sem, m0, m1, m2, m3, e0, e1, e2, e3, e4]
            exact ⟨Or.inl ⟨X, hXH.out, hR.out, rfl⟩, setBad ((m5.setCell (p := ⟨w.heap.size, 0, none⟩) (Nat.le_refl _) _).setCell (p := ⟨w.heap.size, 1, none⟩) (Nat.le_refl _) _) (Nat.le_succ _)⟩
          · have hE2 := ba_ne hE
            have hR : Hid (∀ v, S128 v → decS v ≠ T) := hno.out hE
            clear hE
            go_wp2_with fail
            refine (rnew_any 31 _).mono ?_
            rintro e w6 ⟨rfl, B6⟩
            have z6 := B6.size
            have k2 : w6.cell? ⟨w.heap.size, 0, none⟩ = some (.int .i64 0) := by rw [B6.cell (by simp; omega)]; exact m2
            have k3 : w6.cell? ⟨w.heap.size, 1, none⟩ = some (.int .u64 0) := by rw [B6.cell (by simp; omega)]; exact m3
            have h0 : w6.cell? ⟨w.heap.size + 1, 0, none⟩ = some (.int .i64 0) := by rw [B6.cell (by simp; omega)]; exact e0
            have h1 : w6.cell? ⟨w.heap.size + 1, 1, none⟩ = some (.int .i64 0) := by rw [B6.cell (by simp; omega)]; exact e1
            have h2 : w6.cell? ⟨w.heap.size + 1, 2, none⟩ = some (.int .i64 0) := by rw [B6.cell (by simp; omega)]; exact e2
            have h3 : w6.cell? ⟨w.heap.size + 1, 3, none⟩ = some (.bool false) := by rw [B6.cell (by simp; omega)]; exact e3
            have h4 : w6.cell? ⟨w.heap.size + 1, 4, none⟩ = some (.bool false) := by rw [B6.cell (by simp; omega)]; exact e4
            have i0 : w6.frozen? ⟨w.heap.size, 0, none⟩ = false := by rw [B6.frozen (by simp; omega)]; exact g0
            have i1 : w6.frozen? ⟨w.heap.size, 1, none⟩ = false := by rw [B6.frozen (by simp; omega)]; exact g1
            have j0 : w6.frozen? ⟨w.heap.size + 1, 0, none⟩ = false := by rw [B6.frozen (by simp; omega)]; exact f0
            have j1 : w6.frozen? ⟨w.heap.size + 1, 1, none⟩ = false := by rw [B6.frozen (by simp; omega)]; exact f1
            have j2 : w6.frozen? ⟨w.heap.size + 1, 2, none⟩ = false := by rw [B6.frozen (by simp; omega)]; exact f2
            have j3 : w6.frozen? ⟨w.heap.size + 1, 3, none⟩ = false := by rw [B6.frozen (by simp; omega)]; exact f3
            have j4 : w6.frozen? ⟨w.heap.size + 1, 4, none⟩ = false := by rw [B6.frozen (by simp; omega)]; exact f4
            have P6 := below_then m5 B6
            clear m0 m1 m2 m3 e0 e1 e2 e3 e4 g0 g1 f0 f1 f2 f3 f4 B6
            go_wp2_with fail
            simp [bodyPost, results, Tryd.results6, go_sem, k2, k3, h0, h1, h2, h3, h4]
            exact ⟨Or.inr ⟨hR.out, rfl⟩, setBad ((P6.setCell (p := ⟨w.heap.size, 0, none⟩) (Nat.le_refl _) _).setCell (p := ⟨w.heap.size, 1, none⟩) (Nat.le_refl _) _) (Nat.le_succ _)⟩
        · clear hexit hgo
          go_wp2_with fail
          refine (hXe.out _).mono ?_
          rintro e w5 ⟨rfl, B5⟩
          have Q5 := hQH.out.below B5
          have m0 := Q5.s.1
          have m1 := Q5.s.2
          have m2 := Q5.r.1
          have m3 := Q5.r.2
          obtain ⟨e0, e1, e2, e3, e4⟩ := Q5.e
          have m4 := Q5.sz
          have m5 := Q5.b
          have g0 := (Q5.f 0).1
          have g1 := (Q5.f 1).1
          have f0 := (Q5.f 0).2.1
          have f1 := (Q5.f 1).2.1
          have f2 := (Q5.f 2).2.1
          have f3 := (Q5.f 3).2.1
          have f4 := (Q5.f 4).2.1
          clear Q5 hQH s0 s1 r0 r1 hsz
          by_cases hE : P = T
          · have hE2 : (P.toList == T.toList) = true := by rw [hE]; simp
            have hR : Hid (decS X = T) := by unfold Hid; rw [← hPH.out, hE]
            clear hE
            go_wp2_with fail
            simp [bodyPost, results, Tryd.results6, go_sem, m0, m1, m2, m3, e0, e1, e2, e3, e4]
            exact ⟨Or.inl ⟨X, hXH.out, hR.out, rfl⟩, setBad ((m5.setCell (p := ⟨w.heap.size, 0, none⟩) (Nat.le_refl _) _).setCell (p := ⟨w.heap.size, 1, none⟩) (Nat.le_refl _) _) (Nat.le_succ _)⟩
          · have hE2 := ba_ne hE
            have hR : Hid (∀ v, S128 v → decS v ≠ T) := hno.out hE
            clear hE
            go_wp2_with fail
            refine (rnew_any 31 _).mono ?_
            rintro e w6 ⟨rfl, B6⟩
            have z6 := B6.size
            have k2 : w6.cell? ⟨w.heap.size, 0, none⟩ = some (.int .i64 0) := by rw [B6.cell (by simp; omega)]; exact m2
            have k3 : w6.cell? ⟨w.heap.size, 1, none⟩ = some (.int .u64 0) := by rw [B6.cell (by simp; omega)]; exact m3
            have h0 : w6.cell? ⟨w.heap.size + 1, 0, none⟩ = some (.int .i64 0) := by rw [B6.cell (by simp; omega)]; exact e0
            have h1 : w6.cell? ⟨w.heap.size + 1, 1, none⟩ = some (.int .i64 0) := by rw [B6.cell (by simp; omega)]; exact e1
            have h2 : w6.cell? ⟨w.heap.size + 1, 2, none⟩ = some (.int .i64 0) := by rw [B6.cell (by simp; omega)]; exact e2
            have h3 : w6.cell? ⟨w.heap.size + 1, 3, none⟩ = some (.bool false) := by rw [B6.cell (by simp; omega)]; exact e3
            have h4 : w6.cell? ⟨w.heap.size + 1, 4, none⟩ = some (.bool false) := by rw [B6.cell (by simp; omega)]; exact e4
            have i0 : w6.frozen? ⟨w.heap.size, 0, none⟩ = false := by rw [B6.frozen (by simp; omega)]; exact g0
            have i1 : w6.frozen? ⟨w.heap.size, 1, none⟩ = false := by rw [B6.frozen (by simp; omega)]; exact g1
            have j0 : w6.frozen? ⟨w.heap.size + 1, 0, none⟩ = false := by rw [B6.frozen (by simp; omega)]; exact f0
            have j1 : w6.frozen? ⟨w.heap.size + 1, 1, none⟩ = false := by rw [B6.frozen (by simp; omega)]; exact f1
            have j2 : w6.frozen? ⟨w.heap.size + 1, 2, none⟩ = false := by rw [B6.frozen (by simp; omega)]; exact f2
            have j3 : w6.frozen? ⟨w.heap.size + 1, 3, none⟩ = false := by rw [B6.frozen (by simp; omega)]; exact f3
            have j4 : w6.frozen? ⟨w.heap.size + 1, 4, none⟩ = false := by rw [B6.frozen (by simp; omega)]; exact f4
            have P6 := below_then m5 B6
            clear m0 m1 m2 m3 e0 e1 e2 e3 e4 g0 g1 f0 f1 f2 f3 f4 B6
            go_wp2_with fail
            simp [bodyPost, results, Tryd.results6, go_sem, k2, k3, h0, h1, h2, h3, h4]
            exact ⟨Or.inr ⟨hR.out, rfl⟩, setBad ((P6.setCell (p := ⟨w.heap.size, 0, none⟩) (Nat.le_refl _) _).setCell (p := ⟨w.heap.size, 1, none⟩) (Nat.le_refl _) _) (Nat.le_succ _)⟩
end Go.Proofs.YtnfpommplokemaaDoor
