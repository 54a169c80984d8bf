
import Derived.Test.YtcbcpncbekeoaaaDoorFpLW
import Derived.Test.YtcbcpncbekeoaaaDoorFtW
namespace Go.Proofs.YtcbcpncbekeoaaaDoor
open Go.RowKit
set_option linter.unusedVariables false
set_option linter.unusedSimpArgs false
theorem oI_id (o : Option Int) : oI o.isSome (o.getD 0) = o := by cases o <;> rfl
def lineW (i a : Option Int) (c : Int) : List UInt8 := if c = 0 then lineU i a else lineL i a c
theorem printW (l : List (Nat × Int)) (b : Int ⊕ Nat) (c : Int) (hcb : codeB b = c) (hc : I64' c) (hI : OkI (fW 1 l)) (hA : OkI (fW 0 l)) (w : World) (hE : EV w) (hg : ET w) :
    Calls Tryd.prog 10 #[errW l b] w fun e w' => e = .returned (.string (B (lineW (fW 1 l) (fW 0 l) c))) ∧ Below w.heap.size w w' := by
  by_cases h0 : c = 0
  · unfold lineW; rw [if_pos h0]; exact printW0 l b c hcb h0 hI hA w hE hg
  · unfold lineW; rw [if_neg h0]; exact printW1 l b c hcb hc h0 hI hA w hE hg
theorem getD_ok {o : Option Int} (h : OkI o) : I64' (o.getD 0) := by
  cases o with
  | none => exact ⟨by decide, by decide⟩
  | some n => exact h n rfl
set_option maxRecDepth 100000 in
set_option maxHeartbeats 2000000 in
theorem line_any (sv : Value) (fo : Bool) (co : Int) (sa : Option Addr) (sl sc : Nat) (c : Int) (hc : I64' c) (oi oa : Option Int) (hI : OkI oi) (hA : OkI oa) (w : World) (hE : EV w) :
    Calls Tryd.prog 11 #[.agg #[.bool fo, .int .i64 co, .slice sa sl sc], .agg #[.int .i64 c, .int .i64 (oa.getD 0), .int .i64 (oi.getD 0), .bool oa.isSome, .bool oi.isSome]] w fun e w' => e = .returned (.string (B (lineW oi oa c))) ∧ Below w.heap.size w w' := by
  have ga := getD_ok hA
  have gi := getD_ok hI
  by_cases h0 : c = 0
  · subst h0
    by_cases hn : (oa.isSome || oi.isSome) = true
    · have hR : Hid (∀ w, EV w → Calls Tryd.prog 22 #[.agg #[.int .i64 0, .int .i64 (oa.getD 0), .int .i64 (oi.getD 0), .bool oa.isSome, .bool oi.isSome]] w fun e w' => e = .returned (.string (B (lineW oi oa 0))) ∧ Below w.heap.size w w') := fun w h => by
        have hh := rprint_zero (oa.getD 0) (oi.getD 0) oa.isSome oi.isSome ga gi hn w h
        rw [oI_id, oI_id] at hh
        exact hh
      obtain ⟨ga', hga⟩ : ∃ x, x = oa.getD 0 := ⟨_, rfl⟩
      obtain ⟨gi', hgi⟩ : ∃ x, x = oi.getD 0 := ⟨_, rfl⟩
      obtain ⟨R, hRe⟩ : ∃ x, x = B (lineW oi oa 0) := ⟨_, rfl⟩
      rw [← hga, ← hgi, ← hRe] at hR ⊢
      have hEH : Hid (∀ o o', EV ((w.alloc o).alloc o')) := fun o o' => hE.below (bnew (bnew (Below.refl _ _) _) _)
      clear hga hgi ga gi hRe hE
      cases ha : oa.isSome <;> cases hi : oi.isSome <;> rw [ha, hi] at hn hR <;> try (exact absurd hn (by decide))
      all_goals
        clear hn ha hi
        go_enter Tryd.func11, Tryd.ntmps11
        go_wp2_with fail
        refine (hR.out _ (hEH.out _ _)).mono ?_
        rintro e w1 ⟨rfl, B1⟩
        go_wp2_with fail
        go_ret
        exact ⟨rfl, bthen (bnew (bnew (Below.refl _ _) _) _) B1⟩
    · have ha : oa = none := by cases oa; rfl; simp at hn
      have hi : oi = none := by cases oi; rfl; simp at hn
      subst ha hi
      have hU : Hid (B (lineW none none 0) = ⟨#[117, 110, 107, 110, 111, 119, 110]⟩) := (by decide +kernel : B (lineW none none 0) = ⟨#[117, 110, 107, 110, 111, 119, 110]⟩)
      clear hn hI hA ga gi
      simp only [Option.getD_none, Option.isSome_none]
      go_enter Tryd.func11, Tryd.ntmps11
      go_wp2_with fail
      go_ret
      exact ⟨by rw [hU.out]; rfl, bnew (bnew (Below.refl _ _) _) _⟩
  · have hR : Hid (∀ w, EV w → Calls Tryd.prog 22 #[.agg #[.int .i64 c, .int .i64 (oa.getD 0), .int .i64 (oi.getD 0), .bool oa.isSome, .bool oi.isSome]] w fun e w' => e = .returned (.string (B (lineW oi oa c))) ∧ Below w.heap.size w w') := fun w h => by
      have hh := rprint_any c (oa.getD 0) (oi.getD 0) oa.isSome oi.isSome hc ga gi h0 w h
      rw [oI_id, oI_id] at hh
      unfold lineW; rw [if_neg h0]
      exact hh
    have hz : (c == 0) = false := by rw [beq_eq_false_iff_ne]; exact h0
    obtain ⟨ga', hga⟩ : ∃ x, x = oa.getD 0 := ⟨_, rfl⟩
    obtain ⟨gi', hgi⟩ : ∃ x, x = oi.getD 0 := ⟨_, rfl⟩
    obtain ⟨R, hRe⟩ : ∃ x, x = B (lineW oi oa c) := ⟨_, rfl⟩
    obtain ⟨pa, hpa⟩ : ∃ x, x = oa.isSome := ⟨_, rfl⟩
    obtain ⟨pi, hpi⟩ : ∃ x, x = oi.isSome := ⟨_, rfl⟩
    rw [← hga, ← hgi, ← hRe, ← hpa, ← hpi] at hR ⊢
    have hEH : Hid (∀ o o', EV ((w.alloc o).alloc o')) := fun o o' => hE.below (bnew (bnew (Below.refl _ _) _) _)
    clear hga hgi ga gi hRe hE hpa hpi h0
    go_enter Tryd.func11, Tryd.ntmps11
    go_wp2_with fail
    refine (hR.out _ (hEH.out _ _)).mono ?_
    rintro e w1 ⟨rfl, B1⟩
    go_wp2_with fail
    go_ret
    exact ⟨rfl, bthen (bnew (bnew (Below.refl _ _) _) _) B1⟩
theorem fW_ok (k : Nat) (l : List (Nat × Int)) (h : ∀ p ∈ l, I64' p.2) : OkI (fW k l) := by
  induction l with
  | nil => intro n hn; rw [fW_nil] at hn; cases hn
  | cons p l ih =>
    obtain ⟨j, m⟩ := p
    by_cases hj : j = k
    · subst hj
      rw [fW_hit]
      intro n hn
      obtain rfl := Option.some.inj hn
      exact h (j, m) (by simp)
    · rw [fW_miss k j m l hj]
      exact ih (fun p hp => h p (by simp [hp]))
theorem lnk_ok (K N : Nat → Int) (len : Nat) (h : ∀ i, i < len → I64' (N i)) : ∀ p ∈ lnk K N len 0, I64' p.2 := by
  intro p hp
  unfold lnk at hp
  simp at hp
  obtain ⟨i, hi, rfl⟩ := hp
  exact h i hi
theorem keepP {w wx wy : World} {y z : Nat} {u0 u1 u2 v0 v1 v2 v3 v4 : Value} (B : Below wx.heap.size wx wy) (S : Below w.heap.size w wx ∧ y < wx.heap.size ∧ z < wx.heap.size ∧ wx.cell? ⟨y, 0, none⟩ = some u0 ∧ wx.cell? ⟨y, 1, none⟩ = some u1 ∧ wx.cell? ⟨y, 2, none⟩ = some u2 ∧ wx.cell? ⟨z, 0, none⟩ = some v0 ∧ wx.cell? ⟨z, 1, none⟩ = some v1 ∧ wx.cell? ⟨z, 2, none⟩ = some v2 ∧ wx.cell? ⟨z, 3, none⟩ = some v3 ∧ wx.cell? ⟨z, 4, none⟩ = some v4) :
    Below w.heap.size w wy ∧ y < wy.heap.size ∧ z < wy.heap.size ∧ wy.cell? ⟨y, 0, none⟩ = some u0 ∧ wy.cell? ⟨y, 1, none⟩ = some u1 ∧ wy.cell? ⟨y, 2, none⟩ = some u2 ∧ wy.cell? ⟨z, 0, none⟩ = some v0 ∧ wy.cell? ⟨z, 1, none⟩ = some v1 ∧ wy.cell? ⟨z, 2, none⟩ = some v2 ∧ wy.cell? ⟨z, 3, none⟩ = some v3 ∧ wy.cell? ⟨z, 4, none⟩ = some v4 := by
  obtain ⟨b, hy, hz, a0, a1, a2, c0, c1, c2, c3, c4⟩ := S
  have hs := B.size
  refine ⟨below_then b B, by omega, by omega, ?_, ?_, ?_, ?_, ?_, ?_, ?_, ?_⟩
  · rw [B.cell (p := ⟨y, 0, none⟩) hy]; exact a0
  · rw [B.cell (p := ⟨y, 1, none⟩) hy]; exact a1
  · rw [B.cell (p := ⟨y, 2, none⟩) hy]; exact a2
  · rw [B.cell (p := ⟨z, 0, none⟩) hz]; exact c0
  · rw [B.cell (p := ⟨z, 1, none⟩) hz]; exact c1
  · rw [B.cell (p := ⟨z, 2, none⟩) hz]; exact c2
  · rw [B.cell (p := ⟨z, 3, none⟩) hz]; exact c3
  · rw [B.cell (p := ⟨z, 4, none⟩) hz]; exact c4
set_option maxRecDepth 100000 in
set_option maxHeartbeats 4000000 in
theorem prints_any (fo : Bool) (c : Int) (hc : I64' c) (a : Option Addr) (len cap : Nat) (K N : Nat → Int) (hl : len ≤ 9223372036854775807) (hN : ∀ i, i < len → I64' (N i)) (w : World) (hE : EV w) (hg : ET w) (hW : WrapsAt w a len K N) :
    Calls Tryd.prog 4 #[.agg #[.bool fo, .int .i64 c, .slice a len cap]] w fun e w' => e = .returned (.bool true) ∧ Below w.heap.size w w' := by
  have hM : Hid (∀ w, WrapsAt w a len K N → Calls Tryd.prog 5 #[.agg #[.bool fo, .int .i64 c, .slice a len cap]] w fun e w' => MD fo c (lnk K N len 0) e ∧ Below w.heap.size w w') := fun w h => made_any fo c a len cap K N hl w h
  have hgH : Hid (ET w) := hg
  have hEH : Hid (EV w) := hE
  have hl0 : Hid (∀ w, ET w → Calls Tryd.prog 8 #[] w fun e w' => e = .returned (.bool true) ∧ Below w.heap.size w w') := fun w h => live1_any w h
  have hW1 : Hid (∀ o, WrapsAt (w.alloc o) a len K N) := fun o => WrapsAt.below hW (below_new (Below.refl _ _) _)
  have S00 : ∀ o, (w.alloc (.cells #[.bool fo, .int .i64 c, .slice a len cap] o)).cell? ⟨w.heap.size, 0, none⟩ = some (.bool fo) ∧ (w.alloc (.cells #[.bool fo, .int .i64 c, .slice a len cap] o)).cell? ⟨w.heap.size, 1, none⟩ = some (.int .i64 c) ∧ (w.alloc (.cells #[.bool fo, .int .i64 c, .slice a len cap] o)).cell? ⟨w.heap.size, 2, none⟩ = some (.slice a len cap) := fun o => ⟨by simp [go_sem], by simp [go_sem], by simp [go_sem]⟩
  have S0H : Hid _ := S00
  clear hW hg hE S00
  go_enter Tryd.func4, Tryd.ntmps4
  go_wp2_with fail
  refine (hM.out _ (hW1.out _)).mono ?_
  rintro e w1 ⟨⟨bs, c', hdis, rfl⟩, B1⟩
  have P1 : Below w.heap.size w w1 := (below_new (Below.refl _ _) _).trans (B1.mono (by simp))
  have zz : w.heap.size < w1.heap.size := by have := B1.size; simp at this; omega
  have hc' : codeB bs = c' ∧ I64' c' := by
    rcases hdis with ⟨_, ⟨F, rfl⟩, rfl⟩ | ⟨_, rfl, rfl⟩
    · exact ⟨rfl, ⟨by decide, by decide⟩⟩
    · exact ⟨rfl, hc⟩
  have okI := fW_ok 1 _ (lnk_ok K N len hN)
  have okA := fW_ok 0 _ (lnk_ok K N len hN)
  have kP : Hid (∀ w, EV w → ET w → Calls Tryd.prog 10 #[errW (lnk K N len 0) bs] w fun e w' => e = .returned (.string (B (lineW (fW 1 (lnk K N len 0)) (fW 0 (lnk K N len 0)) c'))) ∧ Below w.heap.size w w') := fun w h h2 => printW _ bs c' hc'.1 hc'.2 okI okA w h h2
  have kL : Hid (∀ w, EV w → Calls Tryd.prog 11 #[.agg #[.bool fo, .int .i64 c, .slice a len cap], .agg #[.int .i64 c', .int .i64 ((fW 0 (lnk K N len 0)).getD 0), .int .i64 ((fW 1 (lnk K N len 0)).getD 0), .bool (fW 0 (lnk K N len 0)).isSome, .bool (fW 1 (lnk K N len 0)).isSome]] w fun e w' => e = .returned (.string (B (lineW (fW 1 (lnk K N len 0)) (fW 0 (lnk K N len 0)) c'))) ∧ Below w.heap.size w w') := fun w h => line_any .nilIface fo c a len cap c' hc'.2 _ _ okI okA w h
  obtain ⟨tt, pp, hV⟩ := errW_iface (lnk K N len 0) bs
  rw [hV] at kP ⊢
  obtain ⟨R, hRe⟩ : ∃ x, x = B (lineW (fW 1 (lnk K N len 0)) (fW 0 (lnk K N len 0)) c') := ⟨_, rfl⟩
  obtain ⟨fa, hfa⟩ : ∃ x, x = (fW 0 (lnk K N len 0)).getD 0 := ⟨_, rfl⟩
  obtain ⟨fi, hfi⟩ : ∃ x, x = (fW 1 (lnk K N len 0)).getD 0 := ⟨_, rfl⟩
  obtain ⟨pa, hpa⟩ : ∃ x, x = (fW 0 (lnk K N len 0)).isSome := ⟨_, rfl⟩
  obtain ⟨pi, hpi⟩ : ∃ x, x = (fW 1 (lnk K N len 0)).isSome := ⟨_, rfl⟩
  rw [← hRe] at kP
  rw [← hRe, ← hfa, ← hpa, ← hfi, ← hpi] at kL
  rw [← hfa, ← hpa, ← hfi, ← hpi]
  have s0 : w1.cell? ⟨w.heap.size, 0, none⟩ = some (.bool fo) := by rw [B1.cell (by simp)]; exact (S0H.out _).1
  have s1 : w1.cell? ⟨w.heap.size, 1, none⟩ = some (.int .i64 c) := by rw [B1.cell (by simp)]; exact (S0H.out _).2.1
  have s2 : w1.cell? ⟨w.heap.size, 2, none⟩ = some (.slice a len cap) := by rw [B1.cell (by simp)]; exact (S0H.out _).2.2
  obtain ⟨W2, hW2⟩ : ∃ W, W = w1.alloc (.cells #[.int .i64 c', .int .i64 fa, .int .i64 fi, .bool pa, .bool pi] 29) := ⟨_, rfl⟩
  have S2 : Below w.heap.size w W2 ∧ w.heap.size < W2.heap.size ∧ w1.heap.size < W2.heap.size ∧ W2.cell? ⟨w.heap.size, 0, none⟩ = some (.bool fo) ∧ W2.cell? ⟨w.heap.size, 1, none⟩ = some (.int .i64 c) ∧ W2.cell? ⟨w.heap.size, 2, none⟩ = some (.slice a len cap) ∧ W2.cell? ⟨w1.heap.size, 0, none⟩ = some (.int .i64 c') ∧ W2.cell? ⟨w1.heap.size, 1, none⟩ = some (.int .i64 fa) ∧ W2.cell? ⟨w1.heap.size, 2, none⟩ = some (.int .i64 fi) ∧ W2.cell? ⟨w1.heap.size, 3, none⟩ = some (.bool pa) ∧ W2.cell? ⟨w1.heap.size, 4, none⟩ = some (.bool pi) := by
    have hB : Below w1.heap.size w1 W2 := by rw [hW2]; exact below_new (Below.refl _ _) _
    have hz2 : w1.heap.size < W2.heap.size := by rw [hW2]; simp
    refine ⟨below_then P1 hB, by omega, hz2, ?_, ?_, ?_, ?_, ?_, ?_, ?_, ?_⟩
    · rw [hB.cell (p := ⟨w.heap.size, 0, none⟩) zz]; exact s0
    · rw [hB.cell (p := ⟨w.heap.size, 1, none⟩) zz]; exact s1
    · rw [hB.cell (p := ⟨w.heap.size, 2, none⟩) zz]; exact s2
    · rw [hW2]; simp [go_sem]
    · rw [hW2]; simp [go_sem]
    · rw [hW2]; simp [go_sem]
    · rw [hW2]; simp [go_sem]
    · rw [hW2]; simp [go_sem]
  have S2d : Below w.heap.size w W2.drew ∧ w.heap.size < W2.drew.heap.size ∧ w1.heap.size < W2.drew.heap.size ∧ W2.drew.cell? ⟨w.heap.size, 0, none⟩ = some (.bool fo) ∧ W2.drew.cell? ⟨w.heap.size, 1, none⟩ = some (.int .i64 c) ∧ W2.drew.cell? ⟨w.heap.size, 2, none⟩ = some (.slice a len cap) ∧ W2.drew.cell? ⟨w1.heap.size, 0, none⟩ = some (.int .i64 c') ∧ W2.drew.cell? ⟨w1.heap.size, 1, none⟩ = some (.int .i64 fa) ∧ W2.drew.cell? ⟨w1.heap.size, 2, none⟩ = some (.int .i64 fi) ∧ W2.drew.cell? ⟨w1.heap.size, 3, none⟩ = some (.bool pa) ∧ W2.drew.cell? ⟨w1.heap.size, 4, none⟩ = some (.bool pi) := ⟨S2.1.drew, S2.2⟩
  have hW2H : Hid _ := hW2
  clear hfa hfi hpa hpi hV hdis hM hW1 hc' okI okA hRe S0H B1 s0 s1 s2 hW2
  go_upto_region 2 with fail
  rw [← hW2H.out]
  go_region_held3 (fun w' => Below w.heap.size w w' ∧ w.heap.size < w'.heap.size ∧ w1.heap.size < w'.heap.size ∧ w'.cell? ⟨w.heap.size, 0, none⟩ = some (.bool fo) ∧ w'.cell? ⟨w.heap.size, 1, none⟩ = some (.int .i64 c) ∧ w'.cell? ⟨w.heap.size, 2, none⟩ = some (.slice a len cap) ∧ w'.cell? ⟨w1.heap.size, 0, none⟩ = some (.int .i64 c') ∧ w'.cell? ⟨w1.heap.size, 1, none⟩ = some (.int .i64 fa) ∧ w'.cell? ⟨w1.heap.size, 2, none⟩ = some (.int .i64 fi) ∧ w'.cell? ⟨w1.heap.size, 3, none⟩ = some (.bool pa) ∧ w'.cell? ⟨w1.heap.size, 4, none⟩ = some (.bool pi)) (first | assumption)
    (first
      | (go_at_call 8; (with_reducible refine Calls.mono (hl0.out _ (ET_below hgH.out (by assumption : _ ∧ _).1)) ?_); rintro e w' ⟨rfl, BB⟩; have SS := keepP BB (by assumption))
      | (go_at_call 10; (with_reducible refine Calls.mono (kP.out _ (hEH.out.below (by assumption : _ ∧ _).1) (ET_below hgH.out (by assumption : _ ∧ _).1)) ?_); rintro e w' ⟨rfl, BB⟩; have SS := keepP BB (by assumption))
      | (go_at_call 11; (with_reducible refine Calls.mono (kL.out _ (hEH.out.below (by assumption : _ ∧ _).1)) ?_); rintro e w' ⟨rfl, BB⟩; have SS := keepP BB (by assumption)))
  all_goals
    go_wp2_with fail
    go_ret
    exact ⟨rfl, (by assumption : Below w.heap.size w _ ∧ _).1⟩
end Go.Proofs.YtcbcpncbekeoaaaDoor
