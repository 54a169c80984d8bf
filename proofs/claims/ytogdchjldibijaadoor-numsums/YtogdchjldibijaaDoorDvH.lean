
import Derived.Test.YtogdchjldibijaaDoorDvGA
import Derived.Test.YtogdchjldibijaaDoorDvGB
import Derived.Test.YtogdchjldibijaaDoorDvGC
import Derived.Test.YtogdchjldibijaaDoorDvGD
namespace Go.Proofs.YtogdchjldibijaaDoor
open Go.RowKit
set_option linter.unusedVariables false
set_option linter.unusedSimpArgs false
theorem rratio_any (hi lo n : Int) (h1 : I64 hi) (h2 : U64 lo) (hn : I64 n) (h0 : n ≠ 0) (w : World) :
    Calls Tryd.prog 20 #[.agg #[.int .i64 hi, .int .u64 lo], .int .i64 n] w fun e w' => e = .returned (.tuple #[.int .i64 (sm0 (quoI (sv hi lo) n)), smB (quoI (sv hi lo) n)]) ∧ Below w.heap.size w w' := by
  obtain ⟨V, hV⟩ := abv_nat hi lo h1 h2
  obtain ⟨b, hb⟩ := abn_nat n hn h0
  obtain ⟨hV2, hb0, hb2, hq⟩ := rratio_lifted hi lo n h1 h2 hn h0 V b hV hb
  have hsize := rsize_any hi lo h1 h2
  rw [hV, (sHL_nat V).1, (sHL_nat V).2] at hsize
  have hdv := divided_any (V / 18446744073709551616) (V % 18446744073709551616) b (by omega) (by omega) hb0 hb2 V (by omega)
  have hqV : V / b ≤ V := Nat.div_le_self _ _
  obtain ⟨q, hqq⟩ : ∃ q, q = V / b := ⟨_, rfl⟩
  rw [← hqq] at hdv hq hqV
  obtain ⟨r, hrr⟩ : ∃ r, r = V % b := ⟨_, rfl⟩
  rw [← hrr] at hdv hq
  obtain ⟨qh, hqh⟩ : ∃ qh, qh = q / 18446744073709551616 := ⟨_, rfl⟩
  obtain ⟨ql, hql⟩ : ∃ ql, ql = q % 18446744073709551616 := ⟨_, rfl⟩
  rw [← hqh, ← hql] at hdv
  have hqe : q = qh * 18446744073709551616 + ql := by omega
  have hl : ql < 18446744073709551616 := by omega
  have hh : qh < 18446744073709551615 := by omega
  clear hqh hql hqq hrr
  rw [hq]
  by_cases cn : n < 0
  · obtain ⟨eb1, eb⟩ := by_neg n b hn cn hb
    by_cases ch : hi < 0
    · rw [if_pos ⟨fun _ => cn, fun _ => ch⟩]
      have e1 : sm0 (q : Int) = (ratA false qh ql r).1 := by have h := congrArg Prod.fst (ratA_same q qh ql r hqe hl); simp only at h; exact h
      have e2 : smB (q : Int) = (ratA false qh ql r).2 := by have h := congrArg Prod.snd (ratA_same q qh ql r hqe hl); simp only at h; exact h
      rw [e1, e2]
      exact rratio_A hi lo n _ _ b qh ql r hsize hdv h0 _ eb1 eb cn ch hl hh w
    · rw [if_neg (fun h => ch (h.2 cn))]
      have e1 : sm0 (if r = 0 then -(q : Int) else -(q : Int) - 1) = (ratA true qh ql r).1 := by have h := congrArg Prod.fst (ratA_diff q qh ql r hqe hl); simp only at h; exact h
      have e2 : smB (if r = 0 then -(q : Int) else -(q : Int) - 1) = (ratA true qh ql r).2 := by have h := congrArg Prod.snd (ratA_diff q qh ql r hqe hl); simp only at h; exact h
      rw [e1, e2]
      exact rratio_B hi lo n _ _ b qh ql r hsize hdv h0 _ eb1 eb cn ch hl hh w
  · have eb := by_pos n b hn cn hb
    by_cases ch : hi < 0
    · rw [if_neg (fun h => cn (h.1 ch))]
      have e1 : sm0 (if r = 0 then -(q : Int) else -(q : Int) - 1) = (ratA true qh ql r).1 := by have h := congrArg Prod.fst (ratA_diff q qh ql r hqe hl); simp only at h; exact h
      have e2 : smB (if r = 0 then -(q : Int) else -(q : Int) - 1) = (ratA true qh ql r).2 := by have h := congrArg Prod.snd (ratA_diff q qh ql r hqe hl); simp only at h; exact h
      rw [e1, e2]
      exact rratio_C hi lo n _ _ b qh ql r hsize hdv h0 eb cn ch hl hh w
    · rw [if_pos ⟨fun h => absurd h ch, fun h => absurd h cn⟩]
      have e1 : sm0 (q : Int) = (ratA false qh ql r).1 := by have h := congrArg Prod.fst (ratA_same q qh ql r hqe hl); simp only at h; exact h
      have e2 : smB (q : Int) = (ratA false qh ql r).2 := by have h := congrArg Prod.snd (ratA_same q qh ql r hqe hl); simp only at h; exact h
      rw [e1, e2]
      exact rratio_D hi lo n _ _ b qh ql r hsize hdv h0 eb cn ch hl hh w
end Go.Proofs.YtogdchjldibijaaDoor
