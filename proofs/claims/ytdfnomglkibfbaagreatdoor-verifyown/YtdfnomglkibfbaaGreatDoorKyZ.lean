
import Derived.Test.YtdfnomglkibfbaaGreatDoorKyY
import Derived.Test.YtdfnomglkibfbaaGreatDoorKyE
namespace Go.Proofs.YtdfnomglkibfbaaGreatDoor
open Go.RowKit Go.Shelf
set_option linter.unusedVariables false
set_option linter.unusedSimpArgs false
def GI (s : ByteArray) (i : Nat) (R : Bool) : Prop := ∃ f, s.size ≤ i + f ∧ goR s f i = R
theorem goR_done (s : ByteArray) (f i : Nat) (h : ¬ i < s.size) : goR s f i = true := by cases f <;> simp [goR, h]
theorem GI.done {s : ByteArray} {i : Nat} {R : Bool} (h : GI s i R) (hi : ¬ i < s.size) : R = true := by obtain ⟨f, _, rfl⟩ := h; exact goR_done s f i hi
theorem GI.step {s : ByteArray} {i : Nat} {R : Bool} (h : GI s i R) (hi : i < s.size) :
    (wideB (s.extract i s.size) = 0 ∨ (s.get! i).toNat < 32 ∨ (s.get! i).toNat = 127) ∧ R = false ∨ ¬ (wideB (s.extract i s.size) = 0 ∨ (s.get! i).toNat < 32 ∨ (s.get! i).toNat = 127) ∧ GI s (i + wideB (s.extract i s.size)) R := by
  obtain ⟨f, hf, rfl⟩ := h
  cases f with
  | zero => omega
  | succ f =>
    by_cases hc : wideB (s.extract i s.size) = 0 ∨ (s.get! i).toNat < 32 ∨ (s.get! i).toNat = 127
    · refine Or.inl ⟨hc, ?_⟩
      unfold goR; rw [if_pos hi, if_pos hc]
    · refine Or.inr ⟨hc, f, by omega, ?_⟩
      conv => rhs; unfold goR
      rw [if_pos hi, if_neg hc]
theorem dec_le (n b0 b1 b2 b3 : Nat) (hn : 1 ≤ n) : (Lib.decodeN n b0 b1 b2 b3).2 ≤ 4 ∧ (Lib.decodeN n b0 b1 b2 b3).2 ≤ n := by
  generalize hd : Lib.decodeN n b0 b1 b2 b3 = d
  unfold Lib.decodeN at hd
  (repeat' split at hd) <;> subst hd <;> simp only <;> omega
theorem wide_le (s : ByteArray) : wideB s ≤ 4 ∧ wideB s ≤ s.size := by
  by_cases h : s.size = 0
  · unfold wideB; rw [if_pos h]; omega
  · have hb : ∀ j, (s.get! j).toNat < 256 := fun j => UInt8.toNat_lt _
    have := dec_le s.size (s.get! 0).toNat (s.get! 1).toNat (s.get! 2).toNat (s.get! 3).toNat (by omega)
    rw [wideB_N s h, wideN_dec _ _ _ _ _ (by omega) (hb _) (hb _) (hb _) (hb _)]
    split <;> omega
set_option maxRecDepth 100000 in
set_option maxHeartbeats 8000000 in
theorem rright_any (s : ByteArray) (most : Int) (w : World) (hm : most ≤ 4294967296) :
    Calls Tryz.prog 133 #[.string s, .int .i64 most] w fun e w' => e = .returned (.bool (cleanB s most)) ∧ w' = w := by
  rw [cleanB_goR]
  by_cases h0 : s.size = 0
  · have he := is_empty s h0
    rw [he]
    go_enter Tryz.func133, Tryz.ntmps133
    go_wp2_with fail
    go_ret
    exact ⟨rfl, rfl⟩
  have hne := ne_empty s h0
  rw [hne]
  by_cases h2 : (s.size : Int) ≤ most
  · have h2J : ¬ most < (s.size : Int) := by omega
    rw [decide_eq_true h2]
    obtain ⟨R, hR⟩ : ∃ R, goR s s.size 0 = R := ⟨_, rfl⟩
    have hG : GI s 0 R := ⟨s.size, by omega, hR⟩
    rw [hR]
    clear hR
    have hsz : s.size ≤ 4294967296 := by omega
    have cW : Hid (∀ i W, i ≤ s.size → Calls Tryz.prog 143 #[.string (s.extract i s.size)] W fun e w' => e = .returned (.int .i64 (wideB (s.extract i s.size) : Int)) ∧ w' = W) := fun i W hi => wide_any _ W (by rw [Lib.size_eq, Lib.extract_data]; rw [Lib.size_eq] at hsz; simp at hsz ⊢; omega)
    go_enter Tryz.func133, Tryz.ntmps133
    go_wp2_with fail
    go_loopw [5] (fun i wr => ∃ k : Nat, i = .int .i64 (k : Int) ∧ k ≤ s.size ∧ GI s k R ∧ wr = w) (fun i _ => s.size - (intOf i).toNat)
    case atStart => exact ⟨0, rfl, by omega, hG, rfl⟩
    case round =>
      obtain ⟨k, rfl, hkn, hI, hB⟩ := hrel
      by_cases hk : k < s.size
      · have hkI : (k : Int) < (s.size : Int) := by omega
        obtain ⟨x, hx⟩ : ∃ x, s.get! k = x := ⟨_, rfl⟩
        have hsk : s[k]'hk = x := get_at s k hk x hx
        have hst := hI.step hk
        have hwl := wide_le (s.extract k s.size)
        have hes : (s.extract k s.size).size = s.size - k := by rw [ext_list]; show (s.data.toList.drop k).toArray.size = _; simp
        rw [hes] at hwl
        rw [hx] at hst
        have cK : Hid (∀ W, Calls Tryz.prog 143 #[.string (s.extract k s.size)] W fun e w' => e = .returned (.int .i64 (wideB (s.extract k s.size) : Int)) ∧ w' = W) := fun W => cW.out k W hkn
        generalize wideB (s.extract k s.size) = n at hst hwl cK
        clear hI hG cW hx
        rcases hst with ⟨hc, rfl⟩ | ⟨hc, hN⟩
        · by_cases n0 : n = 0
          · subst n0
            clear hc
            go_wp2_with fail
            refine Calls.mono (cK.out _) ?_
            rintro e w1 ⟨rfl, rfl⟩
            go_wp2_with fail
            go_ret
            exact ⟨rfl, by first | rfl | exact hB⟩
          · have n0I : ((n : Int) == 0) = false := by simp; omega
            by_cases x1 : x.toNat < 32
            · have x1I : (x.toNat : Int) < 32 := by omega
              clear hc
              go_wp2_with fail
              refine Calls.mono (cK.out _) ?_
              rintro e w1 ⟨rfl, rfl⟩
              go_wp2_with fail
              go_ret
              exact ⟨rfl, by first | rfl | exact hB⟩
            · have x1I : ¬ (x.toNat : Int) < 32 := by omega
              have x2I : ((x.toNat : Int) == 127) = true := by simp; omega
              clear hc
              go_wp2_with fail
              refine Calls.mono (cK.out _) ?_
              rintro e w1 ⟨rfl, rfl⟩
              go_wp2_with fail
              go_ret
              exact ⟨rfl, by first | rfl | exact hB⟩
        · have n0 : n ≠ 0 := fun h => hc (Or.inl h)
          have n0I : ((n : Int) == 0) = false := by simp; omega
          have x1I : ¬ (x.toNat : Int) < 32 := by omega
          have x2I : ((x.toNat : Int) == 127) = false := by simp; omega
          have hw : IntKind.i64.wrap ((k : Int) + (n : Int)) = (k : Int) + (n : Int) := IntWalk.i64_in _ (by omega)
          have hw2 : wrap64 ((k : Int) + (n : Int)) = (k : Int) + (n : Int) := IntWalk.wrap64_in _ (by omega)
          have g2 : k + n ≤ s.size := by omega
          have gM : Hid (s.size - ((k : Int) + (n : Int)).toNat < s.size - (k : Int).toNat) := by show _ < _; omega
          clear hc
          go_wp2_with fail
          refine Calls.mono (cK.out _) ?_
          rintro e w1 ⟨rfl, rfl⟩
          go_wp2_with fail
          go_round
          case measure => simp only [intOf]; exact gM.out
          case rel => exact ⟨k + n, by simp only [Int.natCast_add], g2, hN, by first | rfl | exact hB | trivial⟩
      · have hkI : ¬ (k : Int) < (s.size : Int) := by omega
        have := hI.done hk
        subst this
        clear hI hG
        go_wp2_with fail
        go_ret
        exact ⟨rfl, by first | rfl | exact hB⟩
  · have h2J : most < (s.size : Int) := by omega
    rw [decide_eq_false h2]
    go_enter Tryz.func133, Tryz.ntmps133
    go_wp2_with fail
    go_ret
    exact ⟨rfl, rfl⟩
end Go.Proofs.YtdfnomglkibfbaaGreatDoor
