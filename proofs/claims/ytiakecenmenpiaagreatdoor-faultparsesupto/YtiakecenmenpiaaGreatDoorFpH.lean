
import Derived.Test.YtiakecenmenpiaaGreatDoorFpE
import Derived.Test.YtiakecenmenpiaaGreatDoorFpG
namespace Go.Proofs.YtiakecenmenpiaaGreatDoor
open Go.RowKit
set_option linter.unusedVariables false
set_option linter.unusedSimpArgs false
def rst (S : List UInt8) : List UInt8 := (unlabF atW (unlabF numW S).2.2).2.2
def lyr (S : List UInt8) : List (Bool × Int) := lk (unlabF numW S) (unlabF atW (unlabF numW S).2.2)
def okL : List UInt8 := [111, 107]
theorem name_ok : nameL 0 = okL := by decide +kernel
/-- what Parse tells of a text. -/
def PS (S : List UInt8) (e : Ending) : Prop :=
  (∃ c, I64' c ∧ c ≠ 0 ∧ nameL c = rst S ∧ lineL (fI (lyr S)) (fA (lyr S)) c = S ∧ e = .returned (.tuple #[errV (lyr S) c, .nilIface])) ∨
  (S = okL ∧ nameL 0 = rst S ∧ e = .returned (.tuple #[.nilIface, .nilIface])) ∨
  ((∀ c, I64' c → c ≠ 0 → nameL c = rst S → lineL (fI (lyr S)) (fA (lyr S)) c ≠ S) ∧ ¬ (S = okL ∧ nameL 0 = rst S) ∧ e = .returned (.tuple #[.nilIface, .iface 26 (.int .i64 31)]))
theorem fI_lk (a b : Int × Bool × List UInt8) : fI (lk a b) = if a.2.1 then some a.1 else none := by
  obtain ⟨a1, a2, a3⟩ := a
  obtain ⟨b1, b2, b3⟩ := b
  cases a2 <;> cases b2 <;> rfl
theorem fA_lk (a b : Int × Bool × List UInt8) : fA (lk a b) = if b.2.1 then some b.1 else none := by
  obtain ⟨a1, a2, a3⟩ := a
  obtain ⟨b1, b2, b3⟩ := b
  cases a2 <;> cases b2 <;> rfl
theorem okI_if (b : Bool) (n : Int) (h : I64' n) : OkI (if b then some n else none) := fun m hm => by
  cases b
  · cases hm
  · obtain rfl := Option.some.inj hm; exact h
theorem B_inj {a b : List UInt8} (h : B a = B b) : a = b := by rw [← B_list a, ← B_list b, h]
theorem zero_I : I64' 0 := ⟨by omega, by omega⟩
set_option maxRecDepth 100000 in
set_option maxHeartbeats 2000000 in
theorem parse_any (S : List UInt8) (hs : S.length < 4294967281) (w : World) (hE : EV w) (hM : ML w) (hg : ET w) :
    Calls Tryz.prog 4 #[.string (B S)] w fun e w' => PS S e ∧ Below w.heap.size w w' := by
  have k1 : Hid (∀ w, EV w → ML w → Calls Tryz.prog 8 #[.string (B S)] w fun e w' => RD S e ∧ Below w.heap.size w w') := fun w h1 h2 => read_any S hs w h1 h2
  obtain ⟨SS, hSS⟩ : ∃ C, C = B S := ⟨_, rfl⟩
  rw [← hSS] at k1 ⊢
  have hSH : Hid _ := hSS
  have hEH : Hid _ := hE
  have hMH : Hid _ := hM
  have hgH : Hid _ := hg
  clear hSS hE hM hg hs
  go_enter Tryz.func4, Tryz.ntmps4
  go_wp2_with fail
  refine (k1.out _ hEH.out hMH.out).mono ?_
  rintro e1 w1 ⟨hrd, B1⟩
  have P1H : Hid _ := B1
  clear B1
  rcases hrd with ⟨c, hc, h0, hnm, rfl⟩ | ⟨hnm, rfl⟩ | ⟨hno, rfl⟩
  · have hnm' : nameL c = rst S := hnm
    have hp : Hid (∀ w, EV w → ET w → Calls Tryz.prog 9 #[errV (lyr S) c] w fun e w' => e = .returned (.string (B (lineL (fI (lyr S)) (fA (lyr S)) c))) ∧ Below w.heap.size w w') := fun w h1 h2 =>
      print_chain (lyr S) c hc h0 (by unfold lyr; rw [fI_lk]; exact okI_if _ _ (unlab_I _ _)) (by unfold lyr; rw [fA_lk]; exact okI_if _ _ (unlab_I _ _)) w h1 h2
    have hPS1 : Hid (lineL (fI (lyr S)) (fA (lyr S)) c = S → ∀ e, e = .returned (.tuple #[errV (lyr S) c, .nilIface]) → PS S e) := fun hl e he => Or.inl ⟨c, hc, h0, hnm', hl, he⟩
    have hPS2 : Hid (lineL (fI (lyr S)) (fA (lyr S)) c ≠ S → ∀ e, e = .returned (.tuple #[.nilIface, .iface 26 (.int .i64 31)]) → PS S e) := fun hl e he => by
      refine Or.inr (Or.inr ⟨fun c' hc' h0' hn' => ?_, fun hx => ?_, he⟩)
      · rw [nameL_inj hc' hc (by rw [hn', hnm'])]; exact hl
      · exact h0 (nameL_inj hc zero_I (by rw [hnm', hx.2]))
    obtain ⟨E, hEe⟩ : ∃ E, E = errV (lk (unlabF numW S) (unlabF atW (unlabF numW S).2.2)) c := ⟨_, rfl⟩
    have hp' : Hid (∀ w, EV w → ET w → Calls Tryz.prog 9 #[E] w fun e w' => e = .returned (.string (B (lineL (fI (lyr S)) (fA (lyr S)) c))) ∧ Below w.heap.size w w') := by rw [hEe]; exact hp.out
    have hPS1' : Hid (lineL (fI (lyr S)) (fA (lyr S)) c = S → ∀ e, e = .returned (.tuple #[E, .nilIface]) → PS S e) := by rw [hEe]; exact hPS1.out
    rw [← hEe]
    obtain ⟨L, hLe⟩ : ∃ L, L = B (lineL (fI (lyr S)) (fA (lyr S)) c) := ⟨_, rfl⟩
    rw [← hLe] at hp'
    have hLH : Hid _ := hLe
    clear hp hPS1 hEe hLe hnm hnm' hc h0
    go_wp2_with fail
    refine (hp'.out _ (hEH.out.below P1H.out) (ET_below hgH.out P1H.out)).mono ?_
    rintro e2 w2 ⟨rfl, B2⟩
    have P2 := bthen P1H.out B2
    by_cases hLS : L = SS
    · have hb : (L.toList == SS.toList) = true := by rw [hLS]; simp
      have hR : Hid (∀ e, e = .returned (.tuple #[E, .nilIface]) → PS S e) := hPS1'.out (B_inj (by rw [← hLH.out, hLS, hSH.out]))
      clear hLS
      go_wp2_with fail
      go_ret2
      exact ⟨hR.out _ rfl, P2⟩
    · have hb := ba_ne hLS
      have hR : Hid (∀ e, e = .returned (.tuple #[.nilIface, .iface 26 (.int .i64 31)]) → PS S e) := hPS2.out (fun h => hLS (by rw [hLH.out, hSH.out, h]))
      clear hLS
      go_wp2_with fail
      refine (new_any 31 rfl _).mono ?_
      rintro e3 w3 ⟨rfl, rfl⟩
      go_wp2_with fail
      go_ret2
      exact ⟨hR.out _ rfl, P2⟩
  · have hnm' : nameL 0 = rst S := hnm
    go_wp2_with fail
    refine (print_nil _).mono ?_
    rintro e2 w2 ⟨rfl, B2⟩
    have P2 := bthen P1H.out B2
    by_cases hok : S = okL
    · have hR : Hid (∀ e, e = .returned (.tuple #[.nilIface, .nilIface]) → PS S e) := fun e he => Or.inr (Or.inl ⟨hok, hnm', he⟩)
      have hSok : SS = ⟨#[111, 107]⟩ := by rw [hSH.out, hok]; rfl
      have hb : ((⟨#[111, 107]⟩ : ByteArray).toList == SS.toList) = true := by rw [hSok]; simp
      have hb2 : (([111, 107] : List UInt8) == SS.toList) = true := by rw [hSok, ByteArray.toList_eq]; rfl
      clear hok hnm hnm' hSok
      go_wp2_with fail
      go_ret2
      exact ⟨hR.out _ rfl, P2⟩
    · have hR : Hid (∀ e, e = .returned (.tuple #[.nilIface, .iface 26 (.int .i64 31)]) → PS S e) := fun e he => by
        refine Or.inr (Or.inr ⟨fun c' hc' h0' hn' => ?_, fun hx => hok hx.1, he⟩)
        exact absurd (nameL_inj hc' zero_I (by rw [hn', hnm'])) h0'
      have hSok : (⟨#[111, 107]⟩ : ByteArray) ≠ SS := fun h => hok (B_inj (by rw [← hSH.out, ← h]; rfl))
      have hb := ba_ne hSok
      have hb2 : (([111, 107] : List UInt8) == SS.toList) = false := by
        rw [beq_eq_false_iff_ne, ByteArray.toList_eq]
        exact fun h => hSok (ba_eq h)
      clear hok hnm hnm' hSok
      go_wp2_with fail
      refine (new_any 31 rfl _).mono ?_
      rintro e3 w3 ⟨rfl, rfl⟩
      go_wp2_with fail
      go_ret2
      exact ⟨hR.out _ rfl, P2⟩
  · have hR : Hid (∀ e, e = .returned (.tuple #[.nilIface, .iface 26 (.int .i64 31)]) → PS S e) := fun e he => by
      refine Or.inr (Or.inr ⟨fun c' hc' h0' hn' => absurd hn' (hno c' hc'), fun hx => hno 0 zero_I hx.2, he⟩)
    clear hno
    go_wp2_with fail
    refine (new_any 31 rfl _).mono ?_
    rintro e3 w3 ⟨rfl, rfl⟩
    go_wp2_with fail
    go_ret2
    exact ⟨hR.out _ rfl, P1H.out⟩
theorem okL_noc : NoC okL := by unfold NoC; decide
theorem parse_ok (w : World) (hE : EV w) (hM : ML w) (hg : ET w) : Calls Tryz.prog 4 #[.string ⟨#[111, 107]⟩] w fun e w' => e = .returned (.tuple #[.nilIface, .nilIface]) ∧ Below w.heap.size w w' := by
  have hr : rst okL = okL := by
    unfold rst
    rw [unlab_none numW okL okL_noc]
    simp only
    rw [unlab_none atW okL okL_noc]
  refine (parse_any okL (by decide) w hE hM hg).mono ?_
  rintro e w' ⟨hp, hb⟩
  refine ⟨?_, hb⟩
  rcases hp with ⟨c, hc, h0, hn, _, _⟩ | ⟨_, _, rfl⟩ | ⟨_, h2, _⟩
  · exact absurd (nameL_inj hc zero_I (by rw [hn, hr, name_ok])) h0
  · rfl
  · exact absurd ⟨rfl, by rw [hr, name_ok]⟩ h2
theorem parse_line (i p c : Int) (hi : I64' i) (hp : I64' p) (hc : I64' c) (h0 : c ≠ 0) (hs : (lineL (some i) (some p) c).length < 4294967281) (w : World) (hE : EV w) (hM : ML w) (hg : ET w) :
    Calls Tryz.prog 4 #[.string (B (lineL (some i) (some p) c))] w fun e w' => e = .returned (.tuple #[errV [(true, i), (false, p)] c, .nilIface]) ∧ Below w.heap.size w w' := by
  have oI : OkI (some i) := fun n hn => by obtain rfl := Option.some.inj hn; exact hi
  have oP : OkI (some p) := fun n hn => by obtain rfl := Option.some.inj hn; exact hp
  have e1 := unlab_num (some i) (some p) c oI
  have e2 := unlab_at (some p) c oP
  have hr : rst (lineL (some i) (some p) c) = nameL c := by unfold rst; rw [e1]; simp only; rw [e2]
  have hl : lyr (lineL (some i) (some p) c) = [(true, i), (false, p)] := by unfold lyr; rw [e1]; simp only; rw [e2]; rfl
  refine (parse_any _ hs w hE hM hg).mono ?_
  rintro e w' ⟨hps, hb⟩
  refine ⟨?_, hb⟩
  rcases hps with ⟨c', hc', h0', hn, _, rfl⟩ | ⟨_, hn, _⟩ | ⟨h1, _, _⟩
  · rw [hl, nameL_inj hc' hc (by rw [hn, hr])]
  · exact absurd (nameL_inj hc zero_I (by rw [hn, hr])) h0
  · refine absurd ?_ (h1 c hc h0 hr.symm)
    rw [hl]; rfl
end Go.Proofs.YtiakecenmenpiaaGreatDoor
