
import Derived.Test.YtkpcndnefbaooaaDoorSoP
import Derived.Laws.MakeOwn
namespace Go.Proofs.YtkpcndnefbaooaaDoor
open Go.RowKit _root_.Go.Proofs.YtkpcndnefbaooaaDoor.So
set_option linter.unusedVariables false
set_option linter.unusedSimpArgs false
/-- texts that lie in memory. -/
def StIn (w : World) (a : Option Addr) (l : List ByteArray) : Prop := l = [] ∨ ∃ b off, a = some ⟨b, off, none⟩ ∧ b < w.heap.size ∧ ∀ i t, l[i]? = some t → w.cell? ⟨b, off + i, none⟩ = some (.string t)
theorem StIn.below {w w' : World} {a : Option Addr} {l : List ByteArray} (h : StIn w a l) (hB : Below w.heap.size w w') : StIn w' a l := by
  rcases h with h | ⟨b, off, ha, hb, hc⟩
  · exact Or.inl h
  · refine Or.inr ⟨b, off, ha, by have := hB.size; omega, fun i t ht => ?_⟩
    rw [hB.cell (p := ⟨b, off + i, none⟩) hb]
    exact hc i t ht
theorem StIn.at {w wr : World} {a : Option Addr} {l : List ByteArray} (h : StIn w a l) (hB : Below w.heap.size w wr) {k : Nat} {t : ByteArray} (ht : l[k]? = some t) : ∃ b off, a = some ⟨b, off, none⟩ ∧ b < w.heap.size ∧ wr.cell? ⟨b, off + k, none⟩ = some (.string t) := by
  rcases h with h0 | ⟨b, off, e, hb, hc⟩
  · rw [h0] at ht; simp at ht
  · exact ⟨b, off, e, hb, by rw [hB.cell (p := ⟨b, off + k, none⟩) hb]; exact hc k t ht⟩
/-- a tag's value. -/
def valT : List TagP → ByteArray → ByteArray
  | [], _ => ⟨#[]⟩
  | t :: r, s => if t.1 = s then t.2 else valT r s
theorem valT_step {l : List TagP} {k : Nat} {t : TagP} (h : l[k]? = some t) (s : ByteArray) : valT (l.drop k) s = if t.1 = s then t.2 else valT (l.drop (k + 1)) s := by
  obtain ⟨h1, rfl⟩ := List.getElem?_eq_some_iff.1 h
  rw [List.drop_eq_getElem_cons h1]; rfl
def grpT (l : List TagP) (names : List ByteArray) : List ByteArray := names.map (valT l)
set_option maxRecDepth 100000 in
set_option maxHeartbeats 4000000 in
theorem value_any (a : Option Addr) (c : Nat) (l : List TagP) (s : ByteArray) (w : World) (hl : l.length ≤ 9223372036854775807) (ha : TgIn w a l) :
    Calls Tryd.prog 6 #[.slice a l.length c, .string s] w fun e w' => e = .returned (.string (valT l s)) ∧ Below w.heap.size w w' := by
  have hA : Hid (TgIn w a l) := ha
  clear ha
  obtain ⟨R, hR⟩ : ∃ R, valT l s = R := ⟨_, rfl⟩
  have hR0 : Hid (valT (l.drop 0) s = R) := hR
  rw [hR]
  clear hR
  obtain ⟨n, hn⟩ : ∃ n, l.length = n := ⟨_, rfl⟩
  have hN : Hid (l.length = n) := hn
  rw [hn] at hl ⊢
  clear hn
  go_enter Tryd.func6, Tryd.ntmps6
  go_wp2_with fail
  go_loopw [9] (fun i wr => ∃ k : Nat, i = .int .i64 (k : Int) ∧ k ≤ n ∧ Hid (valT (l.drop k) s = R) ∧ Below w.heap.size w wr) (fun i _ => n - (intOf i).toNat)
  case atStart => exact ⟨0, rfl, by omega, hR0, Below.refl _ _⟩
  case round =>
    obtain ⟨k, rfl, hkn, hI, hB⟩ := hrel
    by_cases hk : k < n
    · have hkI : (k : Int) < (n : Int) := by omega
      obtain ⟨t, ht⟩ : ∃ t, l[k]? = some t := ⟨_, List.getElem?_eq_getElem (by have := hN.out; omega)⟩
      obtain ⟨b1, o1, rfl, hb1, t1, t2⟩ := hA.out.at hB ht
      have hst := valT_step ht s
      rw [hI.out] at hst
      obtain ⟨tk, tv⟩ := t
      simp only at t1 t2 hst
      have hBB : ∀ o, Below w.heap.size w (wr.alloc o) := fun o => hB.alloc hB.size o
      have hBH : Hid (∀ o, Below w.heap.size w (wr.alloc o)) := hBB
      clear hBB hB
      by_cases he : tk = s
      · rw [if_pos he] at hst
        have hz : Hid (tv = R) := hst.symm
        have hq : (tk.toList == s.toList) = true := by rw [he]; simp
        clear hst he
        go_wp2_with fail
        go_ret
        exact ⟨by rw [← hz.out]; rfl, hBH.out _⟩
      · rw [if_neg he] at hst
        have hz : Hid (valT (l.drop (k + 1)) s = R) := hst.symm
        have hq : (tk.toList == s.toList) = false := by rw [ba_dec]; exact decide_eq_false he
        clear hst he
        go_wp2_with fail
        go_round
        case measure => simp only [intOf]; omega
        case rel => exact ⟨k + 1, by simp, by omega, hz, hBH.out _⟩
    · have hkI : ¬ (k : Int) < (n : Int) := by omega
      have hE : Hid (R = ⟨#[]⟩) := by
        have := hI.out
        rw [List.drop_eq_nil_of_le (by have := hN.out; omega)] at this
        exact this.symm
      go_wp2_with fail
      go_ret
      exact ⟨by rw [hE.out]; rfl, hB⟩
set_option maxRecDepth 100000 in
set_option maxHeartbeats 4000000 in
theorem sameTexts_any (a b : Option Addr) (l : List ByteArray) (c1 c2 : Nat) (w : World) (hl : l.length ≤ 4611686018427387904) (ha : StIn w a l) (hb : StIn w b l) :
    Calls Tryd.prog 12 #[.slice a l.length c1, .slice b l.length c2] w fun e w' => e = .returned (.bool true) ∧ Below w.heap.size w w' := by
  have hA : Hid (StIn w a l) := ha
  have hBb : Hid (StIn w b l) := hb
  clear ha hb
  obtain ⟨n, hn⟩ : ∃ n, l.length = n := ⟨_, rfl⟩
  have hN : Hid (l.length = n) := hn
  rw [hn] at hl ⊢
  clear hn
  have hnn : ((n : Int) == (n : Int)) = true := by simp
  go_enter Tryd.func12, Tryd.ntmps12
  go_wp2_with fail
  go_loopw [5] (fun i wr => ∃ k : Nat, i = .int .i64 (k : Int) ∧ k ≤ n ∧ Below w.heap.size w wr) (fun i _ => n - (intOf i).toNat)
  case atStart => exact ⟨0, rfl, by omega, Below.refl _ _⟩
  case round =>
    obtain ⟨k, rfl, hkn, hB⟩ := hrel
    have kw : IntKind.i64.wrap ((k : Int) + 1) = ((k + 1 : Nat) : Int) := IntWalk.i64_in _ (by omega)
    by_cases hk : k < n
    · have hkI : (k : Int) < (n : Int) := by omega
      have k0 : (0 : Int) ≤ (k : Int) := by omega
      obtain ⟨t, ht⟩ : ∃ t, l[k]? = some t := ⟨_, List.getElem?_eq_getElem (by have := hN.out; omega)⟩
      obtain ⟨b1, o1, rfl, hb1, t1⟩ := hA.out.at hB ht
      obtain ⟨b2, o2, rfl, hb2, t2⟩ := hBb.out.at hB ht
      have hBH : Hid (Below w.heap.size w wr.drew) := hB.drew
      clear hB ht
      go_wp2_with fail
      go_quiet (fail)
      go_wp2_with fail
      go_round
      case measure => simp only [intOf]; omega
      case rel => exact ⟨k + 1, by simp, by omega, ⟨hBH.out.os, hBH.out.tape, hBH.out.output, hBH.out.size, hBH.out.block⟩⟩
    · have hkI : ¬ (k : Int) < (n : Int) := by omega
      go_wp2_with fail
      go_ret
      exact ⟨rfl, hB⟩
end Go.Proofs.YtkpcndnefbaooaaDoor
