
import Derived.Test.YtbojljmacheccaaGreatDoorKyB
import Derived.ProofKit
import Derived.OpenShut
import Derived.Deep.SlicePairs
import Derived.Lib.SmallJoins
import Derived.Test.YtbojljmacheccaaGreatDoorLaI
import Derived.Deep.LoopGhost
import Derived.Test.YtbojljmacheccaaGreatDoorLaL
import Derived.Test.YtbojljmacheccaaGreatDoorLwZq
import Derived.Test.YtbojljmacheccaaGreatDoorLaG
import Derived.Test.YtbojljmacheccaaGreatDoorRows
import Derived.Test.YtbojljmacheccaaGreatDoorLaF
import Derived.Test.YtbojljmacheccaaGreatDoorLaK
namespace Go.Proofs.YtbojljmacheccaaGreatDoor
open Go.ChangeShapes Go.WideShapes Go.ChangeAt Go.RowKit
set_option linter.unusedVariables false
def strOf : Value → ByteArray
  | .string s => s
  | _ => ⟨#[]⟩
set_option maxRecDepth 100000 in
/-- tags, as they are read. -/
theorem tags_read {H : Type} {enc : TypeId × Value → H} {W : World} {v : Value} {y : DataW H × List MemPlace} {fuel : Nat}
    (hf : DataW.trod enc Tryz.prog W 0 (fun _ => true) true fuel 29 [v] = some y) :
    ∃ a l cap, v = .slice a l.length cap ∧ TgIn W a l ∧ l.length ≤ 9223372036854775807 := by
  rcases Go.Deep.open_slice_pairs Tryz.underlying29 Tryz.underlying102 (by kernel_rfl) rfl rfl (by kernel_rfl) (by kernel_rfl) hf with ⟨hcs, hx⟩ | ⟨a, len, cap, m, n, V0, V1, D0, D1, P0, P1, hcs, _, hl, hm, hmeq, hx, hall⟩
  · simp at hcs
    subst hcs
    exact ⟨none, [], 0, rfl, Or.inl rfl, by simp⟩
  · simp at hcs
    subst hcs
    simp only [if_true] at hmeq
    have hml : len ≤ 9223372036854775807 := by have : maxLen = 9223372036854775807 := rfl; omega
    have key : ∀ i, i < m → ∃ s t, V0 i = .string s ∧ V1 i = .string t := fun i hi => by
      obtain ⟨_, _, t0, t1⟩ := hall i hi
      obtain ⟨s, e0, _⟩ := DataW.trod_string Tryz.underlying9 t0
      obtain ⟨t, e1, _⟩ := DataW.trod_string Tryz.underlying9 t1
      simp at e0 e1
      exact ⟨s, t, e0, e1⟩
    refine ⟨some a, (List.range len).map (fun i => (strOf (V0 i), strOf (V1 i))), cap, by simp, ?_, by simpa using hml⟩
    rcases Nat.eq_zero_or_pos len with h0 | h0
    · subst h0; exact Or.inl rfl
    · right
      obtain ⟨b, off, spot⟩ := a
      have hspot : spot = none := by simpa [Addr.add] using World.cell?_spot (hall 0 (by omega)).1
      subst hspot
      refine ⟨b, off, rfl, ?_, fun i t ht => ?_⟩
      · have h' := (hall 0 (by omega)).1
        rw [Go.WideShapes.add_plain] at h'
        rcases Nat.lt_or_ge b W.heap.size with h2 | h2
        · exact h2
        · simp [World.cell?, Array.getElem?_eq_none h2] at h'
      · have hi : i < len := by
          have := (List.getElem?_eq_some_iff.1 ht).1
          simpa using this
        have et : t = (strOf (V0 i), strOf (V1 i)) := by
          rw [List.getElem?_map, List.getElem?_range hi] at ht
          simpa using ht.symm
        subst et
        obtain ⟨s, u, e0, e1⟩ := key i (by omega)
        obtain ⟨c0, c1, _, _⟩ := hall i (by omega)
        rw [Go.WideShapes.add_plain] at c0 c1
        refine ⟨?_, ?_⟩
        · rw [c0, e0]; rfl
        · rw [← Nat.add_assoc] at c1; rw [c1, e1]; rfl
end Go.Proofs.YtbojljmacheccaaGreatDoor

namespace Go.Proofs.YtbojljmacheccaaGreatDoor.Ln
open Go.RowKit Go.Shelf
attribute [local go_sem] Oper.semAt_some
set_option linter.unusedVariables false
set_option linter.unusedSimpArgs false
set_option maxRecDepth 100000
/-! ### All. -/
def runB : By → Nat → List PtP → Except (Nat × Int) By
  | acc, _, [] => .ok acc
  | acc, i, p :: r => match prL p with
    | .error n => .error (i, n)
    | .ok t => runB (acc ++ (t ++ [10])) (i + 1) r
def allR (l : List PtP) : Except (Nat × Int) By := runB [] 0 l
theorem runB_cons (acc : By) (i : Nat) (p : PtP) (r : List PtP) : runB acc i (p :: r) = match prL p with
    | .error n => .error (i, n)
    | .ok t => runB (acc ++ (t ++ [10])) (i + 1) r := rfl
theorem drop_cons_p {l : List PtP} {k : Nat} {p : PtP} (h : l[k]? = some p) : l.drop k = p :: l.drop (k + 1) := by
  obtain ⟨hk, e⟩ := List.getElem?_eq_some_iff.1 h
  rw [← e]; exact List.drop_eq_getElem_cons hk
theorem prL_len {p : PtP} {t : By} (h : prL p = .ok t) : t.length ≤ 8192 := by
  unfold prL at h
  split at h
  · split at h
    · cases h
    · injection h with h; subst h; omega
  · cases h
theorem inN_l (i n : Int) (w : World) : Calls Tryz.prog 38 #[.int .i64 i, .iface 33 (.int .i64 n)] w fun e w' => e = .returned (.iface 107 (.agg #[.int .i64 i, .iface 33 (.int .i64 n)])) ∧ Below w.heap.size w w' := by
  go_enter Tryz.func38, Tryz.ntmps38
  go_wp2
  go_ret
  exact ⟨rfl, Below.refl _ _⟩
def allV : Except (Nat × Int) By → Value
  | .ok t => .tuple #[.string ⟨t.toArray⟩, .nilIface]
  | .error x => .tuple #[.string ⟨#[]⟩, .iface 107 (.agg #[.int .i64 (x.1 : Int), .iface 33 (.int .i64 x.2)])]
set_option maxHeartbeats 1500000 in
theorem all_l (l : List PtP) (a : Option Addr) (c : Nat) (w : World) (ha : PsIn w a l) (hS : ∀ p ∈ l, PtS p) (hn : l.length ≤ 1048576) (hg : LT w) : Calls Tryz.prog 11 #[.slice a l.length c] w fun e w' => e = .returned (allV (allR l)) ∧ Below w.heap.size w w' := by
  obtain ⟨R, hR⟩ : ∃ R, allR l = R := ⟨_, rfl⟩
  obtain ⟨PST, hPST⟩ : ∃ PST : Ending → World → Prop, (fun e w' => e = .returned (allV R) ∧ Below w.heap.size w w') = PST := ⟨_, rfl⟩
  have PE : Hid (∀ x w1, R = .error x → Below w.heap.size w w1 → PST (.returned (.tuple #[.string ⟨#[]⟩, .iface 107 (.agg #[.int .i64 (x.1 : Int), .iface 33 (.int .i64 x.2)])])) w1) := fun x w1 e b => by rw [← hPST, e]; exact ⟨rfl, b⟩
  have PO : Hid (∀ t w1, R = .ok t → Below w.heap.size w w1 → PST (.returned (.tuple #[.string ⟨t.toArray⟩, .nilIface])) w1) := fun t w1 e b => by rw [← hPST, e]; exact ⟨rfl, b⟩
  rw [hR, hPST]
  have R0 : Hid (runB [] 0 (l.drop 0) = R) := hR
  obtain ⟨n, hn1⟩ : ∃ n, n = l.length := ⟨_, rfl⟩
  have nH : Hid (n = l.length) := hn1
  rw [← hn1] at hn ⊢
  have aH : Hid (PsIn w a l) := ha
  have N0 : Hid (PW w w.heap.size [] (w.alloc (.cells #[.pointer none, .slice none 0 0] 115))) := PW.new w
  have cP : Hid (∀ p ta tc fa fc W, p ∈ l → Below w.heap.size w W → PtIn W ta fa fc p → Calls Tryz.prog 8 #[ptV p ta tc fa fc] W fun e w' => e = .returned (prV (prL p)) ∧ Below W.heap.size W w') := fun p ta tc fa fc W h b hp => print_l p ta fa tc fc W hp (hS p h) (hg.on b)
  clear hR hPST ha hn1 hS hg
  go_enter Tryz.func11, Tryz.ntmps11
  go_wp2_with fail
  go_loopg [5, 6, 7, 8, 11] n (fun gk v5 v6 v7 v8 iv wx => ∃ (k : Nat) (bs : By), gk = n - k ∧ iv = .int .i64 (k : Int) ∧ k ≤ n ∧ Hid (runB bs k (l.drop k) = R ∧ bs.length ≤ k * 8193) ∧ Hid (PW w w.heap.size bs wx))
  case atStart => exact ⟨0, [], rfl, rfl, Nat.zero_le _, ⟨R0.out, by simp⟩, N0⟩
  case round =>
    rename World => wx
    clear R0 N0
    obtain ⟨k, bs, hgk, rfl, kn, hr, hp⟩ := hrel
    have hgkH : Hid (gk = n - k) := hgk
    clear hgk
    have k0 : (0 : Int) ≤ (k : Int) := by omega
    have wi : IntKind.i64.wrap ((k : Int) + 1) = ((k + 1 : Nat) : Int) := IntWalk.i64_in _ (by omega)
    have wk : wrap64 ((k : Int) + 1) = ((k + 1 : Nat) : Int) := IntWalk.wrap64_in _ (by omega)
    by_cases hk : k < n
    · have hkI : (k : Int) < (n : Int) := by omega
      obtain ⟨p, hpk⟩ : ∃ p, l[k]? = some p := ⟨_, List.getElem?_eq_getElem (by have := nH.out; omega)⟩
      obtain ⟨b, off, ta, tc, fa, fc, e1, hbx, ax, fx⟩ := aH.out.at hp.out.bl hpk
      subst e1
      have hpm := List.mem_of_getElem? hpk
      have hst := hr.out.1
      rw [drop_cons_p hpk, runB_cons] at hst
      unfold PAt at ax
      obtain ⟨x1, x2, x3, x4⟩ := ax
      have hlt : b < wx.heap.size := Nat.lt_of_lt_of_le hbx hp.out.bl.size
      obtain ⟨W2, hW2⟩ : ∃ W2, wx.alloc (.cells #[.string p.m, .slice ta p.t.length tc, .slice fa p.f.length fc, .int .i64 p.tm] 32) = W2 := ⟨_, rfl⟩
      have b2 : Below wx.heap.size wx W2 := by rw [← hW2]; exact (Below.refl _ wx).alloc (Nat.le_refl _) _
      have hp2 : PW w w.heap.size bs W2 := hp.out.below b2
      have cPr := cP.out p ta tc fa fc W2 hpm hp2.bl (fx W2 hp2.bl).2
      have hW2H : Hid (wx.alloc (.cells #[.string p.m, .slice ta p.t.length tc, .slice fa p.f.length fc, .int .i64 p.tm] 32) = W2) := hW2
      have hp2H : Hid (PW w w.heap.size bs W2) := hp2
      have hbl := hr.out.2
      cases hpr : prL p with
      | error q =>
        rw [hpr] at hst cPr
        have hR2 : Hid (R = .error (k, q)) := hst.symm
        have cPH : Hid (Calls Tryz.prog 8 #[.agg #[.string p.m, .slice ta p.t.length tc, .slice fa p.f.length fc, .int .i64 p.tm]] W2 fun e w' => e = .returned (.tuple #[.string ⟨#[]⟩, .iface 33 (.int .i64 q)]) ∧ Below W2.heap.size W2 w') := cPr
        clear hst cPr fx hW2 b2 hp2 hpr hpk hpm hp hr hbx
        generalize p.t.length = nt at *
        generalize p.f.length = nf at *
        generalize p.m = pm at *
        generalize p.tm = pt at *
        go_wp2_with fail
        rw [hW2H.out]
        refine Calls.mono cPH.out ?_
        rintro e w3 ⟨rfl, B3⟩
        have h3 := hp2H.out.below B3
        have b3H : Hid (Below w.heap.size w w3) := h3.bl
        clear B3 h3
        go_wp2_with fail
        refine Calls.mono (inN_l (k : Int) q w3) ?_
        rintro e w4 ⟨rfl, B4⟩
        have F := PE.out (k, q) w4 hR2.out (b3H.out.trans (B4.mono b3H.out.size))
        have FH : Hid (PST (.returned (.tuple #[.string ⟨#[]⟩, .iface 107 (.agg #[.int .i64 (k : Int), .iface 33 (.int .i64 q)])])) w4) := F
        clear F B4 PE PO
        go_wp2_with fail
        simp [bodyPost, results, Tryz.results11, go_sem]
        exact FH.out
      | ok t =>
        rw [hpr] at hst cPr
        have htl := prL_len hpr
        have cPH : Hid (Calls Tryz.prog 8 #[.agg #[.string p.m, .slice ta p.t.length tc, .slice fa p.f.length fc, .int .i64 p.tm]] W2 fun e w' => e = .returned (.tuple #[.string ⟨t.toArray⟩, .nilIface]) ∧ Below W2.heap.size W2 w') := cPr
        have hr2 : Hid (runB (bs ++ (t ++ [10])) (k + 1) (l.drop (k + 1)) = R ∧ (bs ++ (t ++ [10])).length ≤ (k + 1) * 8193) := ⟨hst, by simp; omega⟩
        have hTx : ((⟨t.toArray⟩ : ByteArray) ++ ⟨#[10]⟩).data.toList = t ++ [10] := by simp [ByteArray.data_append]
        have q1 : ∀ W, (Op.stringOp .add ⟨t.toArray⟩ ⟨#[10]⟩).run Tryz.prog W = .ok (.string (⟨t.toArray⟩ ++ ⟨#[10]⟩)) W := fun W => cat_l _ _ (by have e1 := sz1 t; have e2 : (⟨#[10]⟩ : ByteArray).size = 1 := rfl; omega) W
        have cW : Hid (∀ W, PW w w.heap.size bs W → Calls Tryz.prog 39 #[.pointer (some ⟨w.heap.size, 0, none⟩), .string ((⟨t.toArray⟩ : ByteArray) ++ ⟨#[10]⟩)] W fun e w' => (∃ q : Int, e = .returned (.tuple #[.int .i64 q, .nilIface])) ∧ PW w w.heap.size (bs ++ (t ++ [10])) w') := fun W hW => (hW.write _ (by rw [Lib.size_eq, hTx]; simp; omega)).mono fun e w' ⟨h1, h2, h3⟩ => ⟨h1, hTx ▸ h2⟩
        clear hst cPr fx hW2 b2 hp2 hpr hpk hpm hp hr hbx hTx hbl
        generalize p.t.length = nt at *
        generalize p.f.length = nf at *
        generalize p.m = pm at *
        generalize p.tm = pt at *
        go_wp2_with fail
        rw [hW2H.out]
        refine Calls.mono cPH.out ?_
        rintro e w3 ⟨rfl, B3⟩
        have h3H : Hid (PW w w.heap.size bs w3) := hp2H.out.below B3
        clear B3
        go_wp2_with fail
        refine Calls.mono (cW.out _ h3H.out) ?_
        rintro e w4 ⟨⟨q, rfl⟩, h4⟩
        have h4H : Hid (PW w w.heap.size (bs ++ (t ++ [10])) w4) := h4
        clear h4
        go_wp2_with fail
        go_roundg (n - (k + 1))
        case measure => rw [hgkH.out]; omega
        case rel => exact ⟨k + 1, _, rfl, by first | rfl | simp, by omega, hr2, h4H⟩
    · have hkI : ¬ (k : Int) < (n : Int) := by omega
      have hR2 : Hid (R = .ok bs) := by
        have := hr.out.1
        rw [List.drop_eq_nil_of_le (by have := nH.out; omega)] at this
        exact this.symm
      have cT : Hid (Calls Tryz.prog 40 #[.pointer (some ⟨w.heap.size, 0, none⟩)] wx fun e w' => e = .returned (.string ⟨bs.toArray⟩) ∧ Below w.heap.size w w') := hp.out.text
      clear hp hr
      go_wp2_with fail
      refine Calls.mono cT.out ?_
      rintro e w4 ⟨rfl, B4⟩
      have FH : Hid (PST (.returned (.tuple #[.string ⟨bs.toArray⟩, .nilIface])) w4) := PO.out bs w4 hR2.out B4
      clear B4 PE PO
      go_wp2_with fail
      simp [bodyPost, results, Tryz.results11, go_sem]
      exact FH.out
end Go.Proofs.YtbojljmacheccaaGreatDoor.Ln

namespace Go.Proofs.YtbojljmacheccaaGreatDoor.Ln
open Go.RowKit Go.Shelf
set_option linter.unusedVariables false
set_option linter.unusedSimpArgs false
set_option maxRecDepth 100000
/-! ### LineBack, plain: what is printed is read as it was. -/
theorem wordL_B {s : ByteArray} (h : wordL s = true) : wordB s.data.toList := by
  unfold wordL at h
  simp only [Bool.and_eq_true, decide_eq_true_eq] at h
  exact h
theorem plainL_P {p : PtP} (h : plainL p = true) : PlainP (ptL p) := by
  unfold plainL at h
  simp only [Bool.and_eq_true, Bool.not_eq_true', decide_eq_true_eq, decide_eq_false_iff_not, List.all_eq_true] at h
  obtain ⟨⟨⟨⟨h1, h2⟩, h3⟩, h4⟩, h5⟩ := h
  refine ⟨wordL_B h1, h2, ?_, ?_, ?_⟩
  · unfold ptL; simpa using h3
  · intro t ht
    unfold ptL at ht
    simp only [List.mem_map] at ht
    obtain ⟨u, hu, rfl⟩ := ht
    have := h4 u hu
    unfold tagW1 at this
    simp only [Bool.and_eq_true] at this
    exact ⟨wordL_B this.1, wordL_B this.2⟩
  · intro x hx
    unfold ptL at hx
    simp only [List.mem_map] at hx
    obtain ⟨u, hu, rfl⟩ := hx
    exact wordL_B (h5 u hu)
theorem prL_ok {p : PtP} {t : By} (h : prL p = .ok t) : plainL p = true ∧ t = ptW p ∧ (ptW p).length ≤ 8192 := by
  unfold prL at h
  split at h
  · rename_i hp
    split at h
    · cases h
    · injection h with h; subst h; exact ⟨hp, rfl, by omega⟩
  · cases h
theorem ptS_in {p : PtP} (hS : PtS p) : (∀ x ∈ (ptL p).fs, I64L x.2) ∧ I64L (ptL p).t := by
  refine ⟨fun x hx => ?_, hS.tm⟩
  unfold ptL at hx
  simp only [List.mem_map] at hx
  obtain ⟨u, hu, rfl⟩ := hx
  exact (hS.f u hu).2
theorem back_one {p : PtP} {t : By} (h : prL p = .ok t) (hS : PtS p) : outP t = p ∧ outE t = .nilIface := by
  obtain ⟨h1, h2, h3⟩ := prL_ok h
  have hP := plainL_P h1
  have hI := ptS_in hS
  have hl := line_feed exK (ptL p) hP
  have ho : oneL unK nvL t = .ok (ptL p) := by
    rw [h2, ptW_of]
    exact one_print okK (ptL p) ⟨hP.1.1, fun u hu => ⟨(hP.2.2.2.1 u hu).1.1, (hP.2.2.2.1 u hu).2.1⟩, hP.2.2.1, fun x hx => ⟨(hP.2.2.2.2 x hx).1, hI.1 x hx⟩, hI.2⟩ hl.1 hl.2
  have h8 : one8 unK nvL t = .ok (ptL p) := by
    unfold one8
    rw [if_neg (by rw [h2]; omega), ho]
  unfold outP outE
  rw [h8]
  exact ⟨ptB_L p, rfl⟩
end Go.Proofs.YtbojljmacheccaaGreatDoor.Ln

namespace Go.Proofs.YtbojljmacheccaaGreatDoor.Ln
open Go.RowKit Go.Shelf
attribute [local go_sem] Oper.semAt_some
set_option linter.unusedVariables false
set_option linter.unusedSimpArgs false
set_option maxRecDepth 100000
/-! ### the document's Plain. -/
set_option maxHeartbeats 2000000 in
theorem bare_any (s : ByteArray) (hs : s.size ≤ 4611686018427387904) (w : World) : Calls Tryz.prog 102 #[.string s] w fun e w' => e = .returned (.bool (!wordL s)) ∧ w' = w := by
  obtain ⟨l, hl⟩ : ∃ l, s.data.toList = l := ⟨_, rfl⟩
  obtain ⟨R, hR⟩ : ∃ R, (!wordL s) = R := ⟨_, rfl⟩
  have RH : Hid (R = !(decide (l ≠ []) && decide (feedAt l = none))) := by show _ = _; rw [← hR, ← hl]; rfl
  have hlen : l.length = s.size := by rw [← hl]; rfl
  rw [hR]
  clear hR
  go_enter Tryz.func102, Tryz.ntmps102
  go_wp2_with fail
  go_loopw [3] (fun v V => ∃ (i : Nat), v = .int .i64 (i : Int) ∧ i ≤ s.size ∧ Hid (feedAt (l.take i) = none) ∧ V = w) (fun v _ => s.size - (intOf v).toNat)
  case atStart => exact ⟨0, rfl, Nat.zero_le _, rfl, rfl⟩
  case round =>
    rename World => V
    obtain ⟨i, rfl, hi, hf, hwr⟩ := hrel
    subst hwr
    have i0 : (0 : Int) ≤ (i : Int) := by omega
    have wi : IntKind.i64.wrap ((i : Int) + 1) = ((i + 1 : Nat) : Int) := IntWalk.i64_in _ (by omega)
    by_cases hil : i < s.size
    · have hiI : (i : Int) < (s.size : Int) := by omega
      obtain ⟨x, hx⟩ : ∃ x, s.get! i = x := ⟨_, rfl⟩
      have hsk : s[i]'hil = x := get_at s i hil x hx
      have hli : l[i]? = some x := by rw [← hl, ← hx]; exact get_list s i hil
      by_cases h10 : x = 10
      · have h10I : ((x.toNat : Int) == 10) = true := by rw [h10]; rfl
        have eR : R = true := by rw [RH.out, feed_hit l i hf.out (by rw [hli, h10])]; simp
        subst eR
        clear hx RH hl hlen hli
        subst h10
        go_wp2_with fail
        go_ret
        exact ⟨rfl, rfl⟩
      · have h10I : ((x.toNat : Int) == 10) = false := by
          have : x.toNat ≠ 10 := fun h => h10 (UInt8.toNat_inj.1 h)
          simp; omega
        have hf2 : Hid (feedAt (l.take (i + 1)) = none) := feed_next l i x hf.out hli h10
        clear hx h10 hli hl hlen
        go_wp2_with fail
        go_roundw
        case measure => simp only [intOf]; omega
        case rel => exact ⟨i + 1, rfl, by omega, hf2, by first | rfl | trivial⟩
    · have hiI : ¬ (i : Int) < (s.size : Int) := by omega
      have h10 : feedAt l = none := feed_end l i hf.out (by rw [hlen]; omega)
      by_cases h0 : l = []
      · have eR : R = true := by rw [RH.out, h0]; rfl
        have e2 : s = ⟨#[]⟩ := (nil_ba s).1 (hl.trans h0)
        subst eR
        subst e2
        clear hf h10 RH hl hlen h0 hiI hil hi hs wi i0
        go_wp2_with fail
        go_ret
        exact ⟨rfl, rfl⟩
      · have eR : R = false := by rw [RH.out, h10]; simp [h0]
        have e1 : s.toList.isEmpty = false := by
          rw [Lib.toList_data, hl]
          cases hq : l with
          | nil => exact absurd hq h0
          | cons a r => rfl
        subst eR
        clear hf h10 RH hl hlen h0 hil hi hs wi
        go_wp2_with fail
        go_ret
        exact ⟨rfl, rfl⟩
end Go.Proofs.YtbojljmacheccaaGreatDoor.Ln

namespace Go.Proofs.YtbojljmacheccaaGreatDoor.Ln
open Go.RowKit Go.Shelf
attribute [local go_sem] Oper.semAt_some
set_option linter.unusedVariables false
set_option linter.unusedSimpArgs false
set_option maxRecDepth 100000
set_option maxHeartbeats 8000000 in
theorem rplain_any (p : PtP) (ta fa : Option Addr) (tc fc : Nat) (w : World) (hp : PtIn w ta fa fc p) (hS : PtS p) : Calls Tryz.prog 33 #[.agg #[.string p.m, .slice ta p.t.length tc, .slice fa p.f.length fc, .int .i64 p.tm]] w fun e w' => e = .returned (.bool (plainL p)) ∧ Below w.heap.size w w' := by
  obtain ⟨hT, hTl, hF, hFl, hFc⟩ := hp
  obtain ⟨sm, stn, sfn, st, sf, stm⟩ := hS
  obtain ⟨pm, pt, pf, ptm⟩ := p
  dsimp only at hT hTl hF hFl hFc sm st sf ⊢
  have cY : Hid (∀ s b, s.size ≤ 1048576 → wordL s = b → ∀ W, Calls Tryz.prog 102 #[.string s] W fun e w' => e = .returned (.bool (!b)) ∧ w' = W) := fun s b h e W => e ▸ bare_any s (by omega) W
  obtain ⟨R, hR⟩ : ∃ R, plainL ⟨pm, pt, pf, ptm⟩ = R := ⟨_, rfl⟩
  have hRH : Hid (plainL ⟨pm, pt, pf, ptm⟩ = R) := hR
  rw [hR]
  clear hR
  have hTH : Hid (TgIn w ta pt) := hT
  have hFH : Hid (FdIn w fa pf) := hF
  have stH : Hid (∀ t ∈ pt, t.1.size ≤ 1048576 ∧ t.2.size ≤ 1048576) := st
  have sfH : Hid (∀ t ∈ pf, t.1.size ≤ 1048576) := fun t h => (sf t h).1
  obtain ⟨n, hn⟩ : ∃ n, pt.length = n := ⟨_, rfl⟩
  obtain ⟨m, hm⟩ : ∃ m, pf.length = m := ⟨_, rfl⟩
  have hnH : Hid (pt.length = n) := hn
  have hmH : Hid (pf.length = m) := hm
  rw [hn] at hTl ⊢
  rw [hm] at hFl hFc ⊢
  obtain ⟨W1, hW1⟩ : ∃ W1, w.alloc (.cells #[.string pm, .slice ta n tc, .slice fa m fc, .int .i64 ptm] 32) = W1 := ⟨_, rfl⟩
  have B1 : Hid (Below w.heap.size w W1) := by rw [← hW1]; exact (Below.refl _ w).alloc (Nat.le_refl _) _
  have z1 : Hid (W1.heap.size = w.heap.size + 1) := by show _ = _; rw [← hW1]; simp
  have x0 : W1.cell? ⟨w.heap.size, 0, none⟩ = some (.string pm) := by rw [← hW1]; simp [go_sem]
  have x1 : W1.cell? ⟨w.heap.size, 1, none⟩ = some (.slice ta n tc) := by rw [← hW1]; simp [go_sem]
  have x2 : W1.cell? ⟨w.heap.size, 2, none⟩ = some (.slice fa m fc) := by rw [← hW1]; simp [go_sem]
  have hW1H : Hid (w.alloc (.cells #[.string pm, .slice ta n tc, .slice fa m fc, .int .i64 ptm] 32) = W1) := hW1
  clear hW1 hT hF hn hm st sf
  by_cases g1 : wordL pm = true
  rotate_left 1
  · have g1' : wordL pm = false := by simpa using g1
    have eR : R = false := by rw [← hRH.out]; unfold plainL; rw [show wordL (PtP.m ⟨pm, pt, pf, ptm⟩) = false from g1']; simp
    subst eR
    have cY2 : Hid (∀ W, Calls Tryz.prog 102 #[.string pm] W fun e w' => e = .returned (.bool true) ∧ w' = W) := fun W => cY.out pm false sm g1' W
    clear g1 g1'
    go_enter Tryz.func33, Tryz.ntmps33
    go_wp2_with fail
    rw [hW1H.out]
    refine Calls.mono (cY2.out _) ?_
    rintro e w2 ⟨rfl, hw⟩
    subst hw
    go_wp2_with fail
    go_ret
    exact ⟨rfl, B1.out⟩
  have cY2 : Hid (∀ W, Calls Tryz.prog 102 #[.string pm] W fun e w' => e = .returned (.bool false) ∧ w' = W) := fun W => cY.out pm true sm g1 W
  have hpos : 0 < pm.size := by
    have h0 : pm.data.toList ≠ [] := by unfold wordL at g1; simp only [Bool.and_eq_true, decide_eq_true_eq] at g1; exact g1.1
    rw [Lib.size_eq]
    exact List.length_pos_iff.2 h0
  obtain ⟨x, hx⟩ : ∃ x, pm.get! 0 = x := ⟨_, rfl⟩
  have hsk : pm[0]'hpos = x := get_at pm 0 hpos x hx
  have hhd : pm.data.toList.head? = some x := by rw [List.head?_eq_getElem?, ← hx]; exact get_list pm 0 hpos
  have hposI : (0 : Int) < (pm.size : Int) := by omega
  by_cases g2 : x = 35
  · have h35I : ((x.toNat : Int) == 35) = true := by rw [g2]; rfl
    have eR : R = false := by rw [← hRH.out]; unfold plainL; simp [hhd, g2]
    subst eR
    clear g1 hx hhd
    subst g2
    go_enter Tryz.func33, Tryz.ntmps33
    go_wp2_with fail
    rw [hW1H.out]
    refine Calls.mono (cY2.out _) ?_
    rintro e w2 ⟨rfl, hw⟩
    subst hw
    go_wp2_with fail
    go_ret
    exact ⟨rfl, B1.out⟩
  have h35I : ((x.toNat : Int) == 35) = false := by
    have : x.toNat ≠ 35 := fun h => g2 (UInt8.toNat_inj.1 h)
    simp; omega
  have g2' : ¬ pm.data.toList.head? = some 35 := fun q => g2 (by rw [hhd] at q; exact Option.some.inj q)
  by_cases g3 : m = 0
  · have eR : R = false := by
      rw [← hRH.out]; unfold plainL
      have : pf = [] := List.eq_nil_of_length_eq_zero (hmH.out.trans g3)
      simp [this]
    subst eR
    have mI : ((m : Int) == 0) = true := by simp [g3]
    clear g1 g2 g2' g3 hx hhd
    go_enter Tryz.func33, Tryz.ntmps33
    go_wp2_with fail
    rw [hW1H.out]
    refine Calls.mono (cY2.out _) ?_
    rintro e w2 ⟨rfl, hw⟩
    subst hw
    go_wp2_with fail
    go_ret
    exact ⟨rfl, B1.out⟩
  have eR : Hid (R = (pt.all tagW1 && pf.all (fun f => wordL f.1))) := by
    show _ = _
    rw [← hRH.out]; unfold plainL
    have : pf ≠ [] := fun q => g3 (by rw [← hmH.out, q]; rfl)
    simp [g1, g2', this]
  have mI : ((m : Int) == 0) = false := beq_eq_false_iff_ne.2 (by omega)
  clear g1 g2 g2' g3 hRH hx hhd
  have bx : Hid (∀ wr, Below (w.heap.size + 1) W1 wr → Below w.heap.size w wr ∧ wr.cell? ⟨w.heap.size, 1, none⟩ = some (.slice ta n tc) ∧ wr.cell? ⟨w.heap.size, 2, none⟩ = some (.slice fa m fc)) := fun wr b => ⟨B1.out.trans (b.mono (Nat.le_succ _)), by rw [b.cell (p := ⟨w.heap.size, 1, none⟩) (Nat.lt_succ_self _)]; exact x1, by rw [b.cell (p := ⟨w.heap.size, 2, none⟩) (Nat.lt_succ_self _)]; exact x2⟩
  have b0 : Hid (Below (w.heap.size + 1) W1 W1) := Below.refl _ _
  go_enter Tryz.func33, Tryz.ntmps33
  go_wp2_with fail
  rw [hW1H.out]
  refine Calls.mono (cY2.out _) ?_
  rintro e w2 ⟨rfl, hw⟩
  subst hw
  go_wp2_with fail
  go_loopw [3] (fun i wr => ∃ k : Nat, i = .int .i64 (k : Int) ∧ k ≤ n ∧ Hid ((pt.take k).all tagW1 = true) ∧ Hid (Below (w.heap.size + 1) w2 wr)) (fun i _ => n - (intOf i).toNat)
  case atStart => exact ⟨0, rfl, Nat.zero_le _, by show List.all _ _ = true; simp, b0⟩
  case round =>
    obtain ⟨k, rfl, kn, hal, hb⟩ := hrel
    clear b0
    obtain ⟨bw, y1, y2⟩ := bx.out _ hb.out
    have bwH : Hid (Below w.heap.size w wr) := bw
    clear bw hposI hsk
    by_cases hk : k < n
    · have hkI : (k : Int) < (n : Int) := by omega
      have k0 : (0 : Int) ≤ (k : Int) := by omega
      obtain ⟨t, ht⟩ : ∃ t, pt[k]? = some t := ⟨_, List.getElem?_eq_getElem (by have := hnH.out; omega)⟩
      obtain ⟨b1, o1, rfl, hb1, t1, t2⟩ := hTH.out.at bwH.out ht
      have htH : Hid (pt[k]? = some t) := ht
      have hsz := stH.out t (List.mem_of_getElem? ht)
      clear ht
      obtain ⟨K, V⟩ := t
      dsimp only at t1 t2 hsz
      have wi : IntKind.i64.wrap ((k : Int) + 1) = ((k + 1 : Nat) : Int) := IntWalk.i64_in _ (by omega)
      have hb1' : b1 < wr.heap.size := Nat.lt_of_lt_of_le hb1 bwH.out.size
      by_cases gt : tagW1 (K, V) = true
      · have gK : wordL K = true ∧ wordL V = true := by unfold tagW1 at gt; simpa using gt
        have cK : Hid (∀ W, Calls Tryz.prog 102 #[.string K] W fun e w' => e = .returned (.bool false) ∧ w' = W) := fun W => cY.out K true hsz.1 gK.1 W
        have cV : Hid (∀ W, Calls Tryz.prog 102 #[.string V] W fun e w' => e = .returned (.bool false) ∧ w' = W) := fun W => cY.out V true hsz.2 gK.2 W
        have hal2 : Hid ((pt.take (k + 1)).all tagW1 = true) := all_step htH.out hal.out gt
        clear gt gK hsz
        go_wp2_with fail
        refine Calls.mono (cK.out _) ?_
        rintro e w3 ⟨rfl, hw⟩
        subst hw
        go_wp2_with fail
        refine Calls.mono (cV.out _) ?_
        rintro e w3 ⟨rfl, hw⟩
        subst hw
        go_wp2_with fail
        exact ⟨⟨k + 1, by first | rfl | simp, by omega, hal2, hb⟩, by simp [intOf]; omega⟩
      · have gt' : tagW1 (K, V) = false := by simpa using gt
        have eR2 : R = false := by rw [eR.out, all_bad htH.out gt']; rfl
        subst eR2
        by_cases gK : wordL K = true
        · have gV : wordL V = false := by unfold tagW1 at gt'; simpa [gK] using gt'
          have cK : Hid (∀ W, Calls Tryz.prog 102 #[.string K] W fun e w' => e = .returned (.bool false) ∧ w' = W) := fun W => cY.out K true hsz.1 gK W
          have cV : Hid (∀ W, Calls Tryz.prog 102 #[.string V] W fun e w' => e = .returned (.bool true) ∧ w' = W) := fun W => cY.out V false hsz.2 gV W
          clear gt gt' gK gV hsz
          go_wp2_with fail
          refine Calls.mono (cK.out _) ?_
          rintro e w3 ⟨rfl, hw⟩
          subst hw
          go_wp2_with fail
          refine Calls.mono (cV.out _) ?_
          rintro e w3 ⟨rfl, hw⟩
          subst hw
          go_wp2_with fail
          go_ret
          exact ⟨rfl, bwH.out⟩
        · have gK' : wordL K = false := by simpa using gK
          have cK : Hid (∀ W, Calls Tryz.prog 102 #[.string K] W fun e w' => e = .returned (.bool true) ∧ w' = W) := fun W => cY.out K false hsz.1 gK' W
          clear gt gt' gK gK' hsz
          go_wp2_with fail
          refine Calls.mono (cK.out _) ?_
          rintro e w3 ⟨rfl, hw⟩
          subst hw
          go_wp2_with fail
          go_ret
          exact ⟨rfl, bwH.out⟩
    · have hkI : ¬ (k : Int) < (n : Int) := by omega
      have eR2 : Hid (R = pf.all (fun f => wordL f.1)) := by
        show _ = _
        rw [eR.out]
        have : pt.take k = pt := List.take_of_length_le (by have := hnH.out; omega)
        rw [← this, hal.out]; simp
      clear eR hal
      go_wp2_with fail
      go_loopw [4] (fun i wr => ∃ k : Nat, i = .int .i64 (k : Int) ∧ k ≤ m ∧ Hid ((pf.take k).all (fun f => wordL f.1) = true) ∧ Hid (Below (w.heap.size + 1) w2 wr)) (fun i _ => m - (intOf i).toNat)
      case atStart => exact ⟨0, rfl, Nat.zero_le _, by show List.all _ _ = true; simp, hb⟩
      case round =>
        clear hkI hk kn y1 y2 bwH hb
        obtain ⟨k, rfl, kn, hal, hb⟩ := hrel
        obtain ⟨bw, y1, y2⟩ := bx.out _ hb.out
        have bwH : Hid (Below w.heap.size w wr) := bw
        clear bw
        by_cases hk : k < m
        · have hkI : (k : Int) < (m : Int) := by omega
          have k0 : (0 : Int) ≤ (k : Int) := by omega
          obtain ⟨t, ht⟩ : ∃ t, pf[k]? = some t := ⟨_, List.getElem?_eq_getElem (by have := hmH.out; omega)⟩
          obtain ⟨b1, o1, rfl, hb1, t1, t2⟩ := hFH.out.at bwH.out ht
          have htH : Hid (pf[k]? = some t) := ht
          have hsz := sfH.out t (List.mem_of_getElem? ht)
          clear ht
          obtain ⟨K, V⟩ := t
          dsimp only at t1 t2 hsz
          have wi : IntKind.i64.wrap ((k : Int) + 1) = ((k + 1 : Nat) : Int) := IntWalk.i64_in _ (by omega)
          have hb1' : b1 < wr.heap.size := Nat.lt_of_lt_of_le hb1 bwH.out.size
          by_cases gK : wordL K = true
          · have cK : Hid (∀ W, Calls Tryz.prog 102 #[.string K] W fun e w' => e = .returned (.bool false) ∧ w' = W) := fun W => cY.out K true hsz gK W
            have hal2 : Hid ((pf.take (k + 1)).all (fun f => wordL f.1) = true) := all_step htH.out hal.out gK
            clear gK hsz
            go_wp2_with fail
            refine Calls.mono (cK.out _) ?_
            rintro e w3 ⟨rfl, hw⟩
            subst hw
            go_wp2_with fail
            exact ⟨⟨k + 1, by first | rfl | simp, by omega, hal2, hb⟩, by simp [intOf]; omega⟩
          · have gK' : wordL K = false := by simpa using gK
            have cK : Hid (∀ W, Calls Tryz.prog 102 #[.string K] W fun e w' => e = .returned (.bool true) ∧ w' = W) := fun W => cY.out K false hsz gK' W
            have eR3 : R = false := by rw [eR2.out]; exact all_bad htH.out gK'
            subst eR3
            clear gK gK' hsz
            go_wp2_with fail
            refine Calls.mono (cK.out _) ?_
            rintro e w3 ⟨rfl, hw⟩
            subst hw
            go_wp2_with fail
            go_ret
            exact ⟨rfl, bwH.out⟩
        · have hkI : ¬ (k : Int) < (m : Int) := by omega
          have eR3 : R = true := by
            rw [eR2.out]
            have : pf.take k = pf := List.take_of_length_le (by have := hmH.out; omega)
            rw [← this, hal.out]
          subst eR3
          go_wp2_with fail
          go_ret
          exact ⟨rfl, bwH.out⟩
end Go.Proofs.YtbojljmacheccaaGreatDoor.Ln

namespace Go.Proofs.YtbojljmacheccaaGreatDoor.Ln
open Go.RowKit Go.Shelf
attribute [local go_sem] Oper.semAt_some
set_option linter.unusedVariables false
set_option linter.unusedSimpArgs false
set_option maxRecDepth 100000
/-! ### LineBack's walk. -/
end Go.Proofs.YtbojljmacheccaaGreatDoor.Ln

namespace Go.Proofs.YtbojljmacheccaaGreatDoor.Ln
open Go.ChangeShapes Go.WideShapes Go.ChangeAt Go.RowKit
set_option linter.unusedVariables false
set_option linter.unusedSimpArgs false
/-! ### points in bulk. -/
theorem bulk_posW {H : Type} (d : DataW H) : 1 ≤ Rows.uptoBulk d := by
  cases d <;> first | (simp [Rows.uptoBulk]; done) | (rename_i q; cases q <;> simp [Rows.uptoBulk])
theorem bulk_lenW {H : Type} : ∀ l : List (DataW H), l.length ≤ Rows.uptoBulkAll l
  | [] => Nat.zero_le _
  | d :: r => by
    have h1 := bulk_posW d
    have h2 := bulk_lenW r
    simp only [Rows.uptoBulkAll, List.length_cons]; omega
theorem bulk_memW {H : Type} : ∀ {l : List (DataW H)} {d : DataW H}, d ∈ l → Rows.uptoBulk d ≤ Rows.uptoBulkAll l
  | x :: r, d, h => by
    simp only [Rows.uptoBulkAll]
    rcases List.mem_cons.1 h with e | e
    · subst e; omega
    · have := bulk_memW e; omega
/-- the bulk of tags bounds how many there are. -/
theorem choose_belowW {α : Type} [Inhabited α] {n : Nat} {P : Nat → α → Prop} (h : ∀ i, i < n → ∃ x, P i x) : ∃ f : Nat → α, ∀ i, i < n → P i (f i) := by
  refine ⟨fun i => if hi : i < n then Classical.choose (h i hi) else default, fun i hi => ?_⟩
  simp only [dif_pos hi]
  exact Classical.choose_spec (h i hi)
theorem i64_wf {n : Int} (h : (Lit.int .i64 n).wf = true) : I64L n := by
  unfold I64L
  have e1 : IntKind.i64.min = -9223372036854775808 := by decide
  have e2 : IntKind.i64.max = 9223372036854775807 := by decide
  simp [Lit.wf, e1, e2] at h
  omega
set_option maxRecDepth 100000 in
/-- tags by their bulk. -/
theorem tags_readB {H : Type} {enc : TypeId × Value → H} {W : World} {v : Value} {y : DataW H × List MemPlace} {fuel : Nat}
    (hf : DataW.trod enc Tryz.prog W 0 (fun _ => true) true fuel 29 [v] = some y) :
    ∃ a l cap, v = .slice a l.length cap ∧ TgIn W a l ∧ l.length ≤ Rows.uptoBulk y.1 ∧ ∀ t ∈ l, t.1.size ≤ Rows.uptoBulk y.1 ∧ t.2.size ≤ Rows.uptoBulk y.1 := by
  rcases Go.Deep.open_slice_pairs Tryz.underlying29 Tryz.underlying102 (by kernel_rfl) rfl rfl (by kernel_rfl) (by kernel_rfl) hf with ⟨hcs, hx⟩ | ⟨a, len, cap, m, n, V0, V1, D0, D1, P0, P1, hcs, _, hl, hm, hmeq, hx, hall⟩
  · simp at hcs
    subst hcs
    exact ⟨none, [], 0, rfl, Or.inl rfl, by simp, fun t ht => by cases ht⟩
  · simp at hcs
    subst hcs
    simp only [if_true] at hmeq
    have hml : len ≤ 9223372036854775807 := by have : maxLen = 9223372036854775807 := rfl; omega
    have key : ∀ i, i < m → ∃ s t, V0 i = .string s ∧ V1 i = .string t ∧ s.size ≤ Rows.uptoBulk (D0 i) ∧ t.size ≤ Rows.uptoBulk (D1 i) := fun i hi => by
      obtain ⟨_, _, t0, t1⟩ := hall i hi
      obtain ⟨s, e0, d0, _⟩ := DataW.trod_string Tryz.underlying9 t0
      obtain ⟨t, e1, d1, _⟩ := DataW.trod_string Tryz.underlying9 t1
      have d0' := congrArg (·.1) d0
      have d1' := congrArg (·.1) d1
      simp at e0 e1
      dsimp only at d0' d1'
      refine ⟨s, t, e0, e1, ?_, ?_⟩
      · rw [d0', Lib.size_eq]; simp [Rows.uptoBulk]
      · rw [d1', Lib.size_eq]; simp [Rows.uptoBulk]
    have bulkI : ∀ i, i < len → Rows.uptoBulk (D0 i) ≤ Rows.uptoBulk y.1 ∧ Rows.uptoBulk (D1 i) ≤ Rows.uptoBulk y.1 := fun i hi => by
      have hy1 := congrArg (·.1) hx
      dsimp only at hy1
      have h1 : Rows.uptoBulk (DataW.agg [D0 i, D1 i]) ≤ Rows.uptoBulkAll ((List.range len).map fun i => DataW.agg [D0 i, D1 i]) := bulk_memW (List.mem_map.2 ⟨i, List.mem_range.2 hi, rfl⟩)
      rw [hy1]
      simp only [Rows.uptoBulk, Rows.uptoBulkAll] at h1 ⊢
      omega
    have fewI : len ≤ Rows.uptoBulk y.1 := by
      have hy1 := congrArg (·.1) hx
      dsimp only at hy1
      rw [hy1]
      have := bulk_lenW ((List.range len).map fun i => DataW.agg [D0 i, D1 i])
      simp only [List.length_map, List.length_range] at this
      simp only [Rows.uptoBulk]
      omega
    refine ⟨some a, (List.range len).map (fun i => (strOf (V0 i), strOf (V1 i))), cap, by simp, ?_, by simpa using fewI, fun x hx2 => ?_⟩
    rotate_left 1
    · simp only [List.mem_map, List.mem_range] at hx2
      obtain ⟨i, hi, rfl⟩ := hx2
      obtain ⟨s, u, e0, e1, z0, z1⟩ := key i (by omega)
      have := bulkI i hi
      rw [e0, e1]
      exact ⟨Nat.le_trans z0 this.1, Nat.le_trans z1 this.2⟩
    rcases Nat.eq_zero_or_pos len with h0 | h0
    · subst h0; exact Or.inl rfl
    · right
      obtain ⟨b, off, spot⟩ := a
      have hspot : spot = none := by simpa [Addr.add] using World.cell?_spot (hall 0 (by omega)).1
      subst hspot
      refine ⟨b, off, rfl, ?_, fun i t ht => ?_⟩
      · have h' := (hall 0 (by omega)).1
        rw [Go.WideShapes.add_plain] at h'
        rcases Nat.lt_or_ge b W.heap.size with h2 | h2
        · exact h2
        · simp [World.cell?, Array.getElem?_eq_none h2] at h'
      · have hi : i < len := by
          have := (List.getElem?_eq_some_iff.1 ht).1
          simpa using this
        have et : t = (strOf (V0 i), strOf (V1 i)) := by
          rw [List.getElem?_map, List.getElem?_range hi] at ht
          simpa using ht.symm
        subst et
        obtain ⟨s, u, e0, e1, _, _⟩ := key i (by omega)
        obtain ⟨c0, c1, _, _⟩ := hall i (by omega)
        rw [Go.WideShapes.add_plain] at c0 c1
        refine ⟨?_, ?_⟩
        · rw [c0, e0]; rfl
        · rw [← Nat.add_assoc] at c1; rw [c1, e1]; rfl
/-- fields by their bulk. -/
def numOf : Value → Int
  | .int _ n => n
  | _ => 0
set_option maxRecDepth 100000 in
theorem fields_readB {H : Type} {enc : TypeId × Value → H} {W : World} {v : Value} {y : DataW H × List MemPlace} {fuel : Nat}
    (hf : DataW.trod enc Tryz.prog W 0 (fun _ => true) true fuel 30 [v] = some y) :
    ∃ a l cap, v = .slice a l.length cap ∧ FdIn W a l ∧ l.length ≤ cap ∧ l.length ≤ Rows.uptoBulk y.1 ∧ ∀ t ∈ l, t.1.size ≤ Rows.uptoBulk y.1 ∧ I64L t.2 := by
  rcases Go.Deep.open_slice_pairs Tryz.underlying30 Tryz.underlying86 (by kernel_rfl) rfl rfl (by kernel_rfl) (by kernel_rfl) hf with ⟨hcs, hx⟩ | ⟨a, len, cap, m, n, V0, V1, D0, D1, P0, P1, hcs, _, hl, hm, hmeq, hx, hall⟩
  · simp at hcs
    subst hcs
    exact ⟨none, [], 0, rfl, Or.inl rfl, by simp, by simp, fun t ht => by cases ht⟩
  · simp at hcs
    subst hcs
    simp only [if_true] at hmeq
    have key : ∀ i, i < m → ∃ s t, V0 i = .string s ∧ V1 i = .int .i64 t ∧ s.size ≤ Rows.uptoBulk (D0 i) ∧ I64L t := fun i hi => by
      obtain ⟨_, _, t0, t1⟩ := hall i hi
      obtain ⟨s, e0, d0, _⟩ := DataW.trod_string Tryz.underlying9 t0
      obtain ⟨t, e1, _, w1⟩ := DataW.trod_int Tryz.underlying2 t1
      have d0' := congrArg (·.1) d0
      simp at e0 e1
      dsimp only at d0'
      refine ⟨s, t, e0, e1, ?_, i64_wf w1⟩
      rw [d0', Lib.size_eq]; simp [Rows.uptoBulk]
    have bulkI : ∀ i, i < len → Rows.uptoBulk (D0 i) ≤ Rows.uptoBulk y.1 ∧ Rows.uptoBulk (D1 i) ≤ Rows.uptoBulk y.1 := fun i hi => by
      have hy1 := congrArg (·.1) hx
      dsimp only at hy1
      have h1 : Rows.uptoBulk (DataW.agg [D0 i, D1 i]) ≤ Rows.uptoBulkAll ((List.range len).map fun i => DataW.agg [D0 i, D1 i]) := bulk_memW (List.mem_map.2 ⟨i, List.mem_range.2 hi, rfl⟩)
      rw [hy1]
      simp only [Rows.uptoBulk, Rows.uptoBulkAll] at h1 ⊢
      omega
    have fewI : len ≤ Rows.uptoBulk y.1 := by
      have hy1 := congrArg (·.1) hx
      dsimp only at hy1
      rw [hy1]
      have := bulk_lenW ((List.range len).map fun i => DataW.agg [D0 i, D1 i])
      simp only [List.length_map, List.length_range] at this
      simp only [Rows.uptoBulk]
      omega
    refine ⟨some a, (List.range len).map (fun i => (strOf (V0 i), numOf (V1 i))), cap, by simp, ?_, by simp; omega, by simpa using fewI, fun x hx2 => ?_⟩
    rotate_left 1
    · simp only [List.mem_map, List.mem_range] at hx2
      obtain ⟨i, hi, rfl⟩ := hx2
      obtain ⟨s, u, e0, e1, z0, z1⟩ := key i (by omega)
      have := bulkI i hi
      rw [e0, e1]
      exact ⟨Nat.le_trans z0 this.1, z1⟩
    rcases Nat.eq_zero_or_pos len with h0 | h0
    · subst h0; exact Or.inl rfl
    · right
      obtain ⟨b, off, spot⟩ := a
      have hspot : spot = none := by simpa [Addr.add] using World.cell?_spot (hall 0 (by omega)).1
      subst hspot
      refine ⟨b, off, rfl, ?_, fun i t ht => ?_⟩
      · have h' := (hall 0 (by omega)).1
        rw [Go.WideShapes.add_plain] at h'
        rcases Nat.lt_or_ge b W.heap.size with h2 | h2
        · exact h2
        · simp [World.cell?, Array.getElem?_eq_none h2] at h'
      · have hi : i < len := by
          have := (List.getElem?_eq_some_iff.1 ht).1
          simpa using this
        have et : t = (strOf (V0 i), numOf (V1 i)) := by
          rw [List.getElem?_map, List.getElem?_range hi] at ht
          simpa using ht.symm
        subst et
        obtain ⟨s, u, e0, e1, _, _⟩ := key i (by omega)
        obtain ⟨c0, c1, _, _⟩ := hall i (by omega)
        rw [Go.WideShapes.add_plain] at c0 c1
        refine ⟨?_, ?_⟩
        · rw [c0, e0]; rfl
        · rw [← Nat.add_assoc] at c1; rw [c1, e1]; rfl
set_option maxRecDepth 100000 in
/-- points, as they are read, by their bulk. -/
theorem points_bulk {H : Type} {enc : TypeId × Value → H} {W : World} {v : Value} {y : DataW H × List MemPlace} {fuel : Nat}
    (hf : DataW.trod enc Tryz.prog W 0 (fun _ => true) true fuel 22 [v] = some y) (hbk : Rows.uptoBulk y.1 ≤ 1048576) :
    ∃ a l cap, v = .slice a (List.length l) cap ∧ PsIn W a l ∧ l.length ≤ cap ∧ l.length ≤ 1048576 ∧ ∀ p ∈ l, PtS p := by
  rcases Go.Deep.open_slice Tryz.underlying22 hf with ⟨hcs, hx⟩ | ⟨a, len, cap, m, n, D, Pl, hcs, hb, hl, hm, hmm, hx, hall⟩
  · simp at hcs
    subst hcs
    exact ⟨none, [], 0, rfl, Or.inl rfl, by simp, by simp, by simp⟩
  · simp at hcs
    subst hcs
    simp only [if_true] at hmm
    subst hmm
    have hce : Tryz.prog.cellsOf 32 = 4 := by kernel_rfl
    have cu : Tryz.prog.cellsOf 2 = 1 := by kernel_rfl
    have cs : Tryz.prog.cellsOf 9 = 1 := by kernel_rfl
    have ct : Tryz.prog.cellsOf 29 = 1 := by kernel_rfl
    have cf : Tryz.prog.cellsOf 30 = 1 := by kernel_rfl
    have hy1 : y.1 = .slice ((List.range len).map D) ((List.range (m - len)).map fun j => D (len + j)) := by rw [hx]
    have hbe : Rows.uptoBulkAll ((List.range len).map D) ≤ 1048576 := by
      rw [hy1] at hbk; simp only [Rows.uptoBulk] at hbk; omega
    have hsz : len ≤ 1048576 := by have := bulk_lenW ((List.range len).map D); simp at this; omega
    have each : ∀ i, i < len → ∃ q : PtP × (Option Addr × Nat) × (Option Addr × Nat), (W.cell? (a.add (i * 4)) = some (.string q.1.m) ∧ W.cell? (a.add (i * 4 + 1)) = some (.slice q.2.1.1 q.1.t.length q.2.1.2) ∧ W.cell? (a.add (i * 4 + 2)) = some (.slice q.2.2.1 q.1.f.length q.2.2.2) ∧ W.cell? (a.add (i * 4 + 3)) = some (.int .i64 q.1.tm)) ∧ PtIn W q.2.1.1 q.2.2.1 q.2.2.2 q.1 ∧ PtS q.1 := by
      intro i hi
      obtain ⟨cs', h1, h2⟩ := hall i (by omega)
      rw [hce] at h1
      obtain ⟨_, hlen, hcell⟩ := World.cells?_some h1
      obtain ⟨xs, k, hk, hxy, _, hxl, hff⟩ := DataW.trod_struct Tryz.underlying32 h2
      have hDb : Rows.uptoBulk (D i) ≤ 1048576 := Nat.le_trans (bulk_memW (List.mem_map.2 ⟨i, List.mem_range.2 hi, rfl⟩)) hbe
      match xs, hxl, cs', hlen with
      | [y0, y1, y2, y3], _, [v0, v1, v2, v3], _ =>
        have g0 : DataW.trod enc Tryz.prog W 0 (fun _ => true) true k 9 (List.take (Tryz.prog.cellsOf 9) [v0, v1, v2, v3]) = some y0 := hff 0 _ rfl
        have g1 : DataW.trod enc Tryz.prog W 0 (fun _ => true) true k 29 (List.take (Tryz.prog.cellsOf 29) [v1, v2, v3]) = some y1 := hff 1 _ rfl
        have g2 : DataW.trod enc Tryz.prog W 0 (fun _ => true) true k 30 (List.take (Tryz.prog.cellsOf 30) [v2, v3]) = some y2 := hff 2 _ rfl
        have g3 : DataW.trod enc Tryz.prog W 0 (fun _ => true) true k 2 (List.take (Tryz.prog.cellsOf 2) [v3]) = some y3 := hff 3 _ rfl
        rw [cs] at g0
        rw [ct] at g1
        rw [cf] at g2
        rw [cu] at g3
        simp only [List.take_succ_cons, List.take_zero] at g0 g1 g2 g3
        have hDi : D i = .agg [y0.1, y1.1, y2.1, y3.1] := by simpa using congrArg (·.1) hxy
        obtain ⟨sm, e0, d0, _⟩ := DataW.trod_string Tryz.underlying9 g0
        have hms : sm.size ≤ Rows.uptoBulk y0.1 := by rw [congrArg (·.1) d0, Lib.size_eq]; simp [Rows.uptoBulk]
        obtain ⟨n3, e3, _, w3⟩ := DataW.trod_int Tryz.underlying2 g3
        obtain ⟨ta, tl, tc, e1, ti, hfew, tz⟩ := tags_readB g1
        obtain ⟨fa, fl, fc, e2, fi, fn, hfew2, fz⟩ := fields_readB g2
        subst e1 e2
        rw [hDi] at hDb
        simp only [Rows.uptoBulk, Rows.uptoBulkAll] at hDb
        simp at e0 e3
        subst e0 e3
        have r0 := hcell 0 (by omega)
        have r1 := hcell 1 (by omega)
        have r2 := hcell 2 (by omega)
        have r3 := hcell 3 (by omega)
        rw [Go.Deep.add_add] at r0 r1 r2 r3
        exact ⟨(⟨sm, tl, fl, n3⟩, (ta, tc), (fa, fc)), ⟨by simpa using r0, by simpa using r1, by simpa using r2, by simpa using r3⟩, ⟨ti, by show tl.length ≤ 4398046511104; omega, fi, by show fl.length ≤ 4611686018427387904; omega, fn⟩, ⟨by show sm.size ≤ 1048576; omega, by show tl.length ≤ 1048576; omega, by show fl.length ≤ 1048576; omega, fun t ht => ⟨Nat.le_trans (tz t ht).1 (by omega), Nat.le_trans (tz t ht).2 (by omega)⟩, fun t ht => ⟨Nat.le_trans (fz t ht).1 (by omega), (fz t ht).2⟩, i64_wf w3⟩⟩
    haveI : Inhabited (PtP × (Option Addr × Nat) × (Option Addr × Nat)) := ⟨(ptZ, (none, 0), (none, 0))⟩
    obtain ⟨q, hq⟩ := choose_belowW each
    refine ⟨some a, (List.range len).map (fun i => (q i).1), m, by simp, ?_, by simpa using hl, by simpa using hsz, fun x hx => ?_⟩
    · rcases Nat.eq_zero_or_pos len with h0 | h0
      · exact Or.inl (by rw [h0]; rfl)
      · right
        obtain ⟨b, off, spot⟩ := a
        have hspot : spot = none := by simpa [Addr.add] using World.cell?_spot (hq 0 h0).1.1
        subst hspot
        refine ⟨b, off, rfl, ?_, fun i s hs => ?_⟩
        · have h' := (hq 0 h0).1.1
          rw [tag_add] at h'
          rcases Nat.lt_or_ge b W.heap.size with h2 | h2
          · exact h2
          · simp [World.cell?, Array.getElem?_eq_none h2] at h'
        · have hi : i < len := by have := (List.getElem?_eq_some_iff.1 hs).1; simpa using this
          have es : s = (q i).1 := by
            rw [List.getElem?_map, List.getElem?_range hi] at hs
            simpa using hs.symm
          subst es
          obtain ⟨⟨r0, r1, r2, r3⟩, hS, _⟩ := hq i hi
          rw [tag_add] at r0 r1 r2 r3
          exact ⟨(q i).2.1.1, (q i).2.1.2, (q i).2.2.1, (q i).2.2.2, ⟨r0, by rw [Nat.add_assoc]; exact r1, by rw [Nat.add_assoc]; exact r2, by rw [Nat.add_assoc]; exact r3⟩, hS⟩
    · simp only [List.mem_map, List.mem_range] at hx
      obtain ⟨i, hi, rfl⟩ := hx
      exact (hq i hi).2.2
end Go.Proofs.YtbojljmacheccaaGreatDoor.Ln

namespace Go.Proofs.YtbojljmacheccaaGreatDoor.Ln
open Go.RowKit Go.Shelf
attribute [local go_sem] Oper.semAt_some
set_option linter.unusedVariables false
set_option linter.unusedSimpArgs false
set_option maxRecDepth 100000
/-! ### the document's Print. -/
def rprV : Except Int By → Value
  | .ok t => .tuple #[.string ⟨t.toArray⟩, .agg #[.int .i64 0, .int .i64 0, .int .i64 0, .bool false, .bool false]]
  | .error n => .tuple #[.string ⟨#[]⟩, .agg #[.int .i64 n, .int .i64 0, .int .i64 0, .bool false, .bool false]]
def PB (w : World) (ob : Obj) (W : World) : Prop := Below w.heap.size w W ∧ W.heap[w.heap.size]? = some ob ∧ W.heap[w.heap.size + 1]? = some bdO
theorem PB.below {w W W' : World} {ob : Obj} (h : PB w ob W) (hb : Below W.heap.size W W') : PB w ob W' :=
  ⟨h.1.trans (hb.mono h.1.size), (hb.block _ (Array.getElem?_eq_some_iff.1 h.2.1).1).trans h.2.1, (hb.block _ (Array.getElem?_eq_some_iff.1 h.2.2).1).trans h.2.2⟩
theorem PB.drew {w W : World} {ob : Obj} (h : PB w ob W) : PB w ob W.drew := ⟨h.1.drew, h.2.1, h.2.2⟩
theorem PB.pt {w W : World} {pm : ByteArray} {a b c : Value} {t : TypeId} (h : PB w (.cells #[.string pm, a, b, c] t) W) : W.cell? ⟨w.heap.size, 0, none⟩ = some (.string pm) ∧ W.cell? ⟨w.heap.size, 1, none⟩ = some a ∧ W.cell? ⟨w.heap.size, 2, none⟩ = some b ∧ W.cell? ⟨w.heap.size, 3, none⟩ = some c := by
  have e := h.2.1
  exact ⟨by rw [Lib.cell_of_heap e]; rfl, by rw [Lib.cell_of_heap e]; rfl, by rw [Lib.cell_of_heap e]; rfl, by rw [Lib.cell_of_heap e]; rfl⟩
theorem PB.fin {w W : World} {ob : Obj} (h : PB w ob W) (x y z u v : Value) : Below w.heap.size w (((((W.setCell ⟨w.heap.size + 1, 0, none⟩ x).setCell ⟨w.heap.size + 1, 1, none⟩ y).setCell ⟨w.heap.size + 1, 2, none⟩ z).setCell ⟨w.heap.size + 1, 3, none⟩ u).setCell ⟨w.heap.size + 1, 4, none⟩ v) :=
  ((((h.1.setCell (p := ⟨w.heap.size + 1, 0, none⟩) (Nat.le_succ _) _).setCell (p := ⟨w.heap.size + 1, 1, none⟩) (Nat.le_succ _) _).setCell (p := ⟨w.heap.size + 1, 2, none⟩) (Nat.le_succ _) _).setCell (p := ⟨w.heap.size + 1, 3, none⟩) (Nat.le_succ _) _).setCell (p := ⟨w.heap.size + 1, 4, none⟩) (Nat.le_succ _) _
theorem PB.start (w : World) (ob : Obj) : PB w ob ((w.alloc ob).alloc bdO) := ⟨((Below.refl _ w).alloc (Nat.le_refl _) _).alloc (by simp) _, by rw [Below.heap_alloc _ _ _ (by simp)]; exact World.alloc_heap_new w _, by have := World.alloc_heap_new (w.alloc ob) bdO; simpa using this⟩
theorem cat_big (a b : ByteArray) (h : a.size + b.size ≤ 70368744177664) (W : World) : (Op.stringOp .add a b).run Tryz.prog W = .ok (.string (a ++ b)) W := run_string_add_sum W a b (by omega)
theorem meas_k {n k : Nat} (h : k < n) : n - ((k : Int) + 1).toNat < n - (k : Int).toNat := by omega
set_option maxHeartbeats 16000000 in
theorem rprint_l (p : PtP) (ta fa : Option Addr) (tc fc : Nat) (w : World) (hp : PtIn w ta fa fc p) (hS : PtS p) (hg : LT w) : Calls Tryz.prog 9 #[ptV p ta tc fa fc] w fun e w' => e = .returned (rprV (prL p)) ∧ Below w.heap.size w w' := by
  have h0 := PB.start w (.cells #[.string p.m, .slice ta p.t.length tc, .slice fa p.f.length fc, .int .i64 p.tm] 32)
  obtain ⟨W0, hW0⟩ : ∃ W0, (w.alloc (.cells #[.string p.m, .slice ta p.t.length tc, .slice fa p.f.length fc, .int .i64 p.tm] 32)).alloc bdO = W0 := ⟨_, rfl⟩
  have hW0H : Hid ((w.alloc (.cells #[.string p.m, .slice ta p.t.length tc, .slice fa p.f.length fc, .int .i64 p.tm] 32)).alloc (.cells #[.int .i64 0, .int .i64 0, .int .i64 0, .bool false, .bool false] 35) = W0) := hW0
  rw [hW0] at h0
  have hZ : Hid (W0.heap.size = w.heap.size + 2) := by show _ = _; rw [← hW0]; simp
  have cP : Hid (∀ W, Below w.heap.size w W → Calls Tryz.prog 33 #[.agg #[.string p.m, .slice ta p.t.length tc, .slice fa p.f.length fc, .int .i64 p.tm]] W fun e w' => e = .returned (.bool (plainL p)) ∧ Below W.heap.size W w') := fun W b => rplain_any p ta fa tc fc W (hp.below b) hS
  have gH : Hid (∀ W, Below w.heap.size w W → LT W) := fun W b => hg.on b
  obtain ⟨hT, _, hF, hFl, hFc⟩ := hp
  have hSH : Hid (PtS p) := hS
  have eP : Hid (prL p = if plainL p then (if 8192 < (ptW p).length then .error 6 else .ok (ptW p)) else .error 60) := rfl
  obtain ⟨R, hR⟩ : ∃ R, prL p = R := ⟨_, rfl⟩
  rw [hR] at eP ⊢
  have eT : Hid (escL p.m.data.toList ++ p.t.flatMap tW ++ fsW true p.f ++ 32 :: Lib.itoa p.tm = ptW p) := rfl
  obtain ⟨T, hTe⟩ : ∃ T, ptW p = T := ⟨_, rfl⟩
  rw [hTe] at eP eT
  obtain ⟨b, hb⟩ : ∃ b, plainL p = b := ⟨_, rfl⟩
  rw [hb] at cP eP
  obtain ⟨PST, hPST⟩ : ∃ PST : Ending → World → Prop, (fun e w' => e = .returned (rprV R) ∧ Below w.heap.size w w') = PST := ⟨_, rfl⟩
  have PE : Hid (∀ n w1, R = .error n → Below w.heap.size w w1 → PST (.returned (.tuple #[.string ⟨#[]⟩, .agg #[.int .i64 n, .int .i64 0, .int .i64 0, .bool false, .bool false]])) w1) := fun n w1 e b => by rw [← hPST, e]; exact ⟨rfl, b⟩
  have PO : Hid (∀ (t : ByteArray) w1, R = .ok t.data.toList → Below w.heap.size w w1 → PST (.returned (.tuple #[.string t, .agg #[.int .i64 0, .int .i64 0, .int .i64 0, .bool false, .bool false]])) w1) := fun n w1 e b => by rw [← hPST, e]; exact ⟨rfl, b⟩
  rw [hPST]
  obtain ⟨pm, pt, pf, ptm⟩ := p
  dsimp only at hT hF hFl hFc eT cP hW0H h0 ⊢
  have hTH : Hid (TgIn w ta pt) := hT
  have hFH : Hid (FdIn w fa pf) := hF
  unfold ptV
  dsimp only
  obtain ⟨n, hn⟩ : ∃ n, pt.length = n := ⟨_, rfl⟩
  obtain ⟨m, hm⟩ : ∃ m, pf.length = m := ⟨_, rfl⟩
  have hnH : Hid (pt.length = n) := hn
  have hmH : Hid (pf.length = m) := hm
  have hnB : n ≤ 1048576 := by rw [← hn]; exact hSH.out.tn
  have hmB : m ≤ 1048576 := by rw [← hm]; exact hSH.out.fn
  rw [hn] at cP hW0H h0 ⊢
  rw [hm] at hFl hFc cP hW0H h0 ⊢
  clear hR hTe hb hPST hT hF hn hm hW0 hS hg
  have H0 : Hid (PB w (.cells #[.string pm, .slice ta n tc, .slice fa m fc, .int .i64 ptm] 32) W0) := h0
  obtain ⟨x0, x1, x2, x3⟩ := h0.pt
  have cP0 := cP.out W0 h0.1
  have cPH : Hid (Calls Tryz.prog 33 #[.agg #[.string pm, .slice ta n tc, .slice fa m fc, .int .i64 ptm]] W0 fun e w' => e = .returned (.bool b) ∧ Below W0.heap.size W0 w') := cP0
  clear h0 cP cP0
  go_enter Tryz.func9, Tryz.ntmps9
  go_wp2_with fail
  rw [hW0H.out]
  refine Calls.mono cPH.out ?_
  rintro e w1 ⟨rfl, B1⟩
  have H1 : Hid (PB w (.cells #[.string pm, .slice ta n tc, .slice fa m fc, .int .i64 ptm] 32) w1) := H0.out.below B1
  clear H0 B1 cPH x0 x1 x2 x3
  cases b with
  | false =>
    have e : R = .error 60 := eP.out
    have FH : Hid (∀ w1, Below w.heap.size w w1 → PST (.returned (.tuple #[.string ⟨#[]⟩, .agg #[.int .i64 60, .int .i64 0, .int .i64 0, .bool false, .bool false]])) w1) := fun w1 b => PE.out 60 w1 e b
    have cN : Hid (Calls Tryz.prog 34 #[.int .i64 60] w1 fun e w' => e = .returned (.agg #[.int .i64 60, .int .i64 0, .int .i64 0, .bool false, .bool false]) ∧ Below w1.heap.size w1 w') := rnew_any 60 w1
    clear e eP PE PO
    go_wp2_with fail
    refine Calls.mono cN.out ?_
    rintro e w2 ⟨rfl, B2⟩
    have H2 := H1.out.below B2
    have F := FH.out _ (H2.fin (.int .i64 60) (.int .i64 0) (.int .i64 0) (.bool false) (.bool false))
    obtain ⟨⟨b0, b1, b2, b3, b4⟩, z0, z1, z2, z3, z4⟩ := bd_cells H2.2.2
    clear H1 H2 FH B2
    go_wp2_with fail
    simp [bodyPost, results, Tryz.results9, go_sem, b0, b1, b2, b3, b4]
    exact F
  | true =>
    have eP2 : Hid (R = if 8192 < T.length then .error 6 else .ok T) := by show _ = _; rw [eP.out, if_pos rfl]
    obtain ⟨x0, x1, x2, x3⟩ := H1.out.pt
    have cE : Hid (Calls Tryz.prog 35 #[.string pm] w1 fun e w' => e = .returned (.string ⟨(escL pm.data.toList).toArray⟩) ∧ Below w1.heap.size w1 w') := rescape_any pm w1 hSH.out.m
    clear eP
    go_wp2_with fail
    refine Calls.mono cE.out ?_
    rintro e w2 ⟨rfl, B2⟩
    have H2 : Hid (PB w (.cells #[.string pm, .slice ta n tc, .slice fa m fc, .int .i64 ptm] 32) w2) := H1.out.below B2
    clear x0 x1 x2 x3 B2 H1 cE
    obtain ⟨x0, x1, x2, x3⟩ := H2.out.pt
    have hEl := escL_len pm.data.toList
    rw [← Lib.size_eq] at hEl
    obtain ⟨E, hE⟩ : ∃ E, escL pm.data.toList = E := ⟨_, rfl⟩
    rw [hE] at hEl eT ⊢
    have hElH : Hid (E.length ≤ 2097152) := by have := hSH.out.m; show E.length ≤ _; dsimp only at this; omega
    clear hE hEl
    go_wp2_with fail
    clear x0 x1 x2 x3
    go_loopw [4, 5] (fun o i wr => ∃ (k : Nat) (b : ByteArray), o = .string b ∧ i = .int .i64 (k : Int) ∧ k ≤ n ∧ Hid (b.data.toList = E ++ (pt.take k).flatMap tW) ∧ Hid (PB w (.cells #[.string pm, .slice ta n tc, .slice fa m fc, .int .i64 ptm] 32) wr)) (fun _ i _ => n - (intOf i).toNat)
    case atStart => exact ⟨0, _, rfl, rfl, Nat.zero_le _, by show _ = E ++ _; simp, H2⟩
    case round =>
      clear H2
      obtain ⟨k, b, rfl, rfl, kn, hb, hP⟩ := hrel
      obtain ⟨x0, x1, x2, x3⟩ := hP.out.pt
      have hbs : b.size ≤ 4398050705408 := by
        rw [Lib.size_eq, hb.out, List.length_append]
        have h1 := hElH.out
        have h2 := tsW_len (pt.take k) (fun t ht => hSH.out.t t (List.mem_of_mem_take ht))
        have h3 : (pt.take k).length ≤ 1048576 := by rw [List.length_take]; omega
        have h4 := Nat.mul_le_mul_right 4194306 h3
        omega
      by_cases hk : k < n
      · have hkI : (k : Int) < (n : Int) := by omega
        have k0 : (0 : Int) ≤ (k : Int) := by omega
        obtain ⟨t, ht⟩ : ∃ t, pt[k]? = some t := ⟨_, List.getElem?_eq_getElem (by have := hnH.out; omega)⟩
        obtain ⟨b1, o1, rfl, hb1, t1, t2⟩ := hTH.out.at hP.out.1 ht
        have hsz := hSH.out.t t (List.mem_of_getElem? ht)
        have hb2 : Hid (b.data.toList ++ tW t = E ++ (pt.take (k + 1)).flatMap tW) := by
          show _ = _
          rw [hb.out, List.take_add_one, ht, List.flatMap_append]
          simp
        have txH : Hid (∀ W, Below w.heap.size w W → W.cell? ⟨b1, o1 + k * 2, none⟩ = some (.string t.1) ∧ W.cell? ⟨b1, o1 + k * 2 + 1, none⟩ = some (.string t.2)) := fun W hW => by
          obtain ⟨b9, o9, e9, _, u1, u2⟩ := hTH.out.at hW ht
          injection e9 with e9; injection e9 with e9 e8 _; subst e9 e8; exact ⟨u1, u2⟩
        clear ht
        obtain ⟨K, V⟩ := t
        dsimp only at t1 t2 hsz txH
        have wi : IntKind.i64.wrap ((k : Int) + 1) = ((k + 1 : Nat) : Int) := IntWalk.i64_in _ (by omega)
        have hb1' : b1 < wr.heap.size := Nat.lt_of_lt_of_le hb1 hP.out.1.size
        have hb3 : Hid (b.data.toList ++ 44 :: (escL K.data.toList ++ 61 :: escL V.data.toList) = E ++ (pt.take (k + 1)).flatMap tW) := hb2.out
        have hKl := escL_len K.data.toList
        have hVl := escL_len V.data.toList
        rw [← Lib.size_eq] at hKl hVl
        have cel : Hid (∀ X, PB w (.cells #[.string pm, .slice (some ⟨b1, o1, none⟩) n tc, .slice fa m fc, .int .i64 ptm] 32) X → X.cell? ⟨w.heap.size, 1, none⟩ = some (.slice (some ⟨b1, o1, none⟩) n tc) ∧ X.cell? ⟨b1, o1 + k * 2, none⟩ = some (.string K) ∧ X.cell? ⟨b1, o1 + k * 2 + 1, none⟩ = some (.string V)) := fun X hX => ⟨hX.pt.2.1, txH.out X hX.1⟩
        have cK : Hid (∀ X, PB w (.cells #[.string pm, .slice (some ⟨b1, o1, none⟩) n tc, .slice fa m fc, .int .i64 ptm] 32) X → Calls Tryz.prog 35 #[.string K] X fun e w' => e = .returned (.string ⟨(escL K.data.toList).toArray⟩) ∧ PB w (.cells #[.string pm, .slice (some ⟨b1, o1, none⟩) n tc, .slice fa m fc, .int .i64 ptm] 32) w') := fun X hX => (rescape_any K X hsz.1).mono fun e w' q => ⟨q.1, hX.below q.2⟩
        have cV : Hid (∀ X, PB w (.cells #[.string pm, .slice (some ⟨b1, o1, none⟩) n tc, .slice fa m fc, .int .i64 ptm] 32) X → Calls Tryz.prog 35 #[.string V] X fun e w' => e = .returned (.string ⟨(escL V.data.toList).toArray⟩) ∧ PB w (.cells #[.string pm, .slice (some ⟨b1, o1, none⟩) n tc, .slice fa m fc, .int .i64 ptm] 32) w') := fun X hX => (rescape_any V X hsz.2).mono fun e w' q => ⟨q.1, hX.below q.2⟩
        clear hb2 txH
        generalize escL K.data.toList = EK at cK hKl hb3
        generalize escL V.data.toList = EV at cV hVl hb3
        have e44 : (⟨#[44]⟩ : ByteArray).size = 1 := rfl
        have e61 : (⟨#[61]⟩ : ByteArray).size = 1 := rfl
        have eK := sz1 EK
        have eV := sz1 EV
        have q1 : ∀ W, (Op.stringOp .add ⟨#[44]⟩ ⟨EK.toArray⟩).run Tryz.prog W = .ok (.string (⟨#[44]⟩ ++ ⟨EK.toArray⟩)) W := fun W => cat_big _ _ (by omega) W
        have q2 : ∀ W, (Op.stringOp .add (⟨#[44]⟩ ++ ⟨EK.toArray⟩) ⟨#[61]⟩).run Tryz.prog W = .ok (.string (⟨#[44]⟩ ++ ⟨EK.toArray⟩ ++ ⟨#[61]⟩)) W := fun W => cat_big _ _ (by rw [ByteArray.size_append]; omega) W
        have q3 : ∀ W, (Op.stringOp .add (⟨#[44]⟩ ++ ⟨EK.toArray⟩ ++ ⟨#[61]⟩) ⟨EV.toArray⟩).run Tryz.prog W = .ok (.string (⟨#[44]⟩ ++ ⟨EK.toArray⟩ ++ ⟨#[61]⟩ ++ ⟨EV.toArray⟩)) W := fun W => cat_big _ _ (by rw [ByteArray.size_append, ByteArray.size_append]; omega) W
        have q4 : ∀ W, (Op.stringOp .add b (⟨#[44]⟩ ++ ⟨EK.toArray⟩ ++ ⟨#[61]⟩ ++ ⟨EV.toArray⟩)).run Tryz.prog W = .ok (.string (b ++ (⟨#[44]⟩ ++ ⟨EK.toArray⟩ ++ ⟨#[61]⟩ ++ ⟨EV.toArray⟩))) W := fun W => cat_big _ _ (by rw [ByteArray.size_append, ByteArray.size_append, ByteArray.size_append]; omega) W
        have hb4 : Hid ((b ++ (⟨#[44]⟩ ++ ⟨EK.toArray⟩ ++ ⟨#[61]⟩ ++ ⟨EV.toArray⟩)).data.toList = E ++ (pt.take (k + 1)).flatMap tW) := by
          show _ = _
          rw [← hb3.out]; simp [ByteArray.data_append]
        have mk : Hid (n - ((k : Int) + 1).toNat < n - (k : Int).toNat) := meas_k hk
        have k1 : k + 1 ≤ n := hk
        clear hKl hVl hsz e44 e61 eK eV hb3 hbs hb hk kn
        have hPd : Hid (PB w (.cells #[.string pm, .slice (some ⟨b1, o1, none⟩) n tc, .slice fa m fc, .int .i64 ptm] 32) wr.drew) := hP.out.drew
        have S0 := cel.out wr hP.out
        clear x1 t1 t2
        have x1 := S0.1
        go_wp2_with fail
        go_region_held3 (fun X => X.cell? ⟨w.heap.size, 1, none⟩ = some (.slice (some ⟨b1, o1, none⟩) n tc) ∧ X.cell? ⟨b1, o1 + k * 2, none⟩ = some (.string K) ∧ X.cell? ⟨b1, o1 + k * 2 + 1, none⟩ = some (.string V)) (first | assumption)
          (first
            | (go_at_call 35; (with_reducible refine Calls.mono (cK.out _ hPd.out) ?_); rintro e2 X2 ⟨rfl, G2⟩; have S2 := cel.out _ G2)
            | (go_at_call 35; (with_reducible refine Calls.mono (cV.out _ G2) ?_); rintro e3 X3 ⟨rfl, G3⟩; have S3 := cel.out _ G3))
        all_goals
          have G3H : Hid (PB w (.cells #[.string pm, .slice (some ⟨b1, o1, none⟩) n tc, .slice fa m fc, .int .i64 ptm] 32) X3) := G3
          clear G2 G3 S0 S2 S3 hPd cel
          go_wp2_with fail
          go_roundw
        case rel => exact ⟨k + 1, _, rfl, by first | rfl | simp, k1, hb4, G3H⟩
        case measure => simp only [intOf]; exact mk.out
      · have hkI : ¬ (k : Int) < (n : Int) := by omega
        have hbT : Hid (b.data.toList ++ fsW true (pf.take 0) = b.data.toList) := by show _ = _; simp [fsW]
        have hend : Hid (b.data.toList ++ fsW true pf ++ 32 :: Lib.itoa ptm = T) := by
          show _ = _
          have := hb.out
          rw [List.take_of_length_le (by have := hnH.out; omega)] at this
          rw [this]; exact eT.out
        obtain ⟨BT, hBT⟩ : ∃ BT, b.data.toList = BT := ⟨_, rfl⟩
        have hbZ : Hid (b.data.toList = BT ++ fsW true (pf.take 0)) := by show _ = _; rw [← hBT]; exact hbT.out.symm
        have hBl : Hid (BT.length ≤ 4398050705408) := by show _ ≤ _; rw [← hBT, ← Lib.size_eq]; exact hbs
        rw [hBT] at hend
        clear hBT hbT hb hbs hk kn eT
        go_wp2_with fail
        clear x0 x1 x2 x3
        go_loopw [4, 6] (fun o i wr => ∃ (k : Nat) (b : ByteArray), o = .string b ∧ i = .int .i64 (k : Int) ∧ k ≤ m ∧ Hid (b.data.toList = BT ++ fsW true (pf.take k)) ∧ Hid (PB w (.cells #[.string pm, .slice ta n tc, .slice fa m fc, .int .i64 ptm] 32) wr)) (fun _ i _ => m - (intOf i).toNat)
        case atStart => exact ⟨0, b, rfl, rfl, Nat.zero_le _, hbZ, hP⟩
        case round =>
          clear hbZ hP hkI
          obtain ⟨k, b, rfl, rfl, kn, hb, hP⟩ := hrel
          obtain ⟨x0, x1, x2, x3⟩ := hP.out.pt
          have hbs : b.size ≤ 6597230198784 := by
            rw [Lib.size_eq, hb.out, List.length_append]
            have h1 := hBl.out
            have h2 := fsW_len (pf.take k) true (fun t ht => hSH.out.f t (List.mem_of_mem_take ht))
            have h3 : (pf.take k).length ≤ 1048576 := by rw [List.length_take]; omega
            have h4 := Nat.mul_le_mul_right 2097301 h3
            omega
          by_cases hk : k < m
          · have hkI : (k : Int) < (m : Int) := by omega
            have k0 : (0 : Int) ≤ (k : Int) := by omega
            obtain ⟨t, ht⟩ : ∃ t, pf[k]? = some t := ⟨_, List.getElem?_eq_getElem (by have := hmH.out; omega)⟩
            obtain ⟨b1, o1, rfl, hb1, t1, t2⟩ := hFH.out.at hP.out.1 ht
            have hsz := hSH.out.f t (List.mem_of_getElem? ht)
            obtain ⟨c, hc⟩ : ∃ c : UInt8, c = if k = 0 then 32 else 44 := ⟨_, rfl⟩
            have hb2 : Hid (b.data.toList ++ c :: fW t = BT ++ fsW true (pf.take (k + 1))) := by
              show _ = _
              have e5 : (if (true && (pf.take k).isEmpty) = true then (32 : UInt8) else 44) = c := by
                rw [hc]
                have hlen5 : (pf.take k).length = k := by rw [List.length_take]; have := hmH.out; omega
                by_cases k5 : k = 0
                · subst k5; simp
                · rw [if_neg k5, if_neg]
                  cases hq : pf.take k with
                  | nil => rw [hq] at hlen5; exact absurd hlen5.symm k5
                  | cons a r => simp
              rw [hb.out, List.take_add_one, ht]
              show _ = BT ++ fsW true (pf.take k ++ [t])
              rw [fsW_snoc, e5]
              simp
            have txH : Hid (∀ W, Below w.heap.size w W → W.cell? ⟨b1, o1 + k * 2, none⟩ = some (.string t.1) ∧ W.cell? ⟨b1, o1 + k * 2 + 1, none⟩ = some (.int .i64 t.2)) := fun W hW => by
              obtain ⟨b9, o9, e9, _, u1, u2⟩ := hFH.out.at hW ht
              injection e9 with e9; injection e9 with e9 e8 _; subst e9 e8; exact ⟨u1, u2⟩
            clear ht
            obtain ⟨K, V⟩ := t
            dsimp only at t1 t2 hsz txH
            have wi : IntKind.i64.wrap ((k : Int) + 1) = ((k + 1 : Nat) : Int) := IntWalk.i64_in _ (by omega)
            have hb1' : b1 < wr.heap.size := Nat.lt_of_lt_of_le hb1 hP.out.1.size
            have hb3 : Hid (b.data.toList ++ c :: (escL K.data.toList ++ 61 :: (Lib.itoa V ++ [105])) = BT ++ fsW true (pf.take (k + 1))) := hb2.out
            have hKl := escL_len K.data.toList
            rw [← Lib.size_eq] at hKl
            have hDl := itoa_len V hsz.2
            have cel : Hid (∀ X, PB w (.cells #[.string pm, .slice ta n tc, .slice (some ⟨b1, o1, none⟩) m fc, .int .i64 ptm] 32) X → X.cell? ⟨w.heap.size, 2, none⟩ = some (.slice (some ⟨b1, o1, none⟩) m fc) ∧ X.cell? ⟨b1, o1 + k * 2, none⟩ = some (.string K) ∧ X.cell? ⟨b1, o1 + k * 2 + 1, none⟩ = some (.int .i64 V)) := fun X hX => ⟨hX.pt.2.2.1, txH.out X hX.1⟩
            have cK : Hid (∀ X, PB w (.cells #[.string pm, .slice ta n tc, .slice (some ⟨b1, o1, none⟩) m fc, .int .i64 ptm] 32) X → Calls Tryz.prog 35 #[.string K] X fun e w' => e = .returned (.string ⟨(escL K.data.toList).toArray⟩) ∧ PB w (.cells #[.string pm, .slice ta n tc, .slice (some ⟨b1, o1, none⟩) m fc, .int .i64 ptm] 32) w') := fun X hX => (rescape_any K X hsz.1).mono fun e w' q => ⟨q.1, hX.below q.2⟩
            have cV : Hid (∀ X, PB w (.cells #[.string pm, .slice ta n tc, .slice (some ⟨b1, o1, none⟩) m fc, .int .i64 ptm] 32) X → Calls Tryz.prog 36 #[.int .i64 V, .int .i64 10] X fun e w' => e = .returned (.string ⟨(Lib.itoa V).toArray⟩) ∧ PB w (.cells #[.string pm, .slice ta n tc, .slice (some ⟨b1, o1, none⟩) m fc, .int .i64 ptm] 32) w') := fun X hX => (form_l V hsz.2 X (gH.out X hX.1)).mono fun e w' q => ⟨q.1, hX.below q.2⟩
            clear hb2 txH
            generalize escL K.data.toList = EK at cK hKl hb3
            generalize Lib.itoa V = D at cV hDl hb3
            have e1c : (⟨#[c]⟩ : ByteArray).size = 1 := rfl
            have e61 : (⟨#[61]⟩ : ByteArray).size = 1 := rfl
            have e105 : (⟨#[105]⟩ : ByteArray).size = 1 := rfl
            have eK := sz1 EK
            have eD := sz1 D
            have q0 : ∀ W, (Op.stringOp .add b ⟨#[c]⟩).run Tryz.prog W = .ok (.string (b ++ ⟨#[c]⟩)) W := fun W => cat_big _ _ (by omega) W
            have q1 : ∀ W, (Op.stringOp .add ⟨EK.toArray⟩ ⟨#[61]⟩).run Tryz.prog W = .ok (.string (⟨EK.toArray⟩ ++ ⟨#[61]⟩)) W := fun W => cat_big _ _ (by omega) W
            have q2 : ∀ W, (Op.stringOp .add (⟨EK.toArray⟩ ++ ⟨#[61]⟩) ⟨D.toArray⟩).run Tryz.prog W = .ok (.string (⟨EK.toArray⟩ ++ ⟨#[61]⟩ ++ ⟨D.toArray⟩)) W := fun W => cat_big _ _ (by rw [ByteArray.size_append]; omega) W
            have q3 : ∀ W, (Op.stringOp .add (⟨EK.toArray⟩ ++ ⟨#[61]⟩ ++ ⟨D.toArray⟩) ⟨#[105]⟩).run Tryz.prog W = .ok (.string (⟨EK.toArray⟩ ++ ⟨#[61]⟩ ++ ⟨D.toArray⟩ ++ ⟨#[105]⟩)) W := fun W => cat_big _ _ (by rw [ByteArray.size_append, ByteArray.size_append]; omega) W
            have q4 : ∀ W, (Op.stringOp .add (b ++ ⟨#[c]⟩) (⟨EK.toArray⟩ ++ ⟨#[61]⟩ ++ ⟨D.toArray⟩ ++ ⟨#[105]⟩)).run Tryz.prog W = .ok (.string (b ++ ⟨#[c]⟩ ++ (⟨EK.toArray⟩ ++ ⟨#[61]⟩ ++ ⟨D.toArray⟩ ++ ⟨#[105]⟩))) W := fun W => cat_big _ _ (by rw [ByteArray.size_append, ByteArray.size_append, ByteArray.size_append, ByteArray.size_append]; omega) W
            have hb4 : Hid ((b ++ ⟨#[c]⟩ ++ (⟨EK.toArray⟩ ++ ⟨#[61]⟩ ++ ⟨D.toArray⟩ ++ ⟨#[105]⟩)).data.toList = BT ++ fsW true (pf.take (k + 1))) := by
              show _ = _
              rw [← hb3.out]; simp [ByteArray.data_append]
            have mk : Hid (m - ((k : Int) + 1).toNat < m - (k : Int).toNat) := meas_k hk
            have k1 : k + 1 ≤ m := hk
            clear hKl hDl hsz e1c e61 e105 eK eD hb3 hbs hb hk kn
            have hPd : Hid (PB w (.cells #[.string pm, .slice ta n tc, .slice (some ⟨b1, o1, none⟩) m fc, .int .i64 ptm] 32) wr.drew) := hP.out.drew
            have S0 := cel.out wr hP.out
            clear x2 t1 t2 x0 x1 x3
            have x2 := S0.1
            by_cases k5 : k = 0
            · have hc2 : c = 32 := by rw [hc, if_pos k5]
              have kI : ((k : Int) == 0) = true := by simp [k5]
              subst hc2
              clear hc k5
              go_wp2_with fail
              go_region_held3 (fun X => X.cell? ⟨w.heap.size, 2, none⟩ = some (.slice (some ⟨b1, o1, none⟩) m fc) ∧ X.cell? ⟨b1, o1 + k * 2, none⟩ = some (.string K) ∧ X.cell? ⟨b1, o1 + k * 2 + 1, none⟩ = some (.int .i64 V)) (first | assumption)
                (first
                  | (go_at_call 35; (with_reducible refine Calls.mono (cK.out _ hPd.out) ?_); rintro e2 X2 ⟨rfl, G2⟩; have S2 := cel.out _ G2)
                  | (go_at_call 36; (with_reducible refine Calls.mono (cV.out _ G2) ?_); rintro e3 X3 ⟨rfl, G3⟩; have S3 := cel.out _ G3))
              all_goals
                have G3H : Hid (PB w (.cells #[.string pm, .slice ta n tc, .slice (some ⟨b1, o1, none⟩) m fc, .int .i64 ptm] 32) X3) := G3
                clear G2 G3 S0 S2 S3 hPd cel
                go_wp2_with fail
                go_roundw
              case rel => exact ⟨k + 1, _, rfl, by first | rfl | simp, k1, hb4, G3H⟩
              case measure => simp only [intOf]; exact mk.out
            · have hc2 : c = 44 := by rw [hc, if_neg k5]
              have kI : ((k : Int) == 0) = false := beq_eq_false_iff_ne.2 (by omega)
              subst hc2
              clear hc k5
              go_wp2_with fail
              go_region_held3 (fun X => X.cell? ⟨w.heap.size, 2, none⟩ = some (.slice (some ⟨b1, o1, none⟩) m fc) ∧ X.cell? ⟨b1, o1 + k * 2, none⟩ = some (.string K) ∧ X.cell? ⟨b1, o1 + k * 2 + 1, none⟩ = some (.int .i64 V)) (first | assumption)
                (first
                  | (go_at_call 35; (with_reducible refine Calls.mono (cK.out _ hPd.out) ?_); rintro e2 X2 ⟨rfl, G2⟩; have S2 := cel.out _ G2)
                  | (go_at_call 36; (with_reducible refine Calls.mono (cV.out _ G2) ?_); rintro e3 X3 ⟨rfl, G3⟩; have S3 := cel.out _ G3))
              all_goals
                have G3H : Hid (PB w (.cells #[.string pm, .slice ta n tc, .slice (some ⟨b1, o1, none⟩) m fc, .int .i64 ptm] 32) X3) := G3
                clear G2 G3 S0 S2 S3 hPd cel
                go_wp2_with fail
                go_roundw
              case rel => exact ⟨k + 1, _, rfl, by first | rfl | simp, k1, hb4, G3H⟩
              case measure => simp only [intOf]; exact mk.out
          · have hkI : ¬ (k : Int) < (m : Int) := by omega
            have hbE : Hid (b.data.toList ++ 32 :: Lib.itoa ptm = T) := by
              show _ = _
              have := hb.out
              rw [List.take_of_length_le (by have := hmH.out; omega)] at this
              rw [this]; exact hend.out
            have hDl := itoa_len ptm hSH.out.tm
            have cV : Hid (Calls Tryz.prog 36 #[.int .i64 ptm, .int .i64 10] wr fun e w' => e = .returned (.string ⟨(Lib.itoa ptm).toArray⟩) ∧ PB w (.cells #[.string pm, .slice ta n tc, .slice fa m fc, .int .i64 ptm] 32) w') := (form_l ptm hSH.out.tm wr (gH.out wr hP.out.1)).mono fun e w' q => ⟨q.1, hP.out.below q.2⟩
            clear hb hend
            generalize Lib.itoa ptm = D at cV hDl hbE
            have e32 : (⟨#[32]⟩ : ByteArray).size = 1 := rfl
            have eD := sz1 D
            have q1 : ∀ W, (Op.stringOp .add ⟨#[32]⟩ ⟨D.toArray⟩).run Tryz.prog W = .ok (.string (⟨#[32]⟩ ++ ⟨D.toArray⟩)) W := fun W => cat_big _ _ (by omega) W
            have q2 : ∀ W, (Op.stringOp .add b (⟨#[32]⟩ ++ ⟨D.toArray⟩)).run Tryz.prog W = .ok (.string (b ++ (⟨#[32]⟩ ++ ⟨D.toArray⟩))) W := fun W => cat_big _ _ (by rw [ByteArray.size_append]; omega) W
            have hX : (b ++ (⟨#[32]⟩ ++ ⟨D.toArray⟩)).data.toList = T := by rw [← hbE.out]; simp [ByteArray.data_append]
            obtain ⟨X, hXe⟩ : ∃ X, b ++ (⟨#[32]⟩ ++ ⟨D.toArray⟩) = X := ⟨_, rfl⟩
            rw [hXe] at hX q2
            have hXs : X.size = T.length := by rw [Lib.size_eq, hX]
            have hXH : Hid (X.data.toList = T) := hX
            clear hbE hDl e32 eD hbs hX hXe
            go_wp2_with fail
            refine Calls.mono cV.out ?_
            rintro e w3 ⟨rfl, H3⟩
            have H3H : Hid (PB w (.cells #[.string pm, .slice ta n tc, .slice fa m fc, .int .i64 ptm] 32) w3) := H3
            clear cV H3 hP x0 x1 x2 x3
            by_cases h8 : 8192 < T.length
            · have e : R = .error 6 := by rw [eP2.out, if_pos h8]
              have FH : Hid (∀ w1, Below w.heap.size w w1 → PST (.returned (.tuple #[.string ⟨#[]⟩, .agg #[.int .i64 6, .int .i64 0, .int .i64 0, .bool false, .bool false]])) w1) := fun w1 b => PE.out 6 w1 e b
              have h8I : (8192 : Int) < (X.size : Int) := by omega
              have cN : Hid (Calls Tryz.prog 34 #[.int .i64 6] w3 fun e w' => e = .returned (.agg #[.int .i64 6, .int .i64 0, .int .i64 0, .bool false, .bool false]) ∧ Below w3.heap.size w3 w') := rnew_any 6 w3
              clear e eP2 PE PO hXs h8
              go_wp2_with fail
              refine Calls.mono cN.out ?_
              rintro e w2 ⟨rfl, B2⟩
              have H2 := H3H.out.below B2
              have F := FH.out _ (H2.fin (.int .i64 6) (.int .i64 0) (.int .i64 0) (.bool false) (.bool false))
              obtain ⟨⟨b0, b1, b2, b3, b4⟩, z0, z1, z2, z3, z4⟩ := bd_cells H2.2.2
              clear H2 FH B2 H3H
              go_wp2_with fail
              simp [bodyPost, results, Tryz.results9, go_sem, b0, b1, b2, b3, b4]
              exact F
            · have e : R = .ok X.data.toList := by rw [eP2.out, if_neg h8, hXH.out]
              have h8I : ¬ (8192 : Int) < (X.size : Int) := by omega
              have H2 := H3H.out
              have F := PO.out X _ e (H2.fin (.int .i64 0) (.int .i64 0) (.int .i64 0) (.bool false) (.bool false))
              obtain ⟨⟨b0, b1, b2, b3, b4⟩, z0, z1, z2, z3, z4⟩ := bd_cells H2.2.2
              clear H2 e eP2 PE PO hXs h8 H3H
              go_wp2_with fail
              simp [bodyPost, results, Tryz.results9, go_sem, b0, b1, b2, b3, b4]
              exact F
end Go.Proofs.YtbojljmacheccaaGreatDoor.Ln

namespace Go.Proofs.YtbojljmacheccaaGreatDoor.Ln
open Go.RowKit Go.Shelf
attribute [local go_sem] Oper.semAt_some
set_option linter.unusedVariables false
set_option linter.unusedSimpArgs false
set_option maxRecDepth 100000
/-! ### the document's All. -/
def BX (w W : World) : Prop := Below w.heap.size w W ∧ W.heap[w.heap.size]? = some bdO
theorem BX.below {w W W' : World} (h : BX w W) (hb : Below W.heap.size W W') : BX w W' := ⟨h.1.trans (hb.mono h.1.size), (hb.block _ (Array.getElem?_eq_some_iff.1 h.2).1).trans h.2⟩
theorem BX.start (w : World) : BX w (w.alloc bdO) := ⟨(Below.refl _ w).alloc (Nat.le_refl _) _, World.alloc_heap_new w bdO⟩
theorem BX.fin {w W : World} (h : BX w W) (x y z u v : Value) : Below w.heap.size w (((((W.setCell ⟨w.heap.size, 0, none⟩ x).setCell ⟨w.heap.size, 1, none⟩ y).setCell ⟨w.heap.size, 2, none⟩ z).setCell ⟨w.heap.size, 3, none⟩ u).setCell ⟨w.heap.size, 4, none⟩ v) :=
  ((((h.1.setCell (p := ⟨w.heap.size, 0, none⟩) (Nat.le_refl _) _).setCell (p := ⟨w.heap.size, 1, none⟩) (Nat.le_refl _) _).setCell (p := ⟨w.heap.size, 2, none⟩) (Nat.le_refl _) _).setCell (p := ⟨w.heap.size, 3, none⟩) (Nat.le_refl _) _).setCell (p := ⟨w.heap.size, 4, none⟩) (Nat.le_refl _) _
theorem prL_err {p : PtP} {n : Int} (h : prL p = .error n) : (n == 0) = false := by
  unfold prL at h
  split at h
  · split at h
    · injection h with h; subst h; rfl
    · cases h
  · injection h with h; subst h; rfl
end Go.Proofs.YtbojljmacheccaaGreatDoor.Ln
