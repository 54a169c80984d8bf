
import Derived.Test.YticgapplpfaigaaGreatSrL
namespace Go.Proofs.YticgapplpfaigaaGreat
open Go.RowKit Go.Maps Go.Sort Go.Shelf
set_option linter.unusedVariables false
set_option linter.unusedSimpArgs false
/-- a value of a map, as it is read. -/
def valE : Value → Option (DataW Unit × List MemPlace)
  | .agg a => match a.toList with
    | [.int .u8 k, .int .i64 x] => some (.agg [.lit (.int .u8 k), .lit (.int .i64 x)], [])
    | _ => none
  | _ => none
def vD (p : Nat × Int) : DataW Unit := .agg [.lit (.int .u8 (p.1 : Int)), .lit (.int .i64 p.2)]
def vV (p : Nat × Int) : Value := .agg #[.int .u8 (p.1 : Int), .int .i64 p.2]
theorem valE_mk (p : Nat × Int) : valE (vV p) = some (vD p, []) := rfl
theorem valE_inv {v : Value} {p : Nat × Int} {ps : List MemPlace} (h : valE v = some (vD p, ps)) : v = vV p := by
  unfold valE at h
  split at h
  · rename_i a
    split at h
    · rename_i k x e
      simp [vD] at h
      obtain ⟨⟨rfl, rfl⟩, _⟩ := h
      unfold vV
      congr 1
      exact Array.toList_inj.1 e
    · cases h
  · cases h
theorem i64_keyed : Keyed Tryz.prog 2 := int_keyed Tryz.underlying2
/-- a map of the last values of samples. -/
def MS (w : World) (b : Nat) (L : List Smp) : Prop := ∃ nn D, w.ownsMap Tryz.prog 2 valE b nn D ∧ nn ≤ L.length ∧ ∀ t, has D (.int .i64 t) = (valOf L t).isSome ∧ ∀ z, D.atKey (.int .i64 t) z = (match valOf L t with | some p => vD p | none => z)
theorem MS.start (w : World) : MS (w.alloc (.map #[] 0)) w.heap.size [] :=
  ⟨0, .map [], World.ownsMap_made w Tryz.prog 2 valE, by simp, fun t => ⟨rfl, fun z => rfl⟩⟩
theorem MS.lt {w : World} {b : Nat} {L : List Smp} (h : MS w b L) : b < w.heap.size := by obtain ⟨nn, D, h1, _⟩ := h; exact h1.lt
theorem MS.below {w w' : World} {b B : Nat} {L : List Smp} (h : MS w b L) (hb : Below B w w') (hB : b < B) : MS w' b L := by
  obtain ⟨nn, D, ⟨es, clock, h1, h2⟩, h3⟩ := h
  exact ⟨nn, D, ⟨es, clock, (hb.block b hB).trans h1, h2⟩, h3⟩
theorem MS.keep {w w' : World} {b : Nat} {L : List Smp} (h : MS w b L) (hb : w'.heap[b]? = w.heap[b]?) : MS w' b L := by
  obtain ⟨nn, D, ⟨es, clock, h1, h2⟩, h3⟩ := h
  exact ⟨nn, D, ⟨es, clock, hb.trans h1, h2⟩, h3⟩
theorem isKey (t : Int) : WideAt.IsKeyLit (.int .i64 t) := by first | exact trivial | simp [WideAt.IsKeyLit]
/-- a value laid into the map. -/
theorem MS.put {w : World} {b : Nat} {L : List Smp} (h : MS w b L) (s : Smp) (hs : s.ok) (hn : L.length < 9223372036854775807) : ∃ w', (Instr.mapUpdate 96 (.map (some b)) (.int .i64 s.t) (.agg #[.int .u8 (s.k : Int), .int .i64 s.x])).run Tryz.prog w = .ok () w' ∧ MS w' b (L ++ [s]) ∧ w.grownBy w' (some b) := by
  obtain ⟨nn, D, hown, hnn, hD⟩ := h
  have hml : maxLen = 9223372036854775807 := by decide
  have hwf : (Lit.int .i64 s.t).wf = true := by
    have := hs.1
    simp [Lit.wf, IntKind.min, IntKind.max, IntKind.bits, IntKind.signed]; omega
  obtain ⟨w', hr, ho, hg⟩ := hown.update i64_keyed Tryz.underlying96 (by omega) (keyOf_int_mk Tryz.underlying2 hwf) (valE_mk (s.k, s.x))
  refine ⟨w', hr, ⟨nn + 1, D.put (.int .i64 s.t) (vD (s.k, s.x)), ho, by simp; omega, fun t => ?_⟩, hg⟩
  rw [valOf_snoc]
  have hi : IsMap D := hown.isMap
  by_cases e : s.t = t
  · subst e
    rw [if_pos rfl]
    exact ⟨has_put_same hi (isKey _) _, fun z => atKey_put_same hi (isKey _) _ z⟩
  · rw [if_neg e]
    have hne : (Lit.int .i64 t) ≠ .int .i64 s.t := by intro h; injection h with _ h; exact e h.symm
    exact ⟨by rw [has_put_other hne]; exact (hD t).1, fun z => by rw [atKey_put_other hne]; exact (hD t).2 z⟩
theorem val_info : (Tryz.prog.info? 61).map (fun i => (i.zero, i.bytes, i.size)) = some (some (.agg #[.int .u8 0, .int .i64 0]), 16, 2) := by kernel_rfl
theorem val_zero (w : World) : (zeroValue 61).run Tryz.prog w = .ok (vV (0, 0)) w := by
  obtain ⟨i, i1, i0⟩ := Option.map_eq_some_iff.1 val_info
  have i2 : i.zero = some (.agg #[.int .u8 0, .int .i64 0]) := congrArg (·.1) i0
  simp [zeroValue, typeInfo, i1, i2, vV]
/-- a value looked up. -/
theorem MS.look {w : World} {b : Nat} {L : List Smp} (h : MS w b L) (t : Int) (ht : -9223372036854775808 ≤ t ∧ t ≤ 9223372036854775807) (p : Nat × Int) (hp : valOf L t = some p) : (Instr.lookup 96 (.map (some b)) (.int .i64 t) false).run Tryz.prog w = .ok (.agg #[.int .u8 (p.1 : Int), .int .i64 p.2]) w := by
  obtain ⟨nn, D, hown, hnn, hD⟩ := h
  have hwf : (Lit.int .i64 t).wf = true := by
    simp [Lit.wf, IntKind.min, IntKind.max, IntKind.bits, IntKind.signed]; omega
  obtain ⟨v, ps, hr, hv⟩ := hown.lookup i64_keyed Tryz.underlying96 (z := vV (0, 0)) (val_zero w) (valE_mk (0, 0)) (keyOf_int_mk Tryz.underlying2 hwf)
  rw [(hD t).2 _, hp] at hv
  rw [hr, valE_inv hv]; rfl
/-- the keys in order. -/
theorem MS.keys {w : World} {b nn : Nat} {D : DataW Unit} {L : List Smp} (hown : w.ownsMap Tryz.prog 2 valE b nn D) (hD : ∀ t, has D (.int .i64 t) = (valOf L t).isSome) (hnn : nn ≤ L.length) {ss : List Int} (hp : ss.Perm (intKeys D)) :
    (ss.mergeSort (fun x y => decide (x ≤ y))).Pairwise (· < ·) ∧ (∀ t, t ∈ ss.mergeSort (fun x y => decide (x ≤ y)) ↔ (valOf L t).isSome = true) ∧ (ss.mergeSort (fun x y => decide (x ≤ y))).length = ss.length ∧ ss.length ≤ L.length := by
  obtain ⟨es, hE, hpw, _⟩ := hown.entries i64_keyed
  obtain ⟨es', hE', hko⟩ := hown.keysOf
  obtain rfl : es = es' := by rw [hE] at hE'; simpa using hE'
  have hsz : Maps.size D ≤ nn := hown.size_le
  subst hE
  have hki : ∀ p ∈ es, ∃ x, p.1 = .int .i64 x := fun p hp => by obtain ⟨v, hv⟩ := hko p hp; obtain ⟨x, _, hx, _⟩ := Maps.keyOf_i64 Tryz.underlying2 hv; exact ⟨x, hx⟩
  have hnd : (intKeys (.map es)).Nodup := by
    show (es.map fun p => _root_.Go.intOf p.1).Nodup
    refine List.pairwise_map.2 (hpw.imp_of_mem fun {p q} hp' hq' hne e => hne ?_)
    obtain ⟨a, ha⟩ := hki p hp'
    obtain ⟨b, hb⟩ := hki q hq'
    rw [ha, hb] at e ⊢
    exact congrArg _ e
  have hmem : ∀ t, t ∈ intKeys (.map es) ↔ (valOf L t).isSome = true := fun t => by
    rw [← hD t, has_eq, List.any_eq_true]
    show t ∈ es.map (fun p => _root_.Go.intOf p.1) ↔ _
    rw [List.mem_map]
    constructor
    · rintro ⟨p, hp', rfl⟩
      obtain ⟨a, ha⟩ := hki p hp'
      exact ⟨p, hp', by rw [ha]; simp [Lit.sameKey, _root_.Go.intOf]⟩
    · rintro ⟨p, hp', h⟩
      obtain ⟨a, ha⟩ := hki p hp'
      refine ⟨p, hp', ?_⟩
      rw [ha] at h ⊢
      simp [Lit.sameKey] at h
      simpa [_root_.Go.intOf] using h
  have hms := List.mergeSort_perm ss (fun x y => decide (x ≤ y))
  have hall := hms.trans hp
  refine ⟨?_, fun t => by rw [hall.mem_iff]; exact hmem t, List.length_mergeSort .., ?_⟩
  · have hs : (ss.mergeSort (fun x y => decide (x ≤ y))).Pairwise (fun x y => decide (x ≤ y) = true) := List.pairwise_mergeSort (fun a b c h1 h2 => by simp at *; omega) (fun a b => by simp; omega) ss
    have hn : (ss.mergeSort (fun x y => decide (x ≤ y))).Nodup := hall.nodup_iff.2 hnd
    refine (hs.and hn).imp fun {a b} h => ?_
    have h1 := h.1
    have h2 := h.2
    simp at h1
    omega
  · have : ss.length = es.length := by rw [hp.length_eq]; simp [intKeys]
    rw [size_eq] at hsz
    omega
end Go.Proofs.YticgapplpfaigaaGreat
