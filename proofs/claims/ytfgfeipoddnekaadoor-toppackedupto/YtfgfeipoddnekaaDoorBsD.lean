
import Derived.Test.YtfgfeipoddnekaaDoorBsC
import Derived.Test.YtfgfeipoddnekaaDoorKeys
import Derived.Shelf.AbstractIn
import Derived.Maps.OwnSet
import Derived.Maps.OwnOps
namespace Go.Proofs.YtfgfeipoddnekaaDoor.Ser
open Go.RowKit Go.Maps Go.Sort Go.Shelf
set_option linter.unusedVariables false
set_option linter.unusedSimpArgs false
theorem sortsA (m : Nat) : AnyZI.SortsIn Tryd.prog Tryd.sortedA_ren Fence.wide m :=
  ⟨fun blk off cap ss W hH hblk hsz => callsIn_wide.2 (AnyM.slices_Sort_int Tryd.sortA blk off cap ss W hH hblk hsz),
   fun p cap W => callsIn_wide.2 (AnyM.slices_Sort_int_none Tryd.sortA p cap W)⟩
theorem keys_call (mb : Option Nat) (W : World) : Calls Tryd.prog 11 #[.map mb] W fun e w' => e = .returned (.func (.func 31) #[] #[.pointer (some ⟨W.heap.size, 0, none⟩)]) ∧ w' = W.alloc (.cells #[.map mb] 47) :=
  (callsIn_wide (n := 5)).1 (AnyZI.keys_in Tryd.keysA Fence.wide 5 trivial rfl mb W)
set_option maxHeartbeats 1000000 in
theorem sorted_call {H : Type} (b nn : Nat) (D0 : DataW H) (R : Value → Option (DataW H × List MemPlace)) (w : World) (hown : w.ownsMap Tryd.prog 2 R b nn D0) (hmax : Maps.size D0 ≤ maxLen) (hbytes : Maps.size D0 * 8 ≤ 140737488355328) :
    Calls Tryd.prog 10 #[.func (.func 31) #[] #[.pointer (some ⟨w.heap.size, 0, none⟩)]] (w.alloc (.cells #[.map (some b)] 47)) fun e w' => ∃ (v : Value) (ss : List Int), e = .returned v ∧ ss.Perm (intKeys D0) ∧
      w'.ownsRow w.heap.size 2 1 v ss.length ((ss.mergeSort (fun x y => decide (x ≤ y))).map encZ) ∧ Below w.heap.size w w' := by
  refine (callsIn_wide (n := 5)).1 ?_
  have hbl := hown.lt
  have hseq : SeqGives Fence.wide 2 Tryd.prog 31 #[.pointer (some ⟨w.heap.size, 0, none⟩)] encZ (fun ss => ss.Perm (intKeys D0)) (Maps.size D0) (w.alloc (.cells #[.map (some b)] 47)) :=
    AnyZI.keys_gives (ρ := Tryd.keysA_ren) { Tryd.keysA with } Fence.wide _ trivial rfl (by omega) w.heap.size b nn D0 _ (by simp) (by simp) (by
      obtain ⟨es, clock, hb, Ft, hs, hD⟩ := hown
      exact ⟨es, clock, (Below.heap_alloc _ _ b hbl).trans hb, Ft, hs, hD⟩)
  have cS := AnyZI.sorted_in Tryd.sortedA Fence.wide 5 trivial trivial trivial trivial rfl (by omega) (sortsA _) (enters_of Tryd.func30 (by kernel_rfl) rfl) 31 #[.pointer (some ⟨w.heap.size, 0, none⟩)] trivial (enters_of Tryd.func31 (by kernel_rfl) rfl) _ _ hmax hbytes _ hseq
  change CallsIn _ _ Tryd.prog 10 _ _ _ at cS
  refine cS.mono ?_
  rintro e w' ⟨v, ss, rfl, hS, hrow, hnil, hb⟩
  exact ⟨v, ss, rfl, hS, ownsRow_base_a hrow (by simp), ((Below.refl _ w).alloc (Nat.le_refl _) _).trans (hb.mono (by simp))⟩
end Go.Proofs.YtfgfeipoddnekaaDoor.Ser

namespace Go.Proofs.YtfgfeipoddnekaaDoor.Ser
open Go.RowKit Go.Maps Go.Sort Go.Shelf
set_option linter.unusedVariables false
set_option linter.unusedSimpArgs false
/-- a value of a map, as it is read. -/
def valE : Value → Option (DataW Unit × List MemPlace)
  | .agg a => match a.toList with
    | [.int .u8 k, .int .i64 x] => some (.agg [.lit (.int .u8 k), .lit (.int .i64 x)], [])
    | _ => none
  | _ => none
def vD (p : Nat × Int) : DataW Unit := .agg [.lit (.int .u8 (p.1 : Int)), .lit (.int .i64 p.2)]
def vV (p : Nat × Int) : Value := .agg #[.int .u8 (p.1 : Int), .int .i64 p.2]
theorem valE_mk (p : Nat × Int) : valE (vV p) = some (vD p, []) := rfl
theorem valE_inv {v : Value} {p : Nat × Int} {ps : List MemPlace} (h : valE v = some (vD p, ps)) : v = vV p := by
  unfold valE at h
  split at h
  · rename_i a
    split at h
    · rename_i k x e
      simp [vD] at h
      obtain ⟨⟨rfl, rfl⟩, _⟩ := h
      unfold vV
      congr 1
      exact Array.toList_inj.1 e
    · cases h
  · cases h
theorem i64_keyed : Keyed Tryd.prog 2 := int_keyed Tryd.underlying2
/-- a map of the last values of samples. -/
def MS (w : World) (b : Nat) (L : List Smp) : Prop := ∃ nn D, w.ownsMap Tryd.prog 2 valE b nn D ∧ nn ≤ L.length ∧ ∀ t, has D (.int .i64 t) = (valOf L t).isSome ∧ ∀ z, D.atKey (.int .i64 t) z = (match valOf L t with | some p => vD p | none => z)
theorem MS.start (w : World) : MS (w.alloc (.map #[] 0)) w.heap.size [] :=
  ⟨0, .map [], World.ownsMap_made w Tryd.prog 2 valE, by simp, fun t => ⟨rfl, fun z => rfl⟩⟩
theorem MS.lt {w : World} {b : Nat} {L : List Smp} (h : MS w b L) : b < w.heap.size := by obtain ⟨nn, D, h1, _⟩ := h; exact h1.lt
theorem MS.below {w w' : World} {b B : Nat} {L : List Smp} (h : MS w b L) (hb : Below B w w') (hB : b < B) : MS w' b L := by
  obtain ⟨nn, D, ⟨es, clock, h1, h2⟩, h3⟩ := h
  exact ⟨nn, D, ⟨es, clock, (hb.block b hB).trans h1, h2⟩, h3⟩
theorem MS.keep {w w' : World} {b : Nat} {L : List Smp} (h : MS w b L) (hb : w'.heap[b]? = w.heap[b]?) : MS w' b L := by
  obtain ⟨nn, D, ⟨es, clock, h1, h2⟩, h3⟩ := h
  exact ⟨nn, D, ⟨es, clock, hb.trans h1, h2⟩, h3⟩
theorem isKey (t : Int) : WideAt.IsKeyLit (.int .i64 t) := by first | exact trivial | simp [WideAt.IsKeyLit]
/-- a value laid into the map. -/
theorem MS.put {w : World} {b : Nat} {L : List Smp} (h : MS w b L) (s : Smp) (hs : s.ok) (hn : L.length < 9223372036854775807) : ∃ w', (Instr.mapUpdate 47 (.map (some b)) (.int .i64 s.t) (.agg #[.int .u8 (s.k : Int), .int .i64 s.x])).run Tryd.prog w = .ok () w' ∧ MS w' b (L ++ [s]) ∧ w.grownBy w' (some b) := by
  obtain ⟨nn, D, hown, hnn, hD⟩ := h
  have hml : maxLen = 9223372036854775807 := by decide
  have hwf : (Lit.int .i64 s.t).wf = true := by
    have := hs.1
    simp [Lit.wf, IntKind.min, IntKind.max, IntKind.bits, IntKind.signed]; omega
  obtain ⟨w', hr, ho, hg⟩ := hown.update i64_keyed Tryd.underlying47 (by omega) (keyOf_int_mk Tryd.underlying2 hwf) (valE_mk (s.k, s.x))
  refine ⟨w', hr, ⟨nn + 1, D.put (.int .i64 s.t) (vD (s.k, s.x)), ho, by simp; omega, fun t => ?_⟩, hg⟩
  rw [valOf_snoc]
  have hi : IsMap D := hown.isMap
  by_cases e : s.t = t
  · subst e
    rw [if_pos rfl]
    exact ⟨has_put_same hi (isKey _) _, fun z => atKey_put_same hi (isKey _) _ z⟩
  · rw [if_neg e]
    have hne : (Lit.int .i64 t) ≠ .int .i64 s.t := by intro h; injection h with _ h; exact e h.symm
    exact ⟨by rw [has_put_other hne]; exact (hD t).1, fun z => by rw [atKey_put_other hne]; exact (hD t).2 z⟩
theorem val_info : (Tryd.prog.info? 35).map (fun i => (i.zero, i.bytes, i.size)) = some (some (.agg #[.int .u8 0, .int .i64 0]), 16, 2) := by kernel_rfl
theorem val_zero (w : World) : (zeroValue 35).run Tryd.prog w = .ok (vV (0, 0)) w := by
  obtain ⟨i, i1, i0⟩ := Option.map_eq_some_iff.1 val_info
  have i2 : i.zero = some (.agg #[.int .u8 0, .int .i64 0]) := congrArg (·.1) i0
  simp [zeroValue, typeInfo, i1, i2, vV]
/-- a value looked up. -/
theorem MS.look {w : World} {b : Nat} {L : List Smp} (h : MS w b L) (t : Int) (ht : -9223372036854775808 ≤ t ∧ t ≤ 9223372036854775807) (p : Nat × Int) (hp : valOf L t = some p) : (Instr.lookup 47 (.map (some b)) (.int .i64 t) false).run Tryd.prog w = .ok (.agg #[.int .u8 (p.1 : Int), .int .i64 p.2]) w := by
  obtain ⟨nn, D, hown, hnn, hD⟩ := h
  have hwf : (Lit.int .i64 t).wf = true := by
    simp [Lit.wf, IntKind.min, IntKind.max, IntKind.bits, IntKind.signed]; omega
  obtain ⟨v, ps, hr, hv⟩ := hown.lookup i64_keyed Tryd.underlying47 (z := vV (0, 0)) (val_zero w) (valE_mk (0, 0)) (keyOf_int_mk Tryd.underlying2 hwf)
  rw [(hD t).2 _, hp] at hv
  rw [hr, valE_inv hv]; rfl
/-- the keys in order. -/
theorem MS.keys {w : World} {b nn : Nat} {D : DataW Unit} {L : List Smp} (hown : w.ownsMap Tryd.prog 2 valE b nn D) (hD : ∀ t, has D (.int .i64 t) = (valOf L t).isSome) (hnn : nn ≤ L.length) {ss : List Int} (hp : ss.Perm (intKeys D)) :
    (ss.mergeSort (fun x y => decide (x ≤ y))).Pairwise (· < ·) ∧ (∀ t, t ∈ ss.mergeSort (fun x y => decide (x ≤ y)) ↔ (valOf L t).isSome = true) ∧ (ss.mergeSort (fun x y => decide (x ≤ y))).length = ss.length ∧ ss.length ≤ L.length := by
  obtain ⟨es, hE, hpw, _⟩ := hown.entries i64_keyed
  obtain ⟨es', hE', hko⟩ := hown.keysOf
  obtain rfl : es = es' := by rw [hE] at hE'; simpa using hE'
  have hsz : Maps.size D ≤ nn := hown.size_le
  subst hE
  have hki : ∀ p ∈ es, ∃ x, p.1 = .int .i64 x := fun p hp => by obtain ⟨v, hv⟩ := hko p hp; obtain ⟨x, _, hx, _⟩ := Maps.keyOf_i64 Tryd.underlying2 hv; exact ⟨x, hx⟩
  have hnd : (intKeys (.map es)).Nodup := by
    show (es.map fun p => _root_.Go.intOf p.1).Nodup
    refine List.pairwise_map.2 (hpw.imp_of_mem fun {p q} hp' hq' hne e => hne ?_)
    obtain ⟨a, ha⟩ := hki p hp'
    obtain ⟨b, hb⟩ := hki q hq'
    rw [ha, hb] at e ⊢
    exact congrArg _ e
  have hmem : ∀ t, t ∈ intKeys (.map es) ↔ (valOf L t).isSome = true := fun t => by
    rw [← hD t, has_eq, List.any_eq_true]
    show t ∈ es.map (fun p => _root_.Go.intOf p.1) ↔ _
    rw [List.mem_map]
    constructor
    · rintro ⟨p, hp', rfl⟩
      obtain ⟨a, ha⟩ := hki p hp'
      exact ⟨p, hp', by rw [ha]; simp [Lit.sameKey, _root_.Go.intOf]⟩
    · rintro ⟨p, hp', h⟩
      obtain ⟨a, ha⟩ := hki p hp'
      refine ⟨p, hp', ?_⟩
      rw [ha] at h ⊢
      simp [Lit.sameKey] at h
      simpa [_root_.Go.intOf] using h
  have hms := List.mergeSort_perm ss (fun x y => decide (x ≤ y))
  have hall := hms.trans hp
  refine ⟨?_, fun t => by rw [hall.mem_iff]; exact hmem t, List.length_mergeSort .., ?_⟩
  · have hs : (ss.mergeSort (fun x y => decide (x ≤ y))).Pairwise (fun x y => decide (x ≤ y) = true) := List.pairwise_mergeSort (fun a b c h1 h2 => by simp at *; omega) (fun a b => by simp; omega) ss
    have hn : (ss.mergeSort (fun x y => decide (x ≤ y))).Nodup := hall.nodup_iff.2 hnd
    refine (hs.and hn).imp fun {a b} h => ?_
    have h1 := h.1
    have h2 := h.2
    simp at h1
    omega
  · have : ss.length = es.length := by rw [hp.length_eq]; simp [intKeys]
    rw [size_eq] at hsz
    omega
end Go.Proofs.YtfgfeipoddnekaaDoor.Ser

namespace Go.Proofs.YtfgfeipoddnekaaDoor.Ser
open Go.RowKit Go.Maps Go.Sort Go.Shelf
set_option linter.unusedVariables false
set_option linter.unusedSimpArgs false
theorem wpList_mapUpdate_run {P : Program} {ops : Array Oper} {rest : List Oper} {o : Oper} {a : Act} {Q : Exit → Act → World → Prop} {w : World} (hg : o.guard = none) (m x v : Operand) (t : TypeId) (hop : o.op = Op.mapUpdate t m x v)
    (mv key val : Value) (w' : World) (hm : a.eval m = mv) (hx : a.eval x = key) (hv : a.eval v = val) (hr : (Instr.mapUpdate t mv key val).run P w = .ok () w') (h : wpList P ops Q rest (a.put o.dst undef) w') : wpList P ops Q (o :: rest) a w := by
  refine wpList_plain hg fun K' hK' => ?_
  unfold Oper.wp
  simp [execOp, hop, hm, hx, hv, hr, Result.andThen]
  exact hK' _ _ h
/-- a delta's cells. -/
def Dlt.enc (d : Dlt) : List Value := [.string ⟨#[]⟩, .slice none 0 0, .string ⟨#[]⟩, .int .i64 d.t, .bool d.had, .bool true, .int .u8 (d.ok : Int), .int .i64 d.ox, .int .u8 (d.nk : Int), .int .i64 d.nx]
def encD : List Dlt → List Value
  | [] => []
  | d :: r => d.enc ++ encD r
theorem encD_append (a b : List Dlt) : encD (a ++ b) = encD a ++ encD b := by
  induction a with
  | nil => rfl
  | cons s r ih => simp [encD, ih]
theorem encD_len (l : List Dlt) : (encD l).length = l.length * 10 := by
  induction l with
  | nil => rfl
  | cons s r ih => simp only [encD, List.length_append, ih, Dlt.enc, List.length_cons, List.length_nil]; omega
/-- while keys are gone through. -/
structure LdS (N B : Nat) (v : Value) (l : List Smp) (nv : Int → Nat × Int) (K : List Int) (w2 wr : World) (dv fv : Value) (i : Nat) : Prop where
  ss : SS N B v (chgL nv l (K.take i)) wr
  fr : SFr N v v w2 wr
  fo : wr.ownsRow w2.heap.size 37 3 fv (frL nv l (K.take i)).length (encL (frL nv l (K.take i)))
  dO : wr.ownsRow w2.heap.size 59 10 dv (dlL nv l (K.take i)).length (encD (dlL nv l (K.take i)))
  ne : ∀ k, fv.ownBlock = some k → dv.ownBlock ≠ some k
theorem dlt_info : (Tryd.prog.info? 59).map (fun i => (i.zero, i.bytes, i.size)) = some (some (.agg #[.string ⟨#[]⟩, .slice none 0 0, .string ⟨#[]⟩, .int .i64 0, .bool false, .bool false, .int .u8 0, .int .i64 0, .int .u8 0, .int .i64 0]), 104, 10) := by kernel_rfl
theorem app1D (W : World) (B : Nat) (v : Value) (l : List Dlt) (own : W.ownsRow B 59 10 v l.length (encD l)) (hB : B ≤ W.heap.size) (d : Dlt) (hbig : l.length + 1 ≤ 1099511627776) :
    ∃ v' w', (Builtin.append_ #[25, 25] 25 #[v, .slice (some ⟨W.heap.size, 0, none⟩) 1 1]).run Tryd.prog (W.alloc (.cells #[.string ⟨#[]⟩, .slice none 0 0, .string ⟨#[]⟩, .int .i64 d.t, .bool d.had, .bool true, .int .u8 (d.ok : Int), .int .i64 d.ox, .int .u8 (d.nk : Int), .int .i64 d.nx] 59)) = .ok v' w' ∧ w'.ownsRow B 59 10 v' (l ++ [d]).length (encD (l ++ [d])) ∧ (W.alloc (.cells #[.string ⟨#[]⟩, .slice none 0 0, .string ⟨#[]⟩, .int .i64 d.t, .bool d.had, .bool true, .int .u8 (d.ok : Int), .int .i64 d.ox, .int .u8 (d.nk : Int), .int .i64 d.nx] 59)).grownBy w' v.ownBlock ∧ (v'.ownBlock = v.ownBlock ∨ ∃ k, v'.ownBlock = some k ∧ W.heap.size < k) := by
  obtain ⟨i, i1, i0⟩ := Option.map_eq_some_iff.1 dlt_info
  have i2 : i.zero = some (.agg #[.string ⟨#[]⟩, .slice none 0 0, .string ⟨#[]⟩, .int .i64 0, .bool false, .bool false, .int .u8 0, .int .i64 0, .int .u8 0, .int .i64 0]) := congrArg (·.1) i0
  have i3 : i.bytes = 104 := congrArg (·.2.1) i0
  have i4 : i.size = 10 := congrArg (·.2.2) i0
  have hml : maxLen = 9223372036854775807 := by decide
  have own' := World.ownsRow.alloc own (.cells #[.string ⟨#[]⟩, .slice none 0 0, .string ⟨#[]⟩, .int .i64 d.t, .bool d.had, .bool true, .int .u8 (d.ok : Int), .int .i64 d.ox, .int .u8 (d.nk : Int), .int .i64 d.nx] 59)
  obtain ⟨v', w', hr, ho', hg, hnil, hwh⟩ := run_append_own_at (P := Tryd.prog) (W.alloc (.cells #[.string ⟨#[]⟩, .slice none 0 0, .string ⟨#[]⟩, .int .i64 d.t, .bool d.had, .bool true, .int .u8 (d.ok : Int), .int .i64 d.ox, .int .u8 (d.nk : Int), .int .i64 d.nx] 59)) B 25 25 59 i _ 10 104 Tryd.underlying25 i1 i2 i4 i3 rfl (by omega) _ l.length (encD l) own' ⟨W.heap.size, 0, none⟩ 1 1 d.enc rfl (fun j u hu => by
    rw [smp_add, Nat.zero_add]
    have hj : j < 10 := (List.getElem?_eq_some_iff.1 hu).1
    rw [cell_of_row _ W.heap.size j _ 59 (0, 0) (heap_alloc_new W _)]
    rw [← hu, ← Array.getElem?_toList]; rfl) (by intro u hu; simp [Dlt.enc] at hu; rcases hu with rfl | rfl | rfl | rfl | rfl | rfl | rfl | rfl | rfl | rfl <;> rfl) (by omega) (by omega) (by simp; omega)
  refine ⟨v', w', hr, ?_, hg, ?_⟩
  · rw [List.length_append, List.length_singleton, encD_append]
    have : encD [d] = d.enc := by simp [encD]
    rw [this]; exact ho'
  · rcases hwh with e | e
    · exact Or.inl e
    · exact Or.inr ⟨_, e, by simp⟩
end Go.Proofs.YtfgfeipoddnekaaDoor.Ser

namespace Go.Proofs.YtfgfeipoddnekaaDoor.Ser
open Go.RowKit
set_option linter.unusedVariables false
set_option linter.unusedSimpArgs false
theorem app_no (W : World) (a ad : Option Addr) (n cap c : Nat) (h : n ≤ cap) : (Builtin.append_ #[22, 22] 22 #[.slice a n cap, .slice ad 0 c]).run Tryd.prog W = .ok (.slice a n cap) W := by
  obtain ⟨i, i1, i0⟩ := Option.map_eq_some_iff.1 smp_info
  cases a <;> cases ad <;> simp [Builtin.append_, run_underlying Tryd.underlying22, sizeOf, typeInfo, i1, Builtin.lenOf, Builtin.firstCells, storeCells, loadCells, loadCellsFrom, h]
set_option maxRecDepth 100000 in
set_option maxHeartbeats 4000000 in
theorem lay_none (N B : Nat) (v : Value) (l : List Smp) (w : World) (h : SS N B v l w) (ad : Option Addr) (c : Nat) :
    Calls Tryd.prog 14 #[.pointer (some ⟨N, 0, none⟩), .slice ad 0 c] w fun e w' => e = .returned undef ∧ SS N B v l w' ∧ SFr N v v w w' := by
  obtain ⟨a, cap, rfl, hcap, hL⟩ := h.row.lin h.hk
  have c0 := h.c0
  have f0 := h.f0
  have hNs := h.hN
  have hr1 := app_no w a ad l.length cap c (by omega)
  have hH : Hid (SS N B (.slice a l.length cap) l w) := h
  have hR1 : Hid _ := hr1
  clear hL hcap h hr1
  have hdone : Hid (SS N B (.slice a l.length cap) l (w.setCell ⟨N, 0, none⟩ (.slice a l.length cap)) ∧ SFr N (.slice a l.length cap) (.slice a l.length cap) w (w.setCell ⟨N, 0, none⟩ (.slice a l.length cap))) := by
    have hs := hH.out
    refine ⟨⟨World.cell?_setCell_same _ _ _ c0, by simpa using f0, hs.row.keep (by simp) (fun g e => ?_), hs.ne, by simpa using hNs, hs.hB, hs.hk, hs.hr, hs.hn⟩, ⟨(Below.refl 0 w).setCell (p := ⟨N, 0, none⟩) (Nat.zero_le _) _, fun j hj hn ho => Below.heap_setCell _ _ _ _ hn, Or.inl rfl⟩⟩
    exact Below.heap_setCell _ _ _ _ (fun e' => hs.ne (by have e'' : g = N := e'; rw [← e'', e]))
  go_enter Tryd.func14, Tryd.ntmps14
  go_wp2_with (at_builtin; refine wpList_append_run (by rfl) _ _ _ (by rfl) _ _ _ _ (by rfl) (by rfl) hR1.out ?_)
  go_loopw [4, 5] (fun e i wr => e = .int .i64 (l.length : Int) ∧ i = .int .i64 (-1) ∧ Hid (SS N B (.slice a l.length cap) l wr ∧ SFr N (.slice a l.length cap) (.slice a l.length cap) w wr)) (fun _ i _ => 0)
  case atStart => exact ⟨rfl, by first | rfl | go_num, hdone.out⟩
  case round =>
    obtain ⟨rfl, rfl, hrr⟩ := hrel
    go_wp2_with fail
    first | go_end0 | (simp only [Exit.inBlock, Exit.then]; refine bodyPost_ret (results_none rfl _ _ _) rfl ?_) | refine bodyPost_ret (results_none rfl _ _ _) rfl ?_
    exact ⟨rfl, hrr.out⟩
end Go.Proofs.YtfgfeipoddnekaaDoor.Ser
