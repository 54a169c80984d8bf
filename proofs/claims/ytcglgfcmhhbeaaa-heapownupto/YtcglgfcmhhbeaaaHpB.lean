
import Derived.Test.YtcglgfcmhhbeaaaHpA
import Derived.Test.YtcglgfcmhhbeaaaProg
import Derived.Deep.AppendLies
import Derived.Maps.OwnSet
import Derived.ProofKit
import Derived.OpenShut
import Derived.WalkSmall
import Derived.WalkKit
namespace Go.Proofs.Ytcglgfcmhhbeaaa.Hp
open Go.RowKit Go.Maps
set_option linter.unusedVariables false
set_option linter.unusedSimpArgs false
set_option maxRecDepth 100000
/-! ### a heap in memory -/
def encE : List Ent → List Value
  | [] => []
  | t :: r => [.int .i64 t.1, .string t.2] ++ encE r
theorem encE_append (a b : List Ent) : encE (a ++ b) = encE a ++ encE b := by
  induction a with
  | nil => rfl
  | cons s r ih => simp [encE, ih]
theorem encE_len (l : List Ent) : (encE l).length = l.length * 2 := by
  induction l with
  | nil => rfl
  | cons s r ih => simp only [encE, List.length_append, ih, List.length_cons, List.length_nil]; omega
theorem encE_one (l : List Ent) : ∀ u ∈ encE l, u.oneCell' = true := by
  induction l with
  | nil => intro u hu; cases hu
  | cons s r ih =>
    intro u hu
    simp only [encE, List.mem_append, List.mem_cons, List.not_mem_nil, or_false] at hu
    rcases hu with (rfl | rfl) | hu
    · rfl
    · rfl
    · exact ih u hu
theorem encE_get (l : List Ent) (i : Nat) (s : Ent) (h : l[i]? = some s) : (encE l)[i * 2]? = some (.int .i64 s.1) ∧ (encE l)[i * 2 + 1]? = some (.string s.2) := by
  induction l generalizing i with
  | nil => simp at h
  | cons a r ih =>
    cases i with
    | zero => simp at h; subst h; simp [encE]
    | succ i =>
      simp at h
      have := ih i h
      simp only [encE]
      rw [show (i + 1) * 2 = i * 2 + 2 by omega]
      simpa using this
theorem encE_put (l : List Ent) (i : Nat) (e : Ent) (hi : i < l.length) : ((encE l).set (i * 2) (.int .i64 e.1)).set (i * 2 + 1) (.string e.2) = encE (l.set i e) := by
  induction l generalizing i with
  | nil => simp at hi
  | cons a r ih =>
    cases i with
    | zero => simp [encE]
    | succ i =>
      have := ih i (by simpa using hi)
      simp only [encE, List.set_cons_succ]
      rw [show (i + 1) * 2 = i * 2 + 2 by omega, ← this]
      simp
theorem en_info : (Try.prog.info? 24).map (fun i => (i.zero, i.bytes, i.size)) = some (some (.agg #[.int .i64 0, .string ⟨#[]⟩]), 24, 2) := by kernel_rfl
/-- a map of names to places: what f says of each name, c entries. -/
def MP (w : World) (mb : Nat) (f : ByteArray → Option Nat) (c : Nat) : Prop := ∃ D : DataW Unit, w.ownsMap Try.prog 9 (plainElem Try.prog 3) mb c D ∧ Maps.size D = c ∧ ∀ s : ByteArray, s.size ≤ 9223372036854775807 → has D (.string s.data.toList) = (f s).isSome ∧ ∀ i z, f s = some i → D.atKey (.string s.data.toList) z = .lit (.int .i64 (i : Int))
theorem str_keyed : Keyed Try.prog 9 := string_keyed Try.underlying9
theorem key_str {s : ByteArray} (h : s.size ≤ 9223372036854775807) : keyOf Try.prog 9 (.string s) = some (.string s.data.toList) := by
  have hml : maxLen = 9223372036854775807 := by decide
  simp [keyOf, Try.underlying9, mapKey, hml, h]
theorem isKeyS (l : List UInt8) : WideAt.IsKeyLit (.string l) := by first | exact trivial | simp [WideAt.IsKeyLit]
theorem MP.lt {w : World} {mb c : Nat} {f : ByteArray → Option Nat} (h : MP w mb f c) : mb < w.heap.size := by obtain ⟨D, h1, _⟩ := h; exact h1.lt
theorem MP.keep {w w' : World} {mb c : Nat} {f : ByteArray → Option Nat} (h : MP w mb f c) (hb : w'.heap[mb]? = w.heap[mb]?) : MP w' mb f c := by
  obtain ⟨D, ⟨es, clock, h1, h2⟩, h3⟩ := h
  exact ⟨D, ⟨es, clock, hb.trans h1, h2⟩, h3⟩
theorem MP.start (w : World) : MP (w.alloc (.map #[] 0)) w.heap.size (fun _ => none) 0 := ⟨.map [], World.ownsMap_made w Try.prog 9 _, rfl, fun s _ => ⟨rfl, fun i z h => by cases h⟩⟩
theorem ownsMap_norm {P : Program} {k : TypeId} {R : Value → Option (DataW Unit × List MemPlace)} {w : World} {b n : Nat} {D : DataW Unit} (h : w.ownsMap P k R b n D) : w.ownsMap P k R b (Maps.size D) D := by
  obtain ⟨es, clock, hb, F, _, hD⟩ := h
  exact ⟨es, clock, hb, F, by rw [hD]; simp [Maps.size, length_sorted], hD⟩
theorem toList_ne {s t : ByteArray} (h : s ≠ t) : (Lit.string s.data.toList) ≠ .string t.data.toList := by
  intro e
  injection e with e
  exact h (ByteArray.ext (Array.toList_inj.1 e))
theorem int_zero (w : World) : (zeroValue 3).run Try.prog w = .ok (.int .i64 0) w := by
  have h : (Try.prog.info? 3).map (fun i => i.zero) = some (some (.int .i64 0)) := by kernel_rfl
  obtain ⟨i, i1, i0⟩ := Option.map_eq_some_iff.1 h
  simp [zeroValue, typeInfo, i1, i0]
theorem nat_wf {i : Nat} (h : i ≤ 9223372036854775807) : (Lit.int .i64 (i : Int)).wf = true := by
  simp [Lit.wf, IntKind.min, IntKind.max, IntKind.bits, IntKind.signed]; omega
/-- a place laid under a name. -/
theorem MP.put {w : World} {mb c : Nat} {f : ByteArray → Option Nat} (h : MP w mb f c) (s : ByteArray) (hs : s.size ≤ 9223372036854775807) (i : Nat) (hi : i ≤ 4611686018427387904) (hc : c < 4611686018427387904) :
    ∃ w', (Instr.mapUpdate 77 (.map (some mb)) (.string s) (.int .i64 (i : Int))).run Try.prog w = .ok () w' ∧ MP w' mb (upd f s (some i)) (if (f s).isSome then c else c + 1) ∧ w.grownBy w' (some mb) ∧ ∀ a, w'.frozen? a = w.frozen? a := by
  obtain ⟨D, hown, hsz, hD⟩ := h
  have hml : maxLen = 9223372036854775807 := by decide
  obtain ⟨w', hr, ho, hg⟩ := hown.store str_keyed Try.underlying77 (by omega) (key_str hs) (plainElem_int Try.underlying3 (nat_wf (i := i) (by omega)))
  have ht := hown.tidy str_keyed
  have hsz2 := size_put ht (k := .string s.data.toList) (.lit (.int .i64 (i : Int)))
  rw [(hD s hs).1, hsz] at hsz2
  refine ⟨w', hr, ⟨_, ?_, hsz2, fun t htl => ?_⟩, hg.grown, fun a => hg.frozen a⟩
  · have := ownsMap_norm ho
    rw [hsz2] at this
    exact this
  · have hi' : IsMap D := hown.isMap
    unfold upd
    by_cases e : t = s
    · subst e
      rw [if_pos rfl]
      exact ⟨has_put_same hi' (isKeyS _) _, fun j z hj => by injection hj with hj; subst hj; exact atKey_put_same hi' (isKeyS _) _ z⟩
    · rw [if_neg e]
      have hne := toList_ne e
      exact ⟨by rw [has_put_other hne]; exact (hD t htl).1, fun j z hj => by rw [atKey_put_other hne]; exact (hD t htl).2 j z hj⟩
/-- a name taken out. -/
theorem MP.del {w : World} {mb c : Nat} {f : ByteArray → Option Nat} (h : MP w mb f c) (s : ByteArray) (hs : s.size ≤ 9223372036854775807) (ty : TypeId) :
    ∃ w', (Builtin.delete_ #[77, 9] ty #[.map (some mb), .string s]).run Try.prog w = .ok (.tuple #[]) w' ∧ MP w' mb (upd f s none) (if (f s).isSome then c - 1 else c) ∧ w.grownBy w' (some mb) ∧ ∀ a, w'.frozen? a = w.frozen? a := by
  obtain ⟨D, hown, hsz, hD⟩ := h
  obtain ⟨w', hr, ho, hg⟩ := hown.drop str_keyed Try.underlying77 (key_str hs) ty
  have ht := hown.tidy str_keyed
  have hsz2 := size_del ht (k := .string s.data.toList)
  rw [(hD s hs).1, hsz] at hsz2
  have hsz3 : Maps.size (D.del (.string s.data.toList)) = if (f s).isSome then c - 1 else c := by
    split at hsz2
    · rename_i q; rw [if_pos q]; omega
    · rename_i q; rw [if_neg q]; omega
  refine ⟨w', hr, ⟨_, ?_, hsz3, fun t htl => ?_⟩, hg.grown, fun a => hg.frozen a⟩
  · have := ownsMap_norm ho
    rw [hsz3] at this
    exact this
  · unfold upd
    by_cases e : t = s
    · subst e
      rw [if_pos rfl]
      exact ⟨has_del_same, fun j z hj => by cases hj⟩
    · rw [if_neg e]
      have hne := toList_ne e
      exact ⟨by rw [has_del_other hne]; exact (hD t htl).1, fun j z hj => by rw [atKey_del_other hne]; exact (hD t htl).2 j z hj⟩
/-- a name looked up. -/
theorem MP.look {w : World} {mb c : Nat} {f : ByteArray → Option Nat} (h : MP w mb f c) (s : ByteArray) (hs : s.size ≤ 9223372036854775807) :
    ∃ x : Int, (Instr.lookup 77 (.map (some mb)) (.string s) true).run Try.prog w = .ok (.tuple #[.int .i64 x, .bool (f s).isSome]) w ∧ ∀ i, f s = some i → x = (i : Int) := by
  obtain ⟨D, hown, hsz, hD⟩ := h
  obtain ⟨v, ps, hr, hv⟩ := hown.look_ok str_keyed Try.underlying77 (int_zero w) (plainElem_int Try.underlying3 (by decide)) (key_str hs)
  obtain ⟨x, rfl, hx, _⟩ := plainElem_int_inv Try.underlying3 hv
  rw [(hD s hs).1] at hr
  refine ⟨x, hr, fun i hi => ?_⟩
  have := (hD s hs).2 i (.lit (.int .i64 0)) hi
  have e := congrArg Prod.fst hx
  simp only at e
  rw [this] at e
  injection e with e
  injection e with _ e
  exact e.symm
/-- nothing but three blocks (of those that were there) is another one. -/
structure HF (hp mb : Nat) (rb : Option Nat) (w w' : World) : Prop where
  size : w.heap.size ≤ w'.heap.size
  keep : ∀ k, k < w.heap.size → k ≠ hp → k ≠ mb → some k ≠ rb → w'.heap[k]? = w.heap[k]?
  same : w'.os = w.os ∧ w'.tape = w.tape ∧ w'.output = w.output
theorem HF.refl (hp mb : Nat) (rb : Option Nat) (w : World) : HF hp mb rb w w := ⟨Nat.le_refl _, fun _ _ _ _ _ => rfl, rfl, rfl, rfl⟩
theorem HF.trans {hp mb : Nat} {rb : Option Nat} {w w1 w2 : World} (h : HF hp mb rb w w1) (k : HF hp mb rb w1 w2) : HF hp mb rb w w2 :=
  ⟨Nat.le_trans h.size k.size, fun j hj a b d => by rw [k.keep j (Nat.lt_of_lt_of_le hj h.size) a b d]; exact h.keep j hj a b d, k.same.1.trans h.same.1, k.same.2.1.trans h.same.2.1, k.same.2.2.trans h.same.2.2⟩
theorem HF.below {hp mb : Nat} {rb : Option Nat} {w w' : World} (h : Below w.heap.size w w') : HF hp mb rb w w' := ⟨h.size, fun k hk _ _ _ => h.block k hk, h.os, h.tape, h.output⟩
theorem HF.grown {hp mb : Nat} {rb : Option Nat} {w w' : World} {r : Option Nat} (h : w.grownBy w' r) (hr : r = some hp ∨ r = some mb ∨ r = rb) : HF hp mb rb w w' := ⟨h.size, fun k hk a b d => h.block k hk (fun e => by
  rcases hr with q | q | q
  · rw [q] at e; injection e with e; exact a e
  · rw [q] at e; injection e with e; exact b e
  · rw [q] at e; exact d e), h.os, h.tape, h.output⟩
theorem HF.into {hp mb N : Nat} {rb : Option Nat} {w w' : World} (h : HF hp mb rb w w') (h1 : N ≤ hp) (h2 : N ≤ mb) (h3 : ∀ k, rb = some k → N ≤ k) (h4 : N ≤ w.heap.size) : Below N w w' :=
  ⟨h.same.1, h.same.2.1, h.same.2.2, h.size, fun k hk => h.keep k (by omega) (by omega) (by omega) (fun e => by have := h3 k e.symm; omega)⟩
/-- where a heap's blocks lie. -/
structure HW (rb : Option Nat) (hp mb : Nat) : Prop where
  sp : ∀ g, rb = some g → hp ≠ g ∧ mb ≠ g
  ne : hp ≠ mb
theorem ownsRow_setCell_ne {w : World} {B size n : Nat} {e : TypeId} {v : Value} {xs : List Value} (h : w.ownsRow B e size v n xs) (a : Addr) (ha : ∀ g, v.ownBlock = some g → a.block ≠ g) (u : Value) : (w.setCell a u).ownsRow B e size v n xs :=
  World.ownsRow.kept h (show w.grownBy (w.setCell a u) (some a.block) from ⟨rfl, rfl, rfl, by simp, fun k hk q => Below.heap_setCell _ _ _ _ (fun e => q (by rw [e]))⟩) (Or.inr fun q => ha _ q rfl)
theorem ex_le (ex : Option ByteArray) : ex.toList.length ≤ 1 := by cases ex <;> simp
/-- its order's function. -/
def fnM (most : Bool) : Nat := if most then 59 else 58
/-- a heap: its entries, where each lies, its order, its moves. -/
structure HS (w : World) (B hp mb : Nat) (most : Bool) (v : Value) (ex : Option ByteArray) (f : ByteArray → Option Nat) (L : List Ent) (mv : Int) : Prop where
  c0 : w.cell? ⟨hp, 0, none⟩ = some v
  c1 : w.cell? ⟨hp, 1, none⟩ = some (.map (some mb))
  c2 : w.cell? ⟨hp, 2, none⟩ = some (.func (.func (fnM most)) #[] #[])
  c3 : w.cell? ⟨hp, 3, none⟩ = some (.int .i64 mv)
  z0 : w.frozen? ⟨hp, 0, none⟩ = false
  z3 : w.frozen? ⟨hp, 3, none⟩ = false
  row : w.ownsRow B 24 2 v L.length (encE L)
  mp : ∃ c, MP w mb f c ∧ c ≤ L.length + ex.toList.length
  pl : PL ex f L
  hw : HW v.ownBlock hp mb
  nm : ∀ e ∈ L, e.2.size ≤ 9223372036854775807
  hl : hp < w.heap.size
  exs : ∀ s, ex = some s → (f s).isSome = true
theorem HS.below {w w' : World} {B hp mb : Nat} {most : Bool} {v : Value} {ex : Option ByteArray} {f : ByteArray → Option Nat} {L : List Ent} {mv : Int} (h : HS w B hp mb most v ex f L mv) (hb : Below w.heap.size w w') : HS w' B hp mb most v ex f L mv := by
  obtain ⟨c, hm, hc⟩ := h.mp
  refine ⟨by rw [hb.cell (p := ⟨hp, 0, none⟩) h.hl]; exact h.c0, by rw [hb.cell (p := ⟨hp, 1, none⟩) h.hl]; exact h.c1, by rw [hb.cell (p := ⟨hp, 2, none⟩) h.hl]; exact h.c2, by rw [hb.cell (p := ⟨hp, 3, none⟩) h.hl]; exact h.c3, by rw [hb.frozen (p := ⟨hp, 0, none⟩) h.hl]; exact h.z0, by rw [hb.frozen (p := ⟨hp, 3, none⟩) h.hl]; exact h.z3, ⟨h.row.1, ?_⟩, ⟨c, hm.keep (hb.block mb hm.lt), hc⟩, h.pl, h.hw, h.nm, Nat.lt_of_lt_of_le h.hl hb.size, h.exs⟩
  rcases h.row.2 with h2 | ⟨g, cap, cur, e1, e2, e3, e4⟩
  · exact Or.inl h2
  · exact Or.inr ⟨g, cap, cur, e1, e2, by rw [hb.block g (Array.getElem?_eq_some_iff.1 e3).1]; exact e3, e4⟩
theorem add_lt0 (b o j : Nat) : (⟨b, o, none⟩ : Addr).add j = ⟨b, o + j, none⟩ := by
  cases j with
  | zero => rfl
  | succ j => rfl
theorem HS.at {w : World} {B hp mb g n cap : Nat} {most : Bool} {ex : Option ByteArray} {f : ByteArray → Option Nat} {L : List Ent} {mv : Int} (h : HS w B hp mb most (.slice (some ⟨g, 0, none⟩) n cap) ex f L mv) {i : Nat} (hi : i < L.length) : w.cell? ⟨g, i * 2, none⟩ = some (.int .i64 (atE L i).1) ∧ w.cell? ⟨g, i * 2 + 1, none⟩ = some (.string (atE L i).2) := by
  have hcs := World.ownsRow.cells h.row (g := g) rfl
  obtain ⟨e1, e2⟩ := encE_get L i _ (atE_some hi)
  have k1 := hcs _ _ e1
  have k2 := hcs _ _ e2
  rw [add_lt0, Nat.zero_add] at k1 k2
  exact ⟨k1, k2⟩
theorem HS.len {w : World} {B hp mb g n cap : Nat} {most : Bool} {ex : Option ByteArray} {f : ByteArray → Option Nat} {L : List Ent} {mv : Int} (h : HS w B hp mb most (.slice (some ⟨g, 0, none⟩) n cap) ex f L mv) : n = L.length ∧ L.length ≤ cap ∧ B ≤ g ∧ g < w.heap.size ∧ cap ≤ 9223372036854775807 := by
  have hml : maxLen = 9223372036854775807 := by decide
  rcases h.row.2 with ⟨e, _⟩ | ⟨g', cap', cur, e1, e2, e3, e4, e5, _⟩
  · cases e
  · injection e1 with q1 q2 q3
    injection q1 with q1
    injection q1 with q1
    subst q1 q2 q3
    exact ⟨rfl, e4, e2, (Array.getElem?_eq_some_iff.1 e3).1, by omega⟩
theorem HS.form {w : World} {B hp mb : Nat} {most : Bool} {v : Value} {ex : Option ByteArray} {f : ByteArray → Option Nat} {L : List Ent} {mv : Int} (h : HS w B hp mb most v ex f L mv) : ∃ a cap, v = .slice a L.length cap ∧ (0 < L.length → ∃ g, a = some ⟨g, 0, none⟩) := by
  rcases h.row.2 with ⟨e, e0⟩ | ⟨g, cap, cur, e1, _⟩
  · exact ⟨none, 0, by rw [e, e0], fun q => by omega⟩
  · exact ⟨_, cap, e1, fun _ => ⟨g, rfl⟩⟩
end Go.Proofs.Ytcglgfcmhhbeaaa.Hp
