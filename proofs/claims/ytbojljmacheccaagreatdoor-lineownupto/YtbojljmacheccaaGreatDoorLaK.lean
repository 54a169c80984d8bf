
import Derived.Test.YtbojljmacheccaaGreatDoorLaI
import Derived.Lib.AppendIntMem
import Derived.Test.YtbojljmacheccaaGreatDoorLaB
import Derived.OwnWalkIn
namespace Go.Proofs.YtbojljmacheccaaGreatDoor.Ln
open Go.RowKit Go.Shelf
attribute [local go_sem] Oper.semAt_some
set_option linter.unusedVariables false
set_option linter.unusedSimpArgs false
set_option maxRecDepth 100000
/-! ### a text cut at its first feed. -/
theorem cut_hit : ∀ (l : By) (i : Nat), feedAt l = some i → cutF l = (l.take i, l.drop (i + 1)) ∧ i < l.length
  | [], i, h => by cases h
  | c :: r, i, h => by
    by_cases hc : c = 10
    · have : i = 0 := by
        have e : feedAt (c :: r) = some 0 := by show (if c = 10 then some 0 else _) = _; rw [if_pos hc]
        rw [e] at h; injection h with h; exact h.symm
      subst this
      refine ⟨?_, by simp⟩
      unfold cutF
      rw [if_pos hc]; rfl
    · have e : feedAt (c :: r) = (feedAt r).map (· + 1) := by show (if c = 10 then some 0 else _) = _; rw [if_neg hc]
      rw [e] at h
      cases hr : feedAt r with
      | none => rw [hr] at h; cases h
      | some j =>
        rw [hr] at h
        have : i = j + 1 := by injection h with h; exact h.symm
        subst this
        obtain ⟨q1, q2⟩ := cut_hit r j hr
        refine ⟨?_, by simp; omega⟩
        unfold cutF
        rw [if_neg hc, q1]; rfl
theorem cut_miss : ∀ (l : By), feedAt l = none → cutF l = (l, [])
  | [], _ => rfl
  | c :: r, h => by
    rw [feed_cons] at h
    unfold cutF
    rw [if_neg h.1, cut_miss r h.2]
theorem cutS_l (s : ByteArray) (w : World) (hs : s.size ≤ 549755813888) : Calls Tryz.prog 149 #[.string s, .string ⟨#[10]⟩] w fun e w' => (∃ b, e = .returned (.tuple #[.string (ba (cutF s.data.toList).1), .string (ba (cutF s.data.toList).2), .bool b])) ∧ ∃ q, w' = w.drewN q := by
  have cI : Hid (∀ W, Calls Tryz.prog 150 #[.string s, .string ⟨#[10]⟩] W fun e w' => e = .returned (.int .i64 (Lib.indexByte s.data.toList 10)) ∧ w' = W) := fun W => Tryz.stringslite_Index_one s 10 W
  have hx := feed_index s.data.toList
  have hb1 : (⟨#[10]⟩ : ByteArray).size = 1 := rfl
  have hlen := lenB s
  cases hf : feedAt s.data.toList with
  | none =>
    rw [hf] at hx
    have hi : Lib.indexByte s.data.toList 10 = -1 := hx
    rw [hi] at cI
    rw [cut_miss _ hf]
    have e : ba s.data.toList = s := ba_of s
    rw [e]
    clear hx hi hf hlen e
    go_enter Tryz.func149, Tryz.ntmps149
    go_wp2_with fail
    refine Calls.mono (cI.out w) ?_
    rintro e w1 ⟨rfl, hw⟩
    subst hw
    go_wp2_with fail
    simp [bodyPost, results, Tryz.results149, go_sem]
    exact ⟨by rfl, 0, (World.drewN_zero _).symm⟩
  | some i =>
    rw [hf] at hx
    have hi : Lib.indexByte s.data.toList 10 = (i : Int) := hx
    rw [hi] at cI
    obtain ⟨q1, q2⟩ := cut_hit _ i hf
    rw [q1]
    have e1 : ba (s.data.toList.take i) = s.extract 0 i := by
      rw [← bz_of (s.extract 0 i)]
      show bz _ = bz _
      congr 1
      simp [ByteArray.extract, ByteArray.copySlice]
    have e2 : ba (s.data.toList.drop (i + 1)) = s.extract (i + 1) s.size := by
      rw [← bz_of (s.extract (i + 1) s.size), ex_list]; rfl
    dsimp only
    rw [e1, e2]
    have i0 : (0 : Int) ≤ (i : Int) := by omega
    have i1 : (i : Int) ≤ (s.size : Int) := by omega
    have i2 : (i : Int) + 1 ≤ (s.size : Int) := by omega
    have i3 : (0 : Int) ≤ (i : Int) + 1 := by omega
    have wi : IntKind.i64.wrap ((i : Int) + 1) = (i : Int) + 1 := IntWalk.i64_in _ (by omega)
    have wk : wrap64 ((i : Int) + 1) = (i : Int) + 1 := IntWalk.wrap64_in _ (by omega)
    have t1 : ((i : Int) + 1).toNat = i + 1 := by omega
    clear hx hi hf hlen q1 q2 e1 e2
    go_enter Tryz.func149, Tryz.ntmps149
    go_wp2_with fail
    refine Calls.mono (cI.out w) ?_
    rintro e w1 ⟨rfl, hw⟩
    subst hw
    go_wp2_with fail
    go_quiet (fail)
    go_wp2_with fail
    simp [bodyPost, results, Tryz.results149, go_sem]
    first | exact ⟨by simp [t1], _, rfl⟩ | exact ⟨_, rfl⟩ | (simp [t1]; exact ⟨_, rfl⟩)
theorem cut_l (s : ByteArray) (w : World) (hs : s.size ≤ 549755813888) : Calls Tryz.prog 111 #[.string s, .string ⟨#[10]⟩] w fun e w' => (∃ b, e = .returned (.tuple #[.string (ba (cutF s.data.toList).1), .string (ba (cutF s.data.toList).2), .bool b])) ∧ ∃ q, w' = w.drewN q := by
  have c := cutS_l s w hs
  generalize ba (cutF s.data.toList).1 = a at *
  generalize ba (cutF s.data.toList).2 = b at *
  have cH : Hid (Calls Tryz.prog 149 #[.string s, .string ⟨#[10]⟩] w fun e w' => (∃ x, e = .returned (.tuple #[.string a, .string b, .bool x])) ∧ ∃ q, w' = w.drewN q) := c
  clear c
  go_enter Tryz.func111, Tryz.ntmps111
  go_wp2_with fail
  refine Calls.mono cH.out ?_
  rintro e w1 ⟨⟨x, rfl⟩, q, hw⟩
  subst hw
  go_wp2_with fail
  simp [bodyPost, results, Tryz.results111, go_sem]
  exact ⟨q, rfl⟩
end Go.Proofs.YtbojljmacheccaaGreatDoor.Ln

namespace Go.Proofs.YtbojljmacheccaaGreatDoor.Ln
open Go.RowKit Go.Shelf
set_option linter.unusedVariables false
set_option linter.unusedSimpArgs false
set_option maxRecDepth 100000
/-! ### points in a row of one's own. -/
structure PtQ where
  p : PtP
  ta : Option Addr
  tc : Nat
  fa : Option Addr
  fc : Nat
theorem pt_info : (Tryz.prog.info? 32).map (fun i => (i.zero, i.bytes, i.size)) = some (some (.agg #[.string ⟨#[]⟩, .slice none 0 0, .slice none 0 0, .int .i64 0]), 72, 4) := by kernel_rfl
def encQ : List PtQ → List Value
  | [] => []
  | t :: r => .string t.p.m :: .slice t.ta t.p.t.length t.tc :: .slice t.fa t.p.f.length t.fc :: .int .i64 t.p.tm :: encQ r
theorem encQ_append : ∀ (a b : List PtQ), encQ (a ++ b) = encQ a ++ encQ b
  | [], b => rfl
  | t :: r, b => by show _ :: _ :: _ :: _ :: encQ (r ++ b) = _; rw [encQ_append r b]; rfl
theorem encQ_one : ∀ (l : List PtQ), ∀ u ∈ encQ l, u.oneCell' = true
  | t :: r, u, h => by
    unfold encQ at h
    rcases List.mem_cons.1 h with rfl | h
    · rfl
    rcases List.mem_cons.1 h with rfl | h
    · rfl
    rcases List.mem_cons.1 h with rfl | h
    · rfl
    rcases List.mem_cons.1 h with rfl | h
    · rfl
    exact encQ_one r u h
theorem encQ_get : ∀ (l : List PtQ) (i : Nat) (t : PtQ), l[i]? = some t → (encQ l)[i * 4]? = some (.string t.p.m) ∧ (encQ l)[i * 4 + 1]? = some (.slice t.ta t.p.t.length t.tc) ∧ (encQ l)[i * 4 + 2]? = some (.slice t.fa t.p.f.length t.fc) ∧ (encQ l)[i * 4 + 3]? = some (.int .i64 t.p.tm)
  | x :: r, 0, t, h => by simp at h; subst h; exact ⟨rfl, rfl, rfl, rfl⟩
  | x :: r, i + 1, t, h => by
    obtain ⟨a, b, c, d⟩ := encQ_get r i t (by simpa using h)
    have e : (i + 1) * 4 = i * 4 + 1 + 1 + 1 + 1 := by omega
    rw [e]
    exact ⟨a, b, c, d⟩
def notIn (v : Value) (t : PtQ) : Prop := ∀ g, v.ownBlock = some g → (t.p.t ≠ [] → ∀ q, t.ta = some q → q.block ≠ g) ∧ (t.p.f ≠ [] → ∀ q, t.fa = some q → q.block ≠ g)
theorem TgIn.grownL {w w' : World} {a : Option Addr} {l : List TagP} {row : Option Nat} (h : TgIn w a l) (hg : w.grownBy w' row) (hne : l ≠ [] → ∀ ad, a = some ad → row ≠ some ad.block) : TgIn w' a l := by
  rcases h with h | ⟨b, off, e, hb, hc⟩
  · exact Or.inl h
  · by_cases hl : l = []
    · exact Or.inl hl
    · have hn := hne hl _ e
      refine Or.inr ⟨b, off, e, Nat.lt_of_lt_of_le hb hg.size, fun i t ht => ?_⟩
      have c : ∀ o, w'.cell? ⟨b, o, none⟩ = w.cell? ⟨b, o, none⟩ := fun o => hg.cell_far ⟨b, o, none⟩ hb (fun q => hn q.symm)
      rw [c, c]; exact hc i t ht
theorem PtIn.grownL {w w' : World} {t : PtQ} {v : Value} (h : PtIn w t.ta t.fa t.fc t.p) (hg : w.grownBy w' v.ownBlock) (hn : notIn v t) : PtIn w' t.ta t.fa t.fc t.p :=
  ⟨TgIn.grownL h.1 hg (fun hl ad e q => (hn _ q).1 hl _ e rfl), h.2.1, FdIn.grownW h.2.2.1 hg (fun hl ad e q => (hn _ q).2 hl _ e rfl), h.2.2.2⟩
structure OPl (W : World) (B : Nat) (v : Value) (L : List PtQ) : Prop where
  own : W.ownsRow B 32 4 v L.length (encQ L)
  all : ∀ t ∈ L, PtIn W t.ta t.fa t.fc t.p ∧ notIn v t
theorem OPl.nil (w : World) (B : Nat) : OPl w B (.slice none 0 0) [] := ⟨⟨rfl, Or.inl ⟨rfl, rfl⟩⟩, fun t h => by cases h⟩
theorem OPl.below {W W' : World} {B : Nat} {v : Value} {L : List PtQ} (h : OPl W B v L) (hb : Below W.heap.size W W') : OPl W' B v L := by
  refine ⟨⟨h.own.1, ?_⟩, fun t ht => ⟨(h.all t ht).1.below hb, (h.all t ht).2⟩⟩
  rcases h.own.2 with h2 | ⟨g, cap, cur, e1, e2, e3, e4⟩
  · exact Or.inl h2
  · exact Or.inr ⟨g, cap, cur, e1, e2, by rw [hb.block g (Array.getElem?_eq_some_iff.1 e3).1]; exact e3, e4⟩
/-- what is written elsewhere leaves the row. -/
theorem OPl.keep {W W' : World} {B : Nat} {v : Value} {L : List PtQ} {r : Option Nat} (h : OPl W B v L) (hg : W.grownBy W' r) (hv : ∀ g, v.ownBlock = some g → r ≠ some g) (hp : ∀ t ∈ L, (t.p.t ≠ [] → ∀ q, t.ta = some q → r ≠ some q.block) ∧ (t.p.f ≠ [] → ∀ q, t.fa = some q → r ≠ some q.block)) : OPl W' B v L := by
  refine ⟨⟨h.own.1, ?_⟩, fun t ht => ⟨⟨TgIn.grownL (h.all t ht).1.1 hg (fun hl ad e => (hp t ht).1 hl ad e), (h.all t ht).1.2.1, FdIn.grownW (h.all t ht).1.2.2.1 hg (fun hl ad e => (hp t ht).2 hl ad e), (h.all t ht).1.2.2.2⟩, (h.all t ht).2⟩⟩
  rcases h.own.2 with h2 | ⟨g, cap, cur, e1, e2, e3, e4⟩
  · exact Or.inl h2
  · exact Or.inr ⟨g, cap, cur, e1, e2, by rw [hg.block g (Array.getElem?_eq_some_iff.1 e3).1 (fun q => hv g (by rw [e1]; rfl) q.symm)]; exact e3, e4⟩
theorem OPl.slice {W : World} {B : Nat} {v : Value} {L : List PtQ} (h : OPl W B v L) : ∃ a c, v = .slice a L.length c := by
  rcases h.own.2 with ⟨e1, e2⟩ | ⟨g, cap', cur, e1, _⟩
  · have : L.length = 0 := e2
    rw [this]; exact ⟨_, _, e1⟩
  · exact ⟨_, _, e1⟩
/-- the row, read. -/
theorem OPl.psIn {W : World} {B : Nat} {v : Value} {L : List PtQ} (h : OPl W B v L) : ∃ a c, v = .slice a L.length c ∧ PsIn W a (L.map (·.p)) := by
  rcases h.own.2 with ⟨e1, e2⟩ | ⟨g, cap', cur, e1, e2, e3, e4⟩
  · have : L.length = 0 := e2
    have hl : L = [] := List.length_eq_zero_iff.1 this
    subst hl
    exact ⟨_, _, e1, Or.inl rfl⟩
  · refine ⟨some ⟨g, 0, none⟩, cap', e1, Or.inr ⟨g, 0, rfl, (Array.getElem?_eq_some_iff.1 e3).1, fun i p hp => ?_⟩⟩
    obtain ⟨t, ht, rfl⟩ : ∃ t, L[i]? = some t ∧ t.p = p := by
      rw [List.getElem?_map] at hp
      cases hq : L[i]? with
      | none => rw [hq] at hp; cases hp
      | some t => rw [hq] at hp; exact ⟨t, rfl, by simpa using hp⟩
    have hm := List.mem_of_getElem? ht
    obtain ⟨a, b, c, d⟩ := encQ_get L i t ht
    have cc : ∀ (o : Nat) (u : Value), (encQ L)[o]? = some u → W.cell? ⟨g, o, none⟩ = some u := fun o u hu => by
      have := World.ownsRow.cells h.own (g := g) (by rw [e1]; rfl) o u hu
      rw [tag_add, Nat.zero_add] at this
      exact this
    exact ⟨t.ta, t.tc, t.fa, t.fc, ⟨by simpa using cc _ _ a, by simpa using cc _ _ b, by simpa using cc _ _ c, by simpa using cc _ _ d⟩, (h.all t hm).1⟩
theorem OPl.app (W : World) (B : Nat) (v : Value) (L : List PtQ) (h : OPl W B v L) (hB : B ≤ W.heap.size) (t : PtQ) (ht : PtIn W t.ta t.fa t.fc t.p) (hnt : notIn v t) (hn : L.length + 1 ≤ 1099511627776) :
    ∃ a c w', (∀ W' N, W' = W.alloc (.cells #[.string t.p.m, .slice t.ta t.p.t.length t.tc, .slice t.fa t.p.f.length t.fc, .int .i64 t.p.tm] 32) → N = W.heap.size → (Builtin.append_ #[22, 22] 22 #[v, .slice (some ⟨N, 0, none⟩) 1 1]).run Tryz.prog W' = .ok (.slice a (L.length + 1) c) w') ∧ OPl w' B (.slice a (L.length + 1) c) (L ++ [t]) ∧ W.grownBy w' v.ownBlock ∧ ((Value.slice a (L.length + 1) c).ownBlock = v.ownBlock ∨ (Value.slice a (L.length + 1) c).ownBlock = some (W.heap.size + 1)) := by
  have b1 : Below W.heap.size W (W.alloc (.cells #[.string t.p.m, .slice t.ta t.p.t.length t.tc, .slice t.fa t.p.f.length t.fc, .int .i64 t.p.tm] 32)) := (Below.refl _ W).alloc (Nat.le_refl _) _
  have ho2 := (h.below b1).own
  obtain ⟨i, i1, i0⟩ := Option.map_eq_some_iff.1 pt_info
  have i2 : i.zero = some (.agg #[.string ⟨#[]⟩, .slice none 0 0, .slice none 0 0, .int .i64 0]) := congrArg (·.1) i0
  have i3 : i.bytes = 72 := congrArg (·.2.1) i0
  have i4 : i.size = 4 := congrArg (·.2.2) i0
  have hml : maxLen = 9223372036854775807 := by decide
  have hB2 := Nat.le_trans hB b1.size
  have hsz : (W.alloc (.cells #[.string t.p.m, .slice t.ta t.p.t.length t.tc, .slice t.fa t.p.f.length t.fc, .int .i64 t.p.tm] 32)).heap.size = W.heap.size + 1 := by simp
  obtain ⟨g, cap, w', hr, own, gr, hat, hlt⟩ := run_append_lies (P := Tryz.prog) _ 22 22 B 32 i (.agg #[.string ⟨#[]⟩, .slice none 0 0, .slice none 0 0, .int .i64 0]) 4 72 Tryz.underlying22 i1 i2 i4 i3 rfl (by omega) v L.length (encQ L) ho2 ⟨W.heap.size, 0, none⟩ 1 1 (encQ [t]) rfl (fun j u hj => by
    rcases j with _ | _ | _ | _ | j <;> simp [encQ] at hj <;> (try (subst hj; simp [go_sem]))) (encQ_one _) (by omega) (by omega) (by omega) hB2 _ rfl
  have gW : W.grownBy w' v.ownBlock := ⟨gr.os, gr.tape, gr.output, Nat.le_trans b1.size gr.size, fun k hk hne => by rw [gr.block k (Nat.lt_of_lt_of_le hk b1.size) hne]; exact b1.block k hk⟩
  have all : ∀ u ∈ L ++ [t], PtIn W u.ta u.fa u.fc u.p ∧ notIn v u := fun u hu => by
    rcases List.mem_append.1 hu with q | q
    · exact h.all u q
    · rw [List.mem_singleton.1 q]; exact ⟨ht, hnt⟩
  refine ⟨some ⟨g, 0, none⟩, cap, w', fun W' N e e' => by subst e; subst e'; exact hr, ⟨?_, fun u hu => ⟨PtIn.grownL (all u hu).1 gW (all u hu).2, fun g' hg' => ?_⟩⟩, gW, ?_⟩
  · rw [List.length_append, List.length_singleton, encQ_append]; exact own
  · have q1 : g = g' := by simpa [Value.ownBlock] using hg'
    subst q1
    rcases hat with e | e
    · exact (all u hu).2 g e
    · rw [hsz] at e
      refine ⟨fun hl q hq => ?_, fun hl q hq => ?_⟩
      · rcases (all u hu).1.1 with h0 | ⟨b, off, e2, hb, _⟩
        · exact absurd h0 hl
        · rw [e2] at hq; injection hq with hq; rw [← hq]; show b ≠ g; omega
      · rcases (all u hu).1.2.2.1 with h0 | ⟨b, off, e2, hb, _⟩
        · exact absurd h0 hl
        · rw [e2] at hq; injection hq with hq; rw [← hq]; show b ≠ g; omega
  · rcases hat with e | e
    · exact Or.inl (by rw [e]; rfl)
    · rw [hsz] at e
      exact Or.inr (by rw [e]; rfl)
end Go.Proofs.YtbojljmacheccaaGreatDoor.Ln

namespace Go.Proofs.YtbojljmacheccaaGreatDoor.Ln
set_option linter.unusedVariables false
set_option linter.unusedSimpArgs false
/-! ### a text's lines, one by one. -/
def linesB : Nat → Nat → By → List (Nat × By)
  | 0, _, _ => []
  | f + 1, n, l => if l = [] then [] else (n, (cutF l).1) :: linesB f (n + 1) (cutF l).2
def skipB (x : By) : Bool := decide (x = []) || decide (x.head? = some 35)
def runA : List Pt → List (Nat × By) → Except (Nat × Option Int) (List Pt)
  | acc, [] => .ok acc
  | acc, x :: r => if skipB x.2 = true then runA acc r else match one8 unK nvL x.2 with
    | .error e => .error (x.1, e)
    | .ok p => runA (acc ++ [p]) r
theorem cut_short : ∀ l : By, l ≠ [] → (cutF l).2.length < l.length
  | [], h => absurd rfl h
  | c :: r, _ => by
    unfold cutF
    split
    · simp
    · have := cut_len r; simp; omega
theorem cut_one : ∀ l : By, (cutF l).1.length ≤ l.length
  | [] => Nat.le_refl _
  | c :: r => by
    unfold cutF
    split
    · simp
    · have := cut_one r; simp; omega
theorem lines_step {f n : Nat} {l : By} (hl : l ≠ []) (hf : l.length ≤ f) : linesB f n l = (n, (cutF l).1) :: linesB (f - 1) (n + 1) (cutF l).2 ∧ (cutF l).2.length ≤ f - 1 := by
  have h := cut_short l hl
  cases f with
  | zero => omega
  | succ f =>
    refine ⟨?_, by omega⟩
    conv => lhs; unfold linesB
    rw [if_neg hl]; rfl
theorem lines_end {f n : Nat} : linesB f n [] = [] := by
  cases f with
  | zero => rfl
  | succ f => unfold linesB; rw [if_pos rfl]
theorem runA_cons (acc : List Pt) (x : Nat × By) (r : List (Nat × By)) : runA acc (x :: r) = if skipB x.2 = true then runA acc r else match one8 unK nvL x.2 with
    | .error e => .error (x.1, e)
    | .ok p => runA (acc ++ [p]) r := rfl
theorem runA_app : ∀ (a b : List (Nat × By)) (acc : List Pt), runA acc (a ++ b) = match runA acc a with | .ok ps => runA ps b | .error e => .error e
  | [], b, acc => rfl
  | x :: r, b, acc => by
    show runA acc (x :: (r ++ b)) = _
    rw [runA_cons, runA_cons]
    split
    · exact runA_app r b acc
    · split
      · rfl
      · exact runA_app r b _
theorem runA_one (ps : List Pt) (x : Nat × By) : runA ps [x] = if skipB x.2 = true then .ok ps else match one8 unK nvL x.2 with
    | .error e => .error (x.1, e)
    | .ok p => .ok (ps ++ [p]) := by
  unfold runA
  split
  · rfl
  · split
    · rfl
    · rfl
/-- what Parse tells. -/
def parO (l : By) : Except (Nat × Option Int) (List Pt) := runA [] (linesB l.length 0 l)
/-- an error in some line ends all. -/
theorem parO_bad {l : By} {pre : List (Nat × By)} {x : Nat × By} {ps : List Pt} {e : Option Int} (h : (pre ++ [x]) <+: linesB l.length 0 l) (h1 : runA [] pre = .ok ps) (h2 : skipB x.2 = false) (h3 : one8 unK nvL x.2 = .error e) : parO l = .error (x.1, e) := by
  obtain ⟨r, hr⟩ := h
  unfold parO
  rw [← hr, runA_app, runA_app, h1]
  dsimp only
  rw [runA_one, if_neg (by rw [h2]; simp), h3]
end Go.Proofs.YtbojljmacheccaaGreatDoor.Ln

namespace Go.Proofs.YtbojljmacheccaaGreatDoor.Ln
open Go.RowKit Go.Shelf
attribute [local go_sem] Oper.semAt_some
set_option linter.unusedVariables false
set_option linter.unusedSimpArgs false
/-! ### lines, as it is ranged over. -/
abbrev encL (x : Nat × By) : Array Value := #[.int .i64 (x.1 : Int), .string (ba x.2)]
/-- a line of a text of at most a megabyte. -/
abbrev LnT := {x : Nat × By // x.2.length ≤ 549755813888}
abbrev encT (x : LnT) : Array Value := encL x.1
def strN : Value → Nat
  | .string s => s.size
  | _ => 0
set_option maxHeartbeats 600000 in
set_option maxRecDepth 100000 in
theorem lines_stops (n : Nat) (hn : 3 ≤ n) (Bn : Nat) (s : ByteArray) (w : World) (hs : s.size ≤ 549755813888) (hBn : Bn < w.heap.size) (hc : w.cell? ⟨Bn, 0, none⟩ = some (.string s)) :
    SeqStopsK Fence.wide n Tryz.prog 110 #[.pointer (some ⟨Bn, 0, none⟩)] encT (fun _ _ => True) (fun xs => xs.map (·.1) = linesB s.data.toList.length 0 s.data.toList) (fun pre => pre.map (·.1) <+: linesB s.data.toList.length 0 s.data.toList) s.size w := fun l J Jx W hW hJ hJx hY h0 => by
  have hcW : W.cell? ⟨Bn, 0, none⟩ = some (.string s) := by rw [hW.cell (p := ⟨Bn, 0, none⟩) hBn]; exact hc
  have hlen : Hid (s.data.toList.length = s.size) := lenB s
  have hba : Hid (s = ba s.data.toList) := (ba_of s).symm
  obtain ⟨LL, hLL⟩ : ∃ LL, linesB s.data.toList.length 0 s.data.toList = LL := ⟨_, rfl⟩
  have hLH : Hid (LL = linesB s.data.toList.length 0 s.data.toList) := hLL.symm
  rw [hLL]
  clear hLL
  clear hc
  refine callsIn_of_wp Tryz.func110 rfl trivial ?_ rfl
  simp only [Tryz.ntmps110, List.size_toArray, List.length_cons, List.length_nil, Nat.reduceAdd, Nat.reduceSub, Array.replicate_succ, Array.replicate_zero, List.push_toArray, List.append_toArray, List.nil_append, List.cons_append]
  gi_wp2
  gi_loopw [3, 4, 5] (fun r nn tt wr => ∃ (pre : List LnT) (k g : Nat) (l2 : By), r = .string (ba l2) ∧ nn = .int .i64 (k : Int) ∧ l2.length ≤ g ∧ k + l2.length ≤ s.size ∧ pre.length = k ∧ Hid (LL = pre.map (·.1) ++ linesB g k l2) ∧ J pre wr)
    (fun r _ _ _ => strN r)
  case atStart => exact ⟨[], 0, s.data.toList.length, s.data.toList, congrArg Value.string hba.out, rfl, Nat.le_refl _, by have := hlen.out; omega, rfl, (show Hid (LL = List.map (·.1) ([] : List LnT) ++ _) from hLH.out.trans (List.nil_append _).symm), h0⟩
  case round =>
    obtain ⟨pre, k, g, l2, rfl, rfl, hg, hk, hpk, hcut, hJs⟩ := hrel
    have hz : (ba l2).size = l2.length := ba_size l2
    have hzl : (ba l2).size ≤ 549755813888 := by rw [hz]; omega
    have wi : IntKind.i64.wrap ((k : Int) + 1) = ((k + 1 : Nat) : Int) := IntWalk.i64_in _ (by omega)
    have wk : wrap64 ((k : Int) + 1) = ((k + 1 : Nat) : Int) := IntWalk.wrap64_in _ (by omega)
    by_cases hl : l2 = []
    · subst hl
      have e0 : ba ([] : By) = ⟨#[]⟩ := rfl
      rw [e0]
      have hcut2 : Hid (LL = pre.map (·.1)) := by have := hcut.out; rw [lines_end, List.append_nil] at this; exact this
      clear hcut
      gi_wp2
      go_end0
      first | exact ⟨⟨_, rfl⟩, .inl ⟨pre, hcut2.out.symm, hJs⟩⟩ | (rw [hcut2.out]; exact ⟨⟨_, rfl⟩, .inl hJs⟩) | (rw [hcut2.out]; exact .inl hJs) | (rw [hcut2.out]; exact hJs)
    · obtain ⟨hst, hsh⟩ := lines_step (n := k) hl hg
      have hshort := cut_short l2 hl
      have hc1 : Hid (LL = (pre.map (·.1) ++ [(k, (cutF l2).1)]) ++ linesB (g - 1) (k + 1) (cutF l2).2) := by
        have := hcut.out
        rw [hst] at this
        show _ = _
        rw [this]; simp
      have hne : (ba l2).toList.isEmpty = false := by
        rw [Lib.toList_data, ba_list]
        cases l2 with
        | nil => exact absurd rfl hl
        | cons a r => rfl
      have hne2 : l2.isEmpty = false := by
        cases l2 with
        | nil => exact absurd rfl hl
        | cons a r => rfl
      have cC : Hid (∀ W, Calls Tryz.prog 111 #[.string (ba l2), .string ⟨#[10]⟩] W fun e w' => (∃ b, e = .returned (.tuple #[.string (ba (cutF l2).1), .string (ba (cutF l2).2), .bool b])) ∧ ∃ q, w' = W.drewN q) := fun W => by
        have h := cut_l (ba l2) W hzl
        have e : (ba l2).data.toList = l2 := Ln.ba_list l2
        rw [e] at h
        exact h
      have htb : (cutF l2).1.length ≤ 549755813888 := Nat.le_trans (cut_one l2) (by rw [hz] at hzl; exact hzl)
      have lneg : 1 ≤ l2.length := by cases l2 with | nil => exact absurd rfl hl | cons a r => simp
      clear hst hcut hl
      obtain ⟨t1, ht1⟩ : ∃ t1, (cutF l2).1 = t1 := ⟨_, rfl⟩
      obtain ⟨t2, ht2⟩ : ∃ t2, (cutF l2).2 = t2 := ⟨_, rfl⟩
      rw [ht1, ht2] at cC hc1
      rw [ht1] at htb
      rw [ht2] at hshort hsh
      have hz2 : (ba t2).size = t2.length := ba_size t2
      have hnum : Hid (l2.length ≤ g ∧ k + l2.length ≤ s.size ∧ pre.length = k ∧ t2.length < l2.length ∧ t2.length ≤ g - 1 ∧ 1 ≤ l2.length ∧ (ba l2).size = l2.length ∧ (ba t2).size = t2.length) := ⟨hg, hk, hpk, hshort, hsh, lneg, hz, hz2⟩
      clear ht1 ht2 hg hk hpk hshort hsh lneg hz hz2 hzl
      obtain ⟨T, hT⟩ : ∃ T, ba l2 = T := ⟨_, rfl⟩
      obtain ⟨T2, hT2⟩ : ∃ T2, ba t2 = T2 := ⟨_, rfl⟩
      have hT2H : Hid (ba t2 = T2) := hT2
      rw [hT, hT2] at hnum cC
      rw [hT] at hne ⊢
      clear hT hT2
      gi_wp2
      refine ⟨trivial, fun _ => by have := hnum.out; omega, ?_⟩
      refine (callsIn_wide.2 (cC.out _)).mono ?_
      rintro e w1 ⟨⟨bb, rfl⟩, q, hw⟩
      have hJ1 : J pre w1 := hJ pre wr w1 none hJs (below_grown (by rw [hw]; exact belowQ wr q)) (fun r e => by cases e)
      clear hw
      obtain ⟨fn, tmps, assign, body, hy, hR⟩ := hY pre ⟨(k, t1), htb⟩ w1 hJ1 (by have := hnum.out; omega)
      dsimp only [encT, encL] at hy
      clear cC
      gi_wp2
      refine ⟨fun _ => by omega, hR.mono ?_⟩
      rintro e W3 (⟨rfl, hJ3, hk3⟩ | ⟨rfl, hJx3⟩)
      · gi_wp2
        go_roundw
        case rel => exact ⟨pre ++ [⟨(k, t1), htb⟩], k + 1, g - 1, t2, by rw [hT2H.out], by first | rfl | simp, by have := hnum.out; omega, by have := hnum.out; omega, by have := hnum.out; simp; omega, (by show LL = _; rw [List.map_append]; exact hc1.out), hJ3⟩
        case measure => have := hnum.out; simp only [strN]; omega
      · gi_wp2
        refine bodyPost_ret (results_none rfl _ _ _) rfl ?_
        exact ⟨⟨_, rfl⟩, .inr ⟨pre ++ [⟨(k, t1), htb⟩], ⟨_, (by rw [List.map_append]; exact hc1.out.symm)⟩, hJx3⟩⟩
theorem lines_any (s : ByteArray) (w : World) : Calls Tryz.prog 44 #[.string s] w fun e w' => e = .returned (.func (.func 110) #[] #[.pointer (some ⟨w.heap.size, 0, none⟩)]) ∧ w' = w.alloc (.cells #[.string s] 9) := by
  have hmf : ∀ (fn : Fn) (first cap : Array Value) (w : World), (Instr.makeFunc fn first cap).run Tryz.prog w = .ok (.func fn first cap) w := fun _ _ _ _ => rfl
  go_enter Tryz.func44, Tryz.ntmps44
  go_wp2
  go_ret
  exact ⟨rfl, rfl⟩
end Go.Proofs.YtbojljmacheccaaGreatDoor.Ln

namespace Go.Proofs.YtbojljmacheccaaGreatDoor.Ln
open Go.RowKit Go.Shelf
attribute [local go_sem] Oper.semAt_some
set_option linter.unusedVariables false
set_option linter.unusedSimpArgs false
set_option maxRecDepth 100000
/-! ### while a text's lines are gone through. -/
/-- a block of cells is left by what writes into others. -/
theorem cells_stay {W W' : World} {row : Option Nat} (hg : W.grownBy W' row) (hr : ∀ r, row = some r → ∃ o : Obj, W.heap[r]? = some o ∧ o.isCells = false) {k : Nat} {cs : Array Value} {t : TypeId} (h : W.heap[k]? = some (.cells cs t)) : W'.heap[k]? = some (.cells cs t) :=
  (hg.block k (Array.getElem?_eq_some_iff.1 h).1 (fun e => by obtain ⟨o, ho, hc⟩ := hr k e.symm; rw [h] at ho; cases ho; cases hc)).trans h
theorem cell_not {W : World} {a : Addr} {u : Value} (h : W.cell? a = some u) {o : Obj} (ho : W.heap[a.block]? = some o) : o.isCells = true := by
  cases hc : o.isCells with
  | true => rfl
  | false =>
    unfold World.cell? at h
    rw [ho] at h
    cases o <;> simp_all [Obj.isCells]
theorem PtIn.stay {W W' : World} {row : Option Nat} (hg : W.grownBy W' row) (hr : ∀ r, row = some r → ∃ o : Obj, W.heap[r]? = some o ∧ o.isCells = false) {ta fa : Option Addr} {fc : Nat} {p : PtP} (h : PtIn W ta fa fc p) : PtIn W' ta fa fc p := by
  refine ⟨TgIn.grownL h.1 hg (fun hl ad e q => ?_), h.2.1, FdIn.grownW h.2.2.1 hg (fun hl ad e q => ?_), h.2.2.2⟩
  · rcases h.1 with h0 | ⟨b, off, e2, hb, hc⟩
    · exact hl h0
    · rw [e2] at e; injection e with e
      obtain ⟨o, ho, hx⟩ := hr _ q
      cases ht : p.t with
      | nil => exact hl ht
      | cons x r =>
        have := (hc 0 x (by rw [ht]; rfl)).1
        rw [← e] at ho
        rw [cell_not this ho] at hx; cases hx
  · rcases h.2.2.1 with h0 | ⟨b, off, e2, hb, hc⟩
    · exact hl h0
    · rw [e2] at e; injection e with e
      obtain ⟨o, ho, hx⟩ := hr _ q
      cases ht : p.f with
      | nil => exact hl ht
      | cons x r =>
        have := (hc 0 x (by rw [ht]; rfl)).1
        rw [← e] at ho
        rw [cell_not this ho] at hx; cases hx
theorem OPl.stay {W W' : World} {row : Option Nat} {B : Nat} {v : Value} {L : List PtQ} (hg : W.grownBy W' row) (hr : ∀ r, row = some r → ∃ o : Obj, W.heap[r]? = some o ∧ o.isCells = false) (h : OPl W B v L) : OPl W' B v L := by
  refine ⟨⟨h.own.1, ?_⟩, fun t ht => ⟨PtIn.stay hg hr (h.all t ht).1, (h.all t ht).2⟩⟩
  rcases h.own.2 with h2 | ⟨g, cap, cur, e1, e2, e3, e4⟩
  · exact Or.inl h2
  · exact Or.inr ⟨g, cap, cur, e1, e2, cells_stay hg hr e3, e4⟩
theorem OPl.keeps {W W' : World} {B : Nat} {v : Value} {L : List PtQ} (h : OPl W B v L) (hg : W.grownBy W' v.ownBlock) : KeepsOthers W W' := by
  refine ⟨hg.size, fun k o hk ho => ?_⟩
  refine (hg.block k (Array.getElem?_eq_some_iff.1 hk).1 (fun e => ?_)).trans hk
  rcases h.own.2 with ⟨e1, _⟩ | ⟨g, cap, cur, e1, e2, e3, e4⟩
  · rw [e1] at e; cases e
  · rw [e1] at e
    have : k = g := by simpa [Value.ownBlock] using e
    subst this
    rw [e3] at hk; cases hk; cases ho
theorem keeps_set {W : World} {k i : Nat} {v : Value} {cs : Array Value} {t : TypeId} (h : W.heap[k]? = some (.cells cs t)) : KeepsOthers W (W.setCell ⟨k, i, none⟩ v) := by
  refine ⟨by simp, fun j o hj ho => ?_⟩
  rw [Below.heap_setCell _ _ _ _ (by intro e; subst e; rw [h] at hj; cases hj; cases ho)]
  exact hj
/-- a block of one cell, written. -/
theorem set_one {W : World} {k : Nat} {u v : Value} {t : TypeId} (h : W.heap[k]? = some (.cells #[u] t)) : (W.setCell ⟨k, 0, none⟩ v).heap[k]? = some (.cells #[v] t) := by
  obtain ⟨hk, h2⟩ := Array.getElem?_eq_some_iff.1 h
  simp [World.setCell, hk, Array.getElem_modify, h2]
/-- all lines till now are points, and they stand in the list. -/
structure ParI (w : World) (pre : List (Nat × By)) (W : World) (ps : List Pt) (v : Value) (L : List PtQ) : Prop where
  run : runA [] pre = .ok ps
  bl : Below w.heap.size w W
  r0 : W.heap[w.heap.size]? = some (.cells #[.slice none 0 0] 22)
  r1 : W.heap[w.heap.size + 1]? = some (.cells #[.nilIface] 26)
  r2 : W.heap[w.heap.size + 2]? = some (.cells #[v] 22)
  op : OPl W (w.heap.size + 3) v L
  eq : L.map (·.p) = ps.map ptB
  few : L.length ≤ pre.length
theorem ParI.own {w : World} (B : Nat) : OwnFrom B (fun (pre : List LnT) W => ∃ ps v L, ParI w (pre.map (·.1)) W ps v L ∧ w.heap.size ≤ B) := fun pre W W' row h hg hr => by
  obtain ⟨ps, v, L, h, hB⟩ := h
  have hr' : ∀ r, row = some r → ∃ o : Obj, W.heap[r]? = some o ∧ o.isCells = false := fun r e => (hr r e).2
  exact ⟨ps, v, L, ⟨h.run, h.bl.grown hg h.bl.size (fun k e => Nat.le_trans hB (hr k e).1), cells_stay hg hr' h.r0, cells_stay hg hr' h.r1, cells_stay hg hr' h.r2, OPl.stay hg hr' h.op, h.eq, h.few⟩, hB⟩
/-- a line is none: what is told stands in the results. -/
structure ParX (w : World) (pre : List (Nat × By)) (W : World) (pre0 : List (Nat × By)) (x : Nat × By) (ps : List Pt) (q : Option Int) : Prop where
  e : pre = pre0 ++ [x]
  run : runA [] pre0 = .ok ps
  no : skipB x.2 = false
  bad : one8 unK nvL x.2 = .error q
  bl : Below w.heap.size w W
  r0 : W.heap[w.heap.size]? = some (.cells #[.slice none 0 0] 22)
  r1 : W.heap[w.heap.size + 1]? = some (.cells #[.iface 107 (.agg #[.int .i64 (x.1 : Int), errL q])] 26)
theorem ParX.own {w : World} (B : Nat) (c : Code) : OwnFrom B (fun (pre : List LnT) W => c = .ret ∧ ∃ pre0 x ps q, ParX w (pre.map (·.1)) W pre0 x ps q ∧ w.heap.size ≤ B) := fun pre W W' row h hg hr => by
  obtain ⟨hc, pre0, x, ps, q, h, hB⟩ := h
  have hr' : ∀ r, row = some r → ∃ o : Obj, W.heap[r]? = some o ∧ o.isCells = false := fun r e => (hr r e).2
  exact ⟨hc, pre0, x, ps, q, ⟨h.e, h.run, h.no, h.bad, h.bl.grown hg h.bl.size (fun k e => Nat.le_trans hB (hr k e).1), cells_stay hg hr' h.r0, cells_stay hg hr' h.r1⟩, hB⟩
theorem runA_skip {pre : List (Nat × By)} {x : Nat × By} {ps : List Pt} (h : runA [] pre = .ok ps) (hs : skipB x.2 = true) : runA [] (pre ++ [x]) = .ok ps := by
  rw [runA_app, h]; dsimp only; rw [runA_one, if_pos hs]
theorem runA_good {pre : List (Nat × By)} {x : Nat × By} {ps : List Pt} {p : Pt} (h : runA [] pre = .ok ps) (hs : skipB x.2 = false) (ho : one8 unK nvL x.2 = .ok p) : runA [] (pre ++ [x]) = .ok (ps ++ [p]) := by
  rw [runA_app, h]; dsimp only; rw [runA_one, if_neg (by rw [hs]; simp), ho]
/-- a line passed over. -/
theorem ParI.skip {w : World} {pre : List (Nat × By)} {W W' : World} {ps : List Pt} {v : Value} {L : List PtQ} (h : ParI w pre W ps v L) {x : Nat × By} (hs : skipB x.2 = true) (hb : Below W.heap.size W W') : ParI w (pre ++ [x]) W' ps v L :=
  ⟨runA_skip h.run hs, h.bl.trans (hb.mono h.bl.size), (hb.block _ (Array.getElem?_eq_some_iff.1 h.r0).1).trans h.r0, (hb.block _ (Array.getElem?_eq_some_iff.1 h.r1).1).trans h.r1, (hb.block _ (Array.getElem?_eq_some_iff.1 h.r2).1).trans h.r2, h.op.below hb, h.eq, by rw [List.length_append]; have := h.few; omega⟩
theorem in_l (i : Int) (q : Option Int) (w : World) : Calls Tryz.prog 38 #[.int .i64 i, errL q] w fun e w' => e = .returned (.iface 107 (.agg #[.int .i64 i, errL q])) ∧ Below w.heap.size w w' := by
  cases q with
  | none =>
    show Calls Tryz.prog 38 #[.int .i64 i, .iface 33 (.int .i64 6)] w fun e w' => e = .returned (.iface 107 (.agg #[.int .i64 i, .iface 33 (.int .i64 6)])) ∧ Below w.heap.size w w'
    go_enter Tryz.func38, Tryz.ntmps38
    go_wp2
    go_ret
    exact ⟨rfl, Below.refl _ _⟩
  | some p =>
    show Calls Tryz.prog 38 #[.int .i64 i, .iface 105 (.agg #[.int .i64 p, .iface 33 (.int .i64 60)])] w fun e w' => e = .returned (.iface 107 (.agg #[.int .i64 i, .iface 105 (.agg #[.int .i64 p, .iface 33 (.int .i64 60)])])) ∧ Below w.heap.size w w'
    go_enter Tryz.func38, Tryz.ntmps38
    go_wp2
    go_ret
    exact ⟨rfl, Below.refl _ _⟩
end Go.Proofs.YtbojljmacheccaaGreatDoor.Ln

namespace Go.Proofs.YtbojljmacheccaaGreatDoor.Ln
open Go.RowKit Go.Shelf
attribute [local go_sem] Oper.semAt_some
set_option linter.unusedVariables false
set_option linter.unusedSimpArgs false
set_option maxRecDepth 100000
theorem wpListIn_append_runL {F : Fence} {nF : Nat} {P : Program} {ops : Array Oper} {rest : List Oper} {o : Oper} {a : Act} {Q : Exit → Act → World → Prop} {w : World} (hgd : o.guard = none) (s x : Operand) (t : TypeId)
    (ho : o.op = .call { callee := .builtin .append, args := #[s, x], argTypes := #[t, t] }) (v y v' : Value) (w' : World) (hs : a.eval s = v) (hx : a.eval x = y) (hr : (Builtin.append_ #[t, t] o.type #[v, y]).run P w = .ok v' w')
    (h : wpListIn F nF P ops Q rest (a.put o.dst v') w') : wpListIn F nF P ops Q (o :: rest) a w := by
  refine wpListIn_plain hgd fun K hK => ?_
  unfold Oper.wpIn
  refine ⟨by simp [Oper.about, ho, resolve, Target.leads, Sem.run_pure], ?_⟩
  rw [Oper.semAt_plain F _ _ (by rw [ho]; intro c hc'; cases hc')]
  simp [execOp, ho, resolve, invoke, builtin, hs, hx, hr, Result.andThen]
  exact hK _ _ h
theorem row_at {w : World} {B : Nat} {t : TypeId} {k n : Nat} {v : Value} {cs : List Value} (h : w.ownsRow B t k v n cs) {q : Addr} {m c : Nat} (e : v = .slice (some q) m c) : B ≤ q.block := by
  rcases h.2 with ⟨e1, _⟩ | ⟨g, cap, cur, e1, e2, e3, e4⟩
  · rw [e1] at e; injection e with e; cases e
  · have hb := (World.ownsRow.lt h (k := g) (by rw [e1]; rfl)).1
    rw [e1] at e
    injection e with e5
    injection e5 with e5
    rw [← e5]; exact hb
theorem one_cell {W : World} {k o : Nat} {u x : Value} {ty : TypeId} (h : W.heap[k]? = some (.cells #[u] ty)) (hc : W.cell? ⟨k, o, none⟩ = some x) : x = u := by
  rw [Lib.cell_of_heap h] at hc
  cases o with
  | zero => simpa using hc.symm
  | succ o => simp at hc
theorem tg_far {W : World} {k : Nat} {a : Option Addr} {n c : Nat} {ty : TypeId} (h : W.heap[k]? = some (.cells #[.slice a n c] ty)) {ta : Option Addr} {l : List TagP} (ht : TgIn W ta l) (hl : l ≠ []) {q : Addr} (hq : ta = some q) (e : q.block = k) : False := by
  rcases ht with h0 | ⟨b, off, e2, hb, hc⟩
  · exact hl h0
  · rw [e2] at hq; injection hq with hq; subst hq
    dsimp only at e; subst e
    cases l with
    | nil => exact hl rfl
    | cons x r => have := one_cell h (hc 0 x rfl).1; cases this
theorem fd_far {W : World} {k : Nat} {a : Option Addr} {n c : Nat} {ty : TypeId} (h : W.heap[k]? = some (.cells #[.slice a n c] ty)) {ta : Option Addr} {l : List FdP} (ht : FdIn W ta l) (hl : l ≠ []) {q : Addr} (hq : ta = some q) (e : q.block = k) : False := by
  rcases ht with h0 | ⟨b, off, e2, hb, hc⟩
  · exact hl h0
  · rw [e2] at hq; injection hq with hq; subst hq
    dsimp only at e; subst e
    cases l with
    | nil => exact hl rfl
    | cons x r => have := one_cell h (hc 0 x rfl).1; cases this
theorem tg_farU {W : World} {k : Nat} {u : Value} {ty : TypeId} (h : W.heap[k]? = some (.cells #[u] ty)) (hu : u = .slice none 0 0 ∨ u = .nilIface ∨ ∃ a n c, u = .slice a n c) {ta : Option Addr} {l : List TagP} (ht : TgIn W ta l) (hl : l ≠ []) {q : Addr} (hq : ta = some q) (e : q.block = k) : False := by
  rcases ht with h0 | ⟨b, off, e2, hb, hc⟩
  · exact hl h0
  · rw [e2] at hq; injection hq with hq; subst hq
    dsimp only at e; subst e
    cases l with
    | nil => exact hl rfl
    | cons x r =>
      have := one_cell h (hc 0 x rfl).1
      rcases hu with hu | hu | ⟨a, n, c, hu⟩ <;> (rw [hu] at this; cases this)
theorem fd_farU {W : World} {k : Nat} {u : Value} {ty : TypeId} (h : W.heap[k]? = some (.cells #[u] ty)) (hu : u = .slice none 0 0 ∨ u = .nilIface ∨ ∃ a n c, u = .slice a n c) {ta : Option Addr} {l : List FdP} (ht : FdIn W ta l) (hl : l ≠ []) {q : Addr} (hq : ta = some q) (e : q.block = k) : False := by
  rcases ht with h0 | ⟨b, off, e2, hb, hc⟩
  · exact hl h0
  · rw [e2] at hq; injection hq with hq; subst hq
    dsimp only at e; subst e
    cases l with
    | nil => exact hl rfl
    | cons x r =>
      have := one_cell h (hc 0 x rfl).1
      rcases hu with hu | hu | ⟨a, n, c, hu⟩ <;> (rw [hu] at this; cases this)
theorem OPl.mono {W : World} {B C : Nat} {v : Value} {L : List PtQ} (h : OPl W B v L) (hc : C ≤ B) : OPl W C v L := by
  refine ⟨⟨h.own.1, ?_⟩, h.all⟩
  rcases h.own.2 with h2 | ⟨g, cap, cur, e1, e2, e3⟩
  · exact Or.inl h2
  · exact Or.inr ⟨g, cap, cur, e1, by omega, e3⟩
theorem one_Q (s : ByteArray) (w : World) (hg : LT w) (hs : s.size ≤ 9223372036854775807) : Calls Tryz.prog 15 #[.string s] w fun e w' => ∃ ta tc fa fc, e = .returned (.tuple #[ptV (outP s.data.toList) ta tc fa fc, outE s.data.toList]) ∧ PtIn w' ta fa fc (outP s.data.toList) ∧ Below w.heap.size w w' ∧ (∀ q, ta = some q → w.heap.size ≤ q.block) ∧ (∀ q, fa = some q → w.heap.size ≤ q.block) := by
  refine (one_any s w hg hs).mono ?_
  intro e w' h
  unfold EndO at h
  unfold outP outE
  cases ho : one8 unK nvL s.data.toList with
  | ok p =>
    rw [ho] at h
    obtain ⟨vt, vf, e1, h1, h2, _, hb⟩ := h
    obtain ⟨f1, f2, _⟩ := one8_few ho
    obtain ⟨ta, tc, fa, fc, ev, hp⟩ := ptIn_of h1 h2 f1 f2
    refine ⟨ta, tc, fa, fc, by rw [e1, ev], hp, hb, fun q hq => ?_, fun q hq => ?_⟩
    · injection ev with ev
      have := congrArg (fun x : Array Value => x[1]?) ev
      simp at this
      subst hq
      exact row_at h1 this
    · injection ev with ev
      have := congrArg (fun x : Array Value => x[2]?) ev
      simp at this
      subst hq
      exact row_at h2 this
  | error q =>
    rw [ho] at h
    obtain ⟨e1, hb⟩ := h
    exact ⟨none, 0, none, 0, e1, ptIn_zero w', hb, (fun q hq => by cases hq), (fun q hq => by cases hq)⟩
/-- how Parse ends. -/
def EndP (w : World) (l : By) (e : Ending) (w' : World) : Prop := match parO l with
  | .ok ps => ∃ v L, e = .returned (.tuple #[v, .nilIface]) ∧ OPl w' w.heap.size v L ∧ L.map (·.p) = ps.map ptB ∧ Below w.heap.size w w'
  | .error x => e = .returned (.tuple #[.slice none 0 0, .iface 107 (.agg #[.int .i64 (x.1 : Int), errL x.2])]) ∧ Below w.heap.size w w'
set_option maxHeartbeats 8000000 in
theorem parse_l (s : ByteArray) (w : World) (hg : LT w) (hs : s.size ≤ 549755813888) : Calls Tryz.prog 14 #[.string s] w fun e w' => EndP w s.data.toList e w' := by
  have cO : Hid (∀ (x : By) W, Below w.heap.size w W → x.length ≤ 549755813888 → Calls Tryz.prog 15 #[.string (ba x)] W fun e w' => ∃ ta tc fa fc, e = .returned (.tuple #[ptV (outP x) ta tc fa fc, outE x]) ∧ PtIn w' ta fa fc (outP x) ∧ Below W.heap.size W w' ∧ (∀ q, ta = some q → W.heap.size ≤ q.block) ∧ (∀ q, fa = some q → W.heap.size ≤ q.block)) := fun x W h hx => by
    have := one_Q (ba x) W (hg.on h) (by rw [ba_size]; omega)
    rw [Ln.ba_list] at this
    exact this
  have cH : Hid (∀ (x : By) W, Calls Tryz.prog 45 #[.string (ba x), .string ⟨#[35]⟩] W fun e w' => e = .returned (.bool (decide (x.head? = some 35))) ∧ w' = W) := fun x W => by
    have := Tryz.strings_HasPrefix (ba x) ⟨#[35]⟩ W
    have e := pre_one x 0 35
    rw [List.drop_zero] at e
    rw [show (⟨#[35]⟩ : ByteArray).data.toList = [35] from rfl, Ln.ba_list, e, show x[0]? = x.head? by cases x <;> rfl] at this
    exact this
  have hlen := lenB s
  obtain ⟨PST, hPST⟩ : ∃ PST : Ending → World → Prop, (fun e w' => EndP w s.data.toList e w') = PST := ⟨_, rfl⟩
  have PE : Hid (∀ x w1, parO s.data.toList = .error x → Below w.heap.size w w1 → PST (.returned (.tuple #[.slice none 0 0, .iface 107 (.agg #[.int .i64 (x.1 : Int), errL x.2])])) w1) := fun x w1 e b => by rw [← hPST]; show EndP w _ _ _; unfold EndP; rw [e]; exact ⟨rfl, b⟩
  have PO : Hid (∀ ps v L w1, parO s.data.toList = .ok ps → OPl w1 w.heap.size v L → L.map (·.p) = ps.map ptB → Below w.heap.size w w1 → PST (.returned (.tuple #[v, .nilIface])) w1) := fun ps v L w1 e h1 h2 b => by rw [← hPST]; show EndP w _ _ _; unfold EndP; rw [e]; exact ⟨v, L, rfl, h1, h2, b⟩
  rw [hPST]
  clear hPST hg
  refine (callsIn_wide (n := 9)).1 ?_
  refine callsIn_of_wp_marks Tryz.func14 rfl trivial ?_ rfl
  simp only [Tryz.ntmps14, List.size_toArray, List.length_cons, List.length_nil, Nat.reduceAdd, Nat.reduceSub, Array.replicate_succ, Array.replicate_zero, List.push_toArray, List.append_toArray, List.nil_append, List.cons_append]
  gi_wp2
  refine ⟨trivial, ?_⟩
  refine (callsIn_wide.2 (lines_any s _)).mono ?_
  rintro e w1 ⟨rfl, hw1⟩
  have hsz : w1.heap.size = w.heap.size + 4 := by rw [hw1]; simp
  have B1 : Below w.heap.size w w1 := by rw [hw1]; exact ((((Below.refl _ w).alloc (Nat.le_refl _) _).alloc (by simp) _).alloc (by simp only [World.size_alloc]; omega) _).alloc (by simp only [World.size_alloc]; omega) _
  have m0 : w1.heap[w.heap.size]? = some (.cells #[.slice none 0 0] 22) := by
    rw [hw1, Below.heap_alloc _ _ _ (by simp only [World.size_alloc]; omega), Below.heap_alloc _ _ _ (by simp only [World.size_alloc]; omega), Below.heap_alloc _ _ _ (by simp only [World.size_alloc]; omega)]; exact World.alloc_heap_new w _
  have m1 : w1.heap[w.heap.size + 1]? = some (.cells #[.nilIface] 26) := by
    rw [hw1, Below.heap_alloc _ _ _ (by simp only [World.size_alloc]; omega), Below.heap_alloc _ _ _ (by simp only [World.size_alloc]; omega)]
    have := World.alloc_heap_new (w.alloc (.cells #[.slice none 0 0] 22)) (.cells #[.nilIface] 26)
    rwa [World.size_alloc] at this
  have m2 : w1.heap[w.heap.size + 2]? = some (.cells #[.slice none 0 0] 22) := by
    rw [hw1, Below.heap_alloc _ _ _ (by simp only [World.size_alloc]; omega)]
    have := World.alloc_heap_new ((w.alloc (.cells #[.slice none 0 0] 22)).alloc (.cells #[.nilIface] 26)) (.cells #[.slice none 0 0] 22)
    rwa [World.size_alloc, World.size_alloc] at this
  have m3 : w1.heap[w.heap.size + 3]? = some (.cells #[.string s] 9) := by
    rw [hw1]
    have := World.alloc_heap_new (((w.alloc (.cells #[.slice none 0 0] 22)).alloc (.cells #[.nilIface] 26)).alloc (.cells #[.slice none 0 0] 22)) (.cells #[.string s] 9)
    rwa [World.size_alloc, World.size_alloc, World.size_alloc] at this
  have hc1 : w1.cell? ⟨w.heap.size + 3, 0, none⟩ = some (.string s) := by rw [Lib.cell_of_heap m3]; rfl
  have hI0 : ParI w [] w1 [] (.slice none 0 0) [] := ⟨rfl, B1, m0, m1, m2, OPl.nil _ _, rfl, Nat.le_refl _⟩
  clear hw1 m0 m1 m2 m3 B1
  simp only [World.size_alloc]
  gi_wp2
  refine wpIn_rangeFunc_ownF rfl (by omega) (gf := 110) (lb := #[.pointer (some ⟨w.heap.size + 1 + 1 + 1, 0, none⟩)]) rfl trivial (enters_of Tryz.func110 (by kernel_rfl) rfl)
    (lines_stops 8 (by omega) (w.heap.size + 3) s w1 hs (by omega) hc1) (fun _ _ => trivial) (fun _ _ _ _ _ _ _ _ => trivial) (Below.refl _ _) (fun _ => rfl)
    (fun (pre : List LnT) W => ∃ ps v L, ParI w (pre.map (·.1)) W ps v L ∧ w.heap.size ≤ w1.heap.size)
    (fun c (pre : List LnT) W => c = .ret ∧ ∃ pre0 x ps q, ParX w (pre.map (·.1)) W pre0 x ps q ∧ w.heap.size ≤ w1.heap.size)
    (ParI.own _) (fun c => ParX.own _ c)
    ⟨[], _, [], hI0, by omega⟩
    (fun (x : LnT) => { tmps := #[.string s, undef, .pointer (some ⟨w.heap.size, 0, none⟩), .pointer (some ⟨w.heap.size + 1, 0, none⟩), .pointer (some ⟨w.heap.size + 1 + 1, 0, none⟩), .int .i64 (x.1.1 : Int), .string (ba x.1.2), undef, undef, .string s, .func (.func 110) #[] #[.pointer (some ⟨w.heap.size + 1 + 1 + 1, 0, none⟩)], .int .i64 (x.1.1 : Int), .string (ba x.1.2), undef, undef, undef, undef, undef, undef, undef, undef, undef, undef, undef, undef, undef, undef, undef, undef, undef, undef, undef, undef, undef], defers := [] }) ?assign ?body ?done ?stop
  case assign =>
    intro l x W K hK
    gi_wp2
    exact hK
  case body =>
    rintro l pre ⟨⟨n, x⟩, hxl⟩ W ⟨ps, v, L, h, hwz⟩ hpl
    have hwzH : Hid (w.heap.size ≤ w1.heap.size) := hwz
    dsimp only at hxl ⊢
    have hH : Hid (ParI w (pre.map (·.1)) W ps v L) := h
    have cHx : Hid (∀ W, Calls Tryz.prog 45 #[.string (ba x), .string ⟨#[35]⟩] W fun e w' => e = .returned (.bool (decide (x.head? = some 35))) ∧ w' = W) := cH.out x
    have hplH : Hid (pre.length < s.size) := hpl
    clear h hpl hwz
    by_cases hx : x = []
    · subst hx
      have hsk : skipB ((n, []) : Nat × By).2 = true := rfl
      have e0 : ba ([] : By) = ⟨#[]⟩ := rfl
      rw [e0]
      have hN := hH.out.skip (x := (n, [])) hsk (Below.refl _ W)
      have hNH : Hid (ParI w ((pre ++ [(⟨(n, []), hxl⟩ : LnT)]).map (·.1)) W ps v L) := by show ParI _ _ _ _ _ _; rw [List.map_append]; exact hN
      clear hN cHx
      gi_wp2
      refine ⟨trivial, ?_⟩
      gi_wp2
      exact ⟨keeps_below (Below.refl _ _), trivial, ps, v, L, hNH.out, hwzH.out⟩
    · have hxe : (ba x).toList.isEmpty = false := by
        rw [Lib.toList_data, Ln.ba_list]
        cases x with
        | nil => exact absurd rfl hx
        | cons a r => rfl
      obtain ⟨T, hT⟩ : ∃ T, ba x = T := ⟨_, rfl⟩
      have cOx : Hid (Calls Tryz.prog 15 #[.string (ba x)] W fun e w' => ∃ ta tc fa fc, e = .returned (.tuple #[ptV (outP x) ta tc fa fc, outE x]) ∧ PtIn w' ta fa fc (outP x) ∧ Below W.heap.size W w' ∧ (∀ q, ta = some q → W.heap.size ≤ q.block) ∧ (∀ q, fa = some q → W.heap.size ≤ q.block)) := cO.out x W hH.out.bl hxl
      rw [hT] at cHx hxe cOx ⊢
      obtain ⟨hd, hhd⟩ : ∃ hd, decide (x.head? = some 35) = hd := ⟨_, rfl⟩
      rw [hhd] at cHx
      clear hT
      cases hd with
      | true =>
        have hsk : skipB ((n, x) : Nat × By).2 = true := by unfold skipB; rw [hhd]; simp
        have hN := hH.out.skip (x := (n, x)) hsk (Below.refl _ W)
        have hNH : Hid (ParI w ((pre ++ [(⟨(n, x), hxl⟩ : LnT)]).map (·.1)) W ps v L) := by show ParI _ _ _ _ _ _; rw [List.map_append]; exact hN
        clear hN cOx hhd hx
        gi_wp2
        refine ⟨trivial, ?_⟩
        refine (CallsIn.inRound l (callsIn_wide.2 (cHx.out _))).mono ?_
        rintro e W1 ⟨rfl, hw⟩
        subst hw
        gi_wp2
        exact ⟨keeps_below (Below.refl _ _), trivial, ps, v, L, hNH.out, hwzH.out⟩
      | false =>
        have hsk : skipB ((n, x) : Nat × By).2 = false := by unfold skipB; rw [hhd]; simpa using hx
        clear hhd hx
        gi_wp2
        refine ⟨trivial, ?_⟩
        refine (CallsIn.inRound l (callsIn_wide.2 (cHx.out _))).mono ?_
        rintro e W1 ⟨rfl, hw⟩
        subst hw
        gi_wp2
        refine ⟨trivial, ?_⟩
        refine (CallsIn.inRound l (callsIn_wide.2 cOx.out)).mono ?_
        rintro e W2 ⟨ta, tc, fa, fc, rfl, hp2, B2, n1, n2⟩
        cases ho : one8 unK nvL x with
        | error q =>
          have eE : outE x = errL q := by unfold outE; rw [ho]
          rw [eE]
          obtain ⟨te, pe, hE⟩ : ∃ te pe, errL q = .iface te pe := by cases q with
            | none => exact ⟨_, _, rfl⟩
            | some p => exact ⟨_, _, rfl⟩
          have hbe : ∀ W, (binOp .eql 26 (.iface te pe) .nilIface).run Tryz.prog W = .ok (.bool false) W := fun W => by cases q <;> (simp only [errL, atL] at hE; injection hE with h1 h2; subst h1; subst h2; kernel_rfl)
          have cIn : Hid (∀ W, Calls Tryz.prog 38 #[.int .i64 (n : Int), .iface te pe] W fun e w' => e = .returned (.iface 107 (.agg #[.int .i64 (n : Int), .iface te pe])) ∧ Below W.heap.size W w') := fun W => by have := in_l (n : Int) q W; rw [hE] at this; exact this
          have hEH : Hid (errL q = .iface te pe) := hE
          rw [hE]
          unfold ptV
          have hb2H : Hid (Below W1.heap.size W1 W2) := B2
          generalize (outP x).t.length = nt at *
          generalize (outP x).f.length = nf at *
          generalize (outP x).m = pm at *
          generalize (outP x).tm = pt at *
          clear hE eE cOx cHx B2 hp2
          gi_wp2
          refine ⟨trivial, ?_⟩
          refine (CallsIn.inRound l (callsIn_wide.2 (cIn.out _))).mono ?_
          rintro e W3 ⟨rfl, B3⟩
          have b3 : Below W1.heap.size W1 W3 := (hb2H.out.alloc hb2H.out.size _).trans (B3.mono (by have := hb2H.out.size; simp; omega))
          have k0 := (b3.block _ (Array.getElem?_eq_some_iff.1 hH.out.r0).1).trans hH.out.r0
          have k1 := (b3.block _ (Array.getElem?_eq_some_iff.1 hH.out.r1).1).trans hH.out.r1
          have c0 : W3.cell? ⟨w.heap.size, 0, none⟩ = some (.slice none 0 0) := by rw [Lib.cell_of_heap k0]; rfl
          have c1 : W3.cell? ⟨w.heap.size + 1, 0, none⟩ = some .nilIface := by rw [Lib.cell_of_heap k1]; rfl
          have f0 : W3.frozen? ⟨w.heap.size, 0, none⟩ = false := by simp [World.frozen?, k0]
          have f1 : W3.frozen? ⟨w.heap.size + 1, 0, none⟩ = false := by simp [World.frozen?, k1]
          have k0b : ((W3.setCell ⟨w.heap.size, 0, none⟩ (.slice none 0 0))).heap[w.heap.size + 1]? = some (.cells #[.nilIface] 26) := by rw [Below.heap_setCell _ _ _ _ (by show w.heap.size + 1 ≠ w.heap.size; omega)]; exact k1
          have FX : Hid (KeepsOthers W1 ((W3.setCell ⟨w.heap.size, 0, none⟩ (.slice none 0 0)).setCell ⟨w.heap.size + 1, 0, none⟩ (.iface 107 (.agg #[.int .i64 (n : Int), .iface te pe]))) ∧ ParX w ((pre ++ [(⟨(n, x), hxl⟩ : LnT)]).map (·.1)) ((W3.setCell ⟨w.heap.size, 0, none⟩ (.slice none 0 0)).setCell ⟨w.heap.size + 1, 0, none⟩ (.iface 107 (.agg #[.int .i64 (n : Int), .iface te pe]))) (pre.map (·.1)) (n, x) ps q) :=
            ⟨(keeps_below b3).trans ((keeps_set k0).trans (keeps_set k0b)), ⟨by rw [List.map_append]; rfl, hH.out.run, hsk, ho, ((hH.out.bl.trans (b3.mono hH.out.bl.size)).setCell (p := ⟨w.heap.size, 0, none⟩) (Nat.le_refl _) _).setCell (p := ⟨w.heap.size + 1, 0, none⟩) (Nat.le_succ _) _, by rw [Below.heap_setCell _ _ _ _ (by show w.heap.size ≠ w.heap.size + 1; omega)]; exact set_one k0, by rw [hEH.out]; exact set_one k0b⟩⟩
          clear k0 k1 k0b b3 B3 hH
          gi_wp2
          exact ⟨FX.out.1, rfl, _, _, _, _, FX.out.2, hwzH.out⟩
        | ok p =>
          have eE : outE x = .nilIface := by unfold outE; rw [ho]
          have eP : outP x = ptB p := by unfold outP; rw [ho]
          rw [eE]
          rw [eP] at hp2 ⊢
          have hb2H : Hid (Below W1.heap.size W1 W2) := B2
          have op2 := hH.out.op.below B2
          obtain ⟨va, vc, ev⟩ := op2.slice
          have k2 := (B2.block _ (Array.getElem?_eq_some_iff.1 hH.out.r2).1).trans hH.out.r2
          have c2 : W2.cell? ⟨w.heap.size + 1 + 1, 0, none⟩ = some v := by rw [Lib.cell_of_heap k2]; rfl
          have f2 : W2.frozen? ⟨w.heap.size + 1 + 1, 0, none⟩ = false := by simp [World.frozen?, k2]
          unfold ptV
          subst ev
          have hlt2 : w.heap.size + 1 + 1 < W2.heap.size := (Array.getElem?_eq_some_iff.1 k2).1
          have hL : L.length ≤ 549755813888 := by
            have := hH.out.few
            rw [List.length_map] at this
            have := hplH.out
            omega
          obtain ⟨W3, hW3⟩ : ∃ W3, W2.alloc (.cells #[.string (ptB p).m, .slice ta (ptB p).t.length tc, .slice fa (ptB p).f.length fc, .int .i64 (ptB p).tm] 32) = W3 := ⟨_, rfl⟩
          have b3 : Below W2.heap.size W2 W3 := by rw [← hW3]; exact (Below.refl _ W2).alloc (Nat.le_refl _) _
          have b13 : Below W1.heap.size W1 W3 := B2.trans (b3.mono B2.size)
          have hsz3 : W3.heap.size = W2.heap.size + 1 := by rw [← hW3]; simp
          have op3 := op2.below b3
          have hown : ∀ g, (Value.slice va L.length vc).ownBlock = some g → g < W1.heap.size := fun g hg' => (World.ownsRow.lt hH.out.op.own (k := g) hg').2
          have hni : notIn (.slice va L.length vc) ⟨ptB p, ta, tc, fa, fc⟩ := fun g hg' => ⟨fun _ q hq => by have := n1 q hq; have := hown g hg'; omega, fun _ q hq => by have := n2 q hq; have := hown g hg'; omega⟩
          obtain ⟨a4, c4, W4, hr, op4, gr4, hw4⟩ := OPl.app W3 (w.heap.size + 3) (.slice va L.length vc) L op3 (by omega) ⟨ptB p, ta, tc, fa, fc⟩ (hp2.below b3) hni (by omega)
          have hrH : Hid (∀ W' N, W' = W3.alloc (.cells #[.string (ptB p).m, .slice ta (ptB p).t.length tc, .slice fa (ptB p).f.length fc, .int .i64 (ptB p).tm] 32) → N = W3.heap.size → (Builtin.append_ #[22, 22] 22 #[.slice va L.length vc, .slice (some ⟨N, 0, none⟩) 1 1]).run Tryz.prog W' = .ok (.slice a4 (L.length + 1) c4) W4) := hr
          have hW3H : Hid (W2.alloc (.cells #[.string (ptB p).m, .slice ta (ptB p).t.length tc, .slice fa (ptB p).f.length fc, .int .i64 (ptB p).tm] 32) = W3 ∧ W3.heap.size = W2.heap.size + 1) := ⟨hW3, hsz3⟩
          have hgr : ∀ j, j ≤ w.heap.size + 2 → (Value.slice va L.length vc).ownBlock ≠ some j := fun j hj e => by have := (World.ownsRow.lt op3.own (k := j) e).1; omega
          have k2' := (b13.block _ (Array.getElem?_eq_some_iff.1 hH.out.r2).1).trans hH.out.r2
          have k42 : W4.heap[w.heap.size + 2]? = some (.cells #[.slice va L.length vc] 22) := (gr4.block _ (Array.getElem?_eq_some_iff.1 k2').1 (fun e => hgr _ (Nat.le_refl _) e.symm)).trans k2'
          have k0' := (b13.block _ (Array.getElem?_eq_some_iff.1 hH.out.r0).1).trans hH.out.r0
          have k40 := (gr4.block _ (Array.getElem?_eq_some_iff.1 k0').1 (fun e => hgr _ (by omega) e.symm)).trans k0'
          have k1' := (b13.block _ (Array.getElem?_eq_some_iff.1 hH.out.r1).1).trans hH.out.r1
          have k41 := (gr4.block _ (Array.getElem?_eq_some_iff.1 k1').1 (fun e => hgr _ (by omega) e.symm)).trans k1'
          have c4c : W4.cell? ⟨w.heap.size + 1 + 1, 0, none⟩ = some (.slice va L.length vc) := by rw [Lib.cell_of_heap k42]; rfl
          have f4c : W4.frozen? ⟨w.heap.size + 1 + 1, 0, none⟩ = false := by simp [World.frozen?, k42]
          have b4 : Below w.heap.size w W4 := (hH.out.bl.trans (b13.mono hH.out.bl.size)).grown gr4 (by have := hH.out.bl.size; have := b13.size; omega) (fun k e => by have := (World.ownsRow.lt op3.own (k := k) e).1; omega)
          have FX : Hid (KeepsOthers W1 (W4.setCell ⟨w.heap.size + 1 + 1, 0, none⟩ (.slice a4 (L.length + 1) c4)) ∧ ParI w ((pre ++ [(⟨(n, x), hxl⟩ : LnT)]).map (·.1)) (W4.setCell ⟨w.heap.size + 1 + 1, 0, none⟩ (.slice a4 (L.length + 1) c4)) (ps ++ [p]) (.slice a4 (L.length + 1) c4) (L ++ [⟨ptB p, ta, tc, fa, fc⟩])) := by
            refine ⟨((keeps_below b13).trans (op3.keeps gr4)).trans (keeps_set k42), by rw [List.map_append]; exact runA_good (x := (n, x)) hH.out.run hsk ho, b4.setCell (p := ⟨w.heap.size + 1 + 1, 0, none⟩) (by show w.heap.size ≤ w.heap.size + 1 + 1; omega) _, ?_, ?_, set_one k42, ?_, ?_, ?_⟩
            · rw [Below.heap_setCell _ _ _ _ (by show w.heap.size ≠ w.heap.size + 1 + 1; omega)]; exact k40
            · rw [Below.heap_setCell _ _ _ _ (by show w.heap.size + 1 ≠ w.heap.size + 1 + 1; omega)]; exact k41
            · refine op4.keep (grown_set W4 (w.heap.size + 1 + 1) 0 _) (fun g hg' q => ?_) (fun t ht => ?_)
              · injection q with q
                have := (World.ownsRow.lt op4.own (k := g) hg').1
                omega
              · have hin := (op4.all t ht).1
                exact ⟨fun hl q hq e => tg_far k42 hin.1 hl hq (by injection e with e; exact e.symm), fun hl q hq e => fd_far k42 hin.2.2.1 hl hq (by injection e with e; exact e.symm)⟩
            · rw [List.map_append, hH.out.eq, List.map_append]; rfl
            · rw [List.length_append, List.length_map, List.length_append]; have := hH.out.few; rw [List.length_map] at this; simp; omega
          clear op2 k2 hL hW3 b3 b13 hsz3 op3 hown hni hr op4 gr4 hw4 hgr k2' k42 k0' k40 k1' k41 b4 hH cOx cHx n1 n2 B2 hp2 eE eP
          generalize (ptB p).t.length = nt at *
          generalize (ptB p).f.length = nf at *
          generalize (ptB p).m = pm at *
          generalize (ptB p).tm = pt at *
          gi_wp2_with (gi_at_builtin; refine wpListIn_append_runL (by rfl) _ _ _ (by rfl) _ _ _ _ (by rfl) (by rfl) (hrH.out _ _ (by rw [← hW3H.out.1]) (by rw [hW3H.out.2])) ?_; (try simp only [Act.put, List.setIfInBounds_toArray, List.set_cons_zero, List.set_cons_succ]))
          exact ⟨FX.out.1, trivial, _, _, _, FX.out.2, hwzH.out⟩
  case done =>
    rintro D xs W hD hS ⟨ps, v, L, h, hwz⟩ hK
    have hpar : parO s.data.toList = .ok ps := by unfold parO; rw [← hS]; exact h.run
    have c2 : W.cell? ⟨w.heap.size + 1 + 1, 0, none⟩ = some v := by rw [Lib.cell_of_heap h.r2]; rfl
    have c0 : W.cell? ⟨w.heap.size, 0, none⟩ = some (.slice none 0 0) := by rw [Lib.cell_of_heap h.r0]; rfl
    have c1 : W.cell? ⟨w.heap.size + 1, 0, none⟩ = some .nilIface := by rw [Lib.cell_of_heap h.r1]; rfl
    have f0 : W.frozen? ⟨w.heap.size, 0, none⟩ = false := by simp [World.frozen?, h.r0]
    have f1 : W.frozen? ⟨w.heap.size + 1, 0, none⟩ = false := by simp [World.frozen?, h.r1]
    obtain ⟨va, vc, ev⟩ := h.op.slice
    have hH : Hid (ParI w (xs.map (·.1)) W ps v L) := h
    subst ev
    clear h
    have hD0 : ∀ j, j ≤ w.heap.size + 1 → D ≠ j := fun j hj e => by omega
    gi_wp2
    have hK2 : (((W.setCell ⟨w.heap.size, 0, none⟩ (.slice va L.length vc)).setCell ⟨w.heap.size + 1, 0, none⟩ .nilIface)).heap[D]? = some (.deferred (some [])) := by
      rw [Below.heap_setCell _ _ _ _ (hD0 _ (Nat.le_refl _)), Below.heap_setCell _ _ _ _ (hD0 _ (Nat.le_succ _))]; exact hK
    refine ⟨by simp, .inl ⟨_, _, rfl, run_takeDeferred hK2, ?_⟩⟩
    have k0 : (((W.setCell ⟨w.heap.size, 0, none⟩ (.slice va L.length vc)).setCell ⟨w.heap.size + 1, 0, none⟩ .nilIface).putObj D (.deferred none)).heap[w.heap.size]? = some (.cells #[.slice va L.length vc] 22) := by
      rw [World.putObj_heap_other (by have := hD0 w.heap.size (Nat.le_succ _); omega), Below.heap_setCell _ _ _ _ (by show w.heap.size ≠ w.heap.size + 1; omega)]; exact set_one hH.out.r0
    have k1 : (((W.setCell ⟨w.heap.size, 0, none⟩ (.slice va L.length vc)).setCell ⟨w.heap.size + 1, 0, none⟩ .nilIface).putObj D (.deferred none)).heap[w.heap.size + 1]? = some (.cells #[.nilIface] 26) := by
      rw [World.putObj_heap_other (by have := hD0 (w.heap.size + 1) (Nat.le_refl _); omega)]
      exact set_one (u := .nilIface) (by rw [Below.heap_setCell _ _ _ _ (by show w.heap.size + 1 ≠ w.heap.size; omega)]; exact hH.out.r1)
    have hr0 : ∀ r, (some D : Option Nat) = some r → ∃ o : Obj, ((W.setCell ⟨w.heap.size, 0, none⟩ (.slice va L.length vc)).setCell ⟨w.heap.size + 1, 0, none⟩ .nilIface).heap[r]? = some o ∧ o.isCells = false := fun r e => by injection e with e; subst e; exact ⟨_, hK2, rfl⟩
    have gD := grownBy_putObj' ((W.setCell ⟨w.heap.size, 0, none⟩ (.slice va L.length vc)).setCell ⟨w.heap.size + 1, 0, none⟩ .nilIface) D (.deferred none)
    have opA : OPl W (w.heap.size + 3) (.slice va L.length vc) L := hH.out.op
    have far : ∀ (X : World) (j : Nat) (u : Value) (ty : TypeId), j ≤ w.heap.size + 1 → (u = .slice none 0 0 ∨ u = .nilIface ∨ ∃ a n c, u = .slice a n c) → X.heap[j]? = some (.cells #[u] ty) → OPl X (w.heap.size + 3) (.slice va L.length vc) L → ∀ z, OPl (X.setCell ⟨j, 0, none⟩ z) (w.heap.size + 3) (.slice va L.length vc) L := fun X j u ty hj hu hX h z => by
      refine h.keep (grown_set X j 0 z) (fun g hg' q => ?_) (fun t ht => ?_)
      · injection q with q
        have := (World.ownsRow.lt h.own (k := g) hg').1
        omega
      · have hin := (h.all t ht).1
        exact ⟨fun hl q hq e => tg_farU hX hu hin.1 hl hq (by injection e with e; exact e.symm), fun hl q hq e => fd_farU hX hu hin.2.2.1 hl hq (by injection e with e; exact e.symm)⟩
    have op1 := far W w.heap.size _ _ (Nat.le_succ _) (Or.inl rfl) hH.out.r0 opA (.slice va L.length vc)
    have op2 := far _ (w.heap.size + 1) .nilIface _ (Nat.le_refl _) (Or.inr (Or.inl rfl)) (by rw [Below.heap_setCell _ _ _ _ (by show w.heap.size + 1 ≠ w.heap.size; omega)]; exact hH.out.r1) op1 .nilIface
    have op3 : OPl _ (w.heap.size + 3) (.slice va L.length vc) L := OPl.stay gD hr0 op2
    have bE := (((hH.out.bl.setCell (p := ⟨w.heap.size, 0, none⟩) (Nat.le_refl _) (.slice va L.length vc)).setCell (p := ⟨w.heap.size + 1, 0, none⟩) (Nat.le_succ _) .nilIface)).trans (belowK_b (w := w) (Nat.le_refl _) _ D _ (.deferred none) (by omega) hK2 rfl rfl)
    have q0 := Lib.cell_of_heap k0 (j := 0)
    have q1 := Lib.cell_of_heap k1 (j := 0)
    refine ⟨.tuple #[.slice va L.length vc, .nilIface], ?_, PO.out ps _ L _ hpar (op3.mono (by omega)) hH.out.eq bE⟩
    generalize (((W.setCell ⟨w.heap.size, 0, none⟩ (.slice va L.length vc)).setCell ⟨w.heap.size + 1, 0, none⟩ .nilIface).putObj D (.deferred none)) = WE at *
    have q0' : WE.cell? ⟨w.heap.size, 0, none⟩ = some (.slice va L.length vc) := q0
    have q1' : WE.cell? ⟨w.heap.size + 1, 0, none⟩ = some .nilIface := q1
    simp [results, Tryz.results14, go_sem, q0', q1']
  case stop =>
    rintro D c pre W hD hpre ⟨rfl, pre0, x, ps, q, h, hwz⟩ hK
    have c0 : W.cell? ⟨w.heap.size, 0, none⟩ = some (.slice none 0 0) := by rw [Lib.cell_of_heap h.r0]; rfl
    have c1 : W.cell? ⟨w.heap.size + 1, 0, none⟩ = some (.iface 107 (.agg #[.int .i64 (x.1 : Int), errL q])) := by rw [Lib.cell_of_heap h.r1]; rfl
    have hpar : parO s.data.toList = .error (x.1, q) := parO_bad (by rw [← h.e]; exact hpre) h.run h.no h.bad
    gi_wp2
    refine ⟨by simp, .inl ⟨_, _, rfl, run_takeDeferred hK, ?_⟩⟩
    have k0 : (W.putObj D (.deferred none)).heap[w.heap.size]? = some (.cells #[.slice none 0 0] 22) := by
      rw [World.putObj_heap_other (by omega)]; exact h.r0
    have k1 : (W.putObj D (.deferred none)).heap[w.heap.size + 1]? = some (.cells #[.iface 107 (.agg #[.int .i64 (x.1 : Int), errL q])] 26) := by
      rw [World.putObj_heap_other (by omega)]; exact h.r1
    have bE := h.bl.trans (belowK_b (w := w) (Nat.le_refl _) W D _ (.deferred none) (by omega) hK rfl rfl)
    have q0 := Lib.cell_of_heap k0 (j := 0)
    have q1 := Lib.cell_of_heap k1 (j := 0)
    refine ⟨.tuple #[.slice none 0 0, .iface 107 (.agg #[.int .i64 (x.1 : Int), errL q])], ?_, PE.out (x.1, q) _ hpar bE⟩
    generalize (W.putObj D (.deferred none)) = WE at *
    have q0' : WE.cell? ⟨w.heap.size, 0, none⟩ = some (.slice none 0 0) := q0
    have q1' : WE.cell? ⟨w.heap.size + 1, 0, none⟩ = some (.iface 107 (.agg #[.int .i64 (x.1 : Int), errL q])) := q1
    simp [results, Tryz.results14, go_sem, q0', q1']
end Go.Proofs.YtbojljmacheccaaGreatDoor.Ln

namespace Go.Proofs.YtbojljmacheccaaGreatDoor.Ln
open Go.RowKit Go.Shelf
attribute [local go_sem] Oper.semAt_some
set_option linter.unusedVariables false
set_option linter.unusedSimpArgs false
set_option maxRecDepth 100000
/-! ### the document's Parse. -/
def inB (n : Int) : Option Int → Value
  | none => .agg #[.int .i64 6, .int .i64 0, .int .i64 n, .bool false, .bool true]
  | some p => .agg #[.int .i64 60, .int .i64 p, .int .i64 n, .bool true, .bool true]
def EndG (w : World) (l : By) (e : Ending) (w' : World) : Prop := match parO l with
  | .ok ps => ∃ v L, e = .returned (.tuple #[v, .agg #[.int .i64 0, .int .i64 0, .int .i64 0, .bool false, .bool false]]) ∧ OPl w' w.heap.size v L ∧ L.map (·.p) = ps.map ptB ∧ Below w.heap.size w w'
  | .error x => e = .returned (.tuple #[.slice none 0 0, inB (x.1 : Int) x.2]) ∧ Below w.heap.size w w'
theorem refin_l (i c : Int) (h : (c == 0) = false) (A I : Int) (P Q : Bool) (w : World) : Calls Tryz.prog 41 #[.int .i64 i, .agg #[.int .i64 c, .int .i64 A, .int .i64 I, .bool P, .bool Q]] w fun e w' => e = .returned (.agg #[.int .i64 c, .int .i64 A, .int .i64 i, .bool P, .bool true]) ∧ Below w.heap.size w w' := by
  go_enter Tryz.func41, Tryz.ntmps41
  go_wp2
  simp [bodyPost, results, Tryz.results41, go_sem]
  try exact (((Below.refl _ w).alloc (Nat.le_refl _) _).alloc (by simp) _)
/-- what the loop keeps: the lines ahead are gone through, the last one is open. -/
structure ParD (s : ByteArray) (n fr i : Nat) (pre : List (Nat × By)) (ps : List Pt) (g : Nat) : Prop where
  run : runA [] pre = .ok ps
  cut : linesB s.data.toList.length 0 s.data.toList = pre ++ linesB g n (s.data.toList.drop fr)
  fuel : (s.data.toList.drop fr).length ≤ g
  fi : fr ≤ i
  il : i ≤ s.size
  open_ : feedAt ((s.data.toList.drop fr).take (i - fr)) = none
theorem drop_get (l : By) (fr i : Nat) (h : fr ≤ i) : (l.drop fr)[i - fr]? = l[i]? := by rw [List.getElem?_drop]; congr 1; omega
/-- a byte that is no feed. -/
theorem ParD.next {s : ByteArray} {n fr i : Nat} {pre : List (Nat × By)} {ps : List Pt} {g : Nat} (h : ParD s n fr i pre ps g) {c : UInt8} (hi : i < s.size) (hc : s.data.toList[i]? = some c) (h10 : c ≠ 10) : ParD s n fr (i + 1) pre ps g :=
  ⟨h.run, h.cut, h.fuel, Nat.le_succ_of_le h.fi, hi, by
    have := feed_next (s.data.toList.drop fr) (i - fr) c h.open_ (by rw [drop_get _ _ _ h.fi]; exact hc) h10
    rw [show i - fr + 1 = i + 1 - fr by have := h.fi; omega] at this
    exact this⟩
/-- the line that ends at i. -/
def lnA (s : ByteArray) (fr i : Nat) : By := (s.data.toList.drop fr).take (i - fr)
theorem lnA_ext (s : ByteArray) (fr i : Nat) : (s.extract fr i).data.toList = lnA s fr i := ext_list s fr i
/-- at a feed. -/
theorem ParD.feed {s : ByteArray} {n fr i : Nat} {pre : List (Nat × By)} {ps : List Pt} {g : Nat} (h : ParD s n fr i pre ps g) (hi : i < s.size) (hc : s.data.toList[i]? = some 10) : (pre ++ [(n, lnA s fr i)]) <+: linesB s.data.toList.length 0 s.data.toList ∧ ∀ ps2, runA [] (pre ++ [(n, lnA s fr i)]) = .ok ps2 → ParD s (n + 1) (i + 1) (i + 1) (pre ++ [(n, lnA s fr i)]) ps2 (g - 1) := by
  have hf := feed_hit (s.data.toList.drop fr) (i - fr) h.open_ (by rw [drop_get _ _ _ h.fi]; exact hc)
  obtain ⟨q1, q2⟩ := cut_hit _ _ hf
  have hne : s.data.toList.drop fr ≠ [] := by intro e; rw [e] at q2; simp at q2
  obtain ⟨s1, s2⟩ := lines_step (n := n) hne h.fuel
  rw [q1] at s1 s2
  have hd : (s.data.toList.drop fr).drop (i - fr + 1) = s.data.toList.drop (i + 1) := by rw [List.drop_drop]; congr 1; have := h.fi; omega
  dsimp only at s1 s2
  rw [hd] at s1 s2
  have hcut := h.cut
  rw [s1] at hcut
  have hcut2 : linesB s.data.toList.length 0 s.data.toList = (pre ++ [(n, lnA s fr i)]) ++ linesB (g - 1) (n + 1) (s.data.toList.drop (i + 1)) := by rw [hcut]; simp [lnA]
  exact ⟨⟨_, hcut2.symm⟩, fun ps2 hr => ⟨hr, hcut2, s2, Nat.le_refl _, hi, by rw [Nat.sub_self]; rfl⟩⟩
/-- at the text's end. -/
theorem ParD.last {s : ByteArray} {n fr : Nat} {pre : List (Nat × By)} {ps : List Pt} {g : Nat} (h : ParD s n fr s.size pre ps g) : (lnA s fr s.size = [] ∧ parO s.data.toList = .ok ps) ∨ (lnA s fr s.size ≠ [] ∧ pre ++ [(n, lnA s fr s.size)] = linesB s.data.toList.length 0 s.data.toList) := by
  have hlen := lenB s
  have hl : lnA s fr s.size = s.data.toList.drop fr := by unfold lnA; rw [List.take_of_length_le (by rw [List.length_drop]; omega)]
  have ho := h.open_
  rw [List.take_of_length_le (by rw [List.length_drop]; omega)] at ho
  rw [hl]
  by_cases he : s.data.toList.drop fr = []
  · refine Or.inl ⟨he, ?_⟩
    unfold parO
    rw [h.cut, he, lines_end, List.append_nil]; exact h.run
  · refine Or.inr ⟨he, ?_⟩
    obtain ⟨s1, s2⟩ := lines_step (n := n) he h.fuel
    rw [cut_miss _ ho] at s1
    dsimp only at s1
    rw [lines_end] at s1
    rw [h.cut, s1]
end Go.Proofs.YtbojljmacheccaaGreatDoor.Ln
