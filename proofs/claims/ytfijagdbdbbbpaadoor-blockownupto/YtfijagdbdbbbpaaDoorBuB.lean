
import Derived.Test.YtfijagdbdbbbpaaDoorWrCq
import Derived.WalkLawsBesides
import Derived.Lib.SlBytesConst
import Derived.Test.YtfijagdbdbbbpaaDoorRows
import Derived.MakeChecks
import Derived.ProofKit
import Derived.SizedLaws
import Derived.OpenShut
namespace Go.Proofs.YtfijagdbdbbbpaaDoor
open Go.RowKit
set_option linter.unusedVariables false
set_option linter.unusedSimpArgs false
theorem below_grown {w w2 w3 : World} {row : Option Nat} (h : Below w.heap.size w w2) (hg : w2.grownBy w3 row) (hr : ∀ k, row = some k → w.heap.size ≤ k) : Below w.heap.size w w3 := h.grown hg h.size hr
set_option maxRecDepth 100000 in
theorem clone_any (g off m c : Nat) (news : List Value) (w : World) (hl : news.length = m) (hnews : ∀ j u, news[j]? = some u → w.cell? ((⟨g, off, none⟩ : Addr).add j) = some u) (h1 : ∀ u ∈ news, u.oneCell' = true) (hm : 0 < m) (hb : m ≤ 140737488355328) :
    Calls Tryd.prog 67 #[.slice (some ⟨g, off, none⟩) m c] w fun e w' => ∃ g' cap', e = .returned (.slice (some ⟨g', 0, none⟩) m cap') ∧ w'.ownsRow w.heap.size 5 1 (.slice (some ⟨g', 0, none⟩) m cap') m news ∧ Below w.heap.size w w' := by
  obtain ⟨i, i1, i0⟩ := Option.map_eq_some_iff.1 byte_info
  have i2 : i.zero = some (.int .u8 0) := congrArg (·.1) i0
  have i3 : i.bytes = 1 := congrArg (·.2.1) i0
  have i4 : i.size = 1 := congrArg (·.2.2) i0
  have hml : maxLen = 9223372036854775807 := by decide
  have hown : (w.alloc (.cells #[] 5)).ownsRow w.heap.size 5 1 (.slice (some ⟨w.heap.size, 0, none⟩) 0 0) 0 [] := World.ownsRow_lit w #[] 0 (Nat.le_refl _) (by omega) (by simp)
  have hnews' : ∀ j u, news[j]? = some u → (w.alloc (.cells #[] 5)).cell? ((⟨g, off, none⟩ : Addr).add j) = some u := fun j u hj => by
    have h0 := hnews j u hj
    rw [World.cell?_alloc_lt _ _ _ (World.block_lt_of_cell? w _ h0)]; exact h0
  clear i0 hnews
  have hnil : ∀ w0 : World, (binOp .eql 60 (.slice (some ⟨g, off, none⟩) m c) (.slice none 0 0)).run Tryd.prog w0 = .ok (.bool false) w0 := fun w0 => Go.Lib.run_eql_slice_nil w0 60 5 (some ⟨g, off, none⟩) m c 0 0 Tryd.underlying60
  go_enter Tryd.func67, Tryd.ntmps67
  go_wp2_with (at_builtin; refine wpList_append_lies _ (by rfl) _ _ _ (by rfl) w.heap.size 5 i (.int .u8 0) 1 1 Tryd.underlying60 i1 i2 i4 i3 rfl (by omega) _ 0 [] (by rfl) hown ⟨g, off, none⟩ m c news (by rfl) (by rw [hl, Nat.mul_one]) hnews' h1 hm (by omega) (by omega) (by simp) _ rfl ?_)
  intro g' cap' w2 ho hgrow hat hlt
  have hB := below_grown (below_new (Below.refl _ w) (.cells #[] 5)) hgrow (fun k e => by simp [Value.ownBlock] at e; omega)
  clear hown hnews' hgrow hat h1
  go_wp2_with fail
  go_ret
  exact ⟨g', cap', rfl, ho, hB⟩
theorem bytes_any (N : Nat) (w1 : World) (fr : Int) (v : Value) (n : Nat) (xs : List Value) (w : World) (h : WS N w1 fr v n xs w) (h1 : ∀ u ∈ xs, u.oneCell' = true) (hn : 0 < n) (hb : n ≤ 140737488355328) :
    Calls Tryd.prog 19 #[.pointer (some ⟨N, 0, none⟩)] w fun e w' => ∃ g' cap', e = .returned (.slice (some ⟨g', 0, none⟩) n cap') ∧ w'.ownsRow w.heap.size 5 1 (.slice (some ⟨g', 0, none⟩) n cap') n xs ∧ Below w.heap.size w w' := by
  obtain ⟨g, cap, rfl, hg, hgl⟩ := h.own.form hn
  have c0 := h.c0
  have hl : xs.length = n := by have := h.own.1; omega
  go_enter Tryd.func19, Tryd.ntmps19
  go_wp2_with fail
  refine (clone_any g 0 n cap xs _ hl (h.own.cells rfl) h1 hn hb).mono ?_
  rintro e w' ⟨g', cap', rfl, ho, hB⟩
  go_wp2_with fail
  go_ret
  exact ⟨g', cap', rfl, ho, hB⟩
set_option maxRecDepth 100000 in
theorem same_true (g1 o1 c1 g2 o2 c2 m : Nat) (bs : Nat → Nat) (w : World) (hm : m ≤ 9223372036854775807) (h1 : BytesAt w g1 o1 m bs) (h2 : BytesAt w g2 o2 m bs) :
    Calls Tryd.prog 37 #[.slice (some ⟨g1, o1, none⟩) m c1, .slice (some ⟨g2, o2, none⟩) m c2] w fun e w' => e = .returned (.bool true) ∧ Below w.heap.size w w' := by
  go_enter Tryd.func37, Tryd.ntmps37
  go_wp2_with fail
  go_loopw [5] (fun i wr => ∃ (k : Nat), k ≤ m ∧ i = .int .i64 k ∧ BytesAt wr g1 o1 m bs ∧ BytesAt wr g2 o2 m bs ∧ Below w.heap.size w wr) (fun i _ => m - (intOf i).toNat)
  case atStart => exact ⟨0, Nat.zero_le _, rfl, h1, h2, Below.refl _ _⟩
  case round =>
    obtain ⟨k, hk, rfl, b1, b2, hB⟩ := hrel
    by_cases hlt : k < m
    · have hltI : (k : Int) < (m : Int) := by omega
      have k0 : (0 : Int) ≤ (k : Int) := by omega
      obtain ⟨x1, y1⟩ := b1 k hlt
      obtain ⟨x2, y2⟩ := b2 k hlt
      go_wp2_with fail
      go_region_held3 (fun w' => w'.cell? ⟨g1, o1 + k, none⟩ = some (.int .u8 (bs k)) ∧ w'.cell? ⟨g2, o2 + k, none⟩ = some (.int .u8 (bs k))) (go_keep) (fail)
      go_wp2_with fail
      go_roundw
      case rel => exact ⟨k + 1, by omega, by go_num, b1, b2, hB.drew⟩
      case measure => simp [intOf]; omega
    · go_wp2_with fail
      go_ret
      exact ⟨rfl, hB⟩
end Go.Proofs.YtfijagdbdbbbpaaDoor

namespace Go.Proofs.YtfijagdbdbbbpaaDoor
open Go.RowKit
set_option linter.unusedVariables false
set_option linter.unusedSimpArgs false
def natsOf (l : List Nat) (i : Nat) : Nat := l.getD i 0
theorem bytes_own {w : World} {base g cap n : Nat} {l : List Nat} (h : w.ownsRow base 5 1 (.slice (some ⟨g, 0, none⟩) n cap) n (enc l)) (hl : ∀ x ∈ l, x < 256) : BytesAt w g 0 n (natsOf l) := fun i hi => by
  have e := h.1
  simp [enc] at e
  have h0 := h.cellAt i (by omega)
  have hi' : i < l.length := by omega
  constructor
  · rw [Nat.zero_add, h0]; simp [enc, natsOf, hi', List.getD_eq_getElem?_getD]
  · simp [natsOf, hi', List.getD_eq_getElem?_getD]; exact hl _ (List.getElem_mem hi')
theorem bytes_new (w : World) (l : List Nat) (cs : Array Value) (fr : Nat × Nat) (hcs : cs = (enc l).toArray) (hl : ∀ x ∈ l, x < 256) : BytesAt (w.alloc (.cells cs 5 fr)) w.heap.size 0 l.length (natsOf l) := by
  subst hcs
  intro i hi
  constructor
  · rw [Nat.zero_add, cell_of_row _ w.heap.size i (enc l).toArray 5 fr (heap_alloc_new w _)]
    simp [enc, natsOf, hi, List.getD_eq_getElem?_getD]
  · simp [natsOf, hi, List.getD_eq_getElem?_getD]; exact hl _ (List.getElem_mem hi)
theorem BytesAt.below {w w' : World} {g off n : Nat} {bs : Nat → Nat} {B : Nat} (h : BytesAt w g off n bs) (hb : Below B w w') (hg : g < B) : BytesAt w' g off n bs := fun i hi => by
  obtain ⟨h1, h2⟩ := h i hi
  exact ⟨by rw [hb.cell (p := ⟨g, off + i, none⟩) hg]; exact h1, h2⟩
end Go.Proofs.YtfijagdbdbbbpaaDoor

namespace Go.Proofs.YtfijagdbdbbbpaaDoor
open Go.ChangeShapes Go.WideShapes Go.RowKit
set_option linter.unusedVariables false
theorem sums_cell : Tryd.prog.cellsOf 211 = 1 := by kernel_rfl
theorem u32_of_trod {H : Type} {enc : TypeId × Value → H} {P : Program} {w : World} {base : Nat} {sp : Nat → Bool} {held : Bool} {fuel : Nat} {t : TypeId} {k : IntKind} {c : Value} {y : DataW H × List MemPlace}
    (ht : P.underlying t = some (.int k)) (h : DataW.trod enc P w base sp held fuel t [c] = some y) : ∃ n, c = .int k n ∧ y = (.lit (.int k n), []) := by
  cases fuel with
  | zero => simp [DataW.trod] at h
  | succ fuel =>
    cases c <;> simp [DataW.trod, ht] at h
    rename_i k' n
    obtain ⟨⟨rfl, _⟩, rfl⟩ := h
    exact ⟨n, rfl, rfl⟩
def sumCells : Array Value := #[.int .u32 0, .int .u32 498536548, .int .u32 997073096, .int .u32 651767980, .int .u32 1994146192, .int .u32 1802195444, .int .u32 1303535960, .int .u32 1342533948, .int .u32 3988292384, .int .u32 4027552580, .int .u32 3604390888, .int .u32 3412177804, .int .u32 2607071920, .int .u32 2262029012, .int .u32 2685067896, .int .u32 3183342108]
theorem sumCells_at : ∀ i, i < 16 → sumCells[i]? = some (.int .u32 (tabN i))
  | 0, _ => rfl
  | 1, _ => rfl
  | 2, _ => rfl
  | 3, _ => rfl
  | 4, _ => rfl
  | 5, _ => rfl
  | 6, _ => rfl
  | 7, _ => rfl
  | 8, _ => rfl
  | 9, _ => rfl
  | 10, _ => rfl
  | 11, _ => rfl
  | 12, _ => rfl
  | 13, _ => rfl
  | 14, _ => rfl
  | 15, _ => rfl
  | i + 16, h => absurd h (by omega)
end Go.Proofs.YtfijagdbdbbbpaaDoor

namespace Go.Proofs.YtfijagdbdbbbpaaDoor
open Go.ChangeShapes Go.WideShapes Go.ChangeAt Go.RowKit
set_option linter.unusedVariables false
/-- a slice of bytes, as it is read. -/
def BytesIn (w : World) (a : Option Addr) (len : Nat) (bs : Nat → Nat) : Prop :=
  len ≤ 140737488355327 ∧ (len = 0 ∨ ∃ b off, a = some ⟨b, off, none⟩ ∧ b < w.heap.size ∧ BytesAt w b off len bs)
theorem lits_len (k : IntKind) {H : Type} (l : List Int) : (lits (H := H) k l).length = l.length := by unfold lits; simp
set_option maxRecDepth 100000 in
theorem bytes_read {H : Type} {enc : TypeId × Value → H} {t e : TypeId} {W : World} {base : Nat} {r : Reach} {v : Value} {d : DataW H} {p : List MemPlace}
    (ht : Tryd.prog.underlying t = some (.slice e)) (he : Tryd.prog.underlying e = some (.int .u8)) (hc : Tryd.prog.cellsOf e = 1) (hb : 1 ≤ Tryd.prog.bytesOf e)
    (hv : Value.okWide Tryd.prog W r base t v) (h : DataW.Trod enc Tryd.prog W 0 (fun _ => true) true t v d p) (hw : ∀ n ∈ d.weights Tryd.prog t, n ≤ reachBytes) :
    ∃ a len cap bs, v = .slice a len cap ∧ BytesIn W a len bs := by
  obtain ⟨a, len, cap, rfl⟩ := okWide_slice ht hv
  obtain ⟨fuel, hf⟩ := h
  rcases open_ints ht he hc hf with ⟨hcs, hx⟩ | ⟨a', len', cap', zs, hcs, _, hl, hm, hzl, hx, hcell, hwz⟩
  · simp [Value.cells] at hcs
    obtain ⟨rfl, rfl, rfl⟩ := hcs
    exact ⟨none, 0, 0, fun _ => 0, rfl, by omega, Or.inl rfl⟩
  · simp [Value.cells] at hcs
    obtain ⟨rfl, rfl, rfl⟩ := hcs
    simp at hzl
    have hsm : len ≤ 140737488355327 := by
      have hd : d = .slice (lits .u8 (zs.take len)) (lits .u8 (zs.drop len)) := congrArg (·.1) hx
      have h1 := hw (((lits (H := H) .u8 (zs.take len)).length + (lits (H := H) .u8 (zs.drop len)).length) * Tryd.prog.bytesOf e) (by rw [hd]; simp [DataW.weights, ht])
      rw [lits_len, lits_len, List.length_take, List.length_drop] at h1
      have h2 : cap ≤ cap * Tryd.prog.bytesOf e := Nat.le_mul_of_pos_right _ hb
      have e1 : min len zs.length + (zs.length - len) = cap := by omega
      rw [e1] at h1
      have : reachBytes ≤ 140737488355327 := by decide
      omega
    refine ⟨some a', len, cap, fun i => (zs.getD i 0).toNat, rfl, hsm, ?_⟩
    rcases Nat.eq_zero_or_pos len with h0 | h0
    · exact Or.inl h0
    · right
      obtain ⟨b, off, rfl, hc'⟩ := ints_at hcell (by omega)
      refine ⟨b, off, rfl, ?_, fun i hi => ?_⟩
      · have := hc' 0 (by omega)
        rcases Nat.lt_or_ge b W.heap.size with h' | h'
        · exact h'
        · simp [World.cell?, Array.getElem?_eq_none h'] at this
      · have hi' : i < zs.length := by omega
        have hm2 : zs.getD i 0 ∈ zs := by rw [List.getD_eq_getElem?_getD, List.getElem?_eq_getElem hi']; exact List.getElem_mem hi'
        have hb8 := bounds_u8 (hwz (zs.getD i 0) hm2)
        have h0 := hc' i hi'
        have e0 : (((zs.getD i 0).toNat : Nat) : Int) = zs.getD i 0 := by omega
        exact ⟨by rw [e0]; exact h0, show (zs.getD i 0).toNat < 256 by omega⟩
theorem BytesIn.below {w w' : World} {a : Option Addr} {n : Nat} {bs : Nat → Nat} (h : BytesIn w a n bs) (hb : Below w.heap.size w w') : BytesIn w' a n bs := by
  obtain ⟨hm, h⟩ := h
  refine ⟨hm, ?_⟩
  rcases h with h | ⟨b, off, h0, h1, h2⟩
  · exact Or.inl h
  · exact Or.inr ⟨b, off, h0, Nat.lt_of_lt_of_le h1 hb.size, h2.below hb h1⟩
end Go.Proofs.YtfijagdbdbbbpaaDoor

namespace Go.Proofs.YtfijagdbdbbbpaaDoor
open Go.RowKit
set_option linter.unusedVariables false
set_option linter.unusedSimpArgs false
/-- four bytes, the highest first. -/
def be4 (v : Nat) : List Nat := [v / 16777216 % 256, v / 65536 % 256, v / 256 % 256, v % 256]
theorem be4_lt (v : Nat) : ∀ x ∈ be4 v, x < 256 := by intro x hx; simp [be4] at hx; omega
theorem enc_one (l : List Nat) : ∀ u ∈ enc l, u.oneCell' = true := by intro u hu; simp [enc] at hu; obtain ⟨x, _, rfl⟩ := hu; rfl
theorem enc_append (a b : List Nat) : enc a ++ enc b = enc (a ++ b) := by simp [enc]
theorem enc_len (l : List Nat) : (enc l).length = l.length := by simp [enc]
theorem cells_news (w : World) (l : List Nat) (fr : Nat × Nat) : ∀ j u, (enc l)[j]? = some u → (w.alloc (.cells (enc l).toArray 5 fr)).cell? ((⟨w.heap.size, 0, none⟩ : Addr).add j) = some u :=
  World.news_of_block (cs := (enc l).toArray) (heap_alloc_new w _)
theorem make_u8 (n : Nat) (h : n ≤ 281474976710656) (w : World) : (Instr.makeSlice 60 (.int .i64 0) (.int .i64 (n : Int))).run Tryd.prog w = .ok (.slice (some ⟨w.heap.size, 0, none⟩) 0 n) (w.alloc (.cells (madeCells #[.int .u8 0] n) 5)) := by
  obtain ⟨i, h1, h0⟩ := Option.map_eq_some_iff.1 byte_info
  have h2 : i.zero = some (.int .u8 0) := congrArg (·.1) h0
  have h3 : i.bytes = 1 := congrArg (·.2.1) h0
  have h4 : i.size = 1 := congrArg (·.2.2) h0
  have := run_make (P := Tryd.prog) w 60 5 i (.int .u8 0) Tryd.underlying60 h1 h2 .i64 .i64 0 (n : Int) (by omega) (by omega) (by rw [h3]; omega) (by omega)
  rw [h4] at this
  simpa [Value.cells] using this
theorem made_size (n : Nat) : (madeCells #[Value.int .u8 0] n).size = n * 1 := by rw [← Array.length_toList, toList_madeCells_one]; simp
/-- a frame's sum. -/
def crcOf (l : List Nat) : Nat := crcTo (natsOf l) l.length ^^^ 4294967295
def head1 (kind number len : Nat) : List Nat := [kind] ++ be4 len ++ be4 (number / 4294967296) ++ be4 (number % 4294967296)
def head2 (kind number len : Nat) : List Nat := head1 kind number len ++ be4 (crcOf (head1 kind number len))
def frameOf (kind number : Nat) (l : List Nat) : List Nat := (head2 kind number l.length ++ l) ++ be4 (crcOf (head2 kind number l.length ++ l))
theorem head1_lt (kind number len : Nat) (hk : kind < 256) : ∀ x ∈ head1 kind number len, x < 256 := by
  intro x hx
  simp only [head1, List.mem_append, List.mem_singleton] at hx
  rcases hx with ((rfl | hx) | hx) | hx
  · exact hk
  · exact be4_lt _ x hx
  · exact be4_lt _ x hx
  · exact be4_lt _ x hx
theorem crcTo_lt (bs : Nat → Nat) (n : Nat) (h : ∀ i, i < n → bs i < 256) : crcTo bs n < 4294967296 := by
  induction n with
  | zero => simp [crcTo]
  | succ k ih =>
    have h1 := ih fun i hi => h i (by omega)
    have h2 := h k (by omega)
    exact step4_lt _ (step4_lt _ (xor_lt32 _ _ h1 (by omega)))
theorem natsOf_lt {l : List Nat} (h : ∀ x ∈ l, x < 256) (i : Nat) (hi : i < l.length) : natsOf l i < 256 := by
  simp [natsOf, hi, List.getD_eq_getElem?_getD]; exact h _ (List.getElem_mem hi)
theorem crcOf_lt {l : List Nat} (h : ∀ x ∈ l, x < 256) : crcOf l < 4294967296 := xor_lt32 _ _ (crcTo_lt _ _ fun i hi => natsOf_lt h i hi) (by omega)
theorem bytes_news {w : World} {b off : Nat} {l : List Nat} (h : BytesAt w b off l.length (natsOf l)) : ∀ j u, (enc l)[j]? = some u → w.cell? ((⟨b, off, none⟩ : Addr).add j) = some u := by
  intro j u hj
  have hj' : j < l.length := by
    rcases Nat.lt_or_ge j l.length with h' | h'
    · exact h'
    · rw [List.getElem?_eq_none (by rw [enc_len]; exact h')] at hj; cases hj
  have h0 := (h j hj').1
  have e : (⟨b, off, none⟩ : Addr).add j = ⟨b, off + j, none⟩ := by unfold Addr.add; split <;> simp_all
  rw [e, h0]
  simp [enc, hj'] at hj
  rw [← hj]
  simp [natsOf, hj', List.getD_eq_getElem?_getD]
theorem head2_lt (kind number len : Nat) (hk : kind < 256) : ∀ x ∈ head2 kind number len, x < 256 := by
  intro x hx
  rcases List.mem_append.1 hx with hx | hx
  · exact head1_lt kind number len hk x hx
  · exact be4_lt _ x hx
end Go.Proofs.YtfijagdbdbbbpaaDoor
