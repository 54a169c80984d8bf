
import Derived.Test.YtepgcgphnjlcoaaDoorWwCq
import Derived.Test.YtepgcgphnjlcoaaDoorWwDq
namespace Go.Proofs.YtepgcgphnjlcoaaDoor
open Go.RowKit
set_option linter.unusedVariables false
set_option linter.unusedSimpArgs false
theorem WS.here {N : Nat} {w1 wx : World} {fr : Int} {v : Value} {n : Nat} {xs : List Value} (h : WS N w1 fr v n xs wx) : WS N wx fr v n xs wx := ⟨h.c0, h.c1, h.f0, h.f1, h.own, Below.refl _ _, h.sz⟩
/-- a Writer, when another one at N has written. -/
theorem WS.other {N M : Nat} {wx w' : World} {fr : Int} {v v' u : Value} {n : Nat} {xs : List Value} (h : WS M wx fr u n xs wx) (F : Fr N v v' wx w') (hMN : M ≠ N) (ho : some M ≠ v.ownBlock) (hu : some N ≠ u.ownBlock) (huv : u.ownBlock = none ∨ u.ownBlock ≠ v.ownBlock) : WS M w' fr u n xs w' := by
  have hb : w'.heap[M]? = wx.heap[M]? := F.keep M h.sz hMN ho
  refine ⟨?_, ?_, ?_, ?_, ⟨h.own.1, ?_⟩, Below.refl _ _, Nat.lt_of_lt_of_le h.sz F.size⟩
  · rw [World.cell?_of_block (w := wx) hb]; exact h.c0
  · rw [World.cell?_of_block (w := wx) hb]; exact h.c1
  · rw [World.frozen?_of_block (w := wx) hb]; exact h.f0
  · rw [World.frozen?_of_block (w := wx) hb]; exact h.f1
  · rcases h.own.2 with h2 | ⟨g, cap, cur, e1, e2, e3, e4⟩
    · exact Or.inl h2
    · refine Or.inr ⟨g, cap, cur, e1, e2, ?_, e4⟩
      have eo : u.ownBlock = some g := by rw [e1]; rfl
      rw [F.keep g (Array.getElem?_eq_some_iff.1 e3).1 (fun e => hu (by rw [eo, e])) ?_]
      · exact e3
      · rcases huv with e | e
        · rw [eo] at e; cases e
        · rw [eo] at e; exact e
/-- two Writers in one world: the program's, and the document's. -/
structure TW (w0 : World) (N1 N2 : Nat) (fr : Int) (l1 : List Nat) (v : Value) (b : Int) (l2 : List Nat) (u : Value) (wx : World) : Prop where
  r : WS N1 wx fr v l1.length (enc l1) wx
  d : WS N2 wx b u l2.length (enc l2) wx
  nn : N1 ≠ N2
  s1 : some N2 ≠ v.ownBlock
  s2 : some N1 ≠ u.ownBlock
  s3 : v.ownBlock = none ∨ u.ownBlock = none ∨ v.ownBlock ≠ u.ownBlock
  lo1 : w0.heap.size ≤ N1
  lo2 : w0.heap.size ≤ N2
  bb : Below w0.heap.size w0 wx
theorem WS.len {N : Nat} {w1 wx : World} {fr : Int} {v : Value} {n : Nat} {l : List Nat} (h : WS N w1 fr v n (enc l) wx) : n = l.length := by
  have := h.own.1; rw [enc_len] at this; omega
theorem own_lt {w : World} {base n : Nat} {v : Value} {xs : List Value} (h : w.ownsRow base 5 1 v n xs) {k : Nat} (e : v.ownBlock = some k) : k < w.heap.size := (h.lt k e).2
theorem TW.real {w0 : World} {N1 N2 : Nat} {fr b fr' : Int} {l1 l2 l1' : List Nat} {v u v' : Value} {n' : Nat} {wx w' w1 : World} (h : TW w0 N1 N2 fr l1 v b l2 u wx) (hW : WS N1 w1 fr' v' n' (enc l1') w') (hw1 : w1 = wx) (F : Fr N1 v v' wx w') : TW w0 N1 N2 fr' l1' v' b l2 u w' := by
  subst hw1
  have hn := hW.len
  subst hn
  refine ⟨hW.here, h.d.other F (fun e => h.nn e.symm) h.s1 h.s2 ?_, h.nn, ?_, h.s2, ?_, h.lo1, h.lo2, h.bb.trans (hW.b.mono h.lo1)⟩
  · rcases h.s3 with e | e | e
    · rw [e]; cases u.ownBlock <;> simp
    · exact Or.inl e
    · exact Or.inr (fun e' => e e'.symm)
  · rcases F.own with e | ⟨k, e, hk⟩
    · rw [e]; exact h.s1
    · rw [e]; intro e'; injection e' with e'; have := h.d.sz; omega
  · rcases F.own with e | ⟨k, e, hk⟩
    · rw [e]; exact h.s3
    · cases hu : u.ownBlock with
      | none => exact Or.inr (Or.inl rfl)
      | some g => exact Or.inr (Or.inr (by rw [e]; intro e'; injection e' with e'; have := own_lt h.d.own hu; omega))
theorem TW.doc {w0 : World} {N1 N2 : Nat} {fr b b' : Int} {l1 l2 l2' : List Nat} {v u u' : Value} {n' : Nat} {wx w' w1 : World} (h : TW w0 N1 N2 fr l1 v b l2 u wx) (hW : WS N2 w1 b' u' n' (enc l2') w') (hw1 : w1 = wx) (F : Fr N2 u u' wx w') : TW w0 N1 N2 fr l1 v b' l2' u' w' := by
  subst hw1
  have hn := hW.len
  subst hn
  refine ⟨h.r.other F h.nn h.s2 h.s1 ?_, hW.here, h.nn, h.s1, ?_, ?_, h.lo1, h.lo2, h.bb.trans (hW.b.mono h.lo2)⟩
  · rcases h.s3 with e | e | e
    · exact Or.inl e
    · rw [e]; cases v.ownBlock <;> simp
    · exact Or.inr e
  · rcases F.own with e | ⟨k, e, hk⟩
    · rw [e]; exact h.s2
    · rw [e]; intro e'; injection e' with e'; have := h.r.sz; omega
  · rcases F.own with e | ⟨k, e, hk⟩
    · rw [e]; exact h.s3
    · cases hv : v.ownBlock with
      | none => exact Or.inl rfl
      | some g => exact Or.inr (Or.inr (by rw [e]; intro e'; injection e' with e'; have := own_lt h.r.own hv; omega))
theorem TW.alloc {w0 : World} {N1 N2 : Nat} {fr b : Int} {l1 l2 : List Nat} {v u : Value} {wx : World} (h : TW w0 N1 N2 fr l1 v b l2 u wx) (o : Obj) : TW w0 N1 N2 fr l1 v b l2 u (wx.alloc o) :=
  ⟨(h.r.alloc o).here, (h.d.alloc o).here, h.nn, h.s1, h.s2, h.s3, h.lo1, h.lo2, h.bb.alloc h.bb.size o⟩
theorem TW.below {w0 : World} {N1 N2 : Nat} {fr b : Int} {l1 l2 : List Nat} {v u : Value} {wx w' : World} (h : TW w0 N1 N2 fr l1 v b l2 u wx) (hb : Below wx.heap.size wx w') : TW w0 N1 N2 fr l1 v b l2 u w' := by
  have F : Fr N1 v v wx w' := ⟨hb.size, fun k hk _ _ => hb.block k hk, Or.inl rfl⟩
  have hr : WS N1 wx fr v l1.length (enc l1) w' := by
    obtain ⟨c0, c1, f0, f1, own, b, sz⟩ := h.r
    refine ⟨?_, ?_, ?_, ?_, ⟨own.1, ?_⟩, hb.mono (by omega), Nat.lt_of_lt_of_le sz hb.size⟩
    · rw [hb.cell (p := ⟨N1, 0, none⟩) sz]; exact c0
    · rw [hb.cell (p := ⟨N1, 1, none⟩) sz]; exact c1
    · rw [hb.frozen (p := ⟨N1, 0, none⟩) sz]; exact f0
    · rw [hb.frozen (p := ⟨N1, 1, none⟩) sz]; exact f1
    · rcases own.2 with h2 | ⟨g, cap, cur, e1, e2, e3, e4⟩
      · exact Or.inl h2
      · exact Or.inr ⟨g, cap, cur, e1, e2, by rw [hb.block g (Array.getElem?_eq_some_iff.1 e3).1]; exact e3, e4⟩
  exact h.real hr rfl F
/-- a cell that is neither Writer's. -/
theorem Fr.cell {N : Nat} {v v' : Value} {w w' : World} (F : Fr N v v' w w') {k o : Nat} (hk : k < w.heap.size) (hn : k ≠ N) (ho : some k ≠ v.ownBlock) : w'.cell? ⟨k, o, none⟩ = w.cell? ⟨k, o, none⟩ :=
  World.cell?_of_block (w := w) (F.keep k hk hn ho)
theorem uBf_lt : ∀ (f v : Nat), v < 128 ^ (f + 1) → ∀ y ∈ uBf f v, y < 256 := by
  intro f
  induction f with
  | zero => intro v h y hy; simp [uBf] at hy; simp at h; omega
  | succ f ih =>
    intro v h y hy
    unfold uBf at hy
    split at hy
    · simp at hy; omega
    · rcases List.mem_cons.1 hy with e | hy
      · omega
      · exact ih (v / 128) (by rw [Nat.div_lt_iff_lt_mul (by omega)]; rw [Nat.pow_succ] at h; omega) y hy
theorem uB_lt (k : Nat) (h : k < 18446744073709551616) : ∀ y ∈ uB k, y < 256 := uBf_lt 10 k (by omega)
theorem bytesL_lt {bs : Nat → Nat} {m : Nat} (h : ∀ i, i < m → bs i < 256) : ∀ y ∈ bytesL bs m, y < 256 := by
  intro y hy; unfold bytesL at hy; simp at hy; obtain ⟨i, hi, rfl⟩ := hy; exact h i hi
theorem CL.app {l r : List Nat} {b : Nat} (h : CL l b) (hr : ∀ y ∈ r, y < 256) : CL (l ++ r) 0 :=
  ⟨by omega, fun y hy => by rcases List.mem_append.1 hy with e | e; exact h.2.1 y e; exact hr y e, fun e => absurd rfl e⟩
/-- bytes as a text, and what it says. -/
theorem to_text2 {w : World} {a : Option Addr} {n c : Nat} {bs : Nat → Nat} (h : BytesIn w a n bs) : ∃ s : ByteArray, s.size = n ∧ bytesL (fun i => (s.data.toList.getD i 0).toNat) s.size = bytesL bs n ∧ ∀ w', Below w.heap.size w w' → (convert 23 9 (.slice a n c)).run Tryd.prog w' = .ok (.string s) w' := by
  rcases h.2 with h0 | ⟨b, off, rfl, hb, hB⟩
  · subst h0
    refine ⟨ByteArray.empty, rfl, rfl, fun w' _ => ?_⟩
    rw [run_convert_bytes_string w' 23 9 5 _ 0 c Tryd.underlying23 Tryd.underlying5 Tryd.underlying9]
    cases a <;> simp [Conv.bytesToString, loadCells]
    all_goals rfl
  · refine ⟨strOfNums ((List.range n).map fun i => (bs i : Int)), by rw [strOfNums_size]; simp, ?_, fun w' hw => ?_⟩
    · have hsz : (strOfNums ((List.range n).map fun i => (bs i : Int))).size = n := by rw [strOfNums_size]; simp
      rw [hsz]
      unfold bytesL
      refine List.map_congr_left fun i hi => ?_
      have hi' : i < n := List.mem_range.1 hi
      have := (hB i hi').2
      simp [strOfNums, List.getD_eq_getElem?_getD, List.getElem?_range hi', hi']
      omega
    · refine run_convert_bytes_arg w' 23 5 Tryd.underlying23 Tryd.underlying5 b off n c _ (by simp) (fun i hi => ?_) 9 Tryd.underlying9
      rw [((hB.below hw hb) i hi).1]
      simp [List.getD_eq_getElem?_getD, hi]
end Go.Proofs.YtepgcgphnjlcoaaDoor
