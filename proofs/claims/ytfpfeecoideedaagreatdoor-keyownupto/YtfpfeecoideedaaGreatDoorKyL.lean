
import Derived.Test.YtfpfeecoideedaaGreatDoorKyK
namespace Go.Proofs.YtfpfeecoideedaaGreatDoor
open Go.RowKit Go.Shelf
set_option linter.unusedVariables false
set_option linter.unusedSimpArgs false
/-- while a key is written: the Builder at b, the series at the block of w's end. -/
def PS (w : World) (b : Nat) (m f : ByteArray) (a : Option Addr) (n c : Nat) (bs : List UInt8) (W : World) : Prop :=
  Lib.IsBuilderF 110 5 b b (Lib.byteCells bs) W ∧ W.cell? ⟨w.heap.size, 0, none⟩ = some (.string m) ∧ W.cell? ⟨w.heap.size, 1, none⟩ = some (.slice a n c) ∧ W.cell? ⟨w.heap.size, 2, none⟩ = some (.string f) ∧ Below w.heap.size w W ∧ w.heap.size < b ∧ b < W.heap.size
theorem PS.below {w : World} {b : Nat} {m f : ByteArray} {a : Option Addr} {n c : Nat} {bs : List UInt8} {W W' : World} (h : PS w b m f a n c bs W) (hb : Below W.heap.size W W') : PS w b m f a n c bs W' := by
  obtain ⟨h1, h2, h3, h4, h5, h6, h7⟩ := h
  have hs := hb.size
  refine ⟨builder_below h1 hb, ?_, ?_, ?_, h5.trans (hb.mono h5.size), h6, by omega⟩
  · rw [hb.cell (p := ⟨w.heap.size, 0, none⟩) (show w.heap.size < _ by omega)]; exact h2
  · rw [hb.cell (p := ⟨w.heap.size, 1, none⟩) (show w.heap.size < _ by omega)]; exact h3
  · rw [hb.cell (p := ⟨w.heap.size, 2, none⟩) (show w.heap.size < _ by omega)]; exact h4
theorem PS.c0 {w : World} {b : Nat} {m f : ByteArray} {a : Option Addr} {n c : Nat} {bs : List UInt8} {W : World} (h : PS w b m f a n c bs W) : W.cell? ⟨w.heap.size, 0, none⟩ = some (.string m) := by obtain ⟨h1, h2, h3, h4, h5, h6, h7⟩ := h; exact h2
theorem PS.c1 {w : World} {b : Nat} {m f : ByteArray} {a : Option Addr} {n c : Nat} {bs : List UInt8} {W : World} (h : PS w b m f a n c bs W) : W.cell? ⟨w.heap.size, 1, none⟩ = some (.slice a n c) := by obtain ⟨h1, h2, h3, h4, h5, h6, h7⟩ := h; exact h3
theorem PS.c2 {w : World} {b : Nat} {m f : ByteArray} {a : Option Addr} {n c : Nat} {bs : List UInt8} {W : World} (h : PS w b m f a n c bs W) : W.cell? ⟨w.heap.size, 2, none⟩ = some (.string f) := by obtain ⟨h1, h2, h3, h4, h5, h6, h7⟩ := h; exact h4
theorem PS.blw {w : World} {b : Nat} {m f : ByteArray} {a : Option Addr} {n c : Nat} {bs : List UInt8} {W : World} (h : PS w b m f a n c bs W) : Below w.heap.size w W := by obtain ⟨h1, h2, h3, h4, h5, h6, h7⟩ := h; exact h5
theorem PS.lt {w : World} {b : Nat} {m f : ByteArray} {a : Option Addr} {n c : Nat} {bs : List UInt8} {W : World} (h : PS w b m f a n c bs W) : w.heap.size < b ∧ b < W.heap.size := by obtain ⟨h1, h2, h3, h4, h5, h6, h7⟩ := h; exact ⟨h6, h7⟩
theorem PS.esc {w : World} {b : Nat} {m f : ByteArray} {a : Option Addr} {n c : Nat} {bs : List UInt8} {W : World} (h : PS w b m f a n c bs W) (t : ByteArray) (ht : t.size ≤ 1048576) (hM : ∀ i j, MkOk (t.extract i j)) :
    Calls Tryz.prog 40 #[.string t] W fun e w' => e = .returned (.string ⟨(escL t.data.toList).toArray⟩) ∧ PS w b m f a n c bs w' ∧ Below W.heap.size W w' :=
  (escape_any t W ht hM).mono fun e w' ⟨h1, h2⟩ => ⟨h1, h.below h2, h2⟩
theorem PS.write {w : World} {b : Nat} {m f : ByteArray} {a : Option Addr} {n c : Nat} {bs : List UInt8} {W : World} (h : PS w b m f a n c bs W) (t : ByteArray) (ht : bs.length + t.size ≤ 140737488355328) :
    Calls Tryz.prog 39 #[.pointer (some ⟨b, 0, none⟩), .string t] W fun e w' => e = .returned (.tuple #[.int .i64 t.size, .nilIface]) ∧ PS w b m f a n c (bs ++ t.data.toList) w' := by
  obtain ⟨h1, h2, h3, h4, h5, h6, h7⟩ := h
  refine (Tryz.Builder_WriteString_k b b (Lib.byteCells bs) t W h1 (by rw [Lib.byteCells_length]; exact ht) (by omega)).mono ?_
  rintro e w' ⟨rfl, k1, k2, k3⟩
  have hs := k2.size
  refine ⟨rfl, ?_, ?_, ?_, ?_, h5.trans (k2.mono (by omega)), h6, by omega⟩
  · rw [cells_append]; exact .inr k1
  · rw [k2.cell (p := ⟨w.heap.size, 0, none⟩) h6]; exact h2
  · rw [k2.cell (p := ⟨w.heap.size, 1, none⟩) h6]; exact h3
  · rw [k2.cell (p := ⟨w.heap.size, 2, none⟩) h6]; exact h4
theorem PS.write2 {w : World} {b : Nat} {m f : ByteArray} {a : Option Addr} {n c : Nat} {bs : List UInt8} {W : World} (h : PS w b m f a n c bs W) (t : ByteArray) (ht : bs.length + t.size ≤ 140737488355328) :
    Calls Tryz.prog 39 #[.pointer (some ⟨b, 0, none⟩), .string t] W fun e w' => e = .returned (.tuple #[.int .i64 t.size, .nilIface]) ∧ PS w b m f a n c (bs ++ t.data.toList) w' ∧ Lib.OthersKept 5 (some b) W w' := by
  obtain ⟨h1, h2, h3, h4, h5, h6, h7⟩ := h
  refine (Tryz.Builder_WriteString_k b b (Lib.byteCells bs) t W h1 (by rw [Lib.byteCells_length]; exact ht) (by omega)).mono ?_
  rintro e w' ⟨rfl, k1, k2, k3⟩
  have hs := k2.size
  refine ⟨rfl, ⟨?_, ?_, ?_, ?_, h5.trans (k2.mono (by omega)), h6, by omega⟩, k3⟩
  · rw [cells_append]; exact .inr k1
  · rw [k2.cell (p := ⟨w.heap.size, 0, none⟩) h6]; exact h2
  · rw [k2.cell (p := ⟨w.heap.size, 1, none⟩) h6]; exact h3
  · rw [k2.cell (p := ⟨w.heap.size, 2, none⟩) h6]; exact h4
theorem PS.text {w : World} {b : Nat} {m f : ByteArray} {a : Option Addr} {n c : Nat} {bs : List UInt8} {W : World} (h : PS w b m f a n c bs W) :
    Calls Tryz.prog 41 #[.pointer (some ⟨b, 0, none⟩)] W fun e w' => e = .returned (.string ⟨bs.toArray⟩) ∧ Below w.heap.size w w' := by
  obtain ⟨h1, h2, h3, h4, h5, h6, h7⟩ := h
  refine (Tryz.Builder_String_any_k b b bs W h1 (by omega)).mono ?_
  rintro e w' ⟨rfl, k1, k2, k3⟩
  exact ⟨rfl, h5.trans (k2.mono (by omega))⟩
theorem cleanB_size {s : ByteArray} {k : Int} (h : cleanB s k = true) : (s.size : Int) ≤ k := by
  unfold cleanB at h
  simp at h
  exact h.1.1.2
theorem columnB_size {s : ByteArray} (h : columnB s = true) : s.size ≤ 64 := by
  unfold columnB at h
  simp at h
  have := cleanB_size h.2
  omega
def tagT (t : TagP) : List UInt8 := 44 :: (escL t.1.data.toList ++ 61 :: escL t.2.data.toList)
def printT (s : SerP) : List UInt8 := escL s.m.data.toList ++ s.t.flatMap tagT ++ 32 :: escL s.f.data.toList
/-- the texts of a series. -/
def SerM (s : SerP) : Prop := (∀ i j, MkOk (s.m.extract i j)) ∧ (∀ i j, MkOk (s.f.extract i j)) ∧ ∀ t ∈ s.t, (∀ i j, MkOk (t.1.extract i j)) ∧ ∀ i j, MkOk (t.2.extract i j)
theorem right_parts {s : SerP} (h : rightN s = 0) : s.m.size ≤ 64 ∧ s.f.size ≤ 64 ∧ s.t.length ≤ 8 ∧ ∀ t ∈ s.t, t.1.size ≤ 64 ∧ t.2.size ≤ 256 := by
  unfold rightN at h
  split at h
  · rename_i h1
    split at h
    · rename_i h2
      split at h
      · rename_i h3
        have k1 := cleanB_size h1
        refine ⟨by omega, columnB_size h3, ?_, ?_⟩
        · unfold tagsB at h2; simp at h2; exact h2.1.1
        · intro t ht
          unfold tagsB at h2
          simp only [Bool.and_eq_true, Bool.not_eq_true'] at h2
          have h4 := List.any_eq_false.1 h2.2 t ht
          unfold oddB at h4
          simp at h4
          have := cleanB_size h4.2
          exact ⟨columnB_size h4.1, by omega⟩
      · cases h
    · cases h
  · cases h
theorem tagT_len (t : TagP) : (tagT t).length ≤ 2 * t.1.size + 2 * t.2.size + 2 := by
  unfold tagT
  have h1 := escL_len t.1.data.toList
  have h2 := escL_len t.2.data.toList
  rw [← Lib.size_eq] at h1 h2
  simp
  omega
theorem flat_tag_len (l : List TagP) (h : ∀ t ∈ l, t.1.size ≤ 64 ∧ t.2.size ≤ 256) : (l.flatMap tagT).length ≤ l.length * 642 := by
  induction l with
  | nil => simp
  | cons t r ih =>
    rw [List.flatMap_cons, List.length_append, List.length_cons, Nat.succ_mul]
    have h1 := ih (fun x hx => h x (List.mem_cons_of_mem _ hx))
    have h2 := tagT_len t
    have h3 := h t (by simp)
    omega
end Go.Proofs.YtfpfeecoideedaaGreatDoor
