
import Derived.Test.YtepgcgphnjlcoaaDoorWBytesq
namespace Go.Proofs.YtepgcgphnjlcoaaDoor
open Go.RowKit
set_option linter.unusedVariables false
set_option linter.unusedSimpArgs false
/-- four bytes, the highest first. -/
def be4 (v : Nat) : List Nat := [v / 16777216 % 256, v / 65536 % 256, v / 256 % 256, v % 256]
theorem be4_lt (v : Nat) : ∀ x ∈ be4 v, x < 256 := by intro x hx; simp [be4] at hx; omega
theorem enc_one (l : List Nat) : ∀ u ∈ enc l, u.oneCell' = true := by intro u hu; simp [enc] at hu; obtain ⟨x, _, rfl⟩ := hu; rfl
theorem enc_append (a b : List Nat) : enc a ++ enc b = enc (a ++ b) := by simp [enc]
theorem enc_len (l : List Nat) : (enc l).length = l.length := by simp [enc]
theorem four_any (v : Nat) (hv : v < 4294967296) (w : World) :
    Calls Tryd.prog 30 #[.int .u32 (v : Int)] w fun e w' => e = .returned (.slice (some ⟨w.heap.size, 0, none⟩) 4 4) ∧ w' = w.alloc (.cells (enc (be4 v)).toArray 5) := by
  have e0 : (enc (be4 v)).toArray = #[.int .u8 ((v : Int) / 16777216 % 256), .int .u8 ((v : Int) / 65536 % 256), .int .u8 ((v : Int) / 256 % 256), .int .u8 ((v : Int) % 256)] := by simp [enc, be4]
  have e1 : (v : Int) / 16777216 % 256 = (v : Int) / 16777216 := by omega
  rw [e0, e1]
  clear e0 e1
  go_enter Tryd.func30, Tryd.ntmps30
  go_wp2_with fail
  go_ret
  exact ⟨rfl, rfl⟩
theorem four_z (v : Nat) (hv : v < 4294967296) (z : Int) (hz : z = (v : Int)) (w : World) :
    Calls Tryd.prog 30 #[.int .u32 z] w fun e w' => e = .returned (.slice (some ⟨w.heap.size, 0, none⟩) 4 4) ∧ w' = w.alloc (.cells (enc (be4 v)).toArray 5) := by
  subst hz; exact four_any v hv w
theorem cells_news (w : World) (l : List Nat) (fr : Nat × Nat) : ∀ j u, (enc l)[j]? = some u → (w.alloc (.cells (enc l).toArray 5 fr)).cell? ((⟨w.heap.size, 0, none⟩ : Addr).add j) = some u :=
  World.news_of_block (cs := (enc l).toArray) (heap_alloc_new w _)
theorem make_u8 (n : Nat) (h : n ≤ 281474976710656) (w : World) : (Instr.makeSlice 23 (.int .i64 0) (.int .i64 (n : Int))).run Tryd.prog w = .ok (.slice (some ⟨w.heap.size, 0, none⟩) 0 n) (w.alloc (.cells (madeCells #[.int .u8 0] n) 5)) := by
  obtain ⟨i, h1, h0⟩ := Option.map_eq_some_iff.1 byte_info
  have h2 : i.zero = some (.int .u8 0) := congrArg (·.1) h0
  have h3 : i.bytes = 1 := congrArg (·.2.1) h0
  have h4 : i.size = 1 := congrArg (·.2.2) h0
  have := run_make (P := Tryd.prog) w 23 5 i (.int .u8 0) Tryd.underlying23 h1 h2 .i64 .i64 0 (n : Int) (by omega) (by omega) (by rw [h3]; omega) (by omega)
  rw [h4] at this
  simpa [Value.cells] using this
theorem made_size (n : Nat) : (madeCells #[Value.int .u8 0] n).size = n * 1 := by rw [← Array.length_toList, toList_madeCells_one]; simp
/-- a frame's sum. -/
def crcOf (l : List Nat) : Nat := crcTo (natsOf l) l.length ^^^ 4294967295
def head1 (kind number len : Nat) : List Nat := [kind] ++ be4 len ++ be4 (number / 4294967296) ++ be4 (number % 4294967296)
def head2 (kind number len : Nat) : List Nat := head1 kind number len ++ be4 (crcOf (head1 kind number len))
def frameOf (kind number : Nat) (l : List Nat) : List Nat := (head2 kind number l.length ++ l) ++ be4 (crcOf (head2 kind number l.length ++ l))
theorem head1_lt (kind number len : Nat) (hk : kind < 256) : ∀ x ∈ head1 kind number len, x < 256 := by
  intro x hx
  simp only [head1, List.mem_append, List.mem_singleton] at hx
  rcases hx with ((rfl | hx) | hx) | hx
  · exact hk
  · exact be4_lt _ x hx
  · exact be4_lt _ x hx
  · exact be4_lt _ x hx
theorem crcTo_lt (bs : Nat → Nat) (n : Nat) (h : ∀ i, i < n → bs i < 256) : crcTo bs n < 4294967296 := by
  induction n with
  | zero => simp [crcTo]
  | succ k ih =>
    have h1 := ih fun i hi => h i (by omega)
    have h2 := h k (by omega)
    exact step4_lt _ (step4_lt _ (xor_lt32 _ _ h1 (by omega)))
theorem natsOf_lt {l : List Nat} (h : ∀ x ∈ l, x < 256) (i : Nat) (hi : i < l.length) : natsOf l i < 256 := by
  simp [natsOf, hi, List.getD_eq_getElem?_getD]; exact h _ (List.getElem_mem hi)
theorem crcOf_lt {l : List Nat} (h : ∀ x ∈ l, x < 256) : crcOf l < 4294967296 := xor_lt32 _ _ (crcTo_lt _ _ fun i hi => natsOf_lt h i hi) (by omega)
theorem bytes_news {w : World} {b off : Nat} {l : List Nat} (h : BytesAt w b off l.length (natsOf l)) : ∀ j u, (enc l)[j]? = some u → w.cell? ((⟨b, off, none⟩ : Addr).add j) = some u := by
  intro j u hj
  have hj' : j < l.length := by
    rcases Nat.lt_or_ge j l.length with h' | h'
    · exact h'
    · rw [List.getElem?_eq_none (by rw [enc_len]; exact h')] at hj; cases hj
  have h0 := (h j hj').1
  have e : (⟨b, off, none⟩ : Addr).add j = ⟨b, off + j, none⟩ := by unfold Addr.add; split <;> simp_all
  rw [e, h0]
  simp [enc, hj'] at hj
  rw [← hj]
  simp [natsOf, hj', List.getD_eq_getElem?_getD]
theorem head2_lt (kind number len : Nat) (hk : kind < 256) : ∀ x ∈ head2 kind number len, x < 256 := by
  intro x hx
  rcases List.mem_append.1 hx with hx | hx
  · exact head1_lt kind number len hk x hx
  · exact be4_lt _ x hx
end Go.Proofs.YtepgcgphnjlcoaaDoor
