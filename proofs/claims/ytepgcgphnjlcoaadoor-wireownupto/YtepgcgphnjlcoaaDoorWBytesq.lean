
import Derived.Test.YtepgcgphnjlcoaaDoorWTabq
import Derived.SizedLaws
import Derived.OpenShut
namespace Go.Proofs.YtepgcgphnjlcoaaDoor
open Go.ChangeShapes Go.WideShapes Go.ChangeAt Go.RowKit
set_option linter.unusedVariables false
/-- a slice of bytes, as it is read. -/
def BytesIn (w : World) (a : Option Addr) (len : Nat) (bs : Nat → Nat) : Prop :=
  len ≤ 140737488355327 ∧ (len = 0 ∨ ∃ b off, a = some ⟨b, off, none⟩ ∧ b < w.heap.size ∧ BytesAt w b off len bs)
theorem lits_len (k : IntKind) {H : Type} (l : List Int) : (lits (H := H) k l).length = l.length := by unfold lits; simp
set_option maxRecDepth 100000 in
theorem bytes_read {H : Type} {enc : TypeId × Value → H} {t e : TypeId} {W : World} {base : Nat} {r : Reach} {v : Value} {d : DataW H} {p : List MemPlace}
    (ht : Tryd.prog.underlying t = some (.slice e)) (he : Tryd.prog.underlying e = some (.int .u8)) (hc : Tryd.prog.cellsOf e = 1) (hb : 1 ≤ Tryd.prog.bytesOf e)
    (hv : Value.okWide Tryd.prog W r base t v) (h : DataW.Trod enc Tryd.prog W 0 (fun _ => true) true t v d p) (hw : ∀ n ∈ d.weights Tryd.prog t, n ≤ reachBytes) :
    ∃ a len cap bs, v = .slice a len cap ∧ BytesIn W a len bs := by
  obtain ⟨a, len, cap, rfl⟩ := okWide_slice ht hv
  obtain ⟨fuel, hf⟩ := h
  rcases open_ints ht he hc hf with ⟨hcs, hx⟩ | ⟨a', len', cap', zs, hcs, _, hl, hm, hzl, hx, hcell, hwz⟩
  · simp [Value.cells] at hcs
    obtain ⟨rfl, rfl, rfl⟩ := hcs
    exact ⟨none, 0, 0, fun _ => 0, rfl, by omega, Or.inl rfl⟩
  · simp [Value.cells] at hcs
    obtain ⟨rfl, rfl, rfl⟩ := hcs
    simp at hzl
    have hsm : len ≤ 140737488355327 := by
      have hd : d = .slice (lits .u8 (zs.take len)) (lits .u8 (zs.drop len)) := congrArg (·.1) hx
      have h1 := hw (((lits (H := H) .u8 (zs.take len)).length + (lits (H := H) .u8 (zs.drop len)).length) * Tryd.prog.bytesOf e) (by rw [hd]; simp [DataW.weights, ht])
      rw [lits_len, lits_len, List.length_take, List.length_drop] at h1
      have h2 : cap ≤ cap * Tryd.prog.bytesOf e := Nat.le_mul_of_pos_right _ hb
      have e1 : min len zs.length + (zs.length - len) = cap := by omega
      rw [e1] at h1
      have : reachBytes ≤ 140737488355327 := by decide
      omega
    refine ⟨some a', len, cap, fun i => (zs.getD i 0).toNat, rfl, hsm, ?_⟩
    rcases Nat.eq_zero_or_pos len with h0 | h0
    · exact Or.inl h0
    · right
      obtain ⟨b, off, rfl, hc'⟩ := ints_at hcell (by omega)
      refine ⟨b, off, rfl, ?_, fun i hi => ?_⟩
      · have := hc' 0 (by omega)
        rcases Nat.lt_or_ge b W.heap.size with h' | h'
        · exact h'
        · simp [World.cell?, Array.getElem?_eq_none h'] at this
      · have hi' : i < zs.length := by omega
        have hm2 : zs.getD i 0 ∈ zs := by rw [List.getD_eq_getElem?_getD, List.getElem?_eq_getElem hi']; exact List.getElem_mem hi'
        have hb8 := bounds_u8 (hwz (zs.getD i 0) hm2)
        have h0 := hc' i hi'
        have e0 : (((zs.getD i 0).toNat : Nat) : Int) = zs.getD i 0 := by omega
        exact ⟨by rw [e0]; exact h0, show (zs.getD i 0).toNat < 256 by omega⟩
theorem crc_wire0 (a : Option Addr) (cap : Nat) (bs : Nat → Nat) (w : World) :
    Calls Tryd.prog 31 #[.slice a 0 cap] w fun e w' => e = .returned (.int .u32 (crcTo bs 0 ^^^ 4294967295 : Nat)) ∧ w' = w := by
  have e1 : bits .xor .u32 4294967295 4294967295 = 0 := by decide +kernel
  go_enter Tryd.func31, Tryd.ntmps31
  go_wp2_with fail
  go_loopw [3, 8] (fun s i wr => s = .int .u32 4294967295 ∧ i = .int .i64 0 ∧ wr = w) (fun _ _ _ => 0)
  case atStart => exact ⟨rfl, rfl, rfl⟩
  case round =>
    obtain ⟨rfl, rfl, rfl⟩ := hrel
    go_wp2_with fail
    go_ret
    exact ⟨by simp [crcTo], rfl⟩
theorem crc_wire_in (a : Option Addr) (len cap : Nat) (bs : Nat → Nat) (w : World) (h : BytesIn w a len bs) (hs : ST w) :
    Calls Tryd.prog 31 #[.slice a len cap] w fun e w' => e = .returned (.int .u32 (crcTo bs len ^^^ 4294967295 : Nat)) ∧ w' = w := by
  obtain ⟨hm, h⟩ := h
  rcases h with rfl | ⟨b, off, rfl, hb, h⟩
  · exact crc_wire0 a cap bs w
  · exact crc_wire b off len cap bs w (by omega) h hs
theorem BytesIn.below {w w' : World} {a : Option Addr} {n : Nat} {bs : Nat → Nat} (h : BytesIn w a n bs) (hb : Below w.heap.size w w') : BytesIn w' a n bs := by
  obtain ⟨hm, h⟩ := h
  refine ⟨hm, ?_⟩
  rcases h with h | ⟨b, off, h0, h1, h2⟩
  · exact Or.inl h
  · exact Or.inr ⟨b, off, h0, Nat.lt_of_lt_of_le h1 hb.size, h2.below hb h1⟩
end Go.Proofs.YtepgcgphnjlcoaaDoor
