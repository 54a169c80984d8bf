
import Derived.Test.YtboacnpbicedfaaGreatDoorByE
import Derived.Test.YtboacnpbicedfaaGreatDoorSrtF
import Derived.Test.YtboacnpbicedfaaGreatDoorByD
import Derived.Test.YtboacnpbicedfaaGreatDoorHuLq
namespace Go.Proofs.YtboacnpbicedfaaGreatDoor.Hp
open Go.RowKit Go.Maps
set_option linter.unusedVariables false
set_option linter.unusedSimpArgs false
set_option maxRecDepth 100000
/-! ### Sorted -/
def encP (x : Ent) : List Value := [.int .i64 x.1, .string x.2]
theorem flat_get (d : Array Ent) (j : Nat) (hj : j < d.size * 2) : (encE d.toList)[j]? = some ((Sort.flatK encP 2 d)[j]!) := by
  rw [Sort.get_flatK encP 2 d j hj]
  have hj2 : j / 2 < d.size := by omega
  have hs : d.toList[j / 2]? = some d[j / 2]! := by
    rw [Array.getElem?_toList, Array.getElem?_eq_getElem hj2, getElem!_pos d (j / 2) hj2]
  obtain ⟨e1, e2⟩ := encE_get d.toList _ _ hs
  rcases (by omega : j % 2 = 0 ∨ j % 2 = 1) with q | q
  · rw [q]
    rw [show j / 2 * 2 = j by omega] at e1
    rw [e1]; rfl
  · rw [q]
    rw [show j / 2 * 2 + 1 = j by omega] at e2
    rw [e2]; rfl
theorem OE.holds {W : World} {B g cap : Nat} {L : List Ent} (h : OE W B (.slice (some ⟨g, 0, none⟩) L.length cap) L) : Sort.HoldsK encP 2 W g 0 L.toArray := by
  intro j hj
  rw [Sort.size_flatK] at hj
  have hcs := World.ownsRow.cells h (g := g) rfl
  have := hcs j _ (flat_get L.toArray j hj)
  rw [add_lt0] at this
  exact ⟨this, World.ownsRow.frozenAt h _⟩
theorem sort_heap (W : World) (g n : Nat) (d : Array Ent) (os : Array Obj) (k : Nat) (hk : k < W.heap.size) : (sortWorldK encP 2 W g 0 n d os).heap[k]? = if g = k then (W.heap[k]?).map (Sort.onCells (Sort.putCells id 0 (Sort.flatK encP 2 d))) else W.heap[k]? := by
  show ((W.heap.modify g (Sort.onCells (Sort.putCells id 0 (Sort.flatK encP 2 d)))) ++ os)[k]? = _
  rw [Array.getElem?_append_left (by simpa using hk), Array.getElem?_modify]
theorem sort_row {W : World} {B g cap : Nat} {L : List Ent} (h : OE W B (.slice (some ⟨g, 0, none⟩) L.length cap) L) (M : List Ent) (hM : M.length = L.length) (n : Nat) (os : Array Obj) : OE (sortWorldK encP 2 W g 0 n M.toArray os) B (.slice (some ⟨g, 0, none⟩) M.length cap) M ∧ Below B W (sortWorldK encP 2 W g 0 n M.toArray os) := by
  obtain ⟨hBg, hgl⟩ := World.ownsRow.lt h g rfl
  refine ⟨⟨encE_len M, Or.inr ?_⟩, rfl, rfl, rfl, ?_, fun k hk => ?_⟩
  · rcases h.2 with ⟨e, _⟩ | ⟨g', cap', cur, e1, e2, e3, e4, e5, e6, e7⟩
    · cases e
    · injection e1 with q1 q2 q3
      injection q1 with q1
      injection q1 with q1
      subst q1 q3
      refine ⟨g, cap, Sort.putCells id 0 (Sort.flatK encP 2 M.toArray) cur, rfl, hBg, ?_, by omega, e5, by simp [Sort.putCells, e6], ?_⟩
      · rw [sort_heap _ _ _ _ _ _ hgl, if_pos rfl, e3]; rfl
      · apply List.ext_getElem?
        intro j
        by_cases hj : j < M.length * 2
        · have hc : j < cur.size := by omega
          rw [List.getElem?_take, if_pos hj, Array.getElem?_toList]
          have := flat_get M.toArray j (by simpa using hj)
          rw [this]
          unfold Sort.putCells
          rw [Array.getElem?_mapIdx, Array.getElem?_eq_getElem hc]
          simp [hj]
        · rw [List.getElem?_eq_none (by simp; omega), List.getElem?_eq_none (by rw [encE_len]; omega)]
  · show W.heap.size ≤ ((W.heap.modify g (Sort.onCells (Sort.putCells id 0 (Sort.flatK encP 2 M.toArray)))) ++ os).size
    simp
  · by_cases hk2 : k < W.heap.size
    · rw [sort_heap _ _ _ _ _ _ hk2, if_neg (by omega)]
    · omega
theorem cf_lt (most : Bool) : ltOf (cfE most) = ahd most := by
  funext x y
  unfold ltOf cfE
  cases h : ahd most x y with
  | true => simp
  | false => cases h2 : ahd most y x <;> simp
theorem cmp_lays {W : World} {g hb hp n : Nat} {most : Bool} (h1 : W.cell? ⟨hb, 0, none⟩ = some (.pointer (some ⟨hp, 0, none⟩))) (h2 : W.cell? ⟨hp, 2, none⟩ = some (.func (.func (fnM most)) #[] #[])) (l1 : hb < W.heap.size) (l2 : hp < W.heap.size) (n1 : hb ≠ g) (n2 : hp ≠ g) : CmpLays Tryz.prog 66 #[.pointer (some ⟨hb, 0, none⟩)] encP 2 (cfE most) g 0 n W := by
  intro m os dk hs x y
  have c : ∀ a : Addr, a.block ≠ g → a.block < W.heap.size → (sortWorldK encP 2 W g 0 m dk os).cell? a = W.cell? a := fun a q1 q2 => by
    unfold sortWorldK
    rw [Sort.cell?_grow _ _ _ (by rw [Sort.size_putRowK]; exact q2), Sort.cell?_putRowK_other _ _ _ _ _ _ _ q1]
    rfl
  have sz : W.heap.size ≤ (sortWorldK encP 2 W g 0 m dk os).heap.size := by unfold sortWorldK; rw [Sort.size_grow, Sort.size_putRowK]; show W.heap.size ≤ W.heap.size + _; omega
  exact sorted1_any most x y hb hp _ (by rw [c ⟨hb, 0, none⟩ n1 l1]; exact h1) (by rw [c ⟨hp, 2, none⟩ n2 l2]; exact h2) (by omega) (by omega)
/-- slices.SortFunc of entries of one's own, by a heap's order. -/
theorem sortE_any {W : World} {B hb hp : Nat} {v : Value} {L : List Ent} {most : Bool} (h : OE W B v L) (h1 : W.cell? ⟨hb, 0, none⟩ = some (.pointer (some ⟨hp, 0, none⟩))) (h2 : W.cell? ⟨hp, 2, none⟩ = some (.func (.func (fnM most)) #[] #[])) (l1 : hb < B) (l2 : hp < B) (hB : B ≤ W.heap.size) (hn : L.length ≤ 1099511627776) :
    Calls Tryz.prog 65 #[v, .func (.func 66) #[] #[.pointer (some ⟨hb, 0, none⟩)]] W fun e w' => e = .returned (.tuple #[]) ∧ OE w' B v (srtL most L) ∧ Below B W w' := by
  rcases h.2 with ⟨e, e0⟩ | ⟨g, cap, cur, e1, e2, e3, _⟩
  · have eL := List.eq_nil_of_length_eq_zero e0
    subst e eL
    have hcon := AnyF.slices_SortFunc_none Tryz.sortE none 0 (.func (.func 66) #[] #[.pointer (some ⟨hb, 0, none⟩)]) W
    change Calls Tryz.prog 65 _ _ _ at hcon
    refine hcon.mono fun e w' hh => ⟨hh.1, ?_⟩
    rw [hh.2]
    have e : srtL most [] = [] := List.eq_nil_of_length_eq_zero (srtL_len most [])
    rw [e]
    exact ⟨OE.nil _ _, Below.refl _ _⟩
  · subst e1
    have eg : ∀ args w, (callFunc 66 args).run Tryz.prog w = .ok (.enter 66 args) w := enters_of Tryz.func66 (by kernel_rfl) rfl
    have hgl := (World.ownsRow.lt h g rfl).2
    have hO : Sort.SWO (ltOf (cfE most)) := by rw [cf_lt]; exact ahd_swo most
    have hT : ∀ x y, ltOf (cfE most) x y = false → ltOf (cfE most) y x = false → x = y := by rw [cf_lt]; exact ahd_anti most
    have hcon := AnyQ.slices_SortFunc_total Tryz.sortE 2 Tryz.isAgg30 Tryz.sizeOf30 encP (fun _ => rfl) (fun x v hv => by simp [encP] at hv; rcases hv with rfl | rfl <;> rfl) (cfE most) hO 66 #[.pointer (some ⟨hb, 0, none⟩)] g 0 cap L.toArray W eg (cmp_lays h1 h2 (by omega) (by omega) (by omega) (by omega)) h.holds hgl (by simp; omega) hT
    change Calls Tryz.prog 65 _ _ _ at hcon
    refine hcon.mono fun e w' hh => ⟨hh.1, ?_⟩
    obtain ⟨n, os, rfl⟩ := hh.2
    rw [cf_lt]
    have := sort_row h (srtL most L) (srtL_len most L) n os
    rw [srtL_len] at this
    unfold OE
    rw [srtL_len]
    have h3 := this.1
    unfold OE at h3
    rw [srtL_len] at h3
    exact ⟨h3, this.2⟩
theorem OE.less {w : World} {B C : Nat} {v : Value} {l : List Ent} (h : OE w B v l) (hC : C ≤ B) : OE w C v l := by
  refine ⟨h.1, ?_⟩
  rcases h.2 with h2 | ⟨g, cap, cur, e1, e2, e3⟩
  · exact Or.inl h2
  · exact Or.inr ⟨g, cap, cur, e1, by omega, e3⟩
set_option maxHeartbeats 4000000 in
/-- all entries, the top first. -/
theorem sorted_any {w : World} {B hp mb : Nat} {most : Bool} {v : Value} {ex : Option ByteArray} {f : ByteArray → Option Nat} {L : List Ent} {mv : Int} (h : HS w B hp mb most v ex f L mv) (hn : L.length ≤ 1099511627776) :
    Calls Tryz.prog 44 #[.pointer (some ⟨hp, 0, none⟩)] w fun e w' => ∃ v, e = .returned v ∧ OE w' w.heap.size v (srtL most L) ∧ Below w.heap.size w w' := by
  obtain ⟨W1, hW1⟩ : ∃ W1, W1 = w.alloc (.cells #[.pointer (some ⟨hp, 0, none⟩)] 23) := ⟨_, rfl⟩
  have b1 : Below w.heap.size w W1 := by rw [hW1]; exact (Below.refl _ w).alloc (Nat.le_refl _) _
  have s1 : W1.heap.size = w.heap.size + 1 := by rw [hW1]; simp
  have p1 : W1.cell? ⟨w.heap.size, 0, none⟩ = some (.pointer (some ⟨hp, 0, none⟩)) := by rw [hW1]; simp [go_sem]
  have hl := h.hl
  have h1 := h.below b1
  have CLs : Hid _ := list_any h1 (by omega)
  have CS : Hid (∀ w2 v2, OE w2 W1.heap.size v2 L → Below W1.heap.size W1 w2 → Calls Tryz.prog 65 #[v2, .func (.func 66) #[] #[.pointer (some ⟨w.heap.size, 0, none⟩)]] w2 fun e w' => e = .returned (.tuple #[]) ∧ OE w' w.heap.size v2 (srtL most L) ∧ Below w.heap.size w w') := fun w2 v2 o2 b2 => by
    have h2 := h1.below b2
    refine (sortE_any (most := most) o2 (by rw [b2.cell (p := ⟨w.heap.size, 0, none⟩) (by show w.heap.size < _; omega)]; exact p1) h2.c2 (by omega) (by omega) b2.size hn).mono fun e w' hh => ⟨hh.1, hh.2.1.less (by omega), ?_⟩
    exact below_trans b1 (below_less (below_trans b2 hh.2.2) (by omega))
  have hW1H : Hid (w.alloc (.cells #[.pointer (some ⟨hp, 0, none⟩)] 23) = W1) := hW1.symm
  clear h h1 hW1 b1 s1 hl hn
  go_enter Tryz.func44, Tryz.ntmps44
  go_wp2_with fail
  rw [hW1H.out]
  clear hW1H
  go_wp2_with fail
  refine Calls.mono CLs.out ?_
  rintro e w2 ⟨v2, rfl, o2, b2⟩
  have C2 : Hid _ := CS.out w2 v2 o2 b2
  clear CS CLs o2 b2 p1
  go_wp2_with fail
  refine Calls.mono C2.out ?_
  rintro e w3 ⟨rfl, fin⟩
  have finH : Hid _ := fin
  clear fin C2
  go_wp2_with fail
  go_ret
  exact ⟨v2, rfl, finH.out⟩
end Go.Proofs.YtboacnpbicedfaaGreatDoor.Hp

namespace Go.Proofs.YtboacnpbicedfaaGreatDoor.Hp
open Go.RowKit Go.Maps
set_option linter.unusedVariables false
set_option linter.unusedSimpArgs false
set_option maxRecDepth 100000
set_option maxHeartbeats 8000000 in
/-- two rows that hold the same. -/
theorem same_true (a a2 : Option Addr) (c c2 : Nat) (l : List Ent) (w : World) (h : EnIn w a l) (h2 : EnIn w a2 l) (hn : l.length ≤ 1099511627776) :
    Calls Tryz.prog 42 #[.slice a l.length c, .slice a2 l.length c2] w fun e w' => e = .returned (.bool true) ∧ Below w.heap.size w w' := by
  have hH : Hid (EnIn w a l) := h
  have hH2 : Hid (EnIn w a2 l) := h2
  have hbb : ((l.length : Int) == (l.length : Int)) = true := by simp
  clear h h2
  go_enter Tryz.func42, Tryz.ntmps42
  go_wp2_with fail
  go_loopw [5] (fun v5 wr => ∃ (i : Nat), v5 = .int .i64 (i : Int) ∧ i ≤ l.length ∧ Hid (Below w.heap.size w wr)) (fun v5 _ => l.length - (intOf v5).toNat)
  case atStart => exact ⟨0, rfl, Nat.zero_le _, Below.refl _ _⟩
  case round =>
    obtain ⟨i, rfl, hil, hb⟩ := hrel
    by_cases hi : i < l.length
    · obtain ⟨i0, iI, iw, _⟩ := nums_j i l.length hi (by omega)
      have hs := atE_some hi
      obtain ⟨b, off, rfl, hbl, hcs⟩ : ∃ b off, a = some ⟨b, off, none⟩ ∧ b < wr.heap.size ∧ ∀ i t, l[i]? = some t → wr.cell? ⟨b, off + i * 2, none⟩ = some (.int .i64 t.1) ∧ wr.cell? ⟨b, off + i * 2 + 1, none⟩ = some (.string t.2) := by
        rcases hH.out.below hb.out with q | q
        · rw [q] at hi; simp at hi
        · exact q
      obtain ⟨b2, off2, rfl, hbl2, hcs2⟩ : ∃ b off, a2 = some ⟨b, off, none⟩ ∧ b < wr.heap.size ∧ ∀ i t, l[i]? = some t → wr.cell? ⟨b, off + i * 2, none⟩ = some (.int .i64 t.1) ∧ wr.cell? ⟨b, off + i * 2 + 1, none⟩ = some (.string t.2) := by
        rcases hH2.out.below hb.out with q | q
        · rw [q] at hi; simp at hi
        · exact q
      obtain ⟨p1, p2⟩ := hcs i _ hs
      obtain ⟨q1, q2⟩ := hcs2 i _ hs
      have hbd : ∀ k, Hid (Below w.heap.size w (wr.drewN k)) := fun k => by
        have := hb.out
        exact ⟨this.os, this.tape, this.output, this.size, this.block⟩
      clear hcs hcs2 hs
      generalize atE l i = x at *
      have mixed : Tryz.prog.follows .mixedOrders = true := by kernel_rfl
      go_wp2_with fail
      go_quiet (fail)
      go_wp2_with fail
      exact ⟨⟨i + 1, rfl, hi, hbd nq⟩, by first | (simp [intOf]; done) | (simp [intOf]; omega)⟩
    · have hlt : ¬ (i : Int) < (l.length : Int) := by omega
      go_wp2_with fail
      go_ret
      exact ⟨rfl, hb.out⟩
end Go.Proofs.YtboacnpbicedfaaGreatDoor.Hp

namespace Go.Proofs.YtboacnpbicedfaaGreatDoor.Hp
open Go.RowKit Go.Maps
set_option linter.unusedVariables false
set_option linter.unusedSimpArgs false
set_option maxRecDepth 100000
theorem get_none {w : World} {B hp mb : Nat} {most : Bool} {v : Value} {f : ByteArray → Option Nat} {L : List Ent} {mv : Int} (h : HS w B hp mb most v none f L mv) (s : ByteArray) (hs : s.size ≤ 9223372036854775807) (hf : f s = none) :
    Calls Tryz.prog 38 #[.pointer (some ⟨hp, 0, none⟩), .string s] w fun e w' => e = .returned (.tuple #[eV (0, ⟨#[]⟩), .bool false]) ∧ Below w.heap.size w w' := by
  have b1 : Hid (Below w.heap.size w (w.alloc (.cells #[.int .i64 0, .string ⟨#[]⟩] 30))) := (Below.refl _ w).alloc (Nat.le_refl _) _
  have CF : Hid _ := find_none (h.below b1.out) s hs hf
  clear h
  unfold eV
  go_enter Tryz.func38, Tryz.ntmps38
  go_wp2_with fail
  refine Calls.mono CF.out ?_
  rintro e w1 ⟨rfl, hw1⟩
  subst hw1
  go_wp2_with fail
  simp [bodyPost, results, Tryz.results38, go_sem]
  exact b1.out
theorem get_some {w : World} {B hp mb : Nat} {most : Bool} {v : Value} {f : ByteArray → Option Nat} {L : List Ent} {mv : Int} (h : HS w B hp mb most v none f L mv) (s : ByteArray) (hs : s.size ≤ 9223372036854775807) (i : Nat) (hf : f s = some i) :
    Calls Tryz.prog 38 #[.pointer (some ⟨hp, 0, none⟩), .string s] w fun e w' => e = .returned (.tuple #[eV (atE L i), .bool true]) ∧ Below w.heap.size w w' := by
  have b1 : Below w.heap.size w (w.alloc (.cells #[.int .i64 0, .string ⟨#[]⟩] 30)) := (Below.refl _ w).alloc (Nat.le_refl _) _
  obtain ⟨hi, hnm⟩ := h.pl.lt (by simp) hf
  obtain ⟨a, cap, rfl, hg⟩ := h.form
  obtain ⟨g, rfl⟩ := hg (by omega)
  have h1 := h.below b1
  have CF : Hid _ := find_some h1 s hs i hf
  have c0 := h1.c0
  obtain ⟨a1, a2⟩ := h1.at hi
  have i0 : (0 : Int) ≤ (i : Int) := Int.natCast_nonneg i
  have iI : (i : Int) < (L.length : Int) := Int.ofNat_lt.2 hi
  generalize L.length = n at *
  generalize atE L i = x at *
  clear h h1 hg hi hnm hf b1
  unfold eV
  go_enter Tryz.func38, Tryz.ntmps38
  go_wp2_with fail
  refine Calls.mono CF.out ?_
  rintro e w1 ⟨rfl, hw1⟩
  subst hw1
  clear CF
  go_wp2_with fail
  simp [bodyPost, results, Tryz.results38, go_sem]
  exact (Below.refl _ w).alloc (Nat.le_refl _) _
end Go.Proofs.YtboacnpbicedfaaGreatDoor.Hp

namespace Go.Proofs.YtboacnpbicedfaaGreatDoor.Hp
open Go.RowKit Go.Maps
set_option linter.unusedVariables false
set_option linter.unusedSimpArgs false
set_option maxRecDepth 100000
set_option maxHeartbeats 4000000 in
theorem hsorted_nil (w : World) : Calls Tryz.prog 44 #[.pointer none] w fun e w' => e = .returned (.slice none 0 0) ∧ Below w.heap.size w w' := by
  obtain ⟨W1, hW1⟩ : ∃ W1, W1 = w.alloc (.cells #[.pointer none] 23) := ⟨_, rfl⟩
  have b1 : Hid (Below w.heap.size w W1) := by show Below _ _ _; rw [hW1]; exact (Below.refl _ w).alloc (Nat.le_refl _) _
  have p1 : W1.cell? ⟨w.heap.size, 0, none⟩ = some (.pointer none) := by rw [hW1]; simp [go_sem]
  have CL : Hid _ := hlist_nil W1
  have CS : Hid (Calls Tryz.prog 65 #[.slice none 0 0, .func (.func 66) #[] #[.pointer (some ⟨w.heap.size, 0, none⟩)]] W1 fun e w' => e = .returned (.tuple #[]) ∧ w' = W1) := by
    have hcon := AnyF.slices_SortFunc_none Tryz.sortE none 0 (.func (.func 66) #[] #[.pointer (some ⟨w.heap.size, 0, none⟩)]) W1
    change Calls Tryz.prog 65 _ _ _ at hcon
    exact hcon.mono fun e w' hh => ⟨hh.1, hh.2⟩
  have hW1H : Hid (w.alloc (.cells #[.pointer none] 23) = W1) := hW1.symm
  clear hW1
  go_enter Tryz.func44, Tryz.ntmps44
  go_wp2_with fail
  rw [hW1H.out]
  clear hW1H
  go_wp2_with fail
  refine Calls.mono CL.out ?_
  rintro e w2 ⟨rfl, hw2⟩
  subst hw2
  clear CL
  go_wp2_with fail
  refine Calls.mono CS.out ?_
  rintro e w3 ⟨rfl, hw3⟩
  subst hw3
  clear CS
  go_wp2_with fail
  go_ret
  exact ⟨rfl, b1.out⟩
end Go.Proofs.YtboacnpbicedfaaGreatDoor.Hp
