
import Derived.Test.YtjmelonjingbhaaDoorHpF
namespace Go.Proofs.YtjmelonjingbhaaDoor.Hp
open Go.RowKit Go.Maps
set_option linter.unusedVariables false
set_option linter.unusedSimpArgs false
set_option maxRecDepth 100000
theorem fnew_any (c : Int) (h : (c == 0) = false) (w : World) : Calls Tryd.prog 17 #[.int .i64 c] w fun e w' => e = .returned (.iface 36 (.int .i64 c)) ∧ w' = w := by
  go_enter Tryd.func17, Tryd.ntmps17
  go_wp2
  go_ret
  exact ⟨rfl, rfl⟩
theorem nums_c (n cap : Nat) (h : n ≤ cap) : n ≤ cap ∧ (0 : Int) ≤ (n : Int) ∧ (n : Int) < (n : Int) + 1 ∧ (n : Int) ≤ (cap : Int) := ⟨h, by omega, by omega, by omega⟩
theorem len_any {w : World} {B hp mb : Nat} {most : Bool} {v : Value} {ex : Option ByteArray} {f : ByteArray → Option Nat} {L : List Ent} {mv : Int} (h : HS w B hp mb most v ex f L mv) :
    Calls Tryd.prog 23 #[.pointer (some ⟨hp, 0, none⟩)] w fun e w' => e = .returned (.int .i64 (L.length : Int)) ∧ w' = w := by
  obtain ⟨a, cap, rfl, _⟩ := h.form
  have c0 := h.c0
  clear h
  go_enter Tryd.func23, Tryd.ntmps23
  go_wp2_with fail
  go_ret
  exact ⟨rfl, rfl⟩
theorem moves_any {w : World} {B hp mb : Nat} {most : Bool} {v : Value} {ex : Option ByteArray} {f : ByteArray → Option Nat} {L : List Ent} {mv : Int} (h : HS w B hp mb most v ex f L mv) :
    Calls Tryd.prog 24 #[.pointer (some ⟨hp, 0, none⟩)] w fun e w' => e = .returned (.int .i64 mv) ∧ w' = w := by
  have c3 := h.c3
  clear h
  go_enter Tryd.func24, Tryd.ntmps24
  go_wp2_with fail
  go_ret
  exact ⟨rfl, rfl⟩
theorem find_none {w : World} {B hp mb : Nat} {most : Bool} {v : Value} {ex : Option ByteArray} {f : ByteArray → Option Nat} {L : List Ent} {mv : Int} (h : HS w B hp mb most v ex f L mv) (s : ByteArray) (hs : s.size ≤ 9223372036854775807) (hf : f s = none) :
    Calls Tryd.prog 20 #[.pointer (some ⟨hp, 0, none⟩), .string s] w fun e w' => e = .returned (.tuple #[.int .i64 0, .iface 36 (.int .i64 4)]) ∧ w' = w := by
  obtain ⟨c, mp, _⟩ := h.mp
  obtain ⟨x, r, _⟩ := mp.look s hs
  rw [hf] at r
  simp only [Option.isSome_none] at r
  have c1 := h.c1
  have kN : Hid (∀ W, Calls Tryd.prog 17 #[.int .i64 4] W fun e w' => e = .returned (.iface 36 (.int .i64 4)) ∧ w' = W) := fnew_any 4 (by decide)
  clear h mp hf
  go_enter Tryd.func20, Tryd.ntmps20
  go_wp2_with fail
  refine Calls.mono (kN.out _) ?_
  rintro e w1 ⟨rfl, hw1⟩
  subst hw1
  go_wp2_with fail
  simp [bodyPost, results, Tryd.results20, go_sem]
theorem find_some {w : World} {B hp mb : Nat} {most : Bool} {v : Value} {ex : Option ByteArray} {f : ByteArray → Option Nat} {L : List Ent} {mv : Int} (h : HS w B hp mb most v ex f L mv) (s : ByteArray) (hs : s.size ≤ 9223372036854775807) (i : Nat) (hf : f s = some i) :
    Calls Tryd.prog 20 #[.pointer (some ⟨hp, 0, none⟩), .string s] w fun e w' => e = .returned (.tuple #[.int .i64 (i : Int), .nilIface]) ∧ w' = w := by
  obtain ⟨c, mp, _⟩ := h.mp
  obtain ⟨x, r, hx⟩ := mp.look s hs
  rw [hf] at r
  simp only [Option.isSome_some] at r
  have c1 := h.c1
  have e1 := hx i hf
  subst e1
  clear h mp hf hx
  go_enter Tryd.func20, Tryd.ntmps20
  go_wp2_with fail
  simp [bodyPost, results, Tryd.results20, go_sem]
theorem top_none {w : World} {B hp mb : Nat} {most : Bool} {v : Value} {ex : Option ByteArray} {f : ByteArray → Option Nat} {mv : Int} (h : HS w B hp mb most v ex f [] mv) :
    Calls Tryd.prog 22 #[.pointer (some ⟨hp, 0, none⟩)] w fun e w' => e = .returned (.tuple #[eV (0, ⟨#[]⟩), .bool false]) ∧ Below w.heap.size w w' := by
  have CL : Hid (∀ W, Below w.heap.size w W → Calls Tryd.prog 23 #[.pointer (some ⟨hp, 0, none⟩)] W fun e w' => e = .returned (.int .i64 0) ∧ w' = W) := fun W hW => len_any (h.below hW)
  have b1 : Hid (Below w.heap.size w (w.alloc (.cells #[.int .i64 0, .string ⟨#[]⟩] 24))) := (Below.refl _ w).alloc (Nat.le_refl _) _
  clear h
  unfold eV
  go_enter Tryd.func22, Tryd.ntmps22
  go_wp2_with fail
  refine Calls.mono (CL.out _ b1.out) ?_
  rintro e w1 ⟨rfl, hw1⟩
  subst hw1
  go_wp2_with fail
  simp [bodyPost, results, Tryd.results22, go_sem]
  exact b1.out
theorem top_some {w : World} {B hp mb : Nat} {most : Bool} {v : Value} {ex : Option ByteArray} {f : ByteArray → Option Nat} {L : List Ent} {mv : Int} (h : HS w B hp mb most v ex f L mv) (hL : 0 < L.length) :
    Calls Tryd.prog 22 #[.pointer (some ⟨hp, 0, none⟩)] w fun e w' => e = .returned (.tuple #[eV (atE L 0), .bool true]) ∧ Below w.heap.size w w' := by
  have CL : Hid (∀ W, Below w.heap.size w W → Calls Tryd.prog 23 #[.pointer (some ⟨hp, 0, none⟩)] W fun e w' => e = .returned (.int .i64 (L.length : Int)) ∧ w' = W) := fun W hW => len_any (h.below hW)
  have b1 : Below w.heap.size w (w.alloc (.cells #[.int .i64 0, .string ⟨#[]⟩] 24)) := (Below.refl _ w).alloc (Nat.le_refl _) _
  obtain ⟨a, cap, rfl, hg⟩ := h.form
  obtain ⟨g, rfl⟩ := hg hL
  have h1 := h.below b1
  have c0 := h1.c0
  obtain ⟨a1, a2⟩ := h1.at hL
  have hN : (L.length : Int) ≠ 0 := by omega
  have hN2 : ¬ (L.length : Int) = 0 := by omega
  have iI : (0 : Int) < (L.length : Int) := by omega
  simp only [Nat.zero_mul, Nat.zero_add] at a1 a2
  have b1H : Hid _ := b1
  generalize L.length = n at *
  generalize atE L 0 = x at *
  clear h h1 hg b1 hL
  unfold eV
  go_enter Tryd.func22, Tryd.ntmps22
  go_wp2_with fail
  refine Calls.mono (CL.out _ b1H.out) ?_
  rintro e w1 ⟨rfl, hw1⟩
  subst hw1
  go_wp2_with fail
  simp [bodyPost, results, Tryd.results22, go_sem]
  exact (Below.refl _ w).alloc (Nat.le_refl _) _
theorem hnew_any (most : Bool) (w : World) : Calls Tryd.prog 12 #[.bool most] w fun e w' => e = .returned (.pointer (some ⟨w.heap.size + 1, 0, none⟩)) ∧ HS w' (w.heap.size + 2) (w.heap.size + 1) w.heap.size most (.slice none 0 0) none (fun _ => none) [] 0 ∧ Below w.heap.size w w' := by
  have hmk : ∀ W, (Instr.makeMap 46 none).run Tryd.prog W = .ok (.map (some W.heap.size)) (W.alloc (.map #[] 0)) := fun W => by
    first | exact run_makeMap_none W | (simp [Instr.makeMap, go_sem]; done) | (unfold Instr.makeMap; simp [newObj, go_sem])
  have hst : ∀ (W : World) (a : Addr) (k : Nat), (store a (.func (.func k) #[] #[])).run Tryd.prog W = stored Tryd.prog W a (.func (.func k) #[] #[]) .plain := fun W a k => run_store Tryd.prog W a (.func (.func k) #[] #[]) .plain rfl
  have RES : Hid (∀ W, W = (w.alloc (.map #[] 0)).alloc (.cells #[.slice none 0 0, .map (some w.heap.size), .func (.func (fnM most)) #[] #[], .int .i64 0] 49) → HS W (w.heap.size + 2) (w.heap.size + 1) w.heap.size most (.slice none 0 0) none (fun _ => none) [] 0 ∧ Below w.heap.size w W) := fun W e => by
    have hb : Below w.heap.size w W := by rw [e]; exact ((Below.refl _ w).alloc (Nat.le_refl _) _).alloc (by simp) _
    refine ⟨⟨?_, ?_, ?_, ?_, ?_, ?_, ⟨rfl, Or.inl ⟨rfl, rfl⟩⟩, ⟨0, ?_, by omega⟩, ⟨fun _ h => by (cases h), fun s i _ => ⟨fun h => by (cases h), fun h => by simp at h⟩⟩, ⟨by omega, by omega, by omega⟩, fun _ h => by (cases h), ?_, fun s hs => by (cases hs)⟩, hb⟩
    all_goals first | (rw [e]; simp [go_sem]; done) | skip
    · rw [e]; exact (MP.start w).keep (((Below.refl _ (w.alloc (.map #[] 0))).alloc (Nat.le_refl _) _).block _ (by simp))
  cases most
  all_goals
    unfold fnM at RES
    simp only [if_true, if_false, Bool.false_eq_true] at RES
    go_enter Tryd.func12, Tryd.ntmps12
    go_wp2_with fail
    go_ret
    exact ⟨rfl, RES.out _ rfl⟩
/-- behind cut: the row is one shorter, the map as it was. -/
structure CT (w : World) (B hp mb g cap : Nat) (L : List Ent) (w' : World) : Prop where
  row : w'.ownsRow B 24 2 (.slice (some ⟨g, 0, none⟩) L.length cap) L.length (encE L)
  c0 : w'.cell? ⟨hp, 0, none⟩ = some (.slice (some ⟨g, 0, none⟩) L.length cap)
  cs : ∀ o, o ≠ 0 → w'.cell? ⟨hp, o, none⟩ = w.cell? ⟨hp, o, none⟩
  zs : ∀ o, w'.frozen? ⟨hp, o, none⟩ = w.frozen? ⟨hp, o, none⟩
  keep : ∀ b, b < w.heap.size → b ≠ hp → b ≠ g → w'.heap[b]? = w.heap[b]?
  size : w.heap.size ≤ w'.heap.size
  same : w'.os = w.os ∧ w'.tape = w.tape ∧ w'.output = w.output
set_option maxRecDepth 100000 in
set_option maxHeartbeats 4000000 in
theorem cut_any {w : World} {B hp mb g cap : Nat} {most : Bool} {ex : Option ByteArray} {f : ByteArray → Option Nat} {L : List Ent} {x : Ent} {mv : Int} (h : HS w B hp mb most (.slice (some ⟨g, 0, none⟩) (L.length + 1) cap) ex f (L ++ [x]) mv) (hn : L.length + 1 ≤ 1099511627776) :
    Calls Tryd.prog 26 #[.pointer (some ⟨hp, 0, none⟩)] w fun e w' => e = .returned (eV x) ∧ CT w B hp mb g cap L w' := by
  have LL : (L ++ [x]).length = L.length + 1 := by simp
  obtain ⟨ll, ncap, gB, gl, lc⟩ := h.len
  have c0 := h.c0
  have z0 := h.z0
  have hl := h.hl
  have hB := h.hw.hB
  obtain ⟨c1, c2⟩ := h.at (i := L.length) (by omega)
  rw [show atE (L ++ [x]) L.length = x from atE_get (by simp)] at c1 c2
  have row := h.row
  rw [LL] at row
  have z1 := World.ownsRow.frozenAt row (L.length * 2)
  have z2 := World.ownsRow.frozenAt row (L.length * 2 + 1)
  have ne : hp ≠ g := by omega
  have ne2 : g ≠ hp := by omega
  have t1 := World.ownsRow.stored row (L.length * 2) (.int .i64 0)
  have t2 := World.ownsRow.stored t1.1 (L.length * 2 + 1) (.string ⟨#[]⟩)
  rw [encE_put (L ++ [x]) L.length (0, ⟨#[]⟩) (by omega), List.set_append_right _ _ (Nat.le_refl _), Nat.sub_self, encE_append] at t2
  obtain ⟨W2, hW2⟩ : ∃ W2, W2 = (w.setCell ⟨g, L.length * 2, none⟩ (.int .i64 0)).setCell ⟨g, L.length * 2 + 1, none⟩ (.string ⟨#[]⟩) := ⟨_, rfl⟩
  rw [← hW2] at t2
  have g2 : w.grownBy W2 (some g) := ⟨t2.2.os.trans t1.2.os, t2.2.tape.trans t1.2.tape, t2.2.output.trans t1.2.output, Nat.le_trans t1.2.size t2.2.size, fun k hk q => by rw [t2.2.block k (Nat.lt_of_lt_of_le hk t1.2.size) q]; exact t1.2.block k hk q⟩
  have r2 := ownsRow_pop (encE_len L) t2.1
  have sz2 : W2.heap.size = w.heap.size := by rw [hW2]; simp
  obtain ⟨W3, hW3⟩ : ∃ W3, W3 = W2.setCell ⟨hp, 0, none⟩ (.slice (some ⟨g, 0, none⟩) L.length cap) := ⟨_, rfl⟩
  have r3 := ownsRow_setCell_below r2 (a := ⟨hp, 0, none⟩) (by show hp < B; exact hB) (.slice (some ⟨g, 0, none⟩) L.length cap)
  rw [← hW3] at r3
  have sz3 : W3.heap.size = w.heap.size := by rw [hW3]; simp [sz2]
  have k2 : W2.heap[hp]? = w.heap[hp]? := g2.block hp hl (fun e => ne (by injection e))
  have c20 : ∀ o, W2.cell? ⟨hp, o, none⟩ = w.cell? ⟨hp, o, none⟩ := fun o => World.cell?_of_block (w := w) (a := ⟨hp, o, none⟩) k2
  have z20 : ∀ o, W2.frozen? ⟨hp, o, none⟩ = w.frozen? ⟨hp, o, none⟩ := fun o => by simp [World.frozen?, k2]
  have RES : Hid (∀ W, Below W3.heap.size W3 W → CT w B hp mb g cap L W) := fun W hb => by
    refine ⟨?_, ?_, fun o ho => ?_, fun o => ?_, fun b hb1 q1 q2 => ?_, by rw [← sz3]; exact hb.size, ?_⟩
    · exact ⟨r3.1, by
        rcases r3.2 with h2 | ⟨g', cap', cur, e1, e2, e3, e4⟩
        · exact Or.inl h2
        · exact Or.inr ⟨g', cap', cur, e1, e2, by rw [hb.block g' (Array.getElem?_eq_some_iff.1 e3).1]; exact e3, e4⟩⟩
    · rw [hb.cell (p := ⟨hp, 0, none⟩) (by rw [sz3]; exact hl), hW3]
      exact World.cell?_setCell_same _ _ _ (by rw [c20]; exact c0)
    · rw [hb.cell (p := ⟨hp, o, none⟩) (by rw [sz3]; exact hl), hW3, World.cell?_setCell_other _ _ _ _ (by intro e; injection e; omega), c20]
    · rw [hb.frozen (p := ⟨hp, o, none⟩) (by rw [sz3]; exact hl), hW3, World.frozen?_setCell, z20]
    · rw [hb.block b (by rw [sz3]; exact hb1), hW3, Below.heap_setCell _ _ _ _ (fun e => q1 e)]
      exact g2.block b hb1 (fun e => q2 (by injection e))
    · exact ⟨hb.os.trans (by rw [hW3]; exact g2.os), hb.tape.trans (by rw [hW3]; exact g2.tape), hb.output.trans (by rw [hW3]; exact g2.output)⟩
  obtain ⟨nw1, nw2, nw3, nw4⟩ := nums_n L.length hn
  obtain ⟨ncap2, i0, i1, i2⟩ := nums_c L.length cap (by rw [LL] at ncap; exact Nat.le_of_succ_le ncap)
  have eW : Hid (((w.setCell ⟨g, L.length * 2, none⟩ (.int .i64 0)).setCell ⟨g, L.length * 2 + 1, none⟩ (.string ⟨#[]⟩)).setCell ⟨hp, 0, none⟩ (.slice (some ⟨g, 0, none⟩) L.length cap) = W3) := by show _ = W3; rw [hW3, hW2]
  unfold eV
  clear ll lc h hW2 hW3 row t1 t2 r2 r3 g2 k2 c20 z20 sz2 sz3 hB gB hn LL ncap
  generalize L.length = n at *
  go_enter Tryd.func26, Tryd.ntmps26
  go_wp2_with fail
  simp [bodyPost, results, Tryd.results26, go_sem]
  rw [eW.out]
  exact RES.out _ (((Below.refl _ W3).alloc (Nat.le_refl _) _).alloc (by simp) _)
end Go.Proofs.YtjmelonjingbhaaDoor.Hp
