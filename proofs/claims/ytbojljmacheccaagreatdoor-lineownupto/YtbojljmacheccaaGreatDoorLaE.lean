
import Derived.Test.YtbojljmacheccaaGreatDoorChainAhit
import Derived.Test.YtbojljmacheccaaGreatDoorLaB
import Derived.Defers
import Derived.Test.YtbojljmacheccaaGreatDoorKyC
import Derived.Lib.SpaceUEq
import Derived.Laws.RangeAny
import Derived.Laws.RangeString
import Derived.Laws.Runes
import Derived.WalkMore
namespace Go.Proofs.YtbojljmacheccaaGreatDoor
open Go.RowKit
set_option linter.unusedVariables false
set_option linter.unusedSimpArgs false
theorem errV_iface (l : List (Bool × Int)) (c : Int) : ∃ t v, errV l c = .iface t v := by
  rcases l with _ | ⟨⟨_ | _, n⟩, l⟩
  · exact ⟨_, _, rfl⟩
  · exact ⟨_, _, rfl⟩
  · exact ⟨_, _, rfl⟩
theorem find_deferA (w : World) : CallsD Tryz.prog 189 #[] .returning w fun e u' w' => e = .returned (.tuple #[]) ∧ u' = .returning ∧ w' = w := by
  refine callsD_of_wpS Tryz.func189 rfl fun c₀ cs hu => ?_
  apply wpS_region
  simp [wpOpsS, go_sem, recoverD, hu, Tryz.ntmps189, Exit.thenS]
  cases c₀
  simp_all [bodyPostS, results, Tryz.results189]
theorem find_A_hit (l : List (Bool × Int)) (c n : Int) (r : List (Bool × Int)) (hf : findK false l = some (n, r)) (w : World) (hg : ET w) : Calls Tryz.prog 164 #[errV l c] w fun e w' => e = .returned (.tuple #[.agg #[.int .i64 n, errV r c], .bool true]) ∧ Below w.heap.size w w' := by
  have hfH : Hid _ := hf
  clear hf
  obtain ⟨W, hW⟩ : ∃ W, W = (w.alloc (.cells #[.int .i64 0, .nilIface] 105)).alloc (.cells #[.int .i64 0, .nilIface] 105) := ⟨_, rfl⟩
  have hB0 : Below w.heap.size w W := by rw [hW]; exact below_new (below_new (Below.refl _ _) _) _
  have hz : W.heap.size = w.heap.size + 1 + 1 := by rw [hW]; simp
  have a0 : W.cell? ⟨w.heap.size, 0, none⟩ = some (.int .i64 0) := by rw [hW]; simp [go_sem]
  have a1 : W.cell? ⟨w.heap.size, 1, none⟩ = some .nilIface := by rw [hW]; simp [go_sem]
  have f0 : W.frozen? ⟨w.heap.size, 0, none⟩ = false := by rw [hW]; simp [go_sem]
  have f1 : W.frozen? ⟨w.heap.size, 1, none⟩ = false := by rw [hW]; simp [go_sem]
  have k0 : W.cell? ⟨w.heap.size + 1, 0, none⟩ = some (.int .i64 0) := by rw [hW]; simp [go_sem]
  have k1 : W.cell? ⟨w.heap.size + 1, 0 + 1, none⟩ = some .nilIface := by rw [hW]; simp [go_sem]
  have j0 : W.frozen? ⟨w.heap.size + 1, 0, none⟩ = false := by rw [hW]; simp [go_sem]
  have j1 : W.frozen? ⟨w.heap.size + 1, 0 + 1, none⟩ = false := by rw [hW]; simp [go_sem]
  have gW := ET_below hg hB0
  have hWH : Hid _ := hW
  have hR := chain_A_hit l c n r hfH.out (w.heap.size + 1) 0 _ _ W gW k0 k1 j0 j1
  obtain ⟨tt, pp, hV⟩ := errV_iface r c
  rw [hV] at hR ⊢
  have hRH : Hid _ := hR
  have hk : Hid (W.cell? ⟨w.heap.size + 1, 0, none⟩ = some (.int .i64 0) ∧ W.cell? ⟨w.heap.size + 1, 1, none⟩ = some .nilIface) := ⟨k0, k1⟩
  clear hW hR hV k0 k1 j0 j1
  go_enter_defers Tryz.func164, Tryz.ntmps164
  go_wp2_with fail
  rw [← hWH.out]
  refine Calls.mono hRH.out ?_
  rintro ev v1 ⟨rfl, w1, hB1, hw1⟩
  have z1 := hB1.size
  have n01 : ∀ i j, (⟨w.heap.size + 1, i, none⟩ : Addr) ≠ ⟨w.heap.size, j, none⟩ := fun i j e => by injection e with e1; omega
  have ot : ∀ j x y, ((w1.setCell ⟨w.heap.size + 1, 0, none⟩ x).setCell ⟨w.heap.size + 1, 0 + 1, none⟩ y).cell? ⟨w.heap.size, j, none⟩ = w1.cell? ⟨w.heap.size, j, none⟩ := fun j x y => by
    rw [World.cell?_setCell_other _ _ _ _ (n01 _ _), World.cell?_setCell_other _ _ _ _ (n01 _ _)]
  have b0 : v1.cell? ⟨w.heap.size, 0, none⟩ = some (.int .i64 0) := by rw [hw1, ot, hB1.cell (by simp; omega)]; exact a0
  have b1 : v1.cell? ⟨w.heap.size, 1, none⟩ = some .nilIface := by rw [hw1, ot, hB1.cell (by simp; omega)]; exact a1
  have g0 : v1.frozen? ⟨w.heap.size, 0, none⟩ = false := by rw [hw1]; simp; rw [hB1.frozen (by simp; omega)]; exact f0
  have g1 : v1.frozen? ⟨w.heap.size, 1, none⟩ = false := by rw [hw1]; simp; rw [hB1.frozen (by simp; omega)]; exact f1
  have m0 : v1.cell? ⟨w.heap.size + 1, 0, none⟩ = some (.int .i64 n) := by
    rw [hw1, World.cell?_setCell_other _ _ _ _ (by simp)]
    exact World.cell?_setCell_same _ _ _ (u := .int .i64 0) (by rw [hB1.cell (by simp; omega)]; exact hk.out.1)
  have m1 : v1.cell? ⟨w.heap.size + 1, 1, none⟩ = some (.iface tt pp) := by
    rw [hw1]
    exact World.cell?_setCell_same _ _ _ (u := .nilIface) (by rw [World.cell?_setCell_other _ _ _ _ (by simp), hB1.cell (by simp; omega)]; exact hk.out.2)
  have P1 : Below w.heap.size w v1 := by
    rw [hw1]
    exact ((below_then hB0 hB1).setCell (p := ⟨w.heap.size + 1, 0, none⟩) (Nat.le_succ _) _).setCell (p := ⟨w.heap.size + 1, 0 + 1, none⟩) (Nat.le_succ _) _
  have zv : w.heap.size + 1 < v1.heap.size := by rw [hw1]; simp; omega
  clear a0 a1 f0 f1 hB1 hw1 ot hk hRH
  go_wp2
  refine leaves_cons (f := 189) (args := #[]) (by simp) (by simp [go_sem]) ?_
  refine (find_deferA _).mono ?_
  rintro e u' w'' ⟨rfl, rfl, rfl⟩
  simp [Leaves, settle, results, Tryz.results164, go_sem, b0, b1]
  exact (P1.setCell (p := ⟨w.heap.size, 0, none⟩) (Nat.le_refl _) _).setCell (p := ⟨w.heap.size, 1, none⟩) (Nat.le_refl _) _
theorem place_at (p : Int) (w : World) (hg : ET w) : Calls Tryz.prog 135 #[atV p] w fun e w' => e = .returned (.tuple #[.int .i64 p, .bool true]) ∧ Below w.heap.size w w' := by
  have h : ∀ W, ET W → Calls Tryz.prog 164 #[atV p] W fun e w' => e = .returned (.tuple #[.agg #[.int .i64 p, errV [] 53], .bool true]) ∧ Below W.heap.size W w' := fun W hW => find_A_hit [(false, p)] 53 p [] rfl W hW
  obtain ⟨tt, pp, hV⟩ := errV_iface [] 53
  rw [hV] at h
  have hH : Hid _ := h
  clear h hV
  go_enter Tryz.func135, Tryz.ntmps135
  go_wp2_with fail
  refine (hH.out _ hg).mono ?_
  rintro e w1 ⟨rfl, hb1⟩
  go_wp2
  go_ret2
  exact ⟨rfl, below_new hb1 _⟩

end Go.Proofs.YtbojljmacheccaaGreatDoor

namespace Go.Proofs.YtbojljmacheccaaGreatDoor
open Go.RowKit Go.Shelf
attribute [local go_sem] Oper.semAt_some
set_option linter.unusedVariables false
set_option linter.unusedSimpArgs false
def UI (s : ByteArray) (w : World) (pre : List (Nat × Nat)) (W : World) : Prop := ∃ e acc, stU s.data.toList false [] pre = some (e, acc) ∧ acc.length ≤ pre.length * (s.size + 1) ∧ US s w e acc W
def UX (s : ByteArray) (w : World) (pre : List (Nat × Nat)) (W : World) : Prop := ∃ pre' x e acc, pre = pre' ++ [x] ∧ stU s.data.toList false [] pre' = some (e, acc) ∧ Below w.heap.size w W ∧
  ((e = true ∧ ¬ 0 ≤ idxM ((s.data.toList.drop x.1).take x.2) ∧ RS w ⟨#[]⟩ 0 (atV (wrap64 ((x.1 : Int) - 1))) W) ∨ (e = false ∧ (s.data.toList.drop x.1).take x.2 ≠ [92] ∧ 0 ≤ idxM ((s.data.toList.drop x.1).take x.2) ∧ RS w ⟨acc.toArray⟩ (x.1 : Int) .nilIface W))
theorem UI.own (s : ByteArray) (w : World) (B : Nat) (hB : w.heap.size ≤ B) : OwnFrom B (UI s w) := fun q W W' row h hg hr => by
  obtain ⟨e, acc, h1, h2, h3⟩ := h
  exact ⟨e, acc, h1, h2, h3.own hB hg hr⟩
theorem UX.own (s : ByteArray) (w : World) (B : Nat) (hB : w.heap.size ≤ B) (c : Code) : OwnFrom B (fun pre W => c = .ret ∧ UX s w pre W) := fun q W W' row h hg hr => by
  obtain ⟨hc, p, x, e, acc, h1, h2, h3, h4⟩ := h
  have hr2 : ∀ r, row = some r → ∃ o : Obj, W.heap[r]? = some o ∧ o.isCells = false := fun r e => (hr r e).2
  have hg' := hg
  obtain ⟨g1, g2, g3, g4, g5⟩ := hg
  refine ⟨hc, p, x, e, acc, h1, h2, h3.trans ⟨g1, g2, g3, g4, fun k hk => g5 k (by have := h3.size; omega) (fun e => by have := (hr k e.symm).1; omega)⟩, ?_⟩
  rcases h4 with ⟨a1, a2, a3⟩ | ⟨a1, a2, a3, a4⟩
  · exact .inl ⟨a1, a2, a3.own hg' hr2⟩
  · exact .inr ⟨a1, a2, a3, a4.own hg' hr2⟩
theorem cuts_in (l : List UInt8) : ∀ n k x, x ∈ cutsF l n k → x.1 < l.length
  | 0, k, x, h => by cases h
  | n + 1, k, x, h => by
    unfold cutsF at h
    by_cases hk : k < l.length
    · rw [if_pos hk] at h
      rcases List.mem_cons.1 h with rfl | h
      · exact hk
      · exact cuts_in l n _ x h
    · rw [if_neg hk] at h; cases h
/-- what Unescape answers. -/
def outV : Out → Value
  | .ok t n => .tuple #[.string ⟨t.toArray⟩, .int .i64 (n : Int), .nilIface]
  | .bad p => .tuple #[.string ⟨#[]⟩, .int .i64 0, atV p]
set_option maxHeartbeats 16000000 in
set_option maxRecDepth 100000 in
theorem unescape_any (s : ByteArray) (w : World) (hs : s.size ≤ 4000000) (hM : ∀ a b, MkOk (s.extract a b)) : Calls Tryz.prog 134 #[.string s] w fun e w' => e = .returned (outV (uneT s.data.toList)) ∧ Below w.heap.size w w' := by
  have hlen : Hid (s.data.toList.length = s.size) := (Lib.size_eq s).symm
  have hMH : Hid (∀ a b, MkOk (s.extract a b)) := hM
  clear hM
  refine (callsIn_wide (n := 9)).1 ?_
  refine callsIn_of_wp_marks Tryz.func134 rfl trivial ?_ rfl
  simp only [Tryz.ntmps134, List.size_toArray, List.length_cons, List.length_nil, Nat.reduceAdd, Nat.reduceSub, Array.replicate_succ, Array.replicate_zero, List.push_toArray, List.append_toArray, List.nil_append, List.cons_append]
  gi_wp2
  refine ⟨trivial, ?_⟩
  refine (callsIn_wide.2 (pieces_any s _)).mono ?_
  rintro e w1 ⟨rfl, hw1⟩
  simp only [World.size_alloc]
  have hUS : US s w false [] w1 := by
    subst hw1
    have hb := builder_new (((w.alloc (.cells #[.string ⟨#[]⟩] 9)).alloc (.cells #[.int .i64 0] 3)).alloc (.cells #[.nilIface] 26))
    have hz : (((w.alloc (.cells #[.string ⟨#[]⟩] 9)).alloc (.cells #[.int .i64 0] 3)).alloc (.cells #[.nilIface] 26)).heap.size = w.heap.size + 3 := by simp
    rw [hz] at hb
    have b0 := Boxed.new w 9 (.string ⟨#[]⟩)
    have b1 := Boxed.new (w.alloc (.cells #[.string ⟨#[]⟩] 9)) 3 (.int .i64 0)
    have b2 := Boxed.new ((w.alloc (.cells #[.string ⟨#[]⟩] 9)).alloc (.cells #[.int .i64 0] 3)) 26 .nilIface
    have b4 := Boxed.new ((((w.alloc (.cells #[.string ⟨#[]⟩] 9)).alloc (.cells #[.int .i64 0] 3)).alloc (.cells #[.nilIface] 26)).alloc (.cells #[.pointer none, .slice none 0 0] 115)) 4 (.bool false)
    have b5 := Boxed.new (((((w.alloc (.cells #[.string ⟨#[]⟩] 9)).alloc (.cells #[.int .i64 0] 3)).alloc (.cells #[.nilIface] 26)).alloc (.cells #[.pointer none, .slice none 0 0] 115)).alloc (.cells #[.bool false] 4)) 9 (.string s)
    simp only [World.size_alloc, Nat.add_assoc, Nat.reduceAdd] at b1 b2 b4 b5
    refine ⟨(hb.alloc _).alloc _, b4.alloc _, b5, ⟨((((b0.alloc _).alloc _).alloc _).alloc _).alloc _, (((b1.alloc _).alloc _).alloc _).alloc _, ((b2.alloc _).alloc _).alloc _⟩, ?_⟩
    exact ((((((Below.refl _ w).alloc (Nat.le_refl _) _).alloc (by simp) _).alloc (by simp; omega) _).alloc (by simp; omega) _).alloc (by simp; omega) _).alloc (by simp; omega) _
  have hsz : w1.heap.size = w.heap.size + 6 := by rw [hw1]; simp
  have hc1 : w1.cell? ⟨w.heap.size + 5, 0, none⟩ = some (.string s) := hUS.2.2.1.cell
  clear hw1
  simp only [Nat.add_assoc, Nat.reduceAdd]
  gi_wp2
  refine wpIn_rangeFunc_ownF rfl (by omega) (gf := 165) (lb := #[.pointer (some ⟨w.heap.size + 5, 0, none⟩)]) rfl trivial (enters_of Tryz.func165 (by kernel_rfl) rfl)
    (pieces_stops 8 (by omega) (w.heap.size + 5) s w1 (by omega) (by omega) hc1 hMH.out) (fun h k => ⟨Nat.le_trans h.1 k.1, k.2.trans h.2⟩)
    (fun W l o o' hl hlo _ _ => ⟨by simp, World.putObj_heap_other (by omega)⟩) (Below.refl _ _) (fun _ => rfl)
    (UI s w)
    (fun c pre W => c = .ret ∧ UX s w pre W)
    (UI.own s w _ (by omega))
    (fun c => UX.own s w _ (by omega) c)
    ⟨false, [], rfl, by simp, hUS⟩
    (fun x => { tmps := #[.string s, undef, .pointer (some ⟨w.heap.size, 0, none⟩), .pointer (some ⟨w.heap.size + 1, 0, none⟩), .pointer (some ⟨w.heap.size + 2, 0, none⟩), .pointer (some ⟨w.heap.size + 3, 0, none⟩), .pointer (some ⟨w.heap.size + 4, 0, none⟩), .int .i64 (x.1 : Int), .string (s.extract x.1 (x.1 + x.2)), .string s, .func (.func 165) #[] #[.pointer (some ⟨w.heap.size + 5, 0, none⟩)], .int .i64 (x.1 : Int), .string (s.extract x.1 (x.1 + x.2)), undef, undef, undef, undef, undef, undef, undef, undef, undef, undef, undef, undef, undef, undef, undef, undef, undef, undef, undef, undef, undef, undef, undef, undef, undef, undef, undef, undef, undef, undef, undef, undef, undef, undef, undef, undef], defers := [] }) ?assign ?body ?done ?stop
  case assign =>
    intro l x W K hK
    gi_wp2
    exact hK
  case body =>
    rintro l pre x W ⟨e, acc, hst, hacc, hU⟩ hpl
    obtain ⟨P, hP⟩ : ∃ P, s.extract x.1 (x.1 + x.2) = P := ⟨_, rfl⟩
    have hPd : P.data.toList = (s.data.toList.drop x.1).take x.2 := by rw [← hP, Lib.extract_data, Nat.add_sub_cancel_left]
    have hPs : P.size ≤ s.size := by
      rw [Lib.size_eq, hPd, ← hlen.out]; simp; omega
    have hMk : MkOk P := hP ▸ hMH.out _ _
    rw [hP]
    obtain ⟨mk, hmk⟩ : ∃ mk, decide (0 ≤ idxM P.data.toList) = mk := ⟨_, rfl⟩
    have cM : Hid (∀ W, Calls Tryz.prog 138 #[.string P] W fun e w' => e = .returned (.bool mk) ∧ Below W.heap.size W w') := fun W => by have := isMark_any P hMk W; rw [hmk] at this; exact this
    have hbl : acc.length ≤ 4000000 * 4000001 := Nat.le_trans hacc (Nat.mul_le_mul (by omega) (by omega))
    have hblH : Hid (acc.length ≤ 4000000 * 4000001) := hbl
    have hsn := stU_snoc x hst
    have hstH : Hid (stU s.data.toList false [] pre = some (e, acc)) := hst
    have hsnH : Hid (stU s.data.toList false [] (pre ++ [x]) = stU s.data.toList e acc [x]) := hsn
    have haccH : Hid (acc.length ≤ pre.length * (s.size + 1)) := hacc
    have hPdH : Hid (P.data.toList = (s.data.toList.drop x.1).take x.2) := hPd
    have hmkH : Hid (decide (0 ≤ idxM P.data.toList) = mk) := hmk
    have hUH : Hid (US s w e acc W) := hU
    have c4 := hU.2.1.cell
    clear hsn hbl hacc hP hPd hMk hmk hst hU
    cases e with
    | true =>
      gi_wp2
      refine ⟨trivial, ?_⟩
      refine (CallsIn.inRound l (callsIn_wide.2 (cM.out _))).mono ?_
      rintro e W1 ⟨rfl, hb1⟩
      have hU1 := hUH.out.below hb1
      have hU1H : Hid (US s w true acc W1) := hU1
      have d4 := hU1.2.1.cell
      clear c4
      cases mk with
      | false =>
        have cAt : Hid (∀ W, Calls Tryz.prog 151 #[.int .i64 (wrap64 ((x.1 : Int) - 1)), .int .i64 53] W fun e w' => e = .returned (.iface 105 (.agg #[.int .i64 (wrap64 ((x.1 : Int) - 1)), .iface 33 (.int .i64 53)])) ∧ Below W.heap.size W w') := fun W => at_any _ W
        gi_wp2
        refine ⟨trivial, ?_⟩
        refine (CallsIn.inRound l (callsIn_wide.2 (cAt.out _))).mono ?_
        rintro e W2 ⟨rfl, hb2⟩
        have hU2 := hU1H.out.below hb2
        have hU2H : Hid (US s w true acc W2) := hU2
        have q0 := hU2.2.2.2.1.1.cell
        have q1 := hU2.2.2.2.1.2.1.cell
        have q2 := hU2.2.2.2.1.2.2.cell
        have p0 := hU2.2.2.2.1.1.frozen
        have p1 := hU2.2.2.2.1.2.1.frozen
        have p2 := hU2.2.2.2.1.2.2.frozen
        clear hU1 hU2 d4
        gi_wp2
        have hRS := hU2H.out.2.2.2.1
        refine ⟨(keeps_below hb1).trans ((keeps_below hb2).trans (((KeepsOthers.setCell _ _ _).trans (KeepsOthers.setCell _ _ _)).trans (KeepsOthers.setCell _ _ _))), rfl, pre, x, true, acc, rfl, hstH.out, ?_, .inl ⟨rfl, by rw [← hPdH.out]; exact of_decide_eq_false hmkH.out, setR_ok hRS⟩⟩
        exact ((hU2H.out.2.2.2.2.setCell (p := ⟨w.heap.size, 0, none⟩) (by simp) _).setCell (p := ⟨w.heap.size + 1, 0, none⟩) (by simp) _).setCell (p := ⟨w.heap.size + 2, 0, none⟩) (by simp) _
      | true =>
        have c2 : Hid (Calls Tryz.prog 39 #[.pointer (some ⟨w.heap.size + 3, 0, none⟩), .string P] W1 fun ev w' => ev = .returned (.tuple #[.int .i64 P.size, .nilIface]) ∧ US s w true (acc ++ P.data.toList) w' ∧ KeepsOthers W1 w' ∧ KeepB (w.heap.size + 5) W1 w') := hU1H.out.write P (by have := hblH.out; omega)
        clear hU1
        gi_wp2
        refine ⟨trivial, ?_⟩
        gi_wp2
        refine ⟨trivial, ?_⟩
        refine (CallsIn.inRound l (callsIn_wide.2 c2.out)).mono ?_
        rintro e W2 ⟨rfl, hU2, hk2, hkb2⟩
        have hU2H : Hid (US s w true (acc ++ P.data.toList) W2) := hU2
        have q4 := hU2.2.1.cell
        have p4 := hU2.2.1.frozen
        clear hU2 d4
        gi_wp2
        have hU3 := hU2H.out.setE false
        refine ⟨(keeps_below hb1).trans (hk2.trans (KeepsOthers.setCell _ _ _)), ⟨Nat.le_trans hb1.size (Nat.le_trans hkb2.1 (by simp)), ?_⟩, false, acc ++ P.data.toList, ?_, ?_, hU3⟩
        · have a1 : (W2.setCell ⟨w.heap.size + 4, 0, none⟩ (.bool false)).heap[w.heap.size + 5]? = _ := hU3.2.2.1
          have a2 : W.heap[w.heap.size + 5]? = _ := hUH.out.2.2.1
          rw [a1, a2]
        · rw [hsnH.out, stU, ← hPdH.out, if_pos (of_decide_eq_true hmkH.out)]; rfl
        · have h1 := haccH.out
          rw [List.length_append, List.length_append, List.length_singleton, Nat.add_mul]
          have h2 : P.data.toList.length ≤ s.size := by rw [← Lib.size_eq]; exact hPs
          omega
    | false =>
      by_cases h92 : P.toList = [92]
      · have h92H : Hid (P.toList = [92]) := h92
        have p4 := hUH.out.2.1.frozen
        gi_wp2
        refine ⟨trivial, ?_⟩
        gi_wp2
        have hU3 := hUH.out.setE true
        refine ⟨KeepsOthers.setCell _ _ _, ⟨by simp, ?_⟩, true, acc, ?_, ?_, hU3⟩
        · have a1 : (W.setCell ⟨w.heap.size + 4, 0, none⟩ (.bool true)).heap[w.heap.size + 5]? = _ := hU3.2.2.1
          have a2 : W.heap[w.heap.size + 5]? = _ := hUH.out.2.2.1
          rw [a1, a2]
        · have h1 := h92H.out
          rw [Lib.toList_data] at h1
          rw [hsnH.out, stU, ← hPdH.out, if_pos h1]; rfl
        · have h1 := haccH.out
          rw [List.length_append, List.length_singleton, Nat.add_mul]
          omega
      · have h92H : Hid (¬ P.data.toList = [92]) := by rw [Lib.toList_data] at h92; exact h92
        have h92b : (P.toList == [92]) = false := by simpa using h92
        gi_wp2
        refine ⟨trivial, ?_⟩
        gi_wp2
        refine ⟨trivial, ?_⟩
        refine (CallsIn.inRound l (callsIn_wide.2 (cM.out _))).mono ?_
        rintro e W1 ⟨rfl, hb1⟩
        have hU1 := hUH.out.below hb1
        have hU1H : Hid (US s w false acc W1) := hU1
        have d4 := hU1.2.1.cell
        clear c4 hU1
        cases mk with
        | true =>
          have cT : Hid (Calls Tryz.prog 40 #[.pointer (some ⟨w.heap.size + 3, 0, none⟩)] W1 fun ev w' => ev = .returned (.string ⟨acc.toArray⟩) ∧ US s w false acc w' ∧ KeepsOthers W1 w') := hU1H.out.text
          gi_wp2
          refine ⟨trivial, ?_⟩
          refine (CallsIn.inRound l (callsIn_wide.2 cT.out)).mono ?_
          rintro e W2 ⟨rfl, hU2, hk2⟩
          have hU2H : Hid (US s w false acc W2) := hU2
          have q0 := hU2.2.2.2.1.1.cell
          have q1 := hU2.2.2.2.1.2.1.cell
          have q2 := hU2.2.2.2.1.2.2.cell
          have p0 := hU2.2.2.2.1.1.frozen
          have p1 := hU2.2.2.2.1.2.1.frozen
          have p2 := hU2.2.2.2.1.2.2.frozen
          clear hU2 d4
          gi_wp2
          have hRS := hU2H.out.2.2.2.1
          refine ⟨(keeps_below hb1).trans (hk2.trans (((KeepsOthers.setCell _ _ _).trans (KeepsOthers.setCell _ _ _)).trans (KeepsOthers.setCell _ _ _))), rfl, pre, x, false, acc, rfl, hstH.out, ?_, .inr ⟨rfl, by rw [← hPdH.out]; exact h92H.out, by rw [← hPdH.out]; exact of_decide_eq_true hmkH.out, setR_ok hRS⟩⟩
          exact ((hU2H.out.2.2.2.2.setCell (p := ⟨w.heap.size, 0, none⟩) (by simp) _).setCell (p := ⟨w.heap.size + 1, 0, none⟩) (by simp) _).setCell (p := ⟨w.heap.size + 2, 0, none⟩) (by simp) _
        | false =>
          have c2 : Hid (Calls Tryz.prog 39 #[.pointer (some ⟨w.heap.size + 3, 0, none⟩), .string P] W1 fun ev w' => ev = .returned (.tuple #[.int .i64 P.size, .nilIface]) ∧ US s w false (acc ++ P.data.toList) w' ∧ KeepsOthers W1 w' ∧ KeepB (w.heap.size + 5) W1 w') := hU1H.out.write P (by have := hblH.out; omega)
          gi_wp2
          refine ⟨trivial, ?_⟩
          refine (CallsIn.inRound l (callsIn_wide.2 c2.out)).mono ?_
          rintro e W2 ⟨rfl, hU2, hk2, hkb2⟩
          have hU2H : Hid (US s w false (acc ++ P.data.toList) W2) := hU2
          have q4 := hU2.2.1.cell
          have p4 := hU2.2.1.frozen
          clear hU2 d4
          gi_wp2
          have hU3 := hU2H.out.setE false
          refine ⟨(keeps_below hb1).trans (hk2.trans (KeepsOthers.setCell _ _ _)), ⟨Nat.le_trans hb1.size (Nat.le_trans hkb2.1 (by simp)), ?_⟩, false, acc ++ P.data.toList, ?_, ?_, hU3⟩
          · have a1 : (W2.setCell ⟨w.heap.size + 4, 0, none⟩ (.bool false)).heap[w.heap.size + 5]? = _ := hU3.2.2.1
            have a2 : W.heap[w.heap.size + 5]? = _ := hUH.out.2.2.1
            rw [a1, a2]
          · rw [hsnH.out, stU, ← hPdH.out, if_neg h92H.out, if_neg (of_decide_eq_false hmkH.out)]; rfl
          · have h1 := haccH.out
            rw [List.length_append, List.length_append, List.length_singleton, Nat.add_mul]
            have h2 : P.data.toList.length ≤ s.size := by rw [← Lib.size_eq]; exact hPs
            omega
  case done =>
    rintro D ys W hD rfl ⟨e, acc, hst, hacc, hU⟩ hK
    have hout := stU_out [] hst
    rw [List.append_nil, out_bytes s.data.toList s.size 0 false [] (by rw [hlen.out]; omega) (by omega), List.drop_zero] at hout
    have houtH : Hid (uneT s.data.toList = outU s.data.toList e acc []) := hout
    have hUH : Hid (US s w e acc W) := hU
    have c4 := hU.2.1.cell
    clear hst hacc hout hU
    cases e with
    | true =>
      have hw64 : wrap64 ((s.size : Int) - 1) = (s.size : Int) - 1 := by unfold wrap64; omega
      have cAt : Hid (∀ W, Calls Tryz.prog 151 #[.int .i64 ((s.size : Int) - 1), .int .i64 53] W fun e w' => e = .returned (.iface 105 (.agg #[.int .i64 ((s.size : Int) - 1), .iface 33 (.int .i64 53)])) ∧ Below W.heap.size W w') := fun W => at_any _ W
      gi_wp2
      refine ⟨trivial, ?_⟩
      refine (callsIn_wide.2 (cAt.out _)).mono ?_
      rintro e W2 ⟨rfl, hb2⟩
      have hU2 := hUH.out.below hb2
      have hU2H : Hid (US s w true acc W2) := hU2
      have q0 := hU2.2.2.2.1.1.cell
      have q1 := hU2.2.2.2.1.2.1.cell
      have q2 := hU2.2.2.2.1.2.2.cell
      have p0 := hU2.2.2.2.1.1.frozen
      have p1 := hU2.2.2.2.1.2.1.frozen
      have p2 := hU2.2.2.2.1.2.2.frozen
      have hKO := keeps_below hb2
      clear hU2 c4
      gi_wp2
      have hRS := setR_ok (t := ⟨#[]⟩) (n := 0) (er := .iface 105 (.agg #[.int .i64 ((s.size : Int) - 1), .iface 33 (.int .i64 53)])) hU2H.out.2.2.2.1
      have hK' := (hKO.trans (((KeepsOthers.setCell W2 ⟨w.heap.size, 0, none⟩ (.string ⟨#[]⟩)).trans (KeepsOthers.setCell _ ⟨w.heap.size + 1, 0, none⟩ (.int .i64 0))).trans (KeepsOthers.setCell _ ⟨w.heap.size + 2, 0, none⟩ (.iface 105 (.agg #[.int .i64 ((s.size : Int) - 1), .iface 33 (.int .i64 53)]))))).same D _ hK rfl
      have hB' : Below w.heap.size w (setR w W2 ⟨#[]⟩ 0 (.iface 105 (.agg #[.int .i64 ((s.size : Int) - 1), .iface 33 (.int .i64 53)]))) := ((hU2H.out.2.2.2.2.setCell (p := ⟨w.heap.size, 0, none⟩) (by simp) _).setCell (p := ⟨w.heap.size + 1, 0, none⟩) (by simp) _).setCell (p := ⟨w.heap.size + 2, 0, none⟩) (by simp) _
      refine ⟨by simp, .inl ⟨_, _, rfl, run_takeDeferred hK', ?_⟩⟩
      have hRS2 := hRS.own (grownBy_putObj' _ D (.deferred none)) (fun r e => by cases e; exact ⟨_, hK', rfl⟩)
      refine ⟨outV (.bad ((s.size : Int) - 1)), ?_, ?_, hB'.trans (belowK_b (w := w) (Nat.le_refl _) _ D _ _ (by omega) hK' rfl rfl)⟩
      · have r0 := hRS2.1.cell
        have r1 := hRS2.2.1.cell
        have r2 := hRS2.2.2.cell
        unfold setR at r0 r1 r2
        simp [results, Tryz.f134, go_sem, r0, r1, r2, outV, atV]
      · rw [houtH.out]
        have : outU s.data.toList true acc [] = .bad ((s.size : Int) - 1) := by rw [outU, hlen.out]
        rw [this]
    | false =>
      have cT : Hid (Calls Tryz.prog 40 #[.pointer (some ⟨w.heap.size + 3, 0, none⟩)] W fun ev w' => ev = .returned (.string ⟨acc.toArray⟩) ∧ US s w false acc w' ∧ KeepsOthers W w') := hUH.out.text
      gi_wp2
      refine ⟨trivial, ?_⟩
      refine (callsIn_wide.2 cT.out).mono ?_
      rintro e W2 ⟨rfl, hU2, hKO⟩
      have hU2H : Hid (US s w false acc W2) := hU2
      have q0 := hU2.2.2.2.1.1.cell
      have q1 := hU2.2.2.2.1.2.1.cell
      have q2 := hU2.2.2.2.1.2.2.cell
      have p0 := hU2.2.2.2.1.1.frozen
      have p1 := hU2.2.2.2.1.2.1.frozen
      have p2 := hU2.2.2.2.1.2.2.frozen
      clear hU2 c4
      gi_wp2
      have hRS := setR_ok (t := ⟨acc.toArray⟩) (n := (s.size : Int)) (er := .nilIface) hU2H.out.2.2.2.1
      have hK' := (hKO.trans (((KeepsOthers.setCell W2 ⟨w.heap.size, 0, none⟩ (.string ⟨acc.toArray⟩)).trans (KeepsOthers.setCell _ ⟨w.heap.size + 1, 0, none⟩ (.int .i64 (s.size : Int)))).trans (KeepsOthers.setCell _ ⟨w.heap.size + 2, 0, none⟩ .nilIface))).same D _ hK rfl
      have hB' : Below w.heap.size w (setR w W2 ⟨acc.toArray⟩ (s.size : Int) .nilIface) := ((hU2H.out.2.2.2.2.setCell (p := ⟨w.heap.size, 0, none⟩) (by simp) _).setCell (p := ⟨w.heap.size + 1, 0, none⟩) (by simp) _).setCell (p := ⟨w.heap.size + 2, 0, none⟩) (by simp) _
      refine ⟨by simp, .inl ⟨_, _, rfl, run_takeDeferred hK', ?_⟩⟩
      have hRS2 := hRS.own (grownBy_putObj' _ D (.deferred none)) (fun r e => by cases e; exact ⟨_, hK', rfl⟩)
      refine ⟨outV (.ok acc s.size), ?_, ?_, hB'.trans (belowK_b (w := w) (Nat.le_refl _) _ D _ _ (by omega) hK' rfl rfl)⟩
      · have r0 := hRS2.1.cell
        have r1 := hRS2.2.1.cell
        have r2 := hRS2.2.2.cell
        unfold setR at r0 r1 r2
        simp [results, Tryz.f134, go_sem, r0, r1, r2, outV, atV]
      · rw [houtH.out]
        have : outU s.data.toList false acc [] = .ok acc s.size := by rw [outU, hlen.out]
        rw [this]
  case stop =>
    rintro D c pre W hD hpre ⟨rfl, p, x, e, acc, hpx, hst, hB, hcase⟩ hK
    obtain ⟨r, hr⟩ := hpre
    rw [hpx, List.append_assoc, List.singleton_append] at hr
    have hout := stU_out (x :: r) hst
    rw [hr, out_bytes s.data.toList s.size 0 false [] (by rw [hlen.out]; omega) (by omega), List.drop_zero] at hout
    have houtH : Hid (uneT s.data.toList = outU s.data.toList e acc (x :: r)) := hout
    have hx1 : Hid (x.1 ≤ s.size) := by
      have hm : x ∈ cutsF s.data.toList s.size 0 := by rw [← hr]; simp
      have := cuts_in s.data.toList s.size 0 x hm
      rw [hlen.out] at this
      exact Nat.le_of_lt this
    clear hout hr hst hpx
    gi_wp2
    rcases hcase with ⟨rfl, h1, hRS⟩ | ⟨rfl, h1, h2, hRS⟩
    · refine ⟨by simp, .inl ⟨_, _, rfl, run_takeDeferred hK, ?_⟩⟩
      have hRS2 := hRS.own (grownBy_putObj' _ D (.deferred none)) (fun r e => by cases e; exact ⟨_, hK, rfl⟩)
      have hw64 : wrap64 ((x.1 : Int) - 1) = (x.1 : Int) - 1 := by have := hx1.out; unfold wrap64; omega
      rw [hw64] at hRS2
      refine ⟨outV (.bad ((x.1 : Int) - 1)), ?_, ?_, hB.trans (belowK_b (w := w) (Nat.le_refl _) _ D _ _ (by omega) hK rfl rfl)⟩
      · have r0 := hRS2.1.cell
        have r1 := hRS2.2.1.cell
        have r2 := hRS2.2.2.cell
        simp [results, Tryz.f134, go_sem, r0, r1, r2, outV, atV]
      · rw [houtH.out]
        have : outU s.data.toList true acc (x :: r) = .bad ((x.1 : Int) - 1) := by rw [outU, if_neg (by omega)]
        rw [this]
    · refine ⟨by simp, .inl ⟨_, _, rfl, run_takeDeferred hK, ?_⟩⟩
      have hRS2 := hRS.own (grownBy_putObj' _ D (.deferred none)) (fun r e => by cases e; exact ⟨_, hK, rfl⟩)
      refine ⟨outV (.ok acc x.1), ?_, ?_, hB.trans (belowK_b (w := w) (Nat.le_refl _) _ D _ _ (by omega) hK rfl rfl)⟩
      · have r0 := hRS2.1.cell
        have r1 := hRS2.2.1.cell
        have r2 := hRS2.2.2.cell
        simp [results, Tryz.f134, go_sem, r0, r1, r2, outV, atV]
      · rw [houtH.out]
        have : outU s.data.toList false acc (x :: r) = .ok acc x.1 := by rw [outU, if_neg h1, if_pos h2]
        rw [this]
end Go.Proofs.YtbojljmacheccaaGreatDoor

namespace Go.Proofs.YtbojljmacheccaaGreatDoor
open Go.RowKit Go.Shelf
set_option linter.unusedVariables false
set_option linter.unusedSimpArgs false
/-- a rune whose first byte is no ASCII: its number, how long it is. -/
theorem high_N (n b0 b1 b2 b3 : Nat) (h0 : 128 ≤ b0) (h : b0 < 256) (h1 : b1 < 256) (h2 : b2 < 256) (h3 : b3 < 256) (hn : 1 ≤ n) : 128 ≤ (Lib.decodeN n b0 b1 b2 b3).1 ∧ (Lib.decodeN n b0 b1 b2 b3).1 ≤ 1114111 ∧ 1 ≤ (Lib.decodeN n b0 b1 b2 b3).2 ∧ (Lib.decodeN n b0 b1 b2 b3).2 ≤ n ∧ ((Lib.decodeN n b0 b1 b2 b3).1 < 55296 ∨ 57344 ≤ (Lib.decodeN n b0 b1 b2 b3).1) := by
  unfold Lib.decodeN
  repeat' split
  all_goals (simp only; omega)
theorem high_decode (s : ByteArray) (i : Nat) (hi : i < s.size) (x : UInt8) (hx : s.data.toList[i]? = some x) (h128 : 128 ≤ x.toNat) :
    128 ≤ (Utf8.decode s i).1 ∧ (Utf8.decode s i).1 ≤ 1114111 ∧ ((Utf8.decode s i).1 < 55296 ∨ 57344 ≤ (Utf8.decode s i).1) ∧ 1 ≤ (Utf8.decode s i).2 ∧ i + (Utf8.decode s i).2 ≤ s.size ∧ ∀ j b, i ≤ j → j < i + (Utf8.decode s i).2 → s.data.toList[j]? = some b → 128 ≤ b.toNat := by
  have hget : ∀ j b, s.data.toList[j]? = some b → s.get! j = b := by
    intro j b hb
    rw [← Lib.getD_get!', List.getD, hb]; rfl
  have e0 := hget i x hx
  rw [Lib.decode_at]
  have hb : ∀ j, (s.get! j).toNat < 256 := fun j => UInt8.toNat_lt _
  have h := high_N (s.size - i) (s.get! i).toNat (s.get! (i + 1)).toNat (s.get! (i + 2)).toNat (s.get! (i + 3)).toNat (by rw [e0]; exact h128) (hb _) (hb _) (hb _) (hb _) (by omega)
  have hc := Lib.decodeN_conts (s.size - i) (s.get! i).toNat (s.get! (i + 1)).toNat (s.get! (i + 2)).toNat (s.get! (i + 3)).toNat
  refine ⟨h.1, h.2.1, h.2.2.2.2, h.2.2.1, by omega, ?_⟩
  intro j b hij hj hjb
  have ej := hget j b hjb
  obtain ⟨c1, c2, c3, c4⟩ := hc
  rcases Nat.eq_or_lt_of_le hij with h0 | h0
  · subst h0; rw [← ej, e0]; exact h128
  · rcases Nat.eq_or_lt_of_le h0 with h1 | h1
    · have := c1 (by omega); rw [← ej, ← h1]; have := this.1; simp only [Nat.succ_eq_add_one]; omega
    · rcases Nat.eq_or_lt_of_le h1 with h2 | h2
      · have := c2 (by omega); rw [← ej, ← h2]; have := this.1; simp only [Nat.succ_eq_add_one]; rw [show i + 1 + 1 = i + 2 by omega]; omega
      · rcases Nat.eq_or_lt_of_le h2 with h3 | h3
        · have := c3 (by omega); rw [← ej, ← h3]; have := this.1; simp only [Nat.succ_eq_add_one]; rw [show i + 1 + 1 + 1 = i + 3 by omega]; omega
        · simp only [Nat.succ_eq_add_one] at h3; omega
theorem ib_none : ∀ (l : List UInt8) (c : UInt8), (∀ b ∈ l, b ≠ c) → Lib.indexByte l c = -1
  | [], c, h => rfl
  | b :: r, c, h => by
    rw [Lib.indexByte, ib_none r c (fun x hx => h x (List.mem_cons_of_mem _ hx))]
    have := h b (by simp)
    simp [this]
set_option maxRecDepth 100000 in
set_option maxHeartbeats 4000000 in
theorem idxRune_high (r : Nat) (h : 128 ≤ r) (h2 : r ≤ 1114111) (hv : r < 55296 ∨ 57344 ≤ r) (hne : r ≠ 65533) (w : World) : Calls Tryz.prog 190 #[.string ⟨#[44, 32, 61, 92]⟩, .int .i32 (r : Int)] w fun e w' => e = .returned (.int .i64 (-1)) ∧ Below w.heap.size w w' := by
  have hI : ¬ (r : Int) < 128 := by omega
  have hI0 : (0 : Int) ≤ (r : Int) := by omega
  have hE : ((r : Int) == 65533) = false := by simp; omega
  have hval : Utf8.valid (r : Int) = true := by
    unfold Utf8.valid
    simp
    omega
  have cV : Hid (∀ W, Calls Tryz.prog 208 #[.int .i32 (r : Int)] W fun e w' => e = .returned (.bool true) ∧ w' = W) := by
    intro W
    have hvr : Lib.validRune (r : Int) = true := by
      unfold Lib.validRune
      simp
      omega
    have := Tryz.utf8_ValidRune (r : Int) W
    rw [hvr] at this
    exact this
  have hf := encode_facts (r : Int) hval (by omega)
  obtain ⟨rs, hrs⟩ : ∃ rs, Utf8.encode (r : Int) = rs := ⟨_, rfl⟩
  rw [hrs] at hf
  have hcv : ∀ W, (convert 21 9 (.int .i32 (r : Int))).run Tryz.prog W = .ok (.string rs) W := fun W => by rw [run_convert_int_string W 21 9 .i32 (r : Int) (by kernel_rfl) Tryz.underlying9, hrs]
  obtain ⟨f1, f2, f3⟩ := hf
  have hlt : rs.size - 1 < rs.size := by omega
  have f4 := f3 hlt
  obtain ⟨y, hy⟩ : ∃ y, rs[rs.size - 1]'hlt = y := ⟨_, rfl⟩
  rw [hy] at f4
  have cI : Hid (∀ (t : ByteArray) W, (∀ b ∈ t.data.toList, b.toNat < 128) → Calls Tryz.prog 207 #[.string t, .int .u8 (y.toNat : Int)] W fun e w' => e = .returned (.int .i64 (-1)) ∧ w' = W) := by
    intro t W ht
    have := Tryz.strings_IndexByte t (y.toNat : Int) W
    have e1 : ((y.toNat : Int)).toNat.toUInt8 = y := by simp
    rw [e1, ib_none _ _ (fun b hb e => by have := ht b hb; rw [e] at this; omega)] at this
    exact this
  clear hval hrs hne hv h2 f3
  have h4 : rs.size = 2 ∨ rs.size = 3 ∨ rs.size = 4 := by omega
  rcases h4 with hn | hn | hn
  · have hix : ∀ W, (Instr.index 9 (.string rs) (.int .i64 1)).run Tryz.prog W = .ok (.int .u8 (y.toNat : Int)) W := fun W => by
      rw [run_index_string W 9 rs .i64 (1 : Int) Tryz.underlying9, dif_pos ⟨by omega, by omega⟩, ← hy]
      congr 4
      all_goals (first | rfl | (congr 1; omega) | omega)
    have hi0 : ∀ W, (Instr.index 9 (.string ⟨#[44, 32, 61, 92]⟩) (.int .i64 1)).run Tryz.prog W = .ok (.int .u8 32) W := fun W => by kernel_rfl
    have hyb : ((32 : Int) == (y.toNat : Int)) = false := by simp; omega
    have cI2 : Hid (∀ W, Calls Tryz.prog 207 #[.string ((⟨#[44, 32, 61, 92]⟩ : ByteArray).extract 2 4), .int .u8 (y.toNat : Int)] W fun e w' => e = .returned (.int .i64 (-1)) ∧ w' = W) := fun W => cI.out _ W (by decide)
    clear hy
    go_enter Tryz.func190, Tryz.ntmps190
    go_wp2_with (go_at_call 208; (with_reducible refine Calls.mono (cV.out _) ?_); rintro e1 w1 ⟨rfl, rfl⟩)
    go_step3
    go_wp2_with fail
    refine wp_loop_rounds 1 ?_
    rw [rounds_succ]
    go_wp2_with fail
    go_step3
    go_wp2_with fail
    go_quiet (fail)
    go_wp2_with fail
    generalize hwq : World.drewN w1 _ = wq
    have hBq : Below w1.heap.size w1 wq := hwq ▸ bdrewN (Below.refl _ _) _
    clear hwq
    go_quiet ((go_at_call 207; exact Calls.quiet_of_same (cI2.out _)))
    go_wp2_with fail
    repeat (first | rw [Exit.noGoto_ret] | simp only [Exit.inBlock, Exit.then])
    go_ret
    exact ⟨rfl, bdrewN hBq _⟩
  · have hix : ∀ W, (Instr.index 9 (.string rs) (.int .i64 2)).run Tryz.prog W = .ok (.int .u8 (y.toNat : Int)) W := fun W => by
      rw [run_index_string W 9 rs .i64 (2 : Int) Tryz.underlying9, dif_pos ⟨by omega, by omega⟩, ← hy]
      congr 4
      all_goals (first | rfl | (congr 1; omega) | omega)
    have hi0 : ∀ W, (Instr.index 9 (.string ⟨#[44, 32, 61, 92]⟩) (.int .i64 2)).run Tryz.prog W = .ok (.int .u8 61) W := fun W => by kernel_rfl
    have hyb : ((61 : Int) == (y.toNat : Int)) = false := by simp; omega
    have cI2 : Hid (∀ W, Calls Tryz.prog 207 #[.string ((⟨#[44, 32, 61, 92]⟩ : ByteArray).extract 3 4), .int .u8 (y.toNat : Int)] W fun e w' => e = .returned (.int .i64 (-1)) ∧ w' = W) := fun W => cI.out _ W (by decide)
    clear hy
    go_enter Tryz.func190, Tryz.ntmps190
    go_wp2_with (go_at_call 208; (with_reducible refine Calls.mono (cV.out _) ?_); rintro e1 w1 ⟨rfl, rfl⟩)
    go_step3
    go_wp2_with fail
    refine wp_loop_rounds 1 ?_
    rw [rounds_succ]
    go_wp2_with fail
    go_step3
    go_wp2_with fail
    go_quiet (fail)
    go_wp2_with fail
    generalize hwq : World.drewN w1 _ = wq
    have hBq : Below w1.heap.size w1 wq := hwq ▸ bdrewN (Below.refl _ _) _
    clear hwq
    go_quiet ((go_at_call 207; exact Calls.quiet_of_same (cI2.out _)))
    go_wp2_with fail
    repeat (first | rw [Exit.noGoto_ret] | simp only [Exit.inBlock, Exit.then])
    go_ret
    exact ⟨rfl, bdrewN hBq _⟩
  · have hix : ∀ W, (Instr.index 9 (.string rs) (.int .i64 3)).run Tryz.prog W = .ok (.int .u8 (y.toNat : Int)) W := fun W => by
      rw [run_index_string W 9 rs .i64 (3 : Int) Tryz.underlying9, dif_pos ⟨by omega, by omega⟩, ← hy]
      congr 4
      all_goals (first | rfl | (congr 1; omega) | omega)
    have hi0 : ∀ W, (Instr.index 9 (.string ⟨#[44, 32, 61, 92]⟩) (.int .i64 3)).run Tryz.prog W = .ok (.int .u8 92) W := fun W => by kernel_rfl
    have hyb : ((92 : Int) == (y.toNat : Int)) = false := by simp; omega
    have cI2 : Hid (∀ W, Calls Tryz.prog 207 #[.string ((⟨#[44, 32, 61, 92]⟩ : ByteArray).extract 4 4), .int .u8 (y.toNat : Int)] W fun e w' => e = .returned (.int .i64 (-1)) ∧ w' = W) := fun W => cI.out _ W (by decide)
    clear hy
    go_enter Tryz.func190, Tryz.ntmps190
    go_wp2_with (go_at_call 208; (with_reducible refine Calls.mono (cV.out _) ?_); rintro e1 w1 ⟨rfl, rfl⟩)
    go_step3
    go_wp2_with fail
    refine wp_loop_rounds 1 ?_
    rw [rounds_succ]
    go_wp2_with fail
    go_step3
    go_wp2_with fail
    go_quiet (fail)
    go_wp2_with fail
    generalize hwq : World.drewN w1 _ = wq
    have hBq : Below w1.heap.size w1 wq := hwq ▸ bdrewN (Below.refl _ _) _
    clear hwq
    go_quiet ((go_at_call 207; exact Calls.quiet_of_same (cI2.out _)))
    go_wp2_with fail
    repeat (first | rw [Exit.noGoto_ret] | simp only [Exit.inBlock, Exit.then])
    go_ret
    exact ⟨rfl, bdrewN hBq _⟩
theorem mk_low4 : ∀ i : Fin 4, ((⟨#[44, 32, 61, 92]⟩ : ByteArray)[i.val]'i.isLt).toNat < 128 := by decide
set_option maxRecDepth 100000 in
set_option maxHeartbeats 4000000 in
theorem idxRune_err (w : World) : Calls Tryz.prog 190 #[.string ⟨#[44, 32, 61, 92]⟩, .int .i32 65533] w fun e w' => e = .returned (.int .i64 (-1)) ∧ Below w.heap.size w w' := by
  have hb : ∀ i, i < 4 → ∃ x : Nat, x < 128 ∧ ∀ ty W, (Instr.next (.pointer (some ⟨W.heap.size, 0, none⟩)) true ty).run Tryz.prog (World.iter W ⟨#[44, 32, 61, 92]⟩ i) = .ok (.tuple #[.bool true, .int .i64 (i : Int), .int .i32 (x : Int)]) (World.iter W ⟨#[44, 32, 61, 92]⟩ (i + 1)) := by
    intro i hi
    exact ⟨((⟨#[44, 32, 61, 92]⟩ : ByteArray)[i]'hi).toNat, mk_low4 ⟨i, hi⟩, fun ty W => run_next_ascii W ⟨#[44, 32, 61, 92]⟩ i ty hi (mk_low4 ⟨i, hi⟩)⟩
  have hbH : Hid (∀ i, i < 4 → ∃ x : Nat, x < 128 ∧ ∀ ty W, (Instr.next (.pointer (some ⟨W.heap.size, 0, none⟩)) true ty).run Tryz.prog (World.iter W ⟨#[44, 32, 61, 92]⟩ i) = .ok (.tuple #[.bool true, .int .i64 (i : Int), .int .i32 (x : Int)]) (World.iter W ⟨#[44, 32, 61, 92]⟩ (i + 1))) := hb
  clear hb
  go_enter Tryz.func190, Tryz.ntmps190
  go_wp2_with fail
  go_loopg [5, 6] 4 (fun g _ _ wx => ∃ i : Nat, i + g = 4 ∧ wx = w.iter ⟨#[44, 32, 61, 92]⟩ i)
  case atStart => exact ⟨0, by omega, rfl⟩
  case round =>
    obtain ⟨i, hig, rfl⟩ := hrel
    cases gk with
    | zero =>
      obtain rfl : i = 4 := by omega
      have hnx := run_next_end (P := Tryz.prog) w ⟨#[44, 32, 61, 92]⟩ 4
      go_wp2_with fail
      go_ret
      exact ⟨rfl, (Below.refl _ w).alloc (Nat.le_refl _) _⟩
    | succ g =>
      obtain ⟨x, hx, hnx⟩ := hbH.out i (by omega)
      have hne : ((x : Int) == 65533) = false := by simp; omega
      have hnx' := fun ty => hnx ty w
      clear hnx
      go_wp2_with fail
      go_roundg g
      case measure => omega
      case rel => exact ⟨i + 1, by omega, rfl⟩
theorem idxRune_any (r : Nat) (h : 128 ≤ r) (h2 : r ≤ 1114111) (hv : r < 55296 ∨ 57344 ≤ r) (w : World) : Calls Tryz.prog 190 #[.string ⟨#[44, 32, 61, 92]⟩, .int .i32 (r : Int)] w fun e w' => e = .returned (.int .i64 (-1)) ∧ Below w.heap.size w w' := by
  by_cases e : r = 65533
  · subst e; exact idxRune_err w
  · exact idxRune_high r h h2 hv e w
set_option maxRecDepth 100000 in
set_option maxHeartbeats 4000000 in
/-- strings.IndexAny of a short text, whatever its bytes. -/
theorem mk_short (s : ByteArray) (h8 : s.size ≤ 8) : MkOk s := by
  intro w
  have h8z : decide ((8 : Int) < (s.size : Int)) = false := decide_eq_false (by omega)
  have c226 : Hid (∀ W, Calls Tryz.prog 191 #[.int .i64 (s.size : Int)] W fun e w' => e = .returned (.bool false) ∧ w' = W) := fun W => by have := Tryz.strings_shouldUseASCIISet (s.size : Int) W; rw [h8z] at this; exact this
  clear h8z
  go_enter Tryz.func166, Tryz.ntmps166
  go_wp2_with (go_at_call 191; (with_reducible refine Calls.mono (c226.out _) ?_); rintro e1 w1 ⟨rfl, hw1⟩; subst hw1)
  go_loopg [9, 10] s.size (fun g _ _ wx => ∃ i : Nat, i ≤ s.size ∧ s.size - i ≤ g ∧ Hid (wx.heap[w1.heap.size]? = some (.stringIter s i)) ∧ Below w1.heap.size w1 wx ∧ Hid (Lib.NoAny s.data.toList mkL i))
  case atStart => exact ⟨0, by omega, by omega, World.alloc_heap_new w1 _, (Below.refl _ w1).alloc (Nat.le_refl _) _, Lib.NoAny.zero _ _⟩
  case round =>
    obtain ⟨i, hi, hig, hit, hB, hno⟩ := hrel
    by_cases hlt : i < s.size
    · obtain ⟨g, rfl⟩ : ∃ g, gk = g + 1 := ⟨gk - 1, by omega⟩
      obtain ⟨x, hx⟩ : ∃ x : UInt8, s.data.toList[i]? = some x := ⟨_, Lib.data_getElem? s i hlt⟩
      have hxx : s[i]'hlt = x := by have := Lib.data_getElem? s i hlt; rw [hx] at this; exact (Option.some.inj this).symm
      by_cases h128 : x.toNat < 128
      · have hnx := fun ty => Lib.run_next_ascii_at (P := Tryz.prog) wr w1.heap.size s i ty hit.out hlt (by rw [hxx]; exact h128)
        rw [hxx] at hnx
        have hcon := Lib.contains_iff_indexByte mkL x
        have cA : Hid (∀ W, Calls Tryz.prog 190 #[.string ⟨#[44, 32, 61, 92]⟩, .int .i32 (x.toNat : Int)] W fun e w' => e = .returned (.int .i64 (Lib.indexByte mkL x)) ∧ w' = W) := fun W => by
          have := Tryz.strings_IndexRune_ascii ⟨#[44, 32, 61, 92]⟩ (x.toNat : Int) W (by omega) (by omega)
          have hback : ((x.toNat : Int)).toNat.toUInt8 = x := by simp
          rw [hback] at this
          exact this
        have hxH : Hid (s.data.toList[i]? = some x) := hx
        clear hx hxx
        cases hin : mkL.contains x
        · rw [hin] at hcon
          have hltI : ¬ ((0 : Int) ≤ Lib.indexByte mkL x) := of_decide_eq_false hcon.symm
          have hinH : Hid (mkL.contains x = false) := hin
          clear hcon hin
          generalize Lib.indexByte mkL x = q at cA hltI
          go_wp2_with (go_at_call 190; (with_reducible refine Calls.mono (cA.out _) ?_); rintro e2 w2 ⟨rfl, hw2⟩; subst hw2)
          go_roundg g
          case measure => omega
          case rel => exact ⟨i + 1, by omega, by omega, Lib.iterAt_heap _ _ _ i _ hit.out, Lib.below_iterAt hB (Nat.le_refl _) _ _, hno.out.succ hxH.out hinH.out⟩
        · rw [hin] at hcon
          have hge : (0 : Int) ≤ Lib.indexByte mkL x := of_decide_eq_true hcon.symm
          have hinH : Hid (mkL.contains x = true) := hin
          clear hcon hin
          generalize Lib.indexByte mkL x = q at cA hge
          go_wp2_with (go_at_call 190; (with_reducible refine Calls.mono (cA.out _) ?_); rintro e2 w2 ⟨rfl, hw2⟩; subst hw2)
          go_ret
          exact ⟨by unfold idxM; rw [Lib.indexAny_hit hno.out hxH.out hinH.out]; rfl, Lib.below_iterAt hB (Nat.le_refl _) _ _⟩
      · obtain ⟨d1, d2, d3, d4, d5, d6⟩ := high_decode s i hlt x hx (by omega)
        have hnx := fun ty => Lib.run_next_any_at (P := Tryz.prog) wr w1.heap.size s i ty hit.out hlt
        have hno2 : Hid (Lib.NoAny s.data.toList mkL (i + (Utf8.decode s i).2)) := by
          intro j y hj hy
          rcases Nat.lt_or_ge j i with hji | hji
          · exact hno.out j y hji hy
          · have := d6 j y hji hj hy
            cases hm : mkL.contains y with
            | false => rfl
            | true =>
              have hmem : y ∈ mkL := by simpa using hm
              simp [mkL] at hmem
              rcases hmem with rfl | rfl | rfl | rfl <;> simp at this
        clear d6
        generalize (Utf8.decode s i).1 = r at *
        generalize (Utf8.decode s i).2 = k at *
        have cA : Hid (∀ W, Calls Tryz.prog 190 #[.string ⟨#[44, 32, 61, 92]⟩, .int .i32 (r : Int)] W fun e w' => e = .returned (.int .i64 (-1)) ∧ Below W.heap.size W w') := fun W => idxRune_any r d1 d2 d3 W
        clear hx hxx
        go_wp2_with (go_at_call 190; (with_reducible refine Calls.mono (cA.out _) ?_); rintro e2 w2 ⟨rfl, hb2⟩)
        go_roundg g
        case measure => omega
        case rel =>
          have hh := Lib.iterAt_heap _ _ _ i (i + k) hit.out
          exact ⟨i + k, by omega, by omega, (hb2.block _ (Array.getElem?_eq_some_iff.1 hh).1).trans hh, (Lib.below_iterAt hB (Nat.le_refl _) _ _).trans (hb2.mono (by rw [Lib.iterAt_size]; exact hB.size)), hno2⟩
    · obtain rfl : i = s.size := by omega
      have hnx := fun ty => Lib.run_next_end_at (P := Tryz.prog) wr w1.heap.size s s.size ty hit.out (by omega)
      go_wp2_with fail
      go_ret
      exact ⟨by unfold idxM; rw [Lib.indexAny_none (by rw [← Lib.size_eq]; exact hno.out)]; rfl, hB⟩
theorem mk_any (t : ByteArray) (h : t.size < 4294967281) : MkOk t := by
  by_cases h8 : t.size ≤ 8
  · exact mk_short t h8
  · intro W
    refine (Tryz.strings_IndexAny_long ((zero_of_info (n := 256) (by kernel_rfl)).1) t ⟨#[44, 32, 61, 92]⟩ W (by decide) (by omega) h (by decide) ?_).mono ?_
    · intro j b hb
      have : b ∈ mkL := List.mem_of_getElem? hb
      simp [mkL] at this
      rcases this with rfl | rfl | rfl | rfl <;> decide
    · rintro e w' ⟨rfl, rfl⟩
      exact ⟨rfl, ((Below.refl _ W).alloc (Nat.le_refl _) _).alloc (by simp) _⟩
theorem mk_extract (t : ByteArray) (h : t.size < 4294967281) (i j : Nat) : MkOk (t.extract i j) := mk_any _ (by
  have : (t.extract i j).size ≤ t.size := by rw [Lib.size_eq, Lib.extract_data, Lib.size_eq]; simp; omega
  omega)
end Go.Proofs.YtbojljmacheccaaGreatDoor

namespace Go.Proofs.YtbojljmacheccaaGreatDoor
open Go.RowKit Go.Shelf
attribute [local go_sem] Oper.semAt_some
set_option linter.unusedVariables false
set_option linter.unusedSimpArgs false
def fV : Option Int → Value
  | none => .nilIface
  | some p => atV p
/-- a reader in memory. -/
def RdA (N : Nat) (s : ByteArray) (st : StP) (W : World) : Prop := N < W.heap.size ∧ W.cell? ⟨N, 0, none⟩ = some (.string s) ∧ W.cell? ⟨N, 1, none⟩ = some (.int .i64 (st.1 : Int)) ∧ W.cell? ⟨N, 2, none⟩ = some (fV st.2) ∧ W.frozen? ⟨N, 1, none⟩ = false ∧ W.frozen? ⟨N, 2, none⟩ = false
theorem RdA.below {N B : Nat} {s : ByteArray} {st : StP} {W W' : World} (h : RdA N s st W) (hb : Below B W W') (hN : N < B) : RdA N s st W' := by
  obtain ⟨h0, h1, h2, h3, h4, h5⟩ := h
  exact ⟨Nat.lt_of_lt_of_le h0 hb.size, by rw [hb.cell (p := ⟨N, 0, none⟩) hN]; exact h1, by rw [hb.cell (p := ⟨N, 1, none⟩) hN]; exact h2, by rw [hb.cell (p := ⟨N, 2, none⟩) hN]; exact h3, by rw [hb.frozen (p := ⟨N, 1, none⟩) hN]; exact h4, by rw [hb.frozen (p := ⟨N, 2, none⟩) hN]; exact h5⟩
theorem RdA.set1 {N : Nat} {s : ByteArray} {st : StP} {W : World} (h : RdA N s st W) (k : Nat) : RdA N s (k, st.2) (W.setCell ⟨N, 1, none⟩ (.int .i64 (k : Int))) := by
  obtain ⟨h0, h1, h2, h3, h4, h5⟩ := h
  exact ⟨by simpa using h0, by simp [go_sem, h1], World.cell?_setCell_same _ _ _ h2, by simp [go_sem, h3], by simp [go_sem, h4], by simp [go_sem, h5]⟩
theorem grown_refl (w : World) (r : Option Nat) : w.grownBy w r := ⟨rfl, rfl, rfl, Nat.le_refl _, fun _ _ _ => rfl⟩
theorem grown_trans {w1 w2 w3 : World} {N : Nat} (h : w1.grownBy w2 (some N)) (k : w2.grownBy w3 (some N)) : w1.grownBy w3 (some N) :=
  ⟨k.os.trans h.os, k.tape.trans h.tape, k.output.trans h.output, Nat.le_trans h.size k.size, fun j hj hne => (k.block j (Nat.lt_of_lt_of_le hj h.size) hne).trans (h.block j hj hne)⟩
theorem grown_set (w : World) (N i : Nat) (v : Value) : w.grownBy (w.setCell ⟨N, i, none⟩ v) (some N) :=
  ⟨rfl, rfl, rfl, by simp, fun j hj hne => Below.heap_setCell _ _ _ _ (fun e => hne (by rw [e]))⟩
theorem grown_of_below {w w' : World} (N : Nat) (h : Below w.heap.size w w') : w.grownBy w' (some N) := ⟨h.os, h.tape, h.output, h.size, fun j hj _ => h.block j hj⟩
def atY (p : Int) : Value := .agg #[.int .i64 p, .iface 33 (.int .i64 53)]
theorem atV_eq (p : Int) : atV p = .iface 105 (atY p) := rfl
theorem ex_list (s : ByteArray) (k : Nat) : (s.extract k s.size).data.toList = s.data.toList.drop k := Lib.extract_to_end s k
end Go.Proofs.YtbojljmacheccaaGreatDoor

namespace Go.Proofs.YtbojljmacheccaaGreatDoor
open Go.RowKit Go.Shelf
attribute [local go_sem] Oper.semAt_some
set_option linter.unusedVariables false
set_option linter.unusedSimpArgs false
theorem pre_one (l : List UInt8) (k : Nat) (c : UInt8) : Lib.hasPrefix (l.drop k) [c] = decide (l[k]? = some c) := by
  unfold Lib.hasPrefix
  rw [show l[k]? = (l.drop k)[0]? by simp]
  cases l.drop k with
  | nil => simp
  | cons a r =>
    have e : List.isPrefixOf [c] (a :: r) = (c == a) := by simp [List.isPrefixOf]
    rw [e]
    by_cases h : c = a
    · subst h; simp
    · have h' : ¬ a = c := fun e => h e.symm
      simp [h, h']
end Go.Proofs.YtbojljmacheccaaGreatDoor
