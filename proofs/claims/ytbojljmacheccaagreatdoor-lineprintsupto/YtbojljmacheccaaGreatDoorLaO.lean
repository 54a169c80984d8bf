
import Derived.Test.YtbojljmacheccaaGreatDoorLaM
import Derived.Test.YtbojljmacheccaaGreatDoorLaG
import Derived.Test.YtbojljmacheccaaGreatDoorLaF
import Derived.Test.YtbojljmacheccaaGreatDoorLaK
import Derived.Test.YtbojljmacheccaaGreatDoorLaN
import Derived.Test.YtbojljmacheccaaGreatDoorLaI
namespace Go.Proofs.YtbojljmacheccaaGreatDoor.Ln
open Go.RowKit Go.Shelf
attribute [local go_sem] Oper.semAt_some
set_option linter.unusedVariables false
set_option linter.unusedSimpArgs false
set_option maxRecDepth 100000
/-! ### the document's Print. -/
def rprV : Except Int By → Value
  | .ok t => .tuple #[.string ⟨t.toArray⟩, .agg #[.int .i64 0, .int .i64 0, .int .i64 0, .bool false, .bool false]]
  | .error n => .tuple #[.string ⟨#[]⟩, .agg #[.int .i64 n, .int .i64 0, .int .i64 0, .bool false, .bool false]]
def PB (w : World) (ob : Obj) (W : World) : Prop := Below w.heap.size w W ∧ W.heap[w.heap.size]? = some ob ∧ W.heap[w.heap.size + 1]? = some bdO
theorem PB.below {w W W' : World} {ob : Obj} (h : PB w ob W) (hb : Below W.heap.size W W') : PB w ob W' :=
  ⟨h.1.trans (hb.mono h.1.size), (hb.block _ (Array.getElem?_eq_some_iff.1 h.2.1).1).trans h.2.1, (hb.block _ (Array.getElem?_eq_some_iff.1 h.2.2).1).trans h.2.2⟩
theorem PB.drew {w W : World} {ob : Obj} (h : PB w ob W) : PB w ob W.drew := ⟨h.1.drew, h.2.1, h.2.2⟩
theorem PB.pt {w W : World} {pm : ByteArray} {a b c : Value} {t : TypeId} (h : PB w (.cells #[.string pm, a, b, c] t) W) : W.cell? ⟨w.heap.size, 0, none⟩ = some (.string pm) ∧ W.cell? ⟨w.heap.size, 1, none⟩ = some a ∧ W.cell? ⟨w.heap.size, 2, none⟩ = some b ∧ W.cell? ⟨w.heap.size, 3, none⟩ = some c := by
  have e := h.2.1
  exact ⟨by rw [Lib.cell_of_heap e]; rfl, by rw [Lib.cell_of_heap e]; rfl, by rw [Lib.cell_of_heap e]; rfl, by rw [Lib.cell_of_heap e]; rfl⟩
theorem PB.fin {w W : World} {ob : Obj} (h : PB w ob W) (x y z u v : Value) : Below w.heap.size w (((((W.setCell ⟨w.heap.size + 1, 0, none⟩ x).setCell ⟨w.heap.size + 1, 1, none⟩ y).setCell ⟨w.heap.size + 1, 2, none⟩ z).setCell ⟨w.heap.size + 1, 3, none⟩ u).setCell ⟨w.heap.size + 1, 4, none⟩ v) :=
  ((((h.1.setCell (p := ⟨w.heap.size + 1, 0, none⟩) (Nat.le_succ _) _).setCell (p := ⟨w.heap.size + 1, 1, none⟩) (Nat.le_succ _) _).setCell (p := ⟨w.heap.size + 1, 2, none⟩) (Nat.le_succ _) _).setCell (p := ⟨w.heap.size + 1, 3, none⟩) (Nat.le_succ _) _).setCell (p := ⟨w.heap.size + 1, 4, none⟩) (Nat.le_succ _) _
theorem PB.start (w : World) (ob : Obj) : PB w ob ((w.alloc ob).alloc bdO) := ⟨((Below.refl _ w).alloc (Nat.le_refl _) _).alloc (by simp) _, by rw [Below.heap_alloc _ _ _ (by simp)]; exact World.alloc_heap_new w _, by have := World.alloc_heap_new (w.alloc ob) bdO; simpa using this⟩
theorem cat_big (a b : ByteArray) (h : a.size + b.size ≤ 70368744177664) (W : World) : (Op.stringOp .add a b).run Tryz.prog W = .ok (.string (a ++ b)) W := run_string_add_sum W a b (by omega)
theorem meas_k {n k : Nat} (h : k < n) : n - ((k : Int) + 1).toNat < n - (k : Int).toNat := by omega
set_option maxHeartbeats 16000000 in
theorem rprint_l (p : PtP) (ta fa : Option Addr) (tc fc : Nat) (w : World) (hp : PtIn w ta fa fc p) (hS : PtS p) (hg : LT w) : Calls Tryz.prog 9 #[ptV p ta tc fa fc] w fun e w' => e = .returned (rprV (prL p)) ∧ Below w.heap.size w w' := by
  have h0 := PB.start w (.cells #[.string p.m, .slice ta p.t.length tc, .slice fa p.f.length fc, .int .i64 p.tm] 32)
  obtain ⟨W0, hW0⟩ : ∃ W0, (w.alloc (.cells #[.string p.m, .slice ta p.t.length tc, .slice fa p.f.length fc, .int .i64 p.tm] 32)).alloc bdO = W0 := ⟨_, rfl⟩
  have hW0H : Hid ((w.alloc (.cells #[.string p.m, .slice ta p.t.length tc, .slice fa p.f.length fc, .int .i64 p.tm] 32)).alloc (.cells #[.int .i64 0, .int .i64 0, .int .i64 0, .bool false, .bool false] 35) = W0) := hW0
  rw [hW0] at h0
  have hZ : Hid (W0.heap.size = w.heap.size + 2) := by show _ = _; rw [← hW0]; simp
  have cP : Hid (∀ W, Below w.heap.size w W → Calls Tryz.prog 33 #[.agg #[.string p.m, .slice ta p.t.length tc, .slice fa p.f.length fc, .int .i64 p.tm]] W fun e w' => e = .returned (.bool (plainL p)) ∧ Below W.heap.size W w') := fun W b => rplain_any p ta fa tc fc W (hp.below b) hS
  have gH : Hid (∀ W, Below w.heap.size w W → LT W) := fun W b => hg.on b
  obtain ⟨hT, _, hF, hFl, hFc⟩ := hp
  have hSH : Hid (PtS p) := hS
  have eP : Hid (prL p = if plainL p then (if 8192 < (ptW p).length then .error 6 else .ok (ptW p)) else .error 60) := rfl
  obtain ⟨R, hR⟩ : ∃ R, prL p = R := ⟨_, rfl⟩
  rw [hR] at eP ⊢
  have eT : Hid (escL p.m.data.toList ++ p.t.flatMap tW ++ fsW true p.f ++ 32 :: Lib.itoa p.tm = ptW p) := rfl
  obtain ⟨T, hTe⟩ : ∃ T, ptW p = T := ⟨_, rfl⟩
  rw [hTe] at eP eT
  obtain ⟨b, hb⟩ : ∃ b, plainL p = b := ⟨_, rfl⟩
  rw [hb] at cP eP
  obtain ⟨PST, hPST⟩ : ∃ PST : Ending → World → Prop, (fun e w' => e = .returned (rprV R) ∧ Below w.heap.size w w') = PST := ⟨_, rfl⟩
  have PE : Hid (∀ n w1, R = .error n → Below w.heap.size w w1 → PST (.returned (.tuple #[.string ⟨#[]⟩, .agg #[.int .i64 n, .int .i64 0, .int .i64 0, .bool false, .bool false]])) w1) := fun n w1 e b => by rw [← hPST, e]; exact ⟨rfl, b⟩
  have PO : Hid (∀ (t : ByteArray) w1, R = .ok t.data.toList → Below w.heap.size w w1 → PST (.returned (.tuple #[.string t, .agg #[.int .i64 0, .int .i64 0, .int .i64 0, .bool false, .bool false]])) w1) := fun n w1 e b => by rw [← hPST, e]; exact ⟨rfl, b⟩
  rw [hPST]
  obtain ⟨pm, pt, pf, ptm⟩ := p
  dsimp only at hT hF hFl hFc eT cP hW0H h0 ⊢
  have hTH : Hid (TgIn w ta pt) := hT
  have hFH : Hid (FdIn w fa pf) := hF
  unfold ptV
  dsimp only
  obtain ⟨n, hn⟩ : ∃ n, pt.length = n := ⟨_, rfl⟩
  obtain ⟨m, hm⟩ : ∃ m, pf.length = m := ⟨_, rfl⟩
  have hnH : Hid (pt.length = n) := hn
  have hmH : Hid (pf.length = m) := hm
  have hnB : n ≤ 1048576 := by rw [← hn]; exact hSH.out.tn
  have hmB : m ≤ 1048576 := by rw [← hm]; exact hSH.out.fn
  rw [hn] at cP hW0H h0 ⊢
  rw [hm] at hFl hFc cP hW0H h0 ⊢
  clear hR hTe hb hPST hT hF hn hm hW0 hS hg
  have H0 : Hid (PB w (.cells #[.string pm, .slice ta n tc, .slice fa m fc, .int .i64 ptm] 32) W0) := h0
  obtain ⟨x0, x1, x2, x3⟩ := h0.pt
  have cP0 := cP.out W0 h0.1
  have cPH : Hid (Calls Tryz.prog 33 #[.agg #[.string pm, .slice ta n tc, .slice fa m fc, .int .i64 ptm]] W0 fun e w' => e = .returned (.bool b) ∧ Below W0.heap.size W0 w') := cP0
  clear h0 cP cP0
  go_enter Tryz.func9, Tryz.ntmps9
  go_wp2_with fail
  rw [hW0H.out]
  refine Calls.mono cPH.out ?_
  rintro e w1 ⟨rfl, B1⟩
  have H1 : Hid (PB w (.cells #[.string pm, .slice ta n tc, .slice fa m fc, .int .i64 ptm] 32) w1) := H0.out.below B1
  clear H0 B1 cPH x0 x1 x2 x3
  cases b with
  | false =>
    have e : R = .error 60 := eP.out
    have FH : Hid (∀ w1, Below w.heap.size w w1 → PST (.returned (.tuple #[.string ⟨#[]⟩, .agg #[.int .i64 60, .int .i64 0, .int .i64 0, .bool false, .bool false]])) w1) := fun w1 b => PE.out 60 w1 e b
    have cN : Hid (Calls Tryz.prog 34 #[.int .i64 60] w1 fun e w' => e = .returned (.agg #[.int .i64 60, .int .i64 0, .int .i64 0, .bool false, .bool false]) ∧ Below w1.heap.size w1 w') := rnew_any 60 w1
    clear e eP PE PO
    go_wp2_with fail
    refine Calls.mono cN.out ?_
    rintro e w2 ⟨rfl, B2⟩
    have H2 := H1.out.below B2
    have F := FH.out _ (H2.fin (.int .i64 60) (.int .i64 0) (.int .i64 0) (.bool false) (.bool false))
    obtain ⟨⟨b0, b1, b2, b3, b4⟩, z0, z1, z2, z3, z4⟩ := bd_cells H2.2.2
    clear H1 H2 FH B2
    go_wp2_with fail
    simp [bodyPost, results, Tryz.results9, go_sem, b0, b1, b2, b3, b4]
    exact F
  | true =>
    have eP2 : Hid (R = if 8192 < T.length then .error 6 else .ok T) := by show _ = _; rw [eP.out, if_pos rfl]
    obtain ⟨x0, x1, x2, x3⟩ := H1.out.pt
    have cE : Hid (Calls Tryz.prog 35 #[.string pm] w1 fun e w' => e = .returned (.string ⟨(escL pm.data.toList).toArray⟩) ∧ Below w1.heap.size w1 w') := rescape_any pm w1 hSH.out.m
    clear eP
    go_wp2_with fail
    refine Calls.mono cE.out ?_
    rintro e w2 ⟨rfl, B2⟩
    have H2 : Hid (PB w (.cells #[.string pm, .slice ta n tc, .slice fa m fc, .int .i64 ptm] 32) w2) := H1.out.below B2
    clear x0 x1 x2 x3 B2 H1 cE
    obtain ⟨x0, x1, x2, x3⟩ := H2.out.pt
    have hEl := escL_len pm.data.toList
    rw [← Lib.size_eq] at hEl
    obtain ⟨E, hE⟩ : ∃ E, escL pm.data.toList = E := ⟨_, rfl⟩
    rw [hE] at hEl eT ⊢
    have hElH : Hid (E.length ≤ 2097152) := by have := hSH.out.m; show E.length ≤ _; dsimp only at this; omega
    clear hE hEl
    go_wp2_with fail
    clear x0 x1 x2 x3
    go_loopw [4, 5] (fun o i wr => ∃ (k : Nat) (b : ByteArray), o = .string b ∧ i = .int .i64 (k : Int) ∧ k ≤ n ∧ Hid (b.data.toList = E ++ (pt.take k).flatMap tW) ∧ Hid (PB w (.cells #[.string pm, .slice ta n tc, .slice fa m fc, .int .i64 ptm] 32) wr)) (fun _ i _ => n - (intOf i).toNat)
    case atStart => exact ⟨0, _, rfl, rfl, Nat.zero_le _, by show _ = E ++ _; simp, H2⟩
    case round =>
      clear H2
      obtain ⟨k, b, rfl, rfl, kn, hb, hP⟩ := hrel
      obtain ⟨x0, x1, x2, x3⟩ := hP.out.pt
      have hbs : b.size ≤ 4398050705408 := by
        rw [Lib.size_eq, hb.out, List.length_append]
        have h1 := hElH.out
        have h2 := tsW_len (pt.take k) (fun t ht => hSH.out.t t (List.mem_of_mem_take ht))
        have h3 : (pt.take k).length ≤ 1048576 := by rw [List.length_take]; omega
        have h4 := Nat.mul_le_mul_right 4194306 h3
        omega
      by_cases hk : k < n
      · have hkI : (k : Int) < (n : Int) := by omega
        have k0 : (0 : Int) ≤ (k : Int) := by omega
        obtain ⟨t, ht⟩ : ∃ t, pt[k]? = some t := ⟨_, List.getElem?_eq_getElem (by have := hnH.out; omega)⟩
        obtain ⟨b1, o1, rfl, hb1, t1, t2⟩ := hTH.out.at hP.out.1 ht
        have hsz := hSH.out.t t (List.mem_of_getElem? ht)
        have hb2 : Hid (b.data.toList ++ tW t = E ++ (pt.take (k + 1)).flatMap tW) := by
          show _ = _
          rw [hb.out, List.take_add_one, ht, List.flatMap_append]
          simp
        have txH : Hid (∀ W, Below w.heap.size w W → W.cell? ⟨b1, o1 + k * 2, none⟩ = some (.string t.1) ∧ W.cell? ⟨b1, o1 + k * 2 + 1, none⟩ = some (.string t.2)) := fun W hW => by
          obtain ⟨b9, o9, e9, _, u1, u2⟩ := hTH.out.at hW ht
          injection e9 with e9; injection e9 with e9 e8 _; subst e9 e8; exact ⟨u1, u2⟩
        clear ht
        obtain ⟨K, V⟩ := t
        dsimp only at t1 t2 hsz txH
        have wi : IntKind.i64.wrap ((k : Int) + 1) = ((k + 1 : Nat) : Int) := IntWalk.i64_in _ (by omega)
        have hb1' : b1 < wr.heap.size := Nat.lt_of_lt_of_le hb1 hP.out.1.size
        have hb3 : Hid (b.data.toList ++ 44 :: (escL K.data.toList ++ 61 :: escL V.data.toList) = E ++ (pt.take (k + 1)).flatMap tW) := hb2.out
        have hKl := escL_len K.data.toList
        have hVl := escL_len V.data.toList
        rw [← Lib.size_eq] at hKl hVl
        have cel : Hid (∀ X, PB w (.cells #[.string pm, .slice (some ⟨b1, o1, none⟩) n tc, .slice fa m fc, .int .i64 ptm] 32) X → X.cell? ⟨w.heap.size, 1, none⟩ = some (.slice (some ⟨b1, o1, none⟩) n tc) ∧ X.cell? ⟨b1, o1 + k * 2, none⟩ = some (.string K) ∧ X.cell? ⟨b1, o1 + k * 2 + 1, none⟩ = some (.string V)) := fun X hX => ⟨hX.pt.2.1, txH.out X hX.1⟩
        have cK : Hid (∀ X, PB w (.cells #[.string pm, .slice (some ⟨b1, o1, none⟩) n tc, .slice fa m fc, .int .i64 ptm] 32) X → Calls Tryz.prog 35 #[.string K] X fun e w' => e = .returned (.string ⟨(escL K.data.toList).toArray⟩) ∧ PB w (.cells #[.string pm, .slice (some ⟨b1, o1, none⟩) n tc, .slice fa m fc, .int .i64 ptm] 32) w') := fun X hX => (rescape_any K X hsz.1).mono fun e w' q => ⟨q.1, hX.below q.2⟩
        have cV : Hid (∀ X, PB w (.cells #[.string pm, .slice (some ⟨b1, o1, none⟩) n tc, .slice fa m fc, .int .i64 ptm] 32) X → Calls Tryz.prog 35 #[.string V] X fun e w' => e = .returned (.string ⟨(escL V.data.toList).toArray⟩) ∧ PB w (.cells #[.string pm, .slice (some ⟨b1, o1, none⟩) n tc, .slice fa m fc, .int .i64 ptm] 32) w') := fun X hX => (rescape_any V X hsz.2).mono fun e w' q => ⟨q.1, hX.below q.2⟩
        clear hb2 txH
        generalize escL K.data.toList = EK at cK hKl hb3
        generalize escL V.data.toList = EV at cV hVl hb3
        have e44 : (⟨#[44]⟩ : ByteArray).size = 1 := rfl
        have e61 : (⟨#[61]⟩ : ByteArray).size = 1 := rfl
        have eK := sz1 EK
        have eV := sz1 EV
        have q1 : ∀ W, (Op.stringOp .add ⟨#[44]⟩ ⟨EK.toArray⟩).run Tryz.prog W = .ok (.string (⟨#[44]⟩ ++ ⟨EK.toArray⟩)) W := fun W => cat_big _ _ (by omega) W
        have q2 : ∀ W, (Op.stringOp .add (⟨#[44]⟩ ++ ⟨EK.toArray⟩) ⟨#[61]⟩).run Tryz.prog W = .ok (.string (⟨#[44]⟩ ++ ⟨EK.toArray⟩ ++ ⟨#[61]⟩)) W := fun W => cat_big _ _ (by rw [ByteArray.size_append]; omega) W
        have q3 : ∀ W, (Op.stringOp .add (⟨#[44]⟩ ++ ⟨EK.toArray⟩ ++ ⟨#[61]⟩) ⟨EV.toArray⟩).run Tryz.prog W = .ok (.string (⟨#[44]⟩ ++ ⟨EK.toArray⟩ ++ ⟨#[61]⟩ ++ ⟨EV.toArray⟩)) W := fun W => cat_big _ _ (by rw [ByteArray.size_append, ByteArray.size_append]; omega) W
        have q4 : ∀ W, (Op.stringOp .add b (⟨#[44]⟩ ++ ⟨EK.toArray⟩ ++ ⟨#[61]⟩ ++ ⟨EV.toArray⟩)).run Tryz.prog W = .ok (.string (b ++ (⟨#[44]⟩ ++ ⟨EK.toArray⟩ ++ ⟨#[61]⟩ ++ ⟨EV.toArray⟩))) W := fun W => cat_big _ _ (by rw [ByteArray.size_append, ByteArray.size_append, ByteArray.size_append]; omega) W
        have hb4 : Hid ((b ++ (⟨#[44]⟩ ++ ⟨EK.toArray⟩ ++ ⟨#[61]⟩ ++ ⟨EV.toArray⟩)).data.toList = E ++ (pt.take (k + 1)).flatMap tW) := by
          show _ = _
          rw [← hb3.out]; simp [ByteArray.data_append]
        have mk : Hid (n - ((k : Int) + 1).toNat < n - (k : Int).toNat) := meas_k hk
        have k1 : k + 1 ≤ n := hk
        clear hKl hVl hsz e44 e61 eK eV hb3 hbs hb hk kn
        have hPd : Hid (PB w (.cells #[.string pm, .slice (some ⟨b1, o1, none⟩) n tc, .slice fa m fc, .int .i64 ptm] 32) wr.drew) := hP.out.drew
        have S0 := cel.out wr hP.out
        clear x1 t1 t2
        have x1 := S0.1
        go_wp2_with fail
        go_region_held3 (fun X => X.cell? ⟨w.heap.size, 1, none⟩ = some (.slice (some ⟨b1, o1, none⟩) n tc) ∧ X.cell? ⟨b1, o1 + k * 2, none⟩ = some (.string K) ∧ X.cell? ⟨b1, o1 + k * 2 + 1, none⟩ = some (.string V)) (first | assumption)
          (first
            | (go_at_call 35; (with_reducible refine Calls.mono (cK.out _ hPd.out) ?_); rintro e2 X2 ⟨rfl, G2⟩; have S2 := cel.out _ G2)
            | (go_at_call 35; (with_reducible refine Calls.mono (cV.out _ G2) ?_); rintro e3 X3 ⟨rfl, G3⟩; have S3 := cel.out _ G3))
        all_goals
          have G3H : Hid (PB w (.cells #[.string pm, .slice (some ⟨b1, o1, none⟩) n tc, .slice fa m fc, .int .i64 ptm] 32) X3) := G3
          clear G2 G3 S0 S2 S3 hPd cel
          go_wp2_with fail
          go_roundw
        case rel => exact ⟨k + 1, _, rfl, by first | rfl | simp, k1, hb4, G3H⟩
        case measure => simp only [intOf]; exact mk.out
      · have hkI : ¬ (k : Int) < (n : Int) := by omega
        have hbT : Hid (b.data.toList ++ fsW true (pf.take 0) = b.data.toList) := by show _ = _; simp [fsW]
        have hend : Hid (b.data.toList ++ fsW true pf ++ 32 :: Lib.itoa ptm = T) := by
          show _ = _
          have := hb.out
          rw [List.take_of_length_le (by have := hnH.out; omega)] at this
          rw [this]; exact eT.out
        obtain ⟨BT, hBT⟩ : ∃ BT, b.data.toList = BT := ⟨_, rfl⟩
        have hbZ : Hid (b.data.toList = BT ++ fsW true (pf.take 0)) := by show _ = _; rw [← hBT]; exact hbT.out.symm
        have hBl : Hid (BT.length ≤ 4398050705408) := by show _ ≤ _; rw [← hBT, ← Lib.size_eq]; exact hbs
        rw [hBT] at hend
        clear hBT hbT hb hbs hk kn eT
        go_wp2_with fail
        clear x0 x1 x2 x3
        go_loopw [4, 6] (fun o i wr => ∃ (k : Nat) (b : ByteArray), o = .string b ∧ i = .int .i64 (k : Int) ∧ k ≤ m ∧ Hid (b.data.toList = BT ++ fsW true (pf.take k)) ∧ Hid (PB w (.cells #[.string pm, .slice ta n tc, .slice fa m fc, .int .i64 ptm] 32) wr)) (fun _ i _ => m - (intOf i).toNat)
        case atStart => exact ⟨0, b, rfl, rfl, Nat.zero_le _, hbZ, hP⟩
        case round =>
          clear hbZ hP hkI
          obtain ⟨k, b, rfl, rfl, kn, hb, hP⟩ := hrel
          obtain ⟨x0, x1, x2, x3⟩ := hP.out.pt
          have hbs : b.size ≤ 6597230198784 := by
            rw [Lib.size_eq, hb.out, List.length_append]
            have h1 := hBl.out
            have h2 := fsW_len (pf.take k) true (fun t ht => hSH.out.f t (List.mem_of_mem_take ht))
            have h3 : (pf.take k).length ≤ 1048576 := by rw [List.length_take]; omega
            have h4 := Nat.mul_le_mul_right 2097301 h3
            omega
          by_cases hk : k < m
          · have hkI : (k : Int) < (m : Int) := by omega
            have k0 : (0 : Int) ≤ (k : Int) := by omega
            obtain ⟨t, ht⟩ : ∃ t, pf[k]? = some t := ⟨_, List.getElem?_eq_getElem (by have := hmH.out; omega)⟩
            obtain ⟨b1, o1, rfl, hb1, t1, t2⟩ := hFH.out.at hP.out.1 ht
            have hsz := hSH.out.f t (List.mem_of_getElem? ht)
            obtain ⟨c, hc⟩ : ∃ c : UInt8, c = if k = 0 then 32 else 44 := ⟨_, rfl⟩
            have hb2 : Hid (b.data.toList ++ c :: fW t = BT ++ fsW true (pf.take (k + 1))) := by
              show _ = _
              have e5 : (if (true && (pf.take k).isEmpty) = true then (32 : UInt8) else 44) = c := by
                rw [hc]
                have hlen5 : (pf.take k).length = k := by rw [List.length_take]; have := hmH.out; omega
                by_cases k5 : k = 0
                · subst k5; simp
                · rw [if_neg k5, if_neg]
                  cases hq : pf.take k with
                  | nil => rw [hq] at hlen5; exact absurd hlen5.symm k5
                  | cons a r => simp
              rw [hb.out, List.take_add_one, ht]
              show _ = BT ++ fsW true (pf.take k ++ [t])
              rw [fsW_snoc, e5]
              simp
            have txH : Hid (∀ W, Below w.heap.size w W → W.cell? ⟨b1, o1 + k * 2, none⟩ = some (.string t.1) ∧ W.cell? ⟨b1, o1 + k * 2 + 1, none⟩ = some (.int .i64 t.2)) := fun W hW => by
              obtain ⟨b9, o9, e9, _, u1, u2⟩ := hFH.out.at hW ht
              injection e9 with e9; injection e9 with e9 e8 _; subst e9 e8; exact ⟨u1, u2⟩
            clear ht
            obtain ⟨K, V⟩ := t
            dsimp only at t1 t2 hsz txH
            have wi : IntKind.i64.wrap ((k : Int) + 1) = ((k + 1 : Nat) : Int) := IntWalk.i64_in _ (by omega)
            have hb1' : b1 < wr.heap.size := Nat.lt_of_lt_of_le hb1 hP.out.1.size
            have hb3 : Hid (b.data.toList ++ c :: (escL K.data.toList ++ 61 :: (Lib.itoa V ++ [105])) = BT ++ fsW true (pf.take (k + 1))) := hb2.out
            have hKl := escL_len K.data.toList
            rw [← Lib.size_eq] at hKl
            have hDl := itoa_len V hsz.2
            have cel : Hid (∀ X, PB w (.cells #[.string pm, .slice ta n tc, .slice (some ⟨b1, o1, none⟩) m fc, .int .i64 ptm] 32) X → X.cell? ⟨w.heap.size, 2, none⟩ = some (.slice (some ⟨b1, o1, none⟩) m fc) ∧ X.cell? ⟨b1, o1 + k * 2, none⟩ = some (.string K) ∧ X.cell? ⟨b1, o1 + k * 2 + 1, none⟩ = some (.int .i64 V)) := fun X hX => ⟨hX.pt.2.2.1, txH.out X hX.1⟩
            have cK : Hid (∀ X, PB w (.cells #[.string pm, .slice ta n tc, .slice (some ⟨b1, o1, none⟩) m fc, .int .i64 ptm] 32) X → Calls Tryz.prog 35 #[.string K] X fun e w' => e = .returned (.string ⟨(escL K.data.toList).toArray⟩) ∧ PB w (.cells #[.string pm, .slice ta n tc, .slice (some ⟨b1, o1, none⟩) m fc, .int .i64 ptm] 32) w') := fun X hX => (rescape_any K X hsz.1).mono fun e w' q => ⟨q.1, hX.below q.2⟩
            have cV : Hid (∀ X, PB w (.cells #[.string pm, .slice ta n tc, .slice (some ⟨b1, o1, none⟩) m fc, .int .i64 ptm] 32) X → Calls Tryz.prog 36 #[.int .i64 V, .int .i64 10] X fun e w' => e = .returned (.string ⟨(Lib.itoa V).toArray⟩) ∧ PB w (.cells #[.string pm, .slice ta n tc, .slice (some ⟨b1, o1, none⟩) m fc, .int .i64 ptm] 32) w') := fun X hX => (form_l V hsz.2 X (gH.out X hX.1)).mono fun e w' q => ⟨q.1, hX.below q.2⟩
            clear hb2 txH
            generalize escL K.data.toList = EK at cK hKl hb3
            generalize Lib.itoa V = D at cV hDl hb3
            have e1c : (⟨#[c]⟩ : ByteArray).size = 1 := rfl
            have e61 : (⟨#[61]⟩ : ByteArray).size = 1 := rfl
            have e105 : (⟨#[105]⟩ : ByteArray).size = 1 := rfl
            have eK := sz1 EK
            have eD := sz1 D
            have q0 : ∀ W, (Op.stringOp .add b ⟨#[c]⟩).run Tryz.prog W = .ok (.string (b ++ ⟨#[c]⟩)) W := fun W => cat_big _ _ (by omega) W
            have q1 : ∀ W, (Op.stringOp .add ⟨EK.toArray⟩ ⟨#[61]⟩).run Tryz.prog W = .ok (.string (⟨EK.toArray⟩ ++ ⟨#[61]⟩)) W := fun W => cat_big _ _ (by omega) W
            have q2 : ∀ W, (Op.stringOp .add (⟨EK.toArray⟩ ++ ⟨#[61]⟩) ⟨D.toArray⟩).run Tryz.prog W = .ok (.string (⟨EK.toArray⟩ ++ ⟨#[61]⟩ ++ ⟨D.toArray⟩)) W := fun W => cat_big _ _ (by rw [ByteArray.size_append]; omega) W
            have q3 : ∀ W, (Op.stringOp .add (⟨EK.toArray⟩ ++ ⟨#[61]⟩ ++ ⟨D.toArray⟩) ⟨#[105]⟩).run Tryz.prog W = .ok (.string (⟨EK.toArray⟩ ++ ⟨#[61]⟩ ++ ⟨D.toArray⟩ ++ ⟨#[105]⟩)) W := fun W => cat_big _ _ (by rw [ByteArray.size_append, ByteArray.size_append]; omega) W
            have q4 : ∀ W, (Op.stringOp .add (b ++ ⟨#[c]⟩) (⟨EK.toArray⟩ ++ ⟨#[61]⟩ ++ ⟨D.toArray⟩ ++ ⟨#[105]⟩)).run Tryz.prog W = .ok (.string (b ++ ⟨#[c]⟩ ++ (⟨EK.toArray⟩ ++ ⟨#[61]⟩ ++ ⟨D.toArray⟩ ++ ⟨#[105]⟩))) W := fun W => cat_big _ _ (by rw [ByteArray.size_append, ByteArray.size_append, ByteArray.size_append, ByteArray.size_append]; omega) W
            have hb4 : Hid ((b ++ ⟨#[c]⟩ ++ (⟨EK.toArray⟩ ++ ⟨#[61]⟩ ++ ⟨D.toArray⟩ ++ ⟨#[105]⟩)).data.toList = BT ++ fsW true (pf.take (k + 1))) := by
              show _ = _
              rw [← hb3.out]; simp [ByteArray.data_append]
            have mk : Hid (m - ((k : Int) + 1).toNat < m - (k : Int).toNat) := meas_k hk
            have k1 : k + 1 ≤ m := hk
            clear hKl hDl hsz e1c e61 e105 eK eD hb3 hbs hb hk kn
            have hPd : Hid (PB w (.cells #[.string pm, .slice ta n tc, .slice (some ⟨b1, o1, none⟩) m fc, .int .i64 ptm] 32) wr.drew) := hP.out.drew
            have S0 := cel.out wr hP.out
            clear x2 t1 t2 x0 x1 x3
            have x2 := S0.1
            by_cases k5 : k = 0
            · have hc2 : c = 32 := by rw [hc, if_pos k5]
              have kI : ((k : Int) == 0) = true := by simp [k5]
              subst hc2
              clear hc k5
              go_wp2_with fail
              go_region_held3 (fun X => X.cell? ⟨w.heap.size, 2, none⟩ = some (.slice (some ⟨b1, o1, none⟩) m fc) ∧ X.cell? ⟨b1, o1 + k * 2, none⟩ = some (.string K) ∧ X.cell? ⟨b1, o1 + k * 2 + 1, none⟩ = some (.int .i64 V)) (first | assumption)
                (first
                  | (go_at_call 35; (with_reducible refine Calls.mono (cK.out _ hPd.out) ?_); rintro e2 X2 ⟨rfl, G2⟩; have S2 := cel.out _ G2)
                  | (go_at_call 36; (with_reducible refine Calls.mono (cV.out _ G2) ?_); rintro e3 X3 ⟨rfl, G3⟩; have S3 := cel.out _ G3))
              all_goals
                have G3H : Hid (PB w (.cells #[.string pm, .slice ta n tc, .slice (some ⟨b1, o1, none⟩) m fc, .int .i64 ptm] 32) X3) := G3
                clear G2 G3 S0 S2 S3 hPd cel
                go_wp2_with fail
                go_roundw
              case rel => exact ⟨k + 1, _, rfl, by first | rfl | simp, k1, hb4, G3H⟩
              case measure => simp only [intOf]; exact mk.out
            · have hc2 : c = 44 := by rw [hc, if_neg k5]
              have kI : ((k : Int) == 0) = false := beq_eq_false_iff_ne.2 (by omega)
              subst hc2
              clear hc k5
              go_wp2_with fail
              go_region_held3 (fun X => X.cell? ⟨w.heap.size, 2, none⟩ = some (.slice (some ⟨b1, o1, none⟩) m fc) ∧ X.cell? ⟨b1, o1 + k * 2, none⟩ = some (.string K) ∧ X.cell? ⟨b1, o1 + k * 2 + 1, none⟩ = some (.int .i64 V)) (first | assumption)
                (first
                  | (go_at_call 35; (with_reducible refine Calls.mono (cK.out _ hPd.out) ?_); rintro e2 X2 ⟨rfl, G2⟩; have S2 := cel.out _ G2)
                  | (go_at_call 36; (with_reducible refine Calls.mono (cV.out _ G2) ?_); rintro e3 X3 ⟨rfl, G3⟩; have S3 := cel.out _ G3))
              all_goals
                have G3H : Hid (PB w (.cells #[.string pm, .slice ta n tc, .slice (some ⟨b1, o1, none⟩) m fc, .int .i64 ptm] 32) X3) := G3
                clear G2 G3 S0 S2 S3 hPd cel
                go_wp2_with fail
                go_roundw
              case rel => exact ⟨k + 1, _, rfl, by first | rfl | simp, k1, hb4, G3H⟩
              case measure => simp only [intOf]; exact mk.out
          · have hkI : ¬ (k : Int) < (m : Int) := by omega
            have hbE : Hid (b.data.toList ++ 32 :: Lib.itoa ptm = T) := by
              show _ = _
              have := hb.out
              rw [List.take_of_length_le (by have := hmH.out; omega)] at this
              rw [this]; exact hend.out
            have hDl := itoa_len ptm hSH.out.tm
            have cV : Hid (Calls Tryz.prog 36 #[.int .i64 ptm, .int .i64 10] wr fun e w' => e = .returned (.string ⟨(Lib.itoa ptm).toArray⟩) ∧ PB w (.cells #[.string pm, .slice ta n tc, .slice fa m fc, .int .i64 ptm] 32) w') := (form_l ptm hSH.out.tm wr (gH.out wr hP.out.1)).mono fun e w' q => ⟨q.1, hP.out.below q.2⟩
            clear hb hend
            generalize Lib.itoa ptm = D at cV hDl hbE
            have e32 : (⟨#[32]⟩ : ByteArray).size = 1 := rfl
            have eD := sz1 D
            have q1 : ∀ W, (Op.stringOp .add ⟨#[32]⟩ ⟨D.toArray⟩).run Tryz.prog W = .ok (.string (⟨#[32]⟩ ++ ⟨D.toArray⟩)) W := fun W => cat_big _ _ (by omega) W
            have q2 : ∀ W, (Op.stringOp .add b (⟨#[32]⟩ ++ ⟨D.toArray⟩)).run Tryz.prog W = .ok (.string (b ++ (⟨#[32]⟩ ++ ⟨D.toArray⟩))) W := fun W => cat_big _ _ (by rw [ByteArray.size_append]; omega) W
            have hX : (b ++ (⟨#[32]⟩ ++ ⟨D.toArray⟩)).data.toList = T := by rw [← hbE.out]; simp [ByteArray.data_append]
            obtain ⟨X, hXe⟩ : ∃ X, b ++ (⟨#[32]⟩ ++ ⟨D.toArray⟩) = X := ⟨_, rfl⟩
            rw [hXe] at hX q2
            have hXs : X.size = T.length := by rw [Lib.size_eq, hX]
            have hXH : Hid (X.data.toList = T) := hX
            clear hbE hDl e32 eD hbs hX hXe
            go_wp2_with fail
            refine Calls.mono cV.out ?_
            rintro e w3 ⟨rfl, H3⟩
            have H3H : Hid (PB w (.cells #[.string pm, .slice ta n tc, .slice fa m fc, .int .i64 ptm] 32) w3) := H3
            clear cV H3 hP x0 x1 x2 x3
            by_cases h8 : 8192 < T.length
            · have e : R = .error 6 := by rw [eP2.out, if_pos h8]
              have FH : Hid (∀ w1, Below w.heap.size w w1 → PST (.returned (.tuple #[.string ⟨#[]⟩, .agg #[.int .i64 6, .int .i64 0, .int .i64 0, .bool false, .bool false]])) w1) := fun w1 b => PE.out 6 w1 e b
              have h8I : (8192 : Int) < (X.size : Int) := by omega
              have cN : Hid (Calls Tryz.prog 34 #[.int .i64 6] w3 fun e w' => e = .returned (.agg #[.int .i64 6, .int .i64 0, .int .i64 0, .bool false, .bool false]) ∧ Below w3.heap.size w3 w') := rnew_any 6 w3
              clear e eP2 PE PO hXs h8
              go_wp2_with fail
              refine Calls.mono cN.out ?_
              rintro e w2 ⟨rfl, B2⟩
              have H2 := H3H.out.below B2
              have F := FH.out _ (H2.fin (.int .i64 6) (.int .i64 0) (.int .i64 0) (.bool false) (.bool false))
              obtain ⟨⟨b0, b1, b2, b3, b4⟩, z0, z1, z2, z3, z4⟩ := bd_cells H2.2.2
              clear H2 FH B2 H3H
              go_wp2_with fail
              simp [bodyPost, results, Tryz.results9, go_sem, b0, b1, b2, b3, b4]
              exact F
            · have e : R = .ok X.data.toList := by rw [eP2.out, if_neg h8, hXH.out]
              have h8I : ¬ (8192 : Int) < (X.size : Int) := by omega
              have H2 := H3H.out
              have F := PO.out X _ e (H2.fin (.int .i64 0) (.int .i64 0) (.int .i64 0) (.bool false) (.bool false))
              obtain ⟨⟨b0, b1, b2, b3, b4⟩, z0, z1, z2, z3, z4⟩ := bd_cells H2.2.2
              clear H2 e eP2 PE PO hXs h8 H3H
              go_wp2_with fail
              simp [bodyPost, results, Tryz.results9, go_sem, b0, b1, b2, b3, b4]
              exact F
end Go.Proofs.YtbojljmacheccaaGreatDoor.Ln

namespace Go.Proofs.YtbojljmacheccaaGreatDoor.Ln
open Go.RowKit Go.Shelf
attribute [local go_sem] Oper.semAt_some
set_option linter.unusedVariables false
set_option linter.unusedSimpArgs false
set_option maxRecDepth 100000
/-! ### the document's All. -/
def BX (w W : World) : Prop := Below w.heap.size w W ∧ W.heap[w.heap.size]? = some bdO
theorem BX.below {w W W' : World} (h : BX w W) (hb : Below W.heap.size W W') : BX w W' := ⟨h.1.trans (hb.mono h.1.size), (hb.block _ (Array.getElem?_eq_some_iff.1 h.2).1).trans h.2⟩
theorem BX.start (w : World) : BX w (w.alloc bdO) := ⟨(Below.refl _ w).alloc (Nat.le_refl _) _, World.alloc_heap_new w bdO⟩
theorem BX.fin {w W : World} (h : BX w W) (x y z u v : Value) : Below w.heap.size w (((((W.setCell ⟨w.heap.size, 0, none⟩ x).setCell ⟨w.heap.size, 1, none⟩ y).setCell ⟨w.heap.size, 2, none⟩ z).setCell ⟨w.heap.size, 3, none⟩ u).setCell ⟨w.heap.size, 4, none⟩ v) :=
  ((((h.1.setCell (p := ⟨w.heap.size, 0, none⟩) (Nat.le_refl _) _).setCell (p := ⟨w.heap.size, 1, none⟩) (Nat.le_refl _) _).setCell (p := ⟨w.heap.size, 2, none⟩) (Nat.le_refl _) _).setCell (p := ⟨w.heap.size, 3, none⟩) (Nat.le_refl _) _).setCell (p := ⟨w.heap.size, 4, none⟩) (Nat.le_refl _) _
def rallV : Except (Nat × Int) By → Value
  | .ok t => .tuple #[.string ⟨t.toArray⟩, .agg #[.int .i64 0, .int .i64 0, .int .i64 0, .bool false, .bool false]]
  | .error x => .tuple #[.string ⟨#[]⟩, .agg #[.int .i64 x.2, .int .i64 0, .int .i64 (x.1 : Int), .bool false, .bool true]]
theorem prL_err {p : PtP} {n : Int} (h : prL p = .error n) : (n == 0) = false := by
  unfold prL at h
  split at h
  · split at h
    · injection h with h; subst h; rfl
    · cases h
  · injection h with h; subst h; rfl
set_option maxHeartbeats 8000000 in
theorem rall_l (l : List PtP) (a : Option Addr) (c : Nat) (w : World) (ha : PsIn w a l) (hS : ∀ p ∈ l, PtS p) (hn : l.length ≤ 1048576) (hg : LT w) : Calls Tryz.prog 12 #[.slice a l.length c] w fun e w' => e = .returned (rallV (allR l)) ∧ Below w.heap.size w w' := by
  obtain ⟨R, hR⟩ : ∃ R, allR l = R := ⟨_, rfl⟩
  obtain ⟨PST, hPST⟩ : ∃ PST : Ending → World → Prop, (fun e w' => e = .returned (rallV R) ∧ Below w.heap.size w w') = PST := ⟨_, rfl⟩
  have PE : Hid (∀ (k : Nat) (q : Int) w1, R = .error (k, q) → Below w.heap.size w w1 → PST (.returned (.tuple #[.string ⟨#[]⟩, .agg #[.int .i64 q, .int .i64 0, .int .i64 (k : Int), .bool false, .bool true]])) w1) := fun k q w1 e b => by rw [← hPST, e]; exact ⟨rfl, b⟩
  have PO : Hid (∀ (t : ByteArray) w1, R = .ok t.data.toList → Below w.heap.size w w1 → PST (.returned (.tuple #[.string t, .agg #[.int .i64 0, .int .i64 0, .int .i64 0, .bool false, .bool false]])) w1) := fun t w1 e b => by rw [← hPST, e]; exact ⟨rfl, b⟩
  rw [hR, hPST]
  have R0 : Hid (runB [] 0 (l.drop 0) = R) := hR
  obtain ⟨n, hn1⟩ : ∃ n, n = l.length := ⟨_, rfl⟩
  have nH : Hid (n = l.length) := hn1
  rw [← hn1] at hn ⊢
  have aH : Hid (PsIn w a l) := ha
  have h0 := BX.start w
  unfold bdO at h0
  have H0 : Hid (BX w (w.alloc (.cells #[.int .i64 0, .int .i64 0, .int .i64 0, .bool false, .bool false] 35))) := h0
  have cP : Hid (∀ p ta tc fa fc W, p ∈ l → Below w.heap.size w W → PtIn W ta fa fc p → Calls Tryz.prog 9 #[ptV p ta tc fa fc] W fun e w' => e = .returned (rprV (prL p)) ∧ Below W.heap.size W w') := fun p ta tc fa fc W h b hp => rprint_l p ta fa tc fc W hp (hS p h) (hg.on b)
  clear hR hPST ha hn1 hS hg h0
  go_enter Tryz.func12, Tryz.ntmps12
  go_wp2_with fail
  go_loopg [4, 5, 6, 7] n (fun gk sv iv v6 v7 wx => ∃ (k : Nat) (b : ByteArray), gk = n - k ∧ sv = .string b ∧ iv = .int .i64 (k : Int) ∧ k ≤ n ∧ Hid (runB b.data.toList k (l.drop k) = R ∧ b.size ≤ k * 8193) ∧ Hid (BX w wx))
  case atStart => exact ⟨0, ⟨#[]⟩, rfl, rfl, rfl, Nat.zero_le _, ⟨R0.out, Nat.le_of_eq rfl⟩, H0⟩
  case round =>
    rename World => wx
    clear R0 H0
    obtain ⟨k, b, hgk, rfl, rfl, kn, hr, hx⟩ := hrel
    have hgkH : Hid (gk = n - k) := hgk
    clear hgk
    have k0 : (0 : Int) ≤ (k : Int) := by omega
    have wi : IntKind.i64.wrap ((k : Int) + 1) = ((k + 1 : Nat) : Int) := IntWalk.i64_in _ (by omega)
    by_cases hk : k < n
    · have hkI : (k : Int) < (n : Int) := by omega
      obtain ⟨p, hpk⟩ : ∃ p, l[k]? = some p := ⟨_, List.getElem?_eq_getElem (by have := nH.out; omega)⟩
      obtain ⟨b1, off, ta, tc, fa, fc, e1, hbx, ax, fx⟩ := aH.out.at hx.out.1 hpk
      subst e1
      have hpm := List.mem_of_getElem? hpk
      have hst := hr.out.1
      rw [drop_cons_p hpk, runB_cons] at hst
      unfold PAt at ax
      obtain ⟨x1, x2, x3, x4⟩ := ax
      have hlt : b1 < wx.heap.size := Nat.lt_of_lt_of_le hbx hx.out.1.size
      have cPr := cP.out p ta tc fa fc wx hpm hx.out.1 (fx wx hx.out.1).2
      have hbl := hr.out.2
      cases hpr : prL p with
      | error q =>
        rw [hpr] at hst cPr
        have hq := prL_err hpr
        have hqn : (q != 0) = true := by simpa using hq
        have hR2 : Hid (R = .error (k, q)) := hst.symm
        have cPH : Hid (Calls Tryz.prog 9 #[.agg #[.string p.m, .slice ta p.t.length tc, .slice fa p.f.length fc, .int .i64 p.tm]] wx fun e w' => e = .returned (.tuple #[.string ⟨#[]⟩, .agg #[.int .i64 q, .int .i64 0, .int .i64 0, .bool false, .bool false]]) ∧ Below wx.heap.size wx w') := cPr
        have cI : Hid (∀ W, Calls Tryz.prog 41 #[.int .i64 (k : Int), .agg #[.int .i64 q, .int .i64 0, .int .i64 0, .bool false, .bool false]] W fun e w' => e = .returned (.agg #[.int .i64 q, .int .i64 0, .int .i64 (k : Int), .bool false, .bool true]) ∧ Below W.heap.size W w') := fun W => refin_l (k : Int) q hq 0 0 false false W
        clear hst cPr fx hpr hpk hpm hbx hr hbl
        generalize p.t.length = nt at *
        generalize p.f.length = nf at *
        generalize p.m = pm at *
        generalize p.tm = pt at *
        go_wp2_with fail
        refine Calls.mono cPH.out ?_
        rintro e w3 ⟨rfl, B3⟩
        have h3 := hx.out.below B3
        have h4 : BX w (w3.alloc (.cells #[.int .i64 q, .int .i64 0, .int .i64 0, .bool false, .bool false] 35)) := h3.below ((Below.refl _ w3).alloc (Nat.le_refl _) _)
        have h4H : Hid (BX w (w3.alloc (.cells #[.int .i64 q, .int .i64 0, .int .i64 0, .bool false, .bool false] 35))) := h4
        clear B3 h3 h4 x1 x2 x3 x4
        go_wp2_with fail
        refine Calls.mono (cI.out _) ?_
        rintro e w4 ⟨rfl, B4⟩
        have h5 := h4H.out.below B4
        have F := PE.out k q _ hR2.out (h5.fin (.int .i64 q) (.int .i64 0) (.int .i64 (k : Int)) (.bool false) (.bool true))
        obtain ⟨⟨b0, b1, b2, b3, b4⟩, z0, z1, z2, z3, z4⟩ := bd_cells h5.2
        clear h5 B4 PE PO h4H hx
        go_wp2_with fail
        simp [bodyPost, results, Tryz.results12, go_sem, b0, b1, b2, b3, b4]
        exact F
      | ok t =>
        rw [hpr] at hst cPr
        have htl := prL_len hpr
        have cPH : Hid (Calls Tryz.prog 9 #[.agg #[.string p.m, .slice ta p.t.length tc, .slice fa p.f.length fc, .int .i64 p.tm]] wx fun e w' => e = .returned (.tuple #[.string ⟨t.toArray⟩, .agg #[.int .i64 0, .int .i64 0, .int .i64 0, .bool false, .bool false]]) ∧ Below wx.heap.size wx w') := cPr
        have e10 : (⟨#[10]⟩ : ByteArray).size = 1 := rfl
        have eT := sz1 t
        have q1 : ∀ W, (Op.stringOp .add ⟨t.toArray⟩ ⟨#[10]⟩).run Tryz.prog W = .ok (.string (⟨t.toArray⟩ ++ ⟨#[10]⟩)) W := fun W => cat_big _ _ (by omega) W
        have q2 : ∀ W, (Op.stringOp .add b (⟨t.toArray⟩ ++ ⟨#[10]⟩)).run Tryz.prog W = .ok (.string (b ++ (⟨t.toArray⟩ ++ ⟨#[10]⟩))) W := fun W => cat_big _ _ (by rw [ByteArray.size_append]; omega) W
        have hr2 : Hid (runB (b ++ (⟨t.toArray⟩ ++ ⟨#[10]⟩)).data.toList (k + 1) (l.drop (k + 1)) = R ∧ (b ++ (⟨t.toArray⟩ ++ ⟨#[10]⟩)).size ≤ (k + 1) * 8193) := ⟨by
          have e : (b ++ (⟨t.toArray⟩ ++ ⟨#[10]⟩)).data.toList = b.data.toList ++ (t ++ [10]) := by simp [ByteArray.data_append]
          rw [e]; exact hst, by rw [ByteArray.size_append, ByteArray.size_append]; omega⟩
        clear hst cPr fx hpr hpk hpm hbx hr hbl e10 eT htl
        generalize p.t.length = nt at *
        generalize p.f.length = nf at *
        generalize p.m = pm at *
        generalize p.tm = pt at *
        go_wp2_with fail
        refine Calls.mono cPH.out ?_
        rintro e w3 ⟨rfl, B3⟩
        have h3 := hx.out.below B3
        have h4 : BX w (w3.alloc (.cells #[.int .i64 0, .int .i64 0, .int .i64 0, .bool false, .bool false] 35)) := h3.below ((Below.refl _ w3).alloc (Nat.le_refl _) _)
        have h4H : Hid (BX w (w3.alloc (.cells #[.int .i64 0, .int .i64 0, .int .i64 0, .bool false, .bool false] 35))) := h4
        clear B3 h3 h4 x1 x2 x3 x4 hx
        go_wp2_with fail
        go_roundg (n - (k + 1))
        case measure => rw [hgkH.out]; omega
        case rel => exact ⟨k + 1, _, rfl, rfl, by first | rfl | simp, by omega, hr2, h4H⟩
    · have hkI : ¬ (k : Int) < (n : Int) := by omega
      have hR2 : R = .ok b.data.toList := by
        have := hr.out.1
        rw [List.drop_eq_nil_of_le (by have := nH.out; omega)] at this
        exact this.symm
      have F := PO.out b _ hR2 (hx.out.fin (.int .i64 0) (.int .i64 0) (.int .i64 0) (.bool false) (.bool false))
      obtain ⟨⟨b0, b1, b2, b3, b4⟩, z0, z1, z2, z3, z4⟩ := bd_cells hx.out.2
      have hl : w.heap.size < wx.heap.size := (Array.getElem?_eq_some_iff.1 hx.out.2).1
      clear hx hr hR2 PE PO
      go_wp2_with fail
      simp [bodyPost, results, Tryz.results12, go_sem, b0, b1, b2, b3, b4]
      exact F
end Go.Proofs.YtbojljmacheccaaGreatDoor.Ln

namespace Go.Proofs.YtbojljmacheccaaGreatDoor.Ln
open Go.RowKit Go.Shelf
attribute [local go_sem] Oper.semAt_some
set_option linter.unusedVariables false
set_option linter.unusedSimpArgs false
set_option maxRecDepth 100000
/-! ### LinePrints. -/
theorem HdP.at {H : Nat} {l : List PtP} {ht hf : Nat → Nat} {w0 X : World} (h : HdP H l ht hf l.length (l.length + 9) w0 X) (hs : ∀ p ∈ l, p.t.length ≤ 4398046511104 ∧ p.f.length ≤ 4398046511104) {k : Nat} {p : PtP} (hp : l[k]? = some p) :
    (X.cell? ⟨H, k * 4, none⟩ = some (.string p.m) ∧ X.cell? ⟨H, k * 4 + 1, none⟩ = some (.slice (some ⟨ht k, 0, none⟩) p.t.length (p.t.length + 9)) ∧ X.cell? ⟨H, k * 4 + 2, none⟩ = some (.slice (some ⟨hf k, 0, none⟩) p.f.length (p.f.length + 9)) ∧ X.cell? ⟨H, k * 4 + 3, none⟩ = some (.int .i64 p.tm)) ∧ PtIn X (some ⟨ht k, 0, none⟩) (some ⟨hf k, 0, none⟩) (p.f.length + 9) p := by
  obtain ⟨a, b⟩ := h
  have hi : k < l.length := (List.getElem?_eq_some_iff.1 hp).1
  obtain ⟨c1, c2, c3, c4⟩ := a.c k (by omega)
  obtain ⟨d1, d2⟩ := b k p hi hp
  have s := hs p (List.mem_of_getElem? hp)
  unfold p1 at c1
  unfold p2 at c2
  unfold p3 at c3
  unfold p4 at c4
  simp only [hi, hp, if_true] at c1 c2 c3 c4
  exact ⟨⟨c1, c2, c3, c4⟩, d1.2.tin, by omega, d2.2.tin, by omega, by omega⟩
theorem same_n (q : Int) (h : (q == 0) = false) (w : World) (hg : ET w) : Calls Tryz.prog 10 #[.iface 33 (.int .i64 q), .agg #[.int .i64 q, .int .i64 0, .int .i64 0, .bool false, .bool false]] w fun e w' => e = .returned (.bool true) ∧ Below w.heap.size w w' := sameC_miss_miss [] q h rfl rfl w hg
theorem same_i (k q : Int) (h : (q == 0) = false) (w : World) (hg : ET w) : Calls Tryz.prog 10 #[.iface 107 (.agg #[.int .i64 k, .iface 33 (.int .i64 q)]), .agg #[.int .i64 q, .int .i64 0, .int .i64 k, .bool false, .bool true]] w fun e w' => e = .returned (.bool true) ∧ Below w.heap.size w w' := sameC_miss_hit [(true, k)] q h rfl k [] rfl w hg
theorem runB_err : ∀ (r : List PtP) (acc : By) (i : Nat) (x : Nat × Int), runB acc i r = .error x → (x.2 == 0) = false
  | [], _, _, _, h => by cases h
  | p :: r, acc, i, x, h => by
    rw [runB_cons] at h
    cases hp : prL p with
    | error n => rw [hp] at h; injection h with h; rw [← h]; exact prL_err hp
    | ok t => rw [hp] at h; exact runB_err r _ _ x h
set_option maxHeartbeats 16000000 in
theorem linePrints_walk (l : List PtP) (a : Option Addr) (c : Nat) (w : World) (ha : PsIn w a l) (hS : ∀ p ∈ l, PtS p) (hn : l.length ≤ 1048576) (hg : LT w) : Calls Tryz.prog 3 #[.slice a l.length c] w fun e w' => e = .returned (.bool true) ∧ Below w.heap.size w w' := by
  have hs : ∀ p ∈ l, p.t.length ≤ 4398046511104 ∧ p.f.length ≤ 4398046511104 := fun p hp => ⟨by have := (hS p hp).tn; omega, by have := (hS p hp).fn; omega⟩
  have cL : Hid (Calls Tryz.prog 6 #[] w fun e w' => e = .returned (.bool true) ∧ Below w.heap.size w w') := live_l w hg
  have cH : Hid (∀ W, Below w.heap.size w W → Calls Tryz.prog 7 #[.slice a l.length c] W fun e w' => e = .returned (.slice (some ⟨W.heap.size, 0, none⟩) l.length (l.length + 9)) ∧ ∃ ht hf, HdP W.heap.size l ht hf l.length (l.length + 9) W w') := fun W hb => handPoints_any l a c W (ha.below hb) (by omega) hs
  have cP : Hid (∀ p ta tc fa fc W, p ∈ l → Below w.heap.size w W → PtIn W ta fa fc p → Calls Tryz.prog 8 #[ptV p ta tc fa fc] W fun e w' => e = .returned (prV (prL p)) ∧ Below W.heap.size W w') := fun p ta tc fa fc W h b hp => print_l p ta fa tc fc W hp (hS p h) (hg.on b)
  have cR : Hid (∀ p ta tc fa fc W, p ∈ l → Below w.heap.size w W → PtIn W ta fa fc p → Calls Tryz.prog 9 #[ptV p ta tc fa fc] W fun e w' => e = .returned (rprV (prL p)) ∧ Below W.heap.size W w') := fun p ta tc fa fc W h b hp => rprint_l p ta fa tc fc W hp (hS p h) (hg.on b)
  have cA : Hid (∀ H cap W, Below w.heap.size w W → PsIn W (some ⟨H, 0, none⟩) l → Calls Tryz.prog 11 #[.slice (some ⟨H, 0, none⟩) l.length cap] W fun e w' => e = .returned (allV (allR l)) ∧ Below W.heap.size W w') := fun H cap W b hp => all_l l _ cap W hp hS hn (hg.on b)
  have cQ : Hid (∀ W, Below w.heap.size w W → Calls Tryz.prog 12 #[.slice a l.length c] W fun e w' => e = .returned (rallV (allR l)) ∧ Below W.heap.size W w') := fun W b => rall_l l a c W (ha.below b) hS hn (hg.on b)
  have cK : Hid (∀ H ht hf w0 W, Below w.heap.size w W → HdP H l ht hf l.length (l.length + 9) w0 W → Calls Tryz.prog 13 #[.slice (some ⟨H, 0, none⟩) l.length (l.length + 9), .slice a l.length c] W fun e w' => e = .returned (.bool true) ∧ Below W.heap.size W w') := fun H ht hf w0 W b h => keptPoints_any l H ht hf w0 a c W h (ha.below b) (by omega) hs
  have cE : Hid (∀ q W, (q == 0) = false → Below w.heap.size w W → Calls Tryz.prog 10 #[.iface 33 (.int .i64 q), .agg #[.int .i64 q, .int .i64 0, .int .i64 0, .bool false, .bool false]] W fun e w' => e = .returned (.bool true) ∧ Below W.heap.size W w') := fun q W h b => same_n q h W (hg.on b).et
  have cN : Hid (∀ W, Calls Tryz.prog 10 #[.nilIface, .agg #[.int .i64 0, .int .i64 0, .int .i64 0, .bool false, .bool false]] W fun e w' => e = .returned (.bool true) ∧ Below W.heap.size W w') := fun W => same_nilW W
  have cI : Hid (∀ (k : Nat) q W, (q == 0) = false → Below w.heap.size w W → Calls Tryz.prog 10 #[.iface 107 (.agg #[.int .i64 (k : Int), .iface 33 (.int .i64 q)]), .agg #[.int .i64 q, .int .i64 0, .int .i64 (k : Int), .bool false, .bool true]] W fun e w' => e = .returned (.bool true) ∧ Below W.heap.size W w') := fun k q W h b => same_i k q h W (hg.on b).et
  have aH : Hid (PsIn w a l) := ha
  have hsH : Hid (∀ p ∈ l, p.t.length ≤ 4398046511104 ∧ p.f.length ≤ 4398046511104) := hs
  obtain ⟨n, hn1⟩ : ∃ n, n = l.length := ⟨_, rfl⟩
  have nH : Hid (n = l.length) := hn1
  have atH : Hid (∀ H ht hf w0 X k p, HdP H l ht hf n (n + 9) w0 X → l[k]? = some p → (X.cell? ⟨H, k * 4, none⟩ = some (.string p.m) ∧ X.cell? ⟨H, k * 4 + 1, none⟩ = some (.slice (some ⟨ht k, 0, none⟩) p.t.length (p.t.length + 9)) ∧ X.cell? ⟨H, k * 4 + 2, none⟩ = some (.slice (some ⟨hf k, 0, none⟩) p.f.length (p.f.length + 9)) ∧ X.cell? ⟨H, k * 4 + 3, none⟩ = some (.int .i64 p.tm)) ∧ PtIn X (some ⟨ht k, 0, none⟩) (some ⟨hf k, 0, none⟩) (p.f.length + 9) p) := fun H ht hf w0 X k p h hp => HdP.at (by rw [← hn1]; exact h) hs hp
  have psH : Hid (∀ H ht hf w0 X, HdP H l ht hf n (n + 9) w0 X → PsIn X (some ⟨H, 0, none⟩) l) := fun H ht hf w0 X h => HdP.psIn (by rw [← hn1]; exact h) hs
  rw [← hn1] at hn cH cA cQ cK ⊢
  clear ha hS hg hn1 hs
  go_enter Tryz.func3, Tryz.ntmps3
  go_wp2_with fail
  refine Calls.mono cL.out ?_
  rintro e w1 ⟨rfl, B1⟩
  have cH1 := cH.out w1 B1
  have B1H : Hid (Below w.heap.size w w1) := B1
  have cHH : Hid (Calls Tryz.prog 7 #[.slice a n c] w1 fun e w' => e = .returned (.slice (some ⟨w1.heap.size, 0, none⟩) n (n + 9)) ∧ ∃ ht hf, HdP w1.heap.size l ht hf n (n + 9) w1 w') := cH1
  clear B1 cL cH cH1
  go_wp2_with fail
  refine Calls.mono cHH.out ?_
  rintro e w2 ⟨rfl, ht, hf, hP⟩
  have B2H : Hid (Below w.heap.size w w2) := B1H.out.trans (hP.1.b.mono B1H.out.size)
  obtain ⟨H, hHe⟩ : ∃ H, w1.heap.size = H := ⟨_, rfl⟩
  rw [hHe] at hP ⊢
  have hHs : Hid (H < w2.heap.size) := hP.1.sz
  have hPH : Hid (∀ X, Below w2.heap.size w2 X → HdP H l ht hf n (n + 9) w1 X) := fun X b => hP.below b
  have hBX : Hid (∀ X, Below w2.heap.size w2 X → Below w.heap.size w X) := fun X b => B2H.out.trans (b.mono B2H.out.size)
  have B0 : Hid (Below w2.heap.size w2 w2) := Below.refl _ _
  clear hP cHH B1H hHe
  go_wp2_with fail
  go_loopg [4, 5, 6, 7, 8] n (fun gk iv v5 v6 v7 v8 wx => ∃ (k : Nat), gk = n - k ∧ iv = .int .i64 (k : Int) ∧ k ≤ n ∧ Hid (Below w2.heap.size w2 wx))
  case atStart => exact ⟨0, rfl, rfl, Nat.zero_le _, B0⟩
  case round =>
    rename World => wx
    clear B0
    obtain ⟨k, hgk, rfl, kn, hb⟩ := hrel
    have hgkH : Hid (gk = n - k) := hgk
    clear hgk
    have k0 : (0 : Int) ≤ (k : Int) := by omega
    have wi : IntKind.i64.wrap ((k : Int) + 1) = ((k + 1 : Nat) : Int) := IntWalk.i64_in _ (by omega)
    by_cases hk : k < n
    · have hkI : (k : Int) < (n : Int) := by omega
      have hkN : (k : Int) < ((n + 9 : Nat) : Int) := by omega
      obtain ⟨p, hpk⟩ : ∃ p, l[k]? = some p := ⟨_, List.getElem?_eq_getElem (by have := nH.out; omega)⟩
      have hbw := hBX.out wx hb.out
      obtain ⟨b, off, ta, tc, fa, fc, e1, hbx, ax, fx⟩ := aH.out.at hbw hpk
      subst e1
      have hpm := List.mem_of_getElem? hpk
      obtain ⟨⟨y1, y2, y3, y4⟩, hpt⟩ := atH.out _ _ _ _ _ k p (hPH.out wx hb.out) hpk
      have hl1 : H < wx.heap.size := Nat.lt_of_lt_of_le hHs.out hb.out.size
      have cPr := cP.out p _ (p.t.length + 9) _ (p.f.length + 9) wx hpm hbw hpt
      have xC : Hid (∀ X : World, Below w2.heap.size w2 X → (X.cell? ⟨b, off + k * 4, none⟩ = some (.string p.m) ∧ X.cell? ⟨b, off + k * 4 + 1, none⟩ = some (.slice ta p.t.length tc) ∧ X.cell? ⟨b, off + k * 4 + 2, none⟩ = some (.slice fa p.f.length fc) ∧ X.cell? ⟨b, off + k * 4 + 3, none⟩ = some (.int .i64 p.tm)) ∧ b < X.heap.size) := fun X bX => ⟨(fx X (hBX.out X bX)).1, Nat.lt_of_lt_of_le hbx (hBX.out X bX).size⟩
      have cRr : Hid (∀ X, Below w2.heap.size w2 X → Calls Tryz.prog 9 #[.agg #[.string p.m, .slice ta p.t.length tc, .slice fa p.f.length fc, .int .i64 p.tm]] X fun e w' => e = .returned (rprV (prL p)) ∧ Below X.heap.size X w') := fun X bX => cR.out p ta tc fa fc X hpm (hBX.out X bX) (fx X (hBX.out X bX)).2
      have hltw : b < wx.heap.size := Nat.lt_of_lt_of_le hbx hbw.size
      obtain ⟨s, ev, c0, q1, q2, q3, hcS⟩ : ∃ (s : ByteArray) (ev : Value) (c0 : Int), prV (prL p) = .tuple #[.string s, ev] ∧ rprV (prL p) = .tuple #[.string s, .agg #[.int .i64 c0, .int .i64 0, .int .i64 0, .bool false, .bool false]] ∧ ev.oneCell' = true ∧ (∀ X, Below w2.heap.size w2 X → Calls Tryz.prog 10 #[ev, .agg #[.int .i64 c0, .int .i64 0, .int .i64 0, .bool false, .bool false]] X fun e w' => e = .returned (.bool true) ∧ Below X.heap.size X w') := by
        cases hpr : prL p with
        | error q => exact ⟨⟨#[]⟩, _, q, rfl, rfl, rfl, fun X bX => cE.out q X (prL_err hpr) (hBX.out X bX)⟩
        | ok t => exact ⟨⟨t.toArray⟩, _, 0, rfl, rfl, rfl, fun X bX => cN.out X⟩
      rw [q1] at cPr
      rw [q2] at cRr
      have cPH : Hid (Calls Tryz.prog 8 #[.agg #[.string p.m, .slice (some ⟨ht k, 0, none⟩) p.t.length (p.t.length + 9), .slice (some ⟨hf k, 0, none⟩) p.f.length (p.f.length + 9), .int .i64 p.tm]] wx fun e w' => e = .returned (.tuple #[.string s, ev]) ∧ Below wx.heap.size wx w') := cPr
      have cSH : Hid (∀ X, Below w2.heap.size w2 X → Calls Tryz.prog 10 #[ev, .agg #[.int .i64 c0, .int .i64 0, .int .i64 0, .bool false, .bool false]] X fun e w' => e = .returned (.bool true) ∧ Below X.heap.size X w') := hcS
      clear cPr hcS q1 q2 ax fx hpk hpm hbx hbw hpt cP cR cA cQ cK cE cN cI atH psH aH hsH
      generalize p.t.length = nt at *
      generalize p.f.length = nf at *
      generalize p.m = pm at *
      generalize p.tm = pt at *
      generalize ht k = hk1 at *
      generalize hf k = hk2 at *
      go_wp2_with fail
      refine Calls.mono cPH.out ?_
      rintro e w3 ⟨rfl, B3⟩
      have b3H : Hid (Below w2.heap.size w2 w3) := hb.out.trans (B3.mono hb.out.size)
      clear B3 y1 y2 y3 y4 hl1 hltw cPH
      obtain ⟨⟨x1, x2, x3, x4⟩, hltw⟩ := xC.out w3 b3H.out
      go_wp2_with fail
      refine Calls.mono (cRr.out _ b3H.out) ?_
      rintro e w4 ⟨rfl, B4⟩
      have b4 : Below w2.heap.size w2 w4 := b3H.out.trans (B4.mono b3H.out.size)
      have b5H : Hid (Below w2.heap.size w2 (w4.alloc (.cells #[.int .i64 c0, .int .i64 0, .int .i64 0, .bool false, .bool false] 35))) := b4.trans (((Below.refl _ w4).alloc (Nat.le_refl _) _).mono b4.size)
      have ss : (s.toList == s.toList) = true := by simp
      clear B4 b4 x1 x2 x3 x4 hltw xC cRr
      go_wp2_with fail
      refine Calls.mono (cSH.out _ b5H.out) ?_
      rintro e w6 ⟨rfl, B6⟩
      have b6H : Hid (Below w2.heap.size w2 w6) := b5H.out.trans (B6.mono b5H.out.size)
      clear B6 b5H cSH
      go_wp2_with fail
      go_roundg (n - (k + 1))
      case measure => rw [hgkH.out]; omega
      case rel => exact ⟨k + 1, rfl, by first | rfl | simp, by omega, b6H⟩
    · have hkI : ¬ (k : Int) < (n : Int) := by omega
      have cAH := cA.out H (n + 9) wx (hBX.out wx hb.out) (psH.out _ _ _ _ _ (hPH.out wx hb.out))
      obtain ⟨s, ev, c0, i0, x0, q1, q2, q3, hcS⟩ : ∃ (s : ByteArray) (ev : Value) (c0 i0 : Int) (x0 : Bool), allV (allR l) = .tuple #[.string s, ev] ∧ rallV (allR l) = .tuple #[.string s, .agg #[.int .i64 c0, .int .i64 0, .int .i64 i0, .bool false, .bool x0]] ∧ ev.oneCell' = true ∧ (∀ X, Below w2.heap.size w2 X → Calls Tryz.prog 10 #[ev, .agg #[.int .i64 c0, .int .i64 0, .int .i64 i0, .bool false, .bool x0]] X fun e w' => e = .returned (.bool true) ∧ Below X.heap.size X w') := by
        cases hpr : allR l with
        | error q => exact ⟨⟨#[]⟩, _, q.2, (q.1 : Int), true, rfl, rfl, rfl, fun X bX => cI.out q.1 q.2 X (runB_err l [] 0 q hpr) (hBX.out X bX)⟩
        | ok t => exact ⟨⟨t.toArray⟩, _, 0, 0, false, rfl, rfl, rfl, fun X bX => cN.out X⟩
      rw [q1] at cAH
      have cQH : Hid (∀ X, Below w2.heap.size w2 X → Calls Tryz.prog 12 #[.slice a n c] X fun e w' => e = .returned (.tuple #[.string s, .agg #[.int .i64 c0, .int .i64 0, .int .i64 i0, .bool false, .bool x0]]) ∧ Below X.heap.size X w') := fun X bX => by have := cQ.out X (hBX.out X bX); rw [q2] at this; exact this
      have cA2 : Hid (Calls Tryz.prog 11 #[.slice (some ⟨H, 0, none⟩) n (n + 9)] wx fun e w' => e = .returned (.tuple #[.string s, ev]) ∧ Below wx.heap.size wx w') := cAH
      have cSH : Hid (∀ X, Below w2.heap.size w2 X → Calls Tryz.prog 10 #[ev, .agg #[.int .i64 c0, .int .i64 0, .int .i64 i0, .bool false, .bool x0]] X fun e w' => e = .returned (.bool true) ∧ Below X.heap.size X w') := hcS
      have cKH : Hid (∀ X, Below w2.heap.size w2 X → Calls Tryz.prog 13 #[.slice (some ⟨H, 0, none⟩) n (n + 9), .slice a n c] X fun e w' => e = .returned (.bool true) ∧ Below X.heap.size X w') := fun X bX => cK.out H ht hf w1 X (hBX.out X bX) (hPH.out X bX)
      clear cAH hcS q1 q2 cP cR cA cQ cK cE cN cI atH psH aH hsH
      go_wp2_with fail
      refine Calls.mono cA2.out ?_
      rintro e w3 ⟨rfl, B3⟩
      have b3H : Hid (Below w2.heap.size w2 w3) := hb.out.trans (B3.mono hb.out.size)
      clear B3 cA2
      go_wp2_with fail
      refine Calls.mono (cQH.out _ b3H.out) ?_
      rintro e w4 ⟨rfl, B4⟩
      have b4 : Below w2.heap.size w2 w4 := b3H.out.trans (B4.mono b3H.out.size)
      have b5H : Hid (Below w2.heap.size w2 (w4.alloc (.cells #[.int .i64 c0, .int .i64 0, .int .i64 i0, .bool false, .bool x0] 35))) := b4.trans (((Below.refl _ w4).alloc (Nat.le_refl _) _).mono b4.size)
      have ss : (s.toList == s.toList) = true := by simp
      clear B4 b4 cQH
      go_wp2_with fail
      refine Calls.mono (cSH.out _ b5H.out) ?_
      rintro e w6 ⟨rfl, B6⟩
      have b6H : Hid (Below w2.heap.size w2 w6) := b5H.out.trans (B6.mono b5H.out.size)
      clear B6 b5H cSH
      go_wp2_with fail
      refine Calls.mono (cKH.out _ b6H.out) ?_
      rintro e w7 ⟨rfl, B7⟩
      have b7H : Hid (Below w2.heap.size w2 w7) := b6H.out.trans (B7.mono b6H.out.size)
      clear B7
      go_wp2_with fail
      go_ret
      exact ⟨rfl, hBX.out _ b7H.out⟩
end Go.Proofs.YtbojljmacheccaaGreatDoor.Ln
