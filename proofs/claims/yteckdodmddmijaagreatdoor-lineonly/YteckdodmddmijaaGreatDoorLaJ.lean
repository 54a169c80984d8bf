
import Derived.Test.YteckdodmddmijaaGreatDoorLaI
import Derived.Test.YteckdodmddmijaaGreatDoorLwWq
namespace Go.Proofs.YteckdodmddmijaaGreatDoor.Ln
set_option linter.unusedVariables false
set_option linter.unusedSimpArgs false
/-! ### what is read as a point is plain, short, and printed as it was. -/
theorem escL_cons (c : UInt8) (r : By) : escL (c :: r) = (if mkL.contains c = true then [92, c] else [c]) ++ escL r := rfl
theorem escL_ge : ∀ t : By, t.length ≤ (escL t).length
  | [] => Nat.le_refl _
  | c :: r => by
    have := escL_ge r
    rw [escL_cons]
    split <;> simp <;> omega
theorem escL_feed : ∀ t : By, feedAt (escL t) = none → feedAt t = none
  | [], _ => rfl
  | c :: r, h => by
    rw [escL_cons, feed_app] at h
    rw [feed_cons]
    refine ⟨?_, escL_feed r h.2⟩
    have h1 := h.1
    split at h1
    · rw [feed_cons, feed_cons] at h1
      exact h1.2.1
    · rw [feed_cons] at h1
      exact h1.1
theorem escL_head (t r : By) (h : t.head? = some 35) : (escL t ++ r).head? = some 35 := by
  cases t with
  | nil => cases h
  | cons c q =>
    have : c = 35 := by simpa using h
    subst this
    rw [escL_cons, if_neg (by decide)]
    rfl
theorem tags_mem : ∀ (ts : List (By × By)) (t : By × By), t ∈ ts → t.1.length ≤ (tagsW escL ts).length ∧ t.2.length ≤ (tagsW escL ts).length ∧ (feedAt (tagsW escL ts) = none → feedAt t.1 = none ∧ feedAt t.2 = none)
  | x :: r, t, h => by
    have e : tagsW escL (x :: r) = 44 :: (escL x.1 ++ 61 :: escL x.2) ++ tagsW escL r := rfl
    have g1 := escL_ge x.1
    have g2 := escL_ge x.2
    rw [e]
    rcases List.mem_cons.1 h with rfl | h
    · refine ⟨by simp; omega, by simp; omega, fun q => ?_⟩
      rw [feed_app, feed_cons, feed_app, feed_cons] at q
      exact ⟨escL_feed _ q.1.2.1, escL_feed _ q.1.2.2.2⟩
    · obtain ⟨a, b, c⟩ := tags_mem r t h
      refine ⟨by simp; omega, by simp; omega, fun q => ?_⟩
      rw [feed_app] at q
      exact c q.2
theorem more_mem : ∀ (ts : List (By × Int)) (t : By × Int), t ∈ ts → t.1.length ≤ (moreW escL Lib.itoa ts).length ∧ (feedAt (moreW escL Lib.itoa ts) = none → feedAt t.1 = none)
  | x :: r, t, h => by
    have e : moreW escL Lib.itoa (x :: r) = 44 :: (escL x.1 ++ 61 :: (Lib.itoa x.2 ++ [105])) ++ moreW escL Lib.itoa r := rfl
    have g1 := escL_ge x.1
    rw [e]
    rcases List.mem_cons.1 h with rfl | h
    · refine ⟨by simp; omega, fun q => ?_⟩
      rw [feed_app, feed_cons, feed_app] at q
      exact escL_feed _ q.1.2.1
    · obtain ⟨a, c⟩ := more_mem r t h
      refine ⟨by simp; omega, fun q => ?_⟩
      rw [feed_app] at q
      exact c q.2
theorem fields_mem (ts : List (By × Int)) (t : By × Int) (h : t ∈ ts) : t.1.length ≤ (fieldsW escL Lib.itoa ts).length ∧ (feedAt (fieldsW escL Lib.itoa ts) = none → feedAt t.1 = none) := by
  cases ts with
  | nil => cases h
  | cons x r =>
    have e : fieldsW escL Lib.itoa (x :: r) = 32 :: (escL x.1 ++ 61 :: (Lib.itoa x.2 ++ [105])) ++ moreW escL Lib.itoa r := rfl
    have g1 := escL_ge x.1
    rw [e]
    rcases List.mem_cons.1 h with rfl | h
    · refine ⟨by simp; omega, fun q => ?_⟩
      rw [feed_app, feed_cons, feed_app] at q
      exact escL_feed _ q.1.2.1
    · obtain ⟨a, c⟩ := more_mem r t h
      refine ⟨by simp; omega, fun q => ?_⟩
      rw [feed_app] at q
      exact c q.2
theorem one_head {un : UnF} {nv : NvF} {l : By} {p : Pt} (h : oneL un nv l = .ok p) : feedAt l = none ∧ ¬ l.head? = some 35 := by
  unfold oneL at h
  split at h
  · cases h
  · rename_i h10
    split at h
    · cases h
    · rename_i h35
      exact ⟨h10, h35⟩
theorem nv_I64 : ∀ x v, nvL x = some v → I64L v := fun x v h => (nv_out h).2.1
theorem ptL_ptB (p : Pt) : ptL (ptB p) = p := ptL_B p
theorem wordL_of {t : By} (h : t ≠ []) (hf : feedAt t = none) : wordL (bz t) = true := by
  unfold wordL
  rw [bz_list, decide_eq_true h, decide_eq_true hf]; rfl
/-- all of it. -/
theorem one_good {l : By} {p : Pt} (h : one8 unK nvL l = .ok p) : PtS (ptB p) ∧ prL (ptB p) = .ok l := by
  obtain ⟨f1, f2, f3, e⟩ := one8_few h
  have hl := print_one bkK e
  obtain ⟨g1, g2, g3, g4, g5⟩ := one_plain nv_I64 e
  obtain ⟨h10, h35⟩ := one_head e
  have hW : ptW (ptB p) = l := by rw [ptW_of, ptL_ptB]; exact hl
  have eW : lineW escL Lib.itoa p = escL p.m ++ (tagsW escL p.tags ++ (fieldsW escL Lib.itoa p.fs ++ 32 :: Lib.itoa p.t)) := rfl
  rw [← hl, eW, feed_app, feed_app, feed_app] at h10
  have hlen := congrArg List.length (eW.symm.trans hl)
  simp at hlen
  have m1 := escL_ge p.m
  have hS : PtS (ptB p) := ⟨by show p.m.length ≤ _; omega, by show (p.tags.map _).length ≤ _; rw [List.length_map]; exact f1, by show (p.fs.map _).length ≤ _; rw [List.length_map]; exact f2, fun t ht => by
    obtain ⟨t0, ht0, rfl⟩ := List.mem_map.1 ht
    obtain ⟨a, b, _⟩ := tags_mem p.tags t0 ht0
    exact ⟨by show t0.1.length ≤ _; omega, by show t0.2.length ≤ _; omega⟩, fun t ht => by
    obtain ⟨t0, ht0, rfl⟩ := List.mem_map.1 ht
    obtain ⟨a, _⟩ := fields_mem p.fs t0 ht0
    exact ⟨by show t0.1.length ≤ _; omega, (g4 t0 ht0).2⟩, g5⟩
  have hP : plainL (ptB p) = true := by
    have p1 : wordL (bz p.m) = true := wordL_of g1 (escL_feed _ h10.1)
    have p2 : ¬ (bz p.m).data.toList.head? = some 35 := by
      rw [bz_list]
      intro q
      exact h35 (by rw [← hl, eW]; exact escL_head _ _ q)
    have p3 : (p.tags.map (fun t => (bz t.1, bz t.2))).all tagW1 = true := by
      rw [List.all_map, List.all_eq_true]
      intro t ht
      obtain ⟨_, _, c⟩ := tags_mem p.tags t ht
      have := c h10.2.1
      show (wordL (bz t.1) && wordL (bz t.2)) = true
      rw [wordL_of (g2 t ht).1 this.1, wordL_of (g2 t ht).2 this.2]; rfl
    have p4 : (p.fs.map (fun f => (bz f.1, f.2))).all (fun f => wordL f.1) = true := by
      rw [List.all_map, List.all_eq_true]
      intro t ht
      obtain ⟨_, c⟩ := fields_mem p.fs t ht
      exact wordL_of (g4 t ht).1 (c h10.2.2.1)
    have p5 : (p.fs.map (fun f => (bz f.1, f.2))) ≠ [] := by simpa using g3
    show (wordL (bz p.m) && !decide ((bz p.m).data.toList.head? = some 35) && decide ((p.fs.map (fun f => (bz f.1, f.2))) ≠ []) && (p.tags.map (fun t => (bz t.1, bz t.2))).all tagW1 && (p.fs.map (fun f => (bz f.1, f.2))).all (fun f => wordL f.1)) = true
    rw [p1, p3, p4, decide_eq_false p2, decide_eq_true p5]; rfl
  refine ⟨hS, ?_⟩
  unfold prL
  rw [if_pos hP, hW, if_neg (by omega)]
/-- cut ahead of its last blank a line is none. -/
theorem one_cut {l : By} {p : Pt} (h : one8 unK nvL l = .ok p) (q cut : Nat) (hq : l[q]? = some 32) (hl : ∀ i, q < i → l[i]? ≠ some 32) (hc : cut ≤ q) : ∃ x, one8 unK nvL (l.take cut) = .error (some x) := by
  obtain ⟨f1, f2, f3, e⟩ := one8_few h
  have hn := cut_none okK bkK nv_I64 e q cut hq hl hc
  unfold one8
  rw [if_neg (by rw [List.length_take]; omega)]
  cases ho : oneL unK nvL (l.take cut) with
  | error x => exact ⟨x, rfl⟩
  | ok p' => exact absurd ho (hn p')
/-- a line holds a blank. -/
theorem one_blank {l : By} {p : Pt} (h : one8 unK nvL l = .ok p) : ∃ q : Nat, l[q]? = some (32 : UInt8) := by
  obtain ⟨f1, f2, f3, e⟩ := one8_few h
  have hl := print_one bkK e
  have eW : lineW escL Lib.itoa p = escL p.m ++ (tagsW escL p.tags ++ (fieldsW escL Lib.itoa p.fs ++ 32 :: Lib.itoa p.t)) := rfl
  have hm : (32 : UInt8) ∈ l := by rw [← hl, eW]; simp
  exact List.mem_iff_getElem?.1 hm
end Go.Proofs.YteckdodmddmijaaGreatDoor.Ln

namespace Go.Proofs.YteckdodmddmijaaGreatDoor.Ln
open Go.RowKit Go.Shelf
attribute [local go_sem] Oper.semAt_some
set_option linter.unusedVariables false
set_option linter.unusedSimpArgs false
set_option maxRecDepth 100000
theorem last_blank : ∀ l : By, (∃ q : Nat, l[q]? = some (32 : UInt8)) → ∃ q : Nat, l[q]? = some (32 : UInt8) ∧ ∀ i, q < i → l[i]? ≠ some (32 : UInt8)
  | [], ⟨q, h⟩ => by simp at h
  | c :: r, ⟨q, h⟩ => by
    by_cases hr : ∃ q : Nat, r[q]? = some (32 : UInt8)
    · obtain ⟨k, h1, h2⟩ := last_blank r hr
      exact ⟨k + 1, by simpa using h1, fun i hi => by
        obtain ⟨j, rfl⟩ : ∃ j, i = j + 1 := ⟨i - 1, by omega⟩
        simpa using h2 j (by omega)⟩
    · cases q with
      | succ q => exact absurd ⟨q, by simpa using h⟩ hr
      | zero => exact ⟨0, h, fun i hi => by
          obtain ⟨j, rfl⟩ : ∃ j, i = j + 1 := ⟨i - 1, by omega⟩
          intro e
          exact hr ⟨j, by simpa using e⟩⟩
set_option maxHeartbeats 8000000 in
theorem lineOnly_walk (s : ByteArray) (cut : Int) (w : World) (hg : LT w) (hs : s.size ≤ 9223372036854775807) : Calls Tryz.prog 7 #[.string s, .int .i64 cut] w fun e w' => e = .returned (.bool true) ∧ Below w.heap.size w w' := by
  have cL : Hid (Calls Tryz.prog 9 #[] w fun e w' => e = .returned (.bool true) ∧ Below w.heap.size w w') := live_l w hg
  have B0 : Hid (Below w.heap.size w w) := Below.refl _ _
  obtain ⟨l, hl⟩ : ∃ l, s.data.toList = l := ⟨_, rfl⟩
  have hlen : l.length = s.size := by rw [← hl, lenB]
  cases ho : one8 unK nvL l with
  | error q =>
    have cO : Hid (∀ W, Below w.heap.size w W → Calls Tryz.prog 10 #[.string s] W fun e w' => e = .returned (.tuple #[.agg #[.string ⟨#[]⟩, .slice none 0 0, .slice none 0 0, .int .i64 0], errL q]) ∧ Below w.heap.size w w') := fun W h => (one_any s W (hg.on h) hs).mono fun e w' x => by
      unfold EndO at x
      rw [hl, ho] at x
      exact ⟨x.1, h.trans (x.2.mono h.size)⟩
    clear hg hl hlen ho
    obtain ⟨te, pe, hE⟩ : ∃ te pe, errL q = .iface te pe := by cases q with
      | none => exact ⟨_, _, rfl⟩
      | some p => exact ⟨_, _, rfl⟩
    rw [hE] at cO
    have hbe : ∀ W, (binOp .eql 28 (.iface te pe) .nilIface).run Tryz.prog W = .ok (.bool false) W := fun W => by cases q <;> (simp only [errL, atL] at hE; injection hE with h1 h2; subst h1; subst h2; kernel_rfl)
    clear hE
    go_enter Tryz.func7, Tryz.ntmps7
    go_wp2_with fail
    refine Calls.mono cL.out ?_
    rintro e w1 ⟨rfl, B1⟩
    go_wp2_with fail
    refine Calls.mono (cO.out _ B1) ?_
    rintro e w2 ⟨rfl, B2⟩
    have B2H : Hid (Below w.heap.size w w2) := B2
    clear B1 B2
    go_wp2_with fail
    go_ret
    exact ⟨rfl, B2H.out.alloc B2H.out.size _⟩
  | ok p =>
    obtain ⟨hS, hPr⟩ := one_good ho
    obtain ⟨f1, f2, f3, _⟩ := one8_few ho
    obtain ⟨q, hq, hql⟩ := last_blank l (one_blank ho)
    have hqs : q < s.size := by
      have := (List.getElem?_eq_some_iff.1 hq).1
      omega
    obtain ⟨P, hP⟩ : ∃ P, ptB p = P := ⟨_, rfl⟩
    have hoP : outP s.data.toList = P := by unfold outP; rw [hl, ho]; exact hP
    have hoE : outE s.data.toList = .nilIface := by unfold outE; rw [hl, ho]
    rw [hP] at hS hPr
    have cO : Hid (∀ W, Below w.heap.size w W → Calls Tryz.prog 10 #[.string s] W fun e w' => ∃ ta tc fa fc, e = .returned (.tuple #[ptV P ta tc fa fc, .nilIface]) ∧ PtIn w' ta fa fc P ∧ Below w.heap.size w w') := fun W h => by
      have := one_P s W (hg.on h) hs
      rw [hoP, hoE] at this
      exact this.mono fun e w' ⟨ta, tc, fa, fc, x1, x2, x3⟩ => ⟨ta, tc, fa, fc, x1, x2, h.trans (x3.mono h.size)⟩
    have hsl : (⟨l.toArray⟩ : ByteArray) = s := by rw [← hl]
    have cP : Hid (∀ ta tc fa fc W, Below w.heap.size w W → PtIn W ta fa fc P → Calls Tryz.prog 18 #[ptV P ta tc fa fc] W fun e w' => e = .returned (.tuple #[.string s, .nilIface]) ∧ Below w.heap.size w w') := fun ta tc fa fc W h hp => (print_l P ta fa tc fc W hp hS (hg.on h)).mono fun e w' x => by
      rw [hPr] at x
      refine ⟨?_, h.trans (x.2.mono h.size)⟩
      rw [x.1]
      show Ending.returned (.tuple #[.string ⟨l.toArray⟩, .nilIface]) = _
      rw [hsl]
    have cC : Hid (∀ (c : Nat) W, c ≤ q → Below w.heap.size w W → Calls Tryz.prog 10 #[.string (s.extract 0 c)] W fun e w' => ∃ x, e = .returned (.tuple #[.agg #[.string ⟨#[]⟩, .slice none 0 0, .slice none 0 0, .int .i64 0], .iface 107 (.agg #[.int .i64 x, .iface 31 (.int .i64 60)])]) ∧ Below w.heap.size w w') := fun c W hc h => by
      have hz : (s.extract 0 c).size ≤ 9223372036854775807 := by rw [Lib.size_eq, ext_list, List.length_take, List.length_drop, hl]; omega
      obtain ⟨x, hx⟩ := one_cut ho q c hq hql hc
      refine (one_any _ W (hg.on h) hz).mono fun e w' y => ?_
      unfold EndO at y
      rw [ext_list, hl, List.drop_zero, Nat.sub_zero, hx] at y
      exact ⟨x, y.1, h.trans (y.2.mono h.size)⟩
    have cI : Hid (∀ x W, Below w.heap.size w W → Calls Tryz.prog 24 #[.iface 107 (.agg #[.int .i64 x, .iface 31 (.int .i64 60)]), .int .i64 60] W fun e w' => e = .returned (.bool true) ∧ Below w.heap.size w w') := fun x W h => (is_at x 60 rfl 60 rfl W (hg.on h).et).mono fun e w' y => ⟨y.1, h.trans (y.2.mono h.size)⟩
    have hat : Hid (∀ i, (hi : i < s.size) → q < i → s[i]'hi ≠ 32) := fun i hi hqi e => hql i hqi (by
      have := get_list s i hi
      rw [hl] at this
      rw [this]
      exact congrArg some ((get_at s i hi _ rfl).symm.trans e))
    have hatq : Hid (s[q]'hqs = 32) := by
      have := get_list s q hqs
      rw [hl, hq] at this
      exact (get_at s q hqs _ rfl).trans (Option.some.inj this).symm
    have inB : Hid (∀ ta fa fc (W W' : World), PtIn W ta fa fc P → Below W.heap.size W W' → PtIn W' ta fa fc P) := fun ta fa fc W W' h b => h.below b
    clear hg hS hPr hP hoP hoE hsl hq hql ho
    unfold ptV at cO cP
    generalize P.t.length = nt at *
    generalize P.f.length = nf at *
    generalize P.m = pm at *
    generalize P.tm = pt at *
    have hs1 : IntKind.i64.wrap ((s.size : Int) - 1) = (s.size : Int) - 1 := IntWalk.i64_in _ (by omega)
    have hs2 : wrap64 ((s.size : Int) - 1) = (s.size : Int) - 1 := IntWalk.wrap64_in _ (by omega)
    go_enter Tryz.func7, Tryz.ntmps7
    go_wp2_with fail
    refine Calls.mono cL.out ?_
    rintro e w1 ⟨rfl, B1⟩
    go_wp2_with fail
    refine Calls.mono (cO.out _ B1) ?_
    rintro e w2 ⟨ta, tc, fa, fc, rfl, hp2, B2⟩
    have B2H : Hid (Below w.heap.size w w2) := B2
    have hp2H : Hid (PtIn w2 ta fa fc P) := hp2
    clear B1 B2 hp2
    go_wp2_with fail
    obtain ⟨W3, hW3⟩ : ∃ W3, w2.alloc (.cells #[.string pm, .slice ta nt tc, .slice fa nf fc, .int .i64 pt] 26) = W3 := ⟨_, rfl⟩
    have B3 : Below w2.heap.size w2 W3 := by rw [← hW3]; exact (Below.refl _ w2).alloc (Nat.le_refl _) _
    rw [hW3]
    refine Calls.mono (cP.out ta tc fa fc W3 (B2H.out.trans (B3.mono B2H.out.size)) (inB.out _ _ _ _ _ hp2H.out B3)) ?_
    rintro e w4 ⟨rfl, B4⟩
    have B4H : Hid (Below w.heap.size w w4) := B4
    clear hW3 B3 B4 hp2H
    have hss : (s.toList == s.toList) = true := by simp
    go_wp2_with fail
    go_loopw [9] (fun v wr => ∃ (i : Nat), v = .int .i64 (i : Int) ∧ q ≤ i ∧ i < s.size ∧ wr = w4) (fun v _ => (intOf v).toNat)
    case atStart => exact ⟨s.size - 1, by congr 1; omega, by omega, by omega, rfl⟩
    case round =>
      rename World => wx
      obtain ⟨i, rfl, hqi, hi, hwx⟩ := hrel
      have hwxH : Hid (wx = w4) := hwx
      clear hwx
      have i0 : (0 : Int) ≤ (i : Int) := by omega
      have iI : (i : Int) < (s.size : Int) := by omega
      by_cases hqq : q < i
      · have hne := hat.out i hi hqq
        obtain ⟨x, hx⟩ : ∃ x, s[i]'hi = x := ⟨_, rfl⟩
        rw [hx] at hne
        have h32 : ((x.toNat : Int) == 32) = false := by
          have : x.toNat ≠ 32 := fun h => hne (UInt8.toNat_inj.1 h)
          simp; omega
        have wi : IntKind.i64.wrap ((i : Int) - 1) = ((i - 1 : Nat) : Int) := (IntWalk.i64_in _ (by omega)).trans (by omega)
        have wk : wrap64 ((i : Int) - 1) = ((i - 1 : Nat) : Int) := (IntWalk.wrap64_in _ (by omega)).trans (by omega)
        clear hne
        go_wp2_with fail
        go_roundw
        case measure => simp only [intOf]; omega
        case rel => exact ⟨i - 1, by first | rfl | (congr 1; omega), by omega, by omega, hwxH.out⟩
      · have hqe : q = i := by omega
        subst hqe
        have hx : s[q]'hi = 32 := hatq.out
        have h32 : ((((32 : UInt8).toNat : Nat) : Int) == 32) = true := rfl
        have BxH : Hid (Below w.heap.size w wx) := by show Below _ _ _; rw [hwxH.out]; exact B4H.out
        by_cases hc : cut < 0 ∨ (q : Int) < cut
        · have hcx : cut < 0 ∨ (0 ≤ cut ∧ (q : Int) < cut) := by omega
          have hqI : (q : Int) ≤ (s.size : Int) := by omega
          rcases hcx with hc0 | ⟨hc0, hc1⟩
          · go_wp2_with fail
            refine Calls.mono (cC.out q _ (Nat.le_refl _) BxH.out) ?_
            rintro e w5 ⟨x5, rfl, B5⟩
            go_wp2_with fail
            refine Calls.mono (cI.out x5 _ B5) ?_
            rintro e w6 ⟨rfl, B6⟩
            go_wp2_with fail
            go_ret
            exact ⟨rfl, B6⟩
          · have hc2 : ¬ cut < 0 := by omega
            go_wp2_with fail
            refine Calls.mono (cC.out q _ (Nat.le_refl _) BxH.out) ?_
            rintro e w5 ⟨x5, rfl, B5⟩
            go_wp2_with fail
            refine Calls.mono (cI.out x5 _ B5) ?_
            rintro e w6 ⟨rfl, B6⟩
            go_wp2_with fail
            go_ret
            exact ⟨rfl, B6⟩
        · obtain ⟨k, rfl⟩ : ∃ k : Nat, cut = (k : Int) := ⟨cut.toNat, by omega⟩
          have hc1 : ¬ (k : Int) < 0 := by omega
          have hc2 : ¬ (q : Int) < (k : Int) := by omega
          have hc3 : (0 : Int) ≤ (k : Int) := by omega
          have hc4 : (k : Int) ≤ (s.size : Int) := by omega
          have hkq : k ≤ q := by omega
          clear hc
          go_wp2_with fail
          refine Calls.mono (cC.out k _ hkq BxH.out) ?_
          rintro e w5 ⟨x5, rfl, B5⟩
          go_wp2_with fail
          refine Calls.mono (cI.out x5 _ B5) ?_
          rintro e w6 ⟨rfl, B6⟩
          go_wp2_with fail
          go_ret
          exact ⟨rfl, B6⟩
end Go.Proofs.YteckdodmddmijaaGreatDoor.Ln
