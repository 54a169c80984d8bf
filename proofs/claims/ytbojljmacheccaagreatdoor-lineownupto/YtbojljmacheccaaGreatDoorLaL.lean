
import Derived.Test.YtbojljmacheccaaGreatDoorLaK
import Derived.Test.YtbojljmacheccaaGreatDoorLaI
namespace Go.Proofs.YtbojljmacheccaaGreatDoor.Ln
open Go.RowKit Go.Shelf
attribute [local go_sem] Oper.semAt_some
set_option linter.unusedVariables false
set_option linter.unusedSimpArgs false
set_option maxRecDepth 100000
def QD (s : ByteArray) (n fr i : Nat) (ps : List Pt) : Prop := (∃ pre g, ParD s n fr i pre ps g) ∨ (i = s.size + 1 ∧ parO s.data.toList = .ok ps)
theorem seg_all {s : ByteArray} {n fr i : Nat} {pre : List (Nat × By)} {ps : List Pt} {g : Nat} (h : ParD s n fr i pre ps g) (hi : (i < s.size ∧ s.data.toList[i]? = some 10) ∨ i = s.size) :
    (skipB (lnA s fr i) = true → QD s (n + 1) (i + 1) (i + 1) ps) ∧ (skipB (lnA s fr i) = false → (∀ p, one8 unK nvL (lnA s fr i) = .ok p → QD s (n + 1) (i + 1) (i + 1) (ps ++ [p])) ∧ ∀ q, one8 unK nvL (lnA s fr i) = .error q → parO s.data.toList = .error (n, q)) := by
  rcases hi with ⟨h1, h2⟩ | h1
  · obtain ⟨q1, q2⟩ := h.feed h1 h2
    exact ⟨fun hs => Or.inl ⟨_, _, q2 _ (runA_skip (x := (n, lnA s fr i)) h.run hs)⟩, fun hs => ⟨fun p hp => Or.inl ⟨_, _, q2 _ (runA_good (x := (n, lnA s fr i)) h.run hs hp)⟩, fun q hq => parO_bad q1 h.run hs hq⟩⟩
  · subst h1
    rcases h.last with ⟨e1, e2⟩ | ⟨e1, e2⟩
    · refine ⟨fun _ => Or.inr ⟨rfl, e2⟩, fun hs => ?_⟩
      rw [e1] at hs; cases hs
    · refine ⟨fun hs => Or.inr ⟨rfl, ?_⟩, fun hs => ⟨fun p hp => Or.inr ⟨rfl, ?_⟩, fun q hq => parO_bad (l := s.data.toList) (by rw [e2]; exact List.prefix_refl _) h.run hs hq⟩⟩
      · unfold parO; rw [← e2]; exact runA_skip (x := (n, lnA s fr s.size)) h.run hs
      · unfold parO; rw [← e2]; exact runA_good (x := (n, lnA s fr s.size)) h.run hs hp
theorem rone_Q (s : ByteArray) (w : World) (hg : LT w) (hs : s.size ≤ 9223372036854775807) : Calls Tryz.prog 78 #[.string s] w fun e w' => ∃ ta tc fa fc, e = .returned (.tuple #[ptV (outP s.data.toList) ta tc fa fc, outB s.data.toList]) ∧ PtIn w' ta fa fc (outP s.data.toList) ∧ Below w.heap.size w w' ∧ (∀ q, ta = some q → w.heap.size ≤ q.block) ∧ (∀ q, fa = some q → w.heap.size ≤ q.block) := by
  refine (rone_any s w hg hs).mono ?_
  intro e w' h
  unfold EndD at h
  unfold outP outB
  cases ho : one8 unK nvL s.data.toList with
  | ok p =>
    rw [ho] at h
    obtain ⟨vt, vf, e1, h1, h2, _, hb⟩ := h
    obtain ⟨f1, f2, _⟩ := one8_few ho
    obtain ⟨ta, tc, fa, fc, ev, hp⟩ := ptIn_of h1 h2 f1 f2
    refine ⟨ta, tc, fa, fc, by rw [e1, ev], hp, hb, fun q hq => ?_, fun q hq => ?_⟩
    · injection ev with ev
      have := congrArg (fun x : Array Value => x[1]?) ev
      simp at this
      subst hq
      exact row_at h1 this
    · injection ev with ev
      have := congrArg (fun x : Array Value => x[2]?) ev
      simp at this
      subst hq
      exact row_at h2 this
  | error q =>
    rw [ho] at h
    obtain ⟨e1, hb⟩ := h
    exact ⟨none, 0, none, 0, e1, ptIn_zero w', hb, (fun q hq => by cases hq), (fun q hq => by cases hq)⟩
theorem badL_cells (q : Option Int) : ∃ c a : Int, ∃ x : Bool, badL q = .agg #[.int .i64 c, .int .i64 a, .int .i64 0, .bool x, .bool false] ∧ (c == 0) = false ∧ ∀ n : Int, inB n q = .agg #[.int .i64 c, .int .i64 a, .int .i64 n, .bool x, .bool true] := by
  cases q with
  | none => exact ⟨6, 0, false, rfl, rfl, fun n => rfl⟩
  | some p => exact ⟨60, p, true, rfl, rfl, fun n => rfl⟩
theorem bd_no_str {W : World} {k o : Nat} (h : W.heap[k]? = some bdO) {t : ByteArray} (hc : W.cell? ⟨k, o, none⟩ = some (.string t)) : False := by
  rw [show bdO = Obj.cells #[.int .i64 0, .int .i64 0, .int .i64 0, .bool false, .bool false] 35 from rfl] at h
  rw [Lib.cell_of_heap h] at hc
  rcases o with _ | _ | _ | _ | _ | o <;> simp at hc
theorem tg_farB {W : World} {k : Nat} (h : W.heap[k]? = some bdO) {ta : Option Addr} {l : List TagP} (ht : TgIn W ta l) (hl : l ≠ []) {q : Addr} (hq : ta = some q) (e : q.block = k) : False := by
  rcases ht with h0 | ⟨b, off, e2, hb, hc⟩
  · exact hl h0
  · rw [e2] at hq; injection hq with hq; subst hq
    dsimp only at e; subst e
    cases l with
    | nil => exact hl rfl
    | cons x r => exact bd_no_str h (hc 0 x rfl).1
theorem fd_farB {W : World} {k : Nat} (h : W.heap[k]? = some bdO) {ta : Option Addr} {l : List FdP} (ht : FdIn W ta l) (hl : l ≠ []) {q : Addr} (hq : ta = some q) (e : q.block = k) : False := by
  rcases ht with h0 | ⟨b, off, e2, hb, hc⟩
  · exact hl h0
  · rw [e2] at hq; injection hq with hq; subst hq
    dsimp only at e; subst e
    cases l with
    | nil => exact hl rfl
    | cons x r => exact bd_no_str h (hc 0 x rfl).1
/-- while the document goes through the text. -/
structure StD (w : World) (s : ByteArray) (n fr i : Nat) (v : Value) (L : List PtQ) (ps : List Pt) (W : World) : Prop where
  q : QD s n fr i ps
  bl : Below w.heap.size w W
  m : W.heap[w.heap.size]? = some bdO
  op : OPl W (w.heap.size + 1) v L
  eq : L.map (·.p) = ps.map ptB
  few : L.length ≤ i
  nl : n ≤ i
theorem StD.below {w : World} {s : ByteArray} {n fr i : Nat} {v : Value} {L : List PtQ} {ps : List Pt} {W W' : World} (h : StD w s n fr i v L ps W) (hb : Below W.heap.size W W') {n2 fr2 i2 : Nat} (hq : QD s n2 fr2 i2 ps) (h1 : i ≤ i2) (h2 : n2 ≤ i2) : StD w s n2 fr2 i2 v L ps W' :=
  ⟨hq, h.bl.trans (hb.mono h.bl.size), (hb.block _ (Array.getElem?_eq_some_iff.1 h.m).1).trans h.m, h.op.below hb, h.eq, Nat.le_trans h.few h1, h2⟩
set_option maxHeartbeats 2000000 in
theorem rparse_l (s : ByteArray) (w : World) (hg : LT w) (hs : s.size ≤ 1048576) : Calls Tryz.prog 19 #[.string s] w fun e w' => EndG w s.data.toList e w' := by
  have cO : Hid (∀ (T : ByteArray) W, Below w.heap.size w W → T.size ≤ 1048576 → Calls Tryz.prog 78 #[.string T] W fun e w' => ∃ ta tc fa fc, e = .returned (.tuple #[ptV (outP T.data.toList) ta tc fa fc, outB T.data.toList]) ∧ PtIn w' ta fa fc (outP T.data.toList) ∧ Below W.heap.size W w' ∧ (∀ q, ta = some q → W.heap.size ≤ q.block) ∧ (∀ q, fa = some q → W.heap.size ≤ q.block)) := fun T W h hT => rone_Q T W (hg.on h) (by omega)
  have hlen := lenB s
  obtain ⟨PST, hPST⟩ : ∃ PST : Ending → World → Prop, (fun e w' => EndG w s.data.toList e w') = PST := ⟨_, rfl⟩
  have PE : Hid (∀ x w1, parO s.data.toList = .error x → Below w.heap.size w w1 → PST (.returned (.tuple #[.slice none 0 0, inB (x.1 : Int) x.2])) w1) := fun x w1 e b => by rw [← hPST]; show EndG w _ _ _; unfold EndG; rw [e]; exact ⟨rfl, b⟩
  have PO : Hid (∀ ps v L w1, parO s.data.toList = .ok ps → OPl w1 w.heap.size v L → L.map (·.p) = ps.map ptB → Below w.heap.size w w1 → PST (.returned (.tuple #[v, .agg #[.int .i64 0, .int .i64 0, .int .i64 0, .bool false, .bool false]])) w1) := fun ps v L w1 e h1 h2 b => by rw [← hPST]; show EndG w _ _ _; unfold EndG; rw [e]; exact ⟨v, L, rfl, h1, h2, b⟩
  rw [hPST]
  obtain ⟨W0, hW0⟩ : ∃ W0, w.alloc (.cells #[.int .i64 0, .int .i64 0, .int .i64 0, .bool false, .bool false] 35) = W0 := ⟨_, rfl⟩
  have S0 : Hid (StD w s 0 0 0 (.slice none 0 0) [] [] W0) := ⟨Or.inl ⟨[], s.data.toList.length, rfl, by simp, by simp, Nat.le_refl _, Nat.zero_le _, rfl⟩, by rw [← hW0]; exact (Below.refl _ w).alloc (Nat.le_refl _) _, by rw [← hW0]; exact World.alloc_heap_new w _, OPl.nil _ _, rfl, Nat.le_refl _, Nat.le_refl _⟩
  have hW0H : Hid (w.alloc (.cells #[.int .i64 0, .int .i64 0, .int .i64 0, .bool false, .bool false] 35) = W0) := hW0
  clear hPST hg hW0
  go_enter Tryz.func19, Tryz.ntmps19
  go_wp2_with fail
  rw [hW0H.out]
  go_loopg [4, 5, 6, 7, 8, 9, 10] (s.size + 1) (fun gk lv nv fv iv tv a9 a10 wx => ∃ n fr i L ps, gk = s.size + 1 - i ∧ nv = .int .i64 ((n : Nat) : Int) ∧ fv = .int .i64 ((fr : Nat) : Int) ∧ iv = .int .i64 ((i : Nat) : Int) ∧ Hid (StD w s n fr i lv L ps wx))
  case atStart => exact ⟨0, 0, 0, _, _, rfl, rfl, rfl, rfl, S0⟩
  case round =>
    rename World => wx
    obtain ⟨n, fr, i, L, ps, hgk, rfl, rfl, rfl, hS⟩ := hrel
    have hgkH : Hid (gk = s.size + 1 - i) := hgk
    clear hgk S0
    have i0 : (0 : Int) ≤ (i : Int) := by omega
    by_cases hin : i ≤ s.size
    · have iI : (i : Int) ≤ (s.size : Int) := by omega
      obtain ⟨pre, g, hD⟩ := hS.out.q.resolve_right (fun h => by omega)
      by_cases hlt : i < s.size
      · have ltI : (i : Int) < (s.size : Int) := by omega
        obtain ⟨x, hx⟩ : ∃ x, s.get! i = x := ⟨_, rfl⟩
        have hsk0 : s[i]'hlt = x := get_at s i hlt x hx
        have hli : s.data.toList[i]? = some x := by rw [← hx]; exact get_list s i hlt
        by_cases h10 : x = 10
        · have h10I : ((x.toNat : Int) == 10) = true := by rw [h10]; rfl
          have hend : (i < s.size ∧ s.data.toList[i]? = some 10) ∨ i = s.size := Or.inl ⟨hlt, by rw [hli, h10]⟩
          clear hx hli
          subst h10
          have seg := seg_all hD hend
          have frI : (fr : Int) ≤ (i : Int) := by have := hD.fi; omega
          have fr0 : (0 : Int) ≤ (fr : Int) := by omega
          have wi : IntKind.i64.wrap ((i : Int) + 1) = ((i + 1 : Nat) : Int) := IntWalk.i64_in _ (by omega)
          have wk : wrap64 ((i : Int) + 1) = ((i + 1 : Nat) : Int) := IntWalk.wrap64_in _ (by omega)
          have hnl := hS.out.nl
          have wn : IntKind.i64.wrap ((n : Int) + 1) = ((n + 1 : Nat) : Int) := IntWalk.i64_in _ (by omega)
          have wn2 : wrap64 ((n : Int) + 1) = ((n + 1 : Nat) : Int) := IntWalk.wrap64_in _ (by omega)
          have hsl : ∀ W, (Instr.slice 9 (.string s) (some (.int .i64 (fr : Int))) (some (.int .i64 (i : Int))) none).run Tryz.prog W = .ok (.string (s.extract fr i)) W := fun W => by
            have h := run_slice_string (P := Tryz.prog) (w := W) 9 s .i64 .i64 (fr : Int) (i : Int) Tryz.underlying9 (by omega) (by omega) (by omega)
            rw [Int.toNat_natCast, Int.toNat_natCast] at h
            exact h
          have hTl := lnA_ext s fr i
          have hTz : (s.extract fr i).size ≤ 1048576 := by rw [Lib.size_eq, hTl]; unfold lnA; rw [List.length_take, List.length_drop]; omega
          obtain ⟨T, hT⟩ : ∃ T, s.extract fr i = T := ⟨_, rfl⟩
          rw [hT] at hTl hTz hsl
          obtain ⟨TL, hTL⟩ : ∃ TL, lnA s fr i = TL := ⟨_, rfl⟩
          rw [hTL] at hTl seg
          have seg : Hid _ := seg
          clear hT hTL hD hend
          cases TL with
          | nil =>
            have hTe : T.toList.isEmpty = true := by rw [Lib.toList_data, hTl]; rfl
            have hsk : skipB ([] : By) = true := rfl
            have SN : Hid (StD w s (n + 1) (i + 1) (i + 1) u4 L ps wx) := hS.out.below (Below.refl _ _) (seg.out.1 hsk) (Nat.le_succ _) (by have := hS.out.nl; omega)
            clear seg hsk hTl hS cO
            go_wp2_with fail
            go_roundg (s.size + 1 - (i + 1))
            case measure => rw [hgkH.out]; omega
            case rel => exact ⟨n + 1, i + 1, i + 1, L, ps, rfl, by first | rfl | simp, by first | rfl | simp, by first | rfl | simp, SN⟩
          | cons c r =>
            have hTe : T.toList.isEmpty = false := by rw [Lib.toList_data, hTl]; rfl
            have hT0 : 0 < T.size := by rw [Lib.size_eq, hTl]; simp
            have hT0I : (0 : Int) < (T.size : Int) := by omega
            have hTc : T[0]'hT0 = c := get_at T 0 hT0 c (by have := get_list T 0 hT0; rw [hTl] at this; exact (Option.some.inj this).symm)
            by_cases h35 : c = 35
            · have h35I : ((c.toNat : Int) == 35) = true := by rw [h35]; rfl
              have hsk : skipB (c :: r) = true := by unfold skipB; simp [h35]
              clear h35
              have SN : Hid (StD w s (n + 1) (i + 1) (i + 1) u4 L ps wx) := hS.out.below (Below.refl _ _) (seg.out.1 hsk) (Nat.le_succ _) (by have := hS.out.nl; omega)
              clear seg hsk hTl hS cO
              go_wp2_with fail
              go_roundg (s.size + 1 - (i + 1))
              case measure => rw [hgkH.out]; omega
              case rel => exact ⟨n + 1, i + 1, i + 1, L, ps, rfl, by first | rfl | simp, by first | rfl | simp, by first | rfl | simp, SN⟩
            · have h35I : ((c.toNat : Int) == 35) = false := by
                have : c.toNat ≠ 35 := fun h => h35 (UInt8.toNat_inj.1 h)
                simp; omega
              have hsk : skipB (c :: r) = false := by unfold skipB; simp [h35]
              clear h35
              have cT := cO.out T wx hS.out.bl hTz
              rw [hTl] at cT
              go_wp2_with fail
              refine Calls.mono cT ?_
              rintro e w2 ⟨ta, tc, fa, fc, rfl, hp2, B2, n1, n2⟩
              cases ho : one8 unK nvL (c :: r) with
              | error q =>
                have hpar := (seg.out.2 hsk).2 q ho
                have eB : outB (c :: r) = badL q := by unfold outB; rw [ho]
                rw [eB]
                obtain ⟨bc, bp, bx, e1, e2, e3⟩ := badL_cells q
                rw [e1]
                unfold ptV
                generalize (outP (c :: r)).t.length = nt at *
                generalize (outP (c :: r)).f.length = nf at *
                generalize (outP (c :: r)).m = pm at *
                generalize (outP (c :: r)).tm = pt at *
                have b2H : Hid (Below wx.heap.size wx w2) := B2
                have e2b : ¬ bc = 0 := by intro e; rw [e] at e2; simp at e2
                obtain ⟨W3, hW3⟩ : ∃ W3, (w2.alloc (.cells #[.string pm, .slice ta nt tc, .slice fa nf fc, .int .i64 pt] 32)).alloc (.cells #[.int .i64 bc, .int .i64 bp, .int .i64 0, .bool bx, .bool false] 35) = W3 := ⟨_, rfl⟩
                have b3 : Below w2.heap.size w2 W3 := by rw [← hW3]; exact ((Below.refl _ w2).alloc (Nat.le_refl _) _).alloc (by simp) _
                have cIn : Hid (∀ W, Calls Tryz.prog 41 #[.int .i64 (n : Int), .agg #[.int .i64 bc, .int .i64 bp, .int .i64 0, .bool bx, .bool false]] W fun e w' => e = .returned (.agg #[.int .i64 bc, .int .i64 bp, .int .i64 (n : Int), .bool bx, .bool true]) ∧ Below W.heap.size W w') := fun W => refin_l (n : Int) bc e2 bp 0 bx false W
                have hW3H : Hid ((w2.alloc (.cells #[.string pm, .slice ta nt tc, .slice fa nf fc, .int .i64 pt] 32)).alloc (.cells #[.int .i64 bc, .int .i64 bp, .int .i64 0, .bool bx, .bool false] 35) = W3) := hW3
                clear hp2 B2 n1 n2 seg hTl cT cO hsl hW3 eB e1 ho
                go_wp2_with fail
                rw [hW3H.out]
                refine Calls.mono (cIn.out W3) ?_
                rintro e w4 ⟨rfl, B4⟩
                have b4 : Below wx.heap.size wx w4 := (b2H.out.trans (b3.mono b2H.out.size)).trans (B4.mono (by have := b2H.out.size; have := b3.size; omega))
                have bw := hS.out.bl.trans (b4.mono hS.out.bl.size)
                have m4 := (b4.block _ (Array.getElem?_eq_some_iff.1 hS.out.m).1).trans hS.out.m
                obtain ⟨⟨q0, q1, q2, q3, q4⟩, z0, z1, z2, z3, z4⟩ := bd_cells m4
                have FH : Hid (PST (.returned (.tuple #[.slice none 0 0, .agg #[.int .i64 bc, .int .i64 bp, .int .i64 (n : Int), .bool bx, .bool true]])) (((((w4.setCell ⟨w.heap.size, 0, none⟩ (.int .i64 bc)).setCell ⟨w.heap.size, 1, none⟩ (.int .i64 bp)).setCell ⟨w.heap.size, 2, none⟩ (.int .i64 (n : Int))).setCell ⟨w.heap.size, 3, none⟩ (.bool bx)).setCell ⟨w.heap.size, 4, none⟩ (.bool true))) := by rw [← e3 (n : Int)]; exact PE.out (n, q) _ hpar (((((bw.setCell (p := ⟨w.heap.size, 0, none⟩) (Nat.le_refl _) _).setCell (p := ⟨w.heap.size, 1, none⟩) (Nat.le_refl _) _).setCell (p := ⟨w.heap.size, 2, none⟩) (Nat.le_refl _) _).setCell (p := ⟨w.heap.size, 3, none⟩) (Nat.le_refl _) _).setCell (p := ⟨w.heap.size, 4, none⟩) (Nat.le_refl _) _)
                clear m4 bw b4 B4 b3 PE PO hS hpar e3
                go_wp2_with fail
                simp [bodyPost, results, Tryz.results19, go_sem, q0, q1, q2, q3, q4]
                exact FH.out
              | ok p =>
                have eB : outB (c :: r) = .agg #[.int .i64 0, .int .i64 0, .int .i64 0, .bool false, .bool false] := by unfold outB; rw [ho]; rfl
                have eP : outP (c :: r) = ptB p := by unfold outP; rw [ho]
                rw [eB]
                rw [eP] at hp2 ⊢
                unfold ptV
                have hq := (seg.out.2 hsk).1 p ho
                obtain ⟨va, vc, ev⟩ := hS.out.op.slice
                subst ev
                have hL : L.length ≤ 1048576 := by have := hS.out.few; omega
                obtain ⟨W3, hW3⟩ : ∃ W3, (w2.alloc (.cells #[.string (ptB p).m, .slice ta (ptB p).t.length tc, .slice fa (ptB p).f.length fc, .int .i64 (ptB p).tm] 32)).alloc (.cells #[.int .i64 0, .int .i64 0, .int .i64 0, .bool false, .bool false] 35) = W3 := ⟨_, rfl⟩
                have b3 : Below w2.heap.size w2 W3 := by rw [← hW3]; exact ((Below.refl _ w2).alloc (Nat.le_refl _) _).alloc (by simp) _
                have b13 : Below wx.heap.size wx W3 := B2.trans (b3.mono B2.size)
                have hsz3 : W3.heap.size = w2.heap.size + 1 + 1 := by rw [← hW3]; simp
                have op3 := hS.out.op.below b13
                have hown : ∀ g, (Value.slice va L.length vc).ownBlock = some g → g < wx.heap.size := fun g hg' => (World.ownsRow.lt hS.out.op.own (k := g) hg').2
                have hni : notIn (.slice va L.length vc) ⟨ptB p, ta, tc, fa, fc⟩ := fun g hg' => ⟨fun _ q hq => by have := n1 q hq; have := hown g hg'; omega, fun _ q hq => by have := n2 q hq; have := hown g hg'; omega⟩
                have hbs := hS.out.bl.size
                have hb13 := b13.size
                have m0lt : w.heap.size < wx.heap.size := (Array.getElem?_eq_some_iff.1 hS.out.m).1
                obtain ⟨a4, c4, W4, hr, op4, gr4, hw4⟩ := OPl.app W3 (w.heap.size + 1) (.slice va L.length vc) L op3 (by omega) ⟨ptB p, ta, tc, fa, fc⟩ (hp2.below b3) hni (by omega)
                have hrH : Hid (∀ W' N, W' = W3.alloc (.cells #[.string (ptB p).m, .slice ta (ptB p).t.length tc, .slice fa (ptB p).f.length fc, .int .i64 (ptB p).tm] 32) → N = W3.heap.size → (Builtin.append_ #[22, 22] 22 #[.slice va L.length vc, .slice (some ⟨N, 0, none⟩) 1 1]).run Tryz.prog W' = .ok (.slice a4 (L.length + 1) c4) W4) := hr
                have hW3H : Hid ((w2.alloc (.cells #[.string (ptB p).m, .slice ta (ptB p).t.length tc, .slice fa (ptB p).f.length fc, .int .i64 (ptB p).tm] 32)).alloc (.cells #[.int .i64 0, .int .i64 0, .int .i64 0, .bool false, .bool false] 35) = W3 ∧ W3.heap.size = w2.heap.size + 1 + 1) := ⟨hW3, hsz3⟩
                have m3 := (b13.block _ (Array.getElem?_eq_some_iff.1 hS.out.m).1).trans hS.out.m
                have SN : Hid (StD w s (n + 1) (i + 1) (i + 1) (.slice a4 (L.length + 1) c4) (L ++ [⟨ptB p, ta, tc, fa, fc⟩]) (ps ++ [p]) W4) := ⟨hq, (hS.out.bl.trans (b13.mono hbs)).grown gr4 (by omega) (fun k e => by have := (World.ownsRow.lt op3.own (k := k) e).1; omega), (gr4.block _ (Array.getElem?_eq_some_iff.1 m3).1 (fun e => by have := (World.ownsRow.lt op3.own (k := w.heap.size) e.symm).1; omega)).trans m3, op4, by rw [List.map_append, hS.out.eq, List.map_append]; rfl, by rw [List.length_append]; have := hS.out.few; simp; omega, by omega⟩
                clear op3 hown hni hr op4 gr4 hw4 m3 b3 b13 hsz3 hW3 hp2 B2 n1 n2 hq seg hS cT cO eB eP hbs hb13 m0lt PE PO hTl ho
                generalize (ptB p).t.length = nt at *
                generalize (ptB p).f.length = nf at *
                generalize (ptB p).m = pm at *
                generalize (ptB p).tm = pt at *
                go_wp2_with (at_builtin; refine wpList_append_runL (by rfl) _ _ _ (by rfl) _ _ _ _ (by rfl) (by rfl) (hrH.out _ _ (by rw [← hW3H.out.1]) (by rw [hW3H.out.2])) ?_)
                go_roundg (s.size + 1 - (i + 1))
                case measure => rw [hgkH.out]; omega
                case rel => exact ⟨n + 1, i + 1, i + 1, _, _, rfl, by first | rfl | simp, by first | rfl | simp, by first | rfl | simp, SN⟩
        · have h10I : ((x.toNat : Int) == 10) = false := by
            have : x.toNat ≠ 10 := fun h => h10 (UInt8.toNat_inj.1 h)
            simp; omega
          have wi : IntKind.i64.wrap ((i : Int) + 1) = ((i + 1 : Nat) : Int) := IntWalk.i64_in _ (by omega)
          have wk : wrap64 ((i : Int) + 1) = ((i + 1 : Nat) : Int) := IntWalk.wrap64_in _ (by omega)
          have SN : Hid (StD w s n fr (i + 1) u4 L ps wx) := hS.out.below (Below.refl _ _) (Or.inl ⟨pre, g, hD.next hlt hli h10⟩) (Nat.le_succ _) (by have := hS.out.nl; omega)
          clear hx hli h10 hD hS cO
          go_wp2_with fail
          go_roundg (s.size + 1 - (i + 1))
          case measure => rw [hgkH.out]; omega
          case rel => exact ⟨n, fr, i + 1, L, ps, rfl, rfl, rfl, by first | rfl | simp, SN⟩
      · have ltI : ¬ (i : Int) < (s.size : Int) := by omega
        have hie : i = s.size := by omega
        have hend : (i < s.size ∧ s.data.toList[i]? = some 10) ∨ i = s.size := Or.inr hie
        clear hie
        have seg := seg_all hD hend
        have frI : (fr : Int) ≤ (i : Int) := by have := hD.fi; omega
        have fr0 : (0 : Int) ≤ (fr : Int) := by omega
        have wi : IntKind.i64.wrap ((i : Int) + 1) = ((i + 1 : Nat) : Int) := IntWalk.i64_in _ (by omega)
        have wk : wrap64 ((i : Int) + 1) = ((i + 1 : Nat) : Int) := IntWalk.wrap64_in _ (by omega)
        have hnl := hS.out.nl
        have wn : IntKind.i64.wrap ((n : Int) + 1) = ((n + 1 : Nat) : Int) := IntWalk.i64_in _ (by omega)
        have wn2 : wrap64 ((n : Int) + 1) = ((n + 1 : Nat) : Int) := IntWalk.wrap64_in _ (by omega)
        have hsl : ∀ W, (Instr.slice 9 (.string s) (some (.int .i64 (fr : Int))) (some (.int .i64 (i : Int))) none).run Tryz.prog W = .ok (.string (s.extract fr i)) W := fun W => by
          have h := run_slice_string (P := Tryz.prog) (w := W) 9 s .i64 .i64 (fr : Int) (i : Int) Tryz.underlying9 (by omega) (by omega) (by omega)
          rw [Int.toNat_natCast, Int.toNat_natCast] at h
          exact h
        have hTl := lnA_ext s fr i
        have hTz : (s.extract fr i).size ≤ 1048576 := by rw [Lib.size_eq, hTl]; unfold lnA; rw [List.length_take, List.length_drop]; omega
        obtain ⟨T, hT⟩ : ∃ T, s.extract fr i = T := ⟨_, rfl⟩
        rw [hT] at hTl hTz hsl
        obtain ⟨TL, hTL⟩ : ∃ TL, lnA s fr i = TL := ⟨_, rfl⟩
        rw [hTL] at hTl seg
        have seg : Hid _ := seg
        clear hT hTL hD hend
        cases TL with
        | nil =>
          have hTe : T.toList.isEmpty = true := by rw [Lib.toList_data, hTl]; rfl
          have hsk : skipB ([] : By) = true := rfl
          have SN : Hid (StD w s (n + 1) (i + 1) (i + 1) u4 L ps wx) := hS.out.below (Below.refl _ _) (seg.out.1 hsk) (Nat.le_succ _) (by have := hS.out.nl; omega)
          clear seg hsk hTl hS cO
          go_wp2_with fail
          go_roundg (s.size + 1 - (i + 1))
          case measure => rw [hgkH.out]; omega
          case rel => exact ⟨n + 1, i + 1, i + 1, L, ps, rfl, by first | rfl | simp, by first | rfl | simp, by first | rfl | simp, SN⟩
        | cons c r =>
          have hTe : T.toList.isEmpty = false := by rw [Lib.toList_data, hTl]; rfl
          have hT0 : 0 < T.size := by rw [Lib.size_eq, hTl]; simp
          have hT0I : (0 : Int) < (T.size : Int) := by omega
          have hTc : T[0]'hT0 = c := get_at T 0 hT0 c (by have := get_list T 0 hT0; rw [hTl] at this; exact (Option.some.inj this).symm)
          by_cases h35 : c = 35
          · have h35I : ((c.toNat : Int) == 35) = true := by rw [h35]; rfl
            have hsk : skipB (c :: r) = true := by unfold skipB; simp [h35]
            clear h35
            have SN : Hid (StD w s (n + 1) (i + 1) (i + 1) u4 L ps wx) := hS.out.below (Below.refl _ _) (seg.out.1 hsk) (Nat.le_succ _) (by have := hS.out.nl; omega)
            clear seg hsk hTl hS cO
            go_wp2_with fail
            go_roundg (s.size + 1 - (i + 1))
            case measure => rw [hgkH.out]; omega
            case rel => exact ⟨n + 1, i + 1, i + 1, L, ps, rfl, by first | rfl | simp, by first | rfl | simp, by first | rfl | simp, SN⟩
          · have h35I : ((c.toNat : Int) == 35) = false := by
              have : c.toNat ≠ 35 := fun h => h35 (UInt8.toNat_inj.1 h)
              simp; omega
            have hsk : skipB (c :: r) = false := by unfold skipB; simp [h35]
            clear h35
            have cT := cO.out T wx hS.out.bl hTz
            rw [hTl] at cT
            go_wp2_with fail
            refine Calls.mono cT ?_
            rintro e w2 ⟨ta, tc, fa, fc, rfl, hp2, B2, n1, n2⟩
            cases ho : one8 unK nvL (c :: r) with
            | error q =>
              have hpar := (seg.out.2 hsk).2 q ho
              have eB : outB (c :: r) = badL q := by unfold outB; rw [ho]
              rw [eB]
              obtain ⟨bc, bp, bx, e1, e2, e3⟩ := badL_cells q
              rw [e1]
              unfold ptV
              generalize (outP (c :: r)).t.length = nt at *
              generalize (outP (c :: r)).f.length = nf at *
              generalize (outP (c :: r)).m = pm at *
              generalize (outP (c :: r)).tm = pt at *
              have b2H : Hid (Below wx.heap.size wx w2) := B2
              have e2b : ¬ bc = 0 := by intro e; rw [e] at e2; simp at e2
              obtain ⟨W3, hW3⟩ : ∃ W3, (w2.alloc (.cells #[.string pm, .slice ta nt tc, .slice fa nf fc, .int .i64 pt] 32)).alloc (.cells #[.int .i64 bc, .int .i64 bp, .int .i64 0, .bool bx, .bool false] 35) = W3 := ⟨_, rfl⟩
              have b3 : Below w2.heap.size w2 W3 := by rw [← hW3]; exact ((Below.refl _ w2).alloc (Nat.le_refl _) _).alloc (by simp) _
              have cIn : Hid (∀ W, Calls Tryz.prog 41 #[.int .i64 (n : Int), .agg #[.int .i64 bc, .int .i64 bp, .int .i64 0, .bool bx, .bool false]] W fun e w' => e = .returned (.agg #[.int .i64 bc, .int .i64 bp, .int .i64 (n : Int), .bool bx, .bool true]) ∧ Below W.heap.size W w') := fun W => refin_l (n : Int) bc e2 bp 0 bx false W
              have hW3H : Hid ((w2.alloc (.cells #[.string pm, .slice ta nt tc, .slice fa nf fc, .int .i64 pt] 32)).alloc (.cells #[.int .i64 bc, .int .i64 bp, .int .i64 0, .bool bx, .bool false] 35) = W3) := hW3
              clear hp2 B2 n1 n2 seg hTl cT cO hsl hW3 eB e1 ho
              go_wp2_with fail
              rw [hW3H.out]
              refine Calls.mono (cIn.out W3) ?_
              rintro e w4 ⟨rfl, B4⟩
              have b4 : Below wx.heap.size wx w4 := (b2H.out.trans (b3.mono b2H.out.size)).trans (B4.mono (by have := b2H.out.size; have := b3.size; omega))
              have bw := hS.out.bl.trans (b4.mono hS.out.bl.size)
              have m4 := (b4.block _ (Array.getElem?_eq_some_iff.1 hS.out.m).1).trans hS.out.m
              obtain ⟨⟨q0, q1, q2, q3, q4⟩, z0, z1, z2, z3, z4⟩ := bd_cells m4
              have FH : Hid (PST (.returned (.tuple #[.slice none 0 0, .agg #[.int .i64 bc, .int .i64 bp, .int .i64 (n : Int), .bool bx, .bool true]])) (((((w4.setCell ⟨w.heap.size, 0, none⟩ (.int .i64 bc)).setCell ⟨w.heap.size, 1, none⟩ (.int .i64 bp)).setCell ⟨w.heap.size, 2, none⟩ (.int .i64 (n : Int))).setCell ⟨w.heap.size, 3, none⟩ (.bool bx)).setCell ⟨w.heap.size, 4, none⟩ (.bool true))) := by rw [← e3 (n : Int)]; exact PE.out (n, q) _ hpar (((((bw.setCell (p := ⟨w.heap.size, 0, none⟩) (Nat.le_refl _) _).setCell (p := ⟨w.heap.size, 1, none⟩) (Nat.le_refl _) _).setCell (p := ⟨w.heap.size, 2, none⟩) (Nat.le_refl _) _).setCell (p := ⟨w.heap.size, 3, none⟩) (Nat.le_refl _) _).setCell (p := ⟨w.heap.size, 4, none⟩) (Nat.le_refl _) _)
              clear m4 bw b4 B4 b3 PE PO hS hpar e3
              go_wp2_with fail
              simp [bodyPost, results, Tryz.results19, go_sem, q0, q1, q2, q3, q4]
              exact FH.out
            | ok p =>
              have eB : outB (c :: r) = .agg #[.int .i64 0, .int .i64 0, .int .i64 0, .bool false, .bool false] := by unfold outB; rw [ho]; rfl
              have eP : outP (c :: r) = ptB p := by unfold outP; rw [ho]
              rw [eB]
              rw [eP] at hp2 ⊢
              unfold ptV
              have hq := (seg.out.2 hsk).1 p ho
              obtain ⟨va, vc, ev⟩ := hS.out.op.slice
              subst ev
              have hL : L.length ≤ 1048576 := by have := hS.out.few; omega
              obtain ⟨W3, hW3⟩ : ∃ W3, (w2.alloc (.cells #[.string (ptB p).m, .slice ta (ptB p).t.length tc, .slice fa (ptB p).f.length fc, .int .i64 (ptB p).tm] 32)).alloc (.cells #[.int .i64 0, .int .i64 0, .int .i64 0, .bool false, .bool false] 35) = W3 := ⟨_, rfl⟩
              have b3 : Below w2.heap.size w2 W3 := by rw [← hW3]; exact ((Below.refl _ w2).alloc (Nat.le_refl _) _).alloc (by simp) _
              have b13 : Below wx.heap.size wx W3 := B2.trans (b3.mono B2.size)
              have hsz3 : W3.heap.size = w2.heap.size + 1 + 1 := by rw [← hW3]; simp
              have op3 := hS.out.op.below b13
              have hown : ∀ g, (Value.slice va L.length vc).ownBlock = some g → g < wx.heap.size := fun g hg' => (World.ownsRow.lt hS.out.op.own (k := g) hg').2
              have hni : notIn (.slice va L.length vc) ⟨ptB p, ta, tc, fa, fc⟩ := fun g hg' => ⟨fun _ q hq => by have := n1 q hq; have := hown g hg'; omega, fun _ q hq => by have := n2 q hq; have := hown g hg'; omega⟩
              have hbs := hS.out.bl.size
              have hb13 := b13.size
              have m0lt : w.heap.size < wx.heap.size := (Array.getElem?_eq_some_iff.1 hS.out.m).1
              obtain ⟨a4, c4, W4, hr, op4, gr4, hw4⟩ := OPl.app W3 (w.heap.size + 1) (.slice va L.length vc) L op3 (by omega) ⟨ptB p, ta, tc, fa, fc⟩ (hp2.below b3) hni (by omega)
              have hrH : Hid (∀ W' N, W' = W3.alloc (.cells #[.string (ptB p).m, .slice ta (ptB p).t.length tc, .slice fa (ptB p).f.length fc, .int .i64 (ptB p).tm] 32) → N = W3.heap.size → (Builtin.append_ #[22, 22] 22 #[.slice va L.length vc, .slice (some ⟨N, 0, none⟩) 1 1]).run Tryz.prog W' = .ok (.slice a4 (L.length + 1) c4) W4) := hr
              have hW3H : Hid ((w2.alloc (.cells #[.string (ptB p).m, .slice ta (ptB p).t.length tc, .slice fa (ptB p).f.length fc, .int .i64 (ptB p).tm] 32)).alloc (.cells #[.int .i64 0, .int .i64 0, .int .i64 0, .bool false, .bool false] 35) = W3 ∧ W3.heap.size = w2.heap.size + 1 + 1) := ⟨hW3, hsz3⟩
              have m3 := (b13.block _ (Array.getElem?_eq_some_iff.1 hS.out.m).1).trans hS.out.m
              have SN : Hid (StD w s (n + 1) (i + 1) (i + 1) (.slice a4 (L.length + 1) c4) (L ++ [⟨ptB p, ta, tc, fa, fc⟩]) (ps ++ [p]) W4) := ⟨hq, (hS.out.bl.trans (b13.mono hbs)).grown gr4 (by omega) (fun k e => by have := (World.ownsRow.lt op3.own (k := k) e).1; omega), (gr4.block _ (Array.getElem?_eq_some_iff.1 m3).1 (fun e => by have := (World.ownsRow.lt op3.own (k := w.heap.size) e.symm).1; omega)).trans m3, op4, by rw [List.map_append, hS.out.eq, List.map_append]; rfl, by rw [List.length_append]; have := hS.out.few; simp; omega, by omega⟩
              clear op3 hown hni hr op4 gr4 hw4 m3 b3 b13 hsz3 hW3 hp2 B2 n1 n2 hq seg hS cT cO eB eP hbs hb13 m0lt PE PO hTl ho
              generalize (ptB p).t.length = nt at *
              generalize (ptB p).f.length = nf at *
              generalize (ptB p).m = pm at *
              generalize (ptB p).tm = pt at *
              go_wp2_with (at_builtin; refine wpList_append_runL (by rfl) _ _ _ (by rfl) _ _ _ _ (by rfl) (by rfl) (hrH.out _ _ (by rw [← hW3H.out.1]) (by rw [hW3H.out.2])) ?_)
              go_roundg (s.size + 1 - (i + 1))
              case measure => rw [hgkH.out]; omega
              case rel => exact ⟨n + 1, i + 1, i + 1, _, _, rfl, by first | rfl | simp, by first | rfl | simp, by first | rfl | simp, SN⟩
    · have iI : ¬ (i : Int) ≤ (s.size : Int) := by omega
      obtain ⟨_, hpar⟩ := hS.out.q.resolve_left (fun ⟨pre, g, h⟩ => hin h.il)
      obtain ⟨⟨q0, q1, q2, q3, q4⟩, z0, z1, z2, z3, z4⟩ := bd_cells hS.out.m
      obtain ⟨va, vc, ev⟩ := hS.out.op.slice
      subst ev
      have opE : OPl (((((wx.setCell ⟨w.heap.size, 0, none⟩ (.int .i64 0)).setCell ⟨w.heap.size, 1, none⟩ (.int .i64 0)).setCell ⟨w.heap.size, 2, none⟩ (.int .i64 0)).setCell ⟨w.heap.size, 3, none⟩ (.bool false)).setCell ⟨w.heap.size, 4, none⟩ (.bool false)) (w.heap.size + 1) (.slice va L.length vc) L := by
        have g5 : wx.grownBy (((((wx.setCell ⟨w.heap.size, 0, none⟩ (.int .i64 0)).setCell ⟨w.heap.size, 1, none⟩ (.int .i64 0)).setCell ⟨w.heap.size, 2, none⟩ (.int .i64 0)).setCell ⟨w.heap.size, 3, none⟩ (.bool false)).setCell ⟨w.heap.size, 4, none⟩ (.bool false)) (some w.heap.size) := grown_trans (grown_trans (grown_trans (grown_trans (grown_set _ _ 0 _) (grown_set _ _ 1 _)) (grown_set _ _ 2 _)) (grown_set _ _ 3 _)) (grown_set _ _ 4 _)
        refine hS.out.op.keep g5 (fun g hg' q => ?_) (fun t ht => ?_)
        · injection q with q
          have := (World.ownsRow.lt hS.out.op.own (k := g) hg').1
          omega
        · have hin2 := (hS.out.op.all t ht).1
          exact ⟨fun hl q hq e => tg_farB hS.out.m hin2.1 hl hq (by injection e with e; exact e.symm), fun hl q hq e => fd_farB hS.out.m hin2.2.2.1 hl hq (by injection e with e; exact e.symm)⟩
      have FH : Hid (PST (.returned (.tuple #[.slice va L.length vc, .agg #[.int .i64 0, .int .i64 0, .int .i64 0, .bool false, .bool false]])) (((((wx.setCell ⟨w.heap.size, 0, none⟩ (.int .i64 0)).setCell ⟨w.heap.size, 1, none⟩ (.int .i64 0)).setCell ⟨w.heap.size, 2, none⟩ (.int .i64 0)).setCell ⟨w.heap.size, 3, none⟩ (.bool false)).setCell ⟨w.heap.size, 4, none⟩ (.bool false))) := PO.out ps _ L _ hpar (opE.mono (Nat.le_succ _)) hS.out.eq (((((hS.out.bl.setCell (p := ⟨w.heap.size, 0, none⟩) (Nat.le_refl _) _).setCell (p := ⟨w.heap.size, 1, none⟩) (Nat.le_refl _) _).setCell (p := ⟨w.heap.size, 2, none⟩) (Nat.le_refl _) _).setCell (p := ⟨w.heap.size, 3, none⟩) (Nat.le_refl _) _).setCell (p := ⟨w.heap.size, 4, none⟩) (Nat.le_refl _) _)
      clear opE hS hpar PE PO cO
      go_wp2_with fail
      simp [bodyPost, results, Tryz.results19, go_sem, q0, q1, q2, q3, q4]
      exact FH.out
end Go.Proofs.YtbojljmacheccaaGreatDoor.Ln

namespace Go.Proofs.YtbojljmacheccaaGreatDoor.Ln
open Go.RowKit Go.Shelf
attribute [local go_sem] Oper.semAt_some
set_option linter.unusedVariables false
set_option linter.unusedSimpArgs false
set_option maxRecDepth 100000
/-! ### LineParses. -/
def parP (l : By) : List PtP := match parO l with | .ok ps => ps.map ptB | .error _ => []
def parE (l : By) : Value := match parO l with | .ok _ => .nilIface | .error x => .iface 107 (.agg #[.int .i64 (x.1 : Int), errL x.2])
def parB (l : By) : Value := match parO l with | .ok _ => .agg #[.int .i64 0, .int .i64 0, .int .i64 0, .bool false, .bool false] | .error x => inB (x.1 : Int) x.2
theorem row_P {W : World} {B : Nat} {v : Value} {L : List PtQ} {P : List PtP} (h : OPl W B v L) (e : L.map (·.p) = P) : ∃ a c, v = .slice a P.length c ∧ PsIn W a P := by
  obtain ⟨a, c, ev, hp⟩ := h.psIn
  subst e
  exact ⟨a, c, by rw [List.length_map]; exact ev, hp⟩
theorem parse_P (s : ByteArray) (w : World) (hg : LT w) (hs : s.size ≤ 549755813888) : Calls Tryz.prog 14 #[.string s] w fun e w' => ∃ a c, e = .returned (.tuple #[.slice a (parP s.data.toList).length c, parE s.data.toList]) ∧ PsIn w' a (parP s.data.toList) ∧ Below w.heap.size w w' := by
  refine (parse_l s w hg hs).mono ?_
  intro e w' h
  unfold EndP at h
  unfold parP parE
  cases ho : parO s.data.toList with
  | ok ps =>
    rw [ho] at h
    obtain ⟨v, L, e1, h1, h2, hb⟩ := h
    obtain ⟨a, c, ev, hp⟩ := row_P h1 h2
    exact ⟨a, c, by rw [e1, ev], hp, hb⟩
  | error x =>
    rw [ho] at h
    exact ⟨none, 0, h.1, Or.inl rfl, h.2⟩
theorem rparse_P (s : ByteArray) (w : World) (hg : LT w) (hs : s.size ≤ 1048576) : Calls Tryz.prog 19 #[.string s] w fun e w' => ∃ a c, e = .returned (.tuple #[.slice a (parP s.data.toList).length c, parB s.data.toList]) ∧ PsIn w' a (parP s.data.toList) ∧ Below w.heap.size w w' := by
  refine (rparse_l s w hg hs).mono ?_
  intro e w' h
  unfold EndG at h
  unfold parP parB
  cases ho : parO s.data.toList with
  | ok ps =>
    rw [ho] at h
    obtain ⟨v, L, e1, h1, h2, hb⟩ := h
    obtain ⟨a, c, ev, hp⟩ := row_P h1 h2
    exact ⟨a, c, by rw [e1, ev], hp, hb⟩
  | error x =>
    rw [ho] at h
    exact ⟨none, 0, h.1, Or.inl rfl, h.2⟩
theorem same_In (n : Int) (q : Option Int) (w : World) (hg : ET w) : Calls Tryz.prog 10 #[.iface 107 (.agg #[.int .i64 n, errL q]), inB n q] w fun e w' => e = .returned (.bool true) ∧ Below w.heap.size w w' := by
  cases q with
  | none => exact sameC_miss_hit [(true, n)] 6 rfl rfl n [] rfl w hg
  | some p => exact sameC_hit_hit [(true, n), (false, p)] 60 rfl p [] rfl n [(false, p)] rfl w hg
theorem same_P (l : By) (w : World) (hg : ET w) : Calls Tryz.prog 10 #[parE l, parB l] w fun e w' => e = .returned (.bool true) ∧ Below w.heap.size w w' := by
  unfold parE parB
  cases parO l with
  | ok p => exact same_nilW w
  | error x => exact same_In (x.1 : Int) x.2 w hg
theorem parB_cells (l : By) : ∃ c a b : Int, ∃ x y : Bool, parB l = .agg #[.int .i64 c, .int .i64 a, .int .i64 b, .bool x, .bool y] := by
  unfold parB
  cases parO l with
  | ok p => exact ⟨0, 0, 0, false, false, rfl⟩
  | error x =>
    obtain ⟨n, q⟩ := x
    cases q with
    | none => exact ⟨6, 0, _, false, true, rfl⟩
    | some p => exact ⟨60, p, _, true, true, rfl⟩
theorem parE_one (l : By) : (parE l).oneCell' = true := by
  unfold parE
  cases parO l with
  | ok p => rfl
  | error x => obtain ⟨n, q⟩ := x; cases q <;> rfl
end Go.Proofs.YtbojljmacheccaaGreatDoor.Ln
