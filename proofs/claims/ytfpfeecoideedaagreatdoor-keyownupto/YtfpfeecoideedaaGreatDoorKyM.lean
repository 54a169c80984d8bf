
import Derived.Test.YtfpfeecoideedaaGreatDoorKyL
namespace Go.Proofs.YtfpfeecoideedaaGreatDoor
open Go.RowKit Go.Shelf
set_option linter.unusedVariables false
set_option linter.unusedSimpArgs false
set_option maxRecDepth 100000 in
set_option maxHeartbeats 4000000 in
theorem print_bad (a : Option Addr) (c : Nat) (s : SerP) (w : World) (ha : SerIn w a s) (hT : UT w) (hr : rightN s ≠ 0) :
    Calls Tryz.prog 16 #[.agg #[.string s.m, .slice a s.t.length c, .string s.f]] w fun e w' => e = .returned (.string ⟨#[]⟩) ∧ Below w.heap.size w w' := by
  have B1 : ∀ o, Below w.heap.size w (w.alloc o) := fun o => (Below.refl _ w).alloc (Nat.le_refl _) o
  have cR : Hid (∀ o, Calls Tryz.prog 23 #[.agg #[.string s.m, .slice a s.t.length c, .string s.f]] (w.alloc o) fun e w' => e = .returned (.iface 29 (.int .i64 (rightN s))) ∧ Below w.heap.size w w') := fun o => (right_any a c s (w.alloc o) ⟨ha.1.below (B1 o), ha.2⟩ (hT.below (B1 o) (Nat.le_refl _))).mono fun e w' ⟨h1, h2⟩ => ⟨by rw [h1]; unfold erN; rw [if_neg hr], (B1 o).trans (h2.mono (B1 o).size)⟩
  generalize rightN s = r at cR hr
  generalize s.t.length = n at cR ⊢
  generalize s.m = sm at cR ⊢
  generalize s.f = sf at cR ⊢
  clear ha hT hr
  go_enter Tryz.func16, Tryz.ntmps16
  go_wp2_with (go_at_call 23; with_reducible refine Calls.mono (cR.out _) ?_; rintro e w' ⟨rfl, hb⟩)
  go_ret
  exact ⟨rfl, hb⟩
theorem cat_run (a b : ByteArray) (h : (a.size : Int) + (b.size : Int) ≤ 8388608) (W : World) : (Op.stringOp .add a b).run Tryz.prog W = .ok (.string (a ++ b)) W := run_string_add W a b (by omega) (by omega)
set_option maxRecDepth 100000 in
set_option maxHeartbeats 8000000 in
theorem print_any (a : Option Addr) (c : Nat) (s : SerP) (w : World) (ha : SerIn w a s) (hT : UT w) (hr : rightN s = 0) (hM : SerM s) :
    Calls Tryz.prog 16 #[.agg #[.string s.m, .slice a s.t.length c, .string s.f]] w fun e w' => e = .returned (.string ⟨(printT s).toArray⟩) ∧ Below w.heap.size w w' := by
  have B1 : ∀ o, Below w.heap.size w (w.alloc o) := fun o => (Below.refl _ w).alloc (Nat.le_refl _) o
  obtain ⟨z1, z2, z3, z4⟩ := right_parts hr
  have cR : Hid (Calls Tryz.prog 23 #[.agg #[.string s.m, .slice a s.t.length c, .string s.f]] (w.alloc (.cells #[.string s.m, .slice a s.t.length c, .string s.f] 24)) fun e w' => e = .returned .nilIface ∧ PS w w'.heap.size s.m s.f a s.t.length c [] (w'.alloc (.cells #[.pointer none, .slice none 0 0] 110))) := by
    refine (right_any a c s _ ⟨ha.1.below (B1 _), ha.2⟩ (hT.below (B1 _) (Nat.le_refl _))).mono ?_
    rintro e w' ⟨rfl, hb⟩
    have hs := hb.size
    rw [World.size_alloc] at hs
    have hb' : Below w.heap.size w w' := (B1 _).trans (hb.mono (B1 _).size)
    refine ⟨by unfold erN; rw [if_pos hr], builder_new w', ?_, ?_, ?_, hb'.alloc hb'.size _, by omega, by simp⟩
    · rw [World.cell?_alloc_lt _ _ ⟨w.heap.size, 0, none⟩ (show w.heap.size < _ by omega), hb.cell (p := ⟨w.heap.size, 0, none⟩) (by simp)]; simp [go_sem]
    · rw [World.cell?_alloc_lt _ _ ⟨w.heap.size, 1, none⟩ (show w.heap.size < _ by omega), hb.cell (p := ⟨w.heap.size, 1, none⟩) (by simp)]; simp [go_sem]
    · rw [World.cell?_alloc_lt _ _ ⟨w.heap.size, 2, none⟩ (show w.heap.size < _ by omega), hb.cell (p := ⟨w.heap.size, 2, none⟩) (by simp)]; simp [go_sem]
  obtain ⟨R, hR⟩ : ∃ R, printT s = R := ⟨_, rfl⟩
  rw [hR]
  have hRH : Hid (printT s = R) := hR
  clear hR hr hT
  obtain ⟨sm, st, sf⟩ := s
  simp only at z1 z2 z3 z4 cR ⊢
  have hA : Hid (TgIn w a st) := ha.1
  have hMH : Hid (SerM ⟨sm, st, sf⟩) := hM
  have hz4 : Hid (∀ t ∈ st, t.1.size ≤ 64 ∧ t.2.size ≤ 256) := z4
  clear ha hM z4
  obtain ⟨n, hn⟩ : ∃ n, st.length = n := ⟨_, rfl⟩
  have hN : Hid (st.length = n) := hn
  rw [hn] at z3 cR ⊢
  clear hn
  go_enter Tryz.func16, Tryz.ntmps16
  go_wp2_with fail
  refine Calls.mono cR.out ?_
  rintro e w1 ⟨rfl, hps⟩
  have hpsH : Hid (PS w w1.heap.size sm sf a n c [] (w1.alloc (.cells #[.pointer none, .slice none 0 0] 110))) := hps
  have g0 := hps.c0
  have cE : Hid (Calls Tryz.prog 40 #[.string sm] (w1.alloc (.cells #[.pointer none, .slice none 0 0] 110)) fun e w' => e = .returned (.string ⟨(escL sm.data.toList).toArray⟩) ∧ PS w w1.heap.size sm sf a n c [] w' ∧ Below (w1.alloc (.cells #[.pointer none, .slice none 0 0] 110)).heap.size (w1.alloc (.cells #[.pointer none, .slice none 0 0] 110)) w') := hps.esc sm (by omega) hMH.out.1
  have hEl := escL_len sm.data.toList
  rw [← Lib.size_eq] at hEl
  obtain ⟨E, hE⟩ : ∃ E, escL sm.data.toList = E := ⟨_, rfl⟩
  rw [hE] at cE hEl
  have hElH : Hid (E.length ≤ 2 * sm.size) := hEl
  have hEH : Hid (escL sm.data.toList = E) := hE
  clear cR hps hEl hE
  go_wp2_with fail
  refine Calls.mono cE.out ?_
  rintro e w2 ⟨rfl, hps2, hb2⟩
  have cW : Hid (Calls Tryz.prog 39 #[.pointer (some ⟨w1.heap.size, 0, none⟩), .string ⟨E.toArray⟩] w2 fun e w' => e = .returned (.tuple #[.int .i64 (⟨E.toArray⟩ : ByteArray).size, .nilIface]) ∧ PS w w1.heap.size sm sf a n c E w') := hps2.write ⟨E.toArray⟩ (by have := hElH.out; show 0 + E.length ≤ _; omega)
  generalize w1.heap.size = b at *
  clear cE hpsH hb2 hps2 g0
  go_wp2_with fail
  refine Calls.mono cW.out ?_
  rintro e w3 ⟨rfl, hps3⟩
  have g1 := hps3.c1
  have hpsH : Hid (PS w b sm sf a n c E w3) := hps3
  clear cW hps3
  go_wp2_with fail
  go_loopw [16] (fun i wr => ∃ (k : Nat) (bs : List UInt8), i = .int .i64 (k : Int) ∧ k ≤ n ∧ Hid (bs = E ++ (st.take k).flatMap tagT) ∧ Hid (PS w b sm sf a n c bs wr)) (fun i _ => n - (intOf i).toNat)
  case atStart => exact ⟨0, E, rfl, by omega, by show E = E ++ _; simp, hpsH⟩
  case round =>
    obtain ⟨k, bs, rfl, hkn, hbs, hp⟩ := hrel
    have hlenb : bs.length ≤ 10000 := by
      rw [hbs.out, List.length_append]
      have h1 := hElH.out
      have h2 := flat_tag_len (st.take k) (fun t ht => hz4.out t (List.mem_of_mem_take ht))
      have h3 : (st.take k).length ≤ 8 := by rw [List.length_take]; omega
      have h4 := Nat.mul_le_mul_right 642 h3
      omega
    have hlbH : Hid (bs.length ≤ 10000) := hlenb
    clear hlenb
    by_cases hk : k < n
    · have hkI : (k : Int) < (n : Int) := by omega
      obtain ⟨t, ht⟩ : ∃ t, st[k]? = some t := ⟨_, List.getElem?_eq_getElem (by have := hN.out; omega)⟩
      obtain ⟨b1, o1, rfl, hb1, t1, t2⟩ := hA.out.at hp.out.blw ht
      have hmem := List.mem_of_getElem? ht
      have hsz := hz4.out t hmem
      have hMt := hMH.out.2.2 t hmem
      have hbs2 : Hid (bs ++ tagT t = E ++ (st.take (k + 1)).flatMap tagT) := by
        show bs ++ tagT t = _
        rw [hbs.out, List.take_add_one, ht, List.flatMap_append]
        simp
      clear ht hmem
      obtain ⟨K, V⟩ := t
      simp only at t1 t2 hsz hMt
      have hp0 : PS w b sm sf (some ⟨b1, o1, none⟩) n c bs (wr.alloc (.cells #[.string K, .string V] 82)).drew := hp.out.below (((Below.refl _ wr).alloc (Nat.le_refl _) _).drew)
      have hp0H : Hid (PS w b sm sf (some ⟨b1, o1, none⟩) n c bs (wr.alloc (.cells #[.string K, .string V] 82)).drew) := hp0
      have cK : Hid (Calls Tryz.prog 40 #[.string K] (wr.alloc (.cells #[.string K, .string V] 82)).drew fun e w' => e = .returned (.string ⟨(escL K.data.toList).toArray⟩) ∧ PS w b sm sf (some ⟨b1, o1, none⟩) n c bs w' ∧ Below (wr.heap.size + 1) (wr.alloc (.cells #[.string K, .string V] 82)).drew w') := (hp0.esc K (by omega) hMt.1).mono fun e w' ⟨h1, h2, h3⟩ => ⟨h1, h2, by have := h3; simpa using this⟩
      have cV : Hid (∀ W, PS w b sm sf (some ⟨b1, o1, none⟩) n c bs W → Calls Tryz.prog 40 #[.string V] W fun e w' => e = .returned (.string ⟨(escL V.data.toList).toArray⟩) ∧ PS w b sm sf (some ⟨b1, o1, none⟩) n c bs w' ∧ Below W.heap.size W w') := fun W hW => hW.esc V (by omega) hMt.2
      have hKl := escL_len K.data.toList
      have hVl := escL_len V.data.toList
      rw [← Lib.size_eq] at hKl hVl
      have hbs3 : Hid (bs ++ 44 :: (escL K.data.toList ++ 61 :: escL V.data.toList) = E ++ (st.take (k + 1)).flatMap tagT) := hbs2.out
      clear hbs2 hp0
      generalize escL K.data.toList = EK at cK hKl hbs3
      generalize escL V.data.toList = EV at cV hVl hbs3
      have hTx : (((⟨#[44]⟩ : ByteArray) ++ ⟨EK.toArray⟩ ++ ⟨#[61]⟩) ++ (⟨EV.toArray⟩ : ByteArray)).data.toList = 44 :: (EK ++ 61 :: EV) := by
        simp [ByteArray.data_append]
      obtain ⟨TX, hTX⟩ : ∃ TX, (((⟨#[44]⟩ : ByteArray) ++ ⟨EK.toArray⟩ ++ ⟨#[61]⟩) ++ (⟨EV.toArray⟩ : ByteArray)) = TX := ⟨_, rfl⟩
      have cW : Hid (∀ W, PS w b sm sf (some ⟨b1, o1, none⟩) n c bs W → Calls Tryz.prog 39 #[.pointer (some ⟨b, 0, none⟩), .string (((⟨#[44]⟩ : ByteArray) ++ ⟨EK.toArray⟩ ++ ⟨#[61]⟩) ++ (⟨EV.toArray⟩ : ByteArray))] W fun e w' => (∃ q : Int, e = .returned (.tuple #[.int .i64 q, .nilIface])) ∧ PS w b sm sf (some ⟨b1, o1, none⟩) n c (bs ++ 44 :: (EK ++ 61 :: EV)) w' ∧ Lib.OthersKept 5 (some b) W w') := fun W hW => (hW.write2 _ (by
        have h1 := hlbH.out
        rw [Lib.size_eq, hTx]
        simp
        omega)).mono fun e w' ⟨h1, h2, h3⟩ => ⟨⟨_, h1⟩, hTx ▸ h2, h3⟩
      have hbw : wr.heap.size ≠ b := by have := hp.out.lt; omega
      have hcel : ∀ W : World, W.heap[wr.heap.size]? = some (.cells #[.string K, .string V] 82) → W.cell? ⟨wr.heap.size, 0, none⟩ = some (.string K) ∧ W.cell? ⟨wr.heap.size, 1, none⟩ = some (.string V) := fun W h => ⟨by rw [Lib.cell_of_heap h]; rfl, by rw [Lib.cell_of_heap h]; rfl⟩
      have hh0 : (wr.alloc (.cells #[.string K, .string V] 82)).heap[wr.heap.size]? = some (.cells #[.string K, .string V] 82) := World.alloc_heap_new wr _
      have hh0H : Hid ((wr.alloc (.cells #[.string K, .string V] 82)).heap[wr.heap.size]? = some (.cells #[.string K, .string V] 82)) := hh0
      have hcelH : Hid (∀ W : World, W.heap[wr.heap.size]? = some (.cells #[.string K, .string V] 82) → W.cell? ⟨wr.heap.size, 0, none⟩ = some (.string K) ∧ W.cell? ⟨wr.heap.size, 1, none⟩ = some (.string V)) := hcel
      have hKeep : Hid (∀ W W' : World, W.heap[wr.heap.size]? = some (.cells #[.string K, .string V] 82) → Lib.OthersKept 5 (some b) W W' → W'.heap[wr.heap.size]? = some (.cells #[.string K, .string V] 82)) := fun W W' h hO => hO _ _ h (by simpa using hbw) (by intro c fz e; cases e)
      clear hh0 hcel hbw
      have q1 : ∀ W, (Op.stringOp .add ⟨#[44]⟩ ⟨EK.toArray⟩).run Tryz.prog W = .ok (.string (⟨#[44]⟩ ++ ⟨EK.toArray⟩)) W := fun W => cat_run _ _ (by have e1 : (⟨#[44]⟩ : ByteArray).size = 1 := rfl; have e2 : (⟨EK.toArray⟩ : ByteArray).size = EK.length := rfl; omega) W
      have q2 : ∀ W, (Op.stringOp .add (⟨#[44]⟩ ++ ⟨EK.toArray⟩) ⟨#[61]⟩).run Tryz.prog W = .ok (.string (⟨#[44]⟩ ++ ⟨EK.toArray⟩ ++ ⟨#[61]⟩)) W := fun W => cat_run _ _ (by rw [ByteArray.size_append]; have e1 : (⟨#[44]⟩ : ByteArray).size = 1 := rfl; have e2 : (⟨EK.toArray⟩ : ByteArray).size = EK.length := rfl; have e3 : (⟨#[61]⟩ : ByteArray).size = 1 := rfl; omega) W
      have q3 : ∀ W, (Op.stringOp .add (⟨#[44]⟩ ++ ⟨EK.toArray⟩ ++ ⟨#[61]⟩) ⟨EV.toArray⟩).run Tryz.prog W = .ok (.string (⟨#[44]⟩ ++ ⟨EK.toArray⟩ ++ ⟨#[61]⟩ ++ ⟨EV.toArray⟩)) W := fun W => cat_run _ _ (by rw [ByteArray.size_append, ByteArray.size_append]; have e1 : (⟨#[44]⟩ : ByteArray).size = 1 := rfl; have e2 : (⟨EK.toArray⟩ : ByteArray).size = EK.length := rfl; have e3 : (⟨#[61]⟩ : ByteArray).size = 1 := rfl; have e4 : (⟨EV.toArray⟩ : ByteArray).size = EV.length := rfl; omega) W
      clear hTX hTx
      have S0 : (wr.alloc (.cells #[.string K, .string V] 82)).cell? ⟨wr.heap.size, 0, none⟩ = some (.string K) ∧ (wr.alloc (.cells #[.string K, .string V] 82)).cell? ⟨wr.heap.size, 1, none⟩ = some (.string V) := ⟨by simp [go_sem], by simp [go_sem]⟩
      go_wp2_with fail
      go_region_held3 (fun W => W.cell? ⟨wr.heap.size, 0, none⟩ = some (.string K) ∧ W.cell? ⟨wr.heap.size, 1, none⟩ = some (.string V)) (first | assumption)
        (first
          | (go_at_call 40; (with_reducible refine Calls.mono cK.out ?_); rintro e4 w4 ⟨rfl, hp4, hb4⟩; have hh4 : Hid (w4.heap[wr.heap.size]? = some (.cells #[.string K, .string V] 82)) := (hb4.block wr.heap.size (Nat.lt_succ_self _)).trans hh0H.out; have S4 := hcelH.out w4 hh4.out)
          | (go_at_call 40; (with_reducible refine Calls.mono (cV.out _ hp4) ?_); rintro e5 w5 ⟨rfl, hp5, hb5⟩; have hh5 : Hid (w5.heap[wr.heap.size]? = some (.cells #[.string K, .string V] 82)) := (hb5.block wr.heap.size (Array.getElem?_eq_some_iff.1 hh4.out).1).trans hh4.out; have S5 := hcelH.out w5 hh5.out)
          | (go_at_call 39; (with_reducible refine Calls.mono (cW.out _ hp5) ?_); rintro e6 w6 ⟨⟨q, rfl⟩, hp6, hO6⟩; have S6 := hcelH.out w6 (hKeep.out _ _ hh5.out hO6)))
      all_goals
        have hp6H : Hid (PS w b sm sf (some ⟨b1, o1, none⟩) n c (bs ++ 44 :: (EK ++ 61 :: EV)) w6) := hp6
        go_wp2_with fail
        go_round
      case measure => simp only [intOf]; omega
      case rel => exact ⟨k + 1, _, by simp, by omega, hbs3, hp6H⟩
    · have hkI : ¬ (k : Int) < (n : Int) := by omega
      have hbsE : Hid (bs = E ++ st.flatMap tagT) := by have := hbs.out; rw [List.take_of_length_le (by have := hN.out; omega)] at this; exact this
      have g2 := hp.out.c2
      have cF : Hid (Calls Tryz.prog 40 #[.string sf] wr fun e w' => e = .returned (.string ⟨(escL sf.data.toList).toArray⟩) ∧ PS w b sm sf a n c bs w' ∧ Below wr.heap.size wr w') := hp.out.esc sf (by omega) hMH.out.2.1
      have hFl := escL_len sf.data.toList
      rw [← Lib.size_eq] at hFl
      have hend : Hid (bs ++ 32 :: escL sf.data.toList = R) := by
        show bs ++ 32 :: escL sf.data.toList = R
        rw [← hRH.out, hbsE.out]
        unfold printT
        simp only
        rw [hEH.out]
      generalize escL sf.data.toList = EF at cF hFl hend
      have q1 : ∀ W, (Op.stringOp .add ⟨#[32]⟩ ⟨EF.toArray⟩).run Tryz.prog W = .ok (.string (⟨#[32]⟩ ++ ⟨EF.toArray⟩)) W := fun W => cat_run _ _ (by have e1 : (⟨#[32]⟩ : ByteArray).size = 1 := rfl; have e2 : (⟨EF.toArray⟩ : ByteArray).size = EF.length := rfl; omega) W
      have hTx : ((⟨#[32]⟩ : ByteArray) ++ ⟨EF.toArray⟩).data.toList = 32 :: EF := by simp [ByteArray.data_append]
      have cW : Hid (∀ W, PS w b sm sf a n c bs W → Calls Tryz.prog 39 #[.pointer (some ⟨b, 0, none⟩), .string ((⟨#[32]⟩ : ByteArray) ++ ⟨EF.toArray⟩)] W fun e w' => (∃ q : Int, e = .returned (.tuple #[.int .i64 q, .nilIface])) ∧ PS w b sm sf a n c (bs ++ 32 :: EF) w') := fun W hW => (hW.write _ (by
        have h1 := hlbH.out
        rw [Lib.size_eq, hTx]
        simp
        omega)).mono fun e w' ⟨h1, h2⟩ => ⟨⟨_, h1⟩, hTx ▸ h2⟩
      clear hTx hFl
      rw [hend.out] at cW
      have cT : Hid (∀ W, PS w b sm sf a n c R W → Calls Tryz.prog 41 #[.pointer (some ⟨b, 0, none⟩)] W fun e w' => e = .returned (.string ⟨R.toArray⟩) ∧ Below w.heap.size w w') := fun W hW => hW.text
      go_wp2_with (first
        | (go_at_call 40; (with_reducible refine Calls.mono cF.out ?_); rintro e4 w4 ⟨rfl, hp4, hb4⟩)
        | (go_at_call 39; (with_reducible refine Calls.mono (cW.out _ hp4) ?_); rintro e6 w6 ⟨⟨q, rfl⟩, hp6⟩)
        | (go_at_call 41; (with_reducible refine Calls.mono (cT.out _ hp6) ?_); rintro e7 w7 ⟨rfl, hb7⟩))
      go_ret
      exact ⟨rfl, hb7⟩
end Go.Proofs.YtfpfeecoideedaaGreatDoor
