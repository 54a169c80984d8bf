
import Derived.Test.YtipahdplkmmofaaGreatDoorSpU
import Derived.Laws.EntriesVeiled
namespace Go.Proofs.YtipahdplkmmofaaGreatDoor
open Go.RowKit Go.Shelf
set_option linter.unusedVariables false
set_option linter.unusedSimpArgs false
theorem MT.grown {w w' : World} {C : Nat} (h : MT w) (hg : w.grownBy w' (some C)) (hC : C ≠ 3) : MT w' := fun k hk => grown_cell hg (Ne.symm hC) (h k hk)
theorem thr_end (ps : List Pc) (k : Nat) (h : ps.length ≤ k) (c : Clk) (l : List UInt8) (a : Nat) : thr (ps.drop k) c l a = (c, a, true) := by
  rw [List.drop_of_length_le h]; rfl
theorem thr_none (ps : List Pc) (k : Nat) (h : k < ps.length) (c : Clk) (l : List UInt8) (a : Nat) (hp : ps[k] c l = none) : thr (ps.drop k) c l a = (c, a, false) := by
  rw [List.drop_eq_getElem_cons h, thr, hp]
theorem thr_some (ps : List Pc) (k : Nat) (h : k < ps.length) (c c' : Clk) (l : List UInt8) (a j : Nat) (hp : ps[k] c l = some (c', j)) : thr (ps.drop k) c l a = thr (ps.drop (k + 1)) c' (l.drop j) (a + j) := by
  rw [List.drop_eq_getElem_cons h, thr, hp]
theorem keepB {w W W' : World} {C N : Nat} {f : Value} (h : w.grownBy W (some C) ∧ W.cell? ⟨N, 0, none⟩ = some f) (hN : N ≠ C) (hg : W.grownBy W' (some C)) : w.grownBy W' (some C) ∧ W'.cell? ⟨N, 0, none⟩ = some f := ⟨grown_trans h.1 hg, grown_cell hg hN h.2⟩
theorem pres_grown {C : Nat} {c : Clk} {p : Pc} {l : List UInt8} {w w' : World} {x : Int} (h : PRes C c p l w x w') : w.grownBy w' (some C) := by
  rcases h with ⟨h1, h2, h3, h4⟩ | ⟨c', k, h1, h2, h3, h4, h5⟩
  · exact h4
  · exact h5
theorem grown_alloc (w : World) (o : Obj) (C : Nat) : w.grownBy (w.alloc o) (some C) := grown_of_below C (below_new (Below.refl _ _) o)
theorem pc_len (s : ByteArray) (a : Nat) : (s.data.toList.drop a).length = s.size - a := by rw [List.length_drop, sz_list]
set_option maxRecDepth 100000 in
set_option maxHeartbeats 8000000 in
theorem through_any (C S n cap : Nat) (fs : List Value) (ps : List Pc) (hf : fs.length = n) (hp : ps.length = n) (hn : n ≤ 100) (s : ByteArray) (hs : s.size ≤ 9223372036854775807) (a0 : Nat) (ha : a0 ≤ s.size) (c0 : Clk) (Inv : Nat → Clk → Prop) (hI0 : Inv 0 c0)
    (hIs : ∀ (k : Nat) (c c' : Clk) (r : List UInt8) (j : Nat) (h : k < ps.length), Inv k c → ps[k] c r = some (c', j) → Inv (k + 1) c')
    (hId : ∀ (k : Nat) (c : Clk) (h : k < ps.length), Inv k c → ps[k] = dayPc → DayPre c) (w : World) (hM : MT w) (hCm : C ≠ 3) (hSC : S ≠ C)
    (hcell : ∀ (i : Nat) (h : i < fs.length), w.cell? ⟨S, i, none⟩ = some fs[i]) (hpc : ∀ (i : Nat) (h1 : i < fs.length) (h2 : i < ps.length), PcAt C w fs[i] ps[i]) (hk : CK C c0 w) (R : Clk × Nat × Bool) (hR : thr ps c0 (s.data.toList.drop a0) a0 = R) :
    Calls Tryz.prog 34 #[.string s, .int .i64 (a0 : Int), .slice (some ⟨S, 0, none⟩) n cap] w fun e w' => e = .returned (.tuple #[.int .i64 (R.2.1 : Int), .bool R.2.2]) ∧ CK C R.1 w' ∧ w.grownBy w' (some C) ∧ (R.2.2 = true → Inv n R.1) ∧ R.2.1 ≤ s.size := by
  have HM : Hid (MT w) := hM
  have HCell : Hid (∀ (i : Nat) (h : i < fs.length), w.cell? ⟨S, i, none⟩ = some fs[i]) := hcell
  have HPc : Hid (∀ (i : Nat) (h1 : i < fs.length) (h2 : i < ps.length), PcAt C w fs[i] ps[i]) := hpc
  have HIs : Hid (∀ (k : Nat) (c c' : Clk) (r : List UInt8) (j : Nat) (h : k < ps.length), Inv k c → ps[k] c r = some (c', j) → Inv (k + 1) c') := hIs
  have HId : Hid (∀ (k : Nat) (c : Clk) (h : k < ps.length), Inv k c → ps[k] = dayPc → DayPre c) := hId
  have HF : Hid (fs.length = n) := hf
  have HPL : Hid (ps.length = n) := hp
  have HR0 : Hid (thr (ps.drop 0) c0 (s.data.toList.drop a0) a0 = R) := hR
  have HI0 : Hid (Inv 0 c0) := hI0
  have HK0 : Hid (CK C c0 w) := hk
  clear hM hcell hpc hIs hId hf hp hR hI0 hk
  go_enter Tryz.func34, Tryz.ntmps34
  go_wp2
  go_loopw [1, 13] (fun t i wr => ∃ (k a : Nat) (c : Clk), k ≤ n ∧ a ≤ s.size ∧ t = .int .i64 (a : Int) ∧ i = .int .i64 (k : Int) ∧ Hid (thr (ps.drop k) c (s.data.toList.drop a) a = R) ∧ Hid (CK C c wr) ∧ w.grownBy wr (some C) ∧ Hid (Inv k c)) (fun _ i _ => n - (intOf i).toNat)
  case atStart => exact ⟨0, a0, c0, Nat.zero_le _, ha, rfl, rfl, HR0, HK0, grown_refl _ _, HI0⟩
  case round =>
    obtain ⟨k, a, c, hkn, hal, rfl, rfl, hT, hK, hG, hI⟩ := hrel
    clear HR0 HI0 HK0 ha
    by_cases hlt : k < n
    · have kf : k < fs.length := by rw [HF.out]; exact hlt
      have kp : k < ps.length := by rw [HPL.out]; exact hlt
      have cellk := grown_cell hG hSC (HCell.out k kf)
      have pck := (HPc.out k kf kp).grown hG
      have NX : Hid (∀ c' r j, ps[k] c r = some (c', j) → Inv (k + 1) c') := fun c' r j h => HIs.out k c c' r j kp hI.out h
      have ND : Hid (ps[k] = dayPc → DayPre c) := fun h => HId.out k c kp hI.out h
      have TN : Hid (ps[k] c (s.data.toList.drop a) = none → R = (c, a, false)) := fun h => by rw [← hT.out]; exact thr_none ps k kp c _ a h
      have TS : Hid (∀ c' j, ps[k] c (s.data.toList.drop a) = some (c', j) → thr (ps.drop (k + 1)) c' (s.data.toList.drop (a + j)) (a + j) = R) := fun c' j h => by
        rw [← hT.out, thr_some ps k kp c c' _ a j h, List.drop_drop]
      have HMr : Hid (MT wr) := HM.out.grown hG hCm
      generalize fs[k] = f at cellk pck
      generalize ps[k] = p at pck NX ND TN TS
      clear hT HIs HId kf kp hI
      have hltI : (k : Int) < (n : Int) := by omega
      have k0 : (0 : Int) ≤ (k : Int) := by omega
      have exz := ex_size s a
      have EX : Hid ((s.extract a s.size).data.toList = s.data.toList.drop a) := ex_list s a
      have HXs : Hid ((s.extract a s.size).size ≤ 9223372036854775807) := by show _ ≤ _; rw [exz]; omega
      have CL : Hid (C < wr.heap.size) := hK.out.lt
      clear exz
      obtain ⟨M, hM⟩ : ∃ M, M = wr.heap.size := ⟨_, rfl⟩
      have HMz : Hid (M = wr.heap.size) := hM
      have MC : M ≠ C := by have := CL.out; omega
      clear hM
      cases pck with
      | num a1 b1 c1 d1 size i lo hi hi1 na nb nc nd ha hb hc hd hz =>
        have CT : Hid (∀ W, wr.grownBy W (some C) → CK C c W → Calls Tryz.prog 107 #[.string (s.extract a s.size), .pointer (some ⟨a1, 0, none⟩), .pointer (some ⟨b1, 0, none⟩), .pointer (some ⟨c1, 0, none⟩), .pointer (some ⟨d1, 0, none⟩)] W fun e w' => ∃ x : Int, e = .returned (.int .i64 x) ∧ PRes C c (numPc size lo hi (setC i)) (s.data.toList.drop a) W x w') := fun W hg ck => (num1_any C c (s.extract a s.size) HXs.out a1 b1 c1 d1 size i lo hi hi1 na nb nc nd W (grown_cell hg na ha) (grown_cell hg nb hb) (grown_cell hg nc hc) (grown_cell hg nd hd) hz ck).mono (fun e w' h => by
          have h := ppost_val h
          rw [EX.out] at h; exact h)
        clear ND HMr
        go_wp2
        obtain ⟨WA, hWA⟩ : ∃ WA, WA = wr.alloc (.cells #[.func (.func 107) #[] #[.pointer (some ⟨a1, 0, none⟩), .pointer (some ⟨b1, 0, none⟩), .pointer (some ⟨c1, 0, none⟩), .pointer (some ⟨d1, 0, none⟩)]] 136) := ⟨_, rfl⟩
        have g1 : wr.grownBy WA.drew (some C) := by rw [hWA]; exact grown_trans (grown_alloc wr _ C) (grown_of_below C (Below.refl _ _).drew)
        have CK1 : CK C c WA.drew := by rw [hWA]; exact (hK.out.after (below_new (Below.refl _ _) _)).after (Below.refl _ _).drew
        have S0 : w.grownBy WA.drew (some C) ∧ WA.drew.cell? ⟨M, 0, none⟩ = some (.func (.func 107) #[] #[.pointer (some ⟨a1, 0, none⟩), .pointer (some ⟨b1, 0, none⟩), .pointer (some ⟨c1, 0, none⟩), .pointer (some ⟨d1, 0, none⟩)]) := ⟨grown_trans hG g1, by rw [hWA, HMz.out]; simp [go_sem]⟩
        have HWA : Hid (WA = wr.alloc (.cells #[.func (.func 107) #[] #[.pointer (some ⟨a1, 0, none⟩), .pointer (some ⟨b1, 0, none⟩), .pointer (some ⟨c1, 0, none⟩), .pointer (some ⟨d1, 0, none⟩)]] 136)) := hWA
        rw [← hWA, ← HMz.out]
        have sb1 : (0 : Int) ≤ (a : Int) := by omega
        have sb2 : (a : Int) ≤ (s.size : Int) := by omega
        clear hWA
        go_region_held3 (fun W => w.grownBy W (some C) ∧ W.cell? ⟨M, 0, none⟩ = some (.func (.func 107) #[] #[.pointer (some ⟨a1, 0, none⟩), .pointer (some ⟨b1, 0, none⟩), .pointer (some ⟨c1, 0, none⟩), .pointer (some ⟨d1, 0, none⟩)])) (first | assumption)
          (first | (go_at_call 107; (with_reducible refine Calls.mono (CT.out _ g1 CK1) ?_); rintro e w3 ⟨x, rfl, PX⟩; have S3 := keepB S0 MC (pres_grown PX)))
        all_goals
          obtain ⟨S3a, S3b⟩ := S3
          clear S0 S3b
          rcases PX with ⟨q1, rfl, ck, g⟩ | ⟨c', j, q1, q2, rfl, ck, g⟩
          · have HE : Hid (R = (c, a, false)) := TN.out q1
            go_wp2
            go_ret2
            refine ⟨?_, ?_, S3a, fun hh => ?_, ?_⟩
            · rw [HE.out]; rfl
            · rw [HE.out]; exact ck
            · rw [HE.out] at hh; cases hh
            · rw [HE.out]; exact hal
          · have HT2 : Hid (thr (ps.drop (k + 1)) c' (s.data.toList.drop (a + j)) (a + j) = R) := TS.out c' j q1
            have HI2 : Hid (Inv (k + 1) c') := NX.out c' _ j q1
            rw [pc_len] at q2
            have jb : (((j : Nat) : Int) == -1) = false := by rw [beq_eq_false_iff_ne]; omega
            have aj : a + j ≤ s.size := by omega
            clear q1
            go_wp2
            go_roundw
            case rel => exact ⟨k + 1, a + j, c', by omega, aj, by go_num, by go_num, HT2, ck, S3a, HI2⟩
            case measure => simp [intOf]; omega
      | lett a1 x1 na ha =>
        have CT : Hid (∀ W, wr.grownBy W (some C) → CK C c W → Calls Tryz.prog 109 #[.string (s.extract a s.size), .pointer (some ⟨a1, 0, none⟩)] W fun e w' => ∃ x : Int, e = .returned (.int .i64 x) ∧ PRes C c (letPc x1) (s.data.toList.drop a) W x w') := fun W hg ck => (let1_any C c (s.extract a s.size) a1 x1 na W (grown_cell hg na ha) ck).mono (fun e w' h => by
          have h := ppost_val h
          rw [EX.out] at h; exact h)
        clear ND HMr
        go_wp2
        obtain ⟨WA, hWA⟩ : ∃ WA, WA = wr.alloc (.cells #[.func (.func 109) #[] #[.pointer (some ⟨a1, 0, none⟩)]] 136) := ⟨_, rfl⟩
        have g1 : wr.grownBy WA.drew (some C) := by rw [hWA]; exact grown_trans (grown_alloc wr _ C) (grown_of_below C (Below.refl _ _).drew)
        have CK1 : CK C c WA.drew := by rw [hWA]; exact (hK.out.after (below_new (Below.refl _ _) _)).after (Below.refl _ _).drew
        have S0 : w.grownBy WA.drew (some C) ∧ WA.drew.cell? ⟨M, 0, none⟩ = some (.func (.func 109) #[] #[.pointer (some ⟨a1, 0, none⟩)]) := ⟨grown_trans hG g1, by rw [hWA, HMz.out]; simp [go_sem]⟩
        have HWA : Hid (WA = wr.alloc (.cells #[.func (.func 109) #[] #[.pointer (some ⟨a1, 0, none⟩)]] 136)) := hWA
        rw [← hWA, ← HMz.out]
        have sb1 : (0 : Int) ≤ (a : Int) := by omega
        have sb2 : (a : Int) ≤ (s.size : Int) := by omega
        clear hWA
        go_region_held3 (fun W => w.grownBy W (some C) ∧ W.cell? ⟨M, 0, none⟩ = some (.func (.func 109) #[] #[.pointer (some ⟨a1, 0, none⟩)])) (first | assumption)
          (first | (go_at_call 109; (with_reducible refine Calls.mono (CT.out _ g1 CK1) ?_); rintro e w3 ⟨x, rfl, PX⟩; have S3 := keepB S0 MC (pres_grown PX)))
        all_goals
          obtain ⟨S3a, S3b⟩ := S3
          clear S0 S3b
          rcases PX with ⟨q1, rfl, ck, g⟩ | ⟨c', j, q1, q2, rfl, ck, g⟩
          · have HE : Hid (R = (c, a, false)) := TN.out q1
            go_wp2
            go_ret2
            refine ⟨?_, ?_, S3a, fun hh => ?_, ?_⟩
            · rw [HE.out]; rfl
            · rw [HE.out]; exact ck
            · rw [HE.out] at hh; cases hh
            · rw [HE.out]; exact hal
          · have HT2 : Hid (thr (ps.drop (k + 1)) c' (s.data.toList.drop (a + j)) (a + j) = R) := TS.out c' j q1
            have HI2 : Hid (Inv (k + 1) c') := NX.out c' _ j q1
            rw [pc_len] at q2
            have jb : (((j : Nat) : Int) == -1) = false := by rw [beq_eq_false_iff_ne]; omega
            have aj : a + j ≤ s.size := by omega
            clear q1
            go_wp2
            go_roundw
            case rel => exact ⟨k + 1, a + j, c', by omega, aj, by go_num, by go_num, HT2, ck, S3a, HI2⟩
            case measure => simp [intOf]; omega
      | day  =>
        have CT : Hid (∀ W, wr.grownBy W (some C) → CK C c W → Calls Tryz.prog 77 #[.pointer (some ⟨C, 0, none⟩), .string (s.extract a s.size)] W fun e w' => ∃ x : Int, e = .returned (.int .i64 x) ∧ PRes C c (dayPc) (s.data.toList.drop a) W x w') := fun W hg ck => (day1_any C c (s.extract a s.size) HXs.out (ND.out rfl) W (HMr.out.grown hg hCm) ck).mono (fun e w' h => by
          have h := ppost_val h
          rw [EX.out] at h; exact h)
        skip
        go_wp2
        obtain ⟨WA, hWA⟩ : ∃ WA, WA = wr.alloc (.cells #[.func (.func 77) #[.pointer (some ⟨C, 0, none⟩)] #[]] 136) := ⟨_, rfl⟩
        have g1 : wr.grownBy WA.drew (some C) := by rw [hWA]; exact grown_trans (grown_alloc wr _ C) (grown_of_below C (Below.refl _ _).drew)
        have CK1 : CK C c WA.drew := by rw [hWA]; exact (hK.out.after (below_new (Below.refl _ _) _)).after (Below.refl _ _).drew
        have S0 : w.grownBy WA.drew (some C) ∧ WA.drew.cell? ⟨M, 0, none⟩ = some (.func (.func 77) #[.pointer (some ⟨C, 0, none⟩)] #[]) := ⟨grown_trans hG g1, by rw [hWA, HMz.out]; simp [go_sem]⟩
        have HWA : Hid (WA = wr.alloc (.cells #[.func (.func 77) #[.pointer (some ⟨C, 0, none⟩)] #[]] 136)) := hWA
        rw [← hWA, ← HMz.out]
        have sb1 : (0 : Int) ≤ (a : Int) := by omega
        have sb2 : (a : Int) ≤ (s.size : Int) := by omega
        clear hWA
        go_region_held3 (fun W => w.grownBy W (some C) ∧ W.cell? ⟨M, 0, none⟩ = some (.func (.func 77) #[.pointer (some ⟨C, 0, none⟩)] #[])) (first | assumption)
          (first | (go_at_call 77; (with_reducible refine Calls.mono (CT.out _ g1 CK1) ?_); rintro e w3 ⟨x, rfl, PX⟩; have S3 := keepB S0 MC (pres_grown PX)))
        all_goals
          obtain ⟨S3a, S3b⟩ := S3
          clear S0 S3b
          rcases PX with ⟨q1, rfl, ck, g⟩ | ⟨c', j, q1, q2, rfl, ck, g⟩
          · have HE : Hid (R = (c, a, false)) := TN.out q1
            go_wp2
            go_ret2
            refine ⟨?_, ?_, S3a, fun hh => ?_, ?_⟩
            · rw [HE.out]; rfl
            · rw [HE.out]; exact ck
            · rw [HE.out] at hh; cases hh
            · rw [HE.out]; exact hal
          · have HT2 : Hid (thr (ps.drop (k + 1)) c' (s.data.toList.drop (a + j)) (a + j) = R) := TS.out c' j q1
            have HI2 : Hid (Inv (k + 1) c') := NX.out c' _ j q1
            rw [pc_len] at q2
            have jb : (((j : Nat) : Int) == -1) = false := by rw [beq_eq_false_iff_ne]; omega
            have aj : a + j ≤ s.size := by omega
            clear q1
            go_wp2
            go_roundw
            case rel => exact ⟨k + 1, a + j, c', by omega, aj, by go_num, by go_num, HT2, ck, S3a, HI2⟩
            case measure => simp [intOf]; omega
      | frac  =>
        have CT : Hid (∀ W, wr.grownBy W (some C) → CK C c W → Calls Tryz.prog 78 #[.pointer (some ⟨C, 0, none⟩), .string (s.extract a s.size)] W fun e w' => ∃ x : Int, e = .returned (.int .i64 x) ∧ PRes C c (fracPc) (s.data.toList.drop a) W x w') := fun W hg ck => (frac1_any C c (s.extract a s.size) HXs.out W ck).mono (fun e w' h => by
          have h := ppost_val h
          rw [EX.out] at h; exact h)
        clear ND HMr
        go_wp2
        obtain ⟨WA, hWA⟩ : ∃ WA, WA = wr.alloc (.cells #[.func (.func 78) #[.pointer (some ⟨C, 0, none⟩)] #[]] 136) := ⟨_, rfl⟩
        have g1 : wr.grownBy WA.drew (some C) := by rw [hWA]; exact grown_trans (grown_alloc wr _ C) (grown_of_below C (Below.refl _ _).drew)
        have CK1 : CK C c WA.drew := by rw [hWA]; exact (hK.out.after (below_new (Below.refl _ _) _)).after (Below.refl _ _).drew
        have S0 : w.grownBy WA.drew (some C) ∧ WA.drew.cell? ⟨M, 0, none⟩ = some (.func (.func 78) #[.pointer (some ⟨C, 0, none⟩)] #[]) := ⟨grown_trans hG g1, by rw [hWA, HMz.out]; simp [go_sem]⟩
        have HWA : Hid (WA = wr.alloc (.cells #[.func (.func 78) #[.pointer (some ⟨C, 0, none⟩)] #[]] 136)) := hWA
        rw [← hWA, ← HMz.out]
        have sb1 : (0 : Int) ≤ (a : Int) := by omega
        have sb2 : (a : Int) ≤ (s.size : Int) := by omega
        clear hWA
        go_region_held3 (fun W => w.grownBy W (some C) ∧ W.cell? ⟨M, 0, none⟩ = some (.func (.func 78) #[.pointer (some ⟨C, 0, none⟩)] #[])) (first | assumption)
          (first | (go_at_call 78; (with_reducible refine Calls.mono (CT.out _ g1 CK1) ?_); rintro e w3 ⟨x, rfl, PX⟩; have S3 := keepB S0 MC (pres_grown PX)))
        all_goals
          obtain ⟨S3a, S3b⟩ := S3
          clear S0 S3b
          rcases PX with ⟨q1, rfl, ck, g⟩ | ⟨c', j, q1, q2, rfl, ck, g⟩
          · have HE : Hid (R = (c, a, false)) := TN.out q1
            go_wp2
            go_ret2
            refine ⟨?_, ?_, S3a, fun hh => ?_, ?_⟩
            · rw [HE.out]; rfl
            · rw [HE.out]; exact ck
            · rw [HE.out] at hh; cases hh
            · rw [HE.out]; exact hal
          · have HT2 : Hid (thr (ps.drop (k + 1)) c' (s.data.toList.drop (a + j)) (a + j) = R) := TS.out c' j q1
            have HI2 : Hid (Inv (k + 1) c') := NX.out c' _ j q1
            rw [pc_len] at q2
            have jb : (((j : Nat) : Int) == -1) = false := by rw [beq_eq_false_iff_ne]; omega
            have aj : a + j ≤ s.size := by omega
            clear q1
            go_wp2
            go_roundw
            case rel => exact ⟨k + 1, a + j, c', by omega, aj, by go_num, by go_num, HT2, ck, S3a, HI2⟩
            case measure => simp [intOf]; omega
      | zone  =>
        have CT : Hid (∀ W, wr.grownBy W (some C) → CK C c W → Calls Tryz.prog 79 #[.pointer (some ⟨C, 0, none⟩), .string (s.extract a s.size)] W fun e w' => ∃ x : Int, e = .returned (.int .i64 x) ∧ PRes C c (zonePc) (s.data.toList.drop a) W x w') := fun W hg ck => (zone1_any C c (s.extract a s.size) W ck).mono (fun e w' h => by
          have h := ppost_val h
          rw [EX.out] at h; exact h)
        clear ND HMr
        go_wp2
        obtain ⟨WA, hWA⟩ : ∃ WA, WA = wr.alloc (.cells #[.func (.func 79) #[.pointer (some ⟨C, 0, none⟩)] #[]] 136) := ⟨_, rfl⟩
        have g1 : wr.grownBy WA.drew (some C) := by rw [hWA]; exact grown_trans (grown_alloc wr _ C) (grown_of_below C (Below.refl _ _).drew)
        have CK1 : CK C c WA.drew := by rw [hWA]; exact (hK.out.after (below_new (Below.refl _ _) _)).after (Below.refl _ _).drew
        have S0 : w.grownBy WA.drew (some C) ∧ WA.drew.cell? ⟨M, 0, none⟩ = some (.func (.func 79) #[.pointer (some ⟨C, 0, none⟩)] #[]) := ⟨grown_trans hG g1, by rw [hWA, HMz.out]; simp [go_sem]⟩
        have HWA : Hid (WA = wr.alloc (.cells #[.func (.func 79) #[.pointer (some ⟨C, 0, none⟩)] #[]] 136)) := hWA
        rw [← hWA, ← HMz.out]
        have sb1 : (0 : Int) ≤ (a : Int) := by omega
        have sb2 : (a : Int) ≤ (s.size : Int) := by omega
        clear hWA
        go_region_held3 (fun W => w.grownBy W (some C) ∧ W.cell? ⟨M, 0, none⟩ = some (.func (.func 79) #[.pointer (some ⟨C, 0, none⟩)] #[])) (first | assumption)
          (first | (go_at_call 79; (with_reducible refine Calls.mono (CT.out _ g1 CK1) ?_); rintro e w3 ⟨x, rfl, PX⟩; have S3 := keepB S0 MC (pres_grown PX)))
        all_goals
          obtain ⟨S3a, S3b⟩ := S3
          clear S0 S3b
          rcases PX with ⟨q1, rfl, ck, g⟩ | ⟨c', j, q1, q2, rfl, ck, g⟩
          · have HE : Hid (R = (c, a, false)) := TN.out q1
            go_wp2
            go_ret2
            refine ⟨?_, ?_, S3a, fun hh => ?_, ?_⟩
            · rw [HE.out]; rfl
            · rw [HE.out]; exact ck
            · rw [HE.out] at hh; cases hh
            · rw [HE.out]; exact hal
          · have HT2 : Hid (thr (ps.drop (k + 1)) c' (s.data.toList.drop (a + j)) (a + j) = R) := TS.out c' j q1
            have HI2 : Hid (Inv (k + 1) c') := NX.out c' _ j q1
            rw [pc_len] at q2
            have jb : (((j : Nat) : Int) == -1) = false := by rw [beq_eq_false_iff_ne]; omega
            have aj : a + j ≤ s.size := by omega
            clear q1
            go_wp2
            go_roundw
            case rel => exact ⟨k + 1, a + j, c', by omega, aj, by go_num, by go_num, HT2, ck, S3a, HI2⟩
            case measure => simp [intOf]; omega
    · have ek : k = n := by omega
      subst ek
      have HE : Hid (R = (c, a, true)) := by show _ = _; rw [← hT.out]; exact thr_end ps k (by rw [HPL.out]; exact Nat.le_refl _) c _ a
      go_wp2
      go_ret2
      refine ⟨?_, ?_, hG, fun _ => ?_, ?_⟩
      · rw [HE.out]; rfl
      · rw [HE.out]; exact hK.out
      · rw [HE.out]; exact hI.out
      · rw [HE.out]; exact hal
end Go.Proofs.YtipahdplkmmofaaGreatDoor
