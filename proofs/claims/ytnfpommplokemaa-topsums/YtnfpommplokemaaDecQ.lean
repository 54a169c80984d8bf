
import Derived.Test.YtnfpommplokemaaDecP
import Derived.LoopTactic
import Derived.Laws.OwnMore
namespace Go.Proofs.Ytnfpommplokemaa
open Go.RowKit
set_option linter.unusedVariables false
set_option linter.unusedSimpArgs false
/-- a sum in decimal, its bytes. -/
def decT (v : Int) : List Nat := (if v < 0 then [45] else []) ++ (decD (ab v).toNat).map (48 + ·)
def decS (v : Int) : ByteArray := strOfNums ((decT v).map fun (n : Nat) => (n : Int))
theorem rest_ne (R : Nat) (h : R ≤ 170141183460469231731687303715884105728) (h0 : R ≠ 0) : ((sH (wr (R : Int)) == 0) && (sL (R : Int) == 0)) = false := by
  have : ¬ (sH (wr (R : Int)) = 0 ∧ sL (R : Int) = 0) := by unfold sH sL wr; omega
  cases h1 : (sH (wr (R : Int)) == 0) <;> cases h2 : (sL (R : Int) == 0) <;> simp_all
theorem byte_info : (Try.prog.info? 5).map (fun i => (i.zero, i.bytes, i.size)) = some (some (.int .u8 0), 1, 1) := by kernel_rfl
theorem make_full (n : Nat) (h : n ≤ 281474976710656) (w : World) : (Instr.makeSlice 44 (.int .i64 (n : Int)) (.int .i64 (n : Int))).run Try.prog w = .ok (.slice (some ⟨w.heap.size, 0, none⟩) n n) (w.alloc (.cells (madeCells #[.int .u8 0] n) 5)) := by
  obtain ⟨i, h1, h0⟩ := Option.map_eq_some_iff.1 byte_info
  have h2 : i.zero = some (.int .u8 0) := congrArg (·.1) h0
  have h3 : i.bytes = 1 := congrArg (·.2.1) h0
  have h4 : i.size = 1 := congrArg (·.2.2) h0
  have := run_make (P := Try.prog) w 44 5 i (.int .u8 0) Try.underlying44 h1 h2 .i64 .i64 (n : Int) (n : Int) (by omega) (by omega) (by rw [h3]; omega) (by omega)
  rw [h4] at this
  simpa [Value.cells] using this
def encQ (l : List Nat) : List Value := l.map fun (b : Nat) => Value.int .u8 (b : Int)
theorem encQ_len (l : List Nat) : (encQ l).length = l.length := by simp [encQ]
theorem encQ_one (l : List Nat) : ∀ u ∈ encQ l, u.oneCell' = true := by intro u hu; simp [encQ] at hu; obtain ⟨x, _, rfl⟩ := hu; rfl
theorem u8_size : (Try.prog.info? 5).map (·.size) = some 1 := by kernel_rfl
theorem made_row (W : World) (n : Nat) : (W.alloc (.cells (madeCells #[.int .u8 0] n) 5)).heap[W.heap.size]? = some (.cells (List.replicate n (Value.int .u8 0)).toArray 5 (0, 0)) := by
  rw [heap_alloc_new, ← toList_madeCells_one, Array.toArray_toList]
theorem txt_news {w : World} {t r : Nat} {hi : Int} {R m : Nat} {P : List Nat} {wx : World} (h : PI w t r hi R (txtF P) wx) (hm : m + P.length = 40) (o : Obj) :
    ∀ j u, (encQ P)[j]? = some u → (wx.alloc o).cell? ((⟨t, m, none⟩ : Addr).add j) = some u := fun j u hu => by
  have hj : j < P.length := by
    rcases Nat.lt_or_ge j P.length with h | h
    · exact h
    · rw [List.getElem?_eq_none (by rw [encQ_len]; exact h)] at hu; cases hu
  have hadd : (⟨t, m, none⟩ : Addr).add j = ⟨t, m + j, none⟩ := by unfold Addr.add; split <;> simp_all
  have h2 := h.l2
  have h3 := h.l3
  rw [hadd, World.cell?_alloc_lt _ _ ⟨t, m + j, none⟩ (by simp; omega), h.tc (m + j) (by omega)]
  simp [encQ, List.getElem?_eq_getElem hj] at hu
  rw [← hu]
  simp only [txtF]
  rw [if_neg (by omega), show m + j - (40 - P.length) = j by omega, List.getD_eq_getElem?_getD, List.getElem?_eq_getElem hj]
  rfl
theorem conv_row (w : World) (g n : Nat) (P : List Nat) (hP : P.length = n) (h : w.heap[g]? = some (.cells (splice (List.replicate n (Value.int .u8 0)) 0 (encQ P)).toArray 5 (0, 0))) :
    (convert 44 9 (.slice (some ⟨g, 0, none⟩) n n)).run Try.prog w = .ok (.string (strOfNums (P.map fun (x : Nat) => (x : Int)))) w := by
  have e : splice (List.replicate n (Value.int .u8 0)) 0 (encQ P) = encQ P := by
    unfold splice; rw [encQ_len, hP]; simp
  rw [e] at h
  refine run_convert_bytes_arg w 44 5 Try.underlying44 Try.underlying5 g 0 n n _ (by simp [hP]) (fun i hi => ?_) 9 Try.underlying9
  rw [Nat.zero_add, cell_of_row w g i _ 5 (0, 0) h]
  have hi' : i < P.length := by omega
  simp [encQ, List.getElem?_eq_getElem hi', List.getD_eq_getElem?_getD]
theorem rest_nz (R : Nat) (h : R ≤ 170141183460469231731687303715884105728) (h0 : R ≠ 0) : ¬ (sH (wr (R : Int)) = 0 ∧ sL (R : Int) = 0) := by unfold sH sL wr; omega
set_option maxRecDepth 100000 in
set_option maxHeartbeats 4000000 in
theorem print_any (hi lo : Int) (h1 : I64 hi) (h2 : U64 lo) (w : World) :
    Calls Try.prog 8 #[.agg #[.int .i64 hi, .int .u64 lo]] w fun e w' => e = .returned (.string (decS (sv hi lo))) ∧ Below w.heap.size w w' := by
  have hV := ab_le hi lo h1 h2
  have hsg := sv_neg hi lo h2
  have hsize := size_any hi lo h1 h2
  skip
  generalize hvv : ab (sv hi lo) = v at *
  obtain ⟨V, rfl⟩ := Int.eq_ofNat_of_zero_le hV.1
  have hV2 : V ≤ 170141183460469231731687303715884105728 := by omega
  have hV3 : V < 10 ^ 39 := by omega
  rw [wr_lo] at hsize
  have hsz' : Hid _ := hsize
  clear hsize
  obtain ⟨W0, hW0⟩ : ∃ W0, W0 = (w.alloc (.cells #[.int .i64 hi, .int .u64 lo] 24)).alloc (.cells (List.replicate 40 (Value.int .u8 0)).toArray 40) := ⟨_, rfl⟩
  have hB0 : Below w.heap.size w W0 := by rw [hW0]; exact below_new (below_new (Below.refl _ _) _) _
  have hz0 : W0.heap.size = w.heap.size + 1 + 1 := by rw [hW0]; simp
  have p0 : W0.cell? ⟨w.heap.size, 0, none⟩ = some (.int .i64 hi) := by rw [hW0]; simp [go_sem]
  have p1 : ∀ j, j < 40 → W0.cell? ⟨w.heap.size + 1, j, none⟩ = some (.int .u8 0) := fun j hj => by
    have hn := heap_alloc_new (w.alloc (.cells #[.int .i64 hi, .int .u64 lo] 24)) (.cells (List.replicate 40 (Value.int .u8 0)).toArray 40)
    have es : (w.alloc (.cells #[.int .i64 hi, .int .u64 lo] 24)).heap.size = w.heap.size + 1 := by simp
    rw [es] at hn
    rw [hW0, cell_of_row _ (w.heap.size + 1) j (List.replicate 40 (Value.int .u8 0)).toArray 40 (0, 0) hn, List.getElem?_toArray, List.getElem?_replicate_of_lt hj]
  have p2 : ∀ j, W0.frozen? ⟨w.heap.size + 1, j, none⟩ = false := fun j => by rw [hW0]; simp [go_sem]
  have hc := hsz'.out W0
  rw [hW0] at hc
  have hcH : Hid _ := hc
  clear hc hsz'
  go_enter Try.func8, Try.ntmps8
  go_wp2_with fail
  refine Calls.mono hcH.out ?_
  rintro e w1 ⟨rfl, B1'⟩
  have B1 : Below W0.heap.size W0 w1 := by rw [hW0]; exact B1'
  clear B1' hcH
  have z1 := B1.size
  have hP : PI w (w.heap.size + 1) w1.heap.size hi V (txtF []) (w1.alloc (.cells #[.int .i64 (sH (wr (V : Int))), .int .u64 (sL (V : Int))] 24)) := by
    refine ⟨?_, by simp [go_sem], by simp [go_sem], by simp [go_sem], by simp [go_sem], fun j hj => ?_, fun j hj => ?_, below_new (below_then hB0 B1) _, by omega, by omega, by simp⟩
    · rw [World.cell?_alloc_lt _ _ ⟨w.heap.size, 0, none⟩ (by simp; omega), B1.cell (by simp; omega)]; exact p0
    · rw [World.cell?_alloc_lt _ _ ⟨w.heap.size + 1, j, none⟩ (by simp; omega), B1.cell (by simp; omega), p1 j hj]; simp [txtF, hj]
    · rw [World.frozen?_alloc_old _ _ ⟨w.heap.size + 1, j, none⟩ (by simp; omega), B1.frozen (by simp; omega)]; exact p2 j
  obtain ⟨r, hr⟩ : ∃ r, r = w1.heap.size := ⟨_, rfl⟩
  rw [← hr] at hP
  clear p0 p1 p2 hW0 hB0
  go_wp2_with fail
  rw [← hr]
  clear hr B1 z1 hz0
  go_loopw [5] (fun c wr' => ∃ (m k R : Nat) (T : List Nat), c = .int .i64 (m : Int) ∧ m + k = 40 ∧ R ≤ V ∧ prS V k R T ∧ PI w (w.heap.size + 1) r hi R (txtF (T.map (48 + ·))) wr') (fun c _ => (intOf c).toNat)
  case atStart => exact ⟨40, 0, V, [], rfl, by omega, by omega, prS_start V hV3, hP⟩
  case round =>
    obtain ⟨m, k, R, T, rfl, hmk, hRV, hS, hI⟩ := hrel
    have a0 := hI.r0
    have a1 := hI.r1
    have l3 := hI.l3
    by_cases hend : R = 0 ∧ k ≠ 0
    · obtain ⟨hR0, hk0⟩ := hend
      have hT := prS_end hS hR0 hk0
      have hkl : T.length = k := hS.1
      have hk39 : k ≤ 39 := hS.2.2.1
      have hlt := hS.2.2.2.1
      subst hR0
      have e0 : sH (Go.Proofs.Ytnfpommplokemaa.wr ((0 : Nat) : Int)) = 0 := by decide
      have e1 : sL ((0 : Nat) : Int) = 0 := by decide
      rw [e0] at a0
      rw [e1] at a1
      have s0 := hI.s0
      have hm40 : ¬ ((m : Int) = 40) := by omega
      have hvv' : Hid _ := hvv
      clear hvv
      by_cases hneg : hi < 0
      · obtain ⟨m', rfl⟩ : ∃ m', m = m' + 1 := ⟨m - 1, by omega⟩
        obtain ⟨n, hn⟩ : ∃ n : Nat, (40 : Int) - (m' : Int) = (n : Int) := ⟨40 - m', by omega⟩
        have hmk2 := make_full n (by omega)
        obtain ⟨P, hPP⟩ : ∃ P, P = 45 :: T.map (48 + ·) := ⟨_, rfl⟩
        have hPIx : PI w (w.heap.size + 1) r hi 0 (txtF P) (wr.setCell ⟨w.heap.size + 1, m', none⟩ (.int .u8 45)) := by
          have h0 := hI.put m' 45 (by omega)
          refine (show PI w (w.heap.size + 1) r hi 0 _ (wr.setCell ⟨w.heap.size + 1, m', none⟩ (.int .u8 45)) from h0).ext fun j hj => ?_
          have hp := txtF_put (T.map (48 + ·)) 45 (by simp; omega) j hj
          rw [List.length_map, show 40 - (T.length + 1) = m' by omega] at hp
          rw [hp, hPP]
        have hPI : Hid _ := hPIx
        have hPlen : Hid (P.length = n ∧ m' + P.length = 40) := by rw [hPP]; simp; exact ⟨by omega, by omega⟩
        have hfin : Hid (decS (sv hi lo) = strOfNums (P.map fun (x : Nat) => (x : Int))) := (show decS (sv hi lo) = _ by unfold decS decT; rw [if_pos (hsg.2 hneg), hvv'.out, Int.toNat_natCast, hPP, hT]; rfl)
        have tc := hI.tc m' (by omega)
        have tf := hI.tf m' (by omega)
        have l3' := hI.l3
        have hm41 : ¬ ((m' : Int) + 1 = 40) := by omega
        clear hI hS hT hkl hlt e0 e1 hRV hPIx hPP
        have q1 : (0 : Int) ≤ (m' : Int) := by omega
        have q2 : (m' : Int) ≤ 40 := by omega
        have q3 : (m' : Int) < 40 := by omega
        have q4 : m' < 40 := by omega
        have hPl := hPlen.out
        have hb9 := hPI.out.b
        have hz9 := hb9.size
        have hrow := made_row (wr.setCell ⟨w.heap.size + 1, m', none⟩ (.int .u8 45)) n
        have hsz9 : (wr.setCell ⟨w.heap.size + 1, m', none⟩ (.int .u8 45)).heap.size = wr.heap.size := by simp
        rw [hsz9] at hrow hz9
        clear hsz9
        have hlenC : (encQ P).length = Nat.min (40 - m') n := by rw [encQ_len, hPl.1, show 40 - m' = n by omega]; exact (Nat.min_self n).symm
        have hfitC : 0 + (encQ P).length ≤ (List.replicate n (Value.int .u8 0)).length := by rw [encQ_len, List.length_replicate]; omega
        have hbC : Below w.heap.size w ((wr.setCell ⟨w.heap.size + 1, m', none⟩ (.int .u8 45)).alloc (.cells (madeCells #[.int .u8 0] n) 5)) := below_new hb9 _
        have hrowH : Hid _ := hrow
        have hbH : Hid _ := hbC
        clear hrow hbC hb9
        go_wp2_with (refine wpList_copy_splice rfl (.tmp 38) (.tmp 40) _ _ rfl 5 Try.underlying44 u8_size _ _ n n (40 - m') (40 - m') rfl rfl wr.heap.size 0 (List.replicate n (Value.int .u8 0)) 5 hrowH.out (encQ P) hlenC (fun _ => ⟨rfl, _, rfl, txt_news hPI.out hPl.2 _⟩) hfitC (encQ_one P) w.heap.size w hbH.out hz9 ?_)
        intro w3 hrow3 B3
        have hconv := conv_row w3 _ n P hPl.1 hrow3.out
        clear hrow3 hmk2
        go_wp2_with fail
        go_ret
        refine ⟨?_, B3⟩
        exact congrArg (fun s => Ending.returned (.string s)) hfin.out.symm
      · obtain ⟨n, hn⟩ : ∃ n : Nat, (40 : Int) - (m : Int) = (n : Int) := ⟨40 - m, by omega⟩
        have hmk2 := make_full n (by omega)
        obtain ⟨P, hPP⟩ : ∃ P, P = T.map (48 + ·) := ⟨_, rfl⟩
        rw [← hPP] at hI
        have hPI : Hid _ := hI
        have hPlen : Hid (P.length = n ∧ m + P.length = 40) := by rw [hPP]; simp; exact ⟨by omega, by omega⟩
        have hfin : Hid (decS (sv hi lo) = strOfNums (P.map fun (x : Nat) => (x : Int))) := (show decS (sv hi lo) = _ by unfold decS decT; rw [if_neg (fun h => hneg (hsg.1 h)), hvv'.out, Int.toNat_natCast, hPP, hT]; rfl)
        clear hI hS hT hkl hlt e0 e1 hRV hPP
        have q1 : (0 : Int) ≤ (m : Int) := by omega
        have q2 : (m : Int) ≤ 40 := by omega
        have hPl := hPlen.out
        have hb9 := hPI.out.b
        have hz9 := hb9.size
        have hrow := made_row (wr) n
        have hlenC : (encQ P).length = Nat.min (40 - m) n := by rw [encQ_len, hPl.1, show 40 - m = n by omega]; exact (Nat.min_self n).symm
        have hfitC : 0 + (encQ P).length ≤ (List.replicate n (Value.int .u8 0)).length := by rw [encQ_len, List.length_replicate]; omega
        have hbC : Below w.heap.size w ((wr).alloc (.cells (madeCells #[.int .u8 0] n) 5)) := below_new hb9 _
        have hrowH : Hid _ := hrow
        have hbH : Hid _ := hbC
        clear hrow hbC hb9
        go_wp2_with (refine wpList_copy_splice rfl (.tmp 38) (.tmp 40) _ _ rfl 5 Try.underlying44 u8_size _ _ n n (40 - m) (40 - m) rfl rfl wr.heap.size 0 (List.replicate n (Value.int .u8 0)) 5 hrowH.out (encQ P) hlenC (fun _ => ⟨rfl, _, rfl, txt_news hPI.out hPl.2 _⟩) hfitC (encQ_one P) w.heap.size w hbH.out hz9 ?_)
        intro w3 hrow3 B3
        have hconv := conv_row w3 _ n P hPl.1 hrow3.out
        clear hrow3 hmk2
        go_wp2_with fail
        go_ret
        refine ⟨?_, B3⟩
        exact congrArg (fun s => Ending.returned (.string s)) hfin.out.symm
    · have hc : R ≠ 0 ∨ k = 0 := by omega
      obtain ⟨hS', hk38⟩ := prS_step hS hc
      obtain ⟨m', rfl⟩ : ∃ m', m = m' + 1 := ⟨m - 1, by omega⟩
      have hTl : T.length = k := hS.1
      have hX : Hid (R ≤ V ∧ m' + 1 + k = 40 ∧ k ≤ 38) := ⟨hRV, hmk, hk38⟩
      have hY : Hid (prS V (k + 1) (R / 10) (R % 10 :: T) ∧ T.length = k ∧ True) := ⟨hS', hTl, trivial⟩
      have hrne : k ≠ 0 → ¬ (sH (Go.Proofs.Ytnfpommplokemaa.wr (R : Int)) = 0 ∧ sL (R : Int) = 0) := fun h0 => rest_nz R (by omega) (by omega)
      have ht0 := tenth_any R (by omega)
      obtain ⟨d, hd⟩ : ∃ d, d = R % 10 := ⟨_, rfl⟩
      obtain ⟨qh, hqh0⟩ : ∃ qh, qh = sH (Go.Proofs.Ytnfpommplokemaa.wr ((R / 10 : Nat) : Int)) := ⟨_, rfl⟩
      obtain ⟨ql, hql0⟩ : ∃ ql, ql = sL ((R / 10 : Nat) : Int) := ⟨_, rfl⟩
      rw [← hd, ← hqh0, ← hql0] at ht0
      have hd10 : d < 10 := by omega
      have hdH : Hid (R % 10 = d) := hd.symm
      have hqh : Hid (qh = sH (Go.Proofs.Ytnfpommplokemaa.wr ((R / 10 : Nat) : Int))) := hqh0
      have hql : Hid (ql = sL ((R / 10 : Nat) : Int)) := hql0
      have e48 : (48 + (d : Int)) % 256 = 48 + (d : Int) := by omega
      have hIH : Hid _ := hI
      obtain ⟨rh, hrh⟩ : ∃ rh, rh = sH (Go.Proofs.Ytnfpommplokemaa.wr (R : Int)) := ⟨_, rfl⟩
      obtain ⟨rl, hrl⟩ : ∃ rl, rl = sL (R : Int) := ⟨_, rfl⟩
      rw [← hrh] at a0 ht0 hrne
      rw [← hrl] at a1 ht0 hrne
      have ht : Hid _ := ht0
      have hm39 : k = 0 → m' = 39 := fun h => by omega
      have hm38 : k ≠ 0 → ¬ ((m' : Int) + 1 = 40) := fun h => by omega
      have hm0 : (0 : Int) ≤ (m' : Int) := by omega
      have hm1 : (m' : Int) < 40 := by omega
      have hm2 : m' < 40 := by omega
      clear hS hS' hk38 hTl hd hqh0 hql0 hI hRV hmk hc hend ht0 hrh hrl
      by_cases hk0 : k = 0
      · obtain rfl := hm39 hk0
        clear hm39 hm38 hrne
        have hk0H : Hid _ := hk0
        clear hk0
        go_wp2_with fail
        refine (ht.out _).mono ?_
        rintro e w2 ⟨rfl, B2⟩
        have hI2 := hIH.out.below B2
        have b0 := hI2.r0
        have b1 := hI2.r1
        have g0 := hI2.g0
        have g1 := hI2.g1
        have l32 := hI2.l3
        have hI3 := hI2.left (R / 10)
        rw [← hqh.out, ← hql.out] at hI3
        have c3 := hI3.tc 39 (by have := hX.out; omega)
        have f3 := hI3.tf 39 (by have := hX.out; omega)
        have l33 := hI3.l3
        have hI3H : Hid _ := hI3
        clear hI2 hI3 a0 a1
        go_wp2_with fail
        go_roundw
        case rel =>
          obtain ⟨x1, x2, x3⟩ := hX.out
          obtain ⟨y1, y2, y3⟩ := hY.out
          refine ⟨39, k + 1, R / 10, R % 10 :: T, rfl, by omega, by omega, y1, ?_⟩
          have hI4 := hI3H.out.put 39 (48 + d) (by omega)
          have e4 : (((48 + d : Nat)) : Int) = 48 + (d : Int) := by omega
          rw [e4] at hI4
          refine hI4.ext fun j hj => ?_
          have hp := txtF_put (T.map (48 + ·)) (48 + d) (by simp; omega) j hj
          rw [List.length_map, show 40 - (T.length + 1) = 39 by omega] at hp
          rw [hp, hdH.out]; rfl
        case measure => simp [intOf] <;> omega
      · have hm41 := hm38 hk0
        have hz := hrne hk0
        clear hm39 hm38 hrne hk0
        by_cases hrh0 : rh = 0
        · have hrl0 : ¬ rl = 0 := fun h => hz ⟨hrh0, h⟩
          subst hrh0
          clear hz
          go_wp2_with fail
          refine (ht.out _).mono ?_
          rintro e w2 ⟨rfl, B2⟩
          have hI2 := hIH.out.below B2
          have b0 := hI2.r0
          have b1 := hI2.r1
          have g0 := hI2.g0
          have g1 := hI2.g1
          have l32 := hI2.l3
          have hI3 := hI2.left (R / 10)
          rw [← hqh.out, ← hql.out] at hI3
          have c3 := hI3.tc m' (by have := hX.out; omega)
          have f3 := hI3.tf m' (by have := hX.out; omega)
          have l33 := hI3.l3
          have hI3H : Hid _ := hI3
          clear hI2 hI3 a0 a1
          go_wp2_with fail
          go_roundw
          case rel =>
            obtain ⟨x1, x2, x3⟩ := hX.out
            obtain ⟨y1, y2, y3⟩ := hY.out
            refine ⟨m', k + 1, R / 10, R % 10 :: T, rfl, by omega, by omega, y1, ?_⟩
            have hI4 := hI3H.out.put m' (48 + d) (by omega)
            have e4 : (((48 + d : Nat)) : Int) = 48 + (d : Int) := by omega
            rw [e4] at hI4
            refine hI4.ext fun j hj => ?_
            have hp := txtF_put (T.map (48 + ·)) (48 + d) (by simp; omega) j hj
            rw [List.length_map, show 40 - (T.length + 1) = m' by omega] at hp
            rw [hp, hdH.out]; rfl
          case measure => simp [intOf] <;> omega
        · clear hz
          go_wp2_with fail
          refine (ht.out _).mono ?_
          rintro e w2 ⟨rfl, B2⟩
          have hI2 := hIH.out.below B2
          have b0 := hI2.r0
          have b1 := hI2.r1
          have g0 := hI2.g0
          have g1 := hI2.g1
          have l32 := hI2.l3
          have hI3 := hI2.left (R / 10)
          rw [← hqh.out, ← hql.out] at hI3
          have c3 := hI3.tc m' (by have := hX.out; omega)
          have f3 := hI3.tf m' (by have := hX.out; omega)
          have l33 := hI3.l3
          have hI3H : Hid _ := hI3
          clear hI2 hI3 a0 a1
          go_wp2_with fail
          go_roundw
          case rel =>
            obtain ⟨x1, x2, x3⟩ := hX.out
            obtain ⟨y1, y2, y3⟩ := hY.out
            refine ⟨m', k + 1, R / 10, R % 10 :: T, rfl, by omega, by omega, y1, ?_⟩
            have hI4 := hI3H.out.put m' (48 + d) (by omega)
            have e4 : (((48 + d : Nat)) : Int) = 48 + (d : Int) := by omega
            rw [e4] at hI4
            refine hI4.ext fun j hj => ?_
            have hp := txtF_put (T.map (48 + ·)) (48 + d) (by simp; omega) j hj
            rw [List.length_map, show 40 - (T.length + 1) = m' by omega] at hp
            rw [hp, hdH.out]; rfl
          case measure => simp [intOf] <;> omega
end Go.Proofs.Ytnfpommplokemaa
