
import Derived.Test.YtpbcbpiolhjlhaaGreatDoorBp18q
import Derived.Test.YtpbcbpiolhjlhaaGreatDoorProg
import Derived.Deep.RegionHeld3
import Derived.KernelRfl
import Derived.Test.YtpbcbpiolhjlhaaGreatDoorApKq
import Derived.Deep.AppendLies
import Derived.OpenShut
import Derived.WalkSmall
import Derived.WalkKit
import Derived.ProofKit
import Derived.BigQuiet
import Derived.WalkLawsBesides
import Derived.Lib.Bytealg
import Derived.Shelf.SlSortCmp.QuietGrown

namespace Go.Proofs.YtpbcbpiolhjlhaaGreatDoor.Bk18
open Go.RowKit
set_option linter.unusedVariables false
set_option linter.unusedSimpArgs false
set_option maxRecDepth 100000
theorem wpList_append_runB {P : Program} {ops : Array Oper} {rest : List Oper} {o : Oper} {a : Act} {Q : Exit → Act → World → Prop} {w : World} (hgd : o.guard = none) (s x : Operand) (t : TypeId)
    (ho : o.op = .call { callee := .builtin .append, args := #[s, x], argTypes := #[t, t] }) (v y v' : Value) (w' : World) (hs : a.eval s = v) (hx : a.eval x = y) (hr : (Builtin.append_ #[t, t] o.type #[v, y]).run P w = .ok v' w')
    (h : wpList P ops Q rest (a.put o.dst v') w') : wpList P ops Q (o :: rest) a w := by
  refine wpList_plain hgd fun K hK => ?_
  unfold Oper.wp execOp
  simp only [ho, resolve, invoke, builtin, Sem.run_bind, Sem.run_pure, Result.andThen_ok, List.map_toArray, List.map_cons, List.map_nil, hs, hx, hr]
  exact hK _ _ h
theorem nums_t (i n : Nat) (h : i < n) (hn : n ≤ 4398046511104) : (0 : Int) ≤ (i : Int) ∧ (i : Int) < (n : Int) ∧ IntKind.i64.wrap ((i : Int) + 1) = ((i + 1 : Nat) : Int) := ⟨by omega, by omega, IntWalk.i64_in _ (by omega)⟩
/-- a mark's number, as it is reckoned. -/
theorem nums_m (i : Nat) (h : i < 4398046511104) : xx i = (.string ⟨#[]⟩, .slice none 0 0, .string ⟨#[]⟩, .int .i64 (-7 - (i : Int)), .int .u8 0, .int .i64 0) ∧ IntKind.i64.wrap (-7 - (i : Int)) = -7 - (i : Int) ∧ wrap64 (-7 - (i : Int)) = -7 - (i : Int) := ⟨rfl, IntWalk.i64_in _ (by omega), IntWalk.wrap64_in _ (by omega)⟩
set_option maxHeartbeats 32000000 in
theorem aloneWrites_any {w : World} {N C m : Nat} {V : Nat → Value} {hv : Value} {Lf : Nat → List EK} (sp : SPV w N C m V hv) (st : AS w N C m V hv Lf w) (hm : m ≤ 4194304) (hn : ∀ j, j < m → (Lf j).length ≤ 268435456) :
    Calls Tryz.prog 49 #[.pointer (some ⟨N, 0, none⟩)] w fun e w' => e = .returned (.bool true) ∧ BF V m w w' := by
  obtain ⟨ah, ch, rfl, hgh⟩ := st.hr.form
  have spH : Hid _ := sp
  have ghH : Hid (0 < m → ∃ hb, ah = some ⟨hb, 0, none⟩) := fun q => by
    obtain ⟨g, e, _⟩ := hgh q
    exact ⟨g, e⟩
  have hnH : Hid _ := hn
  have HC : Hid (∀ G W, AS w N C m V (.slice ah m ch) G W → ∀ hb, ah = some ⟨hb, 0, none⟩ → ∀ i, i < m → W.cell? ⟨hb, i, none⟩ = some (V i)) := fun G W s hb e i hi => by
    obtain ⟨a, c, e1, h2⟩ := s.hr.form
    obtain ⟨g, e3, _, h4⟩ := h2 (by omega)
    injection e1 with q1 _ _
    rw [← q1, e] at e3
    injection e3 with e3
    injection e3 with e3
    subst e3
    exact h4 i hi
  have st0 : Hid (AS w N C m V (.slice ah m ch) (L1 Lf 0 0) w) := ⟨st.cF, st.hr, fun j hj => by rw [L1_start]; exact st.rows j hj, st.bf⟩
  clear sp st hgh hn
  go_enter Tryz.func49, Tryz.ntmps49
  go_wp2_with fail
  go_loopw [3] (fun v3 wr => ∃ (i : Nat), v3 = .int .i64 (i : Int) ∧ i ≤ m ∧ Hid (AS w N C m V (.slice ah m ch) (L1 Lf i 0) wr)) (fun v3 _ => m - (intOf v3).toNat)
  case atStart => exact ⟨0, rfl, Nat.zero_le _, st0⟩
  case round =>
    clear st0
    obtain ⟨i, rfl, hil, hS⟩ := hrel
    have cF := hS.out.cF
    by_cases hi : i < m
    · obtain ⟨i0, iI, iw⟩ := nums_t i m hi (by omega)
      have nn := hnH.out i hi
      obtain ⟨n, hnE⟩ : ∃ n, n = (Lf i).length := ⟨_, rfl⟩
      rw [← hnE] at nn
      have o := hS.out.rows i hi
      obtain ⟨ai, ci, hVi, _, hgi⟩ := o.formO
      rw [L1_len Lf (Nat.zero_le _), ← hnE] at hVi hgi
      have VH : Hid (V i = .slice ai n ci) := hVi
      have LH : Hid (n = (Lf i).length) := hnE
      have giH : Hid (0 < n → ∃ g, ai = some ⟨g, 0, none⟩) := hgi
      obtain ⟨hb, rfl⟩ := ghH.out (by omega)
      clear o hVi hgi hnE
      go_wp2_with fail
      clear cF
      go_loopw [4] (fun v4 wx => ∃ (k : Nat), v4 = .int .i64 (k : Int) ∧ k ≤ n ∧ Hid (AS w N C m V (.slice (some ⟨hb, 0, none⟩) m ch) (L1 Lf i k) wx)) (fun v4 _ => n - (intOf v4).toNat)
      case atStart => exact ⟨0, rfl, Nat.zero_le _, hS⟩
      case round =>
        clear hS
        obtain ⟨k, rfl, hkl, hS⟩ := hrel
        have cF := hS.out.cF
        have hci := HC.out _ _ hS.out hb rfl i hi
        rw [VH.out] at hci
        by_cases hk : k < n
        · obtain ⟨k0, kI, kw⟩ := nums_t k n hk (by omega)
          obtain ⟨g, rfl⟩ := giH.out (by omega)
          obtain ⟨ex, m1, m2⟩ := nums_m i (by omega)
          obtain ⟨⟨y, d0, d1, d2, d3, d4, d5⟩, z0, z1, z2, z3, z4, z5, NX⟩ : (∃ y : EK, wr.cell? ⟨g, k * 6, none⟩ = some y.1 ∧ wr.cell? ⟨g, k * 6 + 1, none⟩ = some y.2.1 ∧ wr.cell? ⟨g, k * 6 + 2, none⟩ = some y.2.2.1 ∧ wr.cell? ⟨g, k * 6 + 3, none⟩ = some y.2.2.2.1 ∧ wr.cell? ⟨g, k * 6 + 4, none⟩ = some y.2.2.2.2.1 ∧ wr.cell? ⟨g, k * 6 + 5, none⟩ = some y.2.2.2.2.2) ∧ wr.frozen? ⟨g, k * 6, none⟩ = false ∧ wr.frozen? ⟨g, k * 6 + 1, none⟩ = false ∧ wr.frozen? ⟨g, k * 6 + 2, none⟩ = false ∧ wr.frozen? ⟨g, k * 6 + 3, none⟩ = false ∧ wr.frozen? ⟨g, k * 6 + 4, none⟩ = false ∧ wr.frozen? ⟨g, k * 6 + 5, none⟩ = false ∧ Hid (AS w N C m V (.slice (some ⟨hb, 0, none⟩) m ch) (L1 Lf i (k + 1)) ((((((wr.setCell ⟨g, k * 6, none⟩ (.string ⟨#[]⟩)).setCell ⟨g, k * 6 + 1, none⟩ (.slice none 0 0)).setCell ⟨g, k * 6 + 2, none⟩ (.string ⟨#[]⟩)).setCell ⟨g, k * 6 + 3, none⟩ (.int .i64 (-7 - (i : Int)))).setCell ⟨g, k * 6 + 4, none⟩ (.int .u8 0)).setCell ⟨g, k * 6 + 5, none⟩ (.int .i64 0))) := by
            have s2 := hS.out
            have ll := L1_len Lf (i := i) (k := k) (by rw [← LH.out]; omega) i
            have o := s2.rows i hi
            rw [VH.out] at o
            have hcs := World.ownsRow.cells o (g := g) rfl
            have hk2 : k < (L1 Lf i k i).length := by rw [ll, ← LH.out]; exact hk
            obtain ⟨g0, g1, g2, g3, g4, g5⟩ := enc_get _ k _ (List.getElem?_eq_getElem hk2)
            have k0_ := hcs _ _ g0
            have k1_ := hcs _ _ g1
            have k2_ := hcs _ _ g2
            have k3_ := hcs _ _ g3
            have k4_ := hcs _ _ g4
            have k5_ := hcs _ _ g5
            rw [add_lt0, Nat.zero_add] at k0_ k1_ k2_ k3_ k4_ k5_
            have fz : ∀ q, wr.frozen? ⟨g, q, none⟩ = false := fun q => by
              obtain ⟨_, _, e3, _⟩ := o.formO
              injection e3 with _ e4 _
              rw [e4] at o
              exact World.ownsRow.frozenAt o q
            refine ⟨⟨_, k0_, k1_, k2_, k3_, k4_, k5_⟩, fz _, fz _, fz _, fz _, fz _, fz _, ?_⟩
            have s3 := s2.put spH.out hi VH.out hk2 (xx i) (L1_set Lf (by rw [← LH.out]; exact hk)).symm (fun j hj q => L1_other Lf q)
            rw [ex] at s3
            exact s3
          clear hS ex
          go_wp2_with fail
          exact ⟨⟨k + 1, by first | rfl | go_num, hk, NX⟩, by first | (simp [intOf]; done) | (simp [intOf]; omega)⟩
        · have hlt : ¬ (k : Int) < (n : Int) := by omega
          have hS2 : Hid (AS w N C m V (.slice (some ⟨hb, 0, none⟩) m ch) (L1 Lf (i + 1) 0) wr) := by
            have s := hS.out
            have e : k = (Lf i).length := by have := LH.out; omega
            exact ⟨s.cF, s.hr, fun j hj => by have := s.rows j hj; rw [e, L1_next] at this; exact this, s.bf⟩
          clear hS
          go_wp2_with fail
          exact ⟨⟨i + 1, by first | rfl | go_num, hi, hS2⟩, by first | (simp [intOf]; done) | (simp [intOf]; omega)⟩
    · have hlt : ¬ (i : Int) < (m : Int) := by omega
      obtain ⟨S0, hS0⟩ : ∃ S0, S0 = wr.heap.size := ⟨_, rfl⟩
      have P0 : Hid (P2 w N C m V (.slice ah m ch) Lf S0 0 V (.slice none 0 0) wr) := by
        have s := hS.out
        have e : i = m := by omega
        refine ⟨⟨s.cF, s.hr, fun j hj => by have := s.rows j hj; rw [e, L1_end Lf hj] at this; exact this, s.bf⟩, fun j hj => by omega, fun j hj => by omega, ⟨rfl, Or.inl ⟨rfl, rfl⟩⟩, fun j hj => by omega, by omega, by rw [hS0]; exact s.bf.size⟩
      have lenV : Hid (∀ (W : World) (G : Nat → List EK), AS w N C m V (.slice ah m ch) G W → ∀ j, j < m → ∃ a c, V j = .slice a (G j).length c ∧ (0 < (G j).length → ∃ g, a = some ⟨g, 0, none⟩)) := fun W G s j hj => by
        obtain ⟨a, c, e, _, h⟩ := (s.rows j hj).formO
        exact ⟨a, c, e, h⟩
      clear hS hS0 hil hi
      go_wp2_with fail
      clear cF
      go_loopw [5, 6] (fun v5 v6 wx => ∃ (i : Nat) (A : Nat → Value), v6 = .int .i64 (i : Int) ∧ i ≤ m ∧ Hid (P2 w N C m V (.slice ah m ch) Lf S0 i A v5 wx)) (fun _ v6 _ => m - (intOf v6).toNat)
      case atStart => exact ⟨0, V, rfl, Nat.zero_le _, P0⟩
      case round =>
        clear P0
        obtain ⟨i, A, rfl, hil, hP⟩ := hrel
        obtain ⟨aa, ca, rfl, hga⟩ := hP.out.ar.form
        have cF := hP.out.st.cF
        by_cases hi : i < m
        · obtain ⟨i0, iI, iw⟩ := nums_t i m hi (by omega)
          have nn := hnH.out i hi
          obtain ⟨hb, rfl⟩ := ghH.out (by omega)
          have hci := HC.out _ _ hP.out.st hb rfl i hi
          obtain ⟨av, cv, hVi, _⟩ := lenV.out _ _ hP.out.st i hi
          have PG0 : Hid (PG w N C m V (.slice (some ⟨hb, 0, none⟩) m ch) Lf S0 i A (.slice aa i ca) wr.heap.size 0 (V i) wr) := PG.start hP.out hi
          rw [hVi] at hci PG0
          clear hP hVi hga
          generalize wr.heap.size = E at PG0
          go_wp2_with fail
          clear cF hci
          go_loopw [7, 8] (fun v7 v8 wx => ∃ (k : Nat), v8 = .int .i64 (k : Int) ∧ k ≤ 20 ∧ Hid (PG w N C m V (.slice (some ⟨hb, 0, none⟩) m ch) Lf S0 i A (.slice aa i ca) E k v7 wx)) (fun _ v8 _ => 20 - (intOf v8).toNat)
          case atStart => exact ⟨0, rfl, by omega, PG0⟩
          case round =>
            clear PG0
            obtain ⟨k, rfl, hkl, hG⟩ := hrel
            obtain ⟨ag, cg, rfl, _, _⟩ := hG.out.go.formO
            by_cases hk : k < 20
            · obtain ⟨k0, kI, kw⟩ := nums_t k 20 hk (by omega)
              have kI2 : (k : Int) < 20 := by omega
              obtain ⟨ex, m1, m2⟩ := nums_m i (by omega)
              obtain ⟨g', w4, hr, pg⟩ := hG.out.grow spH.out hi nn (by omega)
              rw [ex] at hr
              have hrH : Hid (∀ W, W = wr.alloc (.cells #[.string ⟨#[]⟩, .slice none 0 0, .string ⟨#[]⟩, .int .i64 (-7 - (i : Int)), .int .u8 0, .int .i64 0] 76) → (Builtin.append_ #[23, 23] 23 #[.slice ag (rep2 Lf i k).length cg, .slice (some ⟨wr.heap.size, 0, none⟩) 1 1]).run Tryz.prog W = .ok g' w4) := fun W e => by subst e; exact hr
              have pgH : Hid _ := pg
              clear hG hr pg ex
              generalize (rep2 Lf i k).length = ng at *
              go_wp2_with (at_builtin; refine wpList_append_runB (by rfl) _ _ _ (by rfl) _ _ _ _ (by rfl) (by rfl) (hrH.out _ rfl) ?_)
              exact ⟨⟨k + 1, by first | rfl | go_num, by omega, pgH⟩, by first | (simp [intOf]; done) | (simp [intOf]; omega)⟩
            · have hke : k = 20 := by omega
              have hlt2 : ¬ (k : Int) < 20 := by omega
              have PN : Hid (∃ av' w', (Builtin.append_ #[43, 43] 43 #[.slice aa i ca, .slice (some ⟨wr.heap.size, 0, none⟩) 1 1]).run Tryz.prog (wr.alloc (.cells #[.slice ag (rep2 Lf i k).length cg] 23)) = .ok av' w' ∧ P2 w N C m V (.slice (some ⟨hb, 0, none⟩) m ch) Lf S0 (i + 1) (fun j => if j = i then .slice ag (rep2 Lf i k).length cg else A j) av' w') := by
                have := hG.out
                rw [hke] at this ⊢
                exact this.next spH.out hi hm
              obtain ⟨av', w5, hr, p2⟩ := PN.out
              have hrH : Hid (∀ W, W = wr.alloc (.cells #[.slice ag (rep2 Lf i k).length cg] 23) → (Builtin.append_ #[43, 43] 43 #[.slice aa i ca, .slice (some ⟨wr.heap.size, 0, none⟩) 1 1]).run Tryz.prog W = .ok av' w5) := fun W e => by subst e; exact hr
              have p2H : Hid (∃ A', P2 w N C m V (.slice (some ⟨hb, 0, none⟩) m ch) Lf S0 (i + 1) A' av' w5) := ⟨_, p2⟩
              clear PN hr p2 hG hke
              generalize (rep2 Lf i k).length = ng at *
              go_wp2_with (at_builtin; refine wpList_append_runB (by rfl) _ _ _ (by rfl) _ _ _ _ (by rfl) (by rfl) (hrH.out _ rfl) ?_)
              obtain ⟨A', p3⟩ := p2H.out
              exact ⟨⟨i + 1, A', by first | rfl | go_num, hi, p3⟩, by first | (simp [intOf]; done) | (simp [intOf]; omega)⟩
        · have hlt2 : ¬ (i : Int) < (m : Int) := by omega
          obtain rfl : m = i := by omega
          have hcA : Hid (∀ W, P2 w N C m V (.slice ah m ch) Lf S0 m A (.slice aa m ca) W → ∀ j, j < m → ∃ ga aj cj, aa = some ⟨ga, 0, none⟩ ∧ W.cell? ⟨ga, j, none⟩ = some (.slice aj ((Lf j).length + 20) cj) ∧ ∃ g, aj = some ⟨g, 0, none⟩ ∧ ∀ k, k < (Lf j).length + 20 → (W.cell? ⟨g, k * 6, none⟩ = some (xx j).1 ∧ W.cell? ⟨g, k * 6 + 1, none⟩ = some (xx j).2.1 ∧ W.cell? ⟨g, k * 6 + 2, none⟩ = some (xx j).2.2.1 ∧ W.cell? ⟨g, k * 6 + 3, none⟩ = some (xx j).2.2.2.1 ∧ W.cell? ⟨g, k * 6 + 4, none⟩ = some (xx j).2.2.2.2.1 ∧ W.cell? ⟨g, k * 6 + 5, none⟩ = some (xx j).2.2.2.2.2)) := fun W p j hj => by
            obtain ⟨a, c, e1, h2⟩ := p.ar.form
            obtain ⟨ga, e3, _, h4⟩ := h2 (by omega)
            injection e1 with q1 _ _
            have o := p.alls j hj
            have ll : (rep2 Lf j 20).length = (Lf j).length + 20 := by simp [rep2]
            obtain ⟨aj, cj, e5, _, h6⟩ := o.formO
            obtain ⟨g, rfl⟩ := h6 (by omega)
            refine ⟨ga, _, cj, by rw [q1, e3], by rw [h4 j hj, e5, ll], g, rfl, fun k hk => ?_⟩
            rw [e5] at o
            have hcs := World.ownsRow.cells o (g := g) rfl
            obtain ⟨g0, g1, g2, g3, g4, g5⟩ := enc_get _ k _ (get_rep _ (xx j) hk)
            have k0_ := hcs _ _ g0
            have k1_ := hcs _ _ g1
            have k2_ := hcs _ _ g2
            have k3_ := hcs _ _ g3
            have k4_ := hcs _ _ g4
            have k5_ := hcs _ _ g5
            rw [add_lt0, Nat.zero_add] at k0_ k1_ k2_ k3_ k4_ k5_
            exact ⟨k0_, k1_, k2_, k3_, k4_, k5_⟩
          have hcB : Hid (∀ W, P2 w N C m V (.slice ah m ch) Lf S0 m A (.slice aa m ca) W → ∀ j, j < m → ∃ hb aj cj, ah = some ⟨hb, 0, none⟩ ∧ W.cell? ⟨N, 18, none⟩ = some (.slice ah m ch) ∧ W.cell? ⟨hb, j, none⟩ = some (.slice aj (Lf j).length cj) ∧ (0 < (Lf j).length → ∃ g, aj = some ⟨g, 0, none⟩ ∧ ∀ k, k < (Lf j).length → (W.cell? ⟨g, k * 6, none⟩ = some (xx j).1 ∧ W.cell? ⟨g, k * 6 + 1, none⟩ = some (xx j).2.1 ∧ W.cell? ⟨g, k * 6 + 2, none⟩ = some (xx j).2.2.1 ∧ W.cell? ⟨g, k * 6 + 3, none⟩ = some (xx j).2.2.2.1 ∧ W.cell? ⟨g, k * 6 + 4, none⟩ = some (xx j).2.2.2.2.1 ∧ W.cell? ⟨g, k * 6 + 5, none⟩ = some (xx j).2.2.2.2.2))) := fun W p j hj => by
            obtain ⟨hb, eh⟩ := ghH.out (by omega)
            have hc := HC.out _ _ p.st hb eh j hj
            have o := p.st.rows j hj
            have ll : (rep Lf j).length = (Lf j).length := by simp [rep]
            obtain ⟨aj, cj, e5, _, h6⟩ := o.formO
            rw [e5, ll] at hc
            refine ⟨hb, aj, cj, eh, p.st.cF, hc, fun q => ?_⟩
            obtain ⟨g, rfl⟩ := h6 (by omega)
            refine ⟨g, rfl, fun k hk => ?_⟩
            rw [e5] at o
            have hcs := World.ownsRow.cells o (g := g) rfl
            obtain ⟨g0, g1, g2, g3, g4, g5⟩ := enc_get _ k _ (get_rep _ (xx j) hk)
            have k0_ := hcs _ _ g0
            have k1_ := hcs _ _ g1
            have k2_ := hcs _ _ g2
            have k3_ := hcs _ _ g3
            have k4_ := hcs _ _ g4
            have k5_ := hcs _ _ g5
            rw [add_lt0, Nat.zero_add] at k0_ k1_ k2_ k3_ k4_ k5_
            exact ⟨k0_, k1_, k2_, k3_, k4_, k5_⟩
          have hP3 : Hid _ := hP
          clear hP hga HC lenV hil hi ghH
          go_wp2_with fail
          clear cF
          go_loopw [9] (fun v9 wx => ∃ (i : Nat), v9 = .int .i64 (i : Int) ∧ i ≤ m ∧ Hid (P2 w N C m V (.slice ah m ch) Lf S0 m A (.slice aa m ca) wx)) (fun v9 _ => m - (intOf v9).toNat)
          case atStart => exact ⟨0, rfl, Nat.zero_le _, hP3⟩
          case round =>
            clear hP3
            obtain ⟨i, rfl, hil, hP⟩ := hrel
            by_cases hi : i < m
            · obtain ⟨i0, iI, iw⟩ := nums_t i m hi (by omega)
              have nn := hnH.out i hi
              obtain ⟨n, hnE⟩ : ∃ n, n = (Lf i).length := ⟨_, rfl⟩
              have FA : Hid (∀ W, P2 w N C m V (.slice ah m ch) Lf S0 m A (.slice aa m ca) W → ∃ ga aj cj, aa = some ⟨ga, 0, none⟩ ∧ W.cell? ⟨ga, i, none⟩ = some (.slice aj (n + 20) cj) ∧ ∃ g, aj = some ⟨g, 0, none⟩ ∧ ∀ k, k < n + 20 → (W.cell? ⟨g, k * 6, none⟩ = some (xx i).1 ∧ W.cell? ⟨g, k * 6 + 1, none⟩ = some (xx i).2.1 ∧ W.cell? ⟨g, k * 6 + 2, none⟩ = some (xx i).2.2.1 ∧ W.cell? ⟨g, k * 6 + 3, none⟩ = some (xx i).2.2.2.1 ∧ W.cell? ⟨g, k * 6 + 4, none⟩ = some (xx i).2.2.2.2.1 ∧ W.cell? ⟨g, k * 6 + 5, none⟩ = some (xx i).2.2.2.2.2)) := fun W p => by rw [hnE]; exact hcA.out W p i hi
              have FB : Hid (∀ W, P2 w N C m V (.slice ah m ch) Lf S0 m A (.slice aa m ca) W → ∃ hb aj cj, ah = some ⟨hb, 0, none⟩ ∧ W.cell? ⟨N, 18, none⟩ = some (.slice ah m ch) ∧ W.cell? ⟨hb, i, none⟩ = some (.slice aj n cj) ∧ (0 < n → ∃ g, aj = some ⟨g, 0, none⟩ ∧ ∀ k, k < n → (W.cell? ⟨g, k * 6, none⟩ = some (xx i).1 ∧ W.cell? ⟨g, k * 6 + 1, none⟩ = some (xx i).2.1 ∧ W.cell? ⟨g, k * 6 + 2, none⟩ = some (xx i).2.2.1 ∧ W.cell? ⟨g, k * 6 + 3, none⟩ = some (xx i).2.2.2.1 ∧ W.cell? ⟨g, k * 6 + 4, none⟩ = some (xx i).2.2.2.2.1 ∧ W.cell? ⟨g, k * 6 + 5, none⟩ = some (xx i).2.2.2.2.2))) := fun W p => by rw [hnE]; exact hcB.out W p i hi
              rw [← hnE] at nn
              clear hnE
              obtain ⟨ex, m1, m2⟩ := nums_m i (by omega)
              rw [ex] at FA FB
              clear ex
              go_wp2_with fail
              go_loopw [10] (fun v10 wx => ∃ (k : Nat), v10 = .int .i64 (k : Int) ∧ k ≤ n + 20 ∧ Hid (P2 w N C m V (.slice ah m ch) Lf S0 m A (.slice aa m ca) wx)) (fun v10 _ => n + 20 - (intOf v10).toNat)
              case atStart => exact ⟨0, rfl, Nat.zero_le _, hP⟩
              case round =>
                clear hP
                obtain ⟨k, rfl, hkl, hP⟩ := hrel
                obtain ⟨ga, aj, cj, rfl, e1, g, rfl, e2⟩ := FA.out wr hP.out
                by_cases hk : k < n + 20
                · obtain ⟨k0, kI, kw⟩ := nums_t k (n + 20) hk (by omega)
                  obtain ⟨f0, f1, f2, f3, f4, f5⟩ := e2 k hk
                  have hP2 : Hid (P2 w N C m V (.slice ah m ch) Lf S0 m A (.slice (some ⟨ga, 0, none⟩) m ca) (wr.alloc (.cells #[.string ⟨#[]⟩, .slice none 0 0, .string ⟨#[]⟩, .int .i64 (-7 - (i : Int)), .int .u8 0, .int .i64 0] 76))) := hP.out.below spH.out ((Below.refl _ wr).alloc (Nat.le_refl _) _)
                  clear e2 hP
                  go_wp2_with fail
                  exact ⟨⟨k + 1, by first | rfl | go_num, by omega, hP2⟩, by first | (simp [intOf]; done) | (simp [intOf]; omega)⟩
                · have hlt3 : ¬ (k : Int) < ((n + 20 : Nat) : Int) := by omega
                  clear e2
                  go_wp2_with fail
                  clear e1
                  go_loopw [12] (fun v12 wx => ∃ (q : Nat), v12 = .int .i64 (q : Int) ∧ q ≤ n ∧ Hid (P2 w N C m V (.slice ah m ch) Lf S0 m A (.slice (some ⟨ga, 0, none⟩) m ca) wx)) (fun v12 _ => n - (intOf v12).toNat)
                  case atStart => exact ⟨0, rfl, Nat.zero_le _, hP⟩
                  case round =>
                    clear hP
                    obtain ⟨q, rfl, hql, hP⟩ := hrel
                    obtain ⟨hb, aj2, cj2, rfl, e0, e1, e2⟩ := FB.out wr hP.out
                    by_cases hq : q < n
                    · obtain ⟨q0, qI, qw⟩ := nums_t q n hq (by omega)
                      obtain ⟨g2, rfl, e5⟩ := e2 (by omega)
                      obtain ⟨f0, f1, f2, f3, f4, f5⟩ := e5 q hq
                      have hP2 : Hid (P2 w N C m V (.slice (some ⟨hb, 0, none⟩) m ch) Lf S0 m A (.slice (some ⟨ga, 0, none⟩) m ca) (wr.alloc (.cells #[.string ⟨#[]⟩, .slice none 0 0, .string ⟨#[]⟩, .int .i64 (-7 - (i : Int)), .int .u8 0, .int .i64 0] 76))) := hP.out.below spH.out ((Below.refl _ wr).alloc (Nat.le_refl _) _)
                      clear e2 e5 hP
                      go_wp2_with fail
                      exact ⟨⟨q + 1, by first | rfl | go_num, hq, hP2⟩, by first | (simp [intOf]; done) | (simp [intOf]; omega)⟩
                    · have hlt4 : ¬ (q : Int) < (n : Int) := by omega
                      clear e2
                      go_wp2_with fail
                      exact ⟨⟨i + 1, by first | rfl | go_num, hi, hP⟩, by first | (simp [intOf]; done) | (simp [intOf]; omega)⟩
            · have hlt5 : ¬ (i : Int) < (m : Int) := by omega
              have fin : Hid (BF V m w wr) := hP.out.st.bf
              clear hP
              go_wp2_with fail
              go_ret
              exact ⟨rfl, fin.out⟩
end Go.Proofs.YtpbcbpiolhjlhaaGreatDoor.Bk18


namespace Go.Proofs.YtpbcbpiolhjlhaaGreatDoor
/-! ### short names, for claims that are long -/
theorem z1 {α : Type} {xs : List α} {i : Nat} (h : i < xs.toArray.size) : xs.toArray[i] = xs[i]'(by simpa using h) := List.getElem_toArray h
theorem z2 {α : Type} {a : α} {ls : List α} {i : Nat} (h : i + 1 < (a :: ls).length) : (a :: ls)[i + 1] = ls[i]'(Nat.lt_of_succ_lt_succ h) := rfl
theorem z3 {α : Type} {a : α} {ls : List α} (h : 0 < (a :: ls).length) : (a :: ls)[0] = a := rfl
theorem z4 {α : Type} (l : List α) (i : Nat) (a : α) : l.toArray.setIfInBounds i a = (l.set i a).toArray := List.setIfInBounds_toArray l i a
theorem z5 {α : Type} {x : α} {xs : List α} {a : α} : (x :: xs).set 0 a = a :: xs := rfl
theorem z6 {α : Type} {x : α} {xs : List α} {i : Nat} {a : α} : (x :: xs).set (i + 1) a = x :: xs.set i a := rfl
theorem zT (i : Nat) {P : Program} {ops : Array Oper} {Q : Exit → Act → World → Prop} {md : Region.Mode} {S : World → Prop} {oi : Oper} {v : Value} {fuel : Nat} {listed : Array Bool} {a : Act} {w : World} (hi : ops[i]? = some oi)
    (hy : ∀ w, S w → (execOp a.eval oi).run P w = .ok (.value v) w)
    (h : wpAnyH P md ops Q S fuel (listed.setIfInBounds i true) (a.put oi.dst v) w)
    (hQ : ∀ c a w, Q (.panic c) (a.put oi.dst v) w → Q (.panic c) a w := by exact fun _ _ _ h => h)
    (hw : Region.wanted oi (yielded ops a.tmps) = true := by rfl)
    (hs : Region.noSelect ops = true := by kernel_rfl) (hf : Region.free md ops listed i = true := by kernel_rfl) (hr : (Region.ready md ops listed).contains i = true := by kernel_rfl)
    (hS : S w := by assumption) : wpAnyH P md ops Q S (fuel + 1) listed a w :=
  wpAnyH_take hi hs hf hr hQ (Or.inl ⟨hw, hy⟩) hS h
end Go.Proofs.YtpbcbpiolhjlhaaGreatDoor


namespace Go.Proofs.YtpbcbpiolhjlhaaGreatDoor.Tx
open Go.RowKit
set_option linter.unusedVariables false
set_option linter.unusedSimpArgs false
set_option maxRecDepth 100000
def GR (W w' : World) : Prop := ∃ q os, w' = Sort.grow (W.drewN q) os
theorem GR.refl (W : World) : GR W W := ⟨0, #[], by rw [Sort.grow_empty]; rfl⟩
theorem GR.trans {W w1 w2 : World} (h : GR W w1) (k : GR w1 w2) : GR W w2 := by
  obtain ⟨q, os, rfl⟩ := h
  obtain ⟨p, os', rfl⟩ := k
  exact ⟨q + p, os ++ os', by show Sort.grow (Sort.grow ((W.drewN q).drewN p) os) os' = _; rw [Sort.grow_grow, World.drewN_drewN]⟩
theorem GR.alloc {W w1 : World} (h : GR W w1) (o : Obj) : GR W (w1.alloc o) := h.trans ⟨0, #[o], by rw [Sort.alloc_eq_grow]; rfl⟩
theorem GR.below {W w' : World} (h : GR W w') : Below W.heap.size W w' := by
  obtain ⟨q, os, rfl⟩ := h
  refine ⟨rfl, rfl, rfl, by simp [Sort.grow, World.drewN], fun k hk => ?_⟩
  show (W.heap ++ os)[k]? = W.heap[k]?
  rw [Array.getElem?_append_left hk]
/-- the mark of a number. -/
def mkT (i : Nat) : ByteArray := ⟨#[109, 97, 114, 107, 32, UInt8.ofNat (97 + i % 26), UInt8.ofNat (97 + i / 26 % 26), UInt8.ofNat (97 + i / 676 % 26)]⟩
theorem u8_of (a : Nat) (h : a < 26) : ((UInt8.ofNat (97 + a)).toNat : Int) = 97 + (a : Int) := by
  rw [UInt8.toNat_ofNat_of_lt' (by simp [UInt8.size]; omega)]; omega
theorem conv_mk (w : World) (a b c : Nat) (ha : a < 26) (hb : b < 26) (hc : c < 26) : (convert 122 9 (.slice (some ⟨w.heap.size, 0, none⟩) 3 3)).run Tryz.prog (w.alloc (.cells #[.int .u8 (97 + (a : Int)), .int .u8 (97 + (b : Int)), .int .u8 (97 + (c : Int))] 5)) = .ok (.string ⟨#[UInt8.ofNat (97 + a), UInt8.ofNat (97 + b), UInt8.ofNat (97 + c)]⟩) (w.alloc (.cells #[.int .u8 (97 + (a : Int)), .int .u8 (97 + (b : Int)), .int .u8 (97 + (c : Int))] 5)) := by
  have ea := u8_of a ha
  have eb := u8_of b hb
  have ec := u8_of c hc
  have := run_convert_bytes_back (P := Tryz.prog) (w.alloc (.cells #[.int .u8 (97 + (a : Int)), .int .u8 (97 + (b : Int)), .int .u8 (97 + (c : Int))] 5)) 122 9 5 ⟨w.heap.size, 0, none⟩ 3 [UInt8.ofNat (97 + a), UInt8.ofNat (97 + b), UInt8.ofNat (97 + c)] Tryz.underlying122 Tryz.underlying5 Tryz.underlying9 (fun j hj => by
    have : j = 0 ∨ j = 1 ∨ j = 2 := by simp at hj; omega
    rcases this with rfl | rfl | rfl
    · show _ = some (Value.int .u8 ((UInt8.ofNat (97 + a)).toNat : Int)); rw [ea]; simp [go_sem, Addr.add]
    · show _ = some (Value.int .u8 ((UInt8.ofNat (97 + b)).toNat : Int)); rw [eb]; simp [go_sem, Addr.add]
    · show _ = some (Value.int .u8 ((UInt8.ofNat (97 + c)).toNat : Int)); rw [ec]; simp [go_sem, Addr.add])
  exact this
theorem tx1 (a : Nat) (h : a ≤ 4398046511104) : IntKind.i64.wrap (a : Int) = (a : Int) ∧ wrap64 (a : Int) = (a : Int) := ⟨IntWalk.i64_in _ (by omega), IntWalk.wrap64_in _ (by omega)⟩
theorem tx2 (a : Nat) (h : a < 26) : IntKind.i64.wrap (97 + (a : Int)) = 97 + (a : Int) ∧ IntKind.u8.wrap (97 + (a : Int)) = 97 + (a : Int) := ⟨IntWalk.i64_in _ (by omega), by rw [IntKind.wrap_u8]; omega⟩
theorem text_any (i : Nat) (hi : i ≤ 4398046511104) (w : World) : Calls Tryz.prog 81 #[.int .i64 (i : Int)] w fun e w' => e = .returned (.string (mkT i)) ∧ GR w w' := by
  obtain ⟨a, ea⟩ : ∃ a, a = i % 26 := ⟨_, rfl⟩
  obtain ⟨b, eb⟩ : ∃ b, b = i / 26 % 26 := ⟨_, rfl⟩
  obtain ⟨c, ec⟩ : ∃ c, c = i / 676 % 26 := ⟨_, rfl⟩
  obtain ⟨p, ep⟩ : ∃ p, p = i / 26 := ⟨_, rfl⟩
  obtain ⟨q, eq⟩ : ∃ q, q = i / 676 := ⟨_, rfl⟩
  have ha : a < 26 := by omega
  have hb : b < 26 := by omega
  have hc : c < 26 := by omega
  have hp : p ≤ i := by omega
  have hq : q ≤ i := by omega
  obtain ⟨w1, v1⟩ := tx1 a (Nat.le_trans (Nat.le_of_lt ha) (by decide))
  obtain ⟨w2, v2⟩ := tx1 b (Nat.le_trans (Nat.le_of_lt hb) (by decide))
  obtain ⟨w3, v3⟩ := tx1 c (Nat.le_trans (Nat.le_of_lt hc) (by decide))
  obtain ⟨w4, v4⟩ := tx1 p (Nat.le_trans hp hi)
  obtain ⟨w5, v5⟩ := tx1 q (Nat.le_trans hq hi)
  obtain ⟨x1, y1⟩ := tx2 a ha
  obtain ⟨x2, y2⟩ := tx2 b hb
  obtain ⟨x3, y3⟩ := tx2 c hc
  have m1 : (i : Int).tmod 26 = (a : Int) := by rw [Int.tmod_eq_emod_of_nonneg (Int.natCast_nonneg _), ea]; rfl
  have m2 : (i : Int).tdiv 26 = (p : Int) := by rw [ep]; rfl
  have m3 : (i : Int).tdiv 676 = (q : Int) := by rw [eq]; rfl
  have m4 : (p : Int).tmod 26 = (b : Int) := by rw [Int.tmod_eq_emod_of_nonneg (Int.natCast_nonneg _), eb, ep]; rfl
  have m5 : (q : Int).tmod 26 = (c : Int) := by rw [Int.tmod_eq_emod_of_nonneg (Int.natCast_nonneg _), ec, eq]; rfl
  have cv := conv_mk w a b c ha hb hc
  have hm : Hid (mkT i = ⟨#[109, 97, 114, 107, 32, UInt8.ofNat (97 + a), UInt8.ofNat (97 + b), UInt8.ofNat (97 + c)]⟩) := by show _ = _; unfold mkT; rw [ea, eb, ec]
  rw [hm.out]
  clear ea eb ec ep eq hp hq hm ha hb hc hi
  generalize UInt8.ofNat (97 + a) = ua at *
  generalize UInt8.ofNat (97 + b) = ub at *
  generalize UInt8.ofNat (97 + c) = uc at *
  go_enter Tryz.func81, Tryz.ntmps81
  go_wp2_with fail
  go_ret
  exact ⟨rfl, (GR.refl w).alloc _⟩
end Go.Proofs.YtpbcbpiolhjlhaaGreatDoor.Tx
