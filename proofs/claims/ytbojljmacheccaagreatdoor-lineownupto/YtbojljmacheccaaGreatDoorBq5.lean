
import Derived.Test.YtbojljmacheccaaGreatDoorZz
import Derived.Test.YtbojljmacheccaaGreatDoorBp5
import Derived.Deep.RegionHeld3
namespace Go.Proofs.YtbojljmacheccaaGreatDoor.Bk5
open Go.RowKit
set_option linter.unusedVariables false
set_option linter.unusedSimpArgs false
set_option maxRecDepth 100000
theorem wpList_append_runB {P : Program} {ops : Array Oper} {rest : List Oper} {o : Oper} {a : Act} {Q : Exit → Act → World → Prop} {w : World} (hgd : o.guard = none) (s x : Operand) (t : TypeId)
    (ho : o.op = .call { callee := .builtin .append, args := #[s, x], argTypes := #[t, t] }) (v y v' : Value) (w' : World) (hs : a.eval s = v) (hx : a.eval x = y) (hr : (Builtin.append_ #[t, t] o.type #[v, y]).run P w = .ok v' w')
    (h : wpList P ops Q rest (a.put o.dst v') w') : wpList P ops Q (o :: rest) a w := by
  refine wpList_plain hgd fun K hK => ?_
  unfold Oper.wp execOp
  simp only [ho, resolve, invoke, builtin, Sem.run_bind, Sem.run_pure, Result.andThen_ok, List.map_toArray, List.map_cons, List.map_nil, hs, hx, hr]
  exact hK _ _ h
theorem nums_t (i n : Nat) (h : i < n) (hn : n ≤ 4398046511104) : (0 : Int) ≤ (i : Int) ∧ (i : Int) < (n : Int) ∧ IntKind.i64.wrap ((i : Int) + 1) = ((i + 1 : Nat) : Int) := ⟨by omega, by omega, IntWalk.i64_in _ (by omega)⟩
set_option maxHeartbeats 32000000 in
theorem aloneTags_any {w : World} {N C m : Nat} {V : Nat → Value} {hv : Value} {Lf : Nat → List E2} (sp : SPV w N C m V hv) (st : AS w N C m V hv Lf w) (hm : m ≤ 4194304) (hn : ∀ j, j < m → (Lf j).length ≤ 268435456) :
    Calls Tryz.prog 55 #[.pointer (some ⟨N, 0, none⟩)] w fun e w' => e = .returned (.bool true) ∧ BF V m w w' := by
  obtain ⟨ah, ch, rfl, hgh⟩ := st.hr.form
  have spH : Hid _ := sp
  have ghH : Hid (0 < m → ∃ hb, ah = some ⟨hb, 0, none⟩) := fun q => by
    obtain ⟨g, e, _⟩ := hgh q
    exact ⟨g, e⟩
  have hnH : Hid _ := hn
  have mixed : Tryz.prog.follows .mixedOrders = true := by kernel_rfl
  have eg : ∀ args w, (callFunc 100 args).run Tryz.prog w = .ok (.enter 100 args) w := enters_of Tryz.func100 (by kernel_rfl) rfl
  have HC : Hid (∀ G W, AS w N C m V (.slice ah m ch) G W → ∀ hb, ah = some ⟨hb, 0, none⟩ → ∀ i, i < m → W.cell? ⟨hb, i, none⟩ = some (V i)) := fun G W s hb e i hi => by
    obtain ⟨a, c, e1, h2⟩ := s.hr.form
    obtain ⟨g, e3, _, h4⟩ := h2 (by omega)
    injection e1 with q1 _ _
    rw [← q1, e] at e3
    injection e3 with e3
    injection e3 with e3
    subst e3
    exact h4 i hi
  have st0 : Hid (AS w N C m V (.slice ah m ch) (L1 Lf 0 0) w) := ⟨st.cF, st.hr, fun j hj => by rw [L1_start]; exact st.rows j hj, st.bf⟩
  clear sp st hgh hn
  go_enter Tryz.func55, Tryz.ntmps55
  go_wp2_with fail
  go_loopw [3] (fun v3 wr => ∃ (i : Nat), v3 = .int .i64 (i : Int) ∧ i ≤ m ∧ Hid (AS w N C m V (.slice ah m ch) (L1 Lf i 0) wr)) (fun v3 _ => m - (intOf v3).toNat)
  case atStart => exact ⟨0, rfl, Nat.zero_le _, st0⟩
  case round =>
    clear st0
    obtain ⟨i, rfl, hil, hS⟩ := hrel
    have cF := hS.out.cF
    by_cases hi : i < m
    · obtain ⟨i0, iI, iw⟩ := nums_t i m hi (by omega)
      have nn := hnH.out i hi
      obtain ⟨n, hnE⟩ : ∃ n, n = (Lf i).length := ⟨_, rfl⟩
      rw [← hnE] at nn
      have o := hS.out.rows i hi
      obtain ⟨ai, ci, hVi, _, hgi⟩ := o.formO
      rw [L1_len Lf (Nat.zero_le _), ← hnE] at hVi hgi
      have VH : Hid (V i = .slice ai n ci) := hVi
      have LH : Hid (n = (Lf i).length) := hnE
      have giH : Hid (0 < n → ∃ g, ai = some ⟨g, 0, none⟩) := hgi
      obtain ⟨hb, rfl⟩ := ghH.out (by omega)
      clear o hVi hgi hnE
      go_wp2_with fail
      clear cF
      go_loopw [4] (fun v4 wx => ∃ (k : Nat), v4 = .int .i64 (k : Int) ∧ k ≤ n ∧ Hid (AS w N C m V (.slice (some ⟨hb, 0, none⟩) m ch) (L1 Lf i k) wx)) (fun v4 _ => n - (intOf v4).toNat)
      case atStart => exact ⟨0, rfl, Nat.zero_le _, hS⟩
      case round =>
        clear hS
        obtain ⟨k, rfl, hkl, hS⟩ := hrel
        have cF := hS.out.cF
        have hci := HC.out _ _ hS.out hb rfl i hi
        rw [VH.out] at hci
        by_cases hk : k < n
        · obtain ⟨k0, kI, kw⟩ := nums_t k n hk (by omega)
          obtain ⟨g, rfl⟩ := giH.out (by omega)
          have bD : Below wr.heap.size wr wr.drew := (Below.refl _ wr).drew
          have CT : Hid (Calls Tryz.prog 100 #[.int .i64 (i : Int)] wr.drew fun e w' => e = .returned (.string (Tx.mkT i)) ∧ Below wr.heap.size wr w') := (Tx.text_any i (by omega) wr.drew).mono fun e w' hh => ⟨hh.1, below_trans bD hh.2.below⟩
          have S0 : Hid (∀ W, Below wr.heap.size wr W → W.cell? ⟨N, 5, none⟩ = some (.slice (some ⟨hb, 0, none⟩) m ch) ∧ W.cell? ⟨hb, i, none⟩ = some (.slice (some ⟨g, 0, none⟩) n ci)) := fun W hW => by
            have s2 := hS.out.below spH.out hW
            exact ⟨s2.cF, by have := HC.out _ _ s2 hb rfl i hi; rw [VH.out] at this; exact this⟩
          have NX : Hid (∀ W, Below wr.heap.size wr W → (∃ y : E2, W.cell? ⟨g, k * 2, none⟩ = some y.1 ∧ W.cell? ⟨g, k * 2 + 1, none⟩ = some y.2) ∧ W.frozen? ⟨g, k * 2, none⟩ = false ∧ W.frozen? ⟨g, k * 2 + 1, none⟩ = false ∧ ∀ W2, W2 = (W.setCell ⟨g, k * 2, none⟩ (.string (Tx.mkT i))).setCell ⟨g, k * 2 + 1, none⟩ (.string ⟨#[]⟩) → (W2.cell? ⟨N, 5, none⟩ = some (.slice (some ⟨hb, 0, none⟩) m ch) ∧ W2.cell? ⟨hb, i, none⟩ = some (.slice (some ⟨g, 0, none⟩) n ci)) ∧ AS w N C m V (.slice (some ⟨hb, 0, none⟩) m ch) (L1 Lf i (k + 1)) W2) := fun W hW => by
            have s2 := hS.out.below spH.out hW
            have ll := L1_len Lf (i := i) (k := k) (by rw [← LH.out]; omega) i
            have o := s2.rows i hi
            rw [VH.out] at o
            have hcs := World.ownsRow.cells o (g := g) rfl
            obtain ⟨e1, e2⟩ := enc_get _ k _ (List.getElem?_eq_getElem (l := L1 Lf i k i) (i := k) (by rw [ll, ← LH.out]; exact hk))
            have k1 := hcs _ _ e1
            have k2 := hcs _ _ e2
            rw [add_lt0, Nat.zero_add] at k1 k2
            have fz : ∀ q, W.frozen? ⟨g, q, none⟩ = false := fun q => by
              obtain ⟨_, _, e3, _⟩ := o.formO
              injection e3 with _ e4 _
              rw [e4] at o
              exact World.ownsRow.frozenAt o q
            refine ⟨⟨_, k1, k2⟩, fz _, fz _, fun W2 e => ?_⟩
            have s3 := s2.put spH.out hi VH.out (by rw [ll, ← LH.out]; exact hk) (xx i) (L1_set Lf (by rw [← LH.out]; exact hk)).symm (fun j hj q => L1_other Lf q)
            have e' : W2 = (W.setCell ⟨g, k * 2, none⟩ (xx i).1).setCell ⟨g, k * 2 + 1, none⟩ (xx i).2 := e
            rw [← e'] at s3
            exact ⟨⟨s3.cF, by have := HC.out _ _ s3 hb rfl i hi; rw [VH.out] at this; exact this⟩, s3⟩
          have sS : Hid _ := S0.out wr.drew bD
          clear hS bD
          go_wp2_with fail
          clear cF hci
          refine wp_region_noPanic ?_
          refine wp_region_held_drew (S := fun W => W.cell? ⟨N, 5, none⟩ = some (.slice (some ⟨hb, 0, none⟩) m ch) ∧ W.cell? ⟨hb, i, none⟩ = some (.slice (some ⟨g, 0, none⟩) n ci)) (by kernel_rfl) sS.out (fun hHeld => ?_)
          refine zT 0 (v := ?_) rfl ?_ ?_
          rotate_left 1
          · (intro w0 hSw; (try dsimp only at hSw); obtain ⟨s1, s2⟩ := hSw; go_simp; try with_reducible rfl)
          (try simp only [z1, z2, z3]); (try simp only [Act.put, z4, z5, z6])
          refine zT 1 (v := ?_) rfl ?_ ?_
          rotate_left 1
          · (intro w0 hSw; (try dsimp only at hSw); obtain ⟨s1, s2⟩ := hSw; go_simp; try with_reducible rfl)
          (try simp only [z1, z2, z3]); (try simp only [Act.put, z4, z5, z6])
          refine zT 2 (v := ?_) rfl ?_ ?_
          rotate_left 1
          · (intro w0 hSw; (try dsimp only at hSw); obtain ⟨s1, s2⟩ := hSw; go_simp; try with_reducible rfl)
          (try simp only [z1, z2, z3]); (try simp only [Act.put, z4, z5, z6])
          refine zT 3 (v := ?_) rfl ?_ ?_
          rotate_left 1
          · (intro w0 hSw; (try dsimp only at hSw); obtain ⟨s1, s2⟩ := hSw; go_simp; try with_reducible rfl)
          (try simp only [z1, z2, z3]); (try simp only [Act.put, z4, z5, z6])
          refine zT 4 (v := ?_) rfl ?_ ?_
          rotate_left 1
          · (intro w0 hSw; (try dsimp only at hSw); obtain ⟨s1, s2⟩ := hSw; go_simp; try with_reducible rfl)
          (try simp only [z1, z2, z3]); (try simp only [Act.put, z4, z5, z6])
          refine zT 5 (v := ?_) rfl ?_ ?_
          rotate_left 1
          · (intro w0 hSw; (try dsimp only at hSw); obtain ⟨s1, s2⟩ := hSw; go_simp; try with_reducible rfl)
          (try simp only [z1, z2, z3]); (try simp only [Act.put, z4, z5, z6])
          refine zT 6 (v := ?_) rfl ?_ ?_
          rotate_left 1
          · (intro w0 hSw; (try dsimp only at hSw); obtain ⟨s1, s2⟩ := hSw; go_simp; try with_reducible rfl)
          (try simp only [z1, z2, z3]); (try simp only [Act.put, z4, z5, z6])
          refine zT 7 (v := ?_) rfl ?_ ?_
          rotate_left 1
          · (intro w0 hSw; (try dsimp only at hSw); obtain ⟨s1, s2⟩ := hSw; go_simp; try with_reducible rfl)
          (try simp only [z1, z2, z3]); (try simp only [Act.put, z4, z5, z6])
          refine zT 8 (v := ?_) rfl ?_ ?_
          rotate_left 1
          · (intro w0 hSw; (try dsimp only at hSw); obtain ⟨s1, s2⟩ := hSw; go_simp; try with_reducible rfl)
          (try simp only [z1, z2, z3]); (try simp only [Act.put, z4, z5, z6])
          refine wpAnyH_ready (rs := [9]) (by kernel_rfl) (by simp) ?_
          refine AllReadyH.cons (o := _) rfl (fun K1 hK => ?_) AllReadyH.nil
          go_simp
          refine Calls.mono CT.out ?_
          rintro e w3 ⟨rfl, b3⟩
          obtain ⟨⟨y, d0, d1⟩, z0, z1, NX2⟩ := NX.out w3 b3
          have NXH : Hid _ := NX2
          try dsimp only
          refine hK _ _ (S0.out w3 b3) (fun hHeld => ?_)
          clear hK K1 b3 CT NX2 NX
          (try simp only [z1, z2, z3]); (try simp only [Act.put, z4, z5, z6])
          refine zT 10 (v := ?_) rfl ?_ ?_
          rotate_left 1
          · (intro w0 hSw; (try dsimp only at hSw); obtain ⟨s1, s2⟩ := hSw; go_simp; try with_reducible rfl)
          (try simp only [z1, z2, z3]); (try simp only [Act.put, z4, z5, z6])
          refine zT 11 (v := ?_) rfl ?_ ?_
          rotate_left 1
          · (intro w0 hSw; (try dsimp only at hSw); obtain ⟨s1, s2⟩ := hSw; go_simp; try with_reducible rfl)
          (try simp only [z1, z2, z3]); (try simp only [Act.put, z4, z5, z6])
          refine wpAnyH_ready (rs := [12]) (by kernel_rfl) (by simp) ?_
          refine AllReadyH.cons (o := _) rfl (fun K1 hK => ?_) AllReadyH.nil
          go_simp
          try dsimp only
          obtain ⟨f1, f2⟩ := NXH.out _ rfl
          have F2 : Hid _ := f2
          refine hK _ _ f1 (fun hHeld => ?_)
          clear hK K1 NXH f2
          (try simp only [z1, z2, z3]); (try simp only [Act.put, z4, z5, z6])
          refine wpAnyH_done (by kernel_rfl) ?_ _
          refine NoPanic.normal ?_
          go_wp2_with fail
          exact ⟨⟨k + 1, rfl, hk, F2⟩, by first | (simp [intOf]; done) | (simp [intOf]; omega)⟩
        · have hlt : ¬ (k : Int) < (n : Int) := by omega
          have hS2 : Hid (AS w N C m V (.slice (some ⟨hb, 0, none⟩) m ch) (L1 Lf (i + 1) 0) wr) := by
            have s := hS.out
            have e : k = (Lf i).length := by have := LH.out; omega
            exact ⟨s.cF, s.hr, fun j hj => by have := s.rows j hj; rw [e, L1_next] at this; exact this, s.bf⟩
          clear hS
          go_wp2_with fail
          exact ⟨⟨i + 1, rfl, hi, hS2⟩, by first | (simp [intOf]; done) | (simp [intOf]; omega)⟩
    · have hlt : ¬ (i : Int) < (m : Int) := by omega
      obtain ⟨S0, hS0⟩ : ∃ S0, S0 = wr.heap.size := ⟨_, rfl⟩
      have P0 : Hid (P2 w N C m V (.slice ah m ch) Lf S0 0 V (.slice none 0 0) wr) := by
        have s := hS.out
        have e : i = m := by omega
        refine ⟨⟨s.cF, s.hr, fun j hj => by have := s.rows j hj; rw [e, L1_end Lf hj] at this; exact this, s.bf⟩, fun j hj => by omega, fun j hj => by omega, ⟨rfl, Or.inl ⟨rfl, rfl⟩⟩, fun j hj => by omega, by omega, by rw [hS0]; exact s.bf.size⟩
      have lenV : Hid (∀ (W : World) (G : Nat → List E2), AS w N C m V (.slice ah m ch) G W → ∀ j, j < m → ∃ a c, V j = .slice a (G j).length c ∧ (0 < (G j).length → ∃ g, a = some ⟨g, 0, none⟩)) := fun W G s j hj => by
        obtain ⟨a, c, e, _, h⟩ := (s.rows j hj).formO
        exact ⟨a, c, e, h⟩
      clear hS hS0 hil hi
      go_wp2_with fail
      clear cF
      go_loopw [5, 6] (fun v5 v6 wx => ∃ (i : Nat) (A : Nat → Value), v6 = .int .i64 (i : Int) ∧ i ≤ m ∧ Hid (P2 w N C m V (.slice ah m ch) Lf S0 i A v5 wx)) (fun _ v6 _ => m - (intOf v6).toNat)
      case atStart => exact ⟨0, V, rfl, Nat.zero_le _, P0⟩
      case round =>
        clear P0
        obtain ⟨i, A, rfl, hil, hP⟩ := hrel
        obtain ⟨aa, ca, rfl, hga⟩ := hP.out.ar.form
        have cF := hP.out.st.cF
        by_cases hi : i < m
        · obtain ⟨i0, iI, iw⟩ := nums_t i m hi (by omega)
          have nn := hnH.out i hi
          obtain ⟨hb, rfl⟩ := ghH.out (by omega)
          have hci := HC.out _ _ hP.out.st hb rfl i hi
          obtain ⟨av, cv, hVi, _⟩ := lenV.out _ _ hP.out.st i hi
          have PG0 : Hid (PG w N C m V (.slice (some ⟨hb, 0, none⟩) m ch) Lf S0 i A (.slice aa i ca) wr.heap.size 0 (V i) wr) := PG.start hP.out hi
          rw [hVi] at hci PG0
          clear hP hVi hga
          generalize wr.heap.size = E at PG0
          go_wp2_with fail
          clear cF hci
          go_loopw [7, 8] (fun v7 v8 wx => ∃ (k : Nat), v8 = .int .i64 (k : Int) ∧ k ≤ 20 ∧ Hid (PG w N C m V (.slice (some ⟨hb, 0, none⟩) m ch) Lf S0 i A (.slice aa i ca) E k v7 wx)) (fun _ v8 _ => 20 - (intOf v8).toNat)
          case atStart => exact ⟨0, rfl, by omega, PG0⟩
          case round =>
            clear PG0
            obtain ⟨k, rfl, hkl, hG⟩ := hrel
            obtain ⟨ag, cg, rfl, _, _⟩ := hG.out.go.formO
            by_cases hk : k < 20
            · obtain ⟨k0, kI, kw⟩ := nums_t k 20 hk (by omega)
              have kI2 : (k : Int) < 20 := by omega
              have CT : Hid (Calls Tryz.prog 100 #[.int .i64 (i : Int)] wr fun e w' => e = .returned (.string (Tx.mkT i)) ∧ Below wr.heap.size wr w') := (Tx.text_any i (by omega) wr).mono fun e w' hh => ⟨hh.1, hh.2.below⟩
              have GR0 : Hid (∀ w3, Below wr.heap.size wr w3 → ∃ g' w', (Builtin.append_ #[29, 29] 29 #[.slice ag (rep2 Lf i k).length cg, .slice (some ⟨w3.heap.size, 0, none⟩) 1 1]).run Tryz.prog (w3.alloc (.cells #[.string (Tx.mkT i), .string ⟨#[]⟩] 102)) = .ok g' w' ∧ PG w N C m V (.slice (some ⟨hb, 0, none⟩) m ch) Lf S0 i A (.slice aa i ca) E (k + 1) g' w') := fun w3 b3 => (hG.out.below spH.out b3).grow spH.out hi nn (by omega)
              clear hG
              generalize (rep2 Lf i k).length = ng at *
              go_wp2_with fail
              refine Calls.mono CT.out ?_
              rintro e w3 ⟨rfl, b3⟩
              obtain ⟨g', w4, hr, pg⟩ := GR0.out w3 b3
              have hrH : Hid (∀ W, W = w3.alloc (.cells #[.string (Tx.mkT i), .string ⟨#[]⟩] 102) → (Builtin.append_ #[29, 29] 29 #[.slice ag ng cg, .slice (some ⟨w3.heap.size, 0, none⟩) 1 1]).run Tryz.prog W = .ok g' w4) := fun W e => by subst e; exact hr
              have pgH : Hid _ := pg
              clear GR0 CT hr pg b3
              go_wp2_with (at_builtin; refine wpList_append_runB (by rfl) _ _ _ (by rfl) _ _ _ _ (by rfl) (by rfl) (hrH.out _ rfl) ?_)
              exact ⟨⟨k + 1, rfl, by omega, pgH⟩, by first | (simp [intOf]; done) | (simp [intOf]; omega)⟩
            · have hke : k = 20 := by omega
              have hlt2 : ¬ (k : Int) < 20 := by omega
              have PN : Hid (∃ av' w', (Builtin.append_ #[49, 49] 49 #[.slice aa i ca, .slice (some ⟨wr.heap.size, 0, none⟩) 1 1]).run Tryz.prog (wr.alloc (.cells #[.slice ag (rep2 Lf i k).length cg] 29)) = .ok av' w' ∧ P2 w N C m V (.slice (some ⟨hb, 0, none⟩) m ch) Lf S0 (i + 1) (fun j => if j = i then .slice ag (rep2 Lf i k).length cg else A j) av' w') := by
                have := hG.out
                rw [hke] at this ⊢
                exact this.next spH.out hi hm
              obtain ⟨av', w5, hr, p2⟩ := PN.out
              have hrH : Hid (∀ W, W = wr.alloc (.cells #[.slice ag (rep2 Lf i k).length cg] 29) → (Builtin.append_ #[49, 49] 49 #[.slice aa i ca, .slice (some ⟨wr.heap.size, 0, none⟩) 1 1]).run Tryz.prog W = .ok av' w5) := fun W e => by subst e; exact hr
              have p2H : Hid (∃ A', P2 w N C m V (.slice (some ⟨hb, 0, none⟩) m ch) Lf S0 (i + 1) A' av' w5) := ⟨_, p2⟩
              clear PN hr p2 hG hke
              generalize (rep2 Lf i k).length = ng at *
              go_wp2_with (at_builtin; refine wpList_append_runB (by rfl) _ _ _ (by rfl) _ _ _ _ (by rfl) (by rfl) (hrH.out _ rfl) ?_)
              obtain ⟨A', p3⟩ := p2H.out
              exact ⟨⟨i + 1, A', rfl, hi, p3⟩, by first | (simp [intOf]; done) | (simp [intOf]; omega)⟩
        · have hlt2 : ¬ (i : Int) < (m : Int) := by omega
          obtain rfl : m = i := by omega
          have hcA : Hid (∀ W, P2 w N C m V (.slice ah m ch) Lf S0 m A (.slice aa m ca) W → ∀ j, j < m → ∃ ga aj cj, aa = some ⟨ga, 0, none⟩ ∧ W.cell? ⟨ga, j, none⟩ = some (.slice aj ((Lf j).length + 20) cj) ∧ ∃ g, aj = some ⟨g, 0, none⟩ ∧ ∀ k, k < (Lf j).length + 20 → W.cell? ⟨g, k * 2, none⟩ = some (.string (Tx.mkT j)) ∧ W.cell? ⟨g, k * 2 + 1, none⟩ = some (.string ⟨#[]⟩)) := fun W p j hj => by
            obtain ⟨a, c, e1, h2⟩ := p.ar.form
            obtain ⟨ga, e3, _, h4⟩ := h2 (by omega)
            injection e1 with q1 _ _
            have o := p.alls j hj
            have ll : (rep2 Lf j 20).length = (Lf j).length + 20 := by simp [rep2]
            obtain ⟨aj, cj, e5, _, h6⟩ := o.formO
            obtain ⟨g, rfl⟩ := h6 (by omega)
            refine ⟨ga, _, cj, by rw [q1, e3], by rw [h4 j hj, e5, ll], g, rfl, fun k hk => ?_⟩
            rw [e5] at o
            have hcs := World.ownsRow.cells o (g := g) rfl
            obtain ⟨f1, f2⟩ := enc_get (rep2 Lf j 20) k _ (get_rep _ (xx j) hk)
            have k1 := hcs _ _ f1
            have k2 := hcs _ _ f2
            rw [add_lt0, Nat.zero_add] at k1 k2
            exact ⟨k1, k2⟩
          have hcB : Hid (∀ W, P2 w N C m V (.slice ah m ch) Lf S0 m A (.slice aa m ca) W → ∀ j, j < m → ∃ hb aj cj, ah = some ⟨hb, 0, none⟩ ∧ W.cell? ⟨N, 5, none⟩ = some (.slice ah m ch) ∧ W.cell? ⟨hb, j, none⟩ = some (.slice aj (Lf j).length cj) ∧ (0 < (Lf j).length → ∃ g, aj = some ⟨g, 0, none⟩ ∧ ∀ k, k < (Lf j).length → W.cell? ⟨g, k * 2, none⟩ = some (.string (Tx.mkT j)) ∧ W.cell? ⟨g, k * 2 + 1, none⟩ = some (.string ⟨#[]⟩))) := fun W p j hj => by
            obtain ⟨hb, eh⟩ := ghH.out (by omega)
            have hc := HC.out _ _ p.st hb eh j hj
            have o := p.st.rows j hj
            have ll : (rep Lf j).length = (Lf j).length := by simp [rep]
            obtain ⟨aj, cj, e5, _, h6⟩ := o.formO
            rw [e5, ll] at hc
            refine ⟨hb, aj, cj, eh, p.st.cF, hc, fun q => ?_⟩
            obtain ⟨g, rfl⟩ := h6 (by omega)
            refine ⟨g, rfl, fun k hk => ?_⟩
            rw [e5] at o
            have hcs := World.ownsRow.cells o (g := g) rfl
            obtain ⟨f1, f2⟩ := enc_get (rep Lf j) k _ (get_rep _ (xx j) hk)
            have k1 := hcs _ _ f1
            have k2 := hcs _ _ f2
            rw [add_lt0, Nat.zero_add] at k1 k2
            exact ⟨k1, k2⟩
          have hP3 : Hid _ := hP
          clear hP hga HC lenV hil hi ghH
          go_wp2_with fail
          clear cF
          go_loopw [9] (fun v9 wx => ∃ (i : Nat), v9 = .int .i64 (i : Int) ∧ i ≤ m ∧ Hid (P2 w N C m V (.slice ah m ch) Lf S0 m A (.slice aa m ca) wx)) (fun v9 _ => m - (intOf v9).toNat)
          case atStart => exact ⟨0, rfl, Nat.zero_le _, hP3⟩
          case round =>
            clear hP3
            obtain ⟨i, rfl, hil, hP⟩ := hrel
            by_cases hi : i < m
            · obtain ⟨i0, iI, iw⟩ := nums_t i m hi (by omega)
              have nn := hnH.out i hi
              obtain ⟨n, hnE⟩ : ∃ n, n = (Lf i).length := ⟨_, rfl⟩
              have FA : Hid (∀ W, P2 w N C m V (.slice ah m ch) Lf S0 m A (.slice aa m ca) W → ∃ ga aj cj, aa = some ⟨ga, 0, none⟩ ∧ W.cell? ⟨ga, i, none⟩ = some (.slice aj (n + 20) cj) ∧ ∃ g, aj = some ⟨g, 0, none⟩ ∧ ∀ k, k < n + 20 → W.cell? ⟨g, k * 2, none⟩ = some (.string (Tx.mkT i)) ∧ W.cell? ⟨g, k * 2 + 1, none⟩ = some (.string ⟨#[]⟩)) := fun W p => by rw [hnE]; exact hcA.out W p i hi
              have FB : Hid (∀ W, P2 w N C m V (.slice ah m ch) Lf S0 m A (.slice aa m ca) W → ∃ hb aj cj, ah = some ⟨hb, 0, none⟩ ∧ W.cell? ⟨N, 5, none⟩ = some (.slice ah m ch) ∧ W.cell? ⟨hb, i, none⟩ = some (.slice aj n cj) ∧ (0 < n → ∃ g, aj = some ⟨g, 0, none⟩ ∧ ∀ k, k < n → W.cell? ⟨g, k * 2, none⟩ = some (.string (Tx.mkT i)) ∧ W.cell? ⟨g, k * 2 + 1, none⟩ = some (.string ⟨#[]⟩))) := fun W p => by rw [hnE]; exact hcB.out W p i hi
              rw [← hnE] at nn
              clear hnE
              go_wp2_with fail
              go_loopw [10] (fun v10 wx => ∃ (k : Nat), v10 = .int .i64 (k : Int) ∧ k ≤ n + 20 ∧ Hid (P2 w N C m V (.slice ah m ch) Lf S0 m A (.slice aa m ca) wx)) (fun v10 _ => n + 20 - (intOf v10).toNat)
              case atStart => exact ⟨0, rfl, Nat.zero_le _, hP⟩
              case round =>
                clear hP
                obtain ⟨k, rfl, hkl, hP⟩ := hrel
                obtain ⟨ga, aj, cj, rfl, e1, g, rfl, e2⟩ := FA.out wr hP.out
                by_cases hk : k < n + 20
                · obtain ⟨k0, kI, kw⟩ := nums_t k (n + 20) hk (by omega)
                  obtain ⟨e3, e4⟩ := e2 k hk
                  clear e2
                  obtain ⟨W1, hW1⟩ : ∃ W1, W1 = wr.alloc (.cells #[.string (Tx.mkT i), .string ⟨#[]⟩] 102) := ⟨_, rfl⟩
                  have bW1 : Below wr.heap.size wr W1 := by rw [hW1]; exact (Below.refl _ wr).alloc (Nat.le_refl _) _
                  have sW1 : W1.heap.size = wr.heap.size + 1 := by rw [hW1]; simp
                  have u0 : W1.cell? ⟨wr.heap.size, 0, none⟩ = some (.string (Tx.mkT i)) := by rw [hW1]; simp [go_sem]
                  have u1 : W1.cell? ⟨wr.heap.size, 1, none⟩ = some (.string ⟨#[]⟩) := by rw [hW1]; simp [go_sem]
                  have q1 : ∀ n os, (Sort.grow (W1.drewN n) os).cell? ⟨wr.heap.size, 0, none⟩ = some (.string (Tx.mkT i)) := fun n os => by rw [(show Tx.GR W1 (Sort.grow (W1.drewN n) os) from ⟨n, os, rfl⟩).below.cell (p := ⟨wr.heap.size, 0, none⟩) (by show wr.heap.size < _; omega)]; exact u0
                  have q2 : ∀ n os, (Sort.grow (W1.drewN n) os).cell? ⟨wr.heap.size, 1, none⟩ = some (.string ⟨#[]⟩) := fun n os => by rw [(show Tx.GR W1 (Sort.grow (W1.drewN n) os) from ⟨n, os, rfl⟩).below.cell (p := ⟨wr.heap.size, 1, none⟩) (by show wr.heap.size < _; omega)]; exact u1
                  have NXP : Hid (∀ n os, P2 w N C m V (.slice ah m ch) Lf S0 m A (.slice (some ⟨ga, 0, none⟩) m ca) (Sort.grow (W1.drewN n) os)) := fun n os => hP.out.below spH.out (below_trans bW1 (below_less (show Tx.GR W1 (Sort.grow (W1.drewN n) os) from ⟨n, os, rfl⟩).below bW1.size))
                  have CT : Hid (∀ W, Calls Tryz.prog 100 #[.int .i64 (i : Int)] W fun e w' => e = .returned (.string (Tx.mkT i)) ∧ ∃ q os', w' = Sort.grow (W.drewN q) os') := fun W => Tx.text_any i (by omega) W
                  have hW1H : Hid (wr.alloc (.cells #[.string (Tx.mkT i), .string ⟨#[]⟩] 102) = W1) := hW1.symm
                  clear hP bW1 sW1 u0 u1 hW1
                  go_wp2_with fail
                  rw [hW1H.out]
                  clear e1 e3 e4
                  go_quiet_grown (first | (go_at_fn 100; refine Calls.grown_of (CT.out _)))
                  have hP2 : Hid _ := NXP.out nq osq
                  clear q1 q2 NXP CT
                  generalize Sort.grow (W1.drewN nq) osq = w9 at *
                  go_wp2_with fail
                  exact ⟨⟨k + 1, rfl, by omega, hP2⟩, by first | (simp [intOf]; done) | (simp [intOf]; omega)⟩
                · have hlt3 : ¬ (k : Int) < ((n + 20 : Nat) : Int) := by omega
                  clear e2
                  go_wp2_with fail
                  clear e1
                  go_loopw [12] (fun v12 wx => ∃ (q : Nat), v12 = .int .i64 (q : Int) ∧ q ≤ n ∧ Hid (P2 w N C m V (.slice ah m ch) Lf S0 m A (.slice (some ⟨ga, 0, none⟩) m ca) wx)) (fun v12 _ => n - (intOf v12).toNat)
                  case atStart => exact ⟨0, rfl, Nat.zero_le _, hP⟩
                  case round =>
                    clear hP
                    obtain ⟨q, rfl, hql, hP⟩ := hrel
                    obtain ⟨hb, aj2, cj2, rfl, e0, e1, e2⟩ := FB.out wr hP.out
                    by_cases hq : q < n
                    · obtain ⟨q0, qI, qw⟩ := nums_t q n hq (by omega)
                      obtain ⟨g2, rfl, e5⟩ := e2 (by omega)
                      obtain ⟨e3, e4⟩ := e5 q hq
                      clear e2 e5
                      obtain ⟨W1, hW1⟩ : ∃ W1, W1 = wr.alloc (.cells #[.string (Tx.mkT i), .string ⟨#[]⟩] 102) := ⟨_, rfl⟩
                      have bW1 : Below wr.heap.size wr W1 := by rw [hW1]; exact (Below.refl _ wr).alloc (Nat.le_refl _) _
                      have sW1 : W1.heap.size = wr.heap.size + 1 := by rw [hW1]; simp
                      have u0 : W1.cell? ⟨wr.heap.size, 0, none⟩ = some (.string (Tx.mkT i)) := by rw [hW1]; simp [go_sem]
                      have u1 : W1.cell? ⟨wr.heap.size, 1, none⟩ = some (.string ⟨#[]⟩) := by rw [hW1]; simp [go_sem]
                      have q1 : ∀ n os, (Sort.grow (W1.drewN n) os).cell? ⟨wr.heap.size, 0, none⟩ = some (.string (Tx.mkT i)) := fun n os => by rw [(show Tx.GR W1 (Sort.grow (W1.drewN n) os) from ⟨n, os, rfl⟩).below.cell (p := ⟨wr.heap.size, 0, none⟩) (by show wr.heap.size < _; omega)]; exact u0
                      have q2 : ∀ n os, (Sort.grow (W1.drewN n) os).cell? ⟨wr.heap.size, 1, none⟩ = some (.string ⟨#[]⟩) := fun n os => by rw [(show Tx.GR W1 (Sort.grow (W1.drewN n) os) from ⟨n, os, rfl⟩).below.cell (p := ⟨wr.heap.size, 1, none⟩) (by show wr.heap.size < _; omega)]; exact u1
                      have NXP : Hid (∀ n os, P2 w N C m V (.slice (some ⟨hb, 0, none⟩) m ch) Lf S0 m A (.slice (some ⟨ga, 0, none⟩) m ca) (Sort.grow (W1.drewN n) os)) := fun n os => hP.out.below spH.out (below_trans bW1 (below_less (show Tx.GR W1 (Sort.grow (W1.drewN n) os) from ⟨n, os, rfl⟩).below bW1.size))
                      have CT : Hid (∀ W, Calls Tryz.prog 100 #[.int .i64 (i : Int)] W fun e w' => e = .returned (.string (Tx.mkT i)) ∧ ∃ q os', w' = Sort.grow (W.drewN q) os') := fun W => Tx.text_any i (by omega) W
                      have hW1H : Hid (wr.alloc (.cells #[.string (Tx.mkT i), .string ⟨#[]⟩] 102) = W1) := hW1.symm
                      clear hP bW1 sW1 u0 u1 hW1
                      go_wp2_with fail
                      rw [hW1H.out]
                      clear e0 e1 e3 e4
                      go_quiet_grown (first | (go_at_fn 100; refine Calls.grown_of (CT.out _)))
                      have hP2 : Hid _ := NXP.out nq osq
                      clear q1 q2 NXP CT
                      generalize Sort.grow (W1.drewN nq) osq = w9 at *
                      go_wp2_with fail
                      exact ⟨⟨q + 1, rfl, hq, hP2⟩, by first | (simp [intOf]; done) | (simp [intOf]; omega)⟩
                    · have hlt4 : ¬ (q : Int) < (n : Int) := by omega
                      clear e2
                      go_wp2_with fail
                      exact ⟨⟨i + 1, rfl, hi, hP⟩, by first | (simp [intOf]; done) | (simp [intOf]; omega)⟩
            · have hlt5 : ¬ (i : Int) < (m : Int) := by omega
              have fin : Hid (BF V m w wr) := hP.out.st.bf
              clear hP
              go_wp2_with fail
              go_ret
              exact ⟨rfl, fin.out⟩
end Go.Proofs.YtbojljmacheccaaGreatDoor.Bk5

