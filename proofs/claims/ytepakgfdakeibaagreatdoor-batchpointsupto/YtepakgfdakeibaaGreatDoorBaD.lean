
import Derived.Test.YtepakgfdakeibaaGreatDoorBaC
import Derived.Laws.OwnMore
import Derived.Deep.AppendLies
import Derived.Laws.MakeOwn
namespace Go.Proofs.YtepakgfdakeibaaGreatDoor.So
open Go.RowKit
set_option linter.unusedVariables false
set_option linter.unusedSimpArgs false
theorem wpList_append_runB {P : Program} {ops : Array Oper} {rest : List Oper} {o : Oper} {a : Act} {Q : Exit → Act → World → Prop} {w : World} (hgd : o.guard = none) (s x : Operand) (t : TypeId)
    (ho : o.op = .call { callee := .builtin .append, args := #[s, x], argTypes := #[t, t] }) (v y v' : Value) (w' : World) (hs : a.eval s = v) (hx : a.eval x = y) (hr : (Builtin.append_ #[t, t] o.type #[v, y]).run P w = .ok v' w')
    (h : wpList P ops Q rest (a.put o.dst v') w') : wpList P ops Q (o :: rest) a w := by
  refine wpList_plain hgd fun K hK => ?_
  unfold Oper.wp execOp
  simp only [ho, resolve, invoke, builtin, Sem.run_bind, Sem.run_pure, Result.andThen_ok, List.map_toArray, List.map_cons, List.map_nil, hs, hx, hr]
  exact hK _ _ h
theorem addB (b o j : Nat) : ((⟨b, o, none⟩ : Addr).add j) = ⟨b, o + j, none⟩ := by simp [Addr.add]
def slLen : Value → Nat
  | .slice _ n _ => n
  | _ => 0
/-- a row of one cell an entry, of one's own. -/
def OH (w : World) (e : TypeId) (B : Nat) (v : Value) (xs : List Value) : Prop := w.ownsRow B e 1 v xs.length xs
theorem OH.nil (w : World) (e : TypeId) (B : Nat) : OH w e B (.slice none 0 0) [] := ⟨rfl, Or.inl ⟨rfl, rfl⟩⟩
theorem OH.below {w w' : World} {e : TypeId} {B C : Nat} {v : Value} {l : List Value} (h : OH w e B v l) (hb : Below C w w') (hC : w.heap.size ≤ C) : OH w' e B v l := by
  refine ⟨h.1, ?_⟩
  rcases h.2 with h2 | ⟨g, cap, cur, e1, e2, e3, e4⟩
  · exact Or.inl h2
  · exact Or.inr ⟨g, cap, cur, e1, e2, by rw [hb.block g (Nat.lt_of_lt_of_le (Array.getElem?_eq_some_iff.1 e3).1 hC)]; exact e3, e4⟩
theorem OH.len {w : World} {e : TypeId} {B z c : Nat} {a : Option Addr} {l : List Value} (h : OH w e B (.slice a z c) l) : l.length = z ∧ (z = 0 ∨ ∃ g, a = some ⟨g, 0, none⟩ ∧ B ≤ g ∧ g < w.heap.size) := by
  rcases h.2 with ⟨e1, e0⟩ | ⟨g, cap, cur, e1, hB, hg, _⟩
  · injection e1 with _ e2 _
    exact ⟨by omega, Or.inl e2⟩
  · injection e1 with e2 e3 e4
    exact ⟨e3.symm, Or.inr ⟨g, e2, hB, (Array.getElem?_eq_some_iff.1 hg).1⟩⟩
/-- one more. -/
theorem app1H (t e : TypeId) (zv : Value) (by_ : Nat) (ht : Tryz.prog.underlying t = some (.slice e)) (hi : (Tryz.prog.info? e).map (fun i => (i.zero, i.bytes, i.size)) = some (some zv, by_, 1)) (hz : zv.cells = #[zv]) (hz1 : by_ ≤ 24) (hz0 : 0 < by_)
    (W : World) (B : Nat) (v : Value) (l : List Value) (h : OH W e B v l) (hB : B ≤ W.heap.size) (x : Value) (hx : x.oneCell' = true) (hn : l.length + 1 ≤ 1099511627776) :
    ∃ g c w', (Builtin.append_ #[t, t] t #[v, .slice (some ⟨W.heap.size, 0, none⟩) 1 1]).run Tryz.prog (W.alloc (.cells #[x] e)) = .ok (.slice (some ⟨g, 0, none⟩) (l.length + 1) c) w' ∧ OH w' e B (.slice (some ⟨g, 0, none⟩) (l.length + 1) c) (l ++ [x]) ∧ Below B W w' := by
  have b1 : Below W.heap.size W (W.alloc (.cells #[x] e)) := (Below.refl _ W).alloc (Nat.le_refl _) _
  have ho2 := h.below b1 (Nat.le_refl _)
  obtain ⟨i, i1, i0⟩ := Option.map_eq_some_iff.1 hi
  have i2 : i.zero = some zv := congrArg (·.1) i0
  have i3 : i.bytes = by_ := congrArg (·.2.1) i0
  have i4 : i.size = 1 := congrArg (·.2.2) i0
  have hml : maxLen = 9223372036854775807 := by decide
  have hB2 := Nat.le_trans hB b1.size
  have hbig : (l.length + 1) * by_ ≤ 26388279066624 := Nat.le_trans (Nat.mul_le_mul hn hz1) (by omega)
  obtain ⟨g, cap, w', hr, own, gr, hat, hlt⟩ := run_append_lies (P := Tryz.prog) _ t t B e i zv 1 by_ ht i1 i2 i4 i3 (by rw [hz]; rfl) (by omega) v l.length l ho2 ⟨W.heap.size, 0, none⟩ 1 1 [x] rfl (fun j u hj => by
    cases j with
    | zero => simp at hj; subst hj; simp [go_sem]
    | succ j => simp at hj) (by intro u hu; simp at hu; subst hu; exact hx) (by omega) (by omega) (by omega) hB2 _ rfl
  refine ⟨g, cap, w', hr, ?_, (b1.mono hB).trans ((Below.refl B _).grown gr hB2 (fun k e => (World.ownsRow.lt ho2 k e).1))⟩
  unfold OH
  rw [List.length_append, List.length_singleton]
  exact own
theorem ints_info : (Tryz.prog.info? 78).map (fun i => (i.zero, i.bytes, i.size)) = some (some (.slice none 0 0), 24, 1) := by kernel_rfl
theorem int_info : (Tryz.prog.info? 3).map (fun i => (i.zero, i.bytes, i.size)) = some (some (.int .i64 0), 8, 1) := by kernel_rfl
/-- the pieces, as slices. -/
def plV (b0 n : Nat) (h : Nat → Pc) (m : Nat) : List Value := (List.range m).map fun i => pV b0 n (h i)
def updP (h : Nat → Pc) (k : Nat) (p : Pc) : Nat → Pc := fun i => if i = k then p else h i
theorem plV_more (b0 n : Nat) (h : Nat → Pc) (m : Nat) (p : Pc) : plV b0 n (updP h m p) (m + 1) = plV b0 n h m ++ [pV b0 n p] := by
  unfold plV
  rw [List.range_succ, List.map_append]
  congr 1
  · apply List.map_congr_left
    intro i hi
    unfold updP
    rw [if_neg (by have := List.mem_range.1 hi; omega)]
  · simp [updP]
theorem Run.one (ah : Nat → Nat → Bool) (x : Nat) : Run ah (x, x + 1) := ⟨by simp, fun j a b => by simp only at a b; omega⟩
theorem Run.more {ah : Nat → Nat → Bool} {x k : Nat} (h : Run ah (x, x + k)) (hk : 1 ≤ k) (e : ah (x + k - 1) (x + k) = true) : Run ah (x, x + (k + 1)) := ⟨by simp only; omega, fun j a b => by
  simp only at a b
  by_cases c : j < x + k
  · exact h.2 j a c
  · obtain rfl : j = x + k := by omega
    exact e⟩
/-- what stands while the row is cut. -/
structure CT1 (w : World) (b0 n : Nat) (ah : Nat → Nat → Bool) (x m : Nat) (v : Value) (h : Nat → Pc) (wr : World) : Prop where
  ct : Cts ah n m x h
  few : m ≤ x
  row : OH wr 78 w.heap.size v (plV b0 n h m)
  bl : Below w.heap.size w wr
theorem CT1.below {w : World} {b0 n x m : Nat} {ah : Nat → Nat → Bool} {v : Value} {h : Nat → Pc} {wr wx : World} (s : CT1 w b0 n ah x m v h wr) (hB : Below wr.heap.size wr wx) : CT1 w b0 n ah x m v h wx := ⟨s.ct, s.few, s.row.below hB (Nat.le_refl _), s.bl.trans (hB.mono s.bl.size)⟩
set_option maxRecDepth 100000 in
set_option maxHeartbeats 8000000 in
theorem pieces_any (w : World) (b0 n P1 : Nat) (ah : Nat → Nat → Bool) (hA : AhA w 40 #[.pointer (some ⟨P1, 0, none⟩)] n ah) (hw : PW w b0 n) (hn : n ≤ 1099511627770) :
    Calls Tryz.prog 68 #[.slice (some ⟨b0, 0, none⟩) n n, .func (.func 40) #[] #[.pointer (some ⟨P1, 0, none⟩)]] w fun e w' => ∃ a m c h, e = .returned (.slice a m c) ∧ CT1 w b0 n ah n m (.slice a m c) h w' := by
  have hAH : Hid (∀ (a b : Nat) (W : World), a < n → b < n → Below w.heap.size w W → Calls Tryz.prog 40 #[.int .i64 (a : Int), .int .i64 (b : Int), .pointer (some ⟨P1, 0, none⟩)] W fun e w' => e = .returned (.bool (ah a b)) ∧ Below W.heap.size W w') := fun a b W h1 h2 h3 => hA a b W h1 h2 h3
  have hwH : Hid (PW w b0 n) := hw
  clear hA hw
  go_enter Tryz.func68, Tryz.ntmps68
  go_wp2_with fail
  go_loopw [0, 5] (fun vr vc wr => ∃ (x m lr cr c3 : Nat) (ar a3 : Option Addr) (h : Nat → Pc), vr = .slice ar lr cr ∧ vc = .slice a3 m c3 ∧ x ≤ n ∧ Hid (lr = n - x ∧ (x < n → ar = some ⟨b0, x, none⟩ ∧ cr = n - x)) ∧ Hid (CT1 w b0 n ah x m (.slice a3 m c3) h wr)) (fun vr _ _ => slLen vr)
  case atStart => exact ⟨0, 0, n, n, 0, some ⟨b0, 0, none⟩, none, fun _ => (0, 0), rfl, rfl, Nat.zero_le _, ⟨by omega, fun _ => ⟨rfl, by omega⟩⟩, ⟨Cts.zero _ _, Nat.le_refl _, OH.nil _ _ _, Below.refl _ _⟩⟩
  case round =>
    obtain ⟨x, m, lr, cr, c3, ar, a3, h, rfl, rfl, hxn, hlr, hC⟩ := hrel
    by_cases hx : 0 < lr
    · have hxI : (lr : Int) > 0 := by omega
      have hxJ : (0 : Int) < (lr : Int) := by omega
      obtain ⟨e1, e2⟩ := hlr.out
      obtain ⟨e3, e4⟩ := e2 (by omega)
      rw [← e1] at e4
      subst e3 e4
      have hl : Hid (cr = n - x) := e1
      have hxl : x + cr = n := by omega
      have hlH : Hid (x + cr = n) := hxl
      have hcrn : cr ≤ n := by omega
      clear e1 e2 hlr hxl
      go_wp2_with fail
      go_loopw [6] (fun vk wx => ∃ k : Nat, vk = .int .i64 (k : Int) ∧ 1 ≤ k ∧ k ≤ cr ∧ Hid (Run ah (x, x + k)) ∧ Hid (CT1 w b0 n ah x m (.slice a3 m c3) h wx)) (fun vk _ => cr - (intOf vk).toNat)
      case atStart => exact ⟨1, rfl, Nat.le_refl _, hx, Run.one ah x, hC⟩
      case round =>
        clear hC
        obtain ⟨k, rfl, hk1, hkl, hrun, hC⟩ := hrel
        have kw : IntKind.i64.wrap ((k : Int) + 1) = ((k + 1 : Nat) : Int) := IntWalk.i64_in _ (by omega)
        have kv : IntKind.i64.wrap ((k : Int) - 1) = (k : Int) - 1 := IntWalk.i64_in _ (by omega)
        have k0 : (0 : Int) ≤ (k : Int) := by omega
        have k2 : (0 : Int) ≤ (k : Int) - 1 := by omega
        have k4 : (1 : Int) ≤ (k : Int) := by omega
        by_cases hk : k < cr
        · have hkI : (k : Int) < (cr : Int) := by omega
          have hkd : decide ((k : Int) < (cr : Int)) = true := decide_eq_true hkI
          have k3 : (k : Int) - 1 < (cr : Int) := by omega
          have kne : ¬ k = cr := by omega
          have a1 : wr.cell? ⟨b0, x + (k - 1), none⟩ = some (.int .i64 ((x + k - 1 : Nat) : Int)) := by
            rw [hC.out.bl.cell (p := ⟨b0, x + (k - 1), none⟩) hwH.out.1, show x + (k - 1) = x + k - 1 by omega]; exact hwH.out.2 _ (by have := hlH.out; omega)
          have b1 : wr.cell? ⟨b0, x + k, none⟩ = some (.int .i64 ((x + k : Nat) : Int)) := by
            rw [hC.out.bl.cell (p := ⟨b0, x + k, none⟩) hwH.out.1]; exact hwH.out.2 _ (by have := hlH.out; omega)
          have bl : b0 < wr.heap.size := Nat.lt_of_lt_of_le hwH.out.1 hC.out.bl.size
          have CH : Hid (∀ W, Below w.heap.size w W → Calls Tryz.prog 40 #[.int .i64 ((x + k - 1 : Nat) : Int), .int .i64 ((x + k : Nat) : Int), .pointer (some ⟨P1, 0, none⟩)] W fun e w' => e = .returned (.bool (ah (x + k - 1) (x + k))) ∧ Below W.heap.size W w') := fun W hW => hAH.out (x + k - 1) (x + k) W (by have := hlH.out; omega) (by have := hlH.out; omega) hW
          obtain ⟨bv, hbv⟩ : ∃ bv, ah (x + k - 1) (x + k) = bv := ⟨_, rfl⟩
          rw [hbv] at CH
          have hbH : Hid (ah (x + k - 1) (x + k) = bv) := hbv
          clear hbv
          generalize ((x + k - 1 : Nat) : Int) = X at a1 CH
          generalize ((x + k : Nat) : Int) = Y at b1 CH
          cases bv with
          | true =>
            go_wp2_with fail
            refine wp_region_noPanic ?_
            refine wp_region_held_drew (S := fun W => W.cell? ⟨b0, x + (k - 1), none⟩ = some (.int .i64 X) ∧ W.cell? ⟨b0, x + k, none⟩ = some (.int .i64 Y)) (by kernel_rfl) ⟨a1, b1⟩ (fun hHeld => ?_)
            refine zT 0 (v := ?_) rfl ?_ ?_
            rotate_left 1
            · (intro w0 hSw; (try dsimp only at hSw); obtain ⟨s1, s2⟩ := hSw; go_simp; try with_reducible rfl)
            (try simp only [z1, z2, z3]); (try simp only [Act.put, z4, z5, z6])
            refine zT 1 (v := ?_) rfl ?_ ?_
            rotate_left 1
            · (intro w0 hSw; (try dsimp only at hSw); obtain ⟨s1, s2⟩ := hSw; go_simp; try with_reducible rfl)
            (try simp only [z1, z2, z3]); (try simp only [Act.put, z4, z5, z6])
            refine zT 2 (v := ?_) rfl ?_ ?_
            rotate_left 1
            · (intro w0 hSw; (try dsimp only at hSw); obtain ⟨s1, s2⟩ := hSw; go_simp; try with_reducible rfl)
            (try simp only [z1, z2, z3]); (try simp only [Act.put, z4, z5, z6])
            refine zT 3 (v := ?_) rfl ?_ ?_
            rotate_left 1
            · (intro w0 hSw; (try dsimp only at hSw); obtain ⟨s1, s2⟩ := hSw; go_simp; try with_reducible rfl)
            (try simp only [z1, z2, z3]); (try simp only [Act.put, z4, z5, z6])
            refine zT 4 (v := ?_) rfl ?_ ?_
            rotate_left 1
            · (intro w0 hSw; (try dsimp only at hSw); obtain ⟨s1, s2⟩ := hSw; go_simp; try with_reducible rfl)
            (try simp only [z1, z2, z3]); (try simp only [Act.put, z4, z5, z6])
            refine zT 5 (v := ?_) rfl ?_ ?_
            rotate_left 1
            · (intro w0 hSw; (try dsimp only at hSw); obtain ⟨s1, s2⟩ := hSw; go_simp; try with_reducible rfl)
            (try simp only [z1, z2, z3]); (try simp only [Act.put, z4, z5, z6])
            refine zT 6 (v := ?_) rfl ?_ ?_
            rotate_left 1
            · (intro w0 hSw; (try dsimp only at hSw); obtain ⟨s1, s2⟩ := hSw; go_simp; try with_reducible rfl)
            (try simp only [z1, z2, z3]); (try simp only [Act.put, z4, z5, z6])
            refine zT 7 (v := ?_) rfl ?_ ?_
            rotate_left 1
            · (intro w0 hSw; (try dsimp only at hSw); obtain ⟨s1, s2⟩ := hSw; go_simp; try with_reducible rfl)
            (try simp only [z1, z2, z3]); (try simp only [Act.put, z4, z5, z6])
            refine zT 8 (v := ?_) rfl ?_ ?_
            rotate_left 1
            · (intro w0 hSw; (try dsimp only at hSw); obtain ⟨s1, s2⟩ := hSw; go_simp; try with_reducible rfl)
            (try simp only [z1, z2, z3]); (try simp only [Act.put, z4, z5, z6])
            refine zT 9 (v := ?_) rfl ?_ ?_
            rotate_left 1
            · (intro w0 hSw; (try dsimp only at hSw); obtain ⟨s1, s2⟩ := hSw; go_simp; try with_reducible rfl)
            (try simp only [z1, z2, z3]); (try simp only [Act.put, z4, z5, z6])
            refine zT 10 (v := ?_) rfl ?_ ?_
            rotate_left 1
            · (intro w0 hSw; (try dsimp only at hSw); obtain ⟨s1, s2⟩ := hSw; go_simp; try with_reducible rfl)
            (try simp only [z1, z2, z3]); (try simp only [Act.put, z4, z5, z6])
            refine zT 11 (v := ?_) rfl ?_ ?_
            rotate_left 1
            · (intro w0 hSw; (try dsimp only at hSw); obtain ⟨s1, s2⟩ := hSw; go_simp; try with_reducible rfl)
            (try simp only [z1, z2, z3]); (try simp only [Act.put, z4, z5, z6])
            refine zT 12 (v := ?_) rfl ?_ ?_
            rotate_left 1
            · (intro w0 hSw; (try dsimp only at hSw); obtain ⟨s1, s2⟩ := hSw; go_simp; try with_reducible rfl)
            (try simp only [z1, z2, z3]); (try simp only [Act.put, z4, z5, z6])
            refine zT 13 (v := ?_) rfl ?_ ?_
            rotate_left 1
            · (intro w0 hSw; (try dsimp only at hSw); obtain ⟨s1, s2⟩ := hSw; go_simp; try with_reducible rfl)
            (try simp only [z1, z2, z3]); (try simp only [Act.put, z4, z5, z6])
            refine zT 14 (v := ?_) rfl ?_ ?_
            rotate_left 1
            · (intro w0 hSw; (try dsimp only at hSw); obtain ⟨s1, s2⟩ := hSw; go_simp; try with_reducible rfl)
            (try simp only [z1, z2, z3]); (try simp only [Act.put, z4, z5, z6])
            refine wpAnyH_ready (rs := [15]) (by kernel_rfl) (by simp) ?_
            refine AllReadyH.cons (o := _) rfl (fun K hK => ?_) AllReadyH.nil
            go_simp
            refine Calls.mono (CH.out _ (show Below w.heap.size w wr.drew from hC.out.bl.drew)) ?_
            rintro e w' ⟨rfl, BB⟩
            try dsimp only
            refine hK _ _ ?_ (fun hHeld => ?_)
            · exact ⟨by rw [BB.cell (p := ⟨b0, x + (k - 1), none⟩) bl]; exact a1, by rw [BB.cell (p := ⟨b0, x + k, none⟩) bl]; exact b1⟩
            clear hK K
            (try simp only [z1, z2, z3]); (try simp only [Act.put, z4, z5, z6])
            refine zT 16 (v := ?_) rfl ?_ ?_
            rotate_left 1
            · (intro w0 hSw; (try dsimp only at hSw); obtain ⟨s1, s2⟩ := hSw; go_simp; try with_reducible rfl)
            (try simp only [z1, z2, z3]); (try simp only [Act.put, z4, z5, z6])
            refine wpAnyH_done (by kernel_rfl) ?_ _
            refine NoPanic.normal ?_
            have hC2 : Hid (CT1 w b0 n ah x m (.slice a3 m c3) h w') := hC.out.below ((show Below wr.heap.size wr wr.drew from (Below.refl _ wr).drew).trans BB)
            have nx : Hid (Run ah (x, x + (k + 1))) := hrun.out.more hk1 hbH.out
            clear a1 b1 BB CH hbH hC bl hHeld hrun
            go_wp2_with fail
            exact ⟨⟨k + 1, by first | rfl | simp, by omega, by omega, nx, hC2⟩, by simp [intOf]; omega⟩
          | false =>
            go_wp2_with fail
            refine wp_region_noPanic ?_
            refine wp_region_held_drew (S := fun W => W.cell? ⟨b0, x + (k - 1), none⟩ = some (.int .i64 X) ∧ W.cell? ⟨b0, x + k, none⟩ = some (.int .i64 Y)) (by kernel_rfl) ⟨a1, b1⟩ (fun hHeld => ?_)
            refine zT 0 (v := ?_) rfl ?_ ?_
            rotate_left 1
            · (intro w0 hSw; (try dsimp only at hSw); obtain ⟨s1, s2⟩ := hSw; go_simp; try with_reducible rfl)
            (try simp only [z1, z2, z3]); (try simp only [Act.put, z4, z5, z6])
            refine zT 1 (v := ?_) rfl ?_ ?_
            rotate_left 1
            · (intro w0 hSw; (try dsimp only at hSw); obtain ⟨s1, s2⟩ := hSw; go_simp; try with_reducible rfl)
            (try simp only [z1, z2, z3]); (try simp only [Act.put, z4, z5, z6])
            refine zT 2 (v := ?_) rfl ?_ ?_
            rotate_left 1
            · (intro w0 hSw; (try dsimp only at hSw); obtain ⟨s1, s2⟩ := hSw; go_simp; try with_reducible rfl)
            (try simp only [z1, z2, z3]); (try simp only [Act.put, z4, z5, z6])
            refine zT 3 (v := ?_) rfl ?_ ?_
            rotate_left 1
            · (intro w0 hSw; (try dsimp only at hSw); obtain ⟨s1, s2⟩ := hSw; go_simp; try with_reducible rfl)
            (try simp only [z1, z2, z3]); (try simp only [Act.put, z4, z5, z6])
            refine zT 4 (v := ?_) rfl ?_ ?_
            rotate_left 1
            · (intro w0 hSw; (try dsimp only at hSw); obtain ⟨s1, s2⟩ := hSw; go_simp; try with_reducible rfl)
            (try simp only [z1, z2, z3]); (try simp only [Act.put, z4, z5, z6])
            refine zT 5 (v := ?_) rfl ?_ ?_
            rotate_left 1
            · (intro w0 hSw; (try dsimp only at hSw); obtain ⟨s1, s2⟩ := hSw; go_simp; try with_reducible rfl)
            (try simp only [z1, z2, z3]); (try simp only [Act.put, z4, z5, z6])
            refine zT 6 (v := ?_) rfl ?_ ?_
            rotate_left 1
            · (intro w0 hSw; (try dsimp only at hSw); obtain ⟨s1, s2⟩ := hSw; go_simp; try with_reducible rfl)
            (try simp only [z1, z2, z3]); (try simp only [Act.put, z4, z5, z6])
            refine zT 7 (v := ?_) rfl ?_ ?_
            rotate_left 1
            · (intro w0 hSw; (try dsimp only at hSw); obtain ⟨s1, s2⟩ := hSw; go_simp; try with_reducible rfl)
            (try simp only [z1, z2, z3]); (try simp only [Act.put, z4, z5, z6])
            refine zT 8 (v := ?_) rfl ?_ ?_
            rotate_left 1
            · (intro w0 hSw; (try dsimp only at hSw); obtain ⟨s1, s2⟩ := hSw; go_simp; try with_reducible rfl)
            (try simp only [z1, z2, z3]); (try simp only [Act.put, z4, z5, z6])
            refine zT 9 (v := ?_) rfl ?_ ?_
            rotate_left 1
            · (intro w0 hSw; (try dsimp only at hSw); obtain ⟨s1, s2⟩ := hSw; go_simp; try with_reducible rfl)
            (try simp only [z1, z2, z3]); (try simp only [Act.put, z4, z5, z6])
            refine zT 10 (v := ?_) rfl ?_ ?_
            rotate_left 1
            · (intro w0 hSw; (try dsimp only at hSw); obtain ⟨s1, s2⟩ := hSw; go_simp; try with_reducible rfl)
            (try simp only [z1, z2, z3]); (try simp only [Act.put, z4, z5, z6])
            refine zT 11 (v := ?_) rfl ?_ ?_
            rotate_left 1
            · (intro w0 hSw; (try dsimp only at hSw); obtain ⟨s1, s2⟩ := hSw; go_simp; try with_reducible rfl)
            (try simp only [z1, z2, z3]); (try simp only [Act.put, z4, z5, z6])
            refine zT 12 (v := ?_) rfl ?_ ?_
            rotate_left 1
            · (intro w0 hSw; (try dsimp only at hSw); obtain ⟨s1, s2⟩ := hSw; go_simp; try with_reducible rfl)
            (try simp only [z1, z2, z3]); (try simp only [Act.put, z4, z5, z6])
            refine zT 13 (v := ?_) rfl ?_ ?_
            rotate_left 1
            · (intro w0 hSw; (try dsimp only at hSw); obtain ⟨s1, s2⟩ := hSw; go_simp; try with_reducible rfl)
            (try simp only [z1, z2, z3]); (try simp only [Act.put, z4, z5, z6])
            refine zT 14 (v := ?_) rfl ?_ ?_
            rotate_left 1
            · (intro w0 hSw; (try dsimp only at hSw); obtain ⟨s1, s2⟩ := hSw; go_simp; try with_reducible rfl)
            (try simp only [z1, z2, z3]); (try simp only [Act.put, z4, z5, z6])
            refine wpAnyH_ready (rs := [15]) (by kernel_rfl) (by simp) ?_
            refine AllReadyH.cons (o := _) rfl (fun K hK => ?_) AllReadyH.nil
            go_simp
            refine Calls.mono (CH.out _ (show Below w.heap.size w wr.drew from hC.out.bl.drew)) ?_
            rintro e w' ⟨rfl, BB⟩
            try dsimp only
            refine hK _ _ ?_ (fun hHeld => ?_)
            · exact ⟨by rw [BB.cell (p := ⟨b0, x + (k - 1), none⟩) bl]; exact a1, by rw [BB.cell (p := ⟨b0, x + k, none⟩) bl]; exact b1⟩
            clear hK K
            (try simp only [z1, z2, z3]); (try simp only [Act.put, z4, z5, z6])
            refine zT 16 (v := ?_) rfl ?_ ?_
            rotate_left 1
            · (intro w0 hSw; (try dsimp only at hSw); obtain ⟨s1, s2⟩ := hSw; go_simp; try with_reducible rfl)
            (try simp only [z1, z2, z3]); (try simp only [Act.put, z4, z5, z6])
            refine wpAnyH_done (by kernel_rfl) ?_ _
            refine NoPanic.normal ?_
            have hC2 : Hid (CT1 w b0 n ah x m (.slice a3 m c3) h w') := hC.out.below ((show Below wr.heap.size wr wr.drew from (Below.refl _ wr).drew).trans BB)
            clear a1 b1 BB CH hbH hC bl hHeld
            have hlen : (plV b0 n h m).length = m := by simp [plV]
            obtain ⟨g, c, w1, hr1, ho1, hb1⟩ := app1H 113 78 (.slice none 0 0) 24 Tryz.underlying113 ints_info rfl (by omega) (by omega) w' w.heap.size (.slice a3 m c3) (plV b0 n h m) hC2.out.row hC2.out.bl.size (.slice (some ⟨b0, x, none⟩) k cr) rfl (by rw [hlen]; have := hC2.out.few; omega)
            rw [hlen] at hr1 ho1
            have hpv : pV b0 n (x, x + k) = .slice (some ⟨b0, x, none⟩) k cr := by
              unfold pV
              simp only
              rw [show x + k - x = k by omega, show n - x = cr from by have := hlH.out; omega]
            rw [← hpv, ← plV_more] at ho1
            have hC3 : Hid (CT1 w b0 n ah (x + k) (m + 1) (.slice (some ⟨g, 0, none⟩) (m + 1) c) (updP h m (x, x + k)) w1) := ⟨hC2.out.ct.more (fun i hi => by unfold updP; rw [if_neg (by omega)]) (by unfold updP; rw [if_pos rfl]) hrun.out (by have := hlH.out; omega), by have := hC2.out.few; omega, ho1, hC2.out.bl.trans hb1⟩
            have hrH : Hid (∀ W, W = w'.alloc (.cells #[.slice (some ⟨b0, x, none⟩) k cr] 78) → (Builtin.append_ #[113, 113] 113 #[.slice a3 m c3, .slice (some ⟨w'.heap.size, 0, none⟩) 1 1]).run Tryz.prog W = .ok (.slice (some ⟨g, 0, none⟩) (m + 1) c) w1) := fun W e => by subst e; exact hr1
            have hkc : (k : Int) ≤ (cr : Int) := by omega
            clear hr1 ho1 hb1 hlen hpv hrun hC2
            go_wp2_with (at_builtin; refine wpList_append_runB (by rfl) _ _ _ (by rfl) _ _ _ _ (by rfl) (by rfl) (hrH.out _ rfl) ?_)
            exact ⟨⟨x + k, m + 1, _, _, c, _, _, updP h m (x, x + k), rfl, rfl, by have := hlH.out; omega, ⟨by have := hlH.out; omega, fun _ => ⟨rfl, by have := hlH.out; omega⟩⟩, hC3⟩, by simp [slLen]; omega⟩
        · have hkI : ¬ (k : Int) < (cr : Int) := by omega
          have hkd : decide ((k : Int) < (cr : Int)) = false := decide_eq_false hkI
          obtain rfl : k = cr := by omega
          go_wp2_with fail
          go_quiet (fail)
          generalize hwq : World.drewN wr _ = w'
          have hC2 : Hid (CT1 w b0 n ah x m (.slice a3 m c3) h w') := hC.out.below (hwq ▸ bdrewB (Below.refl _ wr) _)
          clear hC hwq
          have hlen : (plV b0 n h m).length = m := by simp [plV]
          obtain ⟨g, c, w1, hr1, ho1, hb1⟩ := app1H 113 78 (.slice none 0 0) 24 Tryz.underlying113 ints_info rfl (by omega) (by omega) w' w.heap.size (.slice a3 m c3) (plV b0 n h m) hC2.out.row hC2.out.bl.size (.slice (some ⟨b0, x, none⟩) k k) rfl (by rw [hlen]; have := hC2.out.few; omega)
          rw [hlen] at hr1 ho1
          have hpv : pV b0 n (x, x + k) = .slice (some ⟨b0, x, none⟩) k k := by
            unfold pV
            simp only
            rw [show x + k - x = k by omega, show n - x = k from by have := hlH.out; omega]
          rw [← hpv, ← plV_more] at ho1
          have hC3 : Hid (CT1 w b0 n ah (x + k) (m + 1) (.slice (some ⟨g, 0, none⟩) (m + 1) c) (updP h m (x, x + k)) w1) := ⟨hC2.out.ct.more (fun i hi => by unfold updP; rw [if_neg (by omega)]) (by unfold updP; rw [if_pos rfl]) hrun.out (by have := hlH.out; omega), by have := hC2.out.few; omega, ho1, hC2.out.bl.trans hb1⟩
          have hrH : Hid (∀ W, W = w'.alloc (.cells #[.slice (some ⟨b0, x, none⟩) k k] 78) → (Builtin.append_ #[113, 113] 113 #[.slice a3 m c3, .slice (some ⟨w'.heap.size, 0, none⟩) 1 1]).run Tryz.prog W = .ok (.slice (some ⟨g, 0, none⟩) (m + 1) c) w1) := fun W e => by subst e; exact hr1
          have hkc : (k : Int) ≤ (k : Int) := by omega
          clear hr1 ho1 hb1 hlen hpv hrun hC2
          go_wp2_with (at_builtin; refine wpList_append_runB (by rfl) _ _ _ (by rfl) _ _ _ _ (by rfl) (by rfl) (hrH.out _ rfl) ?_)
          exact ⟨⟨x + k, m + 1, _, _, c, _, _, updP h m (x, x + k), rfl, rfl, by have := hlH.out; omega, ⟨by have := hlH.out; omega, fun q => by have := hlH.out; omega⟩, hC3⟩, by simp [slLen]; omega⟩
    · have hxI : ¬ (lr : Int) > 0 := by omega
      have hxJ : ¬ (0 : Int) < (lr : Int) := by omega
      have fin : Hid (CT1 w b0 n ah n m (.slice a3 m c3) h wr) := by
        obtain ⟨e1, _⟩ := hlr.out
        have e : x = n := by omega
        have := hC.out
        rw [e] at this; exact this
      clear hC hlr
      go_wp2_with fail
      go_ret
      first | exact ⟨a3, m, ⟨c3, rfl⟩, h, fin.out⟩ | exact ⟨a3, m, c3, h, rfl, fin.out⟩ | exact ⟨a3, m, c3, rfl, h, fin.out⟩
end Go.Proofs.YtepakgfdakeibaaGreatDoor.So
