
import Derived.Test.YtpbcbpiolhjlhaaGreatDoorBzAA
import Derived.Test.YtpbcbpiolhjlhaaGreatDoorBaCq
import Derived.Laws.OwnMore
import Derived.Deep.AppendLies
import Derived.Laws.MakeOwn
import Derived.Lib.Bytealg
import Derived.WalkLawsBesides

namespace Go.Proofs.YtpbcbpiolhjlhaaGreatDoor.So
open Go.RowKit
set_option linter.unusedVariables false
set_option linter.unusedSimpArgs false
theorem wpList_append_runB {P : Program} {ops : Array Oper} {rest : List Oper} {o : Oper} {a : Act} {Q : Exit → Act → World → Prop} {w : World} (hgd : o.guard = none) (s x : Operand) (t : TypeId)
    (ho : o.op = .call { callee := .builtin .append, args := #[s, x], argTypes := #[t, t] }) (v y v' : Value) (w' : World) (hs : a.eval s = v) (hx : a.eval x = y) (hr : (Builtin.append_ #[t, t] o.type #[v, y]).run P w = .ok v' w')
    (h : wpList P ops Q rest (a.put o.dst v') w') : wpList P ops Q (o :: rest) a w := by
  refine wpList_plain hgd fun K hK => ?_
  unfold Oper.wp execOp
  simp only [ho, resolve, invoke, builtin, Sem.run_bind, Sem.run_pure, Result.andThen_ok, List.map_toArray, List.map_cons, List.map_nil, hs, hx, hr]
  exact hK _ _ h
theorem addB (b o j : Nat) : ((⟨b, o, none⟩ : Addr).add j) = ⟨b, o + j, none⟩ := by simp [Addr.add]
def slLen : Value → Nat
  | .slice _ n _ => n
  | _ => 0
/-- a row of one cell an entry, of one's own. -/
def OH (w : World) (e : TypeId) (B : Nat) (v : Value) (xs : List Value) : Prop := w.ownsRow B e 1 v xs.length xs
theorem OH.nil (w : World) (e : TypeId) (B : Nat) : OH w e B (.slice none 0 0) [] := ⟨rfl, Or.inl ⟨rfl, rfl⟩⟩
theorem OH.below {w w' : World} {e : TypeId} {B C : Nat} {v : Value} {l : List Value} (h : OH w e B v l) (hb : Below C w w') (hC : w.heap.size ≤ C) : OH w' e B v l := by
  refine ⟨h.1, ?_⟩
  rcases h.2 with h2 | ⟨g, cap, cur, e1, e2, e3, e4⟩
  · exact Or.inl h2
  · exact Or.inr ⟨g, cap, cur, e1, e2, by rw [hb.block g (Nat.lt_of_lt_of_le (Array.getElem?_eq_some_iff.1 e3).1 hC)]; exact e3, e4⟩
theorem OH.len {w : World} {e : TypeId} {B z c : Nat} {a : Option Addr} {l : List Value} (h : OH w e B (.slice a z c) l) : l.length = z ∧ (z = 0 ∨ ∃ g, a = some ⟨g, 0, none⟩ ∧ B ≤ g ∧ g < w.heap.size) := by
  rcases h.2 with ⟨e1, e0⟩ | ⟨g, cap, cur, e1, hB, hg, _⟩
  · injection e1 with _ e2 _
    exact ⟨by omega, Or.inl e2⟩
  · injection e1 with e2 e3 e4
    exact ⟨e3.symm, Or.inr ⟨g, e2, hB, (Array.getElem?_eq_some_iff.1 hg).1⟩⟩
/-- one more. -/
theorem app1H (t e : TypeId) (zv : Value) (by_ : Nat) (ht : Tryz.prog.underlying t = some (.slice e)) (hi : (Tryz.prog.info? e).map (fun i => (i.zero, i.bytes, i.size)) = some (some zv, by_, 1)) (hz : zv.cells = #[zv]) (hz1 : by_ ≤ 24) (hz0 : 0 < by_)
    (W : World) (B : Nat) (v : Value) (l : List Value) (h : OH W e B v l) (hB : B ≤ W.heap.size) (x : Value) (hx : x.oneCell' = true) (hn : l.length + 1 ≤ 1099511627776) :
    ∃ g c w', (Builtin.append_ #[t, t] t #[v, .slice (some ⟨W.heap.size, 0, none⟩) 1 1]).run Tryz.prog (W.alloc (.cells #[x] e)) = .ok (.slice (some ⟨g, 0, none⟩) (l.length + 1) c) w' ∧ OH w' e B (.slice (some ⟨g, 0, none⟩) (l.length + 1) c) (l ++ [x]) ∧ Below B W w' := by
  have b1 : Below W.heap.size W (W.alloc (.cells #[x] e)) := (Below.refl _ W).alloc (Nat.le_refl _) _
  have ho2 := h.below b1 (Nat.le_refl _)
  obtain ⟨i, i1, i0⟩ := Option.map_eq_some_iff.1 hi
  have i2 : i.zero = some zv := congrArg (·.1) i0
  have i3 : i.bytes = by_ := congrArg (·.2.1) i0
  have i4 : i.size = 1 := congrArg (·.2.2) i0
  have hml : maxLen = 9223372036854775807 := by decide
  have hB2 := Nat.le_trans hB b1.size
  have hbig : (l.length + 1) * by_ ≤ 26388279066624 := Nat.le_trans (Nat.mul_le_mul hn hz1) (by omega)
  obtain ⟨g, cap, w', hr, own, gr, hat, hlt⟩ := run_append_lies (P := Tryz.prog) _ t t B e i zv 1 by_ ht i1 i2 i4 i3 (by rw [hz]; rfl) (by omega) v l.length l ho2 ⟨W.heap.size, 0, none⟩ 1 1 [x] rfl (fun j u hj => by
    cases j with
    | zero => simp at hj; subst hj; simp [go_sem]
    | succ j => simp at hj) (by intro u hu; simp at hu; subst hu; exact hx) (by omega) (by omega) (by omega) hB2 _ rfl
  refine ⟨g, cap, w', hr, ?_, (b1.mono hB).trans ((Below.refl B _).grown gr hB2 (fun k e => (World.ownsRow.lt ho2 k e).1))⟩
  unfold OH
  rw [List.length_append, List.length_singleton]
  exact own
theorem ints_info : (Tryz.prog.info? 86).map (fun i => (i.zero, i.bytes, i.size)) = some (some (.slice none 0 0), 24, 1) := by kernel_rfl
theorem int_info : (Tryz.prog.info? 3).map (fun i => (i.zero, i.bytes, i.size)) = some (some (.int .i64 0), 8, 1) := by kernel_rfl
/-- the pieces, as slices. -/
def plV (b0 n : Nat) (h : Nat → Pc) (m : Nat) : List Value := (List.range m).map fun i => pV b0 n (h i)
def updP (h : Nat → Pc) (k : Nat) (p : Pc) : Nat → Pc := fun i => if i = k then p else h i
theorem plV_more (b0 n : Nat) (h : Nat → Pc) (m : Nat) (p : Pc) : plV b0 n (updP h m p) (m + 1) = plV b0 n h m ++ [pV b0 n p] := by
  unfold plV
  rw [List.range_succ, List.map_append]
  congr 1
  · apply List.map_congr_left
    intro i hi
    unfold updP
    rw [if_neg (by have := List.mem_range.1 hi; omega)]
  · simp [updP]
theorem Run.one (ah : Nat → Nat → Bool) (x : Nat) : Run ah (x, x + 1) := ⟨by simp, fun j a b => by simp only at a b; omega⟩
theorem Run.more {ah : Nat → Nat → Bool} {x k : Nat} (h : Run ah (x, x + k)) (hk : 1 ≤ k) (e : ah (x + k - 1) (x + k) = true) : Run ah (x, x + (k + 1)) := ⟨by simp only; omega, fun j a b => by
  simp only at a b
  by_cases c : j < x + k
  · exact h.2 j a c
  · obtain rfl : j = x + k := by omega
    exact e⟩
/-- what stands while the row is cut. -/
structure CT1 (w : World) (b0 n : Nat) (ah : Nat → Nat → Bool) (x m : Nat) (v : Value) (h : Nat → Pc) (wr : World) : Prop where
  ct : Cts ah n m x h
  few : m ≤ x
  row : OH wr 86 w.heap.size v (plV b0 n h m)
  bl : Below w.heap.size w wr
theorem CT1.below {w : World} {b0 n x m : Nat} {ah : Nat → Nat → Bool} {v : Value} {h : Nat → Pc} {wr wx : World} (s : CT1 w b0 n ah x m v h wr) (hB : Below wr.heap.size wr wx) : CT1 w b0 n ah x m v h wx := ⟨s.ct, s.few, s.row.below hB (Nat.le_refl _), s.bl.trans (hB.mono s.bl.size)⟩
set_option maxRecDepth 100000 in
set_option maxHeartbeats 8000000 in
theorem pieces_any (w : World) (b0 n P1 : Nat) (ah : Nat → Nat → Bool) (hA : AhA w 19 #[.pointer (some ⟨P1, 0, none⟩)] n ah) (hw : PW w b0 n) (hn : n ≤ 1099511627770) :
    Calls Tryz.prog 67 #[.slice (some ⟨b0, 0, none⟩) n n, .func (.func 19) #[] #[.pointer (some ⟨P1, 0, none⟩)]] w fun e w' => ∃ a m c h, e = .returned (.slice a m c) ∧ CT1 w b0 n ah n m (.slice a m c) h w' := by
  have hAH : Hid (∀ (a b : Nat) (W : World), a < n → b < n → Below w.heap.size w W → Calls Tryz.prog 19 #[.int .i64 (a : Int), .int .i64 (b : Int), .pointer (some ⟨P1, 0, none⟩)] W fun e w' => e = .returned (.bool (ah a b)) ∧ Below W.heap.size W w') := fun a b W h1 h2 h3 => hA a b W h1 h2 h3
  have hwH : Hid (PW w b0 n) := hw
  clear hA hw
  go_enter Tryz.func67, Tryz.ntmps67
  go_wp2_with fail
  go_loopw [0, 5] (fun vr vc wr => ∃ (x m lr cr c3 : Nat) (ar a3 : Option Addr) (h : Nat → Pc), vr = .slice ar lr cr ∧ vc = .slice a3 m c3 ∧ x ≤ n ∧ Hid (lr = n - x ∧ (x < n → ar = some ⟨b0, x, none⟩ ∧ cr = n - x)) ∧ Hid (CT1 w b0 n ah x m (.slice a3 m c3) h wr)) (fun vr _ _ => slLen vr)
  case atStart => exact ⟨0, 0, n, n, 0, some ⟨b0, 0, none⟩, none, fun _ => (0, 0), rfl, rfl, Nat.zero_le _, ⟨by omega, fun _ => ⟨rfl, by omega⟩⟩, ⟨Cts.zero _ _, Nat.le_refl _, OH.nil _ _ _, Below.refl _ _⟩⟩
  case round =>
    obtain ⟨x, m, lr, cr, c3, ar, a3, h, rfl, rfl, hxn, hlr, hC⟩ := hrel
    by_cases hx : 0 < lr
    · have hxI : (lr : Int) > 0 := by omega
      have hxJ : (0 : Int) < (lr : Int) := by omega
      obtain ⟨e1, e2⟩ := hlr.out
      obtain ⟨e3, e4⟩ := e2 (by omega)
      rw [← e1] at e4
      subst e3 e4
      have hl : Hid (cr = n - x) := e1
      have hxl : x + cr = n := by omega
      have hlH : Hid (x + cr = n) := hxl
      have hcrn : cr ≤ n := by omega
      clear e1 e2 hlr hxl
      go_wp2_with fail
      go_loopw [6] (fun vk wx => ∃ k : Nat, vk = .int .i64 (k : Int) ∧ 1 ≤ k ∧ k ≤ cr ∧ Hid (Run ah (x, x + k)) ∧ Hid (CT1 w b0 n ah x m (.slice a3 m c3) h wx)) (fun vk _ => cr - (intOf vk).toNat)
      case atStart => exact ⟨1, rfl, Nat.le_refl _, hx, Run.one ah x, hC⟩
      case round =>
        clear hC
        obtain ⟨k, rfl, hk1, hkl, hrun, hC⟩ := hrel
        have kw : IntKind.i64.wrap ((k : Int) + 1) = ((k + 1 : Nat) : Int) := IntWalk.i64_in _ (by omega)
        have kv : IntKind.i64.wrap ((k : Int) - 1) = (k : Int) - 1 := IntWalk.i64_in _ (by omega)
        have k0 : (0 : Int) ≤ (k : Int) := by omega
        have k2 : (0 : Int) ≤ (k : Int) - 1 := by omega
        have k4 : (1 : Int) ≤ (k : Int) := by omega
        by_cases hk : k < cr
        · have hkI : (k : Int) < (cr : Int) := by omega
          have hkd : decide ((k : Int) < (cr : Int)) = true := decide_eq_true hkI
          have k3 : (k : Int) - 1 < (cr : Int) := by omega
          have kne : ¬ k = cr := by omega
          have a1 : wr.cell? ⟨b0, x + (k - 1), none⟩ = some (.int .i64 ((x + k - 1 : Nat) : Int)) := by
            rw [hC.out.bl.cell (p := ⟨b0, x + (k - 1), none⟩) hwH.out.1, show x + (k - 1) = x + k - 1 by omega]; exact hwH.out.2 _ (by have := hlH.out; omega)
          have b1 : wr.cell? ⟨b0, x + k, none⟩ = some (.int .i64 ((x + k : Nat) : Int)) := by
            rw [hC.out.bl.cell (p := ⟨b0, x + k, none⟩) hwH.out.1]; exact hwH.out.2 _ (by have := hlH.out; omega)
          have bl : b0 < wr.heap.size := Nat.lt_of_lt_of_le hwH.out.1 hC.out.bl.size
          have CH : Hid (∀ W, Below w.heap.size w W → Calls Tryz.prog 19 #[.int .i64 ((x + k - 1 : Nat) : Int), .int .i64 ((x + k : Nat) : Int), .pointer (some ⟨P1, 0, none⟩)] W fun e w' => e = .returned (.bool (ah (x + k - 1) (x + k))) ∧ Below W.heap.size W w') := fun W hW => hAH.out (x + k - 1) (x + k) W (by have := hlH.out; omega) (by have := hlH.out; omega) hW
          obtain ⟨bv, hbv⟩ : ∃ bv, ah (x + k - 1) (x + k) = bv := ⟨_, rfl⟩
          rw [hbv] at CH
          have hbH : Hid (ah (x + k - 1) (x + k) = bv) := hbv
          clear hbv
          generalize ((x + k - 1 : Nat) : Int) = X at a1 CH
          generalize ((x + k : Nat) : Int) = Y at b1 CH
          cases bv with
          | true =>
            go_wp2_with fail
            refine wp_region_noPanic ?_
            refine wp_region_held_drew (S := fun W => W.cell? ⟨b0, x + (k - 1), none⟩ = some (.int .i64 X) ∧ W.cell? ⟨b0, x + k, none⟩ = some (.int .i64 Y)) (by kernel_rfl) ⟨a1, b1⟩ (fun hHeld => ?_)
            refine zT 0 (v := ?_) rfl ?_ ?_
            rotate_left 1
            · (intro w0 hSw; (try dsimp only at hSw); obtain ⟨s1, s2⟩ := hSw; go_simp; try with_reducible rfl)
            (try simp only [z1, z2, z3]); (try simp only [Act.put, z4, z5, z6])
            refine zT 1 (v := ?_) rfl ?_ ?_
            rotate_left 1
            · (intro w0 hSw; (try dsimp only at hSw); obtain ⟨s1, s2⟩ := hSw; go_simp; try with_reducible rfl)
            (try simp only [z1, z2, z3]); (try simp only [Act.put, z4, z5, z6])
            refine zT 2 (v := ?_) rfl ?_ ?_
            rotate_left 1
            · (intro w0 hSw; (try dsimp only at hSw); obtain ⟨s1, s2⟩ := hSw; go_simp; try with_reducible rfl)
            (try simp only [z1, z2, z3]); (try simp only [Act.put, z4, z5, z6])
            refine zT 3 (v := ?_) rfl ?_ ?_
            rotate_left 1
            · (intro w0 hSw; (try dsimp only at hSw); obtain ⟨s1, s2⟩ := hSw; go_simp; try with_reducible rfl)
            (try simp only [z1, z2, z3]); (try simp only [Act.put, z4, z5, z6])
            refine zT 4 (v := ?_) rfl ?_ ?_
            rotate_left 1
            · (intro w0 hSw; (try dsimp only at hSw); obtain ⟨s1, s2⟩ := hSw; go_simp; try with_reducible rfl)
            (try simp only [z1, z2, z3]); (try simp only [Act.put, z4, z5, z6])
            refine zT 5 (v := ?_) rfl ?_ ?_
            rotate_left 1
            · (intro w0 hSw; (try dsimp only at hSw); obtain ⟨s1, s2⟩ := hSw; go_simp; try with_reducible rfl)
            (try simp only [z1, z2, z3]); (try simp only [Act.put, z4, z5, z6])
            refine zT 6 (v := ?_) rfl ?_ ?_
            rotate_left 1
            · (intro w0 hSw; (try dsimp only at hSw); obtain ⟨s1, s2⟩ := hSw; go_simp; try with_reducible rfl)
            (try simp only [z1, z2, z3]); (try simp only [Act.put, z4, z5, z6])
            refine zT 7 (v := ?_) rfl ?_ ?_
            rotate_left 1
            · (intro w0 hSw; (try dsimp only at hSw); obtain ⟨s1, s2⟩ := hSw; go_simp; try with_reducible rfl)
            (try simp only [z1, z2, z3]); (try simp only [Act.put, z4, z5, z6])
            refine zT 8 (v := ?_) rfl ?_ ?_
            rotate_left 1
            · (intro w0 hSw; (try dsimp only at hSw); obtain ⟨s1, s2⟩ := hSw; go_simp; try with_reducible rfl)
            (try simp only [z1, z2, z3]); (try simp only [Act.put, z4, z5, z6])
            refine zT 9 (v := ?_) rfl ?_ ?_
            rotate_left 1
            · (intro w0 hSw; (try dsimp only at hSw); obtain ⟨s1, s2⟩ := hSw; go_simp; try with_reducible rfl)
            (try simp only [z1, z2, z3]); (try simp only [Act.put, z4, z5, z6])
            refine zT 10 (v := ?_) rfl ?_ ?_
            rotate_left 1
            · (intro w0 hSw; (try dsimp only at hSw); obtain ⟨s1, s2⟩ := hSw; go_simp; try with_reducible rfl)
            (try simp only [z1, z2, z3]); (try simp only [Act.put, z4, z5, z6])
            refine zT 11 (v := ?_) rfl ?_ ?_
            rotate_left 1
            · (intro w0 hSw; (try dsimp only at hSw); obtain ⟨s1, s2⟩ := hSw; go_simp; try with_reducible rfl)
            (try simp only [z1, z2, z3]); (try simp only [Act.put, z4, z5, z6])
            refine zT 12 (v := ?_) rfl ?_ ?_
            rotate_left 1
            · (intro w0 hSw; (try dsimp only at hSw); obtain ⟨s1, s2⟩ := hSw; go_simp; try with_reducible rfl)
            (try simp only [z1, z2, z3]); (try simp only [Act.put, z4, z5, z6])
            refine zT 13 (v := ?_) rfl ?_ ?_
            rotate_left 1
            · (intro w0 hSw; (try dsimp only at hSw); obtain ⟨s1, s2⟩ := hSw; go_simp; try with_reducible rfl)
            (try simp only [z1, z2, z3]); (try simp only [Act.put, z4, z5, z6])
            refine zT 14 (v := ?_) rfl ?_ ?_
            rotate_left 1
            · (intro w0 hSw; (try dsimp only at hSw); obtain ⟨s1, s2⟩ := hSw; go_simp; try with_reducible rfl)
            (try simp only [z1, z2, z3]); (try simp only [Act.put, z4, z5, z6])
            refine wpAnyH_ready (rs := [15]) (by kernel_rfl) (by simp) ?_
            refine AllReadyH.cons (o := _) rfl (fun K hK => ?_) AllReadyH.nil
            go_simp
            refine Calls.mono (CH.out _ (show Below w.heap.size w wr.drew from hC.out.bl.drew)) ?_
            rintro e w' ⟨rfl, BB⟩
            try dsimp only
            refine hK _ _ ?_ (fun hHeld => ?_)
            · exact ⟨by rw [BB.cell (p := ⟨b0, x + (k - 1), none⟩) bl]; exact a1, by rw [BB.cell (p := ⟨b0, x + k, none⟩) bl]; exact b1⟩
            clear hK K
            (try simp only [z1, z2, z3]); (try simp only [Act.put, z4, z5, z6])
            refine zT 16 (v := ?_) rfl ?_ ?_
            rotate_left 1
            · (intro w0 hSw; (try dsimp only at hSw); obtain ⟨s1, s2⟩ := hSw; go_simp; try with_reducible rfl)
            (try simp only [z1, z2, z3]); (try simp only [Act.put, z4, z5, z6])
            refine wpAnyH_done (by kernel_rfl) ?_ _
            refine NoPanic.normal ?_
            have hC2 : Hid (CT1 w b0 n ah x m (.slice a3 m c3) h w') := hC.out.below ((show Below wr.heap.size wr wr.drew from (Below.refl _ wr).drew).trans BB)
            have nx : Hid (Run ah (x, x + (k + 1))) := hrun.out.more hk1 hbH.out
            clear a1 b1 BB CH hbH hC bl hHeld hrun
            go_wp2_with fail
            exact ⟨⟨k + 1, by first | rfl | simp, by omega, by omega, nx, hC2⟩, by simp [intOf]; omega⟩
          | false =>
            go_wp2_with fail
            refine wp_region_noPanic ?_
            refine wp_region_held_drew (S := fun W => W.cell? ⟨b0, x + (k - 1), none⟩ = some (.int .i64 X) ∧ W.cell? ⟨b0, x + k, none⟩ = some (.int .i64 Y)) (by kernel_rfl) ⟨a1, b1⟩ (fun hHeld => ?_)
            refine zT 0 (v := ?_) rfl ?_ ?_
            rotate_left 1
            · (intro w0 hSw; (try dsimp only at hSw); obtain ⟨s1, s2⟩ := hSw; go_simp; try with_reducible rfl)
            (try simp only [z1, z2, z3]); (try simp only [Act.put, z4, z5, z6])
            refine zT 1 (v := ?_) rfl ?_ ?_
            rotate_left 1
            · (intro w0 hSw; (try dsimp only at hSw); obtain ⟨s1, s2⟩ := hSw; go_simp; try with_reducible rfl)
            (try simp only [z1, z2, z3]); (try simp only [Act.put, z4, z5, z6])
            refine zT 2 (v := ?_) rfl ?_ ?_
            rotate_left 1
            · (intro w0 hSw; (try dsimp only at hSw); obtain ⟨s1, s2⟩ := hSw; go_simp; try with_reducible rfl)
            (try simp only [z1, z2, z3]); (try simp only [Act.put, z4, z5, z6])
            refine zT 3 (v := ?_) rfl ?_ ?_
            rotate_left 1
            · (intro w0 hSw; (try dsimp only at hSw); obtain ⟨s1, s2⟩ := hSw; go_simp; try with_reducible rfl)
            (try simp only [z1, z2, z3]); (try simp only [Act.put, z4, z5, z6])
            refine zT 4 (v := ?_) rfl ?_ ?_
            rotate_left 1
            · (intro w0 hSw; (try dsimp only at hSw); obtain ⟨s1, s2⟩ := hSw; go_simp; try with_reducible rfl)
            (try simp only [z1, z2, z3]); (try simp only [Act.put, z4, z5, z6])
            refine zT 5 (v := ?_) rfl ?_ ?_
            rotate_left 1
            · (intro w0 hSw; (try dsimp only at hSw); obtain ⟨s1, s2⟩ := hSw; go_simp; try with_reducible rfl)
            (try simp only [z1, z2, z3]); (try simp only [Act.put, z4, z5, z6])
            refine zT 6 (v := ?_) rfl ?_ ?_
            rotate_left 1
            · (intro w0 hSw; (try dsimp only at hSw); obtain ⟨s1, s2⟩ := hSw; go_simp; try with_reducible rfl)
            (try simp only [z1, z2, z3]); (try simp only [Act.put, z4, z5, z6])
            refine zT 7 (v := ?_) rfl ?_ ?_
            rotate_left 1
            · (intro w0 hSw; (try dsimp only at hSw); obtain ⟨s1, s2⟩ := hSw; go_simp; try with_reducible rfl)
            (try simp only [z1, z2, z3]); (try simp only [Act.put, z4, z5, z6])
            refine zT 8 (v := ?_) rfl ?_ ?_
            rotate_left 1
            · (intro w0 hSw; (try dsimp only at hSw); obtain ⟨s1, s2⟩ := hSw; go_simp; try with_reducible rfl)
            (try simp only [z1, z2, z3]); (try simp only [Act.put, z4, z5, z6])
            refine zT 9 (v := ?_) rfl ?_ ?_
            rotate_left 1
            · (intro w0 hSw; (try dsimp only at hSw); obtain ⟨s1, s2⟩ := hSw; go_simp; try with_reducible rfl)
            (try simp only [z1, z2, z3]); (try simp only [Act.put, z4, z5, z6])
            refine zT 10 (v := ?_) rfl ?_ ?_
            rotate_left 1
            · (intro w0 hSw; (try dsimp only at hSw); obtain ⟨s1, s2⟩ := hSw; go_simp; try with_reducible rfl)
            (try simp only [z1, z2, z3]); (try simp only [Act.put, z4, z5, z6])
            refine zT 11 (v := ?_) rfl ?_ ?_
            rotate_left 1
            · (intro w0 hSw; (try dsimp only at hSw); obtain ⟨s1, s2⟩ := hSw; go_simp; try with_reducible rfl)
            (try simp only [z1, z2, z3]); (try simp only [Act.put, z4, z5, z6])
            refine zT 12 (v := ?_) rfl ?_ ?_
            rotate_left 1
            · (intro w0 hSw; (try dsimp only at hSw); obtain ⟨s1, s2⟩ := hSw; go_simp; try with_reducible rfl)
            (try simp only [z1, z2, z3]); (try simp only [Act.put, z4, z5, z6])
            refine zT 13 (v := ?_) rfl ?_ ?_
            rotate_left 1
            · (intro w0 hSw; (try dsimp only at hSw); obtain ⟨s1, s2⟩ := hSw; go_simp; try with_reducible rfl)
            (try simp only [z1, z2, z3]); (try simp only [Act.put, z4, z5, z6])
            refine zT 14 (v := ?_) rfl ?_ ?_
            rotate_left 1
            · (intro w0 hSw; (try dsimp only at hSw); obtain ⟨s1, s2⟩ := hSw; go_simp; try with_reducible rfl)
            (try simp only [z1, z2, z3]); (try simp only [Act.put, z4, z5, z6])
            refine wpAnyH_ready (rs := [15]) (by kernel_rfl) (by simp) ?_
            refine AllReadyH.cons (o := _) rfl (fun K hK => ?_) AllReadyH.nil
            go_simp
            refine Calls.mono (CH.out _ (show Below w.heap.size w wr.drew from hC.out.bl.drew)) ?_
            rintro e w' ⟨rfl, BB⟩
            try dsimp only
            refine hK _ _ ?_ (fun hHeld => ?_)
            · exact ⟨by rw [BB.cell (p := ⟨b0, x + (k - 1), none⟩) bl]; exact a1, by rw [BB.cell (p := ⟨b0, x + k, none⟩) bl]; exact b1⟩
            clear hK K
            (try simp only [z1, z2, z3]); (try simp only [Act.put, z4, z5, z6])
            refine zT 16 (v := ?_) rfl ?_ ?_
            rotate_left 1
            · (intro w0 hSw; (try dsimp only at hSw); obtain ⟨s1, s2⟩ := hSw; go_simp; try with_reducible rfl)
            (try simp only [z1, z2, z3]); (try simp only [Act.put, z4, z5, z6])
            refine wpAnyH_done (by kernel_rfl) ?_ _
            refine NoPanic.normal ?_
            have hC2 : Hid (CT1 w b0 n ah x m (.slice a3 m c3) h w') := hC.out.below ((show Below wr.heap.size wr wr.drew from (Below.refl _ wr).drew).trans BB)
            clear a1 b1 BB CH hbH hC bl hHeld
            have hlen : (plV b0 n h m).length = m := by simp [plV]
            obtain ⟨g, c, w1, hr1, ho1, hb1⟩ := app1H 27 86 (.slice none 0 0) 24 Tryz.underlying27 ints_info rfl (by omega) (by omega) w' w.heap.size (.slice a3 m c3) (plV b0 n h m) hC2.out.row hC2.out.bl.size (.slice (some ⟨b0, x, none⟩) k cr) rfl (by rw [hlen]; have := hC2.out.few; omega)
            rw [hlen] at hr1 ho1
            have hpv : pV b0 n (x, x + k) = .slice (some ⟨b0, x, none⟩) k cr := by
              unfold pV
              simp only
              rw [show x + k - x = k by omega, show n - x = cr from by have := hlH.out; omega]
            rw [← hpv, ← plV_more] at ho1
            have hC3 : Hid (CT1 w b0 n ah (x + k) (m + 1) (.slice (some ⟨g, 0, none⟩) (m + 1) c) (updP h m (x, x + k)) w1) := ⟨hC2.out.ct.more (fun i hi => by unfold updP; rw [if_neg (by omega)]) (by unfold updP; rw [if_pos rfl]) hrun.out (by have := hlH.out; omega), by have := hC2.out.few; omega, ho1, hC2.out.bl.trans hb1⟩
            have hrH : Hid (∀ W, W = w'.alloc (.cells #[.slice (some ⟨b0, x, none⟩) k cr] 86) → (Builtin.append_ #[27, 27] 27 #[.slice a3 m c3, .slice (some ⟨w'.heap.size, 0, none⟩) 1 1]).run Tryz.prog W = .ok (.slice (some ⟨g, 0, none⟩) (m + 1) c) w1) := fun W e => by subst e; exact hr1
            have hkc : (k : Int) ≤ (cr : Int) := by omega
            clear hr1 ho1 hb1 hlen hpv hrun hC2
            go_wp2_with (at_builtin; refine wpList_append_runB (by rfl) _ _ _ (by rfl) _ _ _ _ (by rfl) (by rfl) (hrH.out _ rfl) ?_)
            exact ⟨⟨x + k, m + 1, _, _, c, _, _, updP h m (x, x + k), rfl, rfl, by have := hlH.out; omega, ⟨by have := hlH.out; omega, fun _ => ⟨rfl, by have := hlH.out; omega⟩⟩, hC3⟩, by simp [slLen]; omega⟩
        · have hkI : ¬ (k : Int) < (cr : Int) := by omega
          have hkd : decide ((k : Int) < (cr : Int)) = false := decide_eq_false hkI
          obtain rfl : k = cr := by omega
          go_wp2_with fail
          go_quiet (fail)
          generalize hwq : World.drewN wr _ = w'
          have hC2 : Hid (CT1 w b0 n ah x m (.slice a3 m c3) h w') := hC.out.below (hwq ▸ bdrewB (Below.refl _ wr) _)
          clear hC hwq
          have hlen : (plV b0 n h m).length = m := by simp [plV]
          obtain ⟨g, c, w1, hr1, ho1, hb1⟩ := app1H 27 86 (.slice none 0 0) 24 Tryz.underlying27 ints_info rfl (by omega) (by omega) w' w.heap.size (.slice a3 m c3) (plV b0 n h m) hC2.out.row hC2.out.bl.size (.slice (some ⟨b0, x, none⟩) k k) rfl (by rw [hlen]; have := hC2.out.few; omega)
          rw [hlen] at hr1 ho1
          have hpv : pV b0 n (x, x + k) = .slice (some ⟨b0, x, none⟩) k k := by
            unfold pV
            simp only
            rw [show x + k - x = k by omega, show n - x = k from by have := hlH.out; omega]
          rw [← hpv, ← plV_more] at ho1
          have hC3 : Hid (CT1 w b0 n ah (x + k) (m + 1) (.slice (some ⟨g, 0, none⟩) (m + 1) c) (updP h m (x, x + k)) w1) := ⟨hC2.out.ct.more (fun i hi => by unfold updP; rw [if_neg (by omega)]) (by unfold updP; rw [if_pos rfl]) hrun.out (by have := hlH.out; omega), by have := hC2.out.few; omega, ho1, hC2.out.bl.trans hb1⟩
          have hrH : Hid (∀ W, W = w'.alloc (.cells #[.slice (some ⟨b0, x, none⟩) k k] 86) → (Builtin.append_ #[27, 27] 27 #[.slice a3 m c3, .slice (some ⟨w'.heap.size, 0, none⟩) 1 1]).run Tryz.prog W = .ok (.slice (some ⟨g, 0, none⟩) (m + 1) c) w1) := fun W e => by subst e; exact hr1
          have hkc : (k : Int) ≤ (k : Int) := by omega
          clear hr1 ho1 hb1 hlen hpv hrun hC2
          go_wp2_with (at_builtin; refine wpList_append_runB (by rfl) _ _ _ (by rfl) _ _ _ _ (by rfl) (by rfl) (hrH.out _ rfl) ?_)
          exact ⟨⟨x + k, m + 1, _, _, c, _, _, updP h m (x, x + k), rfl, rfl, by have := hlH.out; omega, ⟨by have := hlH.out; omega, fun q => by have := hlH.out; omega⟩, hC3⟩, by simp [slLen]; omega⟩
    · have hxI : ¬ (lr : Int) > 0 := by omega
      have hxJ : ¬ (0 : Int) < (lr : Int) := by omega
      have fin : Hid (CT1 w b0 n ah n m (.slice a3 m c3) h wr) := by
        obtain ⟨e1, _⟩ := hlr.out
        have e : x = n := by omega
        have := hC.out
        rw [e] at this; exact this
      clear hC hlr
      go_wp2_with fail
      go_ret
      first | exact ⟨a3, m, ⟨c3, rfl⟩, h, fin.out⟩ | exact ⟨a3, m, c3, h, rfl, fin.out⟩ | exact ⟨a3, m, c3, rfl, h, fin.out⟩
end Go.Proofs.YtpbcbpiolhjlhaaGreatDoor.So


namespace Go.Proofs.YtpbcbpiolhjlhaaGreatDoor.So
open Go.RowKit
set_option linter.unusedVariables false
set_option linter.unusedSimpArgs false
theorem nodup_leB : ∀ (a b : List Nat), a.Nodup → (∀ x ∈ a, x ∈ b) → a.length ≤ b.length
  | [], b, _, _ => Nat.zero_le _
  | x :: r, b, h, hs => by
    obtain ⟨h1, h2⟩ := List.nodup_cons.1 h
    have hx := hs x List.mem_cons_self
    have := nodup_leB r (b.erase x) h2 fun y hy => (List.mem_erase_of_ne (fun e => h1 (by rw [← e]; exact hy))).2 (hs y (List.mem_cons_of_mem _ hy))
    rw [List.length_erase_of_mem hx] at this
    have hp : 0 < b.length := List.length_pos_of_mem hx
    rw [List.length_cons]; omega
theorem So1.few {ah : Nat → Nat → Bool} {n m : Nat} {h : Nat → Pc} {out : List Nat} (o : AO ah n) (s : So1 ah n m h out) : out.length ≤ n := by
  have := nodup_leB out (List.range n) (by
    rw [List.nodup_iff_pairwise_ne]
    refine (List.Pairwise.and_mem.1 s.ord).imp ?_
    rintro x y ⟨hx, hy, hxy⟩ e
    subst e
    rw [o.irr x ((s.all x).2 (Or.inl hx))] at hxy
    cases hxy) (fun x hx => List.mem_range.2 ((s.all x).2 (Or.inl hx)))
  simpa using this
theorem make_zero (n : Nat) (h : n ≤ 1099511627776) (w : World) : (Instr.makeSlice 86 (.int .i64 0) (.int .i64 (n : Int))).run Tryz.prog w = .ok (.slice (some ⟨w.heap.size, 0, none⟩) 0 n) (w.alloc (.cells (madeCells #[.int .i64 0] n) 3)) := by
  obtain ⟨i, i1, i0⟩ := Option.map_eq_some_iff.1 int_info
  have i2 : i.zero = some (.int .i64 0) := congrArg (·.1) i0
  have i3 : i.bytes = 8 := congrArg (·.2.1) i0
  have i4 : i.size = 1 := congrArg (·.2.2) i0
  have := run_make (P := Tryz.prog) w 86 3 i (.int .i64 0) Tryz.underlying86 i1 i2 .i64 .i64 0 (n : Int) (by omega) (by omega) (by rw [i3]; omega) (by omega)
  rw [i4] at this
  simpa [Value.cells] using this
def inV (l : List Nat) : List Value := l.map fun (p : Nat) => Value.int .i64 (p : Int)
theorem inV_more (l : List Nat) (p : Nat) : inV (l ++ [p]) = inV l ++ [Value.int .i64 (p : Int)] := by simp [inV]
theorem inV_len (l : List Nat) : (inV l).length = l.length := by simp [inV]
/-- a row is kept where its block is not touched. -/
theorem OH.ob {w w' : World} {e : TypeId} {B hb : Nat} {v : Value} {l : List Value} (h : OH w e B v l) (hO : OB hb w w') (hB : hb < B) : OH w' e B v l := by
  refine ⟨h.1, ?_⟩
  rcases h.2 with h2 | ⟨g, cap, cur, e1, e2, e3, e4⟩
  · exact Or.inl h2
  · exact Or.inr ⟨g, cap, cur, e1, e2, by rw [hO.keep g (Array.getElem?_eq_some_iff.1 e3).1 (by omega)]; exact e3, e4⟩
theorem HR.belowC {w w' : World} {hb m b0 n C : Nat} {h : Nat → Pc} (r : HR w hb m b0 n h) (hB : Below C w w') (hC : hb < C) : HR w' hb m b0 n h := ⟨Nat.lt_of_lt_of_le r.1 hB.size, fun i hi => by
  rw [hB.cell (p := ⟨hb, i, none⟩) hC, hB.frozen (p := ⟨hb, i, none⟩) hC]; exact r.2 i hi⟩
/-- what stands while the first of all is taken off. -/
structure TK1 (w0 : World) (b0 n hb Bo : Nat) (ah : Nat → Nat → Bool) (m : Nat) (g : Nat → Pc) (v : Value) (out : List Nat) (wr : World) : Prop where
  s : So1 ah n m g out
  hp : HP (hl ah) 0 m g
  hr : HR wr hb m b0 n g
  row : OH wr 3 Bo v (inV out)
  bl : Below w0.heap.size w0 wr
  sz : Bo ≤ wr.heap.size
/-- while the heap is made: from j on it stands. -/
structure BL1 (w0 : World) (b0 n hb m : Nat) (ah : Nat → Nat → Bool) (j : Nat) (g : Nat → Pc) (wr : World) : Prop where
  s : So1 ah n m g []
  hp : HP (hl ah) j m g
  hr : HR wr hb m b0 n g
  bl : Below w0.heap.size w0 wr
theorem OH.hr {w : World} {B hb m c b0 n : Nat} {h : Nat → Pc} (r : OH w 86 B (.slice (some ⟨hb, 0, none⟩) m c) (plV b0 n h m)) : HR w hb m b0 n h := by
  have hl : (plV b0 n h m).length = m := by simp [plV]
  unfold OH at r
  rw [hl] at r
  have hcs := World.ownsRow.cells r (g := hb) rfl
  refine ⟨(World.ownsRow.lt r hb rfl).2, fun i hi => ⟨?_, World.ownsRow.frozenAt r i⟩⟩
  have := hcs i (pV b0 n (h i)) (by simp [plV, hi])
  rw [addB, Nat.zero_add] at this
  exact this
/-- what sorted tells. -/
def SrtR (w w' : World) (ah : Nat → Nat → Bool) (n : Nat) (e : Ending) : Prop := ∃ (out : List Nat) (g c : Nat), e = .returned (.slice (some ⟨g, 0, none⟩) out.length c) ∧ Sorted1 ah n out ∧ g < w'.heap.size ∧ (∀ (i p : Nat), out[i]? = some p → w'.cell? ⟨g, i, none⟩ = some (.int .i64 (p : Int))) ∧ Below w.heap.size w w'
set_option maxRecDepth 100000 in
set_option maxHeartbeats 8000000 in
theorem sorted_any (w : World) (b0 n P1 : Nat) (ah : Nat → Nat → Bool) (o : AO ah n) (hA : AhA w 19 #[.pointer (some ⟨P1, 0, none⟩)] n ah) (hw : PW w b0 n) (hn : n ≤ 1099511627770) :
    Calls Tryz.prog 18 #[.slice (some ⟨b0, 0, none⟩) n n, .func (.func 19) #[] #[.pointer (some ⟨P1, 0, none⟩)]] w fun e w' => SrtR w w' ah n e := by
  obtain ⟨w0, hw0⟩ : ∃ w0, w0 = w.alloc (.cells #[.func (.func 19) #[] #[.pointer (some ⟨P1, 0, none⟩)]] 89) := ⟨_, rfl⟩
  obtain ⟨P2, hP2⟩ : ∃ P2, P2 = w.heap.size := ⟨_, rfl⟩
  have B0 : Below w.heap.size w w0 := by rw [hw0]; exact (Below.refl _ w).alloc (Nat.le_refl _) _
  have s0 : w0.heap.size = P2 + 1 := by rw [hw0, hP2]; simp
  have c0 : w0.cell? ⟨P2, 0, none⟩ = some (.func (.func 19) #[] #[.pointer (some ⟨P1, 0, none⟩)]) := by rw [hw0, hP2]; simp [go_sem]
  have hA0 : AhA w0 19 #[.pointer (some ⟨P1, 0, none⟩)] n ah := fun a b W h1 h2 h3 => hA a b W h1 h2 (B0.trans (h3.mono B0.size))
  have hw1 : PW w0 b0 n := hw.below B0
  have CP : Hid _ := pieces_any w0 b0 n P1 ah hA0 hw1 hn
  have hFH : Hid (FiA w0 b0 n P2 ah) := fun p q W h1 h2 h3 h4 h5 => first_any w0 b0 n P1 P2 ah hA0 hw1 (by omega) c0 p q W h1 h2 h3 h4 (by omega) h5
  have hwH : Hid (PW w0 b0 n) := hw1
  have B0H : Hid (Below w.heap.size w w0) := B0
  have hmk := make_zero n (by omega)
  clear hA hA0 hw hw1 B0
  go_enter Tryz.func18, Tryz.ntmps18
  go_wp2_with fail
  rw [← hw0, ← hP2]
  clear hw0 c0 hP2 s0
  refine Calls.mono CP.out ?_
  rintro e w1 ⟨a, m, c, h, rfl, hC⟩
  clear CP
  rcases (hC.row.len).2 with m0 | ⟨hb, rfl, hb1, hb2⟩
  · subst m0
    have n0 : n = 0 := by
      rcases Nat.eq_zero_or_pos n with q | q
      · exact q
      · obtain ⟨i, hi, _⟩ := (hC.ct.upto 0).2 q
        omega
    subst n0
    have B1 : Hid (Below w.heap.size w w1) := B0H.out.trans (hC.bl.mono B0H.out.size)
    have hmk0 : ∀ w, (Instr.makeSlice 86 (.int .i64 0) (.int .i64 0)).run Tryz.prog w = .ok (.slice (some ⟨w.heap.size, 0, none⟩) 0 0) (w.alloc (.cells (madeCells #[.int .i64 0] 0) 3)) := fun w => by simpa using make_zero 0 (by omega) w
    clear hC hFH hwH B0H hmk
    go_wp2_with fail
    go_loopw [7] (fun v wr => v = .int .i64 (-1) ∧ wr = w1) (fun _ _ => 0)
    case atStart => exact ⟨rfl, rfl⟩
    case round =>
      obtain ⟨rfl, hwr⟩ := hrel
      subst hwr
      have fin : Hid (SrtR w (wr.alloc (.cells (madeCells #[.int .i64 0] 0) 3)) ah 0 (.returned (.slice (some ⟨wr.heap.size, 0, none⟩) 0 0))) := ⟨[], wr.heap.size, 0, rfl, ⟨List.Pairwise.nil, fun p => by simp⟩, by simp, fun i p hi => by simp at hi, B1.out.alloc B1.out.size _⟩
      clear B1
      go_wp2_with fail
      generalize wr.alloc (.cells (madeCells #[.int .i64 0] 0) 3) = w2 at fin ⊢
      generalize wr.heap.size = go at fin ⊢
      go_loopw [5, 8] (fun v5 v8 wx => v5 = .slice a 0 c ∧ v8 = .slice (some ⟨go, 0, none⟩) 0 0 ∧ wx = w2) (fun _ _ _ => 0)
      case atStart => exact ⟨rfl, rfl, rfl⟩
      case round =>
        obtain ⟨rfl, rfl, hwx⟩ := hrel
        subst hwx
        go_wp2_with fail
        go_ret
        exact fin.out
  · have hmc : m ≤ c := by
      have hl : (plV b0 n h m).length = m := by simp [plV]
      have r := hC.row
      unfold OH at r
      rw [hl] at r
      rcases r.2 with ⟨q, _⟩ | ⟨g', cap, cur, q, _, _, hc', _⟩
      · cases q
      · injection q with q1 q2 q3
        omega
    have S0 : Hid (BL1 w0 b0 n hb m ah m h w1) := ⟨hC.ct.start, HP.none m h, hC.row.hr, hC.bl⟩
    have mn : m ≤ n := hC.few
    have psm : Hid (w0.heap.size ≤ hb) := hb1
    have z1 : IntKind.i64.wrap ((m : Int) - 1) = (m : Int) - 1 := IntWalk.i64_in _ (by omega)
    clear hC
    go_wp2_with fail
    go_loopw [7] (fun v wr => ∃ (j : Nat) (R : Int) (g : Nat → Pc), v = .int .i64 R ∧ Hid (R = (j : Int) - 1) ∧ j ≤ m ∧ Hid (BL1 w0 b0 n hb m ah j g wr)) (fun v _ => (intOf v + 1).toNat)
    case atStart => exact ⟨m, (m : Int) - 1, h, rfl, rfl, Nat.le_refl _, S0⟩
    case round =>
      clear S0 z1
      obtain ⟨j, R, g, rfl, hR, hjm, hS⟩ := hrel
      by_cases hj : 0 ≤ R
      · obtain ⟨q, hq⟩ : ∃ q : Nat, R = (q : Int) := ⟨R.toNat, by omega⟩
        subst hq
        have hjq : j = q + 1 := by have := hR.out; omega
        subst hjq
        have hqI : (q : Int) ≥ 0 := by omega
        have qw : IntKind.i64.wrap ((q : Int) - 1) = (q : Int) - 1 := IntWalk.i64_in _ (by omega)
        have C : Hid _ := sink_any w0 b0 n P2 ah o hFH.out hb m c q q g wr hS.out.hr hS.out.bl psm.out hS.out.s.ps (HX.start hS.out.hp) (Nat.le_refl _) (by omega) (by omega)
        go_wp2_with fail
        refine Calls.mono C.out ?_
        rintro e w2 ⟨rfl, g', P2', H2, R2, O2⟩
        have S2 : Hid (BL1 w0 b0 n hb m ah q g' w2) := ⟨hS.out.s.pr P2', H2, R2, O2.into hS.out.bl psm.out hS.out.bl.size⟩
        clear C hS H2 R2 O2 P2'
        go_wp2_with fail
        exact ⟨⟨q, (q : Int) - 1, g', rfl, rfl, by omega, S2⟩, by simp [intOf] <;> omega⟩
      · have hjI : ¬ R ≥ 0 := by omega
        have hj0 : j = 0 := by have := hR.out; omega
        subst hj0
        obtain ⟨Bo, hBo⟩ : ∃ Bo, Bo = wr.heap.size := ⟨_, rfl⟩
        have T0 : Hid (TK1 w0 b0 n hb Bo ah m g (.slice (some ⟨Bo, 0, none⟩) 0 n) [] (wr.alloc (.cells (madeCells #[.int .i64 0] n) 3))) := by
          have bA : Below wr.heap.size wr (wr.alloc (.cells (madeCells #[.int .i64 0] n) 3)) := (Below.refl _ wr).alloc (Nat.le_refl _) _
          refine ⟨hS.out.s, hS.out.hp, hS.out.hr.below bA, ?_, hS.out.bl.trans (bA.mono hS.out.bl.size), by rw [hBo]; exact bA.size⟩
          have := World.ownsRow_made (e := 3) (size := 1) (base := wr.heap.size) wr (madeCells #[.int .i64 0] n) n (Nat.le_refl _) (by simp [maxLen]; omega) (by simp [madeCells])
          rw [← hBo] at this
          exact this
        have hbo : hb < Bo := by rw [hBo]; exact hS.out.hr.1
        have B0o : w0.heap.size ≤ Bo := by rw [hBo]; exact hS.out.bl.size
        clear hS hR
        go_wp2_with fail
        rw [← hBo]
        generalize wr.alloc (.cells (madeCells #[.int .i64 0] n) 3) = w3 at T0 ⊢
        clear hBo hmk
        go_loopw [5, 8] (fun v5 v8 wx => ∃ (k ch z go co : Nat) (g : Nat → Pc) (out : List Nat), v5 = .slice (some ⟨hb, 0, none⟩) k ch ∧ v8 = .slice (some ⟨go, 0, none⟩) z co ∧ k ≤ m ∧ k ≤ ch ∧ Hid (out.length = z ∧ TK1 w0 b0 n hb Bo ah k g (.slice (some ⟨go, 0, none⟩) z co) out wx)) (fun _ v8 _ => n - slLen v8)
        case atStart => exact ⟨m, c, 0, Bo, n, g, [], rfl, rfl, Nat.le_refl _, hmc, ⟨rfl, T0.out⟩⟩
        case round =>
          clear T0
          obtain ⟨k, ch, z, go, co, g, out, rfl, rfl, hkm, hkc, hT⟩ := hrel
          by_cases hk : 0 < k
          · have hkI : (k : Int) > 0 := by omega
            have hkJ : (0 : Int) < (k : Int) := by omega
            have T := hT.out.2
            have zl := hT.out.1
            have run0 := T.s.ps.run 0 hk
            have few := T.s.few o
            obtain ⟨s, e, hse⟩ : ∃ s e, g 0 = (s, e) := ⟨(g 0).1, (g 0).2, rfl⟩
            have a1 := (T.hr.2 0 hk).1
            have a2 := (T.hr.2 0 hk).2
            rw [hse] at run0 a1
            have s1 : s < e := run0.1.1
            have s2 : e ≤ n := run0.2
            have b1 : wr.cell? ⟨b0, s, none⟩ = some (.int .i64 (s : Int)) := by rw [T.bl.cell (p := ⟨b0, s, none⟩) hwH.out.1]; exact hwH.out.2 s (by omega)
            obtain ⟨go1, co1, w4, hr1, ho1, hb4⟩ := app1H 86 3 (.int .i64 0) 8 Tryz.underlying86 int_info rfl (by omega) (by omega) wr Bo (.slice (some ⟨go, 0, none⟩) z co) (inV out) T.row T.sz (.int .i64 (s : Int)) rfl (by rw [inV_len]; omega)
            rw [inV_len, zl] at hr1 ho1
            rw [← inV_more] at ho1
            have hrH : Hid (∀ W, W = wr.alloc (.cells #[.int .i64 (s : Int)] 3) → (Builtin.append_ #[86, 86] 86 #[.slice (some ⟨go, 0, none⟩) z co, .slice (some ⟨wr.heap.size, 0, none⟩) 1 1]).run Tryz.prog W = .ok (.slice (some ⟨go1, 0, none⟩) (z + 1) co1) w4) := fun W e => by subst e; exact hr1
            have R4 : HR w4 hb k b0 n g := T.hr.belowC hb4 hbo
            have Bl4 : Below w0.heap.size w0 w4 := T.bl.trans (hb4.mono B0o)
            have c1 := (R4.2 0 hk).1
            have c2 := (R4.2 0 hk).2
            rw [hse] at c1
            have sz4 : Bo ≤ w4.heap.size := Nat.le_trans T.sz hb4.size
            have hseH : Hid (g 0 = (s, e)) := hse
            have hcommon : Hid (HR w4 hb k b0 n g ∧ Below w0.heap.size w0 w4 ∧ Bo ≤ w4.heap.size ∧ OH w4 3 Bo (.slice (some ⟨go1, 0, none⟩) (z + 1) co1) (inV (out ++ [s]))) := ⟨R4, Bl4, sz4, ho1⟩
            have l1 : 0 < e - s := by omega
            have l1I : (0 : Int) < ((e - s : Nat) : Int) := by omega
            have lc : 1 ≤ n - s := by omega
            have lcI : (1 : Int) ≤ ((n - s : Nat) : Int) := by omega
            have tail : Hid (∀ (k' : Nat) (g' : Nat → Pc) (W : World) (ch' : Nat), So1 ah n k' g' (out ++ [s]) → HX (hl ah) 0 0 k' g' → HR W hb k' b0 n g' → OB hb w4 W → k' ≤ m → Calls Tryz.prog 69 #[.slice (some ⟨hb, 0, none⟩) k' ch', .int .i64 0, .func (.func 68) #[] #[.pointer (some ⟨P2, 0, none⟩)]] W fun e w' => e = .returned undef ∧ ∃ g2, TK1 w0 b0 n hb Bo ah k' g2 (.slice (some ⟨go1, 0, none⟩) (z + 1) co1) (out ++ [s]) w') := fun k' g' W ch' q1 q2 q3 q4 q5 => by
              have BW : Below w0.heap.size w0 W := q4.into Bl4 psm.out Bl4.size
              refine (sink_any w0 b0 n P2 ah o hFH.out hb k' ch' 0 0 g' W q3 BW psm.out q1.ps q2 (Nat.le_refl _) (Nat.zero_le _) (by omega)).mono fun e w' hh => ?_
              obtain ⟨rfl, g2, p1, p2, p3, p4⟩ := hh
              exact ⟨rfl, g2, q1.pr p1, p2, p3, (ho1.ob q4 hbo).ob p4 hbo, p4.into BW psm.out BW.size, Nat.le_trans sz4 (Nat.le_trans q4.size p4.size)⟩
            have TH : Hid (TK1 w0 b0 n hb Bo ah k g (.slice (some ⟨go, 0, none⟩) z co) out wr) := T
            have zn : z + 1 ≤ n := by
              have : s ∉ out := fun hx => by
                have := T.s.fore s s hx ⟨0, hk, by rw [hse]; exact Nat.le_refl _, by rw [hse]; exact s1⟩
                rw [o.irr s (by omega)] at this
                cases this
              have q := nodup_leB (s :: out) (List.range n) (List.nodup_cons.2 ⟨this, by
                rw [List.nodup_iff_pairwise_ne]
                refine (List.Pairwise.and_mem.1 T.s.ord).imp ?_
                rintro x y ⟨hx, hy, hxy⟩ e
                subst e
                rw [o.irr x ((T.s.all x).2 (Or.inl hx))] at hxy
                cases hxy⟩) (fun x hx => by
                  rcases List.mem_cons.1 hx with e | e
                  · rw [e]; exact List.mem_range.2 (by omega)
                  · exact List.mem_range.2 ((T.s.all x).2 (Or.inl e)))
              simp at q; omega
            clear T hT hr1 ho1 hb4 R4 Bl4 sz4 hse run0
            unfold pV at a1 c1
            simp only at a1 c1
            by_cases hl1 : s + 1 < e
            · have hlI : ((e - s : Nat) : Int) > 1 := by omega
              have hlJ : (1 : Int) < ((e - s : Nat) : Int) := by omega
              have ne1 : ¬ 1 = n - s := by omega
              have hpv : pV b0 n (s + 1, e) = .slice (some ⟨b0, s + 1, none⟩) (e - s - 1) (n - s - 1) := by unfold pV; simp only; rw [show e - (s + 1) = e - s - 1 by omega, show n - (s + 1) = n - s - 1 by omega]
              have C : Hid (Calls Tryz.prog 69 #[.slice (some ⟨hb, 0, none⟩) k ch, .int .i64 0, .func (.func 68) #[] #[.pointer (some ⟨P2, 0, none⟩)]] (w4.setCell ⟨hb, 0, none⟩ (.slice (some ⟨b0, s + 1, none⟩) (e - s - 1) (n - s - 1))) fun e w' => e = .returned undef ∧ ∃ g2, TK1 w0 b0 n hb Bo ah k g2 (.slice (some ⟨go1, 0, none⟩) (z + 1) co1) (out ++ [s]) w') := by
                have hs1 : So1 ah n k (fun i => if i = 0 then (s + 1, e) else g i) (out ++ [s]) := by
                  have := TH.out.s.more (g := fun i => if i = 0 then (s + 1, e) else g i) o TH.out.hp hk (by rw [hseH.out]; exact hl1) (by rw [hseH.out]; rfl) (fun i h1 h2 => by simp; omega)
                  rw [hseH.out] at this; exact this
                refine tail.out k _ _ ch hs1 (HX.top TH.out.hp k (Nat.le_refl _) (fun i h1 h2 => by simp; omega)) ?_ (OB.set _ _ _) hkm
                rw [← hpv]; exact hcommon.out.1.set hk (s + 1, e)
              clear tail TH hcommon hseH
              generalize e - s = le at *
              generalize n - s = lc' at *
              go_wp2_with (at_builtin; refine wpList_append_runB (by rfl) _ _ _ (by rfl) _ _ _ _ (by rfl) (by rfl) (hrH.out _ rfl) ?_)
              refine Calls.mono C.out ?_
              rintro e' w5 ⟨rfl, g2, T5⟩
              have T5H : Hid (TK1 w0 b0 n hb Bo ah k g2 (.slice (some ⟨go1, 0, none⟩) (z + 1) co1) (out ++ [s]) w5) := T5
              clear T5 C hrH a1 a2 b1 c1 c2
              go_wp2_with fail
              exact ⟨⟨k, ch, z + 1, go1, co1, g2, out ++ [s], rfl, rfl, hkm, hkc, ⟨by rw [List.length_append, zl]; rfl, T5H.out⟩⟩, by simp [slLen]; omega⟩
            · have hlI : ¬ ((e - s : Nat) : Int) > 1 := by omega
              have hlJ : ¬ (1 : Int) < ((e - s : Nat) : Int) := by omega
              obtain ⟨k', rfl⟩ : ∃ k', k = k' + 1 := ⟨k - 1, by omega⟩
              have kw : IntKind.i64.wrap ((k' : Int) + 1 - 1) = (k' : Int) := by rw [show (k' : Int) + 1 - 1 = (k' : Int) by omega]; exact IntWalk.i64_in _ (by omega)
              have kw2 : IntKind.i64.wrap (((k' + 1 : Nat) : Int) - 1) = (k' : Int) := by rw [show ((k' + 1 : Nat) : Int) - 1 = (k' : Int) by omega]; exact IntWalk.i64_in _ (by omega)
              have k0 : (0 : Int) ≤ (k' : Int) := by omega
              have k1 : (k' : Int) < (k' : Int) + 1 := by omega
              have k2 : (k' : Int) ≤ (ch : Int) := by omega
              obtain ⟨ax, lx, cx, hX⟩ : ∃ ax lx cx, pV b0 n (g k') = .slice ax lx cx := ⟨_, _, _, rfl⟩
              have d1 : w4.cell? ⟨hb, k', none⟩ = some (.slice ax lx cx) := by rw [← hX]; exact (hcommon.out.1.2 k' (by omega)).1
              have C : Hid (Calls Tryz.prog 69 #[.slice (some ⟨hb, 0, none⟩) k' ch, .int .i64 0, .func (.func 68) #[] #[.pointer (some ⟨P2, 0, none⟩)]] (w4.setCell ⟨hb, 0, none⟩ (.slice ax lx cx)) fun e w' => e = .returned undef ∧ ∃ g2, TK1 w0 b0 n hb Bo ah k' g2 (.slice (some ⟨go1, 0, none⟩) (z + 1) co1) (out ++ [s]) w') := by
                have hs1 : So1 ah n k' (fun i => if i = 0 then g k' else g i) (out ++ [s]) := by
                  have := TH.out.s.less (g := fun i => if i = 0 then g k' else g i) o TH.out.hp (by rw [hseH.out]; show e = s + 1; omega) (fun _ => rfl) (fun i h1 h2 => by simp; omega)
                  rw [hseH.out] at this; exact this
                refine tail.out k' _ _ ch hs1 (HX.top TH.out.hp k' (by omega) (fun i h1 h2 => by simp; omega)) ?_ (OB.set _ _ _) (by omega)
                rw [← hX]
                have := hcommon.out.1.set (k := 0) hk (g k')
                exact ⟨this.1, fun i hi => this.2 i (by omega)⟩
              clear tail TH hcommon hseH hX
              generalize e - s = le at *
              generalize n - s = lc' at *
              go_wp2_with (at_builtin; refine wpList_append_runB (by rfl) _ _ _ (by rfl) _ _ _ _ (by rfl) (by rfl) (hrH.out _ rfl) ?_)
              refine Calls.mono C.out ?_
              rintro e' w5 ⟨rfl, g2, T5⟩
              have T5H : Hid (TK1 w0 b0 n hb Bo ah k' g2 (.slice (some ⟨go1, 0, none⟩) (z + 1) co1) (out ++ [s]) w5) := T5
              clear T5 C hrH a1 a2 b1 c1 c2 d1
              go_wp2_with fail
              exact ⟨⟨k', ch, z + 1, go1, co1, g2, out ++ [s], rfl, rfl, by omega, by omega, ⟨by rw [List.length_append, zl]; rfl, T5H.out⟩⟩, by simp [slLen]; omega⟩
          · have hkI : ¬ (k : Int) > 0 := by omega
            have hkJ : ¬ (0 : Int) < (k : Int) := by omega
            obtain rfl : k = 0 := by omega
            have fin : Hid (SrtR w wr ah n (.returned (.slice (some ⟨go, 0, none⟩) z co))) := by
              obtain ⟨zl, T⟩ := hT.out
              have ro := T.row
              unfold OH at ro
              refine ⟨out, go, co, by rw [zl], T.s.done, (World.ownsRow.lt ro go rfl).2, fun i p hi => ?_, B0H.out.trans (T.bl.mono B0H.out.size)⟩
              have hcs := World.ownsRow.cells ro (g := go) rfl
              have := hcs i (.int .i64 (p : Int)) (by simp [inV, hi])
              rw [addB, Nat.zero_add] at this
              exact this
            clear hT
            go_wp2_with fail
            go_ret
            exact fin.out
end Go.Proofs.YtpbcbpiolhjlhaaGreatDoor.So


namespace Go.Proofs.YtpbcbpiolhjlhaaGreatDoor
open Go.RowKit
set_option linter.unusedVariables false
set_option linter.unusedSimpArgs false
/-- an order told by -1, 0, 1. -/
structure IsCmp {α : Type} (c : α → α → Int) : Prop where
  range : ∀ a b, c a b = -1 ∨ c a b = 0 ∨ c a b = 1
  flip : ∀ a b, c b a = - c a b
  zero : ∀ a b, c a b = 0 ↔ a = b
  trans : ∀ a b d, c a b ≤ 0 → c b d ≤ 0 → c a d ≤ 0
theorem IsCmp.lt {α : Type} {c : α → α → Int} (h : IsCmp c) {a b d : α} (h1 : c a b < 0) (h2 : c b d ≤ 0) : c a d < 0 := by
  have h3 := h.trans a b d (by omega) h2
  rcases h.range a d with e | e | e
  · omega
  · have := (h.zero a d).1 e
    subst this
    have := h.flip a b
    omega
  · omega
theorem IsCmp.lt2 {α : Type} {c : α → α → Int} (h : IsCmp c) {a b d : α} (h1 : c a b ≤ 0) (h2 : c b d < 0) : c a d < 0 := by
  have h3 := h.trans a b d h1 (by omega)
  rcases h.range a d with e | e | e
  · omega
  · have := (h.zero a d).1 e
    subst this
    have := h.flip a b
    omega
  · omega
/-- one behind the other. -/
def lexC {α : Type} (c : α → α → Int) : List α → List α → Int
  | [], [] => 0
  | [], _ :: _ => -1
  | _ :: _, [] => 1
  | a :: r, b :: s => if c a b = 0 then lexC c r s else c a b
theorem lexC_is {α : Type} {c : α → α → Int} (h : IsCmp c) : IsCmp (lexC c) where
  range := by
    intro a
    induction a with
    | nil => intro b; cases b <;> simp [lexC]
    | cons x r ih =>
      intro b
      cases b with
      | nil => simp [lexC]
      | cons y s =>
        simp only [lexC]
        split
        · exact ih s
        · exact h.range x y
  flip := by
    intro a
    induction a with
    | nil => intro b; cases b <;> simp [lexC]
    | cons x r ih =>
      intro b
      cases b with
      | nil => simp [lexC]
      | cons y s =>
        simp only [lexC]
        have := h.flip x y
        by_cases e : c x y = 0
        · rw [if_pos e, if_pos (by omega)]; exact ih s
        · rw [if_neg e, if_neg (by omega)]; exact this
  zero := by
    intro a
    induction a with
    | nil => intro b; cases b <;> simp [lexC]
    | cons x r ih =>
      intro b
      cases b with
      | nil => simp [lexC]
      | cons y s =>
        simp only [lexC]
        by_cases e : c x y = 0
        · rw [if_pos e, ih s, (h.zero x y).1 e]; simp
        · rw [if_neg e]
          constructor
          · intro k; exact absurd k e
          · intro k
            injection k with k1 k2
            exact (h.zero x y).2 k1
  trans := by
    intro a
    induction a with
    | nil => intro b d; cases d <;> simp [lexC]
    | cons x r ih =>
      intro b d
      cases b with
      | nil => simp [lexC]
      | cons y s =>
        cases d with
        | nil => simp [lexC]
        | cons z t =>
          simp only [lexC]
          intro h1 h2
          by_cases e1 : c x y = 0
          · have := (h.zero x y).1 e1
            subst this
            rw [if_pos e1] at h1
            by_cases e2 : c x z = 0
            · rw [if_pos e2] at h2 ⊢; exact ih s t h1 h2
            · rw [if_neg e2] at h2 ⊢; exact h2
          · rw [if_neg e1] at h1
            by_cases e2 : c y z = 0
            · have := (h.zero y z).1 e2
              subst this
              rw [if_neg e1]; exact h1
            · rw [if_neg e2] at h2
              have := h.trans x y z h1 h2
              by_cases e3 : c x z = 0
              · have := h.lt (a := x) (b := y) (d := z) (by omega) h2
                omega
              · rw [if_neg e3]; exact this
/-- the first one first. -/
def pairC {α β : Type} (c : α → α → Int) (d : β → β → Int) (a b : α × β) : Int := if c a.1 b.1 = 0 then d a.2 b.2 else c a.1 b.1
theorem pairC_is {α β : Type} {c : α → α → Int} {d : β → β → Int} (h : IsCmp c) (k : IsCmp d) : IsCmp (pairC c d) where
  range := by
    intro a b
    unfold pairC
    split
    · exact k.range _ _
    · exact h.range _ _
  flip := by
    intro a b
    unfold pairC
    have := h.flip a.1 b.1
    by_cases e : c a.1 b.1 = 0
    · rw [if_pos e, if_pos (by omega)]; exact k.flip _ _
    · rw [if_neg e, if_neg (by omega)]; exact this
  zero := by
    rintro ⟨a1, a2⟩ ⟨b1, b2⟩
    unfold pairC
    simp only
    by_cases e : c a1 b1 = 0
    · rw [if_pos e, k.zero, (h.zero _ _).1 e]; simp
    · rw [if_neg e]
      constructor
      · intro q; exact absurd q e
      · intro q
        injection q with q1 q2
        exact (h.zero _ _).2 q1
  trans := by
    rintro ⟨a1, a2⟩ ⟨b1, b2⟩ ⟨d1, d2⟩
    unfold pairC
    simp only
    intro h1 h2
    by_cases e1 : c a1 b1 = 0
    · have := (h.zero _ _).1 e1
      subst this
      rw [if_pos e1] at h1
      by_cases e2 : c a1 d1 = 0
      · rw [if_pos e2] at h2 ⊢; exact k.trans _ _ _ h1 h2
      · rw [if_neg e2] at h2 ⊢; exact h2
    · rw [if_neg e1] at h1
      by_cases e2 : c b1 d1 = 0
      · have := (h.zero _ _).1 e2
        subst this
        rw [if_neg e1]; exact h1
      · rw [if_neg e2] at h2
        have := h.trans _ _ _ h1 h2
        by_cases e3 : c a1 d1 = 0
        · have := h.lt (a := a1) (b := b1) (d := d1) (by omega) h2
          omega
        · rw [if_neg e3]; exact this
def u8C (a b : UInt8) : Int := if a < b then -1 else if b < a then 1 else 0
theorem u8C_is : IsCmp u8C where
  range := by intro a b; unfold u8C; split <;> (try split) <;> simp
  flip := by
    intro a b
    unfold u8C
    simp only [UInt8.lt_iff_toNat_lt]
    split <;> split <;> (try split) <;> (try omega)
  zero := by
    intro a b
    unfold u8C
    rw [← UInt8.toNat_inj]
    simp only [UInt8.lt_iff_toNat_lt]
    split <;> (try split) <;> (try omega)
  trans := by
    intro a b d
    unfold u8C
    simp only [UInt8.lt_iff_toNat_lt]
    split <;> (try split) <;> (first | omega | skip) <;> (try split) <;> (try split) <;> (try split) <;> (try split) <;> (try omega)
theorem cmpB_lex : ∀ a b : List UInt8, Lib.compareBytes a b = lexC u8C a b
  | [], [] => rfl
  | [], _ :: _ => rfl
  | _ :: _, [] => rfl
  | a :: r, b :: s => by
    have e : lexC u8C (a :: r) (b :: s) = if u8C a b = 0 then lexC u8C r s else u8C a b := rfl
    rw [e]
    unfold Lib.compareBytes
    rw [cmpB_lex r s]
    generalize lexC u8C r s = q
    unfold u8C
    by_cases h1 : a < b
    · simp [h1]
    · by_cases h2 : b < a
      · simp [h1, h2]
      · simp [h1, h2]
/-- two texts. -/
def strC (a b : ByteArray) : Int := Lib.compareBytes a.data.toList b.data.toList
theorem strC_is : IsCmp strC where
  range := by intro a b; unfold strC; rw [cmpB_lex]; exact (lexC_is u8C_is).range _ _
  flip := by intro a b; unfold strC; rw [cmpB_lex, cmpB_lex]; exact (lexC_is u8C_is).flip _ _
  zero := by
    intro a b
    unfold strC
    rw [cmpB_lex, (lexC_is u8C_is).zero]
    constructor
    · intro h
      cases a; cases b
      simp only at h
      congr 1
      exact Array.toList_inj.1 h
    · intro h; rw [h]
  trans := by intro a b d; unfold strC; rw [cmpB_lex, cmpB_lex, cmpB_lex]; exact (lexC_is u8C_is).trans _ _ _
theorem less_lex : ∀ a b : List UInt8, Op.bytesLess a b = decide (lexC u8C a b < 0)
  | [], [] => rfl
  | [], _ :: _ => rfl
  | _ :: _, [] => rfl
  | a :: r, b :: s => by
    have e : lexC u8C (a :: r) (b :: s) = if u8C a b = 0 then lexC u8C r s else u8C a b := rfl
    rw [Op.bytesLess, less_lex r s, e]
    generalize lexC u8C r s = q
    unfold u8C
    by_cases h1 : a < b
    · simp [h1]
    · by_cases h2 : b < a
      · simp [h1, h2]
        intro h; subst h; exact absurd h2 (UInt8.lt_irrefl _)
      · have : a = b := UInt8.le_antisymm (UInt8.not_lt.1 h2) (UInt8.not_lt.1 h1)
        subst this
        simp [h1]
theorem less_str (a b : ByteArray) : Op.bytesLess a.toList b.toList = decide (strC a b < 0) := by
  rw [Lib.toList_data, Lib.toList_data, less_lex]; unfold strC; rw [cmpB_lex]
theorem same_str (a b : ByteArray) : (a.toList == b.toList) = decide (strC a b = 0) := by
  rw [Lib.toList_data, Lib.toList_data]
  by_cases h : a = b
  · subst h; simp [(strC_is.zero a a).2 rfl]
  · have h1 : ¬ strC a b = 0 := fun e => h ((strC_is.zero a b).1 e)
    have h2 : ¬ a.data.toList = b.data.toList := by
      intro e
      apply h
      cases a; cases b
      simp only at e
      congr 1
      exact Array.toList_inj.1 e
    rw [beq_eq_false_iff_ne.2 h2, decide_eq_false h1]
abbrev TagP := ByteArray × ByteArray
def tagC : TagP → TagP → Int := pairC strC strC
def tagsC : List TagP → List TagP → Int := lexC tagC
theorem tagsC_is : IsCmp tagsC := lexC_is (pairC_is strC_is strC_is)
/-- a series: its measure, its tags, its field. -/
structure SerP where
  m : ByteArray
  t : List TagP
  f : ByteArray
def serC (a b : SerP) : Int := pairC strC (pairC tagsC strC) (a.m, a.t, a.f) (b.m, b.t, b.f)
theorem serC_is : IsCmp serC where
  range := by intro a b; exact (pairC_is strC_is (pairC_is tagsC_is strC_is)).range _ _
  flip := by intro a b; exact (pairC_is strC_is (pairC_is tagsC_is strC_is)).flip _ _
  zero := by
    intro a b
    unfold serC
    rw [(pairC_is strC_is (pairC_is tagsC_is strC_is)).zero]
    cases a; cases b; simp
  trans := by intro a b d; exact (pairC_is strC_is (pairC_is tagsC_is strC_is)).trans _ _ _
end Go.Proofs.YtpbcbpiolhjlhaaGreatDoor
