
import Derived.Test.YtjiiafmbneehhaaDoorTxJ
namespace Go.Proofs.YtjiiafmbneehhaaDoor.Lx
open Go.RowKit Go.Shelf
set_option linter.unusedVariables false
set_option linter.unusedSimpArgs false
set_option maxRecDepth 100000
def tkO (x : TkP) : Tok := ⟨x.k, bL x.t, x.n⟩
theorem lex_succ (nm : NmF) (f : Nat) (L : List UInt8) : lexL nm (f + 1) L = (match readT nm (skipL L) with
    | none => none
    | some (t, j) => if t.k = 0 then some [t] else (lexL nm f ((skipL L).drop j)).map (t :: ·)) := rfl
/-- how far the text is cut. -/
def LI (s : ByteArray) (k : Nat) (L : List TkP) : Prop := ∃ f, s.size - k + 1 ≤ f ∧ lexL nmL (s.size + 1) (bL s) = (lexL nmL f ((bL s).drop k)).map (L.map tkO ++ ·) ∧ L.length ≤ k
theorem LI.start (s : ByteArray) : LI s 0 [] := ⟨s.size + 1, by omega, by
  rw [List.drop_zero]
  cases lexL nmL (s.size + 1) (bL s) with
  | none => rfl
  | some l => rfl, Nat.le_refl _⟩
theorem LI.none {s : ByteArray} {k p : Nat} {L : List TkP} (h : LI s k L) (e1 : skipL ((bL s).drop k) = (bL s).drop p) (e2 : readT nmL ((bL s).drop p) = none) : lexL nmL (s.size + 1) (bL s) = none := by
  obtain ⟨f, hf, he, hl⟩ := h
  obtain ⟨g, rfl⟩ : ∃ g, f = g + 1 := ⟨f - 1, by omega⟩
  rw [he]
  rw [lex_succ, e1, e2]
  rfl
theorem LI.last {s : ByteArray} {k p : Nat} {L : List TkP} (h : LI s k L) (e1 : skipL ((bL s).drop k) = (bL s).drop p) {x : Tok × Nat} (e2 : readT nmL ((bL s).drop p) = some x) (e3 : x.1.k = 0) {T : ByteArray} (hT : bL T = x.1.t) (q : Int) : lexL nmL (s.size + 1) (bL s) = some ((L ++ [(⟨x.1.k, T, x.1.n, q⟩ : TkP)]).map tkO) := by
  obtain ⟨f, hf, he, hl⟩ := h
  obtain ⟨g, rfl⟩ : ∃ g, f = g + 1 := ⟨f - 1, by omega⟩
  rw [he]
  rw [lex_succ, e1, e2]
  obtain ⟨t, j⟩ := x
  show (if t.k = 0 then some [t] else _).map _ = _
  rw [if_pos e3]
  simp [tkO, hT]
theorem LI.step {s : ByteArray} {k p : Nat} {L : List TkP} (h : LI s k L) (hk : k ≤ p) (hp : p ≤ s.size) (e1 : skipL ((bL s).drop k) = (bL s).drop p) {x : Tok × Nat} (e2 : readT nmL ((bL s).drop p) = some x) (e3 : ¬ x.1.k = 0) {T : ByteArray} (hT : bL T = x.1.t) (q : Int) : LI s (p + x.2) (L ++ [(⟨x.1.k, T, x.1.n, q⟩ : TkP)]) ∧ k < p + x.2 ∧ p + x.2 ≤ s.size := by
  obtain ⟨f, hf, he, hl⟩ := h
  obtain ⟨g, rfl⟩ : ∃ g, f = g + 1 := ⟨f - 1, by omega⟩
  obtain ⟨t, j⟩ := x
  rcases read_valid nm_45 e2 with ⟨_, b, _⟩ | ⟨_, _, j1, j2⟩
  · exfalso; apply e3; show t.k = 0; rw [b]
  · rw [List.length_drop, bL_len] at j2
    refine ⟨⟨g, by show s.size - (p + j) + 1 ≤ g; omega, ?_, by rw [List.length_append]; show L.length + 1 ≤ p + j; omega⟩, by show k < p + j; omega, by show p + j ≤ s.size; omega⟩
    rw [he]
    rw [lex_succ, e1, e2]
    show (if t.k = 0 then some [t] else (lexL nmL g (((bL s).drop p).drop j)).map (t :: ·)).map _ = _
    rw [if_neg e3, List.drop_drop]
    cases lexL nmL g ((bL s).drop (p + j)) with
    | none => rfl
    | some l =>
      have hT2 : bL T = t.t := hT
      simp [tkO, hT2]
theorem wpList_append_runB {P : Program} {ops : Array Oper} {rest : List Oper} {o : Oper} {a : Act} {Q : Exit → Act → World → Prop} {w : World} (hgd : o.guard = none) (s x : Operand) (t : TypeId)
    (ho : o.op = .call { callee := .builtin .append, args := #[s, x], argTypes := #[t, t] }) (v y v' : Value) (w' : World) (hs : a.eval s = v) (hx : a.eval x = y) (hr : (Builtin.append_ #[t, t] o.type #[v, y]).run P w = .ok v' w')
    (h : wpList P ops Q rest (a.put o.dst v') w') : wpList P ops Q (o :: rest) a w := by
  refine wpList_plain hgd fun K hK => ?_
  unfold Oper.wp execOp
  simp only [ho, resolve, invoke, builtin, Sem.run_bind, Sem.run_pure, Result.andThen_ok, List.map_toArray, List.map_cons, List.map_nil, hs, hx, hr]
  exact hK _ _ h
/-- what All tells of a text that is not too long. -/
def AR (s : ByteArray) (B : Nat) (e : Ending) (w' : World) : Prop := match lexL nmL (s.size + 1) (bL s) with
  | none => ∃ q c, e = .returned (.tuple #[.slice none 0 0, atE q c])
  | some l => ∃ v L, e = .returned (.tuple #[v, .nilIface]) ∧ OK w' B v L ∧ L.map tkO = l ∧ L.length ≤ 4001
theorem lall_long (s : ByteArray) (hlt : ¬ s.size ≤ 4000) (w : World) : Calls Tryd.prog 4 #[.string s] w fun e w' => e = .returned (.tuple #[.slice none 0 0, .iface 33 (.int .i64 6)]) ∧ w' = w := by
  have k0 : (4000 : Int) < (s.size : Int) := by omega
  have cF : Hid (∀ W, Calls Tryd.prog 7 #[.int .i64 6] W fun e w' => e = .returned (.iface 33 (.int .i64 6)) ∧ w' = W) := fun W => fnew_any 6 rfl W
  go_enter Tryd.func4, Tryd.ntmps4
  go_wp2_with fail
  with_reducible refine Calls.mono (cF.out _) ?_
  rintro e w2 ⟨rfl, hw⟩
  subst hw
  go_wp2_with fail
  go_ret2
  exact ⟨rfl, rfl⟩
set_option maxHeartbeats 1000000 in
theorem lall_short (s : ByteArray) (hlt : s.size ≤ 4000) (w : World) (hP : PT w) : Calls Tryd.prog 4 #[.string s] w fun e w' => AR s w.heap.size e w' ∧ Below w.heap.size w w' := by
  have hs : s.size ≤ 1048576 := by omega
  have k0 : ¬ (4000 : Int) < (s.size : Int) := by omega
  have cX : Hid (∀ k, k ≤ s.size → ∀ W, Below w.heap.size w W → Calls Tryd.prog 8 #[.string s, .int .i64 (k : Int)] W fun e w' => NX s k e ∧ Below W.heap.size W w') := fun k hk W hb => lnext_any s hs k hk W (hP.on hb)
  have b0 : Hid (Below w.heap.size w w) := Below.refl _ _
  have o0 : Hid (OK w w.heap.size (.slice none 0 0) []) := OK.nil _ _
  have hN0 : Hid (w.heap.size ≤ w.heap.size) := Nat.le_refl _
  have i0 := hid (LI.start s)
  clear hP
  go_enter Tryd.func4, Tryd.ntmps4
  go_wp2_with fail
  go_loopw [4, 5] (fun v4 v5 wr => ∃ (k : Nat) (L : List TkP) (a : Option Addr) (cap : Nat), v4 = .slice a L.length cap ∧ v5 = .int .i64 (k : Int) ∧ k ≤ s.size ∧ Hid (OK wr w.heap.size (.slice a L.length cap) L) ∧ Hid (Below w.heap.size w wr) ∧ Hid (LI s k L)) (fun _ v5 _ => s.size - (intOf v5).toNat)
  case atStart => exact ⟨0, [], none, 0, rfl, rfl, Nat.zero_le _, o0, b0, i0⟩
  case round =>
    clear o0 b0 i0 hN0
    obtain ⟨k, L, a, cap, rfl, rfl, hk, hO, hB, hI⟩ := hrel
    go_wp2_with fail
    with_reducible refine Calls.mono (cX.out k hk _ hB.out) ?_
    rintro e w3 ⟨⟨p, hkp, hp, e1, hq⟩, b3⟩
    cases hR : readT nmL ((bL s).drop p) with
    | none =>
      rw [hR] at hq
      obtain ⟨q, c, rfl⟩ := hq
      have eN := hid (hI.out.none e1 hR)
      have B3 := hid (hB.out.trans (b3.mono hB.out.size))
      clear hO hB hI e1 hR b3 cX
      unfold tokZ atE
      go_wp2_with fail
      go_ret2
      refine ⟨?_, ((B3.out.alloc (by have := B3.out.size; omega) _))⟩
      unfold AR
      rw [eN.out]
      exact ⟨_, _, rfl⟩
    | some x =>
      rw [hR] at hq
      obtain ⟨T, rfl, hT⟩ := hq
      have B3 := hid (hB.out.trans (b3.mono hB.out.size))
      have O3 := hid (hO.out.below b3 (Nat.le_refl _))
      have A7 := KV.new w3 (.int .u8 (x.1.k : Int)) (.string T) (.int .i64 x.1.n) (.int .i64 (p : Int))
      have A8 := KV.new (w3.alloc (.cells #[.int .u8 (x.1.k : Int), .string T, .int .i64 x.1.n, .int .i64 (p : Int)] 29)) (.int .u8 (x.1.k : Int)) (.string T) (.int .i64 x.1.n) (.int .i64 (p : Int))
      have b7 : Below w3.heap.size w3 (w3.alloc (.cells #[.int .u8 (x.1.k : Int), .string T, .int .i64 x.1.n, .int .i64 (p : Int)] 29)) := (Below.refl _ w3).alloc (Nat.le_refl _) _
      have b8 : Below (w3.heap.size + 1) (w3.alloc (.cells #[.int .u8 (x.1.k : Int), .string T, .int .i64 x.1.n, .int .i64 (p : Int)] 29)) ((w3.alloc (.cells #[.int .u8 (x.1.k : Int), .string T, .int .i64 x.1.n, .int .i64 (p : Int)] 29)).alloc (.cells #[.int .u8 (x.1.k : Int), .string T, .int .i64 x.1.n, .int .i64 (p : Int)] 29)) := (Below.refl _ _).alloc (by rw [World.size_alloc]; exact Nat.le_refl _) _
      rw [World.size_alloc] at A8
      replace A7 := A7.below b8 (Nat.lt_succ_self _)
      have b9 := b7.trans (b8.mono (Nat.le_succ _))
      have B4 := B3.out.trans (b9.mono B3.out.size)
      have O4 := O3.out.below b9 (Nat.le_refl _)
      have lL : L.length ≤ 4000 := by obtain ⟨_, _, _, h⟩ := hI.out; omega
      have hM : ∀ g, (Value.slice a L.length cap).ownBlock = some g → g < w3.heap.size := fun g hg => (O3.out.bound hg).2
      obtain ⟨v', w', hr, hOK, hB5, hkeep⟩ := appK _ w.heap.size (.slice a L.length cap) L ⟨x.1.k, T, x.1.n, (p : Int)⟩ O4 B4.size (w3.heap.size + 1) 1 A8.lt ⟨A8.k0, A8.k1, A8.k2, A8.k3⟩ (by omega)
      have hrH : Hid (∀ W, W = _ → _) := hid (fun W (e : W = _) => (by rw [e]; exact hr : (Builtin.append_ #[22, 22] 22 #[.slice a L.length cap, .slice (some ⟨w3.heap.size + 1, 0, none⟩) 1 1]).run Tryd.prog W = .ok v' w'))
      clear hr
      have h0 : w'.cell? ⟨w3.heap.size, 0, none⟩ = some (.int .u8 (x.1.k : Int)) := by
        rw [hkeep w3.heap.size 0 A7.lt (fun e => by have := hM _ e; omega)]
        exact A7.k0
      obtain ⟨a', cap', rfl, _, _⟩ := hOK.tin
      have B5 := hid (B4.trans hB5)
      have OKH := hid hOK
      have IH : Hid (LI s k L) := hI
      clear hO hB b3 A7 A8 b7 b8 b9 B4 O4 hM hB5 hkeep hOK B3 O3 hI
      by_cases hz : x.1.k = 0
      · have z1 : ((x.1.k : Int) == 0) = true := beq_iff_eq.2 (by omega)
        have z2 : decide ((x.1.k : Int) = 0) = true := decide_eq_true (by omega)
        have eL := hid (IH.out.last e1 hR hz hT (p : Int))
        clear IH hz hR hT e1 cX
        go_wp2_with (at_builtin; refine wpList_append_runB (by rfl) _ _ _ (by rfl) _ _ _ _ (by rfl) (by rfl) (hrH.out _ rfl) ?_)
        go_ret2
        refine ⟨?_, B5.out⟩
        unfold AR
        rw [eL.out]
        have OK2 := OKH.out
        rw [List.length_append] at OK2
        refine ⟨_, _, rfl, OK2, rfl, ?_⟩
        rw [List.length_append]
        show L.length + 1 ≤ 4001
        omega
      · have z1 : ((x.1.k : Int) == 0) = false := beq_eq_false_iff_ne.2 (by omega)
        have z2 : decide ((x.1.k : Int) = 0) = false := decide_eq_false (by omega)
        obtain ⟨eL, g1, g2⟩ := IH.out.step hkp hp e1 hR hz hT (p : Int)
        have eLH := hid eL
        clear IH hz hR hT e1 cX eL
        go_wp2_with (at_builtin; refine wpList_append_runB (by rfl) _ _ _ (by rfl) _ _ _ _ (by rfl) (by rfl) (hrH.out _ rfl) ?_)
        exact ⟨⟨p + x.2, _, a', cap', by first | rfl | (rw [List.length_append]; rfl), by first | rfl | (push_cast; rfl), g2, OKH, B5, eLH⟩, by first | (simp [intOf]; done) | (simp [intOf]; omega)⟩
end Go.Proofs.YtjiiafmbneehhaaDoor.Lx
