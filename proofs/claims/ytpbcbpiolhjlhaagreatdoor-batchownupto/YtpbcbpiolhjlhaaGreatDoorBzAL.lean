
import Derived.Test.YtpbcbpiolhjlhaaGreatDoorDeJq
import Derived.Test.YtpbcbpiolhjlhaaGreatDoorBzAE
import Derived.Test.YtpbcbpiolhjlhaaGreatDoorProg
import Derived.WalkKit
import Derived.LaidEql
import Derived.Stop.Asserts
import Derived.RowKitTokens
import Derived.Below
import Derived.WalkLawsBesides

namespace Go.Proofs.YtpbcbpiolhjlhaaGreatDoor
open Go.RowKit _root_.Go.Proofs.YtpbcbpiolhjlhaaGreatDoor.So
set_option linter.unusedVariables false
set_option linter.unusedSimpArgs false
/-- what Order tells. -/
def OrdR (w w' : World) (l : List WrP) (e : Ending) : Prop := ∃ (out : List Nat) (L : List WrA) (v : Value), e = .returned v ∧ Sorted1 (ahW l) l.length out ∧ OW2 w' w.heap.size v L ∧ L.map (·.1) = ordL l out out.length ∧ Below w.heap.size w w'
theorem order_any (a : Option Addr) (c : Nat) (l : List WrP) (w : World) (hl : WIn w a l) (hn : l.length ≤ 549755813888) (hts : ∀ x ∈ l, x.s.t.length ≤ 4398046511104) :
    Calls Tryz.prog 7 #[.slice a l.length c] w fun e w' => OrdR w w' l e :=
  (De.order_any a c l w hl hn hts).mono fun e w' ⟨out, L, v, h1, h2, h3, h4, h5⟩ => ⟨out, L, v, h1, h2, h3.ow2, h4, h5⟩
end Go.Proofs.YtpbcbpiolhjlhaaGreatDoor


namespace Go.Proofs.YtpbcbpiolhjlhaaGreatDoor
open Go.RowKit Go.Shelf
set_option linter.unusedVariables false
set_option linter.unusedSimpArgs false
def UT (w : World) : Prop := Lib.Utf8Tabs 2 3 w
theorem cell_lt {w : World} {p : Addr} {v : Value} (h : w.cell? p = some v) : p.block < w.heap.size := by
  rcases Nat.lt_or_ge p.block w.heap.size with h2 | h2
  · exact h2
  · simp [World.cell?, Array.getElem?_eq_none h2] at h
theorem UT.below {w w' : World} {B : Nat} (h : UT w) (hb : Below B w w') (hB : w.heap.size ≤ B) : UT w' := by
  obtain ⟨h1, h2⟩ := h
  refine ⟨fun c hc => ?_, fun i hi => ⟨?_, ?_⟩⟩
  · have := h1 c hc
    rw [hb.cell (p := ⟨2, c, none⟩) (Nat.lt_of_lt_of_le (cell_lt this) hB)]; exact this
  · have := (h2 i hi).1
    rw [hb.cell (p := ⟨3, 2 * i, none⟩) (Nat.lt_of_lt_of_le (cell_lt this) hB)]; exact this
  · have := (h2 i hi).2
    rw [hb.cell (p := ⟨3, 2 * i + 1, none⟩) (Nat.lt_of_lt_of_le (cell_lt this) hB)]; exact this
def ctlR (n : Nat) : Bool := decide (n < 32) || decide (n = 127)
set_option maxRecDepth 100000 in
theorem control_any (x : Nat) (w : World) : Calls Tryz.prog 107 #[.int .i32 (x : Int)] w fun e w' => e = .returned (.bool (ctlR x)) ∧ w' = w := by
  unfold ctlR
  by_cases h1 : x < 32
  · have h1I : (x : Int) < 32 := by omega
    rw [decide_eq_true h1]
    go_enter Tryz.func107, Tryz.ntmps107
    go_wp2_with fail
    go_ret
    exact ⟨rfl, rfl⟩
  · have h1I : ¬ (x : Int) < 32 := by omega
    rw [decide_eq_false h1]
    by_cases h2 : x = 127
    · subst h2
      go_enter Tryz.func107, Tryz.ntmps107
      go_wp2_with fail
      go_ret
      exact ⟨rfl, rfl⟩
    · have h2I : ((x : Int) == 127) = false := by simp; omega
      rw [decide_eq_false h2]
      clear h2
      go_enter Tryz.func107, Tryz.ntmps107
      go_wp2_with fail
      go_ret
      exact ⟨rfl, rfl⟩
def cleanB (s : ByteArray) (most : Int) : Bool := !s.toList.isEmpty && decide ((s.size : Int) ≤ most) && Lib.validD s.data.toList && !decide (0 ≤ Lib.idxFunc ctlR true s)
theorem control_pays (w : World) : PredAt Tryz.prog 107 #[] encR ctlR w := fun W x _ => (control_any x W).mono fun e w' ⟨h1, h2⟩ => ⟨h1, 0, h2⟩
theorem enters_control : ∀ args w, (callFunc 107 args).run Tryz.prog w = .ok (.enter 107 args) w := enters_of Tryz.func107 (by kernel_rfl) rfl
set_option maxRecDepth 100000 in
set_option maxHeartbeats 2000000 in
theorem clean_any (s : ByteArray) (most : Int) (w : World) (hmost : most ≤ 9223372036854775807) (hT : UT w) : Calls Tryz.prog 93 #[.string s, .int .i64 most] w fun e w' => e = .returned (.bool (cleanB s most)) ∧ Below w.heap.size w w' := by
  have cV : Hid ((s.size : Int) ≤ most → Calls Tryz.prog 105 #[.string s] w fun e w' => e = .returned (.bool (Lib.validD s.data.toList)) ∧ Below w.heap.size w w') := fun h => Tryz.utf8_ValidString s w (by omega) hT
  have cF : Hid (∀ W, Calls Tryz.prog 106 #[.string s, .func (.func 107) #[] #[]] W fun e w' => e = .returned (.bool (decide (0 ≤ Lib.idxFunc ctlR true s))) ∧ Below W.heap.size W w') := fun W => Tryz.strings_ContainsFunc 107 #[] enters_control ctlR s W (control_pays W)
  unfold cleanB
  generalize Lib.validD s.data.toList = v at cV ⊢
  generalize decide (0 ≤ Lib.idxFunc ctlR true s) = f at cF ⊢
  cases h1 : s.toList.isEmpty with
  | true =>
    go_enter Tryz.func93, Tryz.ntmps93
    go_wp2_with fail
    go_ret
    exact ⟨rfl, Below.refl _ _⟩
  | false =>
    by_cases h2 : (s.size : Int) ≤ most
    · rw [decide_eq_true h2]
      cases v with
      | true =>
        cases f with
        | true =>
          go_enter Tryz.func93, Tryz.ntmps93
          go_wp2_with (first | (go_at_call 105; with_reducible refine Calls.mono (cV.out h2) ?_; rintro e w' ⟨rfl, hb⟩) | (go_at_call 106; with_reducible refine Calls.mono (cF.out _) ?_; rintro e w2 ⟨rfl, hb2⟩))
          go_ret
          exact ⟨rfl, hb.trans (hb2.mono hb.size)⟩
        | false =>
          go_enter Tryz.func93, Tryz.ntmps93
          go_wp2_with (first | (go_at_call 105; with_reducible refine Calls.mono (cV.out h2) ?_; rintro e w' ⟨rfl, hb⟩) | (go_at_call 106; with_reducible refine Calls.mono (cF.out _) ?_; rintro e w2 ⟨rfl, hb2⟩))
          go_ret
          exact ⟨rfl, hb.trans (hb2.mono hb.size)⟩
      | false =>
        go_enter Tryz.func93, Tryz.ntmps93
        go_wp2_with (go_at_call 105; with_reducible refine Calls.mono (cV.out h2) ?_; rintro e w' ⟨rfl, hb⟩)
        go_ret
        exact ⟨rfl, hb⟩
    · rw [decide_eq_false h2]
      go_enter Tryz.func93, Tryz.ntmps93
      go_wp2_with fail
      go_ret
      exact ⟨rfl, Below.refl _ _⟩
end Go.Proofs.YtpbcbpiolhjlhaaGreatDoor


namespace Go.Proofs.YtpbcbpiolhjlhaaGreatDoor
open Go.RowKit Go.Extern.Stop Go.Stop Go.Extern

/-- the cell of errors.errorType, as every row lists it. -/
def ET (w : World) : Prop := w.cell? ⟨0, 0, none⟩ = some (.iface 211 (.agg #[.pointer (some ⟨4, 56, none⟩)]))

theorem rlm (z : Sem Value) (f : TypeId → Addr → Nat → Nat → Sem Value) (v : Value) : ReflectliteValue.method z f #[v] = (ReflectliteValue.parts v >>= fun o => Option.elim o z (fun p => f p.1 p.2.1 p.2.2 (p.2.2 % 32))) := by
  refine Eq.trans (b := ReflectliteValue.parts v >>= _) rfl ?_
  congr 1; funext o; rcases o with _ | ⟨t, a, fl⟩ <;> rfl
theorem methodKind (h : Value) (w : World) : (Go.method 370 211 (.agg #[h]) "Kind").run Tryz.prog w = .ok (137, h) w := by kernel_rfl
theorem methodElem (h : Value) (w : World) : (Go.method 370 211 (.agg #[h]) "Elem").run Tryz.prog w = .ok (149, .agg #[h]) w := by kernel_rfl
theorem methodImplements (h : Value) (w : World) : (Go.method 370 211 (.agg #[h]) "Implements").run Tryz.prog w = .ok (150, .agg #[h]) w := by kernel_rfl
theorem methodAssignableTo (h : Value) (w : World) : (Go.method 370 211 (.agg #[h]) "AssignableTo").run Tryz.prog w = .ok (147, .agg #[h]) w := by kernel_rfl

theorem valueOfPE (t : Addr) (w : World) : (ReflectliteValue.unpack (.iface 118 (.pointer (some t)))).run Tryz.prog w
    = .ok (.agg #[.pointer (some ⟨4, 118, none⟩), .pointer (some ⟨w.heap.size, 0, none⟩), .int .u64 150]) (w.alloc (.cells #[.pointer (some t)] 118)) := by kernel_rfl
theorem typePE (a : Addr) (w : World) : (ReflectliteValue.methodAny (ReflectliteValue.valueError "reflectlite.Value.Type" 0) (fun t _ _ _ => ReflectliteType.toType t) #[.agg #[.pointer (some ⟨4, 118, none⟩), .pointer (some a), .int .u64 150]]).run Tryz.prog w
    = .ok (.iface 211 (.agg #[.pointer (some ⟨4, 118, none⟩)])) w := by kernel_rfl
theorem kindPE (w : World) : ((ReflectliteType.abiMethod fun t => (fun a : Nat => Value.int IntKind.u8 (a : Int)) <$> Rtype.kind t) #[.pointer (some ⟨4, 118, none⟩)]).run Tryz.prog w = .ok (.int .u8 22) w := by kernel_rfl
theorem kindE (w : World) : ((ReflectliteType.abiMethod fun t => (fun a : Nat => Value.int IntKind.u8 (a : Int)) <$> Rtype.kind t) #[.pointer (some ⟨4, 101, none⟩)]).run Tryz.prog w = .ok (.int .u8 2) w := by kernel_rfl
theorem partsPE (a : Addr) (w : World) : (ReflectliteValue.parts (.agg #[.pointer (some ⟨4, 118, none⟩), .pointer (some a), .int .u64 150])).run Tryz.prog w = .ok (some (118, a, 150)) w := by kernel_rfl
theorem isNilPE (a p : Addr) (W : World) (ha : W.cell? a = some (.pointer (some p))) :
    (ReflectliteValue.method (ReflectliteValue.valueError "reflectlite.Value.IsNil" 0) ReflectliteValue.isNil #[.agg #[.pointer (some ⟨4, 118, none⟩), .pointer (some a), .int .u64 150]]).run Tryz.prog W = .ok (.bool false) W := by
  rw [rlm]
  simp only [Sem.run_bind, partsPE, Result.andThen]
  simp [ReflectliteValue.isNil, loadVar, isAgg, underlying, Tryz.underlying118, ha, Result.andThen]
theorem elemPE (w : World) : (ReflectliteType.method ReflectliteType.elem #[.agg #[.pointer (some ⟨4, 118, none⟩)]]).run Tryz.prog w = .ok (.iface 211 (.agg #[.pointer (some ⟨4, 101, none⟩)])) w := by kernel_rfl
theorem implementsE (w : World) : (ReflectliteType.relation "Implements" ReflectliteType.implements_ #[.agg #[.pointer (some ⟨4, 101, none⟩)], .iface 211 (.agg #[.pointer (some ⟨4, 56, none⟩)])]).run Tryz.prog w = .ok (.bool true) w := by kernel_rfl
theorem elemOfE (w : World) : (Rtype.elem? 118).run Tryz.prog w = .ok (some 101) w := by kernel_rfl
theorem mkE (p : Addr) (w : World) : (ReflectliteValue.mk 101 p ReflectliteValue.flagAddr).run Tryz.prog w = .ok (.agg #[.pointer (some ⟨4, 101, none⟩), .pointer (some p), .int .u64 386]) w := by kernel_rfl
theorem elemVE (a p : Addr) (W : World) (ha : W.cell? a = some (.pointer (some p))) :
    (ReflectliteValue.method (ReflectliteValue.valueError "reflectlite.Value.Elem" 0) ReflectliteValue.elem #[.agg #[.pointer (some ⟨4, 118, none⟩), .pointer (some a), .int .u64 150]]).run Tryz.prog W
      = .ok (.agg #[.pointer (some ⟨4, 101, none⟩), .pointer (some p), .int .u64 386]) W := by
  rw [rlm]
  simp only [Sem.run_bind, partsPE, Result.andThen]
  simp [ReflectliteValue.elem, loadVar, isAgg, underlying, Tryz.underlying118, ha, Result.andThen, elemOfE, mkE]
theorem partsAE (a : Addr) (w : World) : (ReflectliteValue.parts (.agg #[.pointer (some ⟨4, 101, none⟩), .pointer (some a), .int .u64 386])).run Tryz.prog w = .ok (some (101, a, 386)) w := by kernel_rfl
theorem partsE (a : Addr) (w : World) : (ReflectliteValue.parts (.agg #[.pointer (some ⟨4, 101, none⟩), .pointer (some a), .int .u64 130])).run Tryz.prog w = .ok (some (101, a, 130)) w := by kernel_rfl
theorem directE (w : World) : (Rtype.directlyAssignable 101 101).run Tryz.prog w = .ok true w := by kernel_rfl
theorem typeOfE (v : Value) (w : World) : (ReflectliteType.typeOf #[.iface 101 v]).run Tryz.prog w = .ok (.iface 211 (.agg #[.pointer (some ⟨4, 101, none⟩)])) w := by kernel_rfl
theorem assignableE (w : World) : (ReflectliteType.relation "AssignableTo" ReflectliteType.assignableTo #[.agg #[.pointer (some ⟨4, 101, none⟩)], .iface 211 (.agg #[.pointer (some ⟨4, 101, none⟩)])]).run Tryz.prog w = .ok (.bool true) w := by kernel_rfl

end Go.Proofs.YtpbcbpiolhjlhaaGreatDoor



namespace Go.Proofs.YtpbcbpiolhjlhaaGreatDoor
open Go.RowKit Go.Extern.Stop Go.Stop Go.Extern

theorem valueOfE (c : Int) (w : World) : (ReflectliteValue.unpack (.iface 101 (.int .i64 c))).run Tryz.prog w
    = .ok (.agg #[.pointer (some ⟨4, 101, none⟩), .pointer (some ⟨w.heap.size, 0, none⟩), .int .u64 130]) (w.alloc (.cells #[.int .i64 c] 101)) := by kernel_rfl
/-- what (Value).Set does where the types are one: behind the two looks at the values it loads and stores. -/
theorem rls (v x : Value) (P : Program) (W : World) (dst src : TypeId) (a b : Addr) (fl f2 : Nat) (h1 : (ReflectliteValue.parts v).run P W = .ok (some (dst, a, fl)) W) (h2 : (ReflectliteValue.parts x).run P W = .ok (some (src, b, f2)) W) (hfl : (fl / ReflectliteValue.flagAddr % 2 == 0) = false) (val : Value) (hl : (loadVar src b).run P W = .ok val W) (hd : (Rtype.directlyAssignable dst src).run P W = .ok true W) :
    (ReflectliteValue.set #[v, x]).run P W = ((storeVar dst a val).run P W).andThen fun _ w' => .ok (.tuple #[]) w' := by
  refine Eq.trans (b := Sem.run P (ReflectliteValue.parts v >>= fun p => ReflectliteValue.parts x >>= _) W) rfl ?_
  simp only [Sem.run_bind, h1, h2, Result.andThen, hfl, Bool.false_eq_true, if_false, hl, hd, if_true]
  cases Sem.run P (storeVar dst a val) W <;> rfl
theorem setE (ta b : Addr) (c : Int) (old : Value) (W : World) (hb : W.cell? b = some (.int .i64 c)) (ht : W.cell? ta = some old) (hf : W.frozen? ta = false) :
    (ReflectliteValue.set #[.agg #[.pointer (some ⟨4, 101, none⟩), .pointer (some ta), .int .u64 386], .agg #[.pointer (some ⟨4, 101, none⟩), .pointer (some b), .int .u64 130]]).run Tryz.prog W
      = .ok (.tuple #[]) (W.setCell ta (.int .i64 c)) := by
  rw [rls _ _ Tryz.prog W 101 101 ta b 386 130 (partsAE ta W) (partsE b W) (by decide) (.int .i64 c) (by simp [loadVar, isAgg, underlying, Tryz.underlying101, hb, Result.andThen]) (directE W)]
  simp [storeVar, Value.cells, storeCells, Addr.add, Result.andThen]
  rw [run_store Tryz.prog W ta _ _ (by rfl)]
  simp [ht, hf]
theorem ext_valueOf : ∀ (args : Array Value) (w : World), Sem.run Tryz.prog (callFunc 88 args) w = (Sem.run Tryz.prog (((fun args => ReflectliteValue.unpack (args.getD 0 (.tuple #[])))) args) w).andThen fun v w' => Result.ok (Next.value v) w' :=
  run_callFunc_extern Tryz.func88 (by kernel_rfl) (by kernel_rfl) (by kernel_rfl) (by kernel_rfl)
theorem ext_type : ∀ (args : Array Value) (w : World), Sem.run Tryz.prog (callFunc 89 args) w = (Sem.run Tryz.prog (((ReflectliteValue.methodAny (ReflectliteValue.valueError "reflectlite.Value.Type" 0) (fun t _ _ _ => ReflectliteType.toType t))) args) w).andThen fun v w' => Result.ok (Next.value v) w' :=
  run_callFunc_extern Tryz.func89 (by kernel_rfl) (by kernel_rfl) (by kernel_rfl) (by kernel_rfl)
theorem ext_isNil : ∀ (args : Array Value) (w : World), Sem.run Tryz.prog (callFunc 90 args) w = (Sem.run Tryz.prog (((ReflectliteValue.method (ReflectliteValue.valueError "reflectlite.Value.IsNil" 0) ReflectliteValue.isNil)) args) w).andThen fun v w' => Result.ok (Next.value v) w' :=
  run_callFunc_extern Tryz.func90 (by kernel_rfl) (by kernel_rfl) (by kernel_rfl) (by kernel_rfl)
theorem ext_kind : ∀ (args : Array Value) (w : World), Sem.run Tryz.prog (callFunc 137 args) w = (Sem.run Tryz.prog (((ReflectliteType.abiMethod fun t => do pure (.int .u8 (← Rtype.kind t)))) args) w).andThen fun v w' => Result.ok (Next.value v) w' :=
  run_callFunc_extern Tryz.func137 (by kernel_rfl) (by kernel_rfl) (by kernel_rfl) (by kernel_rfl)
theorem ext_telem : ∀ (args : Array Value) (w : World), Sem.run Tryz.prog (callFunc 149 args) w = (Sem.run Tryz.prog (((ReflectliteType.method ReflectliteType.elem)) args) w).andThen fun v w' => Result.ok (Next.value v) w' :=
  run_callFunc_extern Tryz.func149 (by kernel_rfl) (by kernel_rfl) (by kernel_rfl) (by kernel_rfl)
theorem ext_implements : ∀ (args : Array Value) (w : World), Sem.run Tryz.prog (callFunc 150 args) w = (Sem.run Tryz.prog (((ReflectliteType.relation "Implements" ReflectliteType.implements_)) args) w).andThen fun v w' => Result.ok (Next.value v) w' :=
  run_callFunc_extern Tryz.func150 (by kernel_rfl) (by kernel_rfl) (by kernel_rfl) (by kernel_rfl)
theorem ext_typeOf : ∀ (args : Array Value) (w : World), Sem.run Tryz.prog (callFunc 102 args) w = (Sem.run Tryz.prog ((ReflectliteType.typeOf) args) w).andThen fun v w' => Result.ok (Next.value v) w' :=
  run_callFunc_extern Tryz.func102 (by kernel_rfl) (by kernel_rfl) (by kernel_rfl) (by kernel_rfl)
theorem ext_assignable : ∀ (args : Array Value) (w : World), Sem.run Tryz.prog (callFunc 147 args) w = (Sem.run Tryz.prog (((ReflectliteType.relation "AssignableTo" ReflectliteType.assignableTo)) args) w).andThen fun v w' => Result.ok (Next.value v) w' :=
  run_callFunc_extern Tryz.func147 (by kernel_rfl) (by kernel_rfl) (by kernel_rfl) (by kernel_rfl)
theorem ext_velem : ∀ (args : Array Value) (w : World), Sem.run Tryz.prog (callFunc 103 args) w = (Sem.run Tryz.prog (((ReflectliteValue.method (ReflectliteValue.valueError "reflectlite.Value.Elem" 0) ReflectliteValue.elem)) args) w).andThen fun v w' => Result.ok (Next.value v) w' :=
  run_callFunc_extern Tryz.func103 (by kernel_rfl) (by kernel_rfl) (by kernel_rfl) (by kernel_rfl)
theorem ext_set : ∀ (args : Array Value) (w : World), Sem.run Tryz.prog (callFunc 104 args) w = (Sem.run Tryz.prog ((ReflectliteValue.set) args) w).andThen fun v w' => Result.ok (Next.value v) w' :=
  run_callFunc_extern Tryz.func104 (by kernel_rfl) (by kernel_rfl) (by kernel_rfl) (by kernel_rfl)

set_option maxHeartbeats 4000000 in
/-- errors.As(an Errno, &e): it is found. -/
theorem as_EE (c : Int) (t : Addr) (old : Value) (w : World) (hg : ET w) (ht0 : w.cell? t = some old) (hf0 : w.frozen? t = false) :
    Calls Tryz.prog 77 #[.iface 101 (.int .i64 c), .iface 118 (.pointer (some t))] w fun ev w' => ev = .returned (.bool true) ∧ w' = ((((w.alloc (.cells #[.pointer (some t)] 118)).alloc (.cells #[.pointer (some ⟨4, 118, none⟩), .pointer (some ⟨w.heap.size, 0, none⟩), .int .u64 150] 193)).alloc (.cells #[.pointer (some ⟨4, 118, none⟩), .pointer (some ⟨w.heap.size, 0, none⟩), .int .u64 150] 193)).alloc (.cells #[.int .i64 c] 101)).setCell t (.int .i64 c) := by
  unfold ET at hg
  have h1 := ext_valueOf; have h2 := ext_type; have h3 := ext_isNil; have h4 := ext_kind; have h5 := ext_telem; have h6 := ext_implements; have h7 := ext_typeOf; have h8 := ext_assignable; have h9 := ext_velem; have h10 := ext_set
  have tO := typeOfE
  have mA := methodAssignableTo
  have a25 := assignableE
  have v25 := valueOfE
  have f6 := valueOfPE
  have f7 := typePE
  have mK := methodKind
  have mE := methodElem
  have mI := methodImplements
  have k27 := kindPE
  have k25 := kindE
  have e27 := elemPE
  have i25 := implementsE
  have n8 := isNilPE ⟨w.heap.size, 0, none⟩ t ((w.alloc (.cells #[.pointer (some t)] 118)).alloc (.cells #[.pointer (some ⟨4, 118, none⟩), .pointer (some ⟨w.heap.size, 0, none⟩), .int .u64 150] 193)) (by simp)
  have hlt : 0 < w.heap.size := by
    rcases Nat.lt_or_ge 0 w.heap.size with h | h
    · exact h
    · simp [World.cell?, Array.getElem?_eq_none h] at hg
  have hg2 : ((w.alloc (.cells #[.pointer (some t)] 118)).alloc (.cells #[.pointer (some ⟨4, 118, none⟩), .pointer (some ⟨w.heap.size, 0, none⟩), .int .u64 150] 193)).cell? ⟨0, 0, none⟩ = some (.iface 211 (.agg #[.pointer (some ⟨4, 56, none⟩)])) := by
    rw [World.cell?_alloc_lt _ _ ⟨0, 0, none⟩ (by simp <;> omega), World.cell?_alloc_lt _ _ ⟨0, 0, none⟩ hlt]; exact hg
  have htl : t.block < w.heap.size := by
    rcases Nat.lt_or_ge t.block w.heap.size with h | h
    · exact h
    · simp [World.cell?, Array.getElem?_eq_none h] at ht0
  have el := elemVE ⟨w.heap.size, 0, none⟩ t (((w.alloc (.cells #[.pointer (some t)] 118)).alloc (.cells #[.pointer (some ⟨4, 118, none⟩), .pointer (some ⟨w.heap.size, 0, none⟩), .int .u64 150] 193)).alloc (.cells #[.pointer (some ⟨4, 118, none⟩), .pointer (some ⟨w.heap.size, 0, none⟩), .int .u64 150] 193)) (by rw [World.cell?_alloc_lt _ _ ⟨w.heap.size, 0, none⟩ (by simp; omega)]; simp)
  have st := setE t ⟨w.heap.size + 1 + 1 + 1, 0, none⟩ c old ((((w.alloc (.cells #[.pointer (some t)] 118)).alloc (.cells #[.pointer (some ⟨4, 118, none⟩), .pointer (some ⟨w.heap.size, 0, none⟩), .int .u64 150] 193)).alloc (.cells #[.pointer (some ⟨4, 118, none⟩), .pointer (some ⟨w.heap.size, 0, none⟩), .int .u64 150] 193)).alloc (.cells #[.int .i64 c] 101))
    (by rw [World.cell?_alloc_at _ _ _ _ (by simp)]; rfl)
    (by rw [World.cell?_alloc_lt _ _ t (by simp; omega), World.cell?_alloc_lt _ _ t (by simp; omega), World.cell?_alloc_lt _ _ t (by simp; omega), World.cell?_alloc_lt _ _ t htl]; exact ht0)
    (by rw [World.frozen?_alloc_old _ _ t (by simp; omega), World.frozen?_alloc_old _ _ t (by simp; omega), World.frozen?_alloc_old _ _ t (by simp; omega), World.frozen?_alloc_old _ _ t (Nat.ne_of_lt htl)]; exact hf0)
  go_enter Tryz.func77, Tryz.ntmps77
  go_wp2
  refine wp_loop_rounds 1 ?_
  rw [rounds_succ]
  go_wp2
  go_ret
  exact ⟨rfl, rfl⟩
end Go.Proofs.YtpbcbpiolhjlhaaGreatDoor


namespace Go.Proofs.YtpbcbpiolhjlhaaGreatDoor
open Go.RowKit
theorem below_new {w w' : World} (h : Below w.heap.size w w') (o : Obj) : Below w.heap.size w (w'.alloc o) := h.alloc h.size o
theorem ET_lt {w : World} (h : ET w) : 0 < w.heap.size := by
  unfold ET at h
  rcases Nat.lt_or_ge 0 w.heap.size with h' | h'
  · exact h'
  · simp [World.cell?, Array.getElem?_eq_none h'] at h
theorem ET_alloc {w : World} (h : ET w) (o : Obj) : ET (w.alloc o) := by
  have hlt := ET_lt h
  unfold ET at *
  rw [World.cell?_alloc_lt _ _ ⟨0, 0, none⟩ hlt]; exact h
theorem ET_below {w w' : World} (h : ET w) (hb : Below w.heap.size w w') : ET w' := by
  have hl := ET_lt h
  unfold ET at *
  rw [hb.cell (p := ⟨0, 0, none⟩) hl]; exact h
theorem new_any (c : Int) (h : (c == 0) = false) (w : World) : Calls Tryz.prog 60 #[.int .i64 c] w fun e w' => e = .returned (.iface 101 (.int .i64 c)) ∧ w' = w := by
  go_enter Tryz.func60, Tryz.ntmps60
  go_wp2
  go_ret
  exact ⟨rfl, rfl⟩
end Go.Proofs.YtpbcbpiolhjlhaaGreatDoor


namespace Go.Proofs.YtpbcbpiolhjlhaaGreatDoor
open Go.RowKit Go.Shelf
set_option linter.unusedVariables false
set_option linter.unusedSimpArgs false
def columnB (s : ByteArray) : Bool := !(s.toList == [116, 105, 109, 101]) && cleanB s 64
def oddB (t : TagP) : Bool := !columnB t.1 || !cleanB t.2 256
def risB : List TagP → Bool
  | a :: b :: r => decide (strC a.1 b.1 < 0) && risB (b :: r)
  | _ => true
def tagsB (l : List TagP) : Bool := decide (l.length ≤ 8) && risB l && !l.any oddB
set_option maxRecDepth 100000 in
theorem column_any (s : ByteArray) (w : World) (hT : UT w) : Calls Tryz.prog 120 #[.string s] w fun e w' => e = .returned (.bool (columnB s)) ∧ Below w.heap.size w w' := by
  have c : Hid (Calls Tryz.prog 93 #[.string s, .int .i64 64] w fun e w' => e = .returned (.bool (cleanB s 64)) ∧ Below w.heap.size w w') := clean_any s 64 w (by omega) hT
  unfold columnB
  generalize cleanB s 64 = v at c ⊢
  cases h : (s.toList == [116, 105, 109, 101]) with
  | true =>
    have h' : s.toList = [116, 105, 109, 101] := by simpa using h
    go_enter Tryz.func120, Tryz.ntmps120
    go_wp2_with fail
    go_ret
    exact ⟨by simp [h'], Below.refl _ _⟩
  | false =>
    have h' : ¬ s.toList = [116, 105, 109, 101] := by simpa using h
    go_enter Tryz.func120, Tryz.ntmps120
    go_wp2_with (go_at_call 93; with_reducible refine Calls.mono c.out ?_; rintro e w' ⟨rfl, hb⟩)
    go_ret
    exact ⟨by simp, hb⟩
set_option maxRecDepth 100000 in
theorem unless_true (e : Int) (w : World) : Calls Tryz.prog 92 #[.bool true, .int .i64 e] w fun ev w' => ev = .returned .nilIface ∧ Below w.heap.size w w' := by
  go_enter Tryz.func92, Tryz.ntmps92
  go_wp2_with fail
  go_ret
  exact ⟨rfl, Below.refl _ _⟩
set_option maxRecDepth 100000 in
theorem unless_false (e : Int) (he : (e == 0) = false) (w : World) : Calls Tryz.prog 92 #[.bool false, .int .i64 e] w fun ev w' => ev = .returned (.iface 101 (.int .i64 e)) ∧ Below w.heap.size w w' := by
  have c : Hid (Calls Tryz.prog 60 #[.int .i64 e] w fun ev w' => ev = .returned (.iface 101 (.int .i64 e)) ∧ w' = w) := new_any e he w
  clear he
  go_enter Tryz.func92, Tryz.ntmps92
  go_wp2_with (go_at_call 60; with_reducible refine Calls.mono c.out ?_; rintro ev w' ⟨rfl, hw⟩)
  go_ret
  exact ⟨rfl, by first | exact Below.refl _ _ | (rw [hw]; exact Below.refl _ _)⟩
/-- an error, or none. -/
def erV (ok : Bool) (e : Int) : Value := if ok then .nilIface else .iface 101 (.int .i64 e)
theorem unless_any (ok : Bool) (e : Int) (he : (e == 0) = false) (w : World) : Calls Tryz.prog 92 #[.bool ok, .int .i64 e] w fun ev w' => ev = .returned (erV ok e) ∧ Below w.heap.size w w' := by
  cases ok with
  | true => exact unless_true e w
  | false => exact unless_false e he w
set_option maxRecDepth 100000 in
theorem name_any (s : ByteArray) (w : World) (hT : UT w) : Calls Tryz.prog 78 #[.string s] w fun e w' => e = .returned (erV (cleanB s 64) 50) ∧ Below w.heap.size w w' := by
  have c : Hid (Calls Tryz.prog 93 #[.string s, .int .i64 64] w fun e w' => e = .returned (.bool (cleanB s 64)) ∧ Below w.heap.size w w') := clean_any s 64 w (by omega) hT
  generalize cleanB s 64 = v at c ⊢
  have u : Hid (∀ W, Calls Tryz.prog 92 #[.bool v, .int .i64 50] W fun ev w' => ev = .returned (erV v 50) ∧ Below W.heap.size W w') := fun W => unless_any v 50 (by decide) W
  generalize erV v 50 = r at u ⊢
  go_enter Tryz.func78, Tryz.ntmps78
  go_wp2_with (first | (go_at_call 93; with_reducible refine Calls.mono c.out ?_; rintro e w' ⟨rfl, hb⟩) | (go_at_call 92; with_reducible refine Calls.mono (u.out _) ?_; rintro e w2 ⟨rfl, hb2⟩))
  go_ret
  exact ⟨rfl, hb.trans (hb2.mono hb.size)⟩
set_option maxRecDepth 100000 in
theorem odd_any (a b : ByteArray) (w : World) (hT : UT w) : Calls Tryz.prog 110 #[.agg #[.string a, .string b]] w fun e w' => e = .returned (.bool (oddB (a, b))) ∧ Below w.heap.size w w' := by
  have c : Hid (∀ o, Calls Tryz.prog 120 #[.string a] (w.alloc o) fun e w' => e = .returned (.bool (columnB a)) ∧ UT w' ∧ w'.cell? ⟨w.heap.size, 1, none⟩ = (w.alloc o).cell? ⟨w.heap.size, 1, none⟩ ∧ Below w.heap.size w w') := fun o => (column_any a _ (hT.below ((Below.refl _ w).alloc (Nat.le_refl _) o) (Nat.le_refl _))).mono fun e w' ⟨h1, h2⟩ => ⟨h1, (hT.below ((Below.refl _ w).alloc (Nat.le_refl _) o) (Nat.le_refl _)).below h2 (Nat.le_refl _), h2.cell (p := ⟨w.heap.size, 1, none⟩) (by simp), ((Below.refl _ w).alloc (Nat.le_refl _) o).trans (h2.mono (by simp))⟩
  have d : Hid (∀ W, UT W → Calls Tryz.prog 93 #[.string b, .int .i64 256] W fun e w' => e = .returned (.bool (cleanB b 256)) ∧ Below W.heap.size W w') := fun W h => clean_any b 256 W (by omega) h
  unfold oddB
  simp only
  generalize columnB a = p at c ⊢
  generalize cleanB b 256 = q at d ⊢
  have hH : Hid (UT w) := hT
  clear hT
  cases p with
  | true =>
    go_enter Tryz.func110, Tryz.ntmps110
    go_wp2_with (first | (go_at_call 120; with_reducible refine Calls.mono (c.out _) ?_; rintro e w' ⟨rfl, hu, hc, hb⟩; simp [go_sem] at hc) | (go_at_call 93; with_reducible refine Calls.mono (d.out _ hu) ?_; rintro e w2 ⟨rfl, hb2⟩))
    go_ret
    exact ⟨rfl, hb.trans (hb2.mono hb.size)⟩
  | false =>
    go_enter Tryz.func110, Tryz.ntmps110
    go_wp2_with (first | (go_at_call 120; with_reducible refine Calls.mono (c.out _) ?_; rintro e w' ⟨rfl, hu, hc, hb⟩; simp [go_sem] at hc) | (go_at_call 93; with_reducible refine Calls.mono (d.out _ hu) ?_; rintro e w2 ⟨rfl, hb2⟩))
    go_ret
    exact ⟨rfl, hb⟩
end Go.Proofs.YtpbcbpiolhjlhaaGreatDoor


namespace Go.Proofs.YtpbcbpiolhjlhaaGreatDoor
open Go.RowKit Go.Shelf
set_option linter.unusedVariables false
set_option linter.unusedSimpArgs false
theorem risB_step {l : List TagP} {k : Nat} {t u : TagP} (ht : l[k]? = some t) (hu : l[k + 1]? = some u) : risB (l.drop k) = (decide (strC t.1 u.1 < 0) && risB (l.drop (k + 1))) := by
  obtain ⟨h1, rfl⟩ := List.getElem?_eq_some_iff.1 ht
  obtain ⟨h2, rfl⟩ := List.getElem?_eq_some_iff.1 hu
  rw [List.drop_eq_getElem_cons h1, List.drop_eq_getElem_cons h2]
  rfl
theorem risB_end {l : List TagP} {k : Nat} (h : l.length ≤ k + 1) : risB (l.drop k) = true := by
  by_cases h1 : l.length ≤ k
  · rw [List.drop_eq_nil_of_le h1]; rfl
  · rw [List.drop_eq_getElem_cons (by omega), List.drop_eq_nil_of_le h]; rfl
set_option maxRecDepth 100000 in
set_option maxHeartbeats 4000000 in
theorem rising_any (a : Option Addr) (l : List TagP) (c : Nat) (w : World) (hl : l.length ≤ 9223372036854775807) (ha : TgIn w a l) :
    Calls Tryz.prog 108 #[.slice a l.length c] w fun e w' => e = .returned (.bool (risB l)) ∧ Below w.heap.size w w' := by
  have hA : Hid (TgIn w a l) := ha
  clear ha
  obtain ⟨R, hR⟩ : ∃ R, risB l = R := ⟨_, rfl⟩
  have hR0 : Hid (risB (l.drop 0) = R) := hR
  rw [hR]
  clear hR
  obtain ⟨n, hn⟩ : ∃ n, l.length = n := ⟨_, rfl⟩
  have hN : Hid (l.length = n) := hn
  rw [hn] at hl ⊢
  clear hn
  go_enter Tryz.func108, Tryz.ntmps108
  go_wp2_with fail
  go_loopw [3] (fun i wr => ∃ k : Nat, i = .int .i64 ((k : Int) + 1) ∧ (k + 1 ≤ n ∨ k = 0) ∧ Hid (risB (l.drop k) = R) ∧ Below w.heap.size w wr) (fun i _ => n - (intOf i).toNat)
  case atStart => exact ⟨0, rfl, by omega, hR0, Below.refl _ _⟩
  case round =>
    obtain ⟨k, rfl, hkn, hI, hB⟩ := hrel
    by_cases hk : k + 1 < n
    · have hkI : (k : Int) + 1 < (n : Int) := by omega
      have hk1 : IntKind.i64.wrap ((k : Int) + 1 + 1) = (k : Int) + 1 + 1 := IntWalk.i64_in _ (by omega)
      have hk2 : IntKind.i64.wrap ((k : Int) + 1 - 1) = (k : Int) := by rw [show (k : Int) + 1 - 1 = k by omega]; exact IntWalk.i64_in _ (by omega)
      obtain ⟨t, ht⟩ : ∃ t, l[k]? = some t := ⟨_, List.getElem?_eq_getElem (by have := hN.out; omega)⟩
      obtain ⟨u, hu⟩ : ∃ u, l[k + 1]? = some u := ⟨_, List.getElem?_eq_getElem (by have := hN.out; omega)⟩
      obtain ⟨b1, o1, rfl, hb1, t1, t2⟩ := hA.out.at hB ht
      obtain ⟨b2, o2, e2, hb2, u1, u2⟩ := hA.out.at hB hu
      obtain ⟨rfl, rfl⟩ : b2 = b1 ∧ o2 = o1 := by cases e2; exact ⟨rfl, rfl⟩
      have hst := risB_step ht hu
      rw [hI.out, ← less_str] at hst
      have hst2 : Hid (R = (Op.bytesLess t.1.toList u.1.toList && risB (l.drop (k + 1)))) := hst
      clear hst ht hu e2 t2 u2
      cases hless : Op.bytesLess t.1.toList u.1.toList with
      | true =>
        have hz : Hid (risB (l.drop (k + 1)) = R) := by have := hst2.out; rw [hless] at this; exact this.symm
        clear hst2
        go_wp2_with fail
        go_quiet (fail)
        go_wp2_with fail
        go_round
        case measure => simp only [intOf]; omega
        case rel => exact ⟨k + 1, by simp, by omega, hz, bdrewN hB _⟩
      | false =>
        have hz : Hid (R = false) := by have := hst2.out; rw [hless] at this; exact this
        clear hst2
        go_wp2_with fail
        go_quiet (fail)
        go_wp2_with fail
        go_ret
        exact ⟨by rw [hz.out]; rfl, bdrewN hB _⟩
    · have hkI : ¬ (k : Int) + 1 < (n : Int) := by omega
      have hE : Hid (R = true) := by have := risB_end (l := l) (k := k) (by have := hN.out; omega); rw [hI.out] at this; exact this
      go_wp2_with fail
      go_ret
      exact ⟨by rw [hE.out]; rfl, hB⟩
theorem any_drop_step {l : List TagP} {k : Nat} {t : TagP} (ht : l[k]? = some t) : (l.drop k).any oddB = (oddB t || (l.drop (k + 1)).any oddB) := by
  obtain ⟨h1, rfl⟩ := List.getElem?_eq_some_iff.1 ht
  rw [List.drop_eq_getElem_cons h1]
  rfl
set_option maxRecDepth 100000 in
set_option maxHeartbeats 4000000 in
theorem idx_any (a : Option Addr) (l : List TagP) (c : Nat) (w : World) (hl : l.length ≤ 9223372036854775807) (ha : TgIn w a l) (hT : UT w) :
    Calls Tryz.prog 119 #[.slice a l.length c, .func (.func 110) #[] #[]] w fun e w' => ∃ z : Int, e = .returned (.int .i64 z) ∧ decide (0 ≤ z) = l.any oddB ∧ Below w.heap.size w w' := by
  have hA : Hid (TgIn w a l) := ha
  have hU : Hid (UT w) := hT
  clear ha hT
  obtain ⟨R, hR⟩ : ∃ R, l.any oddB = R := ⟨_, rfl⟩
  have hR0 : Hid ((l.drop 0).any oddB = R) := hR
  rw [hR]
  clear hR
  obtain ⟨n, hn⟩ : ∃ n, l.length = n := ⟨_, rfl⟩
  have hN : Hid (l.length = n) := hn
  rw [hn] at hl ⊢
  clear hn
  go_enter Tryz.func119, Tryz.ntmps119
  go_wp2_with fail
  go_loopw [8] (fun i wr => ∃ k : Nat, i = .int .i64 (k : Int) ∧ k ≤ n ∧ Hid ((l.drop k).any oddB = R) ∧ Below w.heap.size w wr) (fun i _ => n - (intOf i).toNat)
  case atStart => exact ⟨0, rfl, by omega, hR0, Below.refl _ _⟩
  case round =>
    obtain ⟨k, rfl, hkn, hI, hB⟩ := hrel
    by_cases hk : k < n
    · have hkI : (k : Int) < (n : Int) := by omega
      obtain ⟨t, ht⟩ : ∃ t, l[k]? = some t := ⟨_, List.getElem?_eq_getElem (by have := hN.out; omega)⟩
      obtain ⟨b1, o1, rfl, hb1, t1, t2⟩ := hA.out.at hB ht
      have hst := any_drop_step ht
      rw [hI.out] at hst
      have hst2 : Hid (R = (oddB t || (l.drop (k + 1)).any oddB)) := hst
      have hC : Hid (Calls Tryz.prog 110 #[.agg #[.string t.1, .string t.2]] wr fun e w' => e = .returned (.bool (oddB t)) ∧ Below wr.heap.size wr w') := odd_any t.1 t.2 wr (hU.out.below hB (Nat.le_refl _))
      clear hst ht
      generalize oddB t = q at hst2 hC
      generalize t.1 = ta at *
      generalize t.2 = tb at *
      cases q with
      | true =>
        have hz : Hid (R = true) := by have := hst2.out; exact this
        clear hst2
        go_wp2_with (refine Calls.mono hC.out ?_; rintro e w' ⟨rfl, hB2⟩)
        go_ret
        exact ⟨(k : Int), rfl, by rw [hz.out]; simp, hB.trans (hB2.mono hB.size)⟩
      | false =>
        have hz : Hid ((l.drop (k + 1)).any oddB = R) := by have := hst2.out; exact this.symm
        clear hst2
        go_wp2_with (refine Calls.mono hC.out ?_; rintro e w' ⟨rfl, hB2⟩)
        go_round
        case measure => simp only [intOf]; omega
        case rel => exact ⟨k + 1, by simp, by omega, hz, hB.trans (hB2.mono hB.size)⟩
    · have hkI : ¬ (k : Int) < (n : Int) := by omega
      have hE : Hid (R = false) := by have h := hI.out; rw [List.drop_eq_nil_of_le (by have := hN.out; omega)] at h; exact h.symm
      go_wp2_with fail
      go_ret
      exact ⟨-1, rfl, by rw [hE.out]; rfl, hB⟩
set_option maxRecDepth 100000 in
theorem cf_any (a : Option Addr) (l : List TagP) (c : Nat) (w : World) (hl : l.length ≤ 9223372036854775807) (ha : TgIn w a l) (hT : UT w) :
    Calls Tryz.prog 109 #[.slice a l.length c, .func (.func 110) #[] #[]] w fun e w' => e = .returned (.bool (l.any oddB)) ∧ Below w.heap.size w w' := by
  have hC : Hid (Calls Tryz.prog 119 #[.slice a l.length c, .func (.func 110) #[] #[]] w fun e w' => ∃ z : Int, e = .returned (.int .i64 z) ∧ decide (0 ≤ z) = l.any oddB ∧ Below w.heap.size w w') := idx_any a l c w hl ha hT
  generalize l.any oddB = R at hC ⊢
  generalize l.length = n at hC hl ⊢
  clear ha hT
  go_enter Tryz.func109, Tryz.ntmps109
  go_wp2_with (go_at_call 119; refine Calls.mono hC.out ?_; rintro e w' ⟨z, rfl, hz, hB⟩; have hzH : Hid (decide (0 ≤ z) = R) := hz; clear hz)
  go_ret
  exact ⟨by rw [← hzH.out]; rfl, hB⟩
set_option maxRecDepth 100000 in
set_option maxHeartbeats 2000000 in
theorem tags_any (a : Option Addr) (l : List TagP) (c : Nat) (w : World) (hl : l.length ≤ 9223372036854775807) (ha : TgIn w a l) (hT : UT w) :
    Calls Tryz.prog 94 #[.slice a l.length c] w fun e w' => e = .returned (erV (tagsB l) 52) ∧ Below w.heap.size w w' := by
  have cR : Hid (Calls Tryz.prog 108 #[.slice a l.length c] w fun e w' => e = .returned (.bool (risB l)) ∧ Below w.heap.size w w') := rising_any a l c w hl ha
  have cC : Hid (∀ W, Below w.heap.size w W → Calls Tryz.prog 109 #[.slice a l.length c, .func (.func 110) #[] #[]] W fun e w' => e = .returned (.bool (l.any oddB)) ∧ Below W.heap.size W w') := fun W hW => cf_any a l c W hl (ha.below hW) (hT.below hW (Nat.le_refl _))
  have cU : Hid (∀ ok W, Calls Tryz.prog 92 #[.bool ok, .int .i64 52] W fun ev w' => ev = .returned (erV ok 52) ∧ Below W.heap.size W w') := fun ok W => unless_any ok 52 (by decide) W
  unfold tagsB
  generalize risB l = r at cR ⊢
  generalize l.any oddB = o at cC ⊢
  generalize l.length = n at cR cC hl ⊢
  clear ha hT
  by_cases h : n ≤ 8
  · have hI : (n : Int) ≤ 8 := by omega
    rw [decide_eq_true h]
    cases r with
    | true =>
      cases o with
      | true =>
        go_enter Tryz.func94, Tryz.ntmps94
        go_wp2_with (first | (go_at_call 108; with_reducible refine Calls.mono cR.out ?_; rintro e w' ⟨rfl, hb⟩) | (go_at_call 109; with_reducible refine Calls.mono (cC.out _ hb) ?_; rintro e w2 ⟨rfl, hb2⟩) | (go_at_call 92; with_reducible refine Calls.mono (cU.out _ _) ?_; rintro e w3 ⟨rfl, hb3⟩))
        go_ret
        have hx := hb.trans (hb2.mono hb.size)
        exact ⟨rfl, hx.trans (hb3.mono hx.size)⟩
      | false =>
        go_enter Tryz.func94, Tryz.ntmps94
        go_wp2_with (first | (go_at_call 108; with_reducible refine Calls.mono cR.out ?_; rintro e w' ⟨rfl, hb⟩) | (go_at_call 109; with_reducible refine Calls.mono (cC.out _ hb) ?_; rintro e w2 ⟨rfl, hb2⟩) | (go_at_call 92; with_reducible refine Calls.mono (cU.out _ _) ?_; rintro e w3 ⟨rfl, hb3⟩))
        go_ret
        have hx := hb.trans (hb2.mono hb.size)
        exact ⟨rfl, hx.trans (hb3.mono hx.size)⟩
    | false =>
      go_enter Tryz.func94, Tryz.ntmps94
      go_wp2_with (first | (go_at_call 108; with_reducible refine Calls.mono cR.out ?_; rintro e w' ⟨rfl, hb⟩) | (go_at_call 92; with_reducible refine Calls.mono (cU.out _ _) ?_; rintro e w3 ⟨rfl, hb3⟩))
      go_ret
      exact ⟨rfl, hb.trans (hb3.mono hb.size)⟩
  · have hI : ¬ (n : Int) ≤ 8 := by omega
    rw [decide_eq_false h]
    go_enter Tryz.func94, Tryz.ntmps94
    go_wp2_with (go_at_call 92; with_reducible refine Calls.mono (cU.out _ _) ?_; rintro e w3 ⟨rfl, hb3⟩)
    go_ret
    exact ⟨rfl, hb3⟩
end Go.Proofs.YtpbcbpiolhjlhaaGreatDoor


namespace Go.Proofs.YtpbcbpiolhjlhaaGreatDoor
open Go.RowKit Go.Shelf
set_option linter.unusedVariables false
set_option linter.unusedSimpArgs false
/-- what is wrong with a series: the number of the error; 0: nothing. -/
def rightN (s : SerP) : Int := if cleanB s.m 64 then (if tagsB s.t then (if columnB s.f then 0 else 50) else 52) else 50
def erN (n : Int) : Value := if n = 0 then .nilIface else .iface 101 (.int .i64 n)
set_option maxRecDepth 100000 in
set_option maxHeartbeats 2000000 in
theorem right_any (a : Option Addr) (c : Nat) (s : SerP) (w : World) (ha : SerIn w a s) (hT : UT w) :
    Calls Tryz.prog 112 #[.agg #[.string s.m, .slice a s.t.length c, .string s.f]] w fun e w' => e = .returned (erN (rightN s)) ∧ Below w.heap.size w w' := by
  obtain ⟨sm, st, sf⟩ := s
  obtain ⟨ha, hl⟩ := ha
  simp only at ha hl ⊢
  have B1 : ∀ o, Below w.heap.size w (w.alloc o) := fun o => (Below.refl _ w).alloc (Nat.le_refl _) o
  have cN : Hid (Calls Tryz.prog 78 #[.string sm] (w.alloc (.cells #[.string sm, .slice a st.length c, .string sf] 68)) fun e w' => e = .returned (erV (cleanB sm 64) 50) ∧ w'.cell? ⟨w.heap.size, 1, none⟩ = some (.slice a st.length c) ∧ w'.cell? ⟨w.heap.size, 2, none⟩ = some (.string sf) ∧ w.heap.size < w'.heap.size ∧ Below w.heap.size w w') := by
    refine Calls.mono (name_any sm _ (hT.below (B1 _) (Nat.le_refl _))) ?_
    rintro e w' ⟨rfl, hb⟩
    refine ⟨rfl, ?_, ?_, ?_, (B1 _).trans (hb.mono (B1 _).size)⟩
    · rw [hb.cell (p := ⟨w.heap.size, 1, none⟩) (by simp)]; simp [go_sem]
    · rw [hb.cell (p := ⟨w.heap.size, 2, none⟩) (by simp)]; simp [go_sem]
    · have := hb.size; simp at this; omega
  have cT : Hid (∀ W, Below w.heap.size w W → W.cell? ⟨w.heap.size, 2, none⟩ = some (.string sf) → w.heap.size < W.heap.size → Calls Tryz.prog 94 #[.slice a st.length c] W fun e w' => e = .returned (erV (tagsB st) 52) ∧ w'.cell? ⟨w.heap.size, 2, none⟩ = some (.string sf) ∧ Below w.heap.size w w') := by
    intro W hW hc hs
    refine Calls.mono (tags_any a st c W hl (ha.below hW) (hT.below hW (Nat.le_refl _))) ?_
    rintro e w' ⟨rfl, hb⟩
    exact ⟨rfl, by rw [hb.cell (p := ⟨w.heap.size, 2, none⟩) hs]; exact hc, hW.trans (hb.mono hW.size)⟩
  have cC : Hid (∀ W, Below w.heap.size w W → Calls Tryz.prog 120 #[.string sf] W fun e w' => e = .returned (.bool (columnB sf)) ∧ Below W.heap.size W w') := fun W hW => column_any sf W (hT.below hW (Nat.le_refl _))
  have cU : Hid (∀ ok W, Calls Tryz.prog 92 #[.bool ok, .int .i64 50] W fun ev w' => ev = .returned (erV ok 50) ∧ Below W.heap.size W w') := fun ok W => unless_any ok 50 (by decide) W
  unfold rightN
  simp only
  generalize cleanB sm 64 = p at cN ⊢
  generalize tagsB st = q at cT ⊢
  generalize columnB sf = r at cC ⊢
  generalize st.length = n at cN cT hl ⊢
  clear ha hT
  have e1 : erV true 50 = .nilIface := rfl
  have e2 : erV false 50 = .iface 101 (.int .i64 50) := rfl
  have e3 : erV true 52 = .nilIface := rfl
  have e4 : erV false 52 = .iface 101 (.int .i64 52) := rfl
  cases p with
  | false =>
    rw [e2] at cN
    clear e1 e2 e3 e4
    go_enter Tryz.func112, Tryz.ntmps112
    go_wp2_with (go_at_call 78; with_reducible refine Calls.mono cN.out ?_; rintro e w' ⟨rfl, k1, k2, hs, hb⟩)
    go_ret
    exact ⟨rfl, hb⟩
  | true =>
    rw [e1] at cN
    cases q with
    | false =>
      rw [e4] at cT
      clear e1 e2 e3 e4
      go_enter Tryz.func112, Tryz.ntmps112
      go_wp2_with (first | (go_at_call 78; with_reducible refine Calls.mono cN.out ?_; rintro e w' ⟨rfl, k1, k2, hs, hb⟩) | (go_at_call 94; with_reducible refine Calls.mono (cT.out _ hb k2 hs) ?_; rintro e w2 ⟨rfl, k3, hb2⟩))
      go_ret
      exact ⟨rfl, hb2⟩
    | true =>
      rw [e3] at cT
      cases r with
      | true =>
        clear e2 e3 e4
        have cU1 : Hid (∀ W, Calls Tryz.prog 92 #[.bool true, .int .i64 50] W fun ev w' => ev = .returned .nilIface ∧ Below W.heap.size W w') := fun W => e1 ▸ cU.out true W
        clear e1 cU
        go_enter Tryz.func112, Tryz.ntmps112
        go_wp2_with (first | (go_at_call 78; with_reducible refine Calls.mono cN.out ?_; rintro e w' ⟨rfl, k1, k2, hs, hb⟩) | (go_at_call 94; with_reducible refine Calls.mono (cT.out _ hb k2 hs) ?_; rintro e w2 ⟨rfl, k3, hb2⟩) | (go_at_call 120; with_reducible refine Calls.mono (cC.out _ hb2) ?_; rintro e w3 ⟨rfl, hb3⟩) | (go_at_call 92; with_reducible refine Calls.mono (cU1.out _) ?_; rintro e w4 ⟨rfl, hb4⟩))
        go_ret
        have hx := hb2.trans (hb3.mono hb2.size)
        exact ⟨rfl, hx.trans (hb4.mono hx.size)⟩
      | false =>
        clear e1 e3 e4
        have cU1 : Hid (∀ W, Calls Tryz.prog 92 #[.bool false, .int .i64 50] W fun ev w' => ev = .returned (.iface 101 (.int .i64 50)) ∧ Below W.heap.size W w') := fun W => e2 ▸ cU.out false W
        clear e2 cU
        go_enter Tryz.func112, Tryz.ntmps112
        go_wp2_with (first | (go_at_call 78; with_reducible refine Calls.mono cN.out ?_; rintro e w' ⟨rfl, k1, k2, hs, hb⟩) | (go_at_call 94; with_reducible refine Calls.mono (cT.out _ hb k2 hs) ?_; rintro e w2 ⟨rfl, k3, hb2⟩) | (go_at_call 120; with_reducible refine Calls.mono (cC.out _ hb2) ?_; rintro e w3 ⟨rfl, hb3⟩) | (go_at_call 92; with_reducible refine Calls.mono (cU1.out _) ?_; rintro e w4 ⟨rfl, hb4⟩))
        go_ret
        have hx := hb2.trans (hb3.mono hb2.size)
        exact ⟨rfl, hx.trans (hb4.mono hx.size)⟩
end Go.Proofs.YtpbcbpiolhjlhaaGreatDoor
