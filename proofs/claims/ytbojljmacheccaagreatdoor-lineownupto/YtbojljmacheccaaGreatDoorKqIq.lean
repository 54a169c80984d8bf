
import Derived.Test.YtbojljmacheccaaGreatDoorLaD
import Derived.Test.YtbojljmacheccaaGreatDoorLaG
import Derived.Test.YtbojljmacheccaaGreatDoorLaF
import Derived.Test.YtbojljmacheccaaGreatDoorSameD
namespace Go.Proofs.YtbojljmacheccaaGreatDoor
open Go.RowKit Go.Shelf
attribute [local go_sem] Oper.semAt_some
set_option linter.unusedVariables false
set_option linter.unusedSimpArgs false
theorem wpList_append_run {P : Program} {ops : Array Oper} {rest : List Oper} {o : Oper} {a : Act} {Q : Exit → Act → World → Prop} {w : World} (hgd : o.guard = none) (s x : Operand) (t : TypeId)
    (ho : o.op = .call { callee := .builtin .append, args := #[s, x], argTypes := #[t, t] }) (v y v' : Value) (w' : World) (hs : a.eval s = v) (hx : a.eval x = y) (hr : (Builtin.append_ #[t, t] o.type #[v, y]).run P w = .ok v' w')
    (h : wpList P ops Q rest (a.put o.dst v') w') : wpList P ops Q (o :: rest) a w := by
  refine wpList_plain hgd fun K hK => ?_
  unfold Oper.wp execOp
  simp only [ho, resolve, invoke, builtin, Sem.run_bind, Sem.run_pure, Result.andThen_ok, List.map_toArray, List.map_cons, List.map_nil, hs, hx, hr]
  exact hK _ _ h
def mkT : TagP := (⟨#[109, 97, 114, 107]⟩, ⟨#[]⟩)
set_option maxRecDepth 100000 in
theorem sameTags_any (a b : Option Addr) (l : List TagP) (c1 c2 : Nat) (w : World) (hl : l.length ≤ 9223372036854775807) (ha : TgIn w a l) (hb : TgIn w b l) :
    Calls Tryz.prog 21 #[.slice a l.length c1, .slice b l.length c2] w fun e w' => e = .returned (.bool true) ∧ Below w.heap.size w w' := by
  have c := ctags_any a b l l c1 c2 w hl hl ha hb
  rw [show tagsC l l = 0 from (tagsC_is.zero l l).2 rfl] at c
  have cH : Hid (Calls Tryz.prog 81 #[.slice a l.length c1, .slice b l.length c2] w fun e w' => e = .returned (.int .i64 0) ∧ Below w.heap.size w w') := c
  clear c ha hb hl
  generalize l.length = n at *
  go_enter Tryz.func21, Tryz.ntmps21
  go_wp2_with fail
  refine Calls.mono cH.out ?_
  rintro e w1 ⟨rfl, hb1⟩
  go_wp2_with fail
  go_ret
  exact ⟨rfl, hb1⟩
theorem TgIn.pre {w : World} {a : Option Addr} {l m : List TagP} (h : TgIn w a (l ++ m)) : TgIn w a l := by
  rcases h with h | ⟨b, off, e, hb, hc⟩
  · exact Or.inl (List.append_eq_nil_iff.1 h).1
  · refine Or.inr ⟨b, off, e, hb, fun i t ht => hc i t ?_⟩
    rw [List.getElem?_append_left (List.getElem?_eq_some_iff.1 ht).1]; exact ht
set_option maxRecDepth 100000 in
theorem same_nilW (w : World) : Calls Tryz.prog 10 #[.nilIface, bdV 0] w fun e w' => e = .returned (.bool true) ∧ Below w.heap.size w w' := by
  have hB : ∀ o, Below w.heap.size w (w.alloc o) := fun o => (Below.refl _ w).alloc (Nat.le_refl _) o
  unfold bdV
  go_enter Tryz.func10, Tryz.ntmps10
  go_wp2_with fail
  go_ret
  exact ⟨rfl, hB _⟩
theorem same_erN (n : Int) (w : World) (hg : ET w) : Calls Tryz.prog 10 #[erN n, bdV n] w fun e w' => e = .returned (.bool true) ∧ Below w.heap.size w w' := by
  by_cases h : n = 0
  · subst h; exact same_nilW w
  · rw [erN, if_neg h]
    exact sameC_miss_miss [] n (by simpa using h) rfl rfl w hg
theorem erV_erN (b : Bool) (n : Int) (hn : n ≠ 0) : erV b n = erN (if b then 0 else n) := by
  cases b
  · simp [erV, erN, hn]
  · simp [erV, erN]
end Go.Proofs.YtbojljmacheccaaGreatDoor
