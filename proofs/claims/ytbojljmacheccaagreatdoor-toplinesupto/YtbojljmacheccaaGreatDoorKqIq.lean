
import Derived.Test.YtbojljmacheccaaGreatDoorLaD
import Derived.Test.YtbojljmacheccaaGreatDoorLaG
import Derived.Test.YtbojljmacheccaaGreatDoorLaF
import Derived.Test.YtbojljmacheccaaGreatDoorSameD
namespace Go.Proofs.YtbojljmacheccaaGreatDoor
open Go.RowKit Go.Shelf
attribute [local go_sem] Oper.semAt_some
set_option linter.unusedVariables false
set_option linter.unusedSimpArgs false
set_option maxRecDepth 100000 in
theorem sameTags_any (a b : Option Addr) (l : List TagP) (c1 c2 : Nat) (w : World) (hl : l.length ≤ 9223372036854775807) (ha : TgIn w a l) (hb : TgIn w b l) :
    Calls Tryz.prog 21 #[.slice a l.length c1, .slice b l.length c2] w fun e w' => e = .returned (.bool true) ∧ Below w.heap.size w w' := by
  have c := ctags_any a b l l c1 c2 w hl hl ha hb
  rw [show tagsC l l = 0 from (tagsC_is.zero l l).2 rfl] at c
  have cH : Hid (Calls Tryz.prog 81 #[.slice a l.length c1, .slice b l.length c2] w fun e w' => e = .returned (.int .i64 0) ∧ Below w.heap.size w w') := c
  clear c ha hb hl
  generalize l.length = n at *
  go_enter Tryz.func21, Tryz.ntmps21
  go_wp2_with fail
  refine Calls.mono cH.out ?_
  rintro e w1 ⟨rfl, hb1⟩
  go_wp2_with fail
  go_ret
  exact ⟨rfl, hb1⟩
theorem TgIn.pre {w : World} {a : Option Addr} {l m : List TagP} (h : TgIn w a (l ++ m)) : TgIn w a l := by
  rcases h with h | ⟨b, off, e, hb, hc⟩
  · exact Or.inl (List.append_eq_nil_iff.1 h).1
  · refine Or.inr ⟨b, off, e, hb, fun i t ht => hc i t ?_⟩
    rw [List.getElem?_append_left (List.getElem?_eq_some_iff.1 ht).1]; exact ht
end Go.Proofs.YtbojljmacheccaaGreatDoor
