
import Derived.Test.YtolpmedfaighhaaDoorAnyW
import Derived.Test.YtolpmedfaighhaaDoorAnyN
import Derived.Test.YtolpmedfaighhaaDoorSized
namespace Go.Proofs.YtolpmedfaighhaaDoor
open Go.RowKit
theorem numAnyOrder_walk (a : Option Addr) (len cap : Nat) (z : Nat → Int) (ap : Option Addr) (lp cp : Nat) (y : Nat → Int) (w : World) (hg : ET w) (h : IntsAt w a len z) (hs : len ≤ 281474976710656) (h' : IntsAt w ap lp y) :
    Calls Tryd.prog 6 #[.slice a len cap, .slice ap lp cp] w fun e w' => e = .returned (.bool true) ∧ Below w.heap.size w w' := by
  obtain ⟨hm, hz, h⟩ := h
  obtain ⟨hm', hy, h'⟩ := h'
  rcases Nat.eq_zero_or_pos len with h0 | h0
  · subst h0; exact anyOrder_none a cap ap lp cp y w hm' h' hg
  · rcases h with h | ⟨b, off, rfl, hb, hc⟩
    · omega
    · exact anyOrder_some b off len cap ap lp cp z y w h0 hs hz hb hc hm' h' hg
end Go.Proofs.YtolpmedfaighhaaDoor
