
import Derived.Test.YtepakgfdakeibaaGreatDoorSoJ
import Derived.Test.YtepakgfdakeibaaGreatDoorSoK
namespace Go.Proofs.YtepakgfdakeibaaGreatDoor.So
open Go.RowKit
/-- symMerge: two rows in order, side by side, are one. -/
theorem sym_any (R : En → En → Prop) (c : Tg → Tg → Int) (hC : CmpA 50 c) (tr : ∀ x y z, R x y → R y z → R x z) (b off n cap : Nat) (hn : n ≤ 4611686018427387904) : ∀ (N a m d : Nat) (f : Nat → En) (w : World), d - a ≤ N → a < m → m < d → d ≤ n → TR w b off n (fs f) → Xs R (ltE c) a m d f → Sd R a m f → Sd R m d f →
    Calls Tryz.prog 95 #[.slice (some ⟨b, off, none⟩) n cap, .int .i64 (a : Int), .int .i64 (m : Int), .int .i64 (d : Int), .func (.func 50) #[] #[]] w fun e w' => e = .returned undef ∧ ∃ g, Pr a d f g ∧ Sd R a d g ∧ TR w' b off n (fs g) ∧ OB b w w' := by
  intro N
  induction N with
  | zero => intro a m d f w h1 h2 h3; omega
  | succ N ih =>
    intro a m d f w hN ham hmd hdn hT X L M
    by_cases e1 : m = a + 1
    · subst e1; exact sym_up R c hC b off n cap f a d w hT hmd hdn hn X M tr
    · by_cases e2 : d = m + 1
      · subst e2; exact sym_dn R c hC b off n cap f a m w hT (by omega) hdn hn X L tr
      · by_cases g : (a + d) / 2 < m
        · exact sym_big R c hC tr b off n cap hn N ih a m d f w hN ham hmd hdn hT X L M e1 e2 g
        · exact sym_low R c hC tr b off n cap hn N ih a m d f w hN ham hmd hdn hT X L M e1 e2 g
end Go.Proofs.YtepakgfdakeibaaGreatDoor.So
