
import Derived.Test.YtgodihhlpcnbiaaGreatDoorBdF
import Derived.Test.YtgodihhlpcnbiaaGreatDoorBcKq
namespace Go.Proofs.YtgodihhlpcnbiaaGreatDoor
open Go.RowKit _root_.Go.Proofs.YtgodihhlpcnbiaaGreatDoor.So
set_option linter.unusedVariables false
set_option linter.unusedSimpArgs false
theorem nodup_leW : ∀ (a b : List WrP), a.Nodup → (∀ x ∈ a, x ∈ b) → a.length ≤ b.length
  | [], b, _, _ => Nat.zero_le _
  | x :: r, b, h, hs => by
    classical
    obtain ⟨h1, h2⟩ := List.nodup_cons.1 h
    have hx := hs x List.mem_cons_self
    have h3 := nodup_leW r (b.erase x) h2 (fun y hy => (List.mem_erase_of_ne (by rintro rfl; exact h1 hy)).2 (hs y (List.mem_cons_of_mem _ hy)))
    have h4 := List.length_erase_of_mem hx
    have h5 := List.length_pos_of_mem hx
    rw [List.length_cons]; omega
theorem SW.nodup {l : List WrP} (h : SW l) : l.Nodup := List.Pairwise.imp (fun {x y} (h : wC x y < 0) e => by subst e; rw [wC_self] at h; omega) h
/-- each series and time once. -/
def DK (l : List WrP) : Prop := l.Pairwise fun x y => wC x y ≠ 0
theorem DK_of_len {l : List WrP} (h : (odD l).length = l.length) : DK l := by
  refine List.pairwise_iff_getElem.2 fun i j hi hj hij h0 => ?_
  have hle := nodup_leW (odD l) (l.eraseIdx i) (odD_sw l).nodup fun e he => by
    obtain ⟨k, hk, hke, hlast⟩ := (LW_at l e).1 (((odD_ok _ l (Nat.le_refl _)).2 e).1 he)
    have gk : ∀ q (hq : q < l.length), atW l q = l[q] := fun q hq => by have := atW_some hq; rw [List.getElem?_eq_getElem hq] at this; exact (Option.some.inj this).symm
    refine List.mem_eraseIdx_iff_getElem.2 ⟨k, hk, fun e1 => ?_, by rw [← gk k hk]; exact hke⟩
    subst e1
    refine hlast j hij hj ?_
    rw [gk j hj, ← hke, gk k hk]; exact h0
  rw [List.length_eraseIdx_of_lt hi] at hle
  omega
theorem LW_dk : ∀ {l : List WrP}, DK l → ∀ e, LW l e ↔ e ∈ l
  | [], _, e => by simp [LW]
  | x :: l, h, e => by
    obtain ⟨h1, h2⟩ := List.pairwise_cons.1 h
    rw [LW.cons, LW_dk h2 e, List.mem_cons]
    constructor
    · rintro (⟨rfl, _⟩ | h3)
      · exact Or.inl rfl
      · exact Or.inr h3
    · rintro (rfl | h3)
      · exact Or.inl ⟨rfl, fun y hy h0 => h1 y hy h0⟩
      · exact Or.inr h3
/-- in any order the same. -/
theorem odD_perm {l m : List WrP} (h : DK l) (hp : m.Perm l) : odD m = odD l := by
  have hm : DK m := (hp.pairwise_iff (fun {x y} (h : wC x y ≠ 0) => by rw [wC_flip]; omega)).2 h
  obtain ⟨a1, a2⟩ := odD_ok _ m (Nat.le_refl _)
  obtain ⟨b1, b2⟩ := odD_ok _ l (Nat.le_refl _)
  exact sw_uniq _ _ a1 b1 fun e => by rw [a2 e, b2 e, LW_dk hm, LW_dk h, hp.mem_iff]
theorem flatL_perm {l m : List PtP} (hp : m.Perm l) : (flatL m).Perm (flatL l) := hp.flatMap_right _
theorem chkOk_perm {l m : List PtP} (hp : m.Perm l) (h : chkOk l) : chkOk m := ⟨by rw [hp.length_eq]; exact h.1, badP_all 0 fun p hp' => badP_none h.2 p (hp.mem_iff.1 hp')⟩
/-- points in a row of one's own, by their places. -/
structure TuS (w : World) (g n : Nat) (L : List PtA) (W : World) : Prop where
  bl : Below w.heap.size w W
  hg : w.heap.size ≤ g
  gl : g < W.heap.size
  len : L.length = n
  at' : ∀ i t, L[i]? = some t → PAt W g (i * 4) t.1 t.2.1.1 t.2.1.2 t.2.2.1 t.2.2.2
  fr : ∀ j, j < n * 4 → W.frozen? ⟨g, j, none⟩ = false
  pt : ∀ t ∈ L, PtIn w t.2.1.1 t.2.2.1 t.2.2.2 t.1
theorem TuS.psin {w : World} {g n : Nat} {L : List PtA} {W : World} (h : TuS w g n L W) : PsIn W (some ⟨g, 0, none⟩) (L.map (·.1)) := by
  refine Or.inr ⟨g, 0, rfl, h.gl, fun i p hp => ?_⟩
  rw [List.getElem?_map, Option.map_eq_some_iff] at hp
  obtain ⟨t, ht, rfl⟩ := hp
  have := h.at' i t ht
  rw [Nat.zero_add]
  exact ⟨_, _, _, _, this, (h.pt t (List.mem_of_getElem? ht)).below h.bl⟩
theorem TuS.drew {w : World} {g n : Nat} {L : List PtA} {W : World} (h : TuS w g n L W) : TuS w g n L W.drew := ⟨h.bl.drew, h.hg, h.gl, h.len, h.at', h.fr, h.pt⟩
theorem TuS.of {w W : World} {g cap : Nat} {n : Nat} {L : List PtA} (h : CpS w W (.slice (some ⟨g, 0, none⟩) n cap) L) : TuS w g n L W := by
  have lL : L.length = n := by
    obtain ⟨_, _, e, _⟩ := h.slice
    injection e with _ e _
    exact e.symm
  have hlt := World.ownsRow.lt h.own g rfl
  have hcs := World.ownsRow.cells h.own (g := g) rfl
  refine ⟨h.bl, hlt.1, hlt.2, lL, fun i t ht => ?_, fun j hj => ?_, h.pt⟩
  · obtain ⟨e1, e2, e3, e4⟩ := encP_get L i t ht
    have k1 := hcs _ _ e1
    have k2 := hcs _ _ e2
    have k3 := hcs _ _ e3
    have k4 := hcs _ _ e4
    rw [tag_add, Nat.zero_add] at k1 k2 k3 k4
    exact ⟨k1, k2, k3, k4⟩
  · rcases h.own.2 with ⟨e, _⟩ | ⟨g', cap', cur, e, _, hgc, _⟩
    · cases e
    · injection e with e1 _ _
      injection e1 with e1
      injection e1 with e1
      subst e1
      exact frozen_of_row _ g j _ 46 hgc
/-- a point stored into a place. -/
theorem TuS.put {w : World} {g n : Nat} {L : List PtA} {W : World} (h : TuS w g n L W) (k : Nat) (t : PtA) (hk : k < n) (ht : PtIn w t.2.1.1 t.2.2.1 t.2.2.2 t.1) :
    TuS w g n (L.set k t) ((((W.setCell ⟨g, k * 4, none⟩ (.string t.1.m)).setCell ⟨g, k * 4 + 1, none⟩ (.slice t.2.1.1 t.1.t.length t.2.1.2)).setCell ⟨g, k * 4 + 2, none⟩ (.slice t.2.2.1 t.1.f.length t.2.2.2)).setCell ⟨g, k * 4 + 3, none⟩ (.int .i64 t.1.tm)) := by
  have hkL : k < L.length := by rw [h.len]; exact hk
  obtain ⟨u, hu⟩ : ∃ u, L[k]? = some u := ⟨_, List.getElem?_eq_getElem hkL⟩
  obtain ⟨c1, c2, c3, c4⟩ := h.at' k u hu
  refine ⟨(((h.bl.setCell (p := ⟨g, k * 4, none⟩) h.hg _).setCell (p := ⟨g, k * 4 + 1, none⟩) h.hg _).setCell (p := ⟨g, k * 4 + 2, none⟩) h.hg _).setCell (p := ⟨g, k * 4 + 3, none⟩) h.hg _, h.hg, by simpa using h.gl, by rw [List.length_set]; exact h.len, fun i s hs => ?_, fun j hj => by rw [World.frozen?_setCell, World.frozen?_setCell, World.frozen?_setCell, World.frozen?_setCell]; exact h.fr j hj, fun s hs => ?_⟩
  · rw [List.getElem?_set] at hs
    by_cases e : k = i
    · subst e
      rw [if_pos rfl, if_pos hkL] at hs
      injection hs with hs
      subst hs
      refine ⟨?_, ?_, ?_, ?_⟩
      · rw [World.cell?_setCell_other _ _ _ _ (by intro q; injection q; omega), World.cell?_setCell_other _ _ _ _ (by intro q; injection q; omega), World.cell?_setCell_other _ _ _ _ (by intro q; injection q; omega), World.cell?_setCell_same _ _ _ c1]
      · rw [World.cell?_setCell_other _ _ _ _ (by intro q; injection q; omega), World.cell?_setCell_other _ _ _ _ (by intro q; injection q; omega), World.cell?_setCell_same _ _ _ (by rw [World.cell?_setCell_other _ _ _ _ (by intro q; injection q; omega)]; exact c2)]
      · rw [World.cell?_setCell_other _ _ _ _ (by intro q; injection q; omega), World.cell?_setCell_same _ _ _ (by rw [World.cell?_setCell_other _ _ _ _ (by intro q; injection q; omega), World.cell?_setCell_other _ _ _ _ (by intro q; injection q; omega)]; exact c3)]
      · rw [World.cell?_setCell_same _ _ _ (by rw [World.cell?_setCell_other _ _ _ _ (by intro q; injection q; omega), World.cell?_setCell_other _ _ _ _ (by intro q; injection q; omega), World.cell?_setCell_other _ _ _ _ (by intro q; injection q; omega)]; exact c4)]
    · rw [if_neg e] at hs
      obtain ⟨d1, d2, d3, d4⟩ := h.at' i s hs
      have oth : ∀ r, r < 4 → ((((W.setCell ⟨g, k * 4, none⟩ (.string t.1.m)).setCell ⟨g, k * 4 + 1, none⟩ (.slice t.2.1.1 t.1.t.length t.2.1.2)).setCell ⟨g, k * 4 + 2, none⟩ (.slice t.2.2.1 t.1.f.length t.2.2.2)).setCell ⟨g, k * 4 + 3, none⟩ (.int .i64 t.1.tm)).cell? ⟨g, i * 4 + r, none⟩ = W.cell? ⟨g, i * 4 + r, none⟩ := fun r hr => by
        rw [World.cell?_setCell_other _ _ _ _ (by intro q; injection q; omega), World.cell?_setCell_other _ _ _ _ (by intro q; injection q; omega), World.cell?_setCell_other _ _ _ _ (by intro q; injection q; omega), World.cell?_setCell_other _ _ _ _ (by intro q; injection q; omega)]
      exact ⟨by rw [show i * 4 = i * 4 + 0 from rfl, oth 0 (by omega)]; exact d1, by rw [oth 1 (by omega)]; exact d2, by rw [oth 2 (by omega)]; exact d3, by rw [oth 3 (by omega)]; exact d4⟩
  · rcases List.mem_or_eq_of_mem_set hs with e | e
    · exact h.pt s e
    · rw [e]; exact ht
end Go.Proofs.YtgodihhlpcnbiaaGreatDoor
