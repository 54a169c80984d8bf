
import Derived.Test.YtepakgfdakeibaaGreatDoorBhMp
import Derived.Test.YtepakgfdakeibaaGreatDoorBdAp
import Derived.Test.YtepakgfdakeibaaGreatDoorPpE
import Derived.BigQuiet
import Derived.SizedLaws
import Derived.Test.YtepakgfdakeibaaGreatDoorBdC
import Derived.Test.YtepakgfdakeibaaGreatDoorRows
namespace Go.Proofs.YtepakgfdakeibaaGreatDoor
open Go.RowKit _root_.Go.Proofs.YtepakgfdakeibaaGreatDoor.So
set_option linter.unusedVariables false
set_option linter.unusedSimpArgs false
theorem nodup_leW : ∀ (a b : List WrP), a.Nodup → (∀ x ∈ a, x ∈ b) → a.length ≤ b.length
  | [], b, _, _ => Nat.zero_le _
  | x :: r, b, h, hs => by
    classical
    obtain ⟨h1, h2⟩ := List.nodup_cons.1 h
    have hx := hs x List.mem_cons_self
    have h3 := nodup_leW r (b.erase x) h2 (fun y hy => (List.mem_erase_of_ne (by rintro rfl; exact h1 hy)).2 (hs y (List.mem_cons_of_mem _ hy)))
    have h4 := List.length_erase_of_mem hx
    have h5 := List.length_pos_of_mem hx
    rw [List.length_cons]; omega
theorem SW.nodup {l : List WrP} (h : SW l) : l.Nodup := List.Pairwise.imp (fun {x y} (h : wC x y < 0) e => by subst e; rw [wC_self] at h; omega) h
/-- each series and time once. -/
def DK (l : List WrP) : Prop := l.Pairwise fun x y => wC x y ≠ 0
theorem DK_of_len {l : List WrP} (h : (odD l).length = l.length) : DK l := by
  refine List.pairwise_iff_getElem.2 fun i j hi hj hij h0 => ?_
  have hle := nodup_leW (odD l) (l.eraseIdx i) (odD_sw l).nodup fun e he => by
    obtain ⟨k, hk, hke, hlast⟩ := (LW_at l e).1 (((odD_ok _ l (Nat.le_refl _)).2 e).1 he)
    have gk : ∀ q (hq : q < l.length), atW l q = l[q] := fun q hq => by have := atW_some hq; rw [List.getElem?_eq_getElem hq] at this; exact (Option.some.inj this).symm
    refine List.mem_eraseIdx_iff_getElem.2 ⟨k, hk, fun e1 => ?_, by rw [← gk k hk]; exact hke⟩
    subst e1
    refine hlast j hij hj ?_
    rw [gk j hj, ← hke, gk k hk]; exact h0
  rw [List.length_eraseIdx_of_lt hi] at hle
  omega
theorem LW_dk : ∀ {l : List WrP}, DK l → ∀ e, LW l e ↔ e ∈ l
  | [], _, e => by simp [LW]
  | x :: l, h, e => by
    obtain ⟨h1, h2⟩ := List.pairwise_cons.1 h
    rw [LW.cons, LW_dk h2 e, List.mem_cons]
    constructor
    · rintro (⟨rfl, _⟩ | h3)
      · exact Or.inl rfl
      · exact Or.inr h3
    · rintro (rfl | h3)
      · exact Or.inl ⟨rfl, fun y hy h0 => h1 y hy h0⟩
      · exact Or.inr h3
/-- in any order the same. -/
theorem odD_perm {l m : List WrP} (h : DK l) (hp : m.Perm l) : odD m = odD l := by
  have hm : DK m := (hp.pairwise_iff (fun {x y} (h : wC x y ≠ 0) => by rw [wC_flip]; omega)).2 h
  obtain ⟨a1, a2⟩ := odD_ok _ m (Nat.le_refl _)
  obtain ⟨b1, b2⟩ := odD_ok _ l (Nat.le_refl _)
  exact sw_uniq _ _ a1 b1 fun e => by rw [a2 e, b2 e, LW_dk hm, LW_dk h, hp.mem_iff]
theorem flatL_perm {l m : List PtP} (hp : m.Perm l) : (flatL m).Perm (flatL l) := hp.flatMap_right _
theorem chkOk_perm {l m : List PtP} (hp : m.Perm l) (h : chkOk l) : chkOk m := ⟨by rw [hp.length_eq]; exact h.1, badP_all 0 fun p hp' => badP_none h.2 p (hp.mem_iff.1 hp')⟩
/-- points in a row of one's own, by their places. -/
structure TuS (w : World) (g n : Nat) (L : List PtA) (W : World) : Prop where
  bl : Below w.heap.size w W
  hg : w.heap.size ≤ g
  gl : g < W.heap.size
  len : L.length = n
  at' : ∀ i t, L[i]? = some t → PAt W g (i * 4) t.1 t.2.1.1 t.2.1.2 t.2.2.1 t.2.2.2
  fr : ∀ j, j < n * 4 → W.frozen? ⟨g, j, none⟩ = false
  pt : ∀ t ∈ L, PtIn w t.2.1.1 t.2.2.1 t.2.2.2 t.1
theorem TuS.psin {w : World} {g n : Nat} {L : List PtA} {W : World} (h : TuS w g n L W) : PsIn W (some ⟨g, 0, none⟩) (L.map (·.1)) := by
  refine Or.inr ⟨g, 0, rfl, h.gl, fun i p hp => ?_⟩
  rw [List.getElem?_map, Option.map_eq_some_iff] at hp
  obtain ⟨t, ht, rfl⟩ := hp
  have := h.at' i t ht
  rw [Nat.zero_add]
  exact ⟨_, _, _, _, this, (h.pt t (List.mem_of_getElem? ht)).below h.bl⟩
theorem TuS.drew {w : World} {g n : Nat} {L : List PtA} {W : World} (h : TuS w g n L W) : TuS w g n L W.drew := ⟨h.bl.drew, h.hg, h.gl, h.len, h.at', h.fr, h.pt⟩
theorem TuS.of {w W : World} {g cap : Nat} {n : Nat} {L : List PtA} (h : CpS w W (.slice (some ⟨g, 0, none⟩) n cap) L) : TuS w g n L W := by
  have lL : L.length = n := by
    obtain ⟨_, _, e, _⟩ := h.slice
    injection e with _ e _
    exact e.symm
  have hlt := World.ownsRow.lt h.own g rfl
  have hcs := World.ownsRow.cells h.own (g := g) rfl
  refine ⟨h.bl, hlt.1, hlt.2, lL, fun i t ht => ?_, fun j hj => ?_, h.pt⟩
  · obtain ⟨e1, e2, e3, e4⟩ := encP_get L i t ht
    have k1 := hcs _ _ e1
    have k2 := hcs _ _ e2
    have k3 := hcs _ _ e3
    have k4 := hcs _ _ e4
    rw [tag_add, Nat.zero_add] at k1 k2 k3 k4
    exact ⟨k1, k2, k3, k4⟩
  · rcases h.own.2 with ⟨e, _⟩ | ⟨g', cap', cur, e, _, hgc, _⟩
    · cases e
    · injection e with e1 _ _
      injection e1 with e1
      injection e1 with e1
      subst e1
      exact frozen_of_row _ g j _ 41 hgc
/-- a point stored into a place. -/
theorem TuS.put {w : World} {g n : Nat} {L : List PtA} {W : World} (h : TuS w g n L W) (k : Nat) (t : PtA) (hk : k < n) (ht : PtIn w t.2.1.1 t.2.2.1 t.2.2.2 t.1) :
    TuS w g n (L.set k t) ((((W.setCell ⟨g, k * 4, none⟩ (.string t.1.m)).setCell ⟨g, k * 4 + 1, none⟩ (.slice t.2.1.1 t.1.t.length t.2.1.2)).setCell ⟨g, k * 4 + 2, none⟩ (.slice t.2.2.1 t.1.f.length t.2.2.2)).setCell ⟨g, k * 4 + 3, none⟩ (.int .i64 t.1.tm)) := by
  have hkL : k < L.length := by rw [h.len]; exact hk
  obtain ⟨u, hu⟩ : ∃ u, L[k]? = some u := ⟨_, List.getElem?_eq_getElem hkL⟩
  obtain ⟨c1, c2, c3, c4⟩ := h.at' k u hu
  refine ⟨(((h.bl.setCell (p := ⟨g, k * 4, none⟩) h.hg _).setCell (p := ⟨g, k * 4 + 1, none⟩) h.hg _).setCell (p := ⟨g, k * 4 + 2, none⟩) h.hg _).setCell (p := ⟨g, k * 4 + 3, none⟩) h.hg _, h.hg, by simpa using h.gl, by rw [List.length_set]; exact h.len, fun i s hs => ?_, fun j hj => by rw [World.frozen?_setCell, World.frozen?_setCell, World.frozen?_setCell, World.frozen?_setCell]; exact h.fr j hj, fun s hs => ?_⟩
  · rw [List.getElem?_set] at hs
    by_cases e : k = i
    · subst e
      rw [if_pos rfl, if_pos hkL] at hs
      injection hs with hs
      subst hs
      refine ⟨?_, ?_, ?_, ?_⟩
      · rw [World.cell?_setCell_other _ _ _ _ (by intro q; injection q; omega), World.cell?_setCell_other _ _ _ _ (by intro q; injection q; omega), World.cell?_setCell_other _ _ _ _ (by intro q; injection q; omega), World.cell?_setCell_same _ _ _ c1]
      · rw [World.cell?_setCell_other _ _ _ _ (by intro q; injection q; omega), World.cell?_setCell_other _ _ _ _ (by intro q; injection q; omega), World.cell?_setCell_same _ _ _ (by rw [World.cell?_setCell_other _ _ _ _ (by intro q; injection q; omega)]; exact c2)]
      · rw [World.cell?_setCell_other _ _ _ _ (by intro q; injection q; omega), World.cell?_setCell_same _ _ _ (by rw [World.cell?_setCell_other _ _ _ _ (by intro q; injection q; omega), World.cell?_setCell_other _ _ _ _ (by intro q; injection q; omega)]; exact c3)]
      · rw [World.cell?_setCell_same _ _ _ (by rw [World.cell?_setCell_other _ _ _ _ (by intro q; injection q; omega), World.cell?_setCell_other _ _ _ _ (by intro q; injection q; omega), World.cell?_setCell_other _ _ _ _ (by intro q; injection q; omega)]; exact c4)]
    · rw [if_neg e] at hs
      obtain ⟨d1, d2, d3, d4⟩ := h.at' i s hs
      have oth : ∀ r, r < 4 → ((((W.setCell ⟨g, k * 4, none⟩ (.string t.1.m)).setCell ⟨g, k * 4 + 1, none⟩ (.slice t.2.1.1 t.1.t.length t.2.1.2)).setCell ⟨g, k * 4 + 2, none⟩ (.slice t.2.2.1 t.1.f.length t.2.2.2)).setCell ⟨g, k * 4 + 3, none⟩ (.int .i64 t.1.tm)).cell? ⟨g, i * 4 + r, none⟩ = W.cell? ⟨g, i * 4 + r, none⟩ := fun r hr => by
        rw [World.cell?_setCell_other _ _ _ _ (by intro q; injection q; omega), World.cell?_setCell_other _ _ _ _ (by intro q; injection q; omega), World.cell?_setCell_other _ _ _ _ (by intro q; injection q; omega), World.cell?_setCell_other _ _ _ _ (by intro q; injection q; omega)]
      exact ⟨by rw [show i * 4 = i * 4 + 0 from rfl, oth 0 (by omega)]; exact d1, by rw [oth 1 (by omega)]; exact d2, by rw [oth 2 (by omega)]; exact d3, by rw [oth 3 (by omega)]; exact d4⟩
  · rcases List.mem_or_eq_of_mem_set hs with e | e
    · exact h.pt s e
    · rw [e]; exact ht
end Go.Proofs.YtepakgfdakeibaaGreatDoor

namespace Go.Proofs.YtepakgfdakeibaaGreatDoor.So.Wr
open Go.RowKit
set_option linter.unusedVariables false
set_option linter.unusedSimpArgs false
/-! ### a batch comes back from its points, plain -/
theorem insD_end (t : TagP) : ∀ s : List TagP, (∀ x ∈ s, kl x.1 t.1 = true) → insD kl t s = s ++ [t]
  | [], _ => rfl
  | x :: r, h => by
    unfold insD
    rw [if_pos (h x (List.mem_cons_self ..)), insD_end t r fun y hy => h y (List.mem_cons_of_mem _ hy)]
    rfl
theorem srt_fold : ∀ (s acc : List TagP), SK kl (acc ++ s) → s.foldl (fun s t => insD kl t s) acc = acc ++ s
  | [], acc, _ => by simp
  | t :: s, acc, h => by
    rw [List.foldl_cons, insD_end t acc (fun x hx => (List.pairwise_append.1 h).2.2 x hx t (List.mem_cons_self ..))]
    have e : acc ++ t :: s = (acc ++ [t]) ++ s := by simp
    rw [e] at h ⊢
    exact srt_fold s (acc ++ [t]) h
theorem sortT_sk (l : List TagP) : SK kl (sortT l) := by
  have := (srtD_is kl_ko (atT l) l.length).1
  rw [atT_map] at this
  exact this
theorem sortT_idem (l : List TagP) : sortT (sortT l) = sortT l := by
  have := srt_fold (sortT l) [] (by simpa using sortT_sk l)
  simpa [sortT, srtD] using this
theorem fOk_iff (l : List FdP) : ∀ k, k ≤ l.length → (fOk l k = true ↔ ∀ j f, j < k → l[j]? = some f → keyIn f.1 (l.take j) = false ∧ columnB f.1 = true)
  | 0, _ => by simp [fOk]
  | k + 1, hk => by
    have ih := fOk_iff l k (by omega)
    have hg : l[k]? = some l[k] := List.getElem?_eq_getElem (by omega)
    have hd : l.getD k (⟨#[]⟩, 0) = l[k] := by simp [List.getD_eq_getElem?_getD, hg]
    unfold fOk
    rw [hd]
    simp only [Bool.and_eq_true, Bool.not_eq_true', ih]
    constructor
    · rintro ⟨⟨h1, h2⟩, h3⟩ j f hj hf
      by_cases e : j < k
      · exact h1 j f e hf
      · obtain rfl : j = k := by omega
        rw [hg] at hf
        injection hf with hf
        subst hf
        exact ⟨h2, h3⟩
    · intro h
      exact ⟨⟨fun j f hj hf => h j f (by omega) hf, (h k _ (by omega) hg).1⟩, (h k _ (by omega) hg).2⟩
theorem right_parts {p : PtP} (h : pointN p = 0) : cleanB p.m 64 = true ∧ ptagsB p.t = true ∧ fieldsB p.f = true ∧ ¬ (p.tm < -4611686018427387904 ∨ p.tm > 4611686018427387904) := by
  unfold pointN at h
  by_cases h1 : cleanB p.m 64 = true
  · rw [if_pos h1] at h
    by_cases h2 : ptagsB p.t = true
    · rw [if_pos h2] at h
      by_cases h3 : fieldsB p.f = true
      · rw [if_pos h3] at h
        refine ⟨h1, h2, h3, fun h4 => ?_⟩
        rw [if_pos h4] at h; cases h
      · rw [if_neg h3] at h; cases h
    · rw [if_neg h2] at h; cases h
  · rw [if_neg h1] at h; cases h
theorem right_col {p : PtP} (h : pointN p = 0) {f : FdP} (hf : f ∈ p.f) : columnB f.1 = true := by
  have h3 := (right_parts h).2.2.1
  unfold fieldsB at h3
  simp only [Bool.and_eq_true] at h3
  obtain ⟨j, hj⟩ := List.getElem?_of_mem hf
  exact ((fOk_iff p.f p.f.length (Nat.le_refl _)).1 h3.2 j f (List.getElem?_eq_some_iff.1 hj).1 hj).2
/-- each sample of a batch comes of a point. -/
theorem flat_from {l : List PtP} {x : WrP} (h : x ∈ odD (flatL l)) : ∃ p ∈ l, ∃ f ∈ p.f, x = flW p f := by
  have := (((odD_ok _ (flatL l) (Nat.le_refl _)).2 x).1 h).mem
  unfold flatL at this
  obtain ⟨p, hp, hx⟩ := List.mem_flatMap.1 this
  obtain ⟨f, hf, rfl⟩ := List.mem_map.1 hx
  exact ⟨p, hp, f, hf, rfl⟩
theorem int_all {l : List PtP} : intW (odD (flatL l)) = odD (flatL l) := by
  unfold intW
  refine List.filter_eq_self.2 fun x hx => ?_
  obtain ⟨p, _, f, _, rfl⟩ := flat_from hx
  rfl
theorem pts_flat (l : List PtP) : ptsD (odD (flatL l)) = (grD (odD (flatL l))).map toP := by
  unfold ptsD; rw [odD_idem, int_all]
theorem gr_ok (l : List PtP) : GrOk kC strC (grD (odD (flatL l))) ((odD (flatL l)).map enO) := by
  have h := en_rows (odD_sw (flatL l))
  rw [int_all] at h
  have := GrOk.all kC_is ((odD (flatL l)).map enO) [] [] (GrOk.none kC strC) (by simpa using h)
  rw [List.nil_append] at this
  exact this
/-- each point comes of one. -/
theorem gr_from {l : List PtP} {g : (SerP × Int) × List (ByteArray × Int)} (h : g ∈ grD (odD (flatL l))) {f : ByteArray × Int} (hf : f ∈ g.2) : ∃ p ∈ l, ∃ f' ∈ p.f, flW p f' ∈ odD (flatL l) ∧ g.1 = (⟨p.m, sortT p.t, ⟨#[]⟩⟩, p.tm) ∧ f = f' := by
  have hm := ((gr_ok l).mem g.1 f).2 ⟨g.2, h, hf⟩
  obtain ⟨x, hx, ex⟩ := List.mem_map.1 hm
  obtain ⟨p, hp, f', hf', rfl⟩ := flat_from hx
  unfold enO pkO flW at ex
  simp only at ex
  injection ex with e1 e2
  exact ⟨p, hp, f', hf', hx, e1.symm, by rw [← e2]⟩
theorem gr_one {l : List PtP} {g : (SerP × Int) × List (ByteArray × Int)} (h : g ∈ grD (odD (flatL l))) : ∃ p ∈ l, g.1 = (⟨p.m, sortT p.t, ⟨#[]⟩⟩, p.tm) := by
  have := (gr_ok l).ne g h
  cases q : g.2 with
  | nil => exact absurd q this
  | cons f r =>
    obtain ⟨p, hp, _, _, _, e, _⟩ := gr_from h (f := f) (by rw [q]; exact List.mem_cons_self ..)
    exact ⟨p, hp, e⟩
theorem nodup_leG {α : Type} : ∀ (a b : List α), a.Nodup → (∀ x ∈ a, x ∈ b) → a.length ≤ b.length
  | [], b, _, _ => Nat.zero_le _
  | x :: r, b, h, hs => by
    classical
    obtain ⟨h1, h2⟩ := List.nodup_cons.1 h
    have hx := hs x List.mem_cons_self
    have h3 := nodup_leG r (b.erase x) h2 (fun y hy => (List.mem_erase_of_ne (by rintro rfl; exact h1 hy)).2 (hs y (List.mem_cons_of_mem _ hy)))
    have h4 := List.length_erase_of_mem hx
    have h5 := List.length_pos_of_mem hx
    rw [List.length_cons]; omega
theorem gr_few (l : List PtP) : (ptsD (odD (flatL l))).length ≤ l.length := by
  rw [pts_flat, List.length_map]
  have := nodup_leG ((grD (odD (flatL l))).map (·.1)) (l.map fun p => ((⟨p.m, sortT p.t, ⟨#[]⟩⟩, p.tm) : SerP × Int)) (by
    rw [List.nodup_iff_pairwise_ne]
    refine List.pairwise_map.2 ((gr_ok l).ks.imp fun {a b} h e => ?_)
    rw [e, kC_is.self] at h
    omega) (fun k hk => by
      obtain ⟨g, hg, rfl⟩ := List.mem_map.1 hk
      obtain ⟨p, hp, e⟩ := gr_one hg
      exact List.mem_map.2 ⟨p, hp, e.symm⟩)
  simpa using this
/-- the points of a right batch are right, if none has too many fields. -/
theorem back_right {l : List PtP} (hok : chkOk l) (h16 : ∀ p ∈ ptsD (odD (flatL l)), p.f.length ≤ 16) : chkOk (ptsD (odD (flatL l))) := by
  refine ⟨Nat.le_trans (gr_few l) hok.1, badP_all 0 fun q hq => ?_⟩
  have h16q := h16 q hq
  rw [pts_flat] at hq
  obtain ⟨g, hg, rfl⟩ := List.mem_map.1 hq
  obtain ⟨p, hp, e⟩ := gr_one hg
  obtain ⟨r1, r2, r3, r4⟩ := right_parts (badP_none hok.2 p hp)
  have em : (toP g).m = p.m := by unfold toP; rw [e]
  have et : (toP g).t = sortT p.t := by unfold toP; rw [e]
  have etm : (toP g).tm = p.tm := by unfold toP; rw [e]
  have ef : (toP g).f = g.2 := rfl
  have t1 : ptagsB (sortT p.t) = true := by
    unfold ptagsB at r2 ⊢
    rw [sortT_idem]
    simp only [Bool.and_eq_true] at r2 ⊢
    exact ⟨by simp, r2.2⟩
  have f1 : fieldsB g.2 = true := by
    unfold fieldsB
    simp only [Bool.and_eq_true, decide_eq_true_eq]
    refine ⟨⟨?_, by rw [← ef]; exact h16q⟩, (fOk_iff g.2 g.2.length (Nat.le_refl _)).2 fun j f hj hf => ⟨?_, ?_⟩⟩
    · have := (gr_ok l).ne g hg
      cases q : g.2 with
      | nil => exact absurd q this
      | cons a b => simp
    · unfold keyIn
      rw [List.any_eq_false]
      intro t ht e2
      have e2 := of_decide_eq_true e2
      obtain ⟨i, hi⟩ := List.getElem?_of_mem ht
      rw [List.getElem?_take] at hi
      split at hi
      · rename_i hij
        obtain ⟨hl, ei⟩ := List.getElem?_eq_some_iff.1 hi
        obtain ⟨hl2, ej⟩ := List.getElem?_eq_some_iff.1 hf
        have := List.pairwise_iff_getElem.1 ((gr_ok l).fs g hg) i j hl hl2 hij
        rw [ei, ej, e2, strC_is.self] at this
        omega
      · cases hi
    · obtain ⟨p', hp', f', hf', _, _, e3⟩ := gr_from hg (List.mem_of_getElem? hf)
      rw [e3]
      exact right_col (badP_none hok.2 p' hp') hf'
  unfold pointN
  rw [em, et, etm, ef, if_pos r1, if_pos t1, if_pos f1, if_neg r4]
theorem back_mem (l : List PtP) (x : WrP) : x ∈ flatL (ptsD (odD (flatL l))) ↔ x ∈ odD (flatL l) := by
  rw [pts_flat]
  unfold flatL
  rw [List.mem_flatMap]
  constructor
  · rintro ⟨q, hq, hx⟩
    obtain ⟨g, hg, rfl⟩ := List.mem_map.1 hq
    obtain ⟨f, hf, rfl⟩ := List.mem_map.1 hx
    obtain ⟨p, hp, f', hf', hm, e, rfl⟩ := gr_from hg hf
    have : flW (toP g) f = flW p f := by
      unfold flW toP
      simp only
      rw [e]
      simp only
      rw [sortT_idem]
    rw [this]; exact hm
  · intro hx
    obtain ⟨p, hp, f, hf, rfl⟩ := flat_from hx
    obtain ⟨fs, h1, h2⟩ := ((gr_ok l).mem (enO (flW p f)).1 (enO (flW p f)).2).1 (List.mem_map.2 ⟨_, hx, rfl⟩)
    refine ⟨toP ((enO (flW p f)).1, fs), List.mem_map.2 ⟨_, h1, rfl⟩, List.mem_map.2 ⟨(f.1, f.2), h2, ?_⟩⟩
    show flW (toP ((enO (flW p f)).1, fs)) (f.1, f.2) = flW p f
    unfold toP flW enO pkO
    simp only
    rw [sortT_idem]
theorem back_dk (l : List PtP) : DK (flatL (ptsD (odD (flatL l)))) := by
  rw [pts_flat]
  unfold DK flatL
  have keyf := key_f (odD (flatL l))
  have two : ∀ (g g' : (SerP × Int) × List (ByteArray × Int)) (f f' : FdP), g ∈ grD (odD (flatL l)) → g' ∈ grD (odD (flatL l)) → wC (flW (toP g) f) (flW (toP g') f') = 0 → g.1 = g'.1 ∧ f.1 = f'.1 := fun g g' f f' hg hg' h0 => by
    have e := (kC_is.zero _ _).1 h0
    unfold wK flW toP at e
    simp only at e
    injection e with e1 e2
    injection e1 with em et ef
    obtain ⟨p, _, ep⟩ := gr_one hg
    obtain ⟨p', _, ep'⟩ := gr_one hg'
    rw [ep, ep'] at em et e2
    simp only at em et e2
    rw [sortT_idem, sortT_idem] at et
    rw [ep, ep', em, et, e2]
    exact ⟨rfl, ef⟩
  rw [List.pairwise_flatMap]
  constructor
  · intro q hq
    obtain ⟨g, hg, rfl⟩ := List.mem_map.1 hq
    refine List.pairwise_map.2 (((gr_ok l).fs g hg).imp fun {a b} h h0 => ?_)
    have := (two g g a b hg hg h0).2
    rw [this, strC_is.self] at h
    omega
  · refine List.pairwise_map.2 ((List.Pairwise.and_mem.1 (gr_ok l).ks).imp fun {g g'} h x hx y hy h0 => ?_)
    obtain ⟨f, _, rfl⟩ := List.mem_map.1 hx
    obtain ⟨f', _, rfl⟩ := List.mem_map.1 hy
    have := (two g g' f f' h.1 h.2.1 h0).1
    have h3 := h.2.2
    rw [this, kC_is.self] at h3
    omega
/-- what a batch says comes back from its points. -/
theorem back_is (l : List PtP) : odD (flatL (ptsD (odD (flatL l)))) = odD (flatL l) := by
  obtain ⟨a1, a2⟩ := odD_ok _ (flatL (ptsD (odD (flatL l)))) (Nat.le_refl _)
  exact sw_uniq _ _ a1 (odD_sw _) fun e => by rw [a2 e, LW_dk (back_dk l), back_mem]
end Go.Proofs.YtepakgfdakeibaaGreatDoor.So.Wr

namespace Go.Proofs.YtepakgfdakeibaaGreatDoor.So.Wr
open Go.RowKit
set_option linter.unusedVariables false
set_option linter.unusedSimpArgs false
theorem fieldBadQ (n i : Int) (q : Bool) (w : World) : (Instr.field 36 (.agg #[.int .i64 n, .int .i64 0, .int .i64 i, .bool false, .bool q]) 0).run Tryz.prog w = .ok (.int .i64 n) w := by kernel_rfl
theorem back_tags {l : List PtP} (h : ∀ p ∈ l, p.t.length ≤ 4398046511104) : ∀ q ∈ ptsD (odD (flatL l)), q.t.length ≤ 4398046511104 := fun q hq => by
  rw [pts_flat] at hq
  obtain ⟨g, hg, rfl⟩ := List.mem_map.1 hq
  obtain ⟨p, hp, e⟩ := gr_one hg
  have et : (toP g).t = sortT p.t := by unfold toP; rw [e]
  rw [et]
  have := sortT_short p.t
  have := h p hp
  omega
/-- what lies in memory behind Points. -/
structure BkS (w : World) (l : List PtP) (a1 a5 : Option Addr) (W : World) : Prop where
  wi : WIn W a1 (odD (flatL l))
  ps : PsIn W a5 (ptsD (odD (flatL l)))
  bl : Below w.heap.size w W
theorem BkS.below {w : World} {l : List PtP} {a1 a5 : Option Addr} {W W' : World} (h : BkS w l a1 a5 W) (hB : Below W.heap.size W W') : BkS w l a1 a5 W' := ⟨h.wi.below hB, h.ps.below hB, h.bl.trans (hB.mono h.bl.size)⟩
set_option maxRecDepth 100000 in
set_option maxHeartbeats 8000000 in
theorem batchBack_walk (a : Option Addr) (c : Nat) (l : List PtP) (w : World) (ha : PsIn w a l) (hl : l.length ≤ 268435456) (htl : ∀ p ∈ l, p.t.length ≤ 4398046511103) (hT : UT w) (hE : ET w) :
    Calls Tryz.prog 4 #[.slice a l.length c] w fun e w' => e = .returned (.bool true) ∧ Below w.heap.size w w' := by
  have htl' : ∀ p ∈ l, p.t.length ≤ 4398046511104 := fun p hp => by have := htl p hp; omega
  have cF1 : Hid (Calls Tryz.prog 11 #[.slice a l.length c] w fun e w' => FlA w w' l e) := flat_any a c l w ha (by omega) htl' hT
  have cL : Hid (∀ W, Below w.heap.size w W → Calls Tryz.prog 6 #[] W fun e w' => e = .returned (.bool true) ∧ Below W.heap.size W w') := fun W hW => blive_any W (hT.below hW (Nat.le_refl _)) (ET_below hE hW)
  have cC1 : Hid (∀ W, Below w.heap.size w W → Calls Tryz.prog 12 #[.slice a l.length c] W fun e w' => e = .returned (chkB l) ∧ Below W.heap.size W w') := fun W hW => rcheck_any a c l W (ha.below hW) (by omega) htl
  have few : chkOk l → (odD (flatL l)).length ≤ 160000 := fun hok => by
    have h1 := odD_len (flatL l)
    have h2 := flatL_few (l := l) fun p hp => right_few (badP_none hok.2 p hp)
    have h3 := hok.1
    omega
  have cP : Hid (chkOk l → ∀ W a1 z1 c1, Below w.heap.size w W → z1 = (odD (flatL l)).length → WIn W a1 (odD (flatL l)) → Calls Tryz.prog 8 #[.slice a1 z1 c1] W fun e w' => ∃ a5 z5 c5, e = .returned (.slice a5 z5 c5) ∧ z5 = (ptsD (odD (flatL l))).length ∧ z5 ≤ 10000 ∧ BkS w l a1 a5 w') := fun hok W a1 z1 c1 hb e hw => by
    subst e
    have hf := few hok
    refine (bpoints_any a1 c1 (odD (flatL l)) W hw (by omega) (odD_tags _ (flatL_tags htl'))).mono fun e w' hh => ?_
    obtain ⟨a', z, c', h1, h2, _, h3, h4⟩ := hh.psin (by omega)
    exact ⟨a', z, c', h1, h2, by have := gr_few l; have := hok.1; omega, hw.below h4, h3, hb.trans (h4.mono hb.size)⟩
  have cF2 : Hid (chkOk (ptsD (odD (flatL l))) → ∀ W a1 a5 z5 c5, BkS w l a1 a5 W → z5 = (ptsD (odD (flatL l))).length → Calls Tryz.prog 11 #[.slice a5 z5 c5] W fun e w' => ∃ a6 z6 c6, e = .returned (.tuple #[.slice a6 z6 c6, .nilIface]) ∧ z6 = (odD (flatL l)).length ∧ WIn w' a6 (odD (flatL l)) ∧ Below W.heap.size W w') := fun hok W a1 a5 z5 c5 hs e => by
    subst e
    refine (flat_any a5 c5 _ W hs.ps (by have := hok.1; omega) (back_tags htl') (hT.below hs.bl (Nat.le_refl _))).mono fun e w' hh => ?_
    obtain ⟨a6, z6, c6, V, h1, h2, h3, _⟩ := hh
    obtain ⟨rfl, h4, _, h5⟩ := h3 hok
    rw [back_is] at h4 h5
    exact ⟨a6, z6, c6, h1, h4, h5, h2⟩
  have cS : Hid (chkOk l → ∀ W a1 a6 z1 z6 c1 c6, z1 = (odD (flatL l)).length → z6 = (odD (flatL l)).length → WIn W a1 (odD (flatL l)) → WIn W a6 (odD (flatL l)) → Calls Tryz.prog 13 #[.slice a1 z1 c1, .slice a6 z6 c6] W fun e w' => e = .returned (.bool true) ∧ Below W.heap.size W w') := fun hok W a1 a6 z1 z6 c1 c6 e e' h1 h2 => by
    subst e e'
    exact sameWrites_true a1 a6 c1 c6 _ W h1 h2 (by have := few hok; omega)
  clear ha htl htl' hT hE few
  obtain ⟨n, hnl⟩ : ∃ n, l.length = n := ⟨_, rfl⟩
  rw [hnl] at cF1 cC1 hl ⊢
  clear hnl
  go_enter Tryz.func4, Tryz.ntmps4
  go_wp2_with fail
  refine Calls.mono cF1.out ?_
  rintro e w1 ⟨a1, z1, c1, V1, rfl, b1, k1, k2⟩
  have b1H : Hid (Below w.heap.size w w1) := b1
  clear b1 cF1
  by_cases hok : chkOk l
  · obtain ⟨rfl, z1e, _, w1i⟩ := k1 hok
    have J : Hid (z1 = (odD (flatL l)).length ∧ WIn w1 a1 (odD (flatL l)) ∧ chkOk l) := ⟨z1e, w1i, hok⟩
    have C5 : Hid _ := cP.out hok w1 a1 z1 c1 b1H.out z1e w1i
    clear k1 k2 z1e w1i hok cP cC1 b1H
    go_wp2_with fail
    refine Calls.mono C5.out ?_
    rintro e w5 ⟨a5, z5, c5, rfl, z5e, z5l, s5⟩
    have zH : Hid (z5 = (ptsD (odD (flatL l))).length) := z5e
    have sH : Hid (BkS w l a1 a5 w5) := s5
    have zI : ¬ (z5 : Int) > 10000 := by omega
    have zJ : (z5 : Int) ≤ 10000 := by omega
    have zK : ¬ (10000 : Int) < (z5 : Int) := by omega
    clear z5e s5 C5
    go_wp2_with fail
    go_loopw [6] (fun v6 wr => ∃ i : Nat, v6 = .int .i64 (i : Int) ∧ i ≤ z5 ∧ Hid (∀ j q, j < i → (ptsD (odD (flatL l)))[j]? = some q → q.f.length ≤ 16) ∧ Hid (BkS w l a1 a5 wr)) (fun v6 _ => z5 - (intOf v6).toNat)
    case atStart => exact ⟨0, rfl, Nat.zero_le _, (fun j q hj => by omega), sH⟩
    case round =>
      clear sH
      obtain ⟨i, rfl, hiz, hall, hS⟩ := hrel
      have i0 : (0 : Int) ≤ (i : Int) := by omega
      by_cases hi : i < z5
      · have hiI : (i : Int) < (z5 : Int) := by omega
        have iw : IntKind.i64.wrap ((i : Int) + 1) = ((i + 1 : Nat) : Int) := IntWalk.i64_in _ (by omega)
        obtain ⟨q, hq⟩ : ∃ q, (ptsD (odD (flatL l)))[i]? = some q := ⟨_, List.getElem?_eq_getElem (by have := zH.out; omega)⟩
        obtain ⟨b, off, ta, tc, fa, fc, ea, hb, hat, _⟩ := hS.out.ps.at (Below.refl _ _) hq
        subst ea
        have hfc := hat.2.2.1
        obtain ⟨fn, hfn⟩ : ∃ fn, q.f.length = fn := ⟨_, rfl⟩
        have hqH : Hid ((ptsD (odD (flatL l)))[i]? = some q) := hq
        have hfH : Hid (q.f.length = fn) := hfn
        rw [hfn] at hfc
        clear hat hq hb hfn
        by_cases h16 : 16 < fn
        · have h16I : (fn : Int) > 16 := by omega
          have h16J : (16 : Int) < (fn : Int) := by omega
          go_wp2_with fail
          refine Calls.mono (cL.out _ hS.out.bl) ?_
          rintro e w6 ⟨rfl, b6⟩
          have fin : Hid (Below w.heap.size w w6) := hS.out.bl.trans (b6.mono hS.out.bl.size)
          clear b6 hS cL hfc
          go_wp2_with fail
          go_ret
          exact ⟨rfl, fin.out⟩
        · have h16I : ¬ (fn : Int) > 16 := by omega
          have h16J : ¬ (16 : Int) < (fn : Int) := by omega
          have h16K : (fn : Int) ≤ 16 := by omega
          have hall2 : Hid (∀ j q, j < i + 1 → (ptsD (odD (flatL l)))[j]? = some q → q.f.length ≤ 16) := fun j q' hj hq' => by
            by_cases e : j < i
            · exact hall.out j q' e hq'
            · obtain rfl : j = i := by omega
              rw [hqH.out] at hq'
              injection hq' with hq'
              subst hq'
              rw [hfH.out]; omega
          clear hall
          go_wp2_with fail
          exact ⟨⟨i + 1, by first | rfl | simp, by omega, hall2, hS⟩, by simp [intOf]; omega⟩
      · have hiI : ¬ (i : Int) < (z5 : Int) := by omega
        have h16 : ∀ q ∈ ptsD (odD (flatL l)), q.f.length ≤ 16 := fun q hq => by
          obtain ⟨j, hj⟩ := List.getElem?_of_mem hq
          exact hall.out j q (by have := (List.getElem?_eq_some_iff.1 hj).1; have := zH.out; omega) hj
        have C6 : Hid _ := cF2.out (back_right J.out.2.2 h16) wr a1 a5 z5 c5 hS.out zH.out
        clear hall h16 cF2
        go_wp2_with fail
        refine Calls.mono C6.out ?_
        rintro e w6 ⟨a6, z6, c6, rfl, e6, i6, b6⟩
        have S6 : Hid (BkS w l a1 a5 w6 ∧ z6 = (odD (flatL l)).length ∧ WIn w6 a6 (odD (flatL l))) := ⟨hS.out.below b6, e6, i6⟩
        clear e6 i6 b6 hS C6
        go_wp2_with fail
        refine Calls.mono (cL.out _ S6.out.1.bl) ?_
        rintro e w7 ⟨rfl, b7⟩
        have C7 : Hid _ := cS.out J.out.2.2 w7 a1 a6 z1 z6 c1 c6 J.out.1 S6.out.2.1 (S6.out.1.wi.below b7) (S6.out.2.2.below b7)
        have b7H : Hid (Below w.heap.size w w7) := S6.out.1.bl.trans (b7.mono S6.out.1.bl.size)
        clear b7 S6 cS cL
        go_wp2_with fail
        refine Calls.mono C7.out ?_
        rintro e w8 ⟨rfl, b8⟩
        have fin : Hid (Below w.heap.size w w8) := b7H.out.trans (b8.mono b7H.out.size)
        clear b8 b7H C7
        go_wp2_with fail
        go_ret
        exact ⟨rfl, fin.out⟩
  · obtain ⟨rfl, rfl, V1e⟩ := k2 hok
    obtain ⟨N, I, q, hN, hB1⟩ := chkB_bad hok
    have hNb : (N == 0) = false := by simpa using hN
    have hNn : (N != 0) = true := by simpa using hN
    have two := chkV_two hok
    rw [← V1e] at two
    have fb : ∀ w, (Instr.field 36 (.agg #[.int .i64 N, .int .i64 0, .int .i64 I, .bool false, .bool q]) 0).run Tryz.prog w = .ok (.int .i64 N) w := fieldBadQ N I q
    have cD : Hid _ := cC1.out
    rw [hB1] at cD
    clear k1 k2 hok V1e hB1 cC1 cP cF2 cS
    rcases two with e | ⟨i, x, e⟩
    · subst e
      go_wp2_with fail
      refine Calls.mono (cL.out _ b1H.out) ?_
      rintro e w6 ⟨rfl, b6⟩
      have b6H : Hid (Below w.heap.size w w6) := b1H.out.trans (b6.mono b1H.out.size)
      clear b6 b1H cL
      go_wp2_with fail
      refine Calls.mono (cD.out _ b6H.out) ?_
      rintro e w7 ⟨rfl, b7⟩
      have fin : Hid (Below w.heap.size w w7) := b6H.out.trans (b7.mono b6H.out.size)
      clear b7 b6H cD
      go_wp2_with fail
      go_ret
      exact ⟨by first | rfl | (simp [hN]; done) | simp [hNb], fin.out⟩
    · subst e
      go_wp2_with fail
      refine Calls.mono (cL.out _ b1H.out) ?_
      rintro e w6 ⟨rfl, b6⟩
      have b6H : Hid (Below w.heap.size w w6) := b1H.out.trans (b6.mono b1H.out.size)
      clear b6 b1H cL
      go_wp2_with fail
      refine Calls.mono (cD.out _ b6H.out) ?_
      rintro e w7 ⟨rfl, b7⟩
      have fin : Hid (Below w.heap.size w w7) := b6H.out.trans (b7.mono b6H.out.size)
      clear b7 b6H cD
      go_wp2_with fail
      go_ret
      exact ⟨by first | rfl | (simp [hN]; done) | simp [hNb], fin.out⟩
end Go.Proofs.YtepakgfdakeibaaGreatDoor.So.Wr

namespace Go.Proofs.YtepakgfdakeibaaGreatDoor
open Go.ChangeShapes Go.WideShapes Go.ChangeAt Go.RowKit
set_option linter.unusedVariables false
set_option maxRecDepth 100000 in
/-- what tags weigh bounds how many there are. -/
theorem tags_small {H : Type} {enc : TypeId × Value → H} {W : World} {a : Option Addr} {n cap : Nat} {y : DataW H × List MemPlace} {fuel : Nat}
    (hf : DataW.trod enc Tryz.prog W 0 (fun _ => true) true fuel 38 [.slice a n cap] = some y) (hw : ∀ k ∈ y.1.weights Tryz.prog 38, k ≤ reachBytes) : n ≤ 4398046511000 := by
  rcases Go.Deep.open_slice_pairs Tryz.underlying38 Tryz.underlying82 (by kernel_rfl) rfl rfl (by kernel_rfl) (by kernel_rfl) hf with ⟨hcs, hx⟩ | ⟨a', len, cap', m, n', V0, V1, D0, D1, P0, P1, hcs, _, hl, hm, hmeq, hx, hall⟩
  · simp at hcs
    omega
  · simp at hcs
    obtain ⟨_, rfl, rfl⟩ := hcs
    have hd : y.1 = .slice ((List.range n).map fun i => .agg [D0 i, D1 i]) ((List.range (m - n)).map fun j => .agg [D0 (n + j), D1 (n + j)]) := congrArg (·.1) hx
    have hb : Tryz.prog.bytesOf 82 = 32 := by kernel_rfl
    have h1 := hw ((((List.range n).map fun i => (DataW.agg [D0 i, D1 i] : DataW H)).length + ((List.range (m - n)).map fun j => (DataW.agg [D0 (n + j), D1 (n + j)] : DataW H)).length) * Tryz.prog.bytesOf 82) (by rw [hd]; simp [DataW.weights, Tryz.underlying38])
    rw [hb, List.length_map, List.length_map, List.length_range, List.length_range] at h1
    have : reachBytes = 140737488351232 := by decide
    omega
theorem tags_in_ser {H : Type} {x y z : DataW H} {n : Nat} (hn : n ∈ y.weights Tryz.prog 38) : n ∈ (DataW.agg [x, y, z]).weights Tryz.prog 44 := by
  simp [DataW.weights, Tryz.underlying44, DataW.weightsEach, hn]
end Go.Proofs.YtepakgfdakeibaaGreatDoor

namespace Go.Proofs.YtepakgfdakeibaaGreatDoor
open Go.ChangeShapes Go.WideShapes Go.ChangeAt Go.RowKit
set_option linter.unusedVariables false
def numOf : Value → Int
  | .int _ n => n
  | _ => 0
set_option maxRecDepth 100000 in
/-- fields, as they are read. -/
theorem fields_read {H : Type} {enc : TypeId × Value → H} {W : World} {v : Value} {y : DataW H × List MemPlace} {fuel : Nat}
    (hf : DataW.trod enc Tryz.prog W 0 (fun _ => true) true fuel 39 [v] = some y) :
    ∃ a l cap, v = .slice a l.length cap ∧ FdIn W a l ∧ l.length ≤ cap := by
  rcases Go.Deep.open_slice_pairs Tryz.underlying39 Tryz.underlying54 (by kernel_rfl) rfl rfl (by kernel_rfl) (by kernel_rfl) hf with ⟨hcs, hx⟩ | ⟨a, len, cap, m, n, V0, V1, D0, D1, P0, P1, hcs, _, hl, hm, hmeq, hx, hall⟩
  · simp at hcs
    subst hcs
    exact ⟨none, [], 0, rfl, Or.inl rfl, by simp⟩
  · simp at hcs
    subst hcs
    simp only [if_true] at hmeq
    have key : ∀ i, i < m → ∃ s t, V0 i = .string s ∧ V1 i = .int .i64 t := fun i hi => by
      obtain ⟨_, _, t0, t1⟩ := hall i hi
      obtain ⟨s, e0, _⟩ := DataW.trod_string Tryz.underlying9 t0
      obtain ⟨t, e1, _⟩ := DataW.trod_int Tryz.underlying2 t1
      simp at e0 e1
      exact ⟨s, t, e0, e1⟩
    refine ⟨some a, (List.range len).map (fun i => (strOf (V0 i), numOf (V1 i))), cap, by simp, ?_, by simp; omega⟩
    rcases Nat.eq_zero_or_pos len with h0 | h0
    · subst h0; exact Or.inl rfl
    · right
      obtain ⟨b, off, spot⟩ := a
      have hspot : spot = none := by simpa [Addr.add] using World.cell?_spot (hall 0 (by omega)).1
      subst hspot
      refine ⟨b, off, rfl, ?_, fun i t ht => ?_⟩
      · have h' := (hall 0 (by omega)).1
        rw [Go.WideShapes.add_plain] at h'
        rcases Nat.lt_or_ge b W.heap.size with h2 | h2
        · exact h2
        · simp [World.cell?, Array.getElem?_eq_none h2] at h'
      · have hi : i < len := by
          have := (List.getElem?_eq_some_iff.1 ht).1
          simpa using this
        have et : t = (strOf (V0 i), numOf (V1 i)) := by
          rw [List.getElem?_map, List.getElem?_range hi] at ht
          simpa using ht.symm
        subst et
        obtain ⟨s, u, e0, e1⟩ := key i (by omega)
        obtain ⟨c0, c1, _, _⟩ := hall i (by omega)
        rw [Go.WideShapes.add_plain] at c0 c1
        refine ⟨?_, ?_⟩
        · rw [c0, e0]; rfl
        · rw [← Nat.add_assoc] at c1; rw [c1, e1]; rfl
set_option maxRecDepth 100000 in
/-- what fields weigh bounds how many there are. -/
theorem fields_small {H : Type} {enc : TypeId × Value → H} {W : World} {a : Option Addr} {n cap : Nat} {y : DataW H × List MemPlace} {fuel : Nat}
    (hf : DataW.trod enc Tryz.prog W 0 (fun _ => true) true fuel 39 [.slice a n cap] = some y) (hw : ∀ k ∈ y.1.weights Tryz.prog 39, k ≤ reachBytes) : n ≤ 5864062014634 := by
  rcases Go.Deep.open_slice_pairs Tryz.underlying39 Tryz.underlying54 (by kernel_rfl) rfl rfl (by kernel_rfl) (by kernel_rfl) hf with ⟨hcs, hx⟩ | ⟨a', len, cap', m, n', V0, V1, D0, D1, P0, P1, hcs, _, hl, hm, hmeq, hx, hall⟩
  · simp at hcs
    omega
  · simp at hcs
    obtain ⟨_, rfl, rfl⟩ := hcs
    have hd : y.1 = .slice ((List.range n).map fun i => .agg [D0 i, D1 i]) ((List.range (m - n)).map fun j => .agg [D0 (n + j), D1 (n + j)]) := congrArg (·.1) hx
    have hb : Tryz.prog.bytesOf 54 = 24 := by kernel_rfl
    have h1 := hw ((((List.range n).map fun i => (DataW.agg [D0 i, D1 i] : DataW H)).length + ((List.range (m - n)).map fun j => (DataW.agg [D0 (n + j), D1 (n + j)] : DataW H)).length) * Tryz.prog.bytesOf 54) (by rw [hd]; simp [DataW.weights, Tryz.underlying39])
    rw [hb, List.length_map, List.length_map, List.length_range, List.length_range] at h1
    have : reachBytes = 140737488351232 := by decide
    omega
theorem tags_in_pt {H : Type} {x y z t : DataW H} {n : Nat} (hn : n ∈ y.weights Tryz.prog 38) : n ∈ (DataW.agg [x, y, z, t]).weights Tryz.prog 41 := by
  simp [DataW.weights, Tryz.underlying41, DataW.weightsEach, hn]
theorem fields_in_pt {H : Type} {x y z t : DataW H} {n : Nat} (hn : n ∈ z.weights Tryz.prog 39) : n ∈ (DataW.agg [x, y, z, t]).weights Tryz.prog 41 := by
  simp [DataW.weights, Tryz.underlying41, DataW.weightsEach, hn]
end Go.Proofs.YtepakgfdakeibaaGreatDoor

namespace Go.Proofs.YtepakgfdakeibaaGreatDoor
open Go.ChangeShapes Go.WideShapes Go.ChangeAt Go.RowKit
set_option linter.unusedVariables false
set_option linter.unusedSimpArgs false
/-- the bulk of fields bounds how many there are. -/
theorem fields_fewW {H : Type} {enc : TypeId × Value → H} {W : World} {a : Option Addr} {n cap : Nat} {y : DataW H × List MemPlace} {fuel : Nat}
    (hf : DataW.trod enc Tryz.prog W 0 (fun _ => true) true fuel 39 [.slice a n cap] = some y) : n ≤ Rows.uptoBulk y.1 := by
  rcases Go.Deep.open_slice Tryz.underlying39 hf with ⟨hcs, hx⟩ | ⟨a', len, cap', m, n', D, Pl, hcs, _, hl, hm, hmm, hx, hall⟩
  · simp at hcs
    omega
  · simp at hcs
    obtain ⟨_, rfl, rfl⟩ := hcs
    rw [hx]
    simp only [Rows.uptoBulk]
    have := bulk_lenW ((List.range n).map D)
    simp at this
    omega
set_option maxRecDepth 100000 in
/-- points, as they are read, by their bulk. -/
theorem points_bulk {H : Type} {enc : TypeId × Value → H} {W : World} {v : Value} {y : DataW H × List MemPlace} {fuel : Nat}
    (hf : DataW.trod enc Tryz.prog W 0 (fun _ => true) true fuel 26 [v] = some y) (hbk : Rows.uptoBulk y.1 ≤ 1048576) :
    ∃ a l cap, v = .slice a (List.length l) cap ∧ PsIn W a l ∧ l.length ≤ cap ∧ l.length ≤ 1048576 ∧ ∀ p ∈ l, p.t.length ≤ 1048576 := by
  rcases Go.Deep.open_slice Tryz.underlying26 hf with ⟨hcs, hx⟩ | ⟨a, len, cap, m, n, D, Pl, hcs, hb, hl, hm, hmm, hx, hall⟩
  · simp at hcs
    subst hcs
    exact ⟨none, [], 0, rfl, Or.inl rfl, by simp, by simp, by simp⟩
  · simp at hcs
    subst hcs
    simp only [if_true] at hmm
    subst hmm
    have hce : Tryz.prog.cellsOf 41 = 4 := by kernel_rfl
    have cu : Tryz.prog.cellsOf 2 = 1 := by kernel_rfl
    have cs : Tryz.prog.cellsOf 9 = 1 := by kernel_rfl
    have ct : Tryz.prog.cellsOf 38 = 1 := by kernel_rfl
    have cf : Tryz.prog.cellsOf 39 = 1 := by kernel_rfl
    have hy1 : y.1 = .slice ((List.range len).map D) ((List.range (m - len)).map fun j => D (len + j)) := by rw [hx]
    have hbe : Rows.uptoBulkAll ((List.range len).map D) ≤ 1048576 := by
      rw [hy1] at hbk; simp only [Rows.uptoBulk] at hbk; omega
    have hsz : len ≤ 1048576 := by have := bulk_lenW ((List.range len).map D); simp at this; omega
    have each : ∀ i, i < len → ∃ q : PtA, (W.cell? (a.add (i * 4)) = some (.string q.1.m) ∧ W.cell? (a.add (i * 4 + 1)) = some (.slice q.2.1.1 q.1.t.length q.2.1.2) ∧ W.cell? (a.add (i * 4 + 2)) = some (.slice q.2.2.1 q.1.f.length q.2.2.2) ∧ W.cell? (a.add (i * 4 + 3)) = some (.int .i64 q.1.tm)) ∧ PtIn W q.2.1.1 q.2.2.1 q.2.2.2 q.1 ∧ q.1.t.length ≤ 1048576 := by
      intro i hi
      obtain ⟨cs', h1, h2⟩ := hall i (by omega)
      rw [hce] at h1
      obtain ⟨_, hlen, hcell⟩ := World.cells?_some h1
      obtain ⟨xs, k, hk, hxy, _, hxl, hff⟩ := DataW.trod_struct Tryz.underlying41 h2
      have hDb : Rows.uptoBulk (D i) ≤ 1048576 := Nat.le_trans (bulk_memW (List.mem_map.2 ⟨i, List.mem_range.2 hi, rfl⟩)) hbe
      match xs, hxl, cs', hlen with
      | [y0, y1, y2, y3], _, [v0, v1, v2, v3], _ =>
        have g0 : DataW.trod enc Tryz.prog W 0 (fun _ => true) true k 9 (List.take (Tryz.prog.cellsOf 9) [v0, v1, v2, v3]) = some y0 := hff 0 _ rfl
        have g1 : DataW.trod enc Tryz.prog W 0 (fun _ => true) true k 38 (List.take (Tryz.prog.cellsOf 38) [v1, v2, v3]) = some y1 := hff 1 _ rfl
        have g2 : DataW.trod enc Tryz.prog W 0 (fun _ => true) true k 39 (List.take (Tryz.prog.cellsOf 39) [v2, v3]) = some y2 := hff 2 _ rfl
        have g3 : DataW.trod enc Tryz.prog W 0 (fun _ => true) true k 2 (List.take (Tryz.prog.cellsOf 2) [v3]) = some y3 := hff 3 _ rfl
        rw [cs] at g0
        rw [ct] at g1
        rw [cf] at g2
        rw [cu] at g3
        simp only [List.take_succ_cons, List.take_zero] at g0 g1 g2 g3
        have hDi : D i = .agg [y0.1, y1.1, y2.1, y3.1] := by simpa using congrArg (·.1) hxy
        obtain ⟨sm, e0, _⟩ := DataW.trod_string Tryz.underlying9 g0
        obtain ⟨n3, e3, _, w3⟩ := DataW.trod_int Tryz.underlying2 g3
        obtain ⟨ta, tl, tc, e1, ti, tn⟩ := tags_read g1
        obtain ⟨fa, fl, fc, e2, fi, fn⟩ := fields_read g2
        subst e1 e2
        have hfew := tags_fewW g1
        have hfew2 := fields_fewW g2
        rw [hDi] at hDb
        simp only [Rows.uptoBulk, Rows.uptoBulkAll] at hDb
        simp at e0 e3
        subst e0 e3
        have r0 := hcell 0 (by omega)
        have r1 := hcell 1 (by omega)
        have r2 := hcell 2 (by omega)
        have r3 := hcell 3 (by omega)
        rw [Go.Deep.add_add] at r0 r1 r2 r3
        exact ⟨(⟨sm, tl, fl, n3⟩, (ta, tc), (fa, fc)), ⟨by simpa using r0, by simpa using r1, by simpa using r2, by simpa using r3⟩, ⟨ti, by show tl.length ≤ 4398046511104; omega, fi, by show fl.length ≤ 4611686018427387904; omega, fn⟩, by show tl.length ≤ 1048576; omega⟩
    haveI : Inhabited PtA := ⟨(noP, (none, 0), (none, 0))⟩
    obtain ⟨q, hq⟩ := choose_belowW each
    refine ⟨some a, (List.range len).map (fun i => (q i).1), m, by simp, ?_, by simpa using hl, by simpa using hsz, fun x hx => ?_⟩
    · rcases Nat.eq_zero_or_pos len with h0 | h0
      · exact Or.inl (by rw [h0]; rfl)
      · right
        obtain ⟨b, off, spot⟩ := a
        have hspot : spot = none := by simpa [Addr.add] using World.cell?_spot (hq 0 h0).1.1
        subst hspot
        refine ⟨b, off, rfl, ?_, fun i s hs => ?_⟩
        · have h' := (hq 0 h0).1.1
          rw [tag_add] at h'
          rcases Nat.lt_or_ge b W.heap.size with h2 | h2
          · exact h2
          · simp [World.cell?, Array.getElem?_eq_none h2] at h'
        · have hi : i < len := by have := (List.getElem?_eq_some_iff.1 hs).1; simpa using this
          have es : s = (q i).1 := by
            rw [List.getElem?_map, List.getElem?_range hi] at hs
            simpa using hs.symm
          subst es
          obtain ⟨⟨r0, r1, r2, r3⟩, hS, _⟩ := hq i hi
          rw [tag_add] at r0 r1 r2 r3
          exact ⟨(q i).2.1.1, (q i).2.1.2, (q i).2.2.1, (q i).2.2.2, ⟨r0, by rw [Nat.add_assoc]; exact r1, by rw [Nat.add_assoc]; exact r2, by rw [Nat.add_assoc]; exact r3⟩, hS⟩
    · simp only [List.mem_map, List.mem_range] at hx
      obtain ⟨i, hi, rfl⟩ := hx
      exact (hq i hi).2.2
end Go.Proofs.YtepakgfdakeibaaGreatDoor
