
import Derived.Test.YtbojljmacheccaaGreatDoorZz
import Derived.Test.YtbojljmacheccaaGreatDoorLaU
import Derived.Test.YtbojljmacheccaaGreatDoorLaS
import Derived.Test.YtbojljmacheccaaGreatDoorLaR
import Derived.Test.YtbojljmacheccaaGreatDoorKqIq
import Derived.Deep.CutRange
namespace Go.Proofs.YtbojljmacheccaaGreatDoor.Ln
open Go.RowKit Go.Shelf
open _root_.Go.Proofs.YtbojljmacheccaaGreatDoor.So
attribute [local go_sem] Oper.semAt_some
set_option linter.unusedVariables false
set_option linter.unusedSimpArgs false
set_option maxRecDepth 100000
/-! ### TopLines. -/
theorem sorted_newL {w w' : World} {e : Ending} {l : List TagP} (h : SortedR w w' e l) : ∃ a c, e = .returned (.slice a (sortT l).length c) ∧ TgIn w' a (sortT l) ∧ ∀ ad, a = some ad → w.heap.size ≤ ad.block := by
  rcases h with ⟨rfl, h⟩ | ⟨g, m, cap, G, h1, h2, h3, h4, h5⟩
  · exact ⟨none, 0, h, Or.inl rfl, fun ad q => by cases q⟩
  · refine ⟨some ⟨g, 0, none⟩, cap, ?_, by rw [← h5]; exact h4.tin, fun ad q => by cases q; exact h2⟩
    rw [h1, ← h5]; simp
/-- a series in its box, its tags in a block of their own. -/
structure SbT (wr : World) (pm : ByteArray) (pt : List TagP) (fK : ByteArray) (K8 : Nat) (a' : Option Addr) (c' : Nat) (wx : World) : Prop where
  bl : Below wr.heap.size wr wx
  kg : wr.heap.size ≤ K8
  kl : K8 < wx.heap.size
  c0 : wx.cell? ⟨K8, 0, none⟩ = some (.string pm)
  c1 : wx.cell? ⟨K8, 1, none⟩ = some (.slice a' (sortT pt).length c')
  c2 : wx.cell? ⟨K8, 2, none⟩ = some (.string fK)
  tg : TgIn wx a' (sortT pt)
  fr : ∀ ad, a' = some ad → wr.heap.size ≤ ad.block
theorem SbT.newA {wr : World} {pm : ByteArray} {pt : List TagP} {fK : ByteArray} {w3 : World} {a' : Option Addr} {c' ns : Nat} (hs : ns = (sortT pt).length) (B3 : Below wr.heap.size wr w3) (t3 : TgIn w3 a' (sortT pt)) (f3 : ∀ ad, a' = some ad → wr.drew.heap.size ≤ ad.block) : SbT wr pm pt fK w3.heap.size a' c' (w3.alloc (.cells #[.string pm, .slice a' ns c', .string fK] 88)) := by
  subst hs
  refine ⟨B3.alloc B3.size _, B3.size, by simp, ?_, ?_, ?_, t3.below ((Below.refl _ w3).alloc (Nat.le_refl _) _), f3⟩ <;> simp [go_sem]
theorem SbT.newB (wr : World) (pm : ByteArray) (pt : List TagP) (fK : ByteArray) (ns : Nat) (hs : ns = (sortT pt).length) (w3 : World) (a' : Option Addr) (c' : Nat) (b3 : Below (wr.drew.alloc (.cells #[.string ⟨#[]⟩, .slice none 0 0, .string ⟨#[]⟩] 88)).heap.size (wr.drew.alloc (.cells #[.string ⟨#[]⟩, .slice none 0 0, .string ⟨#[]⟩] 88)) w3) (t3 : TgIn w3 a' (sortT pt)) (f3 : ∀ ad, a' = some ad → (wr.drew.alloc (.cells #[.string ⟨#[]⟩, .slice none 0 0, .string ⟨#[]⟩] 88)).heap.size ≤ ad.block) :
    w3.cell? ⟨wr.heap.size, 0, none⟩ = some (.string ⟨#[]⟩) ∧ w3.cell? ⟨wr.heap.size, 1, none⟩ = some (.slice none 0 0) ∧ w3.cell? ⟨wr.heap.size, 2, none⟩ = some (.string ⟨#[]⟩) ∧ (∀ j, w3.frozen? ⟨wr.heap.size, j, none⟩ = false) ∧ SbT wr pm pt fK wr.heap.size a' c' (((w3.setCell ⟨wr.heap.size, 0, none⟩ (.string pm)).setCell ⟨wr.heap.size, 1, none⟩ (.slice a' ns c')).setCell ⟨wr.heap.size, 2, none⟩ (.string fK)) := by
  subst hs
  obtain ⟨wz, hwz⟩ : ∃ wz, wz = wr.drew.alloc (.cells #[.string ⟨#[]⟩, .slice none 0 0, .string ⟨#[]⟩] 88) := ⟨_, rfl⟩
  have sz : wz.heap.size = wr.heap.size + 1 := by rw [hwz]; simp
  have bz : Below wr.heap.size wr wz := by rw [hwz]; exact (show Below wr.heap.size wr wr.drew from (Below.refl _ wr).drew).alloc (Nat.le_refl _) _
  have k : wz.cell? ⟨wr.heap.size, 0, none⟩ = some (.string ⟨#[]⟩) ∧ wz.cell? ⟨wr.heap.size, 1, none⟩ = some (.slice none 0 0) ∧ wz.cell? ⟨wr.heap.size, 2, none⟩ = some (.string ⟨#[]⟩) ∧ ∀ j, wz.frozen? ⟨wr.heap.size, j, none⟩ = false := by
    rw [hwz]
    have e : wr.heap.size = wr.drew.heap.size := rfl
    rw [e]
    refine ⟨?_, ?_, ?_, fun j => ?_⟩ <;> simp [go_sem]
  rw [← hwz] at b3 f3
  have lt : wr.heap.size < wz.heap.size := by omega
  have c0 : w3.cell? ⟨wr.heap.size, 0, none⟩ = some (.string ⟨#[]⟩) := by rw [b3.cell (p := ⟨wr.heap.size, 0, none⟩) lt]; exact k.1
  have c1 : w3.cell? ⟨wr.heap.size, 1, none⟩ = some (.slice none 0 0) := by rw [b3.cell (p := ⟨wr.heap.size, 1, none⟩) lt]; exact k.2.1
  have c2 : w3.cell? ⟨wr.heap.size, 2, none⟩ = some (.string ⟨#[]⟩) := by rw [b3.cell (p := ⟨wr.heap.size, 2, none⟩) lt]; exact k.2.2.1
  have B3 : Below wr.heap.size wr w3 := bz.trans (b3.mono bz.size)
  refine ⟨c0, c1, c2, fun j => by rw [b3.frozen (p := ⟨wr.heap.size, j, none⟩) lt]; exact k.2.2.2 j, ⟨((B3.setCell (p := ⟨wr.heap.size, 0, none⟩) (Nat.le_refl _) _).setCell (p := ⟨wr.heap.size, 1, none⟩) (Nat.le_refl _) _).setCell (p := ⟨wr.heap.size, 2, none⟩) (Nat.le_refl _) _, Nat.le_refl _, by have := b3.size; simp; omega, ?_, ?_, ?_, ?_, fun ad had => by have := f3 ad had; omega⟩⟩
  · rw [World.cell?_setCell_other _ _ _ _ (by intro q; injection q; omega), World.cell?_setCell_other _ _ _ _ (by intro q; injection q; omega), World.cell?_setCell_same _ _ _ c0]
  · rw [World.cell?_setCell_other _ _ _ _ (by intro q; injection q; omega), World.cell?_setCell_same _ _ _ (by rw [World.cell?_setCell_other _ _ _ _ (by intro q; injection q; omega)]; exact c1)]
  · rw [World.cell?_setCell_same _ _ _ (by rw [World.cell?_setCell_other _ _ _ _ (by intro q; injection q; omega), World.cell?_setCell_other _ _ _ _ (by intro q; injection q; omega)]; exact c2)]
  · rcases t3 with h | ⟨bb, off, e, hb, hc⟩
    · exact Or.inl h
    · have h2 := f3 _ e
      simp only at h2
      refine Or.inr ⟨bb, off, e, by simpa using hb, fun j t ht => ?_⟩
      obtain ⟨k1, k2⟩ := hc j t ht
      exact ⟨by rw [World.cell?_setCell_other _ _ _ _ (by intro q; injection q; omega), World.cell?_setCell_other _ _ _ _ (by intro q; injection q; omega), World.cell?_setCell_other _ _ _ _ (by intro q; injection q; omega)]; exact k1, by rw [World.cell?_setCell_other _ _ _ _ (by intro q; injection q; omega), World.cell?_setCell_other _ _ _ _ (by intro q; injection q; omega), World.cell?_setCell_other _ _ _ _ (by intro q; injection q; omega)]; exact k2⟩
def lpP : PtP := ⟨⟨#[109]⟩, [], [(⟨#[118]⟩, 1)], 0⟩
def lpB : ByteArray := ⟨#[109, 32, 118, 61, 49, 105, 32, 48]⟩
theorem lp_pr : prL lpP = .ok lpB.data.toList := by kernel_rfl
theorem lp_S : PtS lpP := ⟨by decide, by decide, by decide, by simp [lpP], by simp [lpP, I64L]; decide, by simp [lpP, I64L]⟩
theorem nodup_leL {α : Type} [DecidableEq α] : ∀ (a b : List α), a.Nodup → (∀ x ∈ a, x ∈ b) → a.length ≤ b.length
  | [], _, _, _ => by simp
  | x :: r, b, h, hs => by
    obtain ⟨h1, h2⟩ := List.nodup_cons.1 h
    have hx := hs x List.mem_cons_self
    have := nodup_leL r (b.erase x) h2 fun y hy => (List.mem_erase_of_ne (fun e => h1 (by rw [← e]; exact hy))).2 (hs y (List.mem_cons_of_mem _ hy))
    rw [List.length_erase_of_mem hx] at this
    have : 0 < b.length := List.length_pos_of_mem hx
    simp; omega
theorem sk_L (l : List TagP) : SK kl (sortT l) := by
  have := (srtD_is kl_ko (atT l) l.length).1
  rw [atT_map] at this; exact this
theorem mem_L (l : List TagP) (e : TagP) (h : e ∈ sortT l) : e ∈ l := by
  have := (srtD_is kl_ko (atT l) l.length).2 e
  rw [atT_map] at this
  obtain ⟨k, hk, rfl, _⟩ := this.1 h
  rw [show atT l k = l[k] by simp [atT, List.getD_eq_getElem?_getD, List.getElem?_eq_getElem hk]]; exact List.getElem_mem hk
theorem len_L (l : List TagP) : (sortT l).length ≤ l.length := by
  refine nodup_leL (sortT l) l ?_ (fun x hx => mem_L l x hx)
  rw [List.nodup_iff_pairwise_ne]
  exact (sk_L l).imp fun hab e => by rw [e, kl_ko.irr] at hab; cases hab
set_option maxHeartbeats 16000000 in
theorem topLines_walk (l : List PtP) (a : Option Addr) (c : Nat) (w : World) (ha : PsIn w a l) (hS : ∀ p ∈ l, PtS p) (hn : l.length ≤ 1048576) (hg : LT w) (hU : UT w) : Calls Tryz.prog 5 #[.slice a l.length c] w fun e w' => e = .returned (.bool true) ∧ Below w.heap.size w w' := by
  have cP : Hid (∀ p ta tc fa fc W, p ∈ l → Below w.heap.size w W → PtIn W ta fa fc p → Calls Tryz.prog 8 #[ptV p ta tc fa fc] W fun e w' => e = .returned (prV (prL p)) ∧ Below W.heap.size W w') := fun p ta tc fa fc W h b hp => print_l p ta fa tc fc W hp (hS p h) (hg.on b)
  have cR : Hid (∀ p ta tc fa fc W, p ∈ l → Below w.heap.size w W → PtIn W ta fa fc p → Calls Tryz.prog 9 #[ptV p ta tc fa fc] W fun e w' => e = .returned (rprV (prL p)) ∧ Below W.heap.size W w') := fun p ta tc fa fc W h b hp => rprint_l p ta fa tc fc W hp (hS p h) (hg.on b)
  have cO : Hid (∀ p t W, p ∈ l → prL p = .ok t → Below w.heap.size w W → Calls Tryz.prog 15 #[.string ⟨t.toArray⟩] W fun e w' => ∃ ta tc fa fc, e = .returned (.tuple #[ptV p ta tc fa fc, .nilIface]) ∧ PtIn w' ta fa fc p ∧ Below W.heap.size W w') := fun p t W hp ht b => by
    have hb := back_one ht (hS p hp)
    have := one_P ⟨t.toArray⟩ W (hg.on b) (by have := prL_len ht; rw [Lib.size_eq]; simp; omega)
    rw [show (⟨t.toArray⟩ : ByteArray).data.toList = t from by simp, hb.1, hb.2] at this
    exact this
  have cT : Hid (∀ (t : List TagP) ta tc tb td W, TgIn W ta t → TgIn W tb t → t.length ≤ 4398046511104 → Calls Tryz.prog 21 #[.slice ta t.length tc, .slice tb t.length td] W fun e w' => e = .returned (.bool true) ∧ Below W.heap.size W w') := fun t ta tc tb td W h1 h2 h3 => sameTags_any ta tb t tc td W (by omega) h1 h2
  have cS : Hid (∀ (t : List TagP) ta tc W, TgIn W ta t → t.length ≤ 4398046511104 → Calls Tryz.prog 22 #[.slice ta t.length tc] W fun e w' => ∃ a' c', e = .returned (.slice a' (sortT t).length c') ∧ TgIn w' a' (sortT t) ∧ (∀ ad, a' = some ad → W.heap.size ≤ ad.block) ∧ Below W.heap.size W w') := fun t ta tc W h1 h2 => (sort_any ta tc t W h1 h2).mono fun e w' h => by
    obtain ⟨a', c', e1, e2, e3⟩ := sorted_newL h.1
    exact ⟨a', c', e1, e2, e3, h.2⟩
  have cU : Hid (∀ (x : SerP) a' c' W, Below w.heap.size w W → SerIn W a' x → Calls Tryz.prog 23 #[.agg #[.string x.m, .slice a' x.t.length c', .string x.f]] W fun e w' => e = .returned (erN (rightN x)) ∧ Below W.heap.size W w') := fun x a' c' W hW hx => right_any a' c' x W hx (hU.below hW (Nat.le_refl _))
  have cQ : Hid (∀ (x : SerP) a' c' W, rightN x = 0 → Below w.heap.size w W → SerIn W a' x → Calls Tryz.prog 25 #[.agg #[.string x.m, .slice a' x.t.length c', .string x.f]] W fun e w' => e = .returned (.string (_root_.Go.Proofs.YtbojljmacheccaaGreatDoor.ba (printT x))) ∧ Below W.heap.size W w') := fun x a' c' W h0 hW hx => print_any a' c' x W hx (hU.below hW (Nat.le_refl _)) h0 (serM_any x h0)
  have cZ : Hid (∀ (x : SerP) W, rightN x = 0 → Below w.heap.size w W → Calls Tryz.prog 24 #[.string (_root_.Go.Proofs.YtbojljmacheccaaGreatDoor.ba (printT x))] W fun e w' => ∃ v q, e = .returned (.tuple #[.agg #[.string x.m, .slice v x.t.length q, .string x.f], .nilIface]) ∧ TgIn w' v x.t ∧ Below W.heap.size W w') := fun x W h0 hW => by
    have hz : (_root_.Go.Proofs.YtbojljmacheccaaGreatDoor.ba (printT x)).size ≤ 4000000 := by rw [Lib.size_eq, _root_.Go.Proofs.YtbojljmacheccaaGreatDoor.ba_data]; have := printT_le h0; omega
    have := parse_any _ W hz (hU.below hW (Nat.le_refl _)) (hg.on hW).et
    rw [_root_.Go.Proofs.YtbojljmacheccaaGreatDoor.ba_data, (res_print h0).1, (res_print h0).2] at this
    refine this.mono fun e w' hx => ?_
    obtain ⟨v, h1, h2, h3⟩ := hx
    obtain ⟨va, vc, ev, _, ht⟩ := h2.tin
    subst ev
    exact ⟨va, vc, h1, ht, h3⟩
  have cC : Hid (∀ (x : SerP) a' c' b' d' W, SerIn W a' x → SerIn W b' x → Calls Tryz.prog 26 #[.agg #[.string x.m, .slice a' x.t.length c', .string x.f], .agg #[.string x.m, .slice b' x.t.length d', .string x.f]] W fun e w' => e = .returned (.int .i64 0) ∧ Below W.heap.size W w') := fun x a' c' b' d' W h1 h2 => by
    have := compare_any a' b' c' d' x x W h1 h2
    rw [(serC_is.zero x x).2 rfl] at this
    exact this
  have cF : Hid (∀ W N, Below w.heap.size w W → W.heap[N]? = some (.cells #[.string ⟨#[118]⟩, .int .i64 1] 86) → Calls Tryz.prog 8 #[.agg #[.string ⟨#[109]⟩, .slice none 0 0, .slice (some ⟨N, 0, none⟩) 1 1, .int .i64 0]] W fun e w' => e = .returned (.tuple #[.string lpB, .nilIface]) ∧ Below W.heap.size W w') := fun W N hW hN => by
    have := print_l lpP none (some ⟨N, 0, none⟩) 0 1 W ⟨Or.inl rfl, by simp [lpP], Or.inr ⟨N, 0, rfl, (Array.getElem?_eq_some_iff.1 hN).1, fun i t ht => by
      have hi : i < 1 := (List.getElem?_eq_some_iff.1 ht).1
      obtain rfl : i = 0 := by omega
      have e : t = (⟨#[118]⟩, 1) := by simpa [lpP] using ht.symm
      subst e
      exact ⟨by rw [Lib.cell_of_heap hN]; rfl, by rw [Lib.cell_of_heap hN]; rfl⟩⟩, by simp [lpP], by simp [lpP]⟩ lp_S (hg.on hW)
    rw [lp_pr] at this
    exact this
  have aH : Hid (PsIn w a l) := ha
  have hsH : Hid (∀ p ∈ l, p.t.length ≤ 4398046511104) := fun p hp => by have := (hS p hp).tn; omega
  obtain ⟨n, hn1⟩ : ∃ n, n = l.length := ⟨_, rfl⟩
  have nH : Hid (n = l.length) := hn1
  rw [← hn1] at hn ⊢
  clear ha hS hg hU hn1
  go_enter Tryz.func5, Tryz.ntmps5
  go_wp2_with fail
  go_loopg [3, 4, 5, 6, 7, 8, 9, 10, 11, 12] n (fun gk iv v4 v5 v6 v7 v8 v9 v10 v11 v12 wx => ∃ (k : Nat), gk = n - k ∧ iv = .int .i64 (k : Int) ∧ k ≤ n ∧ Hid (Below w.heap.size w wx))
  case atStart => exact ⟨0, rfl, rfl, Nat.zero_le _, Below.refl _ _⟩
  case round =>
    rename World => wx
    obtain ⟨i, hgk, rfl, kn, hb⟩ := hrel
    have hgkH : Hid (gk = n - i) := hgk
    clear hgk
    have k0 : (0 : Int) ≤ (i : Int) := by omega
    have wi : IntKind.i64.wrap ((i : Int) + 1) = ((i + 1 : Nat) : Int) := IntWalk.i64_in _ (by omega)
    by_cases hk : i < n
    · have hkI : (i : Int) < (n : Int) := by omega
      obtain ⟨p, hpk⟩ : ∃ p, l[i]? = some p := ⟨_, List.getElem?_eq_getElem (by have := nH.out; omega)⟩
      obtain ⟨b, off, ta, tc, fa, fc, e1, hbx, ax, fx⟩ := aH.out.at hb.out hpk
      subst e1
      have hpm := List.mem_of_getElem? hpk
      have xC : Hid (∀ X : World, Below w.heap.size w X → (X.cell? ⟨b, off + i * 4, none⟩ = some (.string p.m) ∧ X.cell? ⟨b, off + i * 4 + 1, none⟩ = some (.slice ta p.t.length tc) ∧ X.cell? ⟨b, off + i * 4 + 2, none⟩ = some (.slice fa p.f.length fc) ∧ X.cell? ⟨b, off + i * 4 + 3, none⟩ = some (.int .i64 p.tm)) ∧ b < X.heap.size) := fun X bX => ⟨(fx X bX).1, Nat.lt_of_lt_of_le hbx bX.size⟩
      have pC : Hid (∀ X, Below w.heap.size w X → PtIn X ta fa fc p) := fun X bX => (fx X bX).2
      have hst := hsH.out p hpm
      have cP1 : Hid (∀ X, Below w.heap.size w X → Calls Tryz.prog 8 #[.agg #[.string p.m, .slice ta p.t.length tc, .slice fa p.f.length fc, .int .i64 p.tm]] X fun e w' => e = .returned (prV (prL p)) ∧ Below X.heap.size X w') := fun X bX => cP.out p ta tc fa fc X hpm bX (fx X bX).2
      have cR1 : Hid (∀ X, Below w.heap.size w X → Calls Tryz.prog 9 #[.agg #[.string p.m, .slice ta p.t.length tc, .slice fa p.f.length fc, .int .i64 p.tm]] X fun e w' => e = .returned (rprV (prL p)) ∧ Below X.heap.size X w') := fun X bX => cR.out p ta tc fa fc X hpm bX (fx X bX).2
      obtain ⟨⟨x1, x2, x3, x4⟩, hlt⟩ := xC.out wx hb.out
      clear ax fx hbx cP cR cF hsH
      cases hpr : prL p with
      | error q =>
        have hq := prL_err hpr
        have cP2 : Hid (∀ X, Below w.heap.size w X → Calls Tryz.prog 8 #[.agg #[.string p.m, .slice ta p.t.length tc, .slice fa p.f.length fc, .int .i64 p.tm]] X fun e w' => e = .returned (.tuple #[.string ⟨#[]⟩, .iface 33 (.int .i64 q)]) ∧ Below X.heap.size X w') := fun X bX => by have := cP1.out X bX; rw [hpr] at this; exact this
        have cR2 : Hid (∀ X, Below w.heap.size w X → Calls Tryz.prog 9 #[.agg #[.string p.m, .slice ta p.t.length tc, .slice fa p.f.length fc, .int .i64 p.tm]] X fun e w' => e = .returned (.tuple #[.string ⟨#[]⟩, .agg #[.int .i64 q, .int .i64 0, .int .i64 0, .bool false, .bool false]]) ∧ Below X.heap.size X w') := fun X bX => by have := cR1.out X bX; rw [hpr] at this; exact this
        clear cP1 cR1 cO cT cS cU cQ cZ cC hpr hpm hpk pC hst aH
        generalize p.t.length = nt at *
        generalize p.f.length = nf at *
        generalize p.m = pm at *
        generalize p.tm = pt at *
        go_wp2_with fail
        refine Calls.mono (cP2.out _ hb.out) ?_
        rintro e w3 ⟨rfl, B3⟩
        have b3H : Hid (Below w.heap.size w w3) := hb.out.trans (B3.mono hb.out.size)
        clear B3 x1 x2 x3 x4 hlt
        obtain ⟨⟨x1, x2, x3, x4⟩, hlt⟩ := xC.out w3 b3H.out
        go_wp2_with fail
        refine Calls.mono (cR2.out _ b3H.out) ?_
        rintro e w4 ⟨rfl, B4⟩
        have b4 : Below w.heap.size w w4 := b3H.out.trans (B4.mono b3H.out.size)
        obtain ⟨W5, hW5⟩ : ∃ W5, w4.alloc (.cells #[.int .i64 q, .int .i64 0, .int .i64 0, .bool false, .bool false] 35) = W5 := ⟨_, rfl⟩
        have M5 : W5.heap[w4.heap.size]? = some (.cells #[.int .i64 q, .int .i64 0, .int .i64 0, .bool false, .bool false] 35) := by rw [← hW5]; exact World.alloc_heap_new w4 _
        have b5H : Hid (Below w.heap.size w W5) := by rw [← hW5]; exact b4.trans (((Below.refl _ w4).alloc (Nat.le_refl _) _).mono b4.size)
        have hW5H : Hid (w4.alloc (.cells #[.int .i64 q, .int .i64 0, .int .i64 0, .bool false, .bool false] 35) = W5) := hW5
        have y1 : W5.cell? ⟨w4.heap.size, 0, none⟩ = some (.int .i64 q) := by rw [Lib.cell_of_heap M5]; rfl
        have y1d : ∀ m, (W5.drewN m).cell? ⟨w4.heap.size, 0, none⟩ = some (.int .i64 q) := fun m => y1
        clear B4 b4 hW5 M5 x1 x2 x3 x4 hlt
        go_wp2_with fail
        try rw [hW5H.out]
        generalize w4.heap.size = N4 at *
        go_quiet (fail)
        go_wp2_with fail
        go_roundg (n - (i + 1))
        case measure => rw [hgkH.out]; omega
        case rel => exact ⟨i + 1, rfl, by first | rfl | simp, by omega, bdrewN b5H.out _⟩
      | ok t =>
        have cP2 : Hid (∀ X, Below w.heap.size w X → Calls Tryz.prog 8 #[.agg #[.string p.m, .slice ta p.t.length tc, .slice fa p.f.length fc, .int .i64 p.tm]] X fun e w' => e = .returned (.tuple #[.string ⟨t.toArray⟩, .nilIface]) ∧ Below X.heap.size X w') := fun X bX => by have := cP1.out X bX; rw [hpr] at this; exact this
        have cR2 : Hid (∀ X, Below w.heap.size w X → Calls Tryz.prog 9 #[.agg #[.string p.m, .slice ta p.t.length tc, .slice fa p.f.length fc, .int .i64 p.tm]] X fun e w' => e = .returned (.tuple #[.string ⟨t.toArray⟩, .agg #[.int .i64 0, .int .i64 0, .int .i64 0, .bool false, .bool false]]) ∧ Below X.heap.size X w') := fun X bX => by have := cR1.out X bX; rw [hpr] at this; exact this
        have cO2 : Hid (∀ X, Below w.heap.size w X → Calls Tryz.prog 15 #[.string ⟨t.toArray⟩] X fun e w' => ∃ tb td fb fd, e = .returned (.tuple #[.agg #[.string p.m, .slice tb p.t.length td, .slice fb p.f.length fd, .int .i64 p.tm], .nilIface]) ∧ PtIn w' tb fb fd p ∧ Below X.heap.size X w') := fun X bX => cO.out p t X hpm hpr bX
        clear cP1 cR1 cO hpr hpm hpk aH
        obtain ⟨pm, pt, pf, ptm⟩ := p
        dsimp only at *
        obtain ⟨nt, hnt⟩ : ∃ nt, nt = pt.length := ⟨_, rfl⟩
        obtain ⟨nf, hnf⟩ : ∃ nf, nf = pf.length := ⟨_, rfl⟩
        have cT2 : Hid (∀ X tb td, TgIn X tb pt → TgIn X ta pt → Calls Tryz.prog 21 #[.slice tb nt td, .slice ta nt tc] X fun e w' => e = .returned (.bool true) ∧ Below X.heap.size X w') := fun X tb td h1 h2 => by rw [hnt]; exact cT.out pt tb td ta tc X h1 h2 hst
        have cS2 : Hid (∀ X tb td, TgIn X tb pt → Calls Tryz.prog 22 #[.slice tb nt td] X fun e w' => ∃ a' c', e = .returned (.slice a' (sortT pt).length c') ∧ TgIn w' a' (sortT pt) ∧ (∀ ad, a' = some ad → X.heap.size ≤ ad.block) ∧ Below X.heap.size X w') := fun X tb td h1 => by rw [hnt]; exact cS.out pt tb td X h1 hst
        have nfH : Hid (nf = pf.length) := hnf
        have slH : Hid ((sortT pt).length ≤ 9223372036854775807) := by show _ ≤ _; have := len_L pt; omega
        have nfB : nf ≤ 4611686018427387904 := by rw [hnf]; exact (pC.out w (Below.refl _ _)).2.2.2.1
        rw [← hnt] at x2 cP2 cR2 cO2 xC
        rw [← hnf] at x3 cP2 cR2 cO2 xC
        clear cT cS hst hnt hnf
        go_wp2_with fail
        refine Calls.mono (cP2.out _ hb.out) ?_
        rintro e w3 ⟨rfl, B3⟩
        have b3H : Hid (Below w.heap.size w w3) := hb.out.trans (B3.mono hb.out.size)
        clear B3 x1 x2 x3 x4 hlt cP2
        obtain ⟨⟨x1, x2, x3, x4⟩, hlt⟩ := xC.out w3 b3H.out
        go_wp2_with fail
        refine Calls.mono (cR2.out _ b3H.out) ?_
        rintro e w4 ⟨rfl, B4⟩
        have b4 : Below w.heap.size w w4 := b3H.out.trans (B4.mono b3H.out.size)
        obtain ⟨W5, hW5⟩ : ∃ W5, w4.alloc (.cells #[.int .i64 0, .int .i64 0, .int .i64 0, .bool false, .bool false] 35) = W5 := ⟨_, rfl⟩
        have M5 : W5.heap[w4.heap.size]? = some (.cells #[.int .i64 0, .int .i64 0, .int .i64 0, .bool false, .bool false] 35) := by rw [← hW5]; exact World.alloc_heap_new w4 _
        have b5H : Hid (Below w.heap.size w W5) := by rw [← hW5]; exact b4.trans (((Below.refl _ w4).alloc (Nat.le_refl _) _).mono b4.size)
        have hW5H : Hid (w4.alloc (.cells #[.int .i64 0, .int .i64 0, .int .i64 0, .bool false, .bool false] 35) = W5) := hW5
        have y1 : W5.cell? ⟨w4.heap.size, 0, none⟩ = some (.int .i64 0) := by rw [Lib.cell_of_heap M5]; rfl
        have y1d : ∀ m, (W5.drewN m).cell? ⟨w4.heap.size, 0, none⟩ = some (.int .i64 0) := fun m => y1
        clear B4 b4 hW5 M5 x1 x2 x3 x4 hlt cR2
        go_wp2_with fail
        try rw [hW5H.out]
        generalize w4.heap.size = N4 at *
        go_quiet (fail)
        obtain ⟨W6, hW6⟩ : ∃ W6, W5.drewN nq = W6 := ⟨_, rfl⟩
        have b6H : Hid (Below w.heap.size w W6) := by rw [← hW6]; exact bdrewN b5H.out _
        try rw [hW6]
        clear hW6 y1 y1d b5H hW5H
        go_wp2_with fail
        refine Calls.mono (cO2.out _ b6H.out) ?_
        rintro e w7 ⟨tb, td, fb, fd, rfl, hp7, B7⟩
        have b7 : Below w.heap.size w w7 := b6H.out.trans (B7.mono b6H.out.size)
        obtain ⟨W8, hW8⟩ : ∃ W8, w7.alloc (.cells #[.string pm, .slice tb nt td, .slice fb nf fd, .int .i64 ptm] 32) = W8 := ⟨_, rfl⟩
        have M8 : W8.heap[w7.heap.size]? = some (.cells #[.string pm, .slice tb nt td, .slice fb nf fd, .int .i64 ptm] 32) := by rw [← hW8]; exact World.alloc_heap_new w7 _
        have B8 : Below w7.heap.size w7 W8 := by rw [← hW8]; exact (Below.refl _ w7).alloc (Nat.le_refl _) _
        have b8 : Below w.heap.size w W8 := b7.trans (B8.mono b7.size)
        obtain ⟨NP, hNP⟩ : ∃ NP, w7.heap.size = NP := ⟨_, rfl⟩
        have hW8H : Hid (w7.alloc (.cells #[.string pm, .slice tb nt td, .slice fb nf fd, .int .i64 ptm] 32) = W8 ∧ w7.heap.size = NP) := ⟨hW8, hNP⟩
        rw [hNP] at M8
        have kA : Hid (∀ X, Below W8.heap.size W8 X → ((X.cell? ⟨NP, 0, none⟩ = some (.string pm) ∧ X.cell? ⟨NP, 1, none⟩ = some (.slice tb nt td) ∧ X.cell? ⟨NP, 2, none⟩ = some (.slice fb nf fd) ∧ X.cell? ⟨NP, 3, none⟩ = some (.int .i64 ptm)) ∧ X.cell? ⟨b, off + i * 4, none⟩ = some (.string pm) ∧ X.cell? ⟨b, off + i * 4 + 1, none⟩ = some (.slice ta nt tc) ∧ X.cell? ⟨b, off + i * 4 + 2, none⟩ = some (.slice fa nf fc) ∧ X.cell? ⟨b, off + i * 4 + 3, none⟩ = some (.int .i64 ptm)) ∧ (NP < X.heap.size ∧ b < X.heap.size) ∧ Below w.heap.size w X) := fun X hX => by
          have e := (hX.block _ (Array.getElem?_eq_some_iff.1 M8).1).trans M8
          have bX : Below w.heap.size w X := b8.trans (hX.mono b8.size)
          exact ⟨⟨⟨by rw [Lib.cell_of_heap e]; rfl, by rw [Lib.cell_of_heap e]; rfl, by rw [Lib.cell_of_heap e]; rfl, by rw [Lib.cell_of_heap e]; rfl⟩, (xC.out X bX).1⟩, ⟨(Array.getElem?_eq_some_iff.1 e).1, (xC.out X bX).2⟩, bX⟩
        have kB : Hid (∀ X, Below W8.heap.size W8 X → TgIn X ta pt ∧ TgIn X tb pt ∧ FdIn X fa pf ∧ FdIn X fb pf) := fun X hX => ⟨(pC.out X (b8.trans (hX.mono b8.size))).1, (hp7.1.below B8).below hX, (pC.out X (b8.trans (hX.mono b8.size))).2.2.1, (hp7.2.2.1.below B8).below hX⟩
        have cT3 : Hid (∀ X, Below W8.heap.size W8 X → Calls Tryz.prog 21 #[.slice tb nt td, .slice ta nt tc] X fun e w' => e = .returned (.bool true) ∧ Below W8.heap.size W8 w') := fun X hX => (cT2.out X tb td (kB.out X hX).2.1 (kB.out X hX).1).mono fun e w' q => ⟨q.1, hX.trans (q.2.mono hX.size)⟩
        have Z0 : Hid (Below W8.heap.size W8 W8.drew) := (Below.refl _ _).drew
        clear hp7 B7 b7 hW8 M8 B8 b8 hNP xC pC cO2 cT2 b6H
        obtain ⟨⟨⟨s0, s1, s2, s3⟩, u0, u1, u2, u3⟩, ⟨l1, l2⟩, _⟩ := kA.out W8 (Below.refl _ _)
        have SS := (kA.out W8 (Below.refl _ _)).1
        have ss : (pm.toList == pm.toList) = true := by simp
        go_wp2_with fail
        rw [hW8H.out.1]
        try rw [hW8H.out.2]
        go_region_held3 (fun X => (X.cell? ⟨NP, 0, none⟩ = some (.string pm) ∧ X.cell? ⟨NP, 1, none⟩ = some (.slice tb nt td) ∧ X.cell? ⟨NP, 2, none⟩ = some (.slice fb nf fd) ∧ X.cell? ⟨NP, 3, none⟩ = some (.int .i64 ptm)) ∧ X.cell? ⟨b, off + i * 4, none⟩ = some (.string pm) ∧ X.cell? ⟨b, off + i * 4 + 1, none⟩ = some (.slice ta nt tc) ∧ X.cell? ⟨b, off + i * 4 + 2, none⟩ = some (.slice fa nf fc) ∧ X.cell? ⟨b, off + i * 4 + 3, none⟩ = some (.int .i64 ptm)) (first | assumption)
          (first
            | (go_at_call 21; (with_reducible refine Calls.mono (cT3.out _ Z0.out) ?_); rintro e2 X2 ⟨rfl, G2⟩; have S2 := (kA.out _ G2).1))
        have G2H : Hid (Below W8.heap.size W8 X2) := G2
        clear G2 S2 SS Z0 cT3 s0 s1 s2 s3 u0 u1 u2 u3 l1 l2 ss hW8H
        obtain ⟨⟨⟨s0, s1, s2, s3⟩, u0, u1, u2, u3⟩, ⟨l1, l2⟩, _⟩ := kA.out X2 G2H.out
        go_wp2_with fail
        clear s0 s1 s2 s3 u0 u1 u2 u3 l1 l2
        go_loopg [9, 10, 11, 12] nf (fun gk2 kv v10 v11 v12 wy => ∃ (k : Nat), gk2 = nf - k ∧ kv = .int .i64 (k : Int) ∧ k ≤ nf ∧ Hid (Below W8.heap.size W8 wy))
        case atStart => exact ⟨0, rfl, rfl, Nat.zero_le _, G2H⟩
        case round =>
          rename World => wr
          clear G2H
          obtain ⟨k, hgk2, rfl, kn2, hB⟩ := hrel
          have hgk2H : Hid (_ = nf - k) := hgk2
          clear hgk2
          have q0 : (0 : Int) ≤ (k : Int) := by omega
          have wk : IntKind.i64.wrap ((k : Int) + 1) = ((k + 1 : Nat) : Int) := IntWalk.i64_in _ (by omega)
          obtain ⟨⟨⟨s0, s1, s2, s3⟩, u0, u1, u2, u3⟩, ⟨l1, l2⟩, bw⟩ := kA.out wr hB.out
          by_cases hk2 : k < nf
          · have hk2I : (k : Int) < (nf : Int) := by omega
            obtain ⟨f, hf⟩ : ∃ f, pf[k]? = some f := ⟨_, List.getElem?_eq_getElem (by have := nfH.out; omega)⟩
            obtain ⟨_, hTb, hFa, hFb⟩ := kB.out wr hB.out
            obtain ⟨gb, gf, e1, glt, _, _⟩ := FdIn.at hFb (Below.refl _ _) hf
            obtain ⟨ga, gh, e2, glt2, _, _⟩ := FdIn.at hFa (Below.refl _ _) hf
            subst e1 e2
            have fcH : Hid (∀ X, Below W8.heap.size W8 X → (X.cell? ⟨gb, gf + k * 2, none⟩ = some (.string f.1) ∧ X.cell? ⟨gb, gf + k * 2 + 1, none⟩ = some (.int .i64 f.2)) ∧ X.cell? ⟨ga, gh + k * 2, none⟩ = some (.string f.1) ∧ X.cell? ⟨ga, gh + k * 2 + 1, none⟩ = some (.int .i64 f.2)) := fun X hX => by
              obtain ⟨_, _, hFa2, hFb2⟩ := kB.out X hX
              obtain ⟨b9, o9, e9, _, y1, y2⟩ := FdIn.at hFb2 (Below.refl _ _) hf
              obtain ⟨b8, o8, e8, _, z1, z2⟩ := FdIn.at hFa2 (Below.refl _ _) hf
              injection e9 with e9; injection e9 with e9 f9 _; subst e9 f9
              injection e8 with e8; injection e8 with e8 f8 _; subst e8 f8
              exact ⟨⟨y1, y2⟩, z1, z2⟩
            obtain ⟨fK, fV⟩ := f
            dsimp only at fcH
            clear hf hFa hFb hTb s3 u0 u1 u2 u3 l2
            obtain ⟨ns, hns⟩ : ∃ ns, ns = (sortT pt).length := ⟨_, rfl⟩
            have nsH : Hid (ns = (sortT pt).length) := hns
            have cS : Hid (∀ W, Below wr.heap.size wr W → Calls Tryz.prog 22 #[.slice tb nt td] W fun e w' => ∃ a' c', e = .returned (.slice a' ns c') ∧ TgIn w' a' (sortT pt) ∧ (∀ ad, a' = some ad → W.heap.size ≤ ad.block) ∧ Below W.heap.size W w') := fun W hW => by rw [hns]; exact cS2.out W tb td (kB.out W (hB.out.trans (hW.mono hB.out.size))).2.1
            have kp : Hid (∀ W, Below wr.heap.size wr W → W.cell? ⟨NP, 0, none⟩ = some (.string pm) ∧ W.cell? ⟨NP, 1, none⟩ = some (.slice tb nt td) ∧ W.cell? ⟨NP, 2, none⟩ = some (.slice (some ⟨gb, gf, none⟩) nf fd) ∧ W.cell? ⟨gb, gf + k * 2, none⟩ = some (.string fK)) := fun W hW => by
              have b0 := hB.out.trans (hW.mono hB.out.size)
              have q := kA.out W b0
              exact ⟨q.1.1.1, q.1.1.2.1, q.1.1.2.2.1, (fcH.out W b0).1.1⟩
            have fcW := (fcH.out wr hB.out).1.1
            clear hns
            go_wp2_with fail
            go_cut [10] from 95 to 144 (fun v wy => ∃ K8 a' c', v = .pointer (some ⟨K8, 0, none⟩) ∧ Hid (SbT wr pm pt fK K8 a' c' wy))
            case first =>
              refine wp_region_noPanic ?_
              refine wp_region_held_drew (S := fun W => W.cell? ⟨NP, 0, none⟩ = some (.string pm) ∧ W.cell? ⟨NP, 1, none⟩ = some (.slice tb nt td) ∧ W.cell? ⟨NP, 2, none⟩ = some (.slice (some ⟨gb, gf, none⟩) nf fd) ∧ W.cell? ⟨gb, gf + k * 2, none⟩ = some (.string fK)) (by kernel_rfl) (kp.out _ (show Below wr.heap.size wr wr.drew from (Below.refl _ wr).drew)) (fun hHeld => ?_)
              refine zT 0 (v := ?_) rfl ?_ ?_
              rotate_left 1
              · (intro w0 hSw; (try dsimp only at hSw); obtain ⟨s1, s2, s3, s4⟩ := hSw; go_simp; try with_reducible rfl)
              (try simp only [z1, z2, z3]); (try simp only [Act.put, z4, z5, z6])
              refine zT 1 (v := ?_) rfl ?_ ?_
              rotate_left 1
              · (intro w0 hSw; (try dsimp only at hSw); obtain ⟨s1, s2, s3, s4⟩ := hSw; go_simp; try with_reducible rfl)
              (try simp only [z1, z2, z3]); (try simp only [Act.put, z4, z5, z6])
              refine zT 2 (v := ?_) rfl ?_ ?_
              rotate_left 1
              · (intro w0 hSw; (try dsimp only at hSw); obtain ⟨s1, s2, s3, s4⟩ := hSw; go_simp; try with_reducible rfl)
              (try simp only [z1, z2, z3]); (try simp only [Act.put, z4, z5, z6])
              refine zT 3 (v := ?_) rfl ?_ ?_
              rotate_left 1
              · (intro w0 hSw; (try dsimp only at hSw); obtain ⟨s1, s2, s3, s4⟩ := hSw; go_simp; try with_reducible rfl)
              (try simp only [z1, z2, z3]); (try simp only [Act.put, z4, z5, z6])
              refine zT 5 (v := ?_) rfl ?_ ?_
              rotate_left 1
              · (intro w0 hSw; (try dsimp only at hSw); obtain ⟨s1, s2, s3, s4⟩ := hSw; go_simp; try with_reducible rfl)
              (try simp only [z1, z2, z3]); (try simp only [Act.put, z4, z5, z6])
              refine zT 6 (v := ?_) rfl ?_ ?_
              rotate_left 1
              · (intro w0 hSw; (try dsimp only at hSw); obtain ⟨s1, s2, s3, s4⟩ := hSw; go_simp; try with_reducible rfl)
              (try simp only [z1, z2, z3]); (try simp only [Act.put, z4, z5, z6])
              refine zT 7 (v := ?_) rfl ?_ ?_
              rotate_left 1
              · (intro w0 hSw; (try dsimp only at hSw); obtain ⟨s1, s2, s3, s4⟩ := hSw; go_simp; try with_reducible rfl)
              (try simp only [z1, z2, z3]); (try simp only [Act.put, z4, z5, z6])
              refine zT 8 (v := ?_) rfl ?_ ?_
              rotate_left 1
              · (intro w0 hSw; (try dsimp only at hSw); obtain ⟨s1, s2, s3, s4⟩ := hSw; go_simp; try with_reducible rfl)
              (try simp only [z1, z2, z3]); (try simp only [Act.put, z4, z5, z6])
              refine zT 9 (v := ?_) rfl ?_ ?_
              rotate_left 1
              · (intro w0 hSw; (try dsimp only at hSw); obtain ⟨s1, s2, s3, s4⟩ := hSw; go_simp; try with_reducible rfl)
              (try simp only [z1, z2, z3]); (try simp only [Act.put, z4, z5, z6])
              refine zT 10 (v := ?_) rfl ?_ ?_
              rotate_left 1
              · (intro w0 hSw; (try dsimp only at hSw); obtain ⟨s1, s2, s3, s4⟩ := hSw; go_simp; try with_reducible rfl)
              (try simp only [z1, z2, z3]); (try simp only [Act.put, z4, z5, z6])
              have bz : Below wr.heap.size wr (wr.drew.alloc (.cells #[.string ⟨#[]⟩, .slice none 0 0, .string ⟨#[]⟩] 88)) := (show Below wr.heap.size wr wr.drew from (Below.refl _ wr).drew).alloc (Nat.le_refl _) _
              refine wpAnyH_ready (rs := [4, 12]) (by kernel_rfl) (by simp) ?_
              refine AllReadyH.cons (o := _) rfl (fun K1 hK => ?_) ?_
              · go_simp
                refine Calls.mono (cS.out wr.drew (show Below wr.heap.size wr wr.drew from (Below.refl _ wr).drew)) ?_
                rintro e w3 ⟨a', c', rfl, t3, f3, b3⟩
                have B3 : Below wr.heap.size wr w3 := (show Below wr.heap.size wr wr.drew from (Below.refl _ wr).drew).trans b3
                have b4 : Below wr.heap.size wr (w3.alloc (.cells #[.string pm, .slice a' ns c', .string fK] 88)) := B3.alloc B3.size _
                have b5 : Below wr.heap.size wr (w3.alloc (.cells #[.string ⟨#[]⟩, .slice none 0 0, .string ⟨#[]⟩] 88)) := B3.alloc B3.size _
                have finA : Hid (SbT wr pm pt fK w3.heap.size a' c' (w3.alloc (.cells #[.string pm, .slice a' ns c', .string fK] 88))) := SbT.newA (ns := ns) nsH.out B3 (t3) f3
                try dsimp only
                refine hK _ _ (kp.out _ B3) (fun hHeld => ?_)
                clear hK K1
                (try simp only [z1, z2, z3]); (try simp only [Act.put, z4, z5, z6])
                refine zT 11 (v := ?_) rfl ?_ ?_
                rotate_left 1
                · (intro w0 hSw; (try dsimp only at hSw); obtain ⟨s1, s2, s3, s4⟩ := hSw; go_simp; try with_reducible rfl)
                (try simp only [z1, z2, z3]); (try simp only [Act.put, z4, z5, z6])
                refine wpAnyH_ready (rs := [12]) (by kernel_rfl) (by simp) ?_
                refine AllReadyH.cons (o := _) rfl (fun K1 hK => ?_) AllReadyH.nil
                go_simp
                try dsimp only
                refine hK _ _ (kp.out _ b5) (fun hHeld => ?_)
                clear hK K1
                (try simp only [z1, z2, z3]); (try simp only [Act.put, z4, z5, z6])
                refine wpAnyH_ready (rs := [13]) (by kernel_rfl) (by simp) ?_
                refine AllReadyH.cons (o := _) rfl (fun K1 hK => ?_) AllReadyH.nil
                go_simp
                try dsimp only
                refine hK _ _ (kp.out _ b4) (fun hHeld => ?_)
                clear hK K1
                (try simp only [z1, z2, z3]); (try simp only [Act.put, z4, z5, z6])
                refine wpAnyH_done (by kernel_rfl) ?_ _
                refine NoPanic.normal ?_
                go_wp2_with fail
                go_meet
                exact ⟨_, a', c', rfl, finA⟩
              refine AllReadyH.cons (o := _) rfl (fun K1 hK => ?_) AllReadyH.nil
              go_simp
              try dsimp only
              refine hK _ _ (kp.out _ bz) (fun hHeld => ?_)
              clear hK K1
              (try simp only [z1, z2, z3]); (try simp only [Act.put, z4, z5, z6])
              refine wpAnyH_ready (rs := [4]) (by kernel_rfl) (by simp) ?_
              refine AllReadyH.cons (o := _) rfl (fun K1 hK => ?_) AllReadyH.nil
              go_simp
              refine Calls.mono (cS.out (wr.drew.alloc (.cells #[.string ⟨#[]⟩, .slice none 0 0, .string ⟨#[]⟩] 88)) bz) ?_
              rintro e w3 ⟨a', c', rfl, t3, f3, b3⟩
              have B3 : Below wr.heap.size wr w3 := bz.trans (b3.mono bz.size)
              obtain ⟨z0, z1, z2, zf, finB0⟩ := SbT.newB wr pm pt fK ns nsH.out w3 a' c' b3 t3 f3
              have finB : Hid (SbT wr pm pt fK wr.heap.size a' c' (((w3.setCell ⟨wr.heap.size, 0, none⟩ (.string pm)).setCell ⟨wr.heap.size, 1, none⟩ (.slice a' ns c')).setCell ⟨wr.heap.size, 2, none⟩ (.string fK))) := finB0
              have zf0 := zf 0
              have zf1 := zf 1
              have zf2 := zf 2
              clear zf finB0
              try dsimp only
              refine hK _ _ (kp.out _ B3) (fun hHeld => ?_)
              clear hK K1
              (try simp only [z1, z2, z3]); (try simp only [Act.put, z4, z5, z6])
              refine zT 11 (v := ?_) rfl ?_ ?_
              rotate_left 1
              · (intro w0 hSw; (try dsimp only at hSw); obtain ⟨s1, s2, s3, s4⟩ := hSw; go_simp; try with_reducible rfl)
              (try simp only [z1, z2, z3]); (try simp only [Act.put, z4, z5, z6])
              refine wpAnyH_ready (rs := [13]) (by kernel_rfl) (by simp) ?_
              refine AllReadyH.cons (o := _) rfl (fun K1 hK => ?_) AllReadyH.nil
              go_simp
              try dsimp only
              refine hK _ _ (kp.out _ finB.out.bl) (fun hHeld => ?_)
              clear hK K1
              (try simp only [z1, z2, z3]); (try simp only [Act.put, z4, z5, z6])
              refine wpAnyH_done (by kernel_rfl) ?_ _
              refine NoPanic.normal ?_
              go_wp2_with fail
              go_meet
              exact ⟨_, a', c', rfl, finB⟩
            case rest =>
              obtain ⟨K8, a', c', rfl, hC⟩ := hcut
              obtain ⟨wy, hwy⟩ : ∃ wy, wy = wc := ⟨_, rfl⟩
              subst hwy
              have kC : Hid (∀ X, Below wy.heap.size wy X → (X.cell? ⟨K8, 0, none⟩ = some (.string pm) ∧ X.cell? ⟨K8, 1, none⟩ = some (.slice a' ns c') ∧ X.cell? ⟨K8, 2, none⟩ = some (.string fK)) ∧ K8 < X.heap.size ∧ SerIn X a' ⟨pm, sortT pt, fK⟩ ∧ Below W8.heap.size W8 X) := fun X hX => by
                have h := hC.out
                exact ⟨⟨by rw [hX.cell (p := ⟨K8, 0, none⟩) h.kl]; exact h.c0, by rw [hX.cell (p := ⟨K8, 1, none⟩) h.kl, nsH.out]; exact h.c1, by rw [hX.cell (p := ⟨K8, 2, none⟩) h.kl]; exact h.c2⟩, Nat.lt_of_lt_of_le h.kl hX.size, ⟨h.tg.below hX, slH.out⟩, hB.out.trans ((h.bl.trans (hX.mono h.bl.size)).mono hB.out.size)⟩
              have k8H : Hid (∀ X, Below W8.heap.size W8 X → Below w.heap.size w X) := fun X hX => (kA.out X hX).2.2
              have bY : Below W8.heap.size W8 wy := (kC.out wy (Below.refl _ _)).2.2.2
              clear s0 s1 s2 l1 kp cS hC bw fcW
              obtain ⟨⟨⟨s0, s1, s2, s3⟩, u0, u1, u2, u3⟩, ⟨l1, l2⟩, bw⟩ := kA.out wy bY
              obtain ⟨⟨y1, y2⟩, z1, z2⟩ := fcH.out wy bY
              have ss : (fK.toList == fK.toList) = true := by simp
              have ww : (fV == fV) = true := by simp
              clear bw bY
              go_wp2_with fail
              go_quiet (fail)
              obtain ⟨W10, hW10⟩ : ∃ W10, wy.drewN nq = W10 := ⟨_, rfl⟩
              have b10 : Hid (Below wy.heap.size wy W10) := by rw [← hW10]; exact belowQ wy _
              try rw [hW10]
              clear hW10 s0 s1 s2 s3 u0 u1 u2 u3 l1 l2 y1 y2 z1 z2 ss ww
              have cU2 : Hid (∀ X, Below wy.heap.size wy X → Calls Tryz.prog 23 #[.agg #[.string pm, .slice a' ns c', .string fK]] X fun e w' => e = .returned (erN (rightN ⟨pm, sortT pt, fK⟩)) ∧ Below X.heap.size X w') := fun X hX => by rw [nsH.out]; exact cU.out ⟨pm, sortT pt, fK⟩ a' c' X (k8H.out X (kC.out X hX).2.2.2) (kC.out X hX).2.2.1
              obtain ⟨⟨y0, y1, y2⟩, l1, _, _⟩ := kC.out W10 b10.out
              by_cases h0 : rightN ⟨pm, sortT pt, fK⟩ = 0
              · have cU3 : Hid (∀ X, Below wy.heap.size wy X → Calls Tryz.prog 23 #[.agg #[.string pm, .slice a' ns c', .string fK]] X fun e w' => e = .returned .nilIface ∧ Below X.heap.size X w') := fun X hX => by have := cU2.out X hX; rw [h0] at this; exact this
                have cQ2 : Hid (∀ X, Below wy.heap.size wy X → Calls Tryz.prog 25 #[.agg #[.string pm, .slice a' ns c', .string fK]] X fun e w' => e = .returned (.string (_root_.Go.Proofs.YtbojljmacheccaaGreatDoor.ba (printT ⟨pm, sortT pt, fK⟩))) ∧ Below X.heap.size X w') := fun X hX => by rw [nsH.out]; exact cQ.out ⟨pm, sortT pt, fK⟩ a' c' X h0 (k8H.out X (kC.out X hX).2.2.2) (kC.out X hX).2.2.1
                have cZ2 : Hid (∀ X, Below wy.heap.size wy X → Calls Tryz.prog 24 #[.string (_root_.Go.Proofs.YtbojljmacheccaaGreatDoor.ba (printT ⟨pm, sortT pt, fK⟩))] X fun e w' => ∃ v q, e = .returned (.tuple #[.agg #[.string pm, .slice v ns q, .string fK], .nilIface]) ∧ TgIn w' v (sortT pt) ∧ Below X.heap.size X w') := fun X hX => by rw [nsH.out]; exact cZ.out ⟨pm, sortT pt, fK⟩ X h0 (k8H.out X (kC.out X hX).2.2.2)
                have cC2 : Hid (∀ X b' d', Below wy.heap.size wy X → TgIn X b' (sortT pt) → Calls Tryz.prog 26 #[.agg #[.string pm, .slice a' ns c', .string fK], .agg #[.string pm, .slice b' ns d', .string fK]] X fun e w' => e = .returned (.int .i64 0) ∧ Below X.heap.size X w') := fun X b' d' hX ht => by rw [nsH.out]; exact cC.out ⟨pm, sortT pt, fK⟩ a' c' b' d' X (kC.out X hX).2.2.1 ⟨ht, slH.out⟩
                clear cU cQ cZ cC cU2 h0 cS2 kA kB
                generalize _root_.Go.Proofs.YtbojljmacheccaaGreatDoor.ba (printT ⟨pm, sortT pt, fK⟩) = TX at *
                go_wp2_with fail
                refine Calls.mono (cU3.out _ b10.out) ?_
                rintro e w11 ⟨rfl, B11⟩
                have b11 : Hid (Below wy.heap.size wy w11) := b10.out.trans (B11.mono b10.out.size)
                clear B11 y0 y1 y2 l1 cU3
                obtain ⟨⟨y0, y1, y2⟩, l1, _, _⟩ := kC.out w11 b11.out
                go_wp2_with fail
                refine Calls.mono (cQ2.out _ b11.out) ?_
                rintro e w12 ⟨rfl, B12⟩
                have b12 : Hid (Below wy.heap.size wy w12) := b11.out.trans (B12.mono b11.out.size)
                clear B12 y0 y1 y2 l1 cQ2
                go_wp2_with fail
                refine Calls.mono (cZ2.out _ b12.out) ?_
                rintro e w13 ⟨v, q, rfl, h13, B13⟩
                have b13 : Below wy.heap.size wy w13 := b12.out.trans (B13.mono b12.out.size)
                obtain ⟨W14, hW14⟩ : ∃ W14, w13.alloc (.cells #[.string pm, .slice v ns q, .string fK] 88) = W14 := ⟨_, rfl⟩
                have M14 : W14.heap[w13.heap.size]? = some (.cells #[.string pm, .slice v ns q, .string fK] 88) := by rw [← hW14]; exact World.alloc_heap_new w13 _
                have B14 : Below w13.heap.size w13 W14 := by rw [← hW14]; exact (Below.refl _ w13).alloc (Nat.le_refl _) _
                have b14 : Hid (Below wy.heap.size wy W14) := b13.trans (B14.mono b13.size)
                have h14 : TgIn W14 v (sortT pt) := h13.below B14
                obtain ⟨⟨y0, y1, y2⟩, l1, _, _⟩ := kC.out w13 b13
                have hW14H : Hid (w13.alloc (.cells #[.string pm, .slice v ns q, .string fK] 88) = W14) := hW14
                have cC3 : Hid (Calls Tryz.prog 26 #[.agg #[.string pm, .slice a' ns c', .string fK], .agg #[.string pm, .slice v ns q, .string fK]] W14 fun e w' => e = .returned (.int .i64 0) ∧ Below W14.heap.size W14 w') := cC2.out W14 v q b14.out h14
                clear hW14 M14 B14 h14 h13 B13 b13 b12 cZ2 cC2
                go_wp2_with fail
                try rw [hW14H.out]
                refine Calls.mono cC3.out ?_
                rintro e w15 ⟨rfl, B15⟩
                have b15 : Hid (Below W8.heap.size W8 w15) := (kC.out w15 (b14.out.trans (B15.mono b14.out.size))).2.2.2
                clear B15 y0 y1 y2 l1 cC3
                go_wp2_with fail
                go_roundg (nf - (k + 1))
                case measure => rw [hgk2H.out]; omega
                case rel => exact ⟨k + 1, rfl, by first | rfl | simp, by omega, b15⟩
              · have cU3 : Hid (∀ X, Below wy.heap.size wy X → Calls Tryz.prog 23 #[.agg #[.string pm, .slice a' ns c', .string fK]] X fun e w' => e = .returned (.iface 33 (.int .i64 (rightN ⟨pm, sortT pt, fK⟩))) ∧ Below X.heap.size X w') := fun X hX => by have := cU2.out X hX; rw [erN, if_neg h0] at this; exact this
                clear cU cQ cZ cC cU2 h0 cS2 kA kB
                generalize rightN ⟨pm, sortT pt, fK⟩ = rn at *
                go_wp2_with fail
                refine Calls.mono (cU3.out _ b10.out) ?_
                rintro e w11 ⟨rfl, B11⟩
                have b11 : Hid (Below W8.heap.size W8 w11) := (kC.out w11 (b10.out.trans (B11.mono b10.out.size))).2.2.2
                clear B11 y0 y1 y2 l1 cU3
                go_wp2_with fail
                go_roundg (nf - (k + 1))
                case measure => rw [hgk2H.out]; omega
                case rel => exact ⟨k + 1, rfl, by first | rfl | simp, by omega, b11⟩
          · have hk2I : ¬ (k : Int) < (nf : Int) := by omega
            have bwH : Hid (Below w.heap.size w wr) := bw
            clear bw s0 s1 s3 u0 u1 u2 u3 l2
            go_wp2_with fail
            go_roundg (n - (i + 1))
            case measure => rw [hgkH.out]; omega
            case rel => exact ⟨i + 1, rfl, by first | rfl | simp, by omega, bwH⟩
    · have hkI : ¬ (i : Int) < (n : Int) := by omega
      obtain ⟨W3, hW3⟩ : ∃ W3, wx.alloc (.cells #[.string ⟨#[118]⟩, .int .i64 1] 86) = W3 := ⟨_, rfl⟩
      have M3 : W3.heap[wx.heap.size]? = some (.cells #[.string ⟨#[118]⟩, .int .i64 1] 86) := by rw [← hW3]; exact World.alloc_heap_new wx _
      have B3 : Below w.heap.size w W3 := by rw [← hW3]; exact hb.out.alloc hb.out.size _
      have hW3H : Hid (wx.alloc (.cells #[.string ⟨#[118]⟩, .int .i64 1] 86) = W3) := hW3
      have cF2 : Hid (Calls Tryz.prog 8 #[.agg #[.string ⟨#[109]⟩, .slice none 0 0, .slice (some ⟨wx.heap.size, 0, none⟩) 1 1, .int .i64 0]] W3 fun e w' => e = .returned (.tuple #[.string ⟨#[109, 32, 118, 61, 49, 105, 32, 48]⟩, .nilIface]) ∧ Below w.heap.size w w') := (cF.out W3 wx.heap.size B3 M3).mono fun e w' q => ⟨q.1, B3.trans (q.2.mono B3.size)⟩
      clear hW3 M3 B3 cF cP cR cO cT cS cU cQ cZ cC
      go_wp2_with fail
      try rw [hW3H.out]
      refine Calls.mono cF2.out ?_
      rintro e w4 ⟨rfl, B4⟩
      have B4H : Hid (Below w.heap.size w w4) := B4
      clear B4 cF2
      go_wp2_with fail
      go_ret
      exact ⟨rfl, B4H.out⟩
end Go.Proofs.YtbojljmacheccaaGreatDoor.Ln
