
import Derived.Test.YtepakgfdakeibaaGreatDoorBgC
import Derived.Test.YtepakgfdakeibaaGreatDoorKyC
import Derived.Test.YtepakgfdakeibaaGreatDoorBdC
import Derived.Test.YtepakgfdakeibaaGreatDoorKzC
namespace Go.Proofs.YtepakgfdakeibaaGreatDoor
open Go.RowKit _root_.Go.Proofs.YtepakgfdakeibaaGreatDoor.So
set_option linter.unusedVariables false
set_option linter.unusedSimpArgs false
theorem sortT_sk (l : List TagP) : SK kl (sortT l) := by
  have := (srtD_is kl_ko (atT l) l.length).1
  rw [atT_map] at this; exact this
theorem sortT_mem (l : List TagP) (e : TagP) : e ∈ sortT l ↔ ∃ k, k < l.length ∧ atT l k = e ∧ ∀ j, k < j → j < l.length → (atT l j).1 ≠ (atT l k).1 := by
  have := (srtD_is kl_ko (atT l) l.length).2 e
  rw [atT_map] at this; exact this
theorem atT_get (l : List TagP) {k : Nat} (h : k < l.length) : atT l k = l[k] := by simp [atT, List.getD_eq_getElem?_getD, List.getElem?_eq_getElem h]
theorem sortT_in {l : List TagP} {e : TagP} (h : e ∈ sortT l) : e ∈ l := by
  obtain ⟨k, hk, rfl, _⟩ := (sortT_mem l e).1 h
  rw [atT_get l hk]; exact List.getElem_mem hk
theorem nodup_le {α : Type} [DecidableEq α] : ∀ (a b : List α), a.Nodup → (∀ x ∈ a, x ∈ b) → a.length ≤ b.length
  | [], b, _, _ => Nat.zero_le _
  | x :: r, b, h, hs => by
    obtain ⟨h1, h2⟩ := List.nodup_cons.1 h
    have hx := hs x List.mem_cons_self
    have := nodup_le r (b.erase x) h2 fun y hy => (List.mem_erase_of_ne (fun e => h1 (by rw [← e]; exact hy))).2 (hs y (List.mem_cons_of_mem _ hy))
    rw [List.length_erase_of_mem hx] at this
    have hp : 0 < b.length := List.length_pos_of_mem hx
    rw [List.length_cons]; omega
/-! ### the document's Sort, plain: where a tag goes -/
theorem ins_same (t u : TagP) : ∀ (s : List TagP) (k : Nat), (∀ j v, j < k → s[j]? = some v → kl v.1 t.1 = true) → s[k]? = some u → u.1 = t.1 → insD kl t s = s.set k (u.1, t.2)
  | [], k, _, h, _ => by simp at h
  | x :: r, 0, _, h, e => by
    simp at h; subst h
    unfold insD
    rw [if_neg (by rw [e, kl_ko.irr]; simp), if_pos e]; rfl
  | x :: r, k + 1, hl, h, e => by
    unfold insD
    rw [if_pos (hl 0 x (by omega) rfl), ins_same t u r k (fun j v a b => hl (j + 1) v (by omega) (by simpa using b)) (by simpa using h) e]; rfl
theorem ins_new (t : TagP) : ∀ (s : List TagP) (k : Nat), (∀ j v, j < k → s[j]? = some v → kl v.1 t.1 = true) → k ≤ s.length → (∀ u, s[k]? = some u → kl u.1 t.1 = false ∧ u.1 ≠ t.1) → insD kl t s = s.take k ++ t :: s.drop k
  | [], k, _, hk, _ => by
    obtain rfl : k = 0 := by simpa using hk
    rfl
  | x :: r, 0, _, _, h => by
    obtain ⟨h1, h2⟩ := h x rfl
    unfold insD
    rw [if_neg (by rw [h1]; simp), if_neg h2]; rfl
  | x :: r, k + 1, hl, hk, h => by
    unfold insD
    rw [if_pos (hl 0 x (by omega) rfl), ins_new t r k (fun j v a b => hl (j + 1) v (by omega) (by simpa using b)) (by simpa using hk) (fun u hu => h u (by simpa using hu))]; rfl
/-- the row while one is let in: a hole at k. -/
def Mv (s : List TagP) (k : Nat) : List TagP := s.take k ++ s.getD k noT :: s.drop k
theorem Mv_start (s : List TagP) : s ++ [noT] = Mv s s.length := by simp [Mv]
theorem Mv_len {s : List TagP} {k : Nat} (h : k ≤ s.length) : (Mv s k).length = s.length + 1 := by simp [Mv]; omega
theorem Mv_at {s : List TagP} {k : Nat} (h : k ≤ s.length) (j : Nat) : (Mv s k)[j]? = if j < k then s[j]? else if j = k then some (s.getD k noT) else s[j - 1]? := by
  unfold Mv
  rw [List.getElem?_append]
  have hl : (s.take k).length = k := by simp; omega
  rw [hl]
  split
  · rename_i c
    rw [List.getElem?_take, if_pos c]
  · rename_i c
    split
    · rename_i e
      subst e; simp
    · rename_i e
      rw [show j - k = (j - k - 1) + 1 by omega, List.getElem?_cons_succ, List.getElem?_drop]
      congr 1; omega
theorem Mv_get {s : List TagP} {k : Nat} {x : TagP} (h : 0 < k) (hx : s[k - 1]? = some x) : (Mv s k)[k - 1]? = some x := by
  have := (List.getElem?_eq_some_iff.1 hx).1
  rw [Mv_at (by omega), if_pos (by omega), hx]
theorem Mv_step {s : List TagP} {k : Nat} {x : TagP} (h : 0 < k) (hk : k ≤ s.length) (hx : s[k - 1]? = some x) : (Mv s k).set k (x.1, x.2) = Mv s (k - 1) := by
  apply List.ext_getElem?
  intro j
  have hl := Mv_len hk
  rw [List.getElem?_set, Mv_at hk, Mv_at (show k - 1 ≤ s.length by omega)]
  have hg : s.getD (k - 1) noT = x := by rw [List.getD_eq_getElem?_getD, hx]; rfl
  by_cases c : k = j
  · subst c
    rw [if_pos rfl, if_pos (by omega), if_neg (by omega), if_neg (by omega), hx]
  · rw [if_neg c]
    by_cases d : j < k
    · rw [if_pos d]
      by_cases e : j < k - 1
      · rw [if_pos e]
      · obtain rfl : j = k - 1 := by omega
        rw [if_neg (by omega), if_pos rfl, hg, hx]
    · rw [if_neg d, if_neg (by omega), if_neg (by omega), if_neg (by omega)]
theorem Mv_end {s : List TagP} {k : Nat} {t : TagP} (hk : k ≤ s.length) : (Mv s k).set k t = s.take k ++ t :: s.drop k := by
  unfold Mv
  have hl : (s.take k).length = k := by simp; omega
  rw [List.set_append_right _ _ (by omega), hl, Nat.sub_self]; rfl
theorem encT_set (x y : ByteArray) : ∀ (l : List TagP) (k : Nat), k < l.length → encT (l.set k (x, y)) = ((encT l).set (k * 2) (.string x)).set (k * 2 + 1) (.string y)
  | [], k, h => by simp at h
  | t :: r, 0, _ => rfl
  | t :: r, k + 1, h => by
    rw [List.set_cons_succ]
    simp only [encT]
    rw [encT_set x y r k (by simpa using h), show (k + 1) * 2 = k * 2 + 2 by omega]
    rfl
theorem encT_setV (y : ByteArray) : ∀ (l : List TagP) (k : Nat) (u : TagP), l[k]? = some u → encT (l.set k (u.1, y)) = (encT l).set (k * 2 + 1) (.string y)
  | [], k, u, h => by simp at h
  | t :: r, 0, u, h => by simp at h; subst h; rfl
  | t :: r, k + 1, u, h => by
    rw [List.set_cons_succ]
    simp only [encT]
    rw [encT_setV y r k u (by simpa using h), show (k + 1) * 2 + 1 = k * 2 + 1 + 2 by omega]
    rfl
theorem sortT_len (l : List TagP) : (sortT l).length ≤ l.length := by
  have := nodup_le (sortT l) l ?_ (fun x hx => sortT_in hx)
  · exact this
  · rw [List.nodup_iff_pairwise_ne]
    exact (sortT_sk l).imp fun hab e => by rw [e, kl_ko.irr] at hab; cases hab
theorem sortT_nil {l : List TagP} (h : sortT l = []) : l = [] := by
  rcases Nat.eq_zero_or_pos l.length with e | e
  · exact List.eq_nil_of_length_eq_zero e
  · have := (sortT_mem l (atT l (l.length - 1))).2 ⟨l.length - 1, by omega, rfl, fun j a b => by omega⟩
    rw [h] at this; cases this
/-- what stands while the document sorts: a row of its own. -/
def RSt (w : World) (v : Value) (S : List TagP) (W : World) : Prop := OT W w.heap.size v S ∧ Below w.heap.size w W
theorem RSt.drewN {w W : World} {v : Value} {S : List TagP} (h : RSt w v S W) (q : Nat) : RSt w v S (W.drewN q) := ⟨h.1.below (bdrewN (Below.refl W.heap.size W) q) (Nat.le_refl _), bdrewN h.2 q⟩
theorem RSt.len {w W : World} {a : Option Addr} {z c : Nat} {S : List TagP} (h : RSt w (.slice a z c) S W) : S.length = z := by
  obtain ⟨a', c', e, _⟩ := h.1.tin
  injection e with _ e _
  exact e.symm
theorem RSt.at {w W : World} {a : Option Addr} {z c k : Nat} {S : List TagP} {u : TagP} (h : RSt w (.slice a z c) S W) (hu : S[k]? = some u) :
    ∃ g, a = some ⟨g, 0, none⟩ ∧ w.heap.size ≤ g ∧ W.cell? ⟨g, k * 2, none⟩ = some (.string u.1) ∧ W.cell? ⟨g, k * 2 + 1, none⟩ = some (.string u.2) ∧ W.frozen? ⟨g, k * 2, none⟩ = false ∧ W.frozen? ⟨g, k * 2 + 1, none⟩ = false := by
  have hl := h.len
  have hk := (List.getElem?_eq_some_iff.1 hu).1
  rcases World.ownsRow.form h.1 (by omega) with ⟨g, cap, e, hB, _⟩
  injection e with e1 e2 e3
  subst e1
  obtain ⟨h1, h2⟩ := encT_get S k u hu
  have hcs := World.ownsRow.cells h.1 (g := g) rfl
  have k1 := hcs _ _ h1
  have k2 := hcs _ _ h2
  rw [tag_add, Nat.zero_add] at k1 k2
  have h3 := h.1
  unfold OT at h3
  rw [← hl] at h3
  exact ⟨g, rfl, hB, k1, k2, World.ownsRow.frozenAt h3 _, World.ownsRow.frozenAt h3 _⟩
theorem RSt.set {w W : World} {g z c k : Nat} {S : List TagP} (h : RSt w (.slice (some ⟨g, 0, none⟩) z c) S W) (hg : w.heap.size ≤ g) {x y : ByteArray} (hk : k < S.length) : RSt w (.slice (some ⟨g, 0, none⟩) z c) (S.set k (x, y)) ((W.setCell ⟨g, k * 2, none⟩ (.string x)).setCell ⟨g, k * 2 + 1, none⟩ (.string y)) := by
  have hl := h.len
  subst hl
  have s1 := (World.ownsRow.stored h.1 (k * 2) (.string x)).1
  have s2 := (World.ownsRow.stored s1 (k * 2 + 1) (.string y)).1
  refine ⟨?_, (h.2.setCell (p := ⟨g, k * 2, none⟩) hg _).setCell (p := ⟨g, k * 2 + 1, none⟩) hg _⟩
  unfold OT
  rw [List.length_set, encT_set x y S k hk]
  exact s2
theorem RSt.setV {w W : World} {g z c k : Nat} {S : List TagP} {u : TagP} (h : RSt w (.slice (some ⟨g, 0, none⟩) z c) S W) (hg : w.heap.size ≤ g) {y : ByteArray} (hu : S[k]? = some u) : RSt w (.slice (some ⟨g, 0, none⟩) z c) (S.set k (u.1, y)) (W.setCell ⟨g, k * 2 + 1, none⟩ (.string y)) := by
  have hl := h.len
  subst hl
  have s1 := (World.ownsRow.stored h.1 (k * 2 + 1) (.string y)).1
  refine ⟨?_, h.2.setCell (p := ⟨g, k * 2 + 1, none⟩) hg _⟩
  unfold OT
  rw [List.length_set, encT_setV y S k u hu]
  exact s1
theorem RSt.sorted {w W : World} {v : Value} {l : List TagP} (h : RSt w v (sortT l) W) : SortedR w W (.returned v) l := by
  rcases h.1.2 with ⟨e, e0⟩ | ⟨g, cap, cur, e1, hB, _, hc, _⟩
  · exact Or.inl ⟨sortT_nil (List.eq_nil_of_length_eq_zero e0), by rw [e]⟩
  · subst e1
    exact Or.inr ⟨g, _, cap, atT (sortT l), rfl, hB, hc, OT.tr h.1, atT_map _⟩
theorem app1Tn (W : World) (B : Nat) (v : Value) (l : List TagP) (h : OT W B v l) (hB : B ≤ W.heap.size) (x y : ByteArray) (hn : l.length + 1 ≤ 4398046511104) :
    ∃ v' w', (Builtin.append_ #[38, 38] 38 #[v, .slice (some ⟨W.heap.size, 0, none⟩) 1 1]).run Tryz.prog (W.alloc (.cells #[.string x, .string y] 82)) = .ok v' w' ∧ OT w' B v' (l ++ [(x, y)]) ∧ Below B W w' := by
  have b1 : Below W.heap.size W (W.alloc (.cells #[.string x, .string y] 82)) := (Below.refl _ W).alloc (Nat.le_refl _) _
  have ho2 := h.below b1 (Nat.le_refl _)
  obtain ⟨v', w', hr, ho, hg, _⟩ := appT _ B v l [(x, y)] ho2 (Nat.le_trans hB b1.size) (some ⟨W.heap.size, 0, none⟩) 1 (Or.inr ⟨W.heap.size, 0, rfl, by simp, fun i t ht => by
    cases i with
    | zero => simp at ht; subst ht; exact ⟨by simp [go_sem], by simp [go_sem]⟩
    | succ i => simp at ht⟩) (by simp; omega)
  exact ⟨v', w', hr, ho, (b1.mono hB).trans (grown_below ho2 (Nat.le_trans hB b1.size) hg)⟩
theorem kl_less (a b : ByteArray) : Op.bytesLess a.toList b.toList = kl a b := by rw [less_str]; rfl
set_option maxRecDepth 100000 in
set_option maxHeartbeats 8000000 in
theorem rsort_any (a : Option Addr) (c : Nat) (l : List TagP) (w : World) (h : TgIn w a l) (hn : l.length ≤ 4398046511103) :
    Calls Tryz.prog 77 #[.slice a l.length c] w fun e w' => SortedR w w' e l ∧ Below w.heap.size w w' := by
  have hA : Hid (TgIn w a l) := h
  clear h
  obtain ⟨n, hnl⟩ : ∃ n, l.length = n := ⟨_, rfl⟩
  have hN : Hid (l.length = n) := hnl
  rw [hnl] at hn ⊢
  clear hnl
  go_enter Tryz.func77, Tryz.ntmps77
  go_wp2_with fail
  go_loopw [3, 4] (fun vo vi wr => ∃ (i : Nat) (a3 : Option Addr) (z c3 : Nat), vo = .slice a3 z c3 ∧ vi = .int .i64 (i : Int) ∧ i ≤ n ∧ Hid (RSt w (.slice a3 z c3) (sortT (l.take i)) wr)) (fun _ vi _ => n - (intOf vi).toNat)
  case atStart => exact ⟨0, none, 0, 0, rfl, rfl, by omega, ⟨OT.nil _ _, Below.refl _ _⟩⟩
  case round =>
    obtain ⟨i, a3, z, c3, rfl, rfl, hin, hR⟩ := hrel
    have iw : IntKind.i64.wrap ((i : Int) + 1) = ((i + 1 : Nat) : Int) := IntWalk.i64_in _ (by omega)
    by_cases hi : i < n
    · have hiI : (i : Int) < (n : Int) := by omega
      have i0 : (0 : Int) ≤ (i : Int) := by omega
      obtain ⟨t, ht⟩ : ∃ t, l[i]? = some t := ⟨_, List.getElem?_eq_getElem (by have := hN.out; omega)⟩
      obtain ⟨b1, o1, rfl, hb1, _, _⟩ := hA.out.at (Below.refl _ _) ht
      have hcl : Hid (∀ W, Below w.heap.size w W → W.cell? ⟨b1, o1 + i * 2, none⟩ = some (.string t.1) ∧ W.cell? ⟨b1, o1 + i * 2 + 1, none⟩ = some (.string t.2)) := fun W hW => by
        obtain ⟨_, _, e, _, x1, x2⟩ := hA.out.at hW ht
        cases e
        exact ⟨x1, x2⟩
      have hnx : Hid (sortT (l.take (i + 1)) = insD kl t (sortT (l.take i))) := by
        obtain ⟨h1, rfl⟩ := List.getElem?_eq_some_iff.1 ht
        show _ = _
        rw [List.take_succ_eq_append_getElem h1, sortT, srtD_more]; rfl
      have hlen : (sortT (l.take i)).length ≤ i := Nat.le_trans (sortT_len _) (by simp; omega)
      generalize sortT (l.take i) = S at hR hnx hlen
      have hz : Hid (S.length = z) := hR.out.len
      have hzi : z ≤ i := by have := hz.out; omega
      clear hlen ht
      obtain ⟨tk, tv⟩ := t
      have hcl : Hid (∀ W, Below w.heap.size w W → W.cell? ⟨b1, o1 + i * 2, none⟩ = some (.string tk) ∧ W.cell? ⟨b1, o1 + i * 2 + 1, none⟩ = some (.string tv)) := hcl
      go_wp2_with fail
      go_loopw [5] (fun vk wx => ∃ k : Nat, vk = .int .i64 (k : Int) ∧ k ≤ z ∧ Hid (∀ j u, j < k → S[j]? = some u → kl u.1 tk = true) ∧ Hid (RSt w (.slice a3 z c3) S wx)) (fun vk _ => z - (intOf vk).toNat)
      case atStart => exact ⟨0, rfl, by omega, fun j u h => by omega, hR⟩
      case round =>
        clear hR
        obtain ⟨k, rfl, hkz, hlo, hR⟩ := hrel
        have kw : IntKind.i64.wrap ((k : Int) + 1) = ((k + 1 : Nat) : Int) := IntWalk.i64_in _ (by omega)
        have k0 : (0 : Int) ≤ (k : Int) := by omega
        by_cases hk : k < z
        · have hkI : (k : Int) < (z : Int) := by omega
          have hkd : decide ((k : Int) < (z : Int)) = true := decide_eq_true hkI
          have hkz1 : (k : Int) < (z : Int) + 1 := by omega
          obtain ⟨u, hu⟩ : ∃ u, S[k]? = some u := ⟨_, List.getElem?_eq_getElem (by have := hz.out; omega)⟩
          obtain ⟨g, rfl, hg, _, _, _, _⟩ := hR.out.at hu
          obtain ⟨uk, uv⟩ := u
          have huH : Hid (S[k]? = some (uk, uv)) := hu
          obtain ⟨c1, c2⟩ := hcl.out wr hR.out.2
          obtain ⟨_, e1, _, d1, d2, f1, f2⟩ := hR.out.at hu
          cases e1
          simp only at d1 d2
          clear hu
          cases hlt : kl uk tk with
          | true =>
            have hq : Op.bytesLess uk.toList tk.toList = true := by rw [kl_less]; exact hlt
            have nx : Hid (∀ j u, j < k + 1 → S[j]? = some u → kl u.1 tk = true) := fun j u h1 h2 => by
              by_cases c : j < k
              · exact hlo.out j u c h2
              · obtain rfl : j = k := by omega
                rw [huH.out] at h2
                cases h2; exact hlt
            clear hlt hlo huH
            go_wp2_with fail
            go_quiet (fail)
            go_wp2_with fail
            go_round
            case measure => simp only [intOf]; omega
            case rel => exact ⟨k + 1, by simp, by omega, nx, hR.out.drewN _⟩
          | false =>
            have hq : Op.bytesLess uk.toList tk.toList = false := by rw [kl_less]; exact hlt
            by_cases he : uk = tk
            · have hqe : (uk.toList == tk.toList) = true := by rw [he]; simp
              have hfin : Hid (insD kl (tk, tv) S = S.set k (uk, tv)) := ins_same (tk, tv) (uk, uv) S k (fun j v a b => hlo.out j v a b) huH.out he
              clear hlo he hlt
              go_wp2_with fail
              go_quiet (fail)
              generalize hwq : World.drewN wr _ = wq
              have R2 : RSt w (.slice (some ⟨g, 0, none⟩) z c3) S wq := hwq ▸ hR.out.drewN _
              clear hR c1 c2 d1 d2 f1 f2 hwq
              obtain ⟨c1, c2⟩ := hcl.out wq R2.2
              obtain ⟨_, e1, _, d1, d2, f1, f2⟩ := R2.at huH.out
              cases e1
              simp only at d1 d2
              have R2H : Hid (RSt w (.slice (some ⟨g, 0, none⟩) z c3) S wq) := R2
              clear R2
              go_wp2_with fail
              go_quiet (fail)
              generalize hwq : World.drewN wq _ = w3
              have R3 : RSt w (.slice (some ⟨g, 0, none⟩) z c3) S w3 := hwq ▸ R2H.out.drewN _
              clear R2H c1 c2 d1 d2 f1 f2 hwq
              obtain ⟨c1, c2⟩ := hcl.out w3 R3.2
              obtain ⟨_, e1, _, d1, d2, f1, f2⟩ := R3.at huH.out
              cases e1
              simp only at d1 d2
              have R4 : Hid (RSt w (.slice (some ⟨g, 0, none⟩) z c3) (sortT (l.take (i + 1))) (w3.setCell ⟨g, k * 2 + 1, none⟩ (.string tv))) := by
                show RSt _ _ _ _
                rw [hnx.out, hfin.out]; exact R3.setV hg huH.out
              clear R3 hfin hnx huH
              go_wp2_with fail
              exact ⟨⟨i + 1, some ⟨g, 0, none⟩, z, c3, rfl, by first | rfl | simp, by omega, R4⟩, by simp [intOf]; omega⟩
            · have hqe : (uk.toList == tk.toList) = false := by rw [ba_dec]; exact decide_eq_false he
              have hnew : Hid (∀ u, S[k]? = some u → kl u.1 (tk, tv).1 = false ∧ u.1 ≠ (tk, tv).1) := fun u h => by
                rw [huH.out] at h
                cases h; exact ⟨hlt, he⟩
              clear he hlt
              go_wp2_with fail
              go_quiet (fail)
              generalize hwq : World.drewN wr _ = wq
              have R2 : RSt w (.slice (some ⟨g, 0, none⟩) z c3) S wq := hwq ▸ hR.out.drewN _
              clear hR c1 c2 d1 d2 f1 f2 hwq
              obtain ⟨c1, c2⟩ := hcl.out wq R2.2
              obtain ⟨_, e1, _, d1, d2, f1, f2⟩ := R2.at huH.out
              cases e1
              simp only at d1 d2
              have R2H : Hid (RSt w (.slice (some ⟨g, 0, none⟩) z c3) S wq) := R2
              clear R2
              go_wp2_with fail
              go_quiet (fail)
              generalize hwq : World.drewN wq _ = w3
              have R2 : RSt w (.slice (some ⟨g, 0, none⟩) z c3) S w3 := hwq ▸ R2H.out.drewN _
              clear R2H c1 c2 d1 d2 f1 f2 hwq huH
              obtain ⟨v1, w1, hr1, ho1, hb1'⟩ := app1Tn w3 w.heap.size (.slice (some ⟨g, 0, none⟩) z c3) S R2.1 R2.2.size ⟨#[]⟩ ⟨#[]⟩ (by have := hz.out; omega)
              have ho1 : OT w1 w.heap.size v1 (Mv S z) := by rw [← hz.out, ← Mv_start]; exact ho1
              have hmz : (Mv S z).length = z + 1 := by have := hz.out; rw [Mv_len (by omega)]; omega
              have e3 : ∃ g4 c4, v1 = .slice (some ⟨g4, 0, none⟩) (z + 1) c4 := by
                rcases World.ownsRow.form ho1 (by omega) with ⟨g4, c4, e, _⟩
                exact ⟨g4, c4, by rw [e, hmz]⟩
              obtain ⟨g4, c4, rfl⟩ := e3
              have hrH : Hid (∀ W, W = w3.alloc (.cells #[.string ⟨#[]⟩, .string ⟨#[]⟩] 82) → (Builtin.append_ #[38, 38] 38 #[.slice (some ⟨g, 0, none⟩) z c3, .slice (some ⟨w3.heap.size, 0, none⟩) 1 1]).run Tryz.prog W = .ok (.slice (some ⟨g4, 0, none⟩) (z + 1) c4) w1) := fun W e => by subst e; exact hr1
              have R3 : Hid (RSt w (.slice (some ⟨g4, 0, none⟩) (z + 1) c4) (Mv S z) w1) := ⟨ho1, R2.2.trans hb1'⟩
              have hfin : Hid (insD kl (tk, tv) S = S.take k ++ (tk, tv) :: S.drop k) := ins_new (tk, tv) S k (fun j u h1 h2 => hlo.out j u h1 h2) (by have := hz.out; omega) hnew.out
              have zw : IntKind.i64.wrap ((z : Int) + 1 - 1) = (z : Int) := by rw [show (z : Int) + 1 - 1 = (z : Int) by omega]; exact IntWalk.i64_in _ (by omega)
              clear hr1 ho1 hb1' R2 hmz hlo hnew
              go_wp2_with (at_builtin; refine wpList_append_runS (by rfl) _ _ _ (by rfl) _ _ _ _ (by rfl) (by rfl) (hrH.out _ rfl) ?_)
              clear hrH
              go_loopw [6] (fun vj wx => ∃ j : Nat, vj = .int .i64 (j : Int) ∧ k ≤ j ∧ j ≤ z ∧ Hid (RSt w (.slice (some ⟨g4, 0, none⟩) (z + 1) c4) (Mv S j) wx)) (fun vj _ => (intOf vj).toNat)
              case atStart => exact ⟨z, by first | rfl | (congr 1; omega), hkz, Nat.le_refl _, R3⟩
              case round =>
                clear R3 zw
                obtain ⟨j, rfl, hkj, hjz, hR⟩ := hrel
                have jz1 : (j : Int) < (z : Int) + 1 := by omega
                have j0 : (0 : Int) ≤ (j : Int) := by omega
                by_cases hj : k < j
                · have hjI : (k : Int) < (j : Int) := by omega
                  have jw : IntKind.i64.wrap ((j : Int) - 1) = (j : Int) - 1 := IntWalk.i64_in _ (by omega)
                  have j1 : (0 : Int) ≤ (j : Int) - 1 := by omega
                  have j2 : (j : Int) - 1 < (z : Int) + 1 := by omega
                  have j3 : (1 : Int) ≤ (j : Int) := by omega
                  obtain ⟨x, hx⟩ : ∃ x, S[j - 1]? = some x := ⟨_, List.getElem?_eq_getElem (by have := hz.out; omega)⟩
                  obtain ⟨_, e1, hg4, d1, d2, _, _⟩ := hR.out.at (Mv_get (by omega) hx)
                  cases e1
                  obtain ⟨y, hy⟩ : ∃ y, (Mv S j)[j]? = some y := ⟨_, List.getElem?_eq_getElem (by rw [Mv_len (by have := hz.out; omega)]; have := hz.out; omega)⟩
                  obtain ⟨_, e1, _, d3, d4, f3, f4⟩ := hR.out.at hy
                  cases e1
                  have R4 : Hid (RSt w (.slice (some ⟨g4, 0, none⟩) (z + 1) c4) (Mv S (j - 1)) ((wr.setCell ⟨g4, j * 2, none⟩ (.string x.1)).setCell ⟨g4, j * 2 + 1, none⟩ (.string x.2))) := by
                    have := hR.out.set hg4 (k := j) (x := x.1) (y := x.2) (by rw [Mv_len (by have := hz.out; omega)]; have := hz.out; omega)
                    rw [Mv_step (by omega) (by have := hz.out; omega) hx] at this
                    exact this
                  obtain ⟨xk, xv⟩ := x
                  obtain ⟨yk, yv⟩ := y
                  simp only at d1 d2 d3 d4 R4
                  clear hR hx hy
                  go_wp2_with fail
                  first | (exfalso; omega) | exact ⟨⟨j - 1, by congr 1; omega, by omega, by omega, R4⟩, by simp [intOf]; omega⟩
                · have hjI : ¬ (k : Int) < (j : Int) := by omega
                  obtain rfl : j = k := by omega
                  obtain ⟨x1, x2⟩ := hcl.out wr hR.out.2
                  obtain ⟨y, hy⟩ : ∃ y, (Mv S j)[j]? = some y := ⟨_, List.getElem?_eq_getElem (by rw [Mv_len (by have := hz.out; omega)]; have := hz.out; omega)⟩
                  obtain ⟨_, e1, hg4, d3, d4, f3, f4⟩ := hR.out.at hy
                  cases e1
                  have R4 : Hid (RSt w (.slice (some ⟨g4, 0, none⟩) (z + 1) c4) (sortT (l.take (i + 1))) ((wr.setCell ⟨g4, j * 2, none⟩ (.string tk)).setCell ⟨g4, j * 2 + 1, none⟩ (.string tv))) := by
                    have := hR.out.set hg4 (k := j) (x := tk) (y := tv) (by rw [Mv_len (by have := hz.out; omega)]; have := hz.out; omega)
                    rw [Mv_end (by have := hz.out; omega)] at this
                    rw [hnx.out, hfin.out]; exact this
                  obtain ⟨yk, yv⟩ := y
                  simp only at d3 d4
                  clear hR hy hfin
                  go_wp2_with fail
                  exact ⟨⟨i + 1, some ⟨g4, 0, none⟩, z + 1, c4, rfl, by first | rfl | simp, by omega, R4⟩, by simp [intOf]; omega⟩
        · have hkI : ¬ (k : Int) < (z : Int) := by omega
          have hkd : decide ((k : Int) < (z : Int)) = false := decide_eq_false hkI
          have hkz1 : (k : Int) < (z : Int) + 1 := by omega
          have hnew : Hid (∀ u, S[k]? = some u → kl u.1 (tk, tv).1 = false ∧ u.1 ≠ (tk, tv).1) := fun u h => by
            have := (List.getElem?_eq_some_iff.1 h).1
            have := hz.out
            omega
          go_wp2_with fail
          go_quiet (fail)
          generalize hwq : World.drewN wr _ = wq
          have R2 : RSt w (.slice a3 z c3) S wq := hwq ▸ hR.out.drewN _
          clear hR hwq
          have R2H : Hid (RSt w (.slice a3 z c3) S wq) := R2
          clear R2
          go_wp2_with fail
          go_quiet (fail)
          generalize hwq : World.drewN wq _ = w3
          have R2 : RSt w (.slice a3 z c3) S w3 := hwq ▸ R2H.out.drewN _
          clear R2H hwq
          obtain ⟨v1, w1, hr1, ho1, hb1'⟩ := app1Tn w3 w.heap.size (.slice a3 z c3) S R2.1 R2.2.size ⟨#[]⟩ ⟨#[]⟩ (by have := hz.out; omega)
          have ho1 : OT w1 w.heap.size v1 (Mv S z) := by rw [← hz.out, ← Mv_start]; exact ho1
          have hmz : (Mv S z).length = z + 1 := by have := hz.out; rw [Mv_len (by omega)]; omega
          have e3 : ∃ g4 c4, v1 = .slice (some ⟨g4, 0, none⟩) (z + 1) c4 := by
            rcases World.ownsRow.form ho1 (by omega) with ⟨g4, c4, e, _⟩
            exact ⟨g4, c4, by rw [e, hmz]⟩
          obtain ⟨g4, c4, rfl⟩ := e3
          have hrH : Hid (∀ W, W = w3.alloc (.cells #[.string ⟨#[]⟩, .string ⟨#[]⟩] 82) → (Builtin.append_ #[38, 38] 38 #[.slice a3 z c3, .slice (some ⟨w3.heap.size, 0, none⟩) 1 1]).run Tryz.prog W = .ok (.slice (some ⟨g4, 0, none⟩) (z + 1) c4) w1) := fun W e => by subst e; exact hr1
          have R3 : Hid (RSt w (.slice (some ⟨g4, 0, none⟩) (z + 1) c4) (Mv S z) w1) := ⟨ho1, R2.2.trans hb1'⟩
          have hfin : Hid (insD kl (tk, tv) S = S.take k ++ (tk, tv) :: S.drop k) := ins_new (tk, tv) S k (fun j u h1 h2 => hlo.out j u h1 h2) (by have := hz.out; omega) hnew.out
          have zw : IntKind.i64.wrap ((z : Int) + 1 - 1) = (z : Int) := by rw [show (z : Int) + 1 - 1 = (z : Int) by omega]; exact IntWalk.i64_in _ (by omega)
          clear hr1 ho1 hb1' R2 hmz hlo hnew
          go_wp2_with (at_builtin; refine wpList_append_runS (by rfl) _ _ _ (by rfl) _ _ _ _ (by rfl) (by rfl) (hrH.out _ rfl) ?_)
          clear hrH
          go_loopw [6] (fun vj wx => ∃ j : Nat, vj = .int .i64 (j : Int) ∧ k ≤ j ∧ j ≤ z ∧ Hid (RSt w (.slice (some ⟨g4, 0, none⟩) (z + 1) c4) (Mv S j) wx)) (fun vj _ => (intOf vj).toNat)
          case atStart => exact ⟨z, by first | rfl | (congr 1; omega), hkz, Nat.le_refl _, R3⟩
          case round =>
            clear R3 zw
            obtain ⟨j, rfl, hkj, hjz, hR⟩ := hrel
            have jz1 : (j : Int) < (z : Int) + 1 := by omega
            have j0 : (0 : Int) ≤ (j : Int) := by omega
            by_cases hj : k < j
            · have hjI : (k : Int) < (j : Int) := by omega
              have jw : IntKind.i64.wrap ((j : Int) - 1) = (j : Int) - 1 := IntWalk.i64_in _ (by omega)
              have j1 : (0 : Int) ≤ (j : Int) - 1 := by omega
              have j2 : (j : Int) - 1 < (z : Int) + 1 := by omega
              have j3 : (1 : Int) ≤ (j : Int) := by omega
              obtain ⟨x, hx⟩ : ∃ x, S[j - 1]? = some x := ⟨_, List.getElem?_eq_getElem (by have := hz.out; omega)⟩
              obtain ⟨_, e1, hg4, d1, d2, _, _⟩ := hR.out.at (Mv_get (by omega) hx)
              cases e1
              obtain ⟨y, hy⟩ : ∃ y, (Mv S j)[j]? = some y := ⟨_, List.getElem?_eq_getElem (by rw [Mv_len (by have := hz.out; omega)]; have := hz.out; omega)⟩
              obtain ⟨_, e1, _, d3, d4, f3, f4⟩ := hR.out.at hy
              cases e1
              have R4 : Hid (RSt w (.slice (some ⟨g4, 0, none⟩) (z + 1) c4) (Mv S (j - 1)) ((wr.setCell ⟨g4, j * 2, none⟩ (.string x.1)).setCell ⟨g4, j * 2 + 1, none⟩ (.string x.2))) := by
                have := hR.out.set hg4 (k := j) (x := x.1) (y := x.2) (by rw [Mv_len (by have := hz.out; omega)]; have := hz.out; omega)
                rw [Mv_step (by omega) (by have := hz.out; omega) hx] at this
                exact this
              obtain ⟨xk, xv⟩ := x
              obtain ⟨yk, yv⟩ := y
              simp only at d1 d2 d3 d4 R4
              clear hR hx hy
              go_wp2_with fail
              first | (exfalso; omega) | exact ⟨⟨j - 1, by congr 1; omega, by omega, by omega, R4⟩, by simp [intOf]; omega⟩
            · have hjI : ¬ (k : Int) < (j : Int) := by omega
              obtain rfl : j = k := by omega
              obtain ⟨x1, x2⟩ := hcl.out wr hR.out.2
              obtain ⟨y, hy⟩ : ∃ y, (Mv S j)[j]? = some y := ⟨_, List.getElem?_eq_getElem (by rw [Mv_len (by have := hz.out; omega)]; have := hz.out; omega)⟩
              obtain ⟨_, e1, hg4, d3, d4, f3, f4⟩ := hR.out.at hy
              cases e1
              have R4 : Hid (RSt w (.slice (some ⟨g4, 0, none⟩) (z + 1) c4) (sortT (l.take (i + 1))) ((wr.setCell ⟨g4, j * 2, none⟩ (.string tk)).setCell ⟨g4, j * 2 + 1, none⟩ (.string tv))) := by
                have := hR.out.set hg4 (k := j) (x := tk) (y := tv) (by rw [Mv_len (by have := hz.out; omega)]; have := hz.out; omega)
                rw [Mv_end (by have := hz.out; omega)] at this
                rw [hnx.out, hfin.out]; exact this
              obtain ⟨yk, yv⟩ := y
              simp only at d3 d4
              clear hR hy hfin
              go_wp2_with fail
              exact ⟨⟨i + 1, some ⟨g4, 0, none⟩, z + 1, c4, rfl, by first | rfl | simp, by omega, R4⟩, by simp [intOf]; omega⟩
    · have hiI : ¬ (i : Int) < (n : Int) := by omega
      obtain rfl : i = n := by omega
      have fin : Hid (SortedR w wr (.returned (.slice a3 z c3)) l ∧ Below w.heap.size w wr) := by
        have := hR.out
        rw [← hN.out, List.take_length] at this
        exact ⟨this.sorted, this.2⟩
      clear hR
      go_wp2_with fail
      go_ret
      exact fin.out
end Go.Proofs.YtepakgfdakeibaaGreatDoor

namespace Go.Proofs.YtepakgfdakeibaaGreatDoor
open Go.RowKit _root_.Go.Proofs.YtepakgfdakeibaaGreatDoor.So
set_option linter.unusedVariables false
set_option linter.unusedSimpArgs false
theorem fieldBad0 (n : Int) (w : World) : (Instr.field 36 (bdV n) 0).run Tryz.prog w = .ok (.int .i64 n) w := by kernel_rfl
set_option maxRecDepth 100000 in
/-- the document's: are a point's tags right? -/
theorem rptags_any (a : Option Addr) (c : Nat) (l : List TagP) (w : World) (ha : TgIn w a l) (hl : l.length ≤ 4398046511103) :
    Calls Tryz.prog 54 #[.slice a l.length c] w fun e w' => e = .returned (.bool (ptagsB l)) ∧ Below w.heap.size w w' := by
  have C1 : Hid (∀ W, Below w.heap.size w W → Calls Tryz.prog 77 #[.slice a l.length c] W fun e w' => ∃ a' c', e = .returned (.slice a' (sortT l).length c') ∧ Below W.heap.size W w' ∧ Calls Tryz.prog 76 #[.slice a' (sortT l).length c'] w' fun e w2 => e = .returned (bdV (if tagsB (sortT l) then 0 else 52)) ∧ Below w'.heap.size w' w2) := fun W hW => (rsort_any a c l W (ha.below hW) hl).mono fun e w' h => by
    obtain ⟨a', c', e1, t1⟩ := sortedR_tin h.1
    exact ⟨a', c', e1, h.2, rtags_any a' (sortT l) c' w' (by have := sortT_short l; omega) t1⟩
  have hR : Hid (ptagsB l = (decide ((sortT l).length = l.length) && tagsB (sortT l))) := rfl
  clear ha
  generalize ptagsB l = R at hR ⊢
  generalize tagsB (sortT l) = q at C1 hR
  generalize (sortT l).length = m at C1 hR
  generalize l.length = n at *
  have fb := fieldBad0
  unfold bdV at fb C1
  have C1a : Hid _ := C1.out w (Below.refl _ _)
  go_enter Tryz.func54, Tryz.ntmps54
  go_wp2_with fail
  refine Calls.mono C1a.out ?_
  rintro e w1 ⟨a', c', rfl, b1, k1⟩
  have C2 : Hid _ := k1
  have b1H : Hid (Below w.heap.size w w1) := b1
  clear k1 b1 C1a
  go_wp2_with fail
  refine Calls.mono C2.out ?_
  rintro e w2 ⟨rfl, b2⟩
  have b2H : Hid (Below w.heap.size w w2) := b1H.out.trans (b2.mono b1H.out.size)
  have C3 : Hid _ := C1.out w2 b2H.out
  clear b2 C2 b1H C1
  cases q with
  | true =>
    rw [if_pos rfl]
    go_wp2_with fail
    refine Calls.mono C3.out ?_
    rintro e w3 ⟨a3, c3, rfl, b3, _⟩
    have b3H : Hid (Below w.heap.size w w3) := b2H.out.trans (b3.mono b2H.out.size)
    clear b3 C3 b2H
    by_cases h : m = n
    · have hb : ((m : Int) == (n : Int)) = true := by simp; omega
      have hR2 : Hid (R = true) := by have := hR.out; rw [decide_eq_true h] at this; exact this
      clear h hR
      go_wp2_with fail
      go_ret
      exact ⟨by rw [hR2.out]; rfl, b3H.out⟩
    · have hb : ((m : Int) == (n : Int)) = false := by simp; omega
      have hR2 : Hid (R = false) := by have := hR.out; rw [decide_eq_false h] at this; exact this
      clear h hR
      go_wp2_with fail
      go_ret
      exact ⟨by rw [hR2.out]; rfl, b3H.out⟩
  | false =>
    rw [if_neg (by simp)]
    have hR2 : Hid (R = false) := by have := hR.out; rw [Bool.and_false] at this; exact this
    go_wp2_with fail
    go_ret
    exact ⟨by rw [hR2.out]; rfl, b2H.out⟩
theorem keyIn_take {l : List FdP} {k : Nat} {t : FdP} (ht : l[k]? = some t) (s : ByteArray) : keyIn s (l.take (k + 1)) = (keyIn s (l.take k) || decide (t.1 = s)) := by
  obtain ⟨h1, rfl⟩ := List.getElem?_eq_some_iff.1 ht
  unfold keyIn
  rw [List.take_succ_eq_append_getElem h1, List.any_append]
  simp
theorem keyIn_more {l : List FdP} {k m : Nat} {s : ByteArray} (h : keyIn s (l.take k) = true) (hm : k ≤ m) : keyIn s (l.take m) = true := by
  unfold keyIn at *
  rw [List.any_eq_true] at h ⊢
  obtain ⟨x, hx, he⟩ := h
  refine ⟨x, ?_, he⟩
  rw [show l.take k = (l.take m).take k by rw [List.take_take, Nat.min_eq_left hm]] at hx
  exact List.mem_of_mem_take hx
set_option maxRecDepth 100000 in
set_option maxHeartbeats 4000000 in
theorem rpfields_any (a : Option Addr) (l : List FdP) (c : Nat) (w : World) (hl : l.length ≤ 4611686018427387904) (ha : FdIn w a l) :
    Calls Tryz.prog 55 #[.slice a l.length c] w fun e w' => e = .returned (.bool (fieldsB l)) ∧ Below w.heap.size w w' := by
  have hA : Hid (FdIn w a l) := ha
  have hBr : Hid (fieldsB l = (decide (1 ≤ l.length) && decide (l.length ≤ 16) && fOk l l.length)) := rfl
  clear ha
  generalize fieldsB l = R at hBr ⊢
  obtain ⟨n, hn⟩ : ∃ n, l.length = n := ⟨_, rfl⟩
  have hN : Hid (l.length = n) := hn
  rw [hn] at hl hBr ⊢
  clear hn
  by_cases h0 : n < 1
  · have hz : (n : Int) < 1 := by omega
    have hR : Hid (R = false) := by
      have := hBr.out
      rw [show decide (1 ≤ n) = false from decide_eq_false (by omega)] at this
      exact this
    clear h0 hBr
    go_enter Tryz.func55, Tryz.ntmps55
    go_wp2_with fail
    go_ret
    exact ⟨by rw [hR.out]; rfl, Below.refl _ _⟩
  · have hz : ¬ (n : Int) < 1 := by omega
    by_cases h16 : 16 < n
    · have hz16 : (n : Int) > 16 := by omega
      have hz17 : (16 : Int) < (n : Int) := by omega
      have hR : Hid (R = false) := by
        have := hBr.out
        rw [show decide (n ≤ 16) = false from decide_eq_false (by omega)] at this
        show R = false
        simpa using this
      clear h0 hBr
      go_enter Tryz.func55, Tryz.ntmps55
      go_wp2_with fail
      go_ret
      exact ⟨by rw [hR.out]; rfl, Below.refl _ _⟩
    · have hz16 : ¬ (n : Int) > 16 := by omega
      have hz17 : ¬ (16 : Int) < (n : Int) := by omega
      have hR : Hid (R = fOk l n) := by
        have := hBr.out
        rw [show decide (n ≤ 16) = true from decide_eq_true (by omega), show decide (1 ≤ n) = true from decide_eq_true (by omega)] at this
        show R = fOk l n
        simpa using this
      clear h0 hBr
      go_enter Tryz.func55, Tryz.ntmps55
      go_wp2_with fail
      go_loopw [3] (fun i wr => ∃ k : Nat, i = .int .i64 (k : Int) ∧ k ≤ n ∧ Hid (fOk l k = true) ∧ Below w.heap.size w wr) (fun i _ => n - (intOf i).toNat)
      case atStart => exact ⟨0, rfl, by omega, rfl, Below.refl _ _⟩
      case round =>
        obtain ⟨k, rfl, hkn, hI, hB⟩ := hrel
        have kw : IntKind.i64.wrap ((k : Int) + 1) = ((k + 1 : Nat) : Int) := IntWalk.i64_in _ (by omega)
        by_cases hk : k < n
        · have hkI : (k : Int) < (n : Int) := by omega
          have k0 : (0 : Int) ≤ (k : Int) := by omega
          obtain ⟨t, ht⟩ : ∃ t, l[k]? = some t := ⟨_, List.getElem?_eq_getElem (by have := hN.out; omega)⟩
          obtain ⟨b1, o1, rfl, hb1, t1, t2⟩ := hA.out.at hB ht
          have hst : fOk l (k + 1) = (fOk l k && !(keyIn t.1 (l.take k)) && columnB t.1) := by
            conv => lhs; unfold fOk
            rw [List.getD_eq_getElem?_getD, ht]; rfl
          rw [hI.out] at hst
          obtain ⟨tk, tn⟩ := t
          simp only at t1 t2 hst
          have C2 : Hid (∀ W, Calls Tryz.prog 78 #[.string tk] W fun e w' => e = .returned (.bool (columnB tk)) ∧ w' = W) := fun W => rword_is tk W
          have hstH : Hid (fOk l (k + 1) = (true && !(keyIn tk (l.take k)) && columnB tk)) := hst
          have hBH : Hid (Below w.heap.size w wr) := hB
          have htk : Hid (∀ W, Below w.heap.size w W → W.cell? ⟨b1, o1 + k * 2, none⟩ = some (.string tk)) := fun W hW => by
            obtain ⟨_, _, e, _, x1, _⟩ := hA.out.at hW ht
            cases e; exact x1
          generalize columnB tk = q2 at C2 hstH
          clear hst ht hB
          go_wp2_with fail
          refine Calls.mono (C2.out _) ?_
          rintro e w1 ⟨rfl, hw⟩
          subst hw
          cases q2 with
          | false =>
            have hF : Hid (R = false) := by rw [hR.out]; exact fOk_false (k := k + 1) (by rw [hstH.out, Bool.and_false]) (by omega)
            clear hstH
            go_wp2_with fail
            go_ret
            exact ⟨by rw [hF.out]; rfl, hBH.out⟩
          | true =>
            clear t1 t2
            go_wp2_with fail
            go_loopw [4] (fun i wx => ∃ j : Nat, i = .int .i64 (j : Int) ∧ j ≤ k ∧ Hid (keyIn tk (l.take j) = false) ∧ Below w.heap.size w wx) (fun i _ => k - (intOf i).toNat)
            case atStart => exact ⟨0, rfl, by omega, rfl, hBH.out⟩
            case round =>
              clear hBH
              obtain ⟨j, rfl, hjk, hJ, hB⟩ := hrel
              have jw : IntKind.i64.wrap ((j : Int) + 1) = ((j + 1 : Nat) : Int) := IntWalk.i64_in _ (by omega)
              by_cases hj : j < k
              · have hjI : (j : Int) < (k : Int) := by omega
                have j0 : (0 : Int) ≤ (j : Int) := by omega
                have jn : (j : Int) < (n : Int) := by omega
                obtain ⟨u, hu⟩ : ∃ u, l[j]? = some u := ⟨_, List.getElem?_eq_getElem (by have := hN.out; omega)⟩
                obtain ⟨_, _, e1, _, u1, u2⟩ := hA.out.at hB hu
                cases e1
                have t1 := htk.out wr hB
                have hst2 := keyIn_take hu tk
                rw [hJ.out] at hst2
                obtain ⟨uk, un⟩ := u
                simp only at u1 u2 hst2
                have hBH : Hid (Below w.heap.size w wr) := hB
                clear hB hu
                by_cases he : uk = tk
                · have hq : (uk.toList == tk.toList) = true := by rw [he]; simp
                  have hF : Hid (R = false) := by
                    rw [hR.out]
                    refine fOk_false (k := k + 1) ?_ (by omega)
                    rw [decide_eq_true he] at hst2
                    rw [hstH.out, keyIn_more (k := j + 1) hst2 (by omega)]; rfl
                  clear he hst2
                  go_wp2_with fail
                  go_quiet (fail)
                  go_wp2_with fail
                  go_ret
                  exact ⟨by rw [hF.out]; rfl, bdrewN hBH.out _⟩
                · have hq : (uk.toList == tk.toList) = false := by rw [ba_dec]; exact decide_eq_false he
                  have nx : Hid (keyIn tk (l.take (j + 1)) = false) := by rw [decide_eq_false he] at hst2; exact hst2
                  clear he hst2
                  go_wp2_with fail
                  go_quiet (fail)
                  go_wp2_with fail
                  go_round
                  case measure => simp only [intOf]; omega
                  case rel => exact ⟨j + 1, by simp, by omega, nx, bdrewN hBH.out _⟩
              · have hjI : ¬ (j : Int) < (k : Int) := by omega
                obtain rfl : j = k := by omega
                have nx : Hid (fOk l (j + 1) = true) := by rw [hstH.out, hJ.out]; rfl
                have hBH : Hid (Below w.heap.size w wr) := hB
                clear hB hJ hstH
                go_wp2_with fail
                go_round
                case measure => simp only [intOf]; omega
                case rel => exact ⟨j + 1, by simp, by omega, nx, hBH.out⟩
        · have hkI : ¬ (k : Int) < (n : Int) := by omega
          obtain rfl : k = n := by omega
          have hF : Hid (R = true) := by rw [hR.out]; exact hI.out
          go_wp2_with fail
          go_ret
          exact ⟨by rw [hF.out]; rfl, hB⟩
end Go.Proofs.YtepakgfdakeibaaGreatDoor

namespace Go.Proofs.YtepakgfdakeibaaGreatDoor
open Go.RowKit _root_.Go.Proofs.YtepakgfdakeibaaGreatDoor.So
set_option linter.unusedVariables false
set_option linter.unusedSimpArgs false
set_option maxRecDepth 100000 in
set_option maxHeartbeats 8000000 in
theorem rpright_any (a b : Option Addr) (c1 c2 : Nat) (p : PtP) (w : World) (hp : PtIn w a b c2 p) (hpt : p.t.length ≤ 4398046511103) :
    Calls Tryz.prog 29 #[.agg #[.string p.m, .slice a p.t.length c1, .slice b p.f.length c2, .int .i64 p.tm]] w fun e w' => e = .returned (bdV (pointN p)) ∧ Below w.heap.size w w' := by
  obtain ⟨pm, pt, pf, ptm⟩ := p
  obtain ⟨h1, h2, h3, h4, h5⟩ := hp
  simp only at h1 h2 h3 h4 h5 hpt ⊢
  have hN : Hid (pointN ⟨pm, pt, pf, ptm⟩ = if cleanB pm 64 then (if ptagsB pt then (if fieldsB pf then (if ptm < -4611686018427387904 ∨ ptm > 4611686018427387904 then 2 else 0) else 70) else 52) else 50) := rfl
  have cN : Hid (∀ W, Below w.heap.size w W → Calls Tryz.prog 53 #[.string pm] W fun e w' => e = .returned (.bool (cleanB pm 64)) ∧ Below W.heap.size W w') := fun W hW => (rname_is pm W).mono fun e w' h => ⟨h.1, by rw [h.2]; exact Below.refl _ _⟩
  have cT : Hid (∀ W, Below w.heap.size w W → Calls Tryz.prog 54 #[.slice a pt.length c1] W fun e w' => e = .returned (.bool (ptagsB pt)) ∧ Below W.heap.size W w') := fun W hW => rptags_any a c1 pt W (h1.below hW) hpt
  have cF : Hid (∀ W, Below w.heap.size w W → Calls Tryz.prog 55 #[.slice b pf.length c2] W fun e w' => e = .returned (.bool (fieldsB pf)) ∧ Below W.heap.size W w') := fun W hW => rpfields_any b pf c2 W (by omega) (h3.below hW)
  generalize pointN ⟨pm, pt, pf, ptm⟩ = R at hN ⊢
  generalize cleanB pm 64 = q1 at hN cN
  generalize ptagsB pt = q2 at hN cT
  generalize fieldsB pf = q3 at hN cF
  generalize pt.length = nt at *
  generalize pf.length = nf at *
  clear h1 h2 h3 h4 h5 hpt
  obtain ⟨w0, hw0⟩ : ∃ w0, w0 = (w.alloc (.cells #[.string pm, .slice a nt c1, .slice b nf c2, .int .i64 ptm] 41)).alloc (.cells #[.int .i64 0, .int .i64 0, .int .i64 0, .bool false, .bool false] 36) := ⟨_, rfl⟩
  obtain ⟨K, hK⟩ : ∃ K, K = w.heap.size := ⟨_, rfl⟩
  obtain ⟨N, hNN⟩ : ∃ N, N = w.heap.size + 1 := ⟨_, rfl⟩
  have bA : Below w.heap.size w w0 := by rw [hw0]; exact ((Below.refl _ w).alloc (Nat.le_refl _) _).alloc (by simp) _
  have kl0 : K < w0.heap.size := by rw [hw0, hK]; simp; omega
  have z0 : w0.cell? ⟨K, 0, none⟩ = some (.string pm) ∧ w0.cell? ⟨K, 1, none⟩ = some (.slice a nt c1) ∧ w0.cell? ⟨K, 2, none⟩ = some (.slice b nf c2) ∧ w0.cell? ⟨K, 3, none⟩ = some (.int .i64 ptm) := by rw [hw0, hK]; simp [go_sem]
  have nb0 : BdAt w0 N := by
    have := BdAt.new (w.alloc (.cells #[.string pm, .slice a nt c1, .slice b nf c2, .int .i64 ptm] 41))
    unfold bdO at this
    rw [hw0, hNN]
    simpa using this
  have hKN : Hid (w.heap.size ≤ N) := by rw [hNN]; show w.heap.size ≤ w.heap.size + 1; omega
  have kp : Hid (∀ W, Below w0.heap.size w0 W → Below w.heap.size w W ∧ W.cell? ⟨K, 0, none⟩ = some (.string pm) ∧ W.cell? ⟨K, 1, none⟩ = some (.slice a nt c1) ∧ W.cell? ⟨K, 2, none⟩ = some (.slice b nf c2) ∧ W.cell? ⟨K, 3, none⟩ = some (.int .i64 ptm) ∧ BdAt W N) := fun W hW => ⟨bA.trans (hW.mono bA.size), by rw [hW.cell (p := ⟨K, 0, none⟩) kl0]; exact z0.1, by rw [hW.cell (p := ⟨K, 1, none⟩) kl0]; exact z0.2.1, by rw [hW.cell (p := ⟨K, 2, none⟩) kl0]; exact z0.2.2.1, by rw [hW.cell (p := ⟨K, 3, none⟩) kl0]; exact z0.2.2.2, nb0.below hW⟩
  have C1 : Hid _ := cN.out w0 (kp.out w0 (Below.refl _ _)).1
  obtain ⟨x0, _, _, _⟩ := z0
  clear bA kl0 nb0
  go_enter Tryz.func29, Tryz.ntmps29
  go_wp2_with fail
  rw [← hw0, ← hNN, ← hK]
  clear hw0 hK hNN
  refine Calls.mono C1.out ?_
  rintro e w1 ⟨rfl, b1⟩
  have b1H : Hid (Below w0.heap.size w0 w1) := b1
  obtain ⟨bw1, _, x1, x2, x3, bd1⟩ := kp.out w1 b1H.out
  have bwH : Hid (Below w.heap.size w w1) := bw1
  have bdH : Hid (BdAt w1 N) := bd1
  clear b1 bw1 bd1
  have C2 : Hid _ := cT.out w1 bwH.out
  clear C1 cN x0
  cases q1 with
  | false =>
    have hR : Hid (R = 50) := hN.out
    go_wp2_with fail
    refine Calls.mono (rnew_any 50 _) ?_
    rintro e w9 ⟨rfl, b9⟩
    have PB : Below w.heap.size w w9 := bwH.out.trans (b9.mono bwH.out.size)
    have NB : BdAt w9 N := bdH.out.below b9
    clear b9
    unfold bdV
    obtain ⟨_, g1, g2, g3, g4, g5, g0⟩ := NB
    have f1 := g0 0
    have f2 := g0 1
    have f3 := g0 2
    have f4 := g0 3
    have f5 := g0 4
    clear g0
    go_wp2_with fail
    simp [bodyPost, results, Tryz.results29, go_sem, g1, g2, g3, g4, g5]
    exact ⟨by rw [hR.out]; rfl, setBad PB hKN.out⟩
  | true =>
    go_wp2_with fail
    refine Calls.mono C2.out ?_
    rintro e w2 ⟨rfl, b2⟩
    have b2H : Hid (Below w0.heap.size w0 w2) := b1H.out.trans (b2.mono b1H.out.size)
    clear x1 x2 x3 bwH bdH
    obtain ⟨bw2, _, x1, x2, x3, bd1⟩ := kp.out w2 b2H.out
    have bwH : Hid (Below w.heap.size w w2) := bw2
    have bdH : Hid (BdAt w2 N) := bd1
    clear b2 bw2 bd1
    have C3 : Hid _ := cF.out w2 bwH.out
    clear C2 cT
    cases q2 with
    | false =>
      have hR : Hid (R = 52) := hN.out
      go_wp2_with fail
      refine Calls.mono (rnew_any 52 _) ?_
      rintro e w9 ⟨rfl, b9⟩
      have PB : Below w.heap.size w w9 := bwH.out.trans (b9.mono bwH.out.size)
      have NB : BdAt w9 N := bdH.out.below b9
      clear b9
      unfold bdV
      obtain ⟨_, g1, g2, g3, g4, g5, g0⟩ := NB
      have f1 := g0 0
      have f2 := g0 1
      have f3 := g0 2
      have f4 := g0 3
      have f5 := g0 4
      clear g0
      go_wp2_with fail
      simp [bodyPost, results, Tryz.results29, go_sem, g1, g2, g3, g4, g5]
      exact ⟨by rw [hR.out]; rfl, setBad PB hKN.out⟩
    | true =>
      go_wp2_with fail
      refine Calls.mono C3.out ?_
      rintro e w3 ⟨rfl, b3⟩
      have b3H : Hid (Below w0.heap.size w0 w3) := b2H.out.trans (b3.mono b2H.out.size)
      clear x1 x2 x3 bwH bdH
      obtain ⟨bw3, _, x1, x2, x3, bd1⟩ := kp.out w3 b3H.out
      have bwH : Hid (Below w.heap.size w w3) := bw3
      have bdH : Hid (BdAt w3 N) := bd1
      clear b3 bw3 bd1
      clear C3 cF
      cases q3 with
      | false =>
        have hR : Hid (R = 70) := hN.out
        go_wp2_with fail
        refine Calls.mono (rnew_any 70 _) ?_
        rintro e w9 ⟨rfl, b9⟩
        have PB : Below w.heap.size w w9 := bwH.out.trans (b9.mono bwH.out.size)
        have NB : BdAt w9 N := bdH.out.below b9
        clear b9
        unfold bdV
        obtain ⟨_, g1, g2, g3, g4, g5, g0⟩ := NB
        have f1 := g0 0
        have f2 := g0 1
        have f3 := g0 2
        have f4 := g0 3
        have f5 := g0 4
        clear g0
        go_wp2_with fail
        simp [bodyPost, results, Tryz.results29, go_sem, g1, g2, g3, g4, g5]
        exact ⟨by rw [hR.out]; rfl, setBad PB hKN.out⟩
      | true =>
        by_cases t1 : ptm < -4611686018427387904
        · have hR : Hid (R = 2) := by have := hN.out; simp only [if_true] at this; rw [if_pos (Or.inl t1)] at this; exact this
          go_wp2_with fail
          refine Calls.mono (rnew_any 2 _) ?_
          rintro e w9 ⟨rfl, b9⟩
          have PB : Below w.heap.size w w9 := bwH.out.trans (b9.mono bwH.out.size)
          have NB : BdAt w9 N := bdH.out.below b9
          clear b9
          unfold bdV
          obtain ⟨_, g1, g2, g3, g4, g5, g0⟩ := NB
          have f1 := g0 0
          have f2 := g0 1
          have f3 := g0 2
          have f4 := g0 3
          have f5 := g0 4
          clear g0
          go_wp2_with fail
          simp [bodyPost, results, Tryz.results29, go_sem, g1, g2, g3, g4, g5]
          exact ⟨by rw [hR.out]; rfl, setBad PB hKN.out⟩
        · by_cases t2 : ptm > 4611686018427387904
          · have t3 : (4611686018427387904 : Int) < ptm := t2
            have hR : Hid (R = 2) := by have := hN.out; simp only [if_true] at this; rw [if_pos (Or.inr t2)] at this; exact this
            go_wp2_with fail
            refine Calls.mono (rnew_any 2 _) ?_
            rintro e w9 ⟨rfl, b9⟩
            have PB : Below w.heap.size w w9 := bwH.out.trans (b9.mono bwH.out.size)
            have NB : BdAt w9 N := bdH.out.below b9
            clear b9
            unfold bdV
            obtain ⟨_, g1, g2, g3, g4, g5, g0⟩ := NB
            have f1 := g0 0
            have f2 := g0 1
            have f3 := g0 2
            have f4 := g0 3
            have f5 := g0 4
            clear g0
            go_wp2_with fail
            simp [bodyPost, results, Tryz.results29, go_sem, g1, g2, g3, g4, g5]
            exact ⟨by rw [hR.out]; rfl, setBad PB hKN.out⟩
          · have t3 : ¬ (4611686018427387904 : Int) < ptm := t2
            have hR : Hid (R = 0) := by have := hN.out; simp only [if_true] at this; rw [if_neg (by omega)] at this; exact this
            have PB : Below w.heap.size w w3 := bwH.out
            have NB : BdAt w3 N := bdH.out
            obtain ⟨_, g1, g2, g3, g4, g5, g0⟩ := NB
            have f1 := g0 0
            have f2 := g0 1
            have f3 := g0 2
            have f4 := g0 3
            have f5 := g0 4
            clear g0
            go_wp2_with fail
            simp [bodyPost, results, Tryz.results29, go_sem, g1, g2, g3, g4, g5]
            exact ⟨by rw [hR.out]; rfl, setBad PB hKN.out⟩
end Go.Proofs.YtepakgfdakeibaaGreatDoor
