
import Derived.Test.YtkpcndnefbaooaaDoorKtB
import Derived.Test.YtkpcndnefbaooaaDoorKyN
namespace Go.Proofs.YtkpcndnefbaooaaDoor
open Go.RowKit _root_.Go.Proofs.YtkpcndnefbaooaaDoor.So
set_option linter.unusedVariables false
set_option linter.unusedSimpArgs false
/-! ### plain: what was grouped by unlike names is joined to tags that tell the same of them -/
theorem valT_none {s : ByteArray} : ∀ {L : List TagP}, (∀ t ∈ L, t.1 ≠ s) → valT L s = ⟨#[]⟩
  | [], _ => rfl
  | t :: r, h => by
    unfold valT
    rw [if_neg (h t List.mem_cons_self)]
    exact valT_none fun u hu => h u (List.mem_cons_of_mem _ hu)
theorem valT_mem {s v : ByteArray} : ∀ {L : List TagP}, SK kl L → (s, v) ∈ L → valT L s = v
  | [], _, h => by cases h
  | t :: r, hs, h => by
    obtain ⟨hx, hr⟩ := List.pairwise_cons.1 hs
    unfold valT
    rcases List.mem_cons.1 h with e | e
    · rw [← e, if_pos rfl]
    · have := hx _ e
      rw [if_neg (fun c => by rw [c, kl_ko.irr] at this; cases this)]
      exact valT_mem hr e
theorem valT_key {s : ByteArray} : ∀ {L : List TagP}, valT L s ≠ ⟨#[]⟩ → ∃ t ∈ L, t.1 = s
  | [], h => absurd rfl h
  | t :: r, h => by
    unfold valT at h
    by_cases c : t.1 = s
    · exact ⟨t, List.mem_cons_self, c⟩
    · rw [if_neg c] at h
      obtain ⟨u, hu, hs⟩ := valT_key h
      exact ⟨u, List.mem_cons_of_mem _ hu, hs⟩
theorem sortT_sk (l : List TagP) : SK kl (sortT l) := by
  have := (srtD_is kl_ko (atT l) l.length).1
  rw [atT_map] at this; exact this
theorem sortT_mem (l : List TagP) (e : TagP) : e ∈ sortT l ↔ ∃ k, k < l.length ∧ atT l k = e ∧ ∀ j, k < j → j < l.length → (atT l j).1 ≠ (atT l k).1 := by
  have := (srtD_is kl_ko (atT l) l.length).2 e
  rw [atT_map] at this; exact this
theorem atT_get (l : List TagP) {k : Nat} (h : k < l.length) : atT l k = l[k] := by simp [atT, List.getD_eq_getElem?_getD, List.getElem?_eq_getElem h]
theorem sortT_in {l : List TagP} {e : TagP} (h : e ∈ sortT l) : e ∈ l := by
  obtain ⟨k, hk, rfl, _⟩ := (sortT_mem l e).1 h
  rw [atT_get l hk]; exact List.getElem_mem hk
theorem sortT_all {l : List TagP} (hn : (l.map (·.1)).Nodup) {e : TagP} (h : e ∈ l) : e ∈ sortT l := by
  obtain ⟨k, hk, rfl⟩ := List.getElem_of_mem h
  refine (sortT_mem l _).2 ⟨k, hk, atT_get l hk, fun j h1 h2 he => ?_⟩
  rw [atT_get l h2, atT_get l hk] at he
  have h3 : (l.map (·.1))[j]'(by simpa using h2) = (l.map (·.1))[k]'(by simpa using hk) := by simpa using he
  have := (List.getElem_inj hn).1 h3
  omega
theorem joinP_mem (ns vs : List ByteArray) (t : TagP) : ∀ m, t ∈ joinP ns vs m ↔ ∃ k, k < m ∧ vs.getD k ⟨#[]⟩ ≠ ⟨#[]⟩ ∧ t = (ns.getD k ⟨#[]⟩, vs.getD k ⟨#[]⟩)
  | 0 => by simp [joinP]
  | m + 1 => by
    unfold joinP
    rw [List.mem_append, joinP_mem ns vs t m]
    constructor
    · rintro (⟨k, h1, h2, h3⟩ | h)
      · exact ⟨k, by omega, h2, h3⟩
      · split at h
        · cases h
        · rename_i c
          exact ⟨m, by omega, c, List.mem_singleton.1 h⟩
    · rintro ⟨k, h1, h2, h3⟩
      rcases Nat.lt_or_ge k m with c | c
      · exact Or.inl ⟨k, c, h2, h3⟩
      · obtain rfl : k = m := by omega
        right; rw [if_neg h2]; exact List.mem_singleton.2 h3
theorem getD_get (l : List ByteArray) {k : Nat} (h : k < l.length) : l.getD k ⟨#[]⟩ = l[k] := by simp [List.getD_eq_getElem?_getD, List.getElem?_eq_getElem h]
theorem names_inj {ns : List ByteArray} (hn : ns.Nodup) {i j : Nat} (hi : i < ns.length) (hj : j < ns.length) (h : ns.getD i ⟨#[]⟩ = ns.getD j ⟨#[]⟩) : i = j := by
  rw [getD_get ns hi, getD_get ns hj] at h
  exact (List.getElem_inj hn).1 h
theorem joinP_keys {ns : List ByteArray} (hn : ns.Nodup) (vs : List ByteArray) : ∀ m, m ≤ ns.length → ((joinP ns vs m).map (·.1)).Nodup
  | 0, _ => by simp [joinP]
  | m + 1, h => by
    unfold joinP
    rw [List.map_append, List.nodup_append]
    refine ⟨joinP_keys hn vs m (by omega), by split <;> simp, fun a ha b hb e => ?_⟩
    subst e
    obtain ⟨t, ht, rfl⟩ := List.mem_map.1 ha
    obtain ⟨k, h1, h2, rfl⟩ := (joinP_mem ns vs t m).1 ht
    split at hb
    · cases hb
    · have := names_inj hn (show k < ns.length by omega) (show m < ns.length by omega) (by simpa using hb)
      omega
theorem nodup_le {α : Type} [DecidableEq α] : ∀ (a b : List α), a.Nodup → (∀ x ∈ a, x ∈ b) → a.length ≤ b.length
  | [], b, _, _ => Nat.zero_le _
  | x :: r, b, h, hs => by
    obtain ⟨h1, h2⟩ := List.nodup_cons.1 h
    have hx := hs x List.mem_cons_self
    have := nodup_le r (b.erase x) h2 fun y hy => (List.mem_erase_of_ne (fun e => h1 (by rw [← e]; exact hy))).2 (hs y (List.mem_cons_of_mem _ hy))
    rw [List.length_erase_of_mem hx] at this
    have hp : 0 < b.length := List.length_pos_of_mem hx
    rw [List.length_cons]; omega
theorem joinP_few {l : List TagP} {ns : List ByteArray} (hn : ns.Nodup) : (joinP ns (grpT l ns) ns.length).length ≤ l.length := by
  have := nodup_le ((joinP ns (grpT l ns) ns.length).map (·.1)) (l.map (·.1)) (joinP_keys hn _ _ (Nat.le_refl _)) fun x hx => by
    obtain ⟨t, ht, rfl⟩ := List.mem_map.1 hx
    obtain ⟨k, h1, h2, rfl⟩ := (joinP_mem _ _ t _).1 ht
    have e : (grpT l ns).getD k ⟨#[]⟩ = valT l (ns.getD k ⟨#[]⟩) := by simp [grpT, List.getD_eq_getElem?_getD, List.getElem?_eq_getElem h1]
    rw [e] at h2
    obtain ⟨u, hu, hs⟩ := valT_key h2
    exact List.mem_map.2 ⟨u, hu, hs⟩
  simpa using this
theorem join_group {ns g : List ByteArray} (hn : ns.Nodup) (hg : g.length = ns.length) : grpT (sortT (joinP ns g ns.length)) ns = g := by
  apply List.ext_getElem
  · simp [grpT, hg]
  · intro i h1 h2
    have hi : i < ns.length := by omega
    simp only [grpT, List.getElem_map]
    by_cases c : g[i] = ⟨#[]⟩
    · rw [c]
      refine valT_none fun t ht he => ?_
      obtain ⟨k, k1, k2, rfl⟩ := (joinP_mem ns g t _).1 (sortT_in ht)
      have := names_inj hn k1 hi (by rw [getD_get ns hi]; exact he)
      subst this
      rw [getD_get g h2] at k2
      exact k2 c
    · refine valT_mem (sortT_sk _) (sortT_all (joinP_keys hn _ _ (Nat.le_refl _)) ((joinP_mem ns g _ _).2 ⟨i, hi, by rw [getD_get g h2]; exact c, by rw [getD_get ns hi, getD_get g h2]⟩))
theorem So.SortedR.tin {w w' : World} {e : Ending} {l : List TagP} (h : SortedR w w' e l) : ∃ a c, e = .returned (.slice a (sortT l).length c) ∧ TgIn w' a (sortT l) := by
  rcases h with ⟨rfl, h⟩ | ⟨g, m, cap, G, h1, h2, h3, h4, h5⟩
  · exact ⟨none, 0, h, Or.inl rfl⟩
  · refine ⟨some ⟨g, 0, none⟩, cap, ?_, by rw [← h5]; exact h4.tin⟩
    rw [h1, ← h5]; simp
def Unl (ns : List ByteArray) (i : Nat) : Prop := ∀ a b x y, a < b → b < i → ns[a]? = some x → ns[b]? = some y → y ≠ x
theorem Unl.nodup {ns : List ByteArray} (h : Unl ns ns.length) : ns.Nodup := by
  rw [List.nodup_iff_pairwise_ne, List.pairwise_iff_getElem]
  intro i j hi hj hij e
  exact h i j _ _ hij hj (List.getElem?_eq_getElem hi) (List.getElem?_eq_getElem hj) e.symm
set_option maxRecDepth 100000 in
set_option maxHeartbeats 4000000 in
theorem keyJoins_walk (a b : Option Addr) (c1 c2 : Nat) (l : List TagP) (ns : List ByteArray) (w : World) (ha : TgIn w a l) (hb : StIn w b ns) (hl : l.length ≤ 4398046511104) (hn : ns.length ≤ 8796093022208) (hT : UT w) (hg : ET w) :
    Calls Tryd.prog 4 #[.slice a l.length c1, .slice b ns.length c2] w fun e w' => e = .returned (.bool true) ∧ Below w.heap.size w w' := by
  have CL : Hid (∀ W, Below w.heap.size w W → Calls Tryd.prog 8 #[] W fun e w' => e = .returned (.bool true) ∧ Below W.heap.size W w') := fun W hW => live_any W (hT.below hW (Nat.le_refl _)) (ET_below hg hW)
  have CG : Hid (∀ W, Below w.heap.size w W → Calls Tryd.prog 13 #[.slice a l.length c1, .slice b ns.length c2] W fun e w' => ∃ g, e = .returned (.slice (some ⟨g, 0, none⟩) ns.length ns.length) ∧ GS W g ns.length ns.length (grpT l ns) w') := fun W hW => group_any a b c1 c2 l ns W (by omega) hn (ha.below hW) (hb.below hW)
  have CF : Hid (ns.Nodup → ∀ g1 W, Below w.heap.size w W → StIn W (some ⟨g1, 0, none⟩) (grpT l ns) → Calls Tryd.prog 15 #[.slice b ns.length c2, .slice (some ⟨g1, 0, none⟩) ns.length ns.length] W fun e w' => ∃ aj zj cj, e = .returned (.slice aj zj cj) ∧ Below W.heap.size W w' ∧ ∀ W2, Below w'.heap.size w' W2 → Calls Tryd.prog 13 #[.slice aj zj cj, .slice b ns.length c2] W2 fun e w3 => ∃ g, e = .returned (.slice (some ⟨g, 0, none⟩) ns.length ns.length) ∧ Below W2.heap.size W2 w3 ∧ Calls Tryd.prog 12 #[.slice (some ⟨g, 0, none⟩) ns.length ns.length, .slice (some ⟨g1, 0, none⟩) ns.length ns.length] w3 fun e w4 => e = .returned (.bool true) ∧ Below w3.heap.size w3 w4) := by
    intro hnd g1 W hW hS1
    have hlen : (grpT l ns).length = ns.length := by simp [grpT]
    have hmin : min ns.length (grpT l ns).length = ns.length := by omega
    have hfew := joinP_few (l := l) hnd
    have hj := join_any b (some ⟨g1, 0, none⟩) c2 ns.length ns (grpT l ns) W (by omega) (by omega) (hb.below hW) hS1 (by rw [hmin]; omega) (fun a' c' W' _ h' => sort_any a' c' _ W' h' (by rw [hmin]; omega))
    rw [hmin, hlen] at hj
    refine hj.mono fun e w1 h1 => ?_
    obtain ⟨h1, h2⟩ := h1
    obtain ⟨aj, cj, e1, ht⟩ := h1.tin
    have hslen : (sortT (joinP ns (grpT l ns) ns.length)).length ≤ 9223372036854775807 := by
      have h1 : (sortT (joinP ns (grpT l ns) ns.length)).length ≤ (joinP ns (grpT l ns) ns.length).length := by
        have := nodup_le ((sortT (joinP ns (grpT l ns) ns.length)).map (·.1)) ((joinP ns (grpT l ns) ns.length).map (·.1)) ?_ ?_
        · simpa using this
        · rw [List.nodup_iff_pairwise_ne, List.pairwise_map]
          exact (sortT_sk _).imp fun hab e => by rw [e, kl_ko.irr] at hab; cases hab
        · intro x hx
          obtain ⟨t, ht, rfl⟩ := List.mem_map.1 hx
          exact List.mem_map.2 ⟨t, sortT_in ht, rfl⟩
      omega
    refine ⟨aj, _, cj, e1, h2, fun W2 hW2 => ?_⟩
    have hW2w : Below w.heap.size w W2 := (hW.trans (h2.mono hW.size)).trans (hW2.mono (Nat.le_trans hW.size h2.size))
    refine (group_any aj b cj c2 _ ns W2 hslen hn (ht.below hW2) (hb.below hW2w)).mono fun e w3 h3 => ?_
    obtain ⟨g, e3, h4⟩ := h3
    rw [join_group hnd hlen] at h4
    refine ⟨g, e3, h4.b, ?_⟩
    have hS3 := h4.fin hlen
    have hB3 : Below W.heap.size W w3 := (h2.trans (hW2.mono h2.size)).trans (h4.b.mono (Nat.le_trans h2.size hW2.size))
    have := sameTexts_any (some ⟨g, 0, none⟩) (some ⟨g1, 0, none⟩) (grpT l ns) ns.length ns.length w3 (by omega) hS3 (hS1.below hB3)
    rw [hlen] at this
    exact this
  have hBb : Hid (StIn w b ns) := hb
  have CV : Hid (∀ g W w1, GS W g ns.length ns.length (grpT l ns) w1 → StIn w1 (some ⟨g, 0, none⟩) (grpT l ns)) := fun g W w1 h => h.fin (by simp [grpT])
  clear ha hb hT hg hl
  obtain ⟨n, hnl⟩ : ∃ n, ns.length = n := ⟨_, rfl⟩
  have hN : Hid (ns.length = n) := hnl
  rw [hnl] at hn CG CF CV ⊢
  clear hnl
  generalize l.length = q at *
  generalize grpT l ns = V at *
  have hnn : ((n : Int) == (n : Int)) = true := by simp
  go_enter Tryd.func4, Tryd.ntmps4
  go_wp2_with fail
  go_loopw [5] (fun vi wr => ∃ i : Nat, vi = .int .i64 (i : Int) ∧ i ≤ n ∧ Hid (Unl ns i) ∧ Below w.heap.size w wr) (fun vi _ => n - (intOf vi).toNat)
  case atStart => exact ⟨0, rfl, by omega, fun a b x y h1 h2 => by omega, Below.refl _ _⟩
  case round =>
    obtain ⟨i, rfl, hin, hU, hB⟩ := hrel
    have iw : IntKind.i64.wrap ((i : Int) + 1) = ((i + 1 : Nat) : Int) := IntWalk.i64_in _ (by omega)
    by_cases hi : i < n
    · have hiI : (i : Int) < (n : Int) := by omega
      have i0 : (0 : Int) ≤ (i : Int) := by omega
      have hBH : Hid (Below w.heap.size w wr) := hB
      clear hB
      go_wp2_with fail
      go_loopw [6] (fun vk wq => ∃ k : Nat, vk = .int .i64 (k : Int) ∧ k ≤ i ∧ Hid (∀ a x y, a < k → ns[a]? = some x → ns[i]? = some y → y ≠ x) ∧ Below w.heap.size w wq) (fun vk _ => i - (intOf vk).toNat)
      case atStart => exact ⟨0, rfl, by omega, fun a x y h => by omega, hBH.out⟩
      case round =>
        clear hBH
        obtain ⟨k, rfl, hki, hV, hB⟩ := hrel
        have kw : IntKind.i64.wrap ((k : Int) + 1) = ((k + 1 : Nat) : Int) := IntWalk.i64_in _ (by omega)
        by_cases hk : k < i
        · have hkI : (k : Int) < (i : Int) := by omega
          have k0 : (0 : Int) ≤ (k : Int) := by omega
          have kn : (k : Int) < (n : Int) := by omega
          obtain ⟨x, hx⟩ : ∃ t, ns[i]? = some t := ⟨_, List.getElem?_eq_getElem (by have := hN.out; omega)⟩
          obtain ⟨y, hy⟩ : ∃ t, ns[k]? = some t := ⟨_, List.getElem?_eq_getElem (by have := hN.out; omega)⟩
          obtain ⟨b1, o1, rfl, hb1, t1⟩ := hBb.out.at hB hx
          obtain ⟨b2, o2, e2, hb2, t2⟩ := hBb.out.at hB hy
          injection e2 with e2
          injection e2 with e3 e4
          subst e3 e4
          have hBH : Hid (Below w.heap.size w wr.drew) := hB.drew
          clear hB
          by_cases he : x = y
          · have hq : (x.toList == y.toList) = true := by rw [he]; simp
            have hBw : Below w.heap.size w wr := ⟨hBH.out.os, hBH.out.tape, hBH.out.output, hBH.out.size, hBH.out.block⟩
            have C : Hid (∀ q, Calls Tryd.prog 8 #[] (wr.drewN q) fun e w' => e = .returned (.bool true) ∧ Below w.heap.size w w') := fun q => (CL.out (wr.drewN q) (bdrewN hBw q)).mono fun e w' h => ⟨h.1, (bdrewN hBw q).trans (h.2.mono (bdrewN hBw q).size)⟩
            clear hBw
            clear he hx hy
            go_wp2_with fail
            go_quiet (fail)
            go_wp2_with fail
            refine Calls.mono (C.out _) ?_
            rintro e w2 ⟨rfl, hb3⟩
            go_wp2_with fail
            go_ret
            exact ⟨rfl, hb3⟩
          · have hq : (x.toList == y.toList) = false := by rw [ba_dec]; exact decide_eq_false he
            have nx : Hid (∀ a x y, a < k + 1 → ns[a]? = some x → ns[i]? = some y → y ≠ x) := fun a x' y' h1 h2 h3 => by
              by_cases c : a < k
              · exact hV.out a x' y' c h2 h3
              · obtain rfl : a = k := by omega
                rw [hx] at h3
                rw [hy] at h2
                cases h2; cases h3
                exact he
            clear he hx hy hV
            go_wp2_with fail
            go_quiet (fail)
            go_wp2_with fail
            go_round
            case measure => simp only [intOf]; omega
            case rel => exact ⟨k + 1, by simp, by omega, nx, ⟨hBH.out.os, hBH.out.tape, hBH.out.output, hBH.out.size, hBH.out.block⟩⟩
        · have hkI : ¬ (k : Int) < (i : Int) := by omega
          obtain rfl : k = i := by omega
          have nx : Hid (Unl ns (k + 1)) := fun a b x y h1 h2 h3 h4 => by
            by_cases c : b < k
            · exact hU.out a b x y h1 c h3 h4
            · obtain rfl : b = k := by omega
              exact hV.out a x y h1 h3 h4
          have hBH : Hid (Below w.heap.size w wr) := hB
          clear hU hV hB
          go_wp2_with fail
          go_round
          case measure => simp only [intOf]; omega
          case rel => exact ⟨k + 1, by simp, by omega, nx, hBH.out⟩
    · have hiI : ¬ (i : Int) < (n : Int) := by omega
      obtain rfl : i = n := by omega
      have hnd : Hid ns.Nodup := by
        have := hU.out
        rw [← hN.out] at this
        exact this.nodup
      have C1 : Hid _ := CG.out wr hB
      clear hU CG
      go_wp2_with fail
      refine Calls.mono C1.out ?_
      rintro e w1 ⟨g1, rfl, G1⟩
      have S1 := CV.out g1 wr w1 G1
      have B1 : Below w.heap.size w w1 := hB.trans (G1.b.mono hB.size)
      have C2 : Hid _ := CL.out w1 B1
      have S1H : Hid (StIn w1 (some ⟨g1, 0, none⟩) V) := S1
      have B1H : Hid (Below w.heap.size w w1) := B1
      clear C1 G1 S1 hB B1
      go_wp2_with fail
      refine Calls.mono C2.out ?_
      rintro e w2 ⟨rfl, b2⟩
      have C3 : Hid _ := CF.out hnd.out g1 w2 (B1H.out.trans (b2.mono B1H.out.size)) (S1H.out.below b2)
      have B2H : Hid (Below w.heap.size w w2) := B1H.out.trans (b2.mono B1H.out.size)
      clear C2 b2 B1H S1H
      go_wp2_with fail
      refine Calls.mono C3.out ?_
      rintro e w3 ⟨aj, zj, cj, rfl, b3, k3⟩
      have C4 : Hid _ := k3 w3 (Below.refl _ _)
      have B3H : Hid (Below w.heap.size w w3) := B2H.out.trans (b3.mono B2H.out.size)
      clear C3 b3 k3 B2H
      go_wp2_with fail
      refine Calls.mono C4.out ?_
      rintro e w4 ⟨g2, rfl, b4, k4⟩
      have C5 : Hid _ := k4
      have B4H : Hid (Below w.heap.size w w4) := B3H.out.trans (b4.mono B3H.out.size)
      clear C4 b4 k4 B3H
      go_wp2_with fail
      refine Calls.mono C5.out ?_
      rintro e w5 ⟨rfl, b5⟩
      have B5H : Hid (Below w.heap.size w w5) := B4H.out.trans (b5.mono B4H.out.size)
      clear C5 b5 B4H
      go_wp2_with fail
      go_ret
      exact ⟨rfl, B5H.out⟩
end Go.Proofs.YtkpcndnefbaooaaDoor
