
import Derived.Test.YtepakgfdakeibaaGreatDoorPpC
import Derived.Test.YtepakgfdakeibaaGreatDoorBdBp
import Derived.Test.YtepakgfdakeibaaGreatDoorBhMp
import Derived.BigQuiet
namespace Go.Proofs.YtepakgfdakeibaaGreatDoor.So.Wr
open Go.RowKit
set_option linter.unusedVariables false
set_option linter.unusedSimpArgs false
/-- what Points tells. -/
def PtsR (w w' : World) (l : List WrP) (e : Ending) : Prop := ∃ (v : Value) (L : List PtA) (B : Nat), e = .returned v ∧ PG w' B v L ∧ L.map (·.1) = ptsD l ∧ (∀ u ∈ L, u.1.t.length ≤ 4398046511104) ∧ (∀ u ∈ L, u.1.f.length ≤ l.length) ∧ L.length ≤ l.length ∧ Below w.heap.size w w'
theorem nums6 (z i : Nat) (h : z ≤ i) (hi : i ≤ 549755813888) : IntKind.i64.wrap (((z + 1 : Nat) : Int) - 1) = (z : Int) ∧ IntKind.i64.wrap ((z : Int) + 1 - 1) = (z : Int) ∧ wrap64 (z : Int) = (z : Int) ∧ (0 : Int) ≤ (z : Int) ∧ (z : Int) < ((z + 1 : Nat) : Int) ∧ (z : Int) < (z : Int) + 1 := by
  refine ⟨?_, ?_, IntWalk.wrap64_in _ (by omega), by omega, by omega, by omega⟩
  · rw [show ((z + 1 : Nat) : Int) - 1 = (z : Int) by omega]; exact IntWalk.i64_in _ (by omega)
  · rw [show (z : Int) + 1 - 1 = (z : Int) by omega]; exact IntWalk.i64_in _ (by omega)
/-- the loop, behind sorted: S in order. -/
def Srt6 (w3 : World) (g : Nat) (S : List WrA) : Prop := g < w3.heap.size ∧ ∀ i t, S[i]? = some t → WAt w3 g (i * 6) t.1 t.2.1 t.2.2 ∧ SerIn w3 t.2.1 t.1.s ∧ t.1.s.t.length ≤ 4398046511104
/-- DeleteFunc, then sorted. -/
theorem points_row (a1 : Option Addr) (z1 c1 : Nat) (l : List WrP) (L1 : List WrA) (w w1 : World) (hn : l.length ≤ 549755813888) (hts : ∀ x ∈ l, x.s.t.length ≤ 4398046511104) (o1 : OW2 w1 w.heap.size (.slice a1 z1 c1) L1) (e1 : L1.map (·.1) = odD l) (b1 : Below w.heap.size w w1) :
    Calls Tryz.prog 18 #[.slice a1 z1 c1, .func (.func 20) #[] #[]] w1 fun e w2 => ∃ (a2 : Option Addr) (z2 c2 : Nat), e = .returned (.slice a2 z2 c2) ∧ Calls Tryz.prog 21 #[.slice a2 z2 c2, .func (.func 22) #[] #[]] w2 fun e w3 => ∃ (g c3 : Nat) (T : List WrA), e = .returned (.slice (some ⟨g, 0, none⟩) T.length c3) ∧ Srt6 w3 g T ∧ (T.map (·.1)).Pairwise lessP ∧ grD (T.map (·.1)) = grD (intW (odD l)) ∧ T.length ≤ l.length ∧ Below w.heap.size w w3 := by
  have lL : L1.length ≤ l.length := by
    have := odD_len l
    rw [← e1, List.length_map] at this; exact this
  have hml : maxLen = 9223372036854775807 := by decide
  rcases o1.1.1.2 with ⟨e, e0⟩ | ⟨g1, cap1, cur, e, hg1, hg2, hc1, hc2, hc3, hc4⟩
  · injection e with ea ez ec
    subst ea ez ec
    obtain rfl := List.eq_nil_of_length_eq_zero e0
    refine (delete_nil w1).mono fun e w2 hh => ?_
    obtain ⟨rfl, b2⟩ := hh
    refine ⟨none, 0, 0, rfl, ?_⟩
    refine (sorted_nil w2 (fun _ => (noW, none, 0)) (fun _ _ => false)).mono fun e w3 hh => ?_
    obtain ⟨out, g, c, rfl, hs, hg, hcs, b3⟩ := hh
    have o0 : out = [] := by
      cases out with
      | nil => rfl
      | cons p r => have := (hs.all p).1 (List.mem_cons_self ..); omega
    subst o0
    refine ⟨g, c, [], rfl, ⟨hg, fun i t ht => by simp at ht⟩, List.Pairwise.nil, ?_, Nat.zero_le _, (b1.trans (b2.mono b1.size)).trans (b3.mono (Nat.le_trans b1.size b2.size))⟩
    rw [← e1]; rfl
  · injection e with ea ez ec
    subst ea ez ec
    obtain ⟨F, hF⟩ : ∃ F : Nat → WrA, F = fun i => L1.getD i (noW, none, 0) := ⟨_, rfl⟩
    have hFi : ∀ i, i < L1.length → L1[i]? = some (F i) := fun i hi => by rw [hF, List.getElem?_eq_getElem hi]; simp [List.getD_eq_getElem?_getD, List.getElem?_eq_getElem hi]
    have t1 : T6 w1 g1 L1.length F := by
      refine ⟨(World.ownsRow.lt o1.1.1 g1 rfl).2, fun k hk => ?_⟩
      have hcs := World.ownsRow.cells o1.1.1 (g := g1) rfl
      obtain ⟨k1, k2, k3, k4, k5, k6⟩ := encW_get L1 k (F k) (hFi k hk)
      have k1 := hcs _ _ k1
      have k2 := hcs _ _ k2
      have k3 := hcs _ _ k3
      have k4 := hcs _ _ k4
      have k5 := hcs _ _ k5
      have k6 := hcs _ _ k6
      rw [tag_add, Nat.zero_add] at k1 k2 k3 k4 k5 k6
      exact ⟨⟨k1, k2, k3, k4, k5, k6⟩, World.ownsRow.frozenAt o1.1.1 _, World.ownsRow.frozenAt o1.1.1 _, World.ownsRow.frozenAt o1.1.1 _, World.ownsRow.frozenAt o1.1.1 _, World.ownsRow.frozenAt o1.1.1 _, World.ownsRow.frozenAt o1.1.1 _⟩
    have hmap : (List.range L1.length).map F = L1 := by
      refine List.ext_getElem? fun i => ?_
      rw [List.getElem?_map]
      rcases Nat.lt_or_ge i L1.length with hi | hi
      · rw [List.getElem?_range hi, hFi i hi]; rfl
      · rw [List.getElem?_eq_none (by simpa using hi), List.getElem?_eq_none hi]; rfl
    refine (delete_any g1 L1.length c1 F w1 t1 (by omega) hc1).mono fun e w2 hh => ?_
    obtain ⟨m, H, rfl, hmn, t2, hH, ob⟩ := hh
    refine ⟨some ⟨g1, 0, none⟩, m, c1, rfl, ?_⟩
    have hHL : (List.range m).map H = L1.filter isI := by rw [hH]; unfold lft; rw [hmap]
    have hHm : ∀ i, i < m → H i ∈ L1 := fun i hi => by
      have : H i ∈ (List.range m).map H := List.mem_map.2 ⟨i, List.mem_range.2 hi, rfl⟩
      rw [hHL] at this
      exact (List.mem_filter.1 this).1
    have hser : ∀ t ∈ L1, SerIn w2 t.2.1 t.1.s := fun t ht => by
      refine ⟨?_, (o1.1.2 t ht).2⟩
      refine (o1.1.2 t ht).1.grownW (row := some g1) ⟨ob.same.1, ob.same.2.1, ob.same.2.2, ob.size, fun k hk hne => ob.keep k hk (fun e => hne (by rw [e]))⟩ (fun hne ad had q => ?_)
      exact o1.2 t ht hne ad had q
    have hsw : SW (odD l) := odD_sw l
    have hpw : L1.Pairwise fun x y => wC x.1 y.1 < 0 := by
      have := hsw
      unfold SW at this
      rw [← e1] at this
      exact List.pairwise_map.1 this
    have hdist : ∀ i j, i < m → j < m → i ≠ j → wC (H i).1 (H j).1 ≠ 0 := by
      have hp2 : ((List.range m).map H).Pairwise fun x y => wC x.1 y.1 < 0 := by rw [hHL]; exact List.Pairwise.sublist List.filter_sublist hpw
      have lt : ∀ i j, i < j → j < m → wC (H i).1 (H j).1 < 0 := fun i j hij hj => by
        have := List.pairwise_iff_getElem.1 hp2 i j (by simp; omega) (by simpa using hj) hij
        simpa using this
      intro i j hi hj hne
      rcases Nat.lt_or_ge i j with q | q
      · have := lt i j q hj; omega
      · have := lt j i (by omega) hi
        have f := kC_is.flip (wK (H j).1) (wK (H i).1)
        unfold wC at *
        omega
    have b2 : Below w.heap.size w w2 := ob.into b1 hg1 b1.size
    refine (sorted_any w2 g1 c1 m H (ahP H) (ahP_ao m H hdist) (ahP_any w2 m H fun i hi => hser _ (hHm i hi)) t2.rw6 (by omega) (by omega)).mono fun e w3 hh => ?_
    obtain ⟨out, g, c, rfl, hs, hg, hcs, b3⟩ := hh
    have few : out.length ≤ m := by
      have := nodup_leB out (List.range m) (by
        rw [List.nodup_iff_pairwise_ne]
        refine (List.Pairwise.and_mem.1 hs.ord).imp ?_
        rintro x y ⟨hx, hy, hxy⟩ e
        subst e
        exact lessP_irr _ ((lessB_iff _ _).1 hxy)) (fun x hx => List.mem_range.2 ((hs.all x).1 hx))
      simpa using this
    have hord : ((out.map H).map (·.1)).Pairwise lessP := by
      rw [List.map_map]
      refine List.pairwise_map.2 (hs.ord.imp fun h => (lessB_iff _ _).1 h)
    refine ⟨g, c, out.map H, by rw [List.length_map], ⟨hg, fun i t ht => ?_⟩, hord, ?_, by rw [List.length_map]; omega, b2.trans (b3.mono b2.size)⟩
    · rw [List.getElem?_map, Option.map_eq_some_iff] at ht
      obtain ⟨p, hp, rfl⟩ := ht
      have hpm : p < m := (hs.all p).1 (List.mem_of_getElem? hp)
      have hmem := hHm p hpm
      refine ⟨hcs i p hp, (hser _ hmem).belowW b3, hts _ ?_⟩
      have : (H p).1 ∈ odD l := by rw [← e1]; exact List.mem_map.2 ⟨_, hmem, rfl⟩
      exact ((odD_ok _ l (Nat.le_refl _)).2 _).1 this |>.mem
    · refine grD_same hsw hord fun x => ?_
      rw [List.map_map]
      unfold intW
      rw [← e1]
      constructor
      · intro hx
        obtain ⟨p, hp, rfl⟩ := List.mem_map.1 hx
        have hpm : p < m := (hs.all p).1 hp
        have : H p ∈ L1.filter isI := by rw [← hHL]; exact List.mem_map.2 ⟨p, List.mem_range.2 hpm, rfl⟩
        obtain ⟨q1, q2⟩ := List.mem_filter.1 this
        exact List.mem_filter.2 ⟨List.mem_map.2 ⟨_, q1, rfl⟩, q2⟩
      · intro hx
        obtain ⟨q1, q2⟩ := List.mem_filter.1 hx
        obtain ⟨t, ht, rfl⟩ := List.mem_map.1 q1
        have : t ∈ (List.range m).map H := by rw [hHL]; exact List.mem_filter.2 ⟨ht, q2⟩
        obtain ⟨p, hp, rfl⟩ := List.mem_map.1 this
        exact List.mem_map.2 ⟨p, (hs.all p).2 (List.mem_range.1 hp), rfl⟩
set_option maxRecDepth 100000 in
set_option maxHeartbeats 16000000 in
theorem bpoints_any (a : Option Addr) (c : Nat) (l : List WrP) (w : World) (hl : WIn w a l) (hn : l.length ≤ 549755813888) (hts : ∀ x ∈ l, x.s.t.length ≤ 4398046511104) :
    Calls Tryz.prog 8 #[.slice a l.length c] w fun e w' => PtsR w w' l e := by
  have CO : Hid (Calls Tryz.prog 19 #[.slice a l.length c] w fun e w' => ∃ (a1 : Option Addr) (z1 c1 : Nat) (L1 : List WrA), e = .returned (.slice a1 z1 c1) ∧ OW2 w' w.heap.size (.slice a1 z1 c1) L1 ∧ L1.map (·.1) = odD l ∧ Below w.heap.size w w') := (order_any a c l w hl hn hts).mono fun e w' hh => by
    obtain ⟨out, L, v, h1, h2, h3, h4, h5⟩ := hh
    obtain ⟨a1, c1, e1, _⟩ := h3.1.win
    subst e1
    exact ⟨a1, L.length, c1, L, h1, h3, by rw [h4, ordL_is l out h2], h5⟩
  -- DeleteFunc and sorted behind any such row
  have CD : Hid (∀ (a1 : Option Addr) (z1 c1 : Nat) (L1 : List WrA) (w1 : World), OW2 w1 w.heap.size (.slice a1 z1 c1) L1 → L1.map (·.1) = odD l → Below w.heap.size w w1 → Calls Tryz.prog 18 #[.slice a1 z1 c1, .func (.func 20) #[] #[]] w1 fun e w2 => ∃ (a2 : Option Addr) (z2 c2 : Nat), e = .returned (.slice a2 z2 c2) ∧ Calls Tryz.prog 21 #[.slice a2 z2 c2, .func (.func 22) #[] #[]] w2 fun e w3 => ∃ (g c3 : Nat) (T : List WrA), e = .returned (.slice (some ⟨g, 0, none⟩) T.length c3) ∧ Srt6 w3 g T ∧ (T.map (·.1)).Pairwise lessP ∧ grD (T.map (·.1)) = grD (intW (odD l)) ∧ T.length ≤ l.length ∧ Below w.heap.size w w3) := fun a1 z1 c1 L1 w1 o1 e1 b1 => points_row a1 z1 c1 l L1 w w1 hn hts o1 e1 b1
  clear hl hts
  go_enter Tryz.func8, Tryz.ntmps8
  go_wp2_with fail
  refine Calls.mono CO.out ?_
  rintro e w1 ⟨a1, z1, c1, L1, rfl, o1, e1, b1⟩
  have C1 : Hid _ := CD.out a1 z1 c1 L1 w1 o1 e1 b1
  clear CO CD o1 e1 b1
  go_wp2_with fail
  refine Calls.mono C1.out ?_
  rintro e w2 ⟨a2, z2, c2, rfl, C2⟩
  have C2 : Hid _ := C2
  clear C1
  go_wp2_with fail
  refine Calls.mono C2.out ?_
  rintro e w3 ⟨g, c3', T, rfl, hT, hS, hgr, hTl, hB3⟩
  clear C2
  obtain ⟨m, hm⟩ : ∃ m, T.length = m := ⟨_, rfl⟩
  obtain ⟨S, hSe⟩ : ∃ S, S = T.map (·.1) := ⟨_, rfl⟩
  rw [← hSe] at hS hgr
  have hSH : Hid (S.Pairwise lessP) := hS
  have hgH : Hid (grD S = grD (intW (odD l))) := hgr
  have hTH : Hid (Srt6 w3 g T) := hT
  have hSeH : Hid (S = T.map (·.1)) := hSe
  have hmH : Hid (T.length = m) := hm
  have B3 : Hid (Below w.heap.size w w3) := hB3
  have P0 : Hid (PS w3 S 0 (.slice none 0 0) [] w3) := ⟨PG.nil _ _, rfl, (fun u h => by cases h), (fun u h => by cases h), Nat.le_refl _, Below.refl _ _⟩
  rw [hm] at hTl ⊢
  clear hS hgr hT hSe hm hB3
  go_wp2_with fail
  go_loopw [4, 15] (fun v4 v15 wr => ∃ (i z c3 : Nat) (a3 : Option Addr) (L : List PtA), v4 = .slice a3 z c3 ∧ v15 = .int .i64 (i : Int) ∧ i ≤ m ∧ Hid (PS w3 S i (.slice a3 z c3) L wr)) (fun _ v15 _ => m - (intOf v15).toNat)
  case atStart => exact ⟨0, 0, 0, none, [], rfl, rfl, Nat.zero_le _, P0⟩
  case round =>
    clear P0
    obtain ⟨i, z, c3, a3, L, rfl, rfl, him, hP0⟩ := hrel
    by_cases hi : i < m
    · have hiI : (i : Int) < (m : Int) := by omega
      have i0 : (0 : Int) ≤ (i : Int) := by omega
      have iw : IntKind.i64.wrap ((i : Int) + 1) = ((i + 1 : Nat) : Int) := IntWalk.i64_in _ (by omega)
      obtain ⟨t, ht⟩ : ∃ t, T[i]? = some t := ⟨_, List.getElem?_eq_getElem (by rw [hmH.out]; exact hi)⟩
      obtain ⟨h1, h2, h3⟩ := hTH.out.2 i t ht
      obtain ⟨x, tx, cx⟩ := t
      simp only at h1 h2 h3
      have hxi : S[i]? = some x := by rw [hSeH.out, List.getElem?_map, ht]; rfl
      have hserx : Hid (∀ W, Below w3.heap.size w3 W → SerIn W tx x.s) := fun W hW => h2.belowW hW
      have hxt : x.s.t.length ≤ 4398046511104 := h3
      obtain ⟨nx, hnx'⟩ : ∃ nx, x.s.t.length = nx := ⟨_, rfl⟩
      have hnx : Hid (x.s.t.length = nx) := hnx'
      have aa := h1.below hP0.out.bl hTH.out.1
      unfold WAt at aa
      rw [hnx'] at aa
      obtain ⟨a1, a2, a3', a4, a5, a6⟩ := aa
      obtain ⟨K, hK⟩ : ∃ K, K = wr.heap.size := ⟨_, rfl⟩
      obtain ⟨W1, hW1⟩ : ∃ W1, W1 = wr.alloc (.cells #[.string x.s.m, .slice tx nx cx, .string x.s.f, .int .i64 x.tm, .int .u8 (x.kd : Int), .int .i64 x.n] 52) := ⟨_, rfl⟩
      have bW : Below wr.heap.size wr W1 := by rw [hW1]; exact (Below.refl _ wr).alloc (Nat.le_refl _) _
      have Kl : K < W1.heap.size := by rw [hW1, hK]; simp
      have x1 : W1.cell? ⟨K, 0, none⟩ = some (.string x.s.m) := by rw [hW1, hK]; simp [go_sem]
      have x2 : W1.cell? ⟨K, 1, none⟩ = some (.slice tx nx cx) := by rw [hW1, hK]; simp [go_sem]
      have x3 : W1.cell? ⟨K, 2, none⟩ = some (.string x.s.f) := by rw [hW1, hK]; simp [go_sem]
      have x4 : W1.cell? ⟨K, 3, none⟩ = some (.int .i64 x.tm) := by rw [hW1, hK]; simp [go_sem]
      have x5 : W1.cell? ⟨K, 4, none⟩ = some (.int .u8 (x.kd : Int)) := by rw [hW1, hK]; simp [go_sem]
      have x6 : W1.cell? ⟨K, 5, none⟩ = some (.int .i64 x.n) := by rw [hW1, hK]; simp [go_sem]
      have hP1 : Hid (PS w3 S i (.slice a3 z c3) L W1) := hP0.out.below bW
      have B1H : Hid (Below w3.heap.size w3 W1) := hP1.out.bl
      have hfK : Hid (∀ k, (∃ u ∈ L, fbk u = some k) → k ≠ K) := fun k ⟨u, hu, e⟩ => by
        have := ((hP0.out.pg.px.fd u hu).bound e).2
        omega
      have hrK : Hid (∀ k, (Value.slice a3 z c3).ownBlock = some k → k ≠ K) := fun k e => by
        have := (World.ownsRow.lt hP0.out.pg.row k e).2
        omega
      have hzl : Hid (z = L.length) := by
        rcases hP0.out.pg.row.2 with ⟨e, e0⟩ | ⟨_, _, _, e, _⟩
        · injection e with _ e _; show z = L.length; omega
        · injection e with _ e _
      have gl : g < W1.heap.size := Nat.lt_of_lt_of_le hTH.out.1 B1H.out.size
      clear h1 h2 h3 hnx' bW hP0 ht
      by_cases hi0 : i = 0
      · have hib : ((i : Int) == 0) = true := by simp; omega
        have HK : i = 0 ∨ ∃ y, S[i - 1]? = some y ∧ kC (pkO y) (pkO x) ≠ 0 := Or.inl hi0
        have HKH : Hid (i = 0 ∨ ∃ y, S[i - 1]? = some y ∧ kC (pkO y) (pkO x) ≠ 0) := HK
        clear hi0 HK
        go_wp2_with fail
        rw [← hW1, ← hK]
        clear hW1 hK a1 a2 a3' a4 a5 a6
        go_quiet (fail)
        generalize hwq : World.drewN W1 _ = wq
        have bq : Below W1.heap.size W1 wq := hwq ▸ bdrewB (Below.refl _ W1) _
        have hPS : Hid (PS w3 S i (.slice a3 z c3) L wq) := hP1.out.below bq
        have Kq : K < wq.heap.size := Nat.lt_of_lt_of_le Kl bq.size
        have q1 : wq.cell? ⟨K, 0, none⟩ = some (.string x.s.m) := by rw [bq.cell (p := ⟨K, 0, none⟩) Kl]; exact x1
        have q2 : wq.cell? ⟨K, 1, none⟩ = some (.slice tx nx cx) := by rw [bq.cell (p := ⟨K, 1, none⟩) Kl]; exact x2
        have q3 : wq.cell? ⟨K, 2, none⟩ = some (.string x.s.f) := by rw [bq.cell (p := ⟨K, 2, none⟩) Kl]; exact x3
        have q4 : wq.cell? ⟨K, 3, none⟩ = some (.int .i64 x.tm) := by rw [bq.cell (p := ⟨K, 3, none⟩) Kl]; exact x4
        have q5 : wq.cell? ⟨K, 4, none⟩ = some (.int .u8 (x.kd : Int)) := by rw [bq.cell (p := ⟨K, 4, none⟩) Kl]; exact x5
        have q6 : wq.cell? ⟨K, 5, none⟩ = some (.int .i64 x.n) := by rw [bq.cell (p := ⟨K, 5, none⟩) Kl]; exact x6
        clear x1 x2 x3 x4 x5 x6 bq hwq hP1 B1H Kl gl
        have HK := HKH.out
        clear HKH
        obtain ⟨gp, cp, w6, rP0, hP6, g6, hat6⟩ := hPS.out.new hSH.out hxi HK tx cx (hserx.out w3 (Below.refl _ _)).1 hxt (by omega)
        have zl : z = L.length := hzl.out
        rw [← zl] at rP0 hP6
        rw [hnx.out] at rP0
        have rP : Hid (∀ W, W = wq.alloc (.cells #[.string x.s.m, .slice tx nx cx, .slice none 0 0, .int .i64 x.tm] 41) → (Builtin.append_ #[26, 26] 26 #[.slice a3 z c3, .slice (some ⟨wq.heap.size, 0, none⟩) 1 1]).run Tryz.prog W = .ok (.slice (some ⟨gp, 0, none⟩) (z + 1) cp) w6) := fun W e => by subst e; exact rP0
        have hPM : Hid (PM w3 S i x (.slice (some ⟨gp, 0, none⟩) (z + 1) cp) (L ++ [(⟨x.s.m, x.s.t, [], x.tm⟩, (tx, cx), (none, 0))]) w6) := hP6
        have hk6 : w6.heap[K]? = wq.heap[K]? := g6.block K Kq (fun e => (hrK.out K e.symm) rfl)
        have r3 : w6.cell? ⟨K, 2, none⟩ = some (.string x.s.f) := by rw [World.cell?_of_block (w := wq) (a := ⟨K, 2, none⟩) hk6]; exact q3
        have r6 : w6.cell? ⟨K, 5, none⟩ = some (.int .i64 x.n) := by rw [World.cell?_of_block (w := wq) (a := ⟨K, 5, none⟩) hk6]; exact q6
        have hgK6 : Hid (gp ≠ K) := by
          rcases hat6 with e | e
          · exact fun q => hrK.out K (e.trans (by rw [← q])) rfl
          · show gp ≠ K; omega
        have Kq6 : K < w6.heap.size := Nat.lt_of_lt_of_le Kq g6.size
        have hfK6 : Hid (∀ k, (∃ u ∈ L ++ [((⟨x.s.m, x.s.t, [], x.tm⟩, (tx, cx), (none, 0)) : PtA)], fbk u = some k) → k ≠ K) := fun k ⟨u, hu, e⟩ => by
          rcases List.mem_append.1 hu with q | q
          · exact hfK.out k ⟨u, q, e⟩
          · rw [List.mem_singleton.1 q] at e; cases e
        have zle : z ≤ i := by rw [zl]; exact hPS.out.le
        obtain ⟨zw1, zw2, zw3, z0, z1, z2⟩ := nums6 z i zle (by omega)
        clear hPS rP0 hP6 g6 hk6 zl hfK zle hat6
        go_wp2_with (at_builtin; refine wpList_append_runB (by rfl) _ _ _ (by rfl) _ _ _ _ (by rfl) (by rfl) (rP.out _ rfl) ?_)
        clear rP q1 q2 q3 q4 q5 q6 Kq hrK zw1 zw2 zw3 z0 z1 z2
        have q3 := r3
        have q6 := r6
        have Kq := Kq6
        have hfK := hfK6
        clear r3 r6 Kq6 hfK6
        generalize w6 = wq at *
        generalize L ++ [((⟨x.s.m, x.s.t, [], x.tm⟩, (tx, cx), (none, 0)) : PtA)] = LM at *
        obtain ⟨fa, fn, fc, fa2, fc2, w8, L8, fb, nl, cF, rF0, hP8, c8, f8, g8, fb1, fb2⟩ := (hPM.out.below (show Below wq.heap.size wq wq.drew from (Below.refl _ wq).drew)).done (by omega)
        have lp := (hPM.out).len
        obtain ⟨last, hlast⟩ : ∃ last, LM.length = last + 1 := ⟨LM.length - 1, by omega⟩
        rw [hlast, Nat.add_sub_cancel] at cF hP8 c8 f8
        rw [hlast] at nl
        obtain rfl : last = z := by omega
        have hgK : Hid (gp ≠ K) := hgK6.out
        have fbK : ∀ k, fb = some k → k ≠ K := fun k e => hfK.out k (fb2 k e).2
        have sS : Hid (wq.drew.cell? ⟨gp, last * 4 + 2, none⟩ = some (.slice fa fn fc) ∧ wq.drew.cell? ⟨K, 2, none⟩ = some (.string x.s.f) ∧ wq.drew.cell? ⟨K, 5, none⟩ = some (.int .i64 x.n)) := ⟨cF, q3, q6⟩
        have gpl : gp < wq.heap.size := (hPM.out.pg.len).2.2.2
        have sA : Hid ((wq.drew.alloc (.cells #[.string x.s.f, .int .i64 x.n] 54)).cell? ⟨gp, last * 4 + 2, none⟩ = some (.slice fa fn fc) ∧ (wq.drew.alloc (.cells #[.string x.s.f, .int .i64 x.n] 54)).cell? ⟨K, 2, none⟩ = some (.string x.s.f) ∧ (wq.drew.alloc (.cells #[.string x.s.f, .int .i64 x.n] 54)).cell? ⟨K, 5, none⟩ = some (.int .i64 x.n)) := by
          have bA : Below wq.heap.size wq.drew (wq.drew.alloc (.cells #[.string x.s.f, .int .i64 x.n] 54)) := (Below.refl _ wq.drew).alloc (Nat.le_refl _) _
          exact ⟨by rw [bA.cell (p := ⟨gp, last * 4 + 2, none⟩) gpl]; exact sS.out.1, by rw [bA.cell (p := ⟨K, 2, none⟩) Kq]; exact sS.out.2.1, by rw [bA.cell (p := ⟨K, 5, none⟩) Kq]; exact sS.out.2.2⟩
        have sB : Hid (w8.cell? ⟨gp, last * 4 + 2, none⟩ = some (.slice fa fn fc) ∧ w8.cell? ⟨K, 2, none⟩ = some (.string x.s.f) ∧ w8.cell? ⟨K, 5, none⟩ = some (.int .i64 x.n)) := by
          have hk : w8.heap[K]? = wq.drew.heap[K]? := g8.block K Kq (fun e => fbK K e.symm rfl)
          exact ⟨c8, by rw [World.cell?_of_block (w := wq.drew) (a := ⟨K, 2, none⟩) hk]; exact sS.out.2.1, by rw [World.cell?_of_block (w := wq.drew) (a := ⟨K, 5, none⟩) hk]; exact sS.out.2.2⟩
        have sC : Hid ((w8.setCell ⟨gp, last * 4 + 2, none⟩ (.slice fa2 (fn + 1) fc2)).cell? ⟨K, 2, none⟩ = some (.string x.s.f) ∧ (w8.setCell ⟨gp, last * 4 + 2, none⟩ (.slice fa2 (fn + 1) fc2)).cell? ⟨K, 5, none⟩ = some (.int .i64 x.n)) := by
          have hne := hgK.out
          exact ⟨by rw [World.cell?_setCell_other _ _ _ _ (by intro e; injection e; omega)]; exact sB.out.2.1, by rw [World.cell?_setCell_other _ _ _ _ (by intro e; injection e; omega)]; exact sB.out.2.2⟩
        have cFd := sS.out.1
        have cFa := sA.out.1
        have cFq : wq.cell? ⟨gp, last * 4 + 2, none⟩ = some (.slice fa fn fc) := sS.out.1
        have rF : Hid (∀ W, W = wq.drew.alloc (.cells #[.string x.s.f, .int .i64 x.n] 54) → (Builtin.append_ #[39, 39] 39 #[.slice fa fn fc, .slice (some ⟨wq.heap.size, 0, none⟩) 1 1]).run Tryz.prog W = .ok (.slice fa2 (fn + 1) fc2) w8) := fun W e => by subst e; exact rF0
        have P8 : Hid (PS w3 S (i + 1) (.slice (some ⟨gp, 0, none⟩) (last + 1) cp) L8 (w8.setCell ⟨gp, last * 4 + 2, none⟩ (.slice fa2 (fn + 1) fc2))) := hP8
        clear hPM cF rF0 hP8 g8 fb1 fb2 fbK hlast lp
        refine wp_region_noPanic ?_
        refine wp_region_held_drew (S := fun W => W.cell? ⟨K, 2, none⟩ = some (.string x.s.f) ∧ W.cell? ⟨K, 5, none⟩ = some (.int .i64 x.n)) (by kernel_rfl) sS.out.2 (fun hHeld => ?_)
        refine zT 0 (v := ?_) rfl ?_ ?_
        rotate_left 1
        · (intro w0 hSw; (try dsimp only at hSw); obtain ⟨s1, s2⟩ := hSw; go_simp; try with_reducible rfl)
        (try simp only [z1, z2, z3]); (try simp only [Act.put, z4, z5, z6])
        refine zT 1 (v := ?_) rfl ?_ ?_
        rotate_left 1
        · (intro w0 hSw; (try dsimp only at hSw); obtain ⟨s1, s2⟩ := hSw; go_simp; try with_reducible rfl)
        (try simp only [z1, z2, z3]); (try simp only [Act.put, z4, z5, z6])
        refine zT 2 (v := ?_) rfl ?_ ?_
        rotate_left 1
        · (intro w0 hSw; (try dsimp only at hSw); obtain ⟨s1, s2⟩ := hSw; go_simp; try with_reducible rfl)
        (try simp only [z1, z2, z3]); (try simp only [Act.put, z4, z5, z6])
        refine zT 3 (v := ?_) rfl ?_ ?_
        rotate_left 1
        · (intro w0 hSw; (try dsimp only at hSw); obtain ⟨s1, s2⟩ := hSw; go_simp; try with_reducible rfl)
        (try simp only [z1, z2, z3]); (try simp only [Act.put, z4, z5, z6])
        refine zT 5 (v := ?_) rfl ?_ ?_
        rotate_left 1
        · (intro w0 hSw; (try dsimp only at hSw); obtain ⟨s1, s2⟩ := hSw; go_simp; try with_reducible rfl)
        (try simp only [z1, z2, z3]); (try simp only [Act.put, z4, z5, z6])
        refine zT 6 (v := ?_) rfl ?_ ?_
        rotate_left 1
        · (intro w0 hSw; (try dsimp only at hSw); obtain ⟨s1, s2⟩ := hSw; go_simp; try with_reducible rfl)
        (try simp only [z1, z2, z3]); (try simp only [Act.put, z4, z5, z6])
        refine zT 7 (v := ?_) rfl ?_ ?_
        rotate_left 1
        · (intro w0 hSw; (try dsimp only at hSw); obtain ⟨s1, s2⟩ := hSw; go_simp; try with_reducible rfl)
        (try simp only [z1, z2, z3]); (try simp only [Act.put, z4, z5, z6])
        refine zT 8 (v := ?_) rfl ?_ ?_
        rotate_left 1
        · (intro w0 hSw; (try dsimp only at hSw); obtain ⟨s1, s2⟩ := hSw; go_simp; try with_reducible rfl)
        (try simp only [z1, z2, z3]); (try simp only [Act.put, z4, z5, z6])
        refine zT 9 (v := ?_) rfl ?_ ?_
        rotate_left 1
        · (intro w0 hSw; (try dsimp only at hSw); obtain ⟨s1, s2⟩ := hSw; go_simp; try with_reducible rfl)
        (try simp only [z1, z2, z3]); (try simp only [Act.put, z4, z5, z6])
        refine zT 10 (v := ?_) rfl ?_ ?_
        rotate_left 1
        · (intro w0 hSw; (try dsimp only at hSw); obtain ⟨s1, s2⟩ := hSw; go_simp; try with_reducible rfl)
        (try simp only [z1, z2, z3]); (try simp only [Act.put, z4, z5, z6])
        refine zT 11 (v := ?_) rfl ?_ ?_
        rotate_left 1
        · (intro w0 hSw; (try dsimp only at hSw); obtain ⟨s1, s2⟩ := hSw; go_simp; try with_reducible rfl)
        (try simp only [z1, z2, z3]); (try simp only [Act.put, z4, z5, z6])
        refine zT 12 (v := ?_) rfl ?_ ?_
        rotate_left 1
        · (intro w0 hSw; (try dsimp only at hSw); obtain ⟨s1, s2⟩ := hSw; go_simp; try with_reducible rfl)
        (try simp only [z1, z2, z3]); (try simp only [Act.put, z4, z5, z6])
        refine wpAnyH_ready (rs := [4, 13]) (by kernel_rfl) (by simp) ?_
        refine AllReadyH.cons (o := _) rfl (fun K1 hK => ?_) ?_
        · go_simp
          try dsimp only
          refine hK _ _ sS.out.2 (fun hHeld => ?_)
          clear hK K1
          (try simp only [z1, z2, z3]); (try simp only [Act.put, z4, z5, z6])
          refine wpAnyH_ready (rs := [13]) (by kernel_rfl) (by simp) ?_
          refine AllReadyH.cons (o := _) rfl (fun K1 hK => ?_) AllReadyH.nil
          go_simp
          try dsimp only
          refine hK _ _ sA.out.2 (fun hHeld => ?_)
          clear hK K1
          (try simp only [z1, z2, z3]); (try simp only [Act.put, z4, z5, z6])
          refine wpAnyH_ready (rs := [14]) (by kernel_rfl) (by simp) ?_
          refine AllReadyH.cons (o := _) rfl (fun K1 hK => ?_) AllReadyH.nil
          refine step_append_runB rfl (.tmp 54) (.tmp 63) 39 rfl _ _ _ _ rfl rfl (rF.out _ rfl) ?_
          refine hK _ _ sB.out.2 (fun hHeld => ?_)
          clear hK K1
          (try simp only [z1, z2, z3]); (try simp only [Act.put, z4, z5, z6])
          refine zT 15 (v := ?_) rfl ?_ ?_
          rotate_left 1
          · (intro w0 hSw; (try dsimp only at hSw); obtain ⟨s1, s2⟩ := hSw; go_simp; try with_reducible rfl)
          (try simp only [z1, z2, z3]); (try simp only [Act.put, z4, z5, z6])
          refine zT 16 (v := ?_) rfl ?_ ?_
          rotate_left 1
          · (intro w0 hSw; (try dsimp only at hSw); obtain ⟨s1, s2⟩ := hSw; go_simp; try with_reducible rfl)
          (try simp only [z1, z2, z3]); (try simp only [Act.put, z4, z5, z6])
          refine wpAnyH_ready (rs := [17]) (by kernel_rfl) (by simp) ?_
          refine AllReadyH.cons (o := _) rfl (fun K1 hK => ?_) AllReadyH.nil
          go_simp
          try dsimp only
          refine hK _ _ sC.out (fun hHeld => ?_)
          clear hK K1
          (try simp only [z1, z2, z3]); (try simp only [Act.put, z4, z5, z6])
          refine wpAnyH_done (by kernel_rfl) ?_ _
          refine NoPanic.normal ?_
          clear sS sA sB sC rF c8 f8 q3 q6 cFd cFa cFq
          go_wp2_with fail
          exact ⟨⟨i + 1, last + 1, cp, some ⟨gp, 0, none⟩, L8, rfl, by first | rfl | simp, by omega, P8⟩, by simp [intOf]; omega⟩
        refine AllReadyH.cons (o := _) rfl (fun K1 hK => ?_) AllReadyH.nil
        go_simp
        try dsimp only
        refine hK _ _ sA.out.2 (fun hHeld => ?_)
        clear hK K1
        (try simp only [z1, z2, z3]); (try simp only [Act.put, z4, z5, z6])
        refine wpAnyH_ready (rs := [4]) (by kernel_rfl) (by simp) ?_
        refine AllReadyH.cons (o := _) rfl (fun K1 hK => ?_) AllReadyH.nil
        go_simp
        try dsimp only
        refine hK _ _ sA.out.2 (fun hHeld => ?_)
        clear hK K1
        (try simp only [z1, z2, z3]); (try simp only [Act.put, z4, z5, z6])
        refine wpAnyH_ready (rs := [14]) (by kernel_rfl) (by simp) ?_
        refine AllReadyH.cons (o := _) rfl (fun K1 hK => ?_) AllReadyH.nil
        refine step_append_runB rfl (.tmp 54) (.tmp 63) 39 rfl _ _ _ _ rfl rfl (rF.out _ rfl) ?_
        refine hK _ _ sB.out.2 (fun hHeld => ?_)
        clear hK K1
        (try simp only [z1, z2, z3]); (try simp only [Act.put, z4, z5, z6])
        refine zT 15 (v := ?_) rfl ?_ ?_
        rotate_left 1
        · (intro w0 hSw; (try dsimp only at hSw); obtain ⟨s1, s2⟩ := hSw; go_simp; try with_reducible rfl)
        (try simp only [z1, z2, z3]); (try simp only [Act.put, z4, z5, z6])
        refine zT 16 (v := ?_) rfl ?_ ?_
        rotate_left 1
        · (intro w0 hSw; (try dsimp only at hSw); obtain ⟨s1, s2⟩ := hSw; go_simp; try with_reducible rfl)
        (try simp only [z1, z2, z3]); (try simp only [Act.put, z4, z5, z6])
        refine wpAnyH_ready (rs := [17]) (by kernel_rfl) (by simp) ?_
        refine AllReadyH.cons (o := _) rfl (fun K1 hK => ?_) AllReadyH.nil
        go_simp
        try dsimp only
        refine hK _ _ sC.out (fun hHeld => ?_)
        clear hK K1
        (try simp only [z1, z2, z3]); (try simp only [Act.put, z4, z5, z6])
        refine wpAnyH_done (by kernel_rfl) ?_ _
        refine NoPanic.normal ?_
        clear sS sA sB sC rF c8 f8 q3 q6 cFd cFa cFq
        go_wp2_with fail
        exact ⟨⟨i + 1, last + 1, cp, some ⟨gp, 0, none⟩, L8, rfl, by first | rfl | simp, by omega, P8⟩, by simp [intOf]; omega⟩
      · have hib : ((i : Int) == 0) = false := by simp; omega
        obtain ⟨t, ht⟩ : ∃ t, T[i - 1]? = some t := ⟨_, List.getElem?_eq_getElem (by rw [hmH.out]; omega)⟩
        obtain ⟨h1, h2, h3⟩ := hTH.out.2 (i - 1) t ht
        obtain ⟨y, ty, cy⟩ := t
        simp only at h1 h2 h3
        have hyi : S[i - 1]? = some y := by rw [hSeH.out, List.getElem?_map, ht]; rfl
        have CH : Hid (∀ W, Below w3.heap.size w3 W → Calls Tryz.prog 23 #[wV y ty cy, wV x tx cx] W fun e w' => e = .returned (.int .i64 (kC (pkO y) (pkO x))) ∧ Below W.heap.size W w') := fun W hW => comparePoints_any y x ty tx cy cx W (h2.belowW hW) (hserx.out W hW)
        have yy := h1.below B1H.out hTH.out.1
        unfold WAt at yy
        unfold wV at CH
        rw [hnx.out] at CH
        generalize y.s.t.length = ny at yy CH
        obtain ⟨y1, y2, y3, y4, y5, y6⟩ := yy
        obtain ⟨cv, hcv⟩ : ∃ cv, kC (pkO y) (pkO x) = cv := ⟨_, rfl⟩
        have hcH : Hid (kC (pkO y) (pkO x) = cv) := hcv
        rw [hcv] at CH
        have im : IntKind.i64.wrap ((i : Int) - 1) = (i : Int) - 1 := IntWalk.i64_in _ (by omega)
        have im0 : (0 : Int) ≤ (i : Int) - 1 := by omega
        have im1 : (i : Int) - 1 < (m : Int) := by omega
        have im2 : (1 : Int) ≤ (i : Int) := by omega
        have hi0H : Hid (¬ i = 0) := hi0
        clear hcv h1 h2 h3 ht hi0
        by_cases hc0 : cv = 0
        · have hc1 : (cv == 0) = true := by simpa using hc0
          have hc2 : (cv != 0) = false := by simp [hc0]
          have hc0H : Hid (cv = 0) := hc0
          clear hc0
          go_wp2_with fail
          rw [← hW1, ← hK]
          clear hW1 hK a1 a2 a3' a4 a5 a6
          refine wp_region_noPanic ?_
          refine wp_region_held_drew (S := fun W => (W.cell? ⟨g, (i - 1) * 6, none⟩ = some (.string y.s.m) ∧ W.cell? ⟨g, (i - 1) * 6 + 1, none⟩ = some (.slice ty ny cy) ∧ W.cell? ⟨g, (i - 1) * 6 + 2, none⟩ = some (.string y.s.f) ∧ W.cell? ⟨g, (i - 1) * 6 + 3, none⟩ = some (.int .i64 y.tm) ∧ W.cell? ⟨g, (i - 1) * 6 + 4, none⟩ = some (.int .u8 (y.kd : Int)) ∧ W.cell? ⟨g, (i - 1) * 6 + 5, none⟩ = some (.int .i64 y.n)) ∧ W.cell? ⟨K, 0, none⟩ = some (.string x.s.m) ∧ W.cell? ⟨K, 1, none⟩ = some (.slice tx nx cx) ∧ W.cell? ⟨K, 2, none⟩ = some (.string x.s.f) ∧ W.cell? ⟨K, 3, none⟩ = some (.int .i64 x.tm) ∧ W.cell? ⟨K, 4, none⟩ = some (.int .u8 (x.kd : Int)) ∧ W.cell? ⟨K, 5, none⟩ = some (.int .i64 x.n)) (by kernel_rfl) ⟨⟨y1, y2, y3, y4, y5, y6⟩, x1, x2, x3, x4, x5, x6⟩ (fun hHeld => ?_)
          refine zT 0 (v := ?_) rfl ?_ ?_
          rotate_left 1
          · (intro w0 hSw; (try dsimp only at hSw); obtain ⟨⟨s1, s2, s3, s4, s5, s6⟩, t1, t2, t3, t4, t5, t6⟩ := hSw; go_simp; try with_reducible rfl)
          (try simp only [z1, z2, z3]); (try simp only [Act.put, z4, z5, z6])
          refine zT 1 (v := ?_) rfl ?_ ?_
          rotate_left 1
          · (intro w0 hSw; (try dsimp only at hSw); obtain ⟨⟨s1, s2, s3, s4, s5, s6⟩, t1, t2, t3, t4, t5, t6⟩ := hSw; go_simp; try with_reducible rfl)
          (try simp only [z1, z2, z3]); (try simp only [Act.put, z4, z5, z6])
          refine zT 2 (v := ?_) rfl ?_ ?_
          rotate_left 1
          · (intro w0 hSw; (try dsimp only at hSw); obtain ⟨⟨s1, s2, s3, s4, s5, s6⟩, t1, t2, t3, t4, t5, t6⟩ := hSw; go_simp; try with_reducible rfl)
          (try simp only [z1, z2, z3]); (try simp only [Act.put, z4, z5, z6])
          refine zT 3 (v := ?_) rfl ?_ ?_
          rotate_left 1
          · (intro w0 hSw; (try dsimp only at hSw); obtain ⟨⟨s1, s2, s3, s4, s5, s6⟩, t1, t2, t3, t4, t5, t6⟩ := hSw; go_simp; try with_reducible rfl)
          (try simp only [z1, z2, z3]); (try simp only [Act.put, z4, z5, z6])
          refine zT 4 (v := ?_) rfl ?_ ?_
          rotate_left 1
          · (intro w0 hSw; (try dsimp only at hSw); obtain ⟨⟨s1, s2, s3, s4, s5, s6⟩, t1, t2, t3, t4, t5, t6⟩ := hSw; go_simp; try with_reducible rfl)
          (try simp only [z1, z2, z3]); (try simp only [Act.put, z4, z5, z6])
          refine zT 5 (v := ?_) rfl ?_ ?_
          rotate_left 1
          · (intro w0 hSw; (try dsimp only at hSw); obtain ⟨⟨s1, s2, s3, s4, s5, s6⟩, t1, t2, t3, t4, t5, t6⟩ := hSw; go_simp; try with_reducible rfl)
          (try simp only [z1, z2, z3]); (try simp only [Act.put, z4, z5, z6])
          refine zT 6 (v := ?_) rfl ?_ ?_
          rotate_left 1
          · (intro w0 hSw; (try dsimp only at hSw); obtain ⟨⟨s1, s2, s3, s4, s5, s6⟩, t1, t2, t3, t4, t5, t6⟩ := hSw; go_simp; try with_reducible rfl)
          (try simp only [z1, z2, z3]); (try simp only [Act.put, z4, z5, z6])
          refine zT 7 (v := ?_) rfl ?_ ?_
          rotate_left 1
          · (intro w0 hSw; (try dsimp only at hSw); obtain ⟨⟨s1, s2, s3, s4, s5, s6⟩, t1, t2, t3, t4, t5, t6⟩ := hSw; go_simp; try with_reducible rfl)
          (try simp only [z1, z2, z3]); (try simp only [Act.put, z4, z5, z6])
          refine zT 8 (v := ?_) rfl ?_ ?_
          rotate_left 1
          · (intro w0 hSw; (try dsimp only at hSw); obtain ⟨⟨s1, s2, s3, s4, s5, s6⟩, t1, t2, t3, t4, t5, t6⟩ := hSw; go_simp; try with_reducible rfl)
          (try simp only [z1, z2, z3]); (try simp only [Act.put, z4, z5, z6])
          refine wpAnyH_ready (rs := [9]) (by kernel_rfl) (by simp) ?_
          refine AllReadyH.cons (o := _) rfl (fun K0 hK => ?_) AllReadyH.nil
          go_simp
          refine Calls.mono (CH.out _ (show Below w3.heap.size w3 W1.drew from B1H.out.drew)) ?_
          rintro e w' ⟨rfl, BB⟩
          try dsimp only
          refine hK _ _ ?_ (fun hHeld => ?_)
          · exact ⟨⟨by rw [BB.cell (p := ⟨g, (i - 1) * 6, none⟩) gl]; exact y1, by rw [BB.cell (p := ⟨g, (i - 1) * 6 + 1, none⟩) gl]; exact y2, by rw [BB.cell (p := ⟨g, (i - 1) * 6 + 2, none⟩) gl]; exact y3, by rw [BB.cell (p := ⟨g, (i - 1) * 6 + 3, none⟩) gl]; exact y4, by rw [BB.cell (p := ⟨g, (i - 1) * 6 + 4, none⟩) gl]; exact y5, by rw [BB.cell (p := ⟨g, (i - 1) * 6 + 5, none⟩) gl]; exact y6⟩, by rw [BB.cell (p := ⟨K, 0, none⟩) Kl]; exact x1, by rw [BB.cell (p := ⟨K, 1, none⟩) Kl]; exact x2, by rw [BB.cell (p := ⟨K, 2, none⟩) Kl]; exact x3, by rw [BB.cell (p := ⟨K, 3, none⟩) Kl]; exact x4, by rw [BB.cell (p := ⟨K, 4, none⟩) Kl]; exact x5, by rw [BB.cell (p := ⟨K, 5, none⟩) Kl]; exact x6⟩
          clear hK K0
          (try simp only [z1, z2, z3]); (try simp only [Act.put, z4, z5, z6])
          refine zT 10 (v := ?_) rfl ?_ ?_
          rotate_left 1
          · (intro w0 hSw; (try dsimp only at hSw); obtain ⟨⟨s1, s2, s3, s4, s5, s6⟩, t1, t2, t3, t4, t5, t6⟩ := hSw; go_simp; try with_reducible rfl)
          (try simp only [z1, z2, z3]); (try simp only [Act.put, z4, z5, z6])
          refine zT 11 (v := ?_) rfl ?_ ?_
          rotate_left 1
          · (intro w0 hSw; (try dsimp only at hSw); obtain ⟨⟨s1, s2, s3, s4, s5, s6⟩, t1, t2, t3, t4, t5, t6⟩ := hSw; go_simp; try with_reducible rfl)
          (try simp only [z1, z2, z3]); (try simp only [Act.put, z4, z5, z6])
          refine wpAnyH_done (by kernel_rfl) ?_ _
          refine NoPanic.normal ?_
          have bq : Below W1.heap.size W1 w' := (show Below W1.heap.size W1 W1.drew from (Below.refl _ W1).drew).trans BB
          generalize w' = wq at *
          have hPS : Hid (PS w3 S i (.slice a3 z c3) L wq) := hP1.out.below bq
          have Kq : K < wq.heap.size := Nat.lt_of_lt_of_le Kl bq.size
          have q1 : wq.cell? ⟨K, 0, none⟩ = some (.string x.s.m) := by rw [bq.cell (p := ⟨K, 0, none⟩) Kl]; exact x1
          have q2 : wq.cell? ⟨K, 1, none⟩ = some (.slice tx nx cx) := by rw [bq.cell (p := ⟨K, 1, none⟩) Kl]; exact x2
          have q3 : wq.cell? ⟨K, 2, none⟩ = some (.string x.s.f) := by rw [bq.cell (p := ⟨K, 2, none⟩) Kl]; exact x3
          have q4 : wq.cell? ⟨K, 3, none⟩ = some (.int .i64 x.tm) := by rw [bq.cell (p := ⟨K, 3, none⟩) Kl]; exact x4
          have q5 : wq.cell? ⟨K, 4, none⟩ = some (.int .u8 (x.kd : Int)) := by rw [bq.cell (p := ⟨K, 4, none⟩) Kl]; exact x5
          have q6 : wq.cell? ⟨K, 5, none⟩ = some (.int .i64 x.n) := by rw [bq.cell (p := ⟨K, 5, none⟩) Kl]; exact x6
          clear x1 x2 x3 x4 x5 x6 bq hP1 B1H Kl gl
          have hPM0 : PM w3 S i x (.slice a3 z c3) L wq := hPS.out.same hSH.out (by have := hi0H.out; omega) hxi hyi (by rw [hcH.out]; exact hc0H.out)
          obtain ⟨gp, hgp⟩ : ∃ gp, a3 = some ⟨gp, 0, none⟩ := by
            rcases hPM0.pg.row.2 with ⟨_, e0⟩ | ⟨g', _, _, e, _⟩
            · have := hPM0.len; omega
            · injection e with e _ _; exact ⟨g', e⟩
          subst hgp
          have hPM : Hid (PM w3 S i x (.slice (some ⟨gp, 0, none⟩) z c3) L wq) := hPM0
          clear hPM0 hPS q1 q2 q4 q5 hc0H hcH CH y1 y2 y3 y4 y5 y6 BB
          generalize hLM : L = LM at *
          generalize hcp : c3 = cp at *
          obtain ⟨fa, fn, fc, fa2, fc2, w8, L8, fb, nl, cF, rF0, hP8, c8, f8, g8, fb1, fb2⟩ := (hPM.out.below (show Below wq.heap.size wq wq.drew from (Below.refl _ wq).drew)).done (by omega)
          have lp := (hPM.out).len
          obtain ⟨last, hlast⟩ : ∃ last, LM.length = last + 1 := ⟨LM.length - 1, by omega⟩
          rw [hlast, Nat.add_sub_cancel] at cF hP8 c8 f8
          rw [hlast] at nl
          subst nl
          have hgK : Hid (gp ≠ K) := (fun e => hrK.out gp rfl e)
          have fbK : ∀ k, fb = some k → k ≠ K := fun k e => hfK.out k (fb2 k e).2
          have sS : Hid (wq.drew.cell? ⟨gp, last * 4 + 2, none⟩ = some (.slice fa fn fc) ∧ wq.drew.cell? ⟨K, 2, none⟩ = some (.string x.s.f) ∧ wq.drew.cell? ⟨K, 5, none⟩ = some (.int .i64 x.n)) := ⟨cF, q3, q6⟩
          have gpl : gp < wq.heap.size := (hPM.out.pg.len).2.2.2
          have sA : Hid ((wq.drew.alloc (.cells #[.string x.s.f, .int .i64 x.n] 54)).cell? ⟨gp, last * 4 + 2, none⟩ = some (.slice fa fn fc) ∧ (wq.drew.alloc (.cells #[.string x.s.f, .int .i64 x.n] 54)).cell? ⟨K, 2, none⟩ = some (.string x.s.f) ∧ (wq.drew.alloc (.cells #[.string x.s.f, .int .i64 x.n] 54)).cell? ⟨K, 5, none⟩ = some (.int .i64 x.n)) := by
            have bA : Below wq.heap.size wq.drew (wq.drew.alloc (.cells #[.string x.s.f, .int .i64 x.n] 54)) := (Below.refl _ wq.drew).alloc (Nat.le_refl _) _
            exact ⟨by rw [bA.cell (p := ⟨gp, last * 4 + 2, none⟩) gpl]; exact sS.out.1, by rw [bA.cell (p := ⟨K, 2, none⟩) Kq]; exact sS.out.2.1, by rw [bA.cell (p := ⟨K, 5, none⟩) Kq]; exact sS.out.2.2⟩
          have sB : Hid (w8.cell? ⟨gp, last * 4 + 2, none⟩ = some (.slice fa fn fc) ∧ w8.cell? ⟨K, 2, none⟩ = some (.string x.s.f) ∧ w8.cell? ⟨K, 5, none⟩ = some (.int .i64 x.n)) := by
            have hk : w8.heap[K]? = wq.drew.heap[K]? := g8.block K Kq (fun e => fbK K e.symm rfl)
            exact ⟨c8, by rw [World.cell?_of_block (w := wq.drew) (a := ⟨K, 2, none⟩) hk]; exact sS.out.2.1, by rw [World.cell?_of_block (w := wq.drew) (a := ⟨K, 5, none⟩) hk]; exact sS.out.2.2⟩
          have sC : Hid ((w8.setCell ⟨gp, last * 4 + 2, none⟩ (.slice fa2 (fn + 1) fc2)).cell? ⟨K, 2, none⟩ = some (.string x.s.f) ∧ (w8.setCell ⟨gp, last * 4 + 2, none⟩ (.slice fa2 (fn + 1) fc2)).cell? ⟨K, 5, none⟩ = some (.int .i64 x.n)) := by
            have hne := hgK.out
            exact ⟨by rw [World.cell?_setCell_other _ _ _ _ (by intro e; injection e; omega)]; exact sB.out.2.1, by rw [World.cell?_setCell_other _ _ _ _ (by intro e; injection e; omega)]; exact sB.out.2.2⟩
          have cFd := sS.out.1
          have cFa := sA.out.1
          have cFq : wq.cell? ⟨gp, last * 4 + 2, none⟩ = some (.slice fa fn fc) := sS.out.1
          have rF : Hid (∀ W, W = wq.drew.alloc (.cells #[.string x.s.f, .int .i64 x.n] 54) → (Builtin.append_ #[39, 39] 39 #[.slice fa fn fc, .slice (some ⟨wq.heap.size, 0, none⟩) 1 1]).run Tryz.prog W = .ok (.slice fa2 (fn + 1) fc2) w8) := fun W e => by subst e; exact rF0
          have P8 : Hid (PS w3 S (i + 1) (.slice (some ⟨gp, 0, none⟩) (last + 1) cp) L8 (w8.setCell ⟨gp, last * 4 + 2, none⟩ (.slice fa2 (fn + 1) fc2))) := hP8
          obtain ⟨lw, lw2, lw3, l0, l1, l2⟩ := nums6 last i (by have := hPM.out.le; omega) (by omega)
          clear hPM cF rF0 hP8 g8 fb1 fb2 fbK hlast lp
          go_wp2_with fail
          refine wp_region_noPanic ?_
          refine wp_region_held_drew (S := fun W => W.cell? ⟨K, 2, none⟩ = some (.string x.s.f) ∧ W.cell? ⟨K, 5, none⟩ = some (.int .i64 x.n)) (by kernel_rfl) sS.out.2 (fun hHeld => ?_)
          refine zT 0 (v := ?_) rfl ?_ ?_
          rotate_left 1
          · (intro w0 hSw; (try dsimp only at hSw); obtain ⟨s1, s2⟩ := hSw; go_simp; try with_reducible rfl)
          (try simp only [z1, z2, z3]); (try simp only [Act.put, z4, z5, z6])
          refine zT 1 (v := ?_) rfl ?_ ?_
          rotate_left 1
          · (intro w0 hSw; (try dsimp only at hSw); obtain ⟨s1, s2⟩ := hSw; go_simp; try with_reducible rfl)
          (try simp only [z1, z2, z3]); (try simp only [Act.put, z4, z5, z6])
          refine zT 2 (v := ?_) rfl ?_ ?_
          rotate_left 1
          · (intro w0 hSw; (try dsimp only at hSw); obtain ⟨s1, s2⟩ := hSw; go_simp; try with_reducible rfl)
          (try simp only [z1, z2, z3]); (try simp only [Act.put, z4, z5, z6])
          refine zT 3 (v := ?_) rfl ?_ ?_
          rotate_left 1
          · (intro w0 hSw; (try dsimp only at hSw); obtain ⟨s1, s2⟩ := hSw; go_simp; try with_reducible rfl)
          (try simp only [z1, z2, z3]); (try simp only [Act.put, z4, z5, z6])
          refine zT 5 (v := ?_) rfl ?_ ?_
          rotate_left 1
          · (intro w0 hSw; (try dsimp only at hSw); obtain ⟨s1, s2⟩ := hSw; go_simp; try with_reducible rfl)
          (try simp only [z1, z2, z3]); (try simp only [Act.put, z4, z5, z6])
          refine zT 6 (v := ?_) rfl ?_ ?_
          rotate_left 1
          · (intro w0 hSw; (try dsimp only at hSw); obtain ⟨s1, s2⟩ := hSw; go_simp; try with_reducible rfl)
          (try simp only [z1, z2, z3]); (try simp only [Act.put, z4, z5, z6])
          refine zT 7 (v := ?_) rfl ?_ ?_
          rotate_left 1
          · (intro w0 hSw; (try dsimp only at hSw); obtain ⟨s1, s2⟩ := hSw; go_simp; try with_reducible rfl)
          (try simp only [z1, z2, z3]); (try simp only [Act.put, z4, z5, z6])
          refine zT 8 (v := ?_) rfl ?_ ?_
          rotate_left 1
          · (intro w0 hSw; (try dsimp only at hSw); obtain ⟨s1, s2⟩ := hSw; go_simp; try with_reducible rfl)
          (try simp only [z1, z2, z3]); (try simp only [Act.put, z4, z5, z6])
          refine zT 9 (v := ?_) rfl ?_ ?_
          rotate_left 1
          · (intro w0 hSw; (try dsimp only at hSw); obtain ⟨s1, s2⟩ := hSw; go_simp; try with_reducible rfl)
          (try simp only [z1, z2, z3]); (try simp only [Act.put, z4, z5, z6])
          refine zT 10 (v := ?_) rfl ?_ ?_
          rotate_left 1
          · (intro w0 hSw; (try dsimp only at hSw); obtain ⟨s1, s2⟩ := hSw; go_simp; try with_reducible rfl)
          (try simp only [z1, z2, z3]); (try simp only [Act.put, z4, z5, z6])
          refine zT 11 (v := ?_) rfl ?_ ?_
          rotate_left 1
          · (intro w0 hSw; (try dsimp only at hSw); obtain ⟨s1, s2⟩ := hSw; go_simp; try with_reducible rfl)
          (try simp only [z1, z2, z3]); (try simp only [Act.put, z4, z5, z6])
          refine zT 12 (v := ?_) rfl ?_ ?_
          rotate_left 1
          · (intro w0 hSw; (try dsimp only at hSw); obtain ⟨s1, s2⟩ := hSw; go_simp; try with_reducible rfl)
          (try simp only [z1, z2, z3]); (try simp only [Act.put, z4, z5, z6])
          refine wpAnyH_ready (rs := [4, 13]) (by kernel_rfl) (by simp) ?_
          refine AllReadyH.cons (o := _) rfl (fun K1 hK => ?_) ?_
          · go_simp
            try dsimp only
            refine hK _ _ sS.out.2 (fun hHeld => ?_)
            clear hK K1
            (try simp only [z1, z2, z3]); (try simp only [Act.put, z4, z5, z6])
            refine wpAnyH_ready (rs := [13]) (by kernel_rfl) (by simp) ?_
            refine AllReadyH.cons (o := _) rfl (fun K1 hK => ?_) AllReadyH.nil
            go_simp
            try dsimp only
            refine hK _ _ sA.out.2 (fun hHeld => ?_)
            clear hK K1
            (try simp only [z1, z2, z3]); (try simp only [Act.put, z4, z5, z6])
            refine wpAnyH_ready (rs := [14]) (by kernel_rfl) (by simp) ?_
            refine AllReadyH.cons (o := _) rfl (fun K1 hK => ?_) AllReadyH.nil
            refine step_append_runB rfl (.tmp 54) (.tmp 63) 39 rfl _ _ _ _ rfl rfl (rF.out _ rfl) ?_
            refine hK _ _ sB.out.2 (fun hHeld => ?_)
            clear hK K1
            (try simp only [z1, z2, z3]); (try simp only [Act.put, z4, z5, z6])
            refine zT 15 (v := ?_) rfl ?_ ?_
            rotate_left 1
            · (intro w0 hSw; (try dsimp only at hSw); obtain ⟨s1, s2⟩ := hSw; go_simp; try with_reducible rfl)
            (try simp only [z1, z2, z3]); (try simp only [Act.put, z4, z5, z6])
            refine zT 16 (v := ?_) rfl ?_ ?_
            rotate_left 1
            · (intro w0 hSw; (try dsimp only at hSw); obtain ⟨s1, s2⟩ := hSw; go_simp; try with_reducible rfl)
            (try simp only [z1, z2, z3]); (try simp only [Act.put, z4, z5, z6])
            refine wpAnyH_ready (rs := [17]) (by kernel_rfl) (by simp) ?_
            refine AllReadyH.cons (o := _) rfl (fun K1 hK => ?_) AllReadyH.nil
            go_simp
            try dsimp only
            refine hK _ _ sC.out (fun hHeld => ?_)
            clear hK K1
            (try simp only [z1, z2, z3]); (try simp only [Act.put, z4, z5, z6])
            refine wpAnyH_done (by kernel_rfl) ?_ _
            refine NoPanic.normal ?_
            clear sS sA sB sC rF c8 f8 q3 q6 cFd cFa cFq
            go_wp2_with fail
            exact ⟨⟨i + 1, last + 1, cp, some ⟨gp, 0, none⟩, L8, rfl, by first | rfl | simp, by omega, P8⟩, by simp [intOf]; omega⟩
          refine AllReadyH.cons (o := _) rfl (fun K1 hK => ?_) AllReadyH.nil
          go_simp
          try dsimp only
          refine hK _ _ sA.out.2 (fun hHeld => ?_)
          clear hK K1
          (try simp only [z1, z2, z3]); (try simp only [Act.put, z4, z5, z6])
          refine wpAnyH_ready (rs := [4]) (by kernel_rfl) (by simp) ?_
          refine AllReadyH.cons (o := _) rfl (fun K1 hK => ?_) AllReadyH.nil
          go_simp
          try dsimp only
          refine hK _ _ sA.out.2 (fun hHeld => ?_)
          clear hK K1
          (try simp only [z1, z2, z3]); (try simp only [Act.put, z4, z5, z6])
          refine wpAnyH_ready (rs := [14]) (by kernel_rfl) (by simp) ?_
          refine AllReadyH.cons (o := _) rfl (fun K1 hK => ?_) AllReadyH.nil
          refine step_append_runB rfl (.tmp 54) (.tmp 63) 39 rfl _ _ _ _ rfl rfl (rF.out _ rfl) ?_
          refine hK _ _ sB.out.2 (fun hHeld => ?_)
          clear hK K1
          (try simp only [z1, z2, z3]); (try simp only [Act.put, z4, z5, z6])
          refine zT 15 (v := ?_) rfl ?_ ?_
          rotate_left 1
          · (intro w0 hSw; (try dsimp only at hSw); obtain ⟨s1, s2⟩ := hSw; go_simp; try with_reducible rfl)
          (try simp only [z1, z2, z3]); (try simp only [Act.put, z4, z5, z6])
          refine zT 16 (v := ?_) rfl ?_ ?_
          rotate_left 1
          · (intro w0 hSw; (try dsimp only at hSw); obtain ⟨s1, s2⟩ := hSw; go_simp; try with_reducible rfl)
          (try simp only [z1, z2, z3]); (try simp only [Act.put, z4, z5, z6])
          refine wpAnyH_ready (rs := [17]) (by kernel_rfl) (by simp) ?_
          refine AllReadyH.cons (o := _) rfl (fun K1 hK => ?_) AllReadyH.nil
          go_simp
          try dsimp only
          refine hK _ _ sC.out (fun hHeld => ?_)
          clear hK K1
          (try simp only [z1, z2, z3]); (try simp only [Act.put, z4, z5, z6])
          refine wpAnyH_done (by kernel_rfl) ?_ _
          refine NoPanic.normal ?_
          clear sS sA sB sC rF c8 f8 q3 q6 cFd cFa cFq
          go_wp2_with fail
          exact ⟨⟨i + 1, last + 1, cp, some ⟨gp, 0, none⟩, L8, rfl, by first | rfl | simp, by omega, P8⟩, by simp [intOf]; omega⟩
        · have hc1 : (cv == 0) = false := by simpa using hc0
          have hc2 : (cv != 0) = true := by simp [hc0]
          have hc0H : Hid (¬ cv = 0) := hc0
          clear hc0
          go_wp2_with fail
          rw [← hW1, ← hK]
          clear hW1 hK a1 a2 a3' a4 a5 a6
          refine wp_region_noPanic ?_
          refine wp_region_held_drew (S := fun W => (W.cell? ⟨g, (i - 1) * 6, none⟩ = some (.string y.s.m) ∧ W.cell? ⟨g, (i - 1) * 6 + 1, none⟩ = some (.slice ty ny cy) ∧ W.cell? ⟨g, (i - 1) * 6 + 2, none⟩ = some (.string y.s.f) ∧ W.cell? ⟨g, (i - 1) * 6 + 3, none⟩ = some (.int .i64 y.tm) ∧ W.cell? ⟨g, (i - 1) * 6 + 4, none⟩ = some (.int .u8 (y.kd : Int)) ∧ W.cell? ⟨g, (i - 1) * 6 + 5, none⟩ = some (.int .i64 y.n)) ∧ W.cell? ⟨K, 0, none⟩ = some (.string x.s.m) ∧ W.cell? ⟨K, 1, none⟩ = some (.slice tx nx cx) ∧ W.cell? ⟨K, 2, none⟩ = some (.string x.s.f) ∧ W.cell? ⟨K, 3, none⟩ = some (.int .i64 x.tm) ∧ W.cell? ⟨K, 4, none⟩ = some (.int .u8 (x.kd : Int)) ∧ W.cell? ⟨K, 5, none⟩ = some (.int .i64 x.n)) (by kernel_rfl) ⟨⟨y1, y2, y3, y4, y5, y6⟩, x1, x2, x3, x4, x5, x6⟩ (fun hHeld => ?_)
          refine zT 0 (v := ?_) rfl ?_ ?_
          rotate_left 1
          · (intro w0 hSw; (try dsimp only at hSw); obtain ⟨⟨s1, s2, s3, s4, s5, s6⟩, t1, t2, t3, t4, t5, t6⟩ := hSw; go_simp; try with_reducible rfl)
          (try simp only [z1, z2, z3]); (try simp only [Act.put, z4, z5, z6])
          refine zT 1 (v := ?_) rfl ?_ ?_
          rotate_left 1
          · (intro w0 hSw; (try dsimp only at hSw); obtain ⟨⟨s1, s2, s3, s4, s5, s6⟩, t1, t2, t3, t4, t5, t6⟩ := hSw; go_simp; try with_reducible rfl)
          (try simp only [z1, z2, z3]); (try simp only [Act.put, z4, z5, z6])
          refine zT 2 (v := ?_) rfl ?_ ?_
          rotate_left 1
          · (intro w0 hSw; (try dsimp only at hSw); obtain ⟨⟨s1, s2, s3, s4, s5, s6⟩, t1, t2, t3, t4, t5, t6⟩ := hSw; go_simp; try with_reducible rfl)
          (try simp only [z1, z2, z3]); (try simp only [Act.put, z4, z5, z6])
          refine zT 3 (v := ?_) rfl ?_ ?_
          rotate_left 1
          · (intro w0 hSw; (try dsimp only at hSw); obtain ⟨⟨s1, s2, s3, s4, s5, s6⟩, t1, t2, t3, t4, t5, t6⟩ := hSw; go_simp; try with_reducible rfl)
          (try simp only [z1, z2, z3]); (try simp only [Act.put, z4, z5, z6])
          refine zT 4 (v := ?_) rfl ?_ ?_
          rotate_left 1
          · (intro w0 hSw; (try dsimp only at hSw); obtain ⟨⟨s1, s2, s3, s4, s5, s6⟩, t1, t2, t3, t4, t5, t6⟩ := hSw; go_simp; try with_reducible rfl)
          (try simp only [z1, z2, z3]); (try simp only [Act.put, z4, z5, z6])
          refine zT 5 (v := ?_) rfl ?_ ?_
          rotate_left 1
          · (intro w0 hSw; (try dsimp only at hSw); obtain ⟨⟨s1, s2, s3, s4, s5, s6⟩, t1, t2, t3, t4, t5, t6⟩ := hSw; go_simp; try with_reducible rfl)
          (try simp only [z1, z2, z3]); (try simp only [Act.put, z4, z5, z6])
          refine zT 6 (v := ?_) rfl ?_ ?_
          rotate_left 1
          · (intro w0 hSw; (try dsimp only at hSw); obtain ⟨⟨s1, s2, s3, s4, s5, s6⟩, t1, t2, t3, t4, t5, t6⟩ := hSw; go_simp; try with_reducible rfl)
          (try simp only [z1, z2, z3]); (try simp only [Act.put, z4, z5, z6])
          refine zT 7 (v := ?_) rfl ?_ ?_
          rotate_left 1
          · (intro w0 hSw; (try dsimp only at hSw); obtain ⟨⟨s1, s2, s3, s4, s5, s6⟩, t1, t2, t3, t4, t5, t6⟩ := hSw; go_simp; try with_reducible rfl)
          (try simp only [z1, z2, z3]); (try simp only [Act.put, z4, z5, z6])
          refine zT 8 (v := ?_) rfl ?_ ?_
          rotate_left 1
          · (intro w0 hSw; (try dsimp only at hSw); obtain ⟨⟨s1, s2, s3, s4, s5, s6⟩, t1, t2, t3, t4, t5, t6⟩ := hSw; go_simp; try with_reducible rfl)
          (try simp only [z1, z2, z3]); (try simp only [Act.put, z4, z5, z6])
          refine wpAnyH_ready (rs := [9]) (by kernel_rfl) (by simp) ?_
          refine AllReadyH.cons (o := _) rfl (fun K0 hK => ?_) AllReadyH.nil
          go_simp
          refine Calls.mono (CH.out _ (show Below w3.heap.size w3 W1.drew from B1H.out.drew)) ?_
          rintro e w' ⟨rfl, BB⟩
          try dsimp only
          refine hK _ _ ?_ (fun hHeld => ?_)
          · exact ⟨⟨by rw [BB.cell (p := ⟨g, (i - 1) * 6, none⟩) gl]; exact y1, by rw [BB.cell (p := ⟨g, (i - 1) * 6 + 1, none⟩) gl]; exact y2, by rw [BB.cell (p := ⟨g, (i - 1) * 6 + 2, none⟩) gl]; exact y3, by rw [BB.cell (p := ⟨g, (i - 1) * 6 + 3, none⟩) gl]; exact y4, by rw [BB.cell (p := ⟨g, (i - 1) * 6 + 4, none⟩) gl]; exact y5, by rw [BB.cell (p := ⟨g, (i - 1) * 6 + 5, none⟩) gl]; exact y6⟩, by rw [BB.cell (p := ⟨K, 0, none⟩) Kl]; exact x1, by rw [BB.cell (p := ⟨K, 1, none⟩) Kl]; exact x2, by rw [BB.cell (p := ⟨K, 2, none⟩) Kl]; exact x3, by rw [BB.cell (p := ⟨K, 3, none⟩) Kl]; exact x4, by rw [BB.cell (p := ⟨K, 4, none⟩) Kl]; exact x5, by rw [BB.cell (p := ⟨K, 5, none⟩) Kl]; exact x6⟩
          clear hK K0
          (try simp only [z1, z2, z3]); (try simp only [Act.put, z4, z5, z6])
          refine zT 10 (v := ?_) rfl ?_ ?_
          rotate_left 1
          · (intro w0 hSw; (try dsimp only at hSw); obtain ⟨⟨s1, s2, s3, s4, s5, s6⟩, t1, t2, t3, t4, t5, t6⟩ := hSw; go_simp; try with_reducible rfl)
          (try simp only [z1, z2, z3]); (try simp only [Act.put, z4, z5, z6])
          refine zT 11 (v := ?_) rfl ?_ ?_
          rotate_left 1
          · (intro w0 hSw; (try dsimp only at hSw); obtain ⟨⟨s1, s2, s3, s4, s5, s6⟩, t1, t2, t3, t4, t5, t6⟩ := hSw; go_simp; try with_reducible rfl)
          (try simp only [z1, z2, z3]); (try simp only [Act.put, z4, z5, z6])
          refine wpAnyH_done (by kernel_rfl) ?_ _
          refine NoPanic.normal ?_
          have bq : Below W1.heap.size W1 w' := (show Below W1.heap.size W1 W1.drew from (Below.refl _ W1).drew).trans BB
          generalize w' = wq at *
          have hPS : Hid (PS w3 S i (.slice a3 z c3) L wq) := hP1.out.below bq
          have Kq : K < wq.heap.size := Nat.lt_of_lt_of_le Kl bq.size
          have q1 : wq.cell? ⟨K, 0, none⟩ = some (.string x.s.m) := by rw [bq.cell (p := ⟨K, 0, none⟩) Kl]; exact x1
          have q2 : wq.cell? ⟨K, 1, none⟩ = some (.slice tx nx cx) := by rw [bq.cell (p := ⟨K, 1, none⟩) Kl]; exact x2
          have q3 : wq.cell? ⟨K, 2, none⟩ = some (.string x.s.f) := by rw [bq.cell (p := ⟨K, 2, none⟩) Kl]; exact x3
          have q4 : wq.cell? ⟨K, 3, none⟩ = some (.int .i64 x.tm) := by rw [bq.cell (p := ⟨K, 3, none⟩) Kl]; exact x4
          have q5 : wq.cell? ⟨K, 4, none⟩ = some (.int .u8 (x.kd : Int)) := by rw [bq.cell (p := ⟨K, 4, none⟩) Kl]; exact x5
          have q6 : wq.cell? ⟨K, 5, none⟩ = some (.int .i64 x.n) := by rw [bq.cell (p := ⟨K, 5, none⟩) Kl]; exact x6
          clear x1 x2 x3 x4 x5 x6 bq hP1 B1H Kl gl
          have HK : i = 0 ∨ ∃ y, S[i - 1]? = some y ∧ kC (pkO y) (pkO x) ≠ 0 := Or.inr ⟨y, hyi, by rw [hcH.out]; exact hc0H.out⟩
          clear hc0H hcH CH y1 y2 y3 y4 y5 y6 BB
          obtain ⟨gp, cp, w6, rP0, hP6, g6, hat6⟩ := hPS.out.new hSH.out hxi HK tx cx (hserx.out w3 (Below.refl _ _)).1 hxt (by omega)
          have zl : z = L.length := hzl.out
          rw [← zl] at rP0 hP6
          rw [hnx.out] at rP0
          have rP : Hid (∀ W, W = wq.alloc (.cells #[.string x.s.m, .slice tx nx cx, .slice none 0 0, .int .i64 x.tm] 41) → (Builtin.append_ #[26, 26] 26 #[.slice a3 z c3, .slice (some ⟨wq.heap.size, 0, none⟩) 1 1]).run Tryz.prog W = .ok (.slice (some ⟨gp, 0, none⟩) (z + 1) cp) w6) := fun W e => by subst e; exact rP0
          have hPM : Hid (PM w3 S i x (.slice (some ⟨gp, 0, none⟩) (z + 1) cp) (L ++ [(⟨x.s.m, x.s.t, [], x.tm⟩, (tx, cx), (none, 0))]) w6) := hP6
          have hk6 : w6.heap[K]? = wq.heap[K]? := g6.block K Kq (fun e => (hrK.out K e.symm) rfl)
          have r3 : w6.cell? ⟨K, 2, none⟩ = some (.string x.s.f) := by rw [World.cell?_of_block (w := wq) (a := ⟨K, 2, none⟩) hk6]; exact q3
          have r6 : w6.cell? ⟨K, 5, none⟩ = some (.int .i64 x.n) := by rw [World.cell?_of_block (w := wq) (a := ⟨K, 5, none⟩) hk6]; exact q6
          have hgK6 : Hid (gp ≠ K) := by
            rcases hat6 with e | e
            · exact fun q => hrK.out K (e.trans (by rw [← q])) rfl
            · show gp ≠ K; omega
          have Kq6 : K < w6.heap.size := Nat.lt_of_lt_of_le Kq g6.size
          have hfK6 : Hid (∀ k, (∃ u ∈ L ++ [((⟨x.s.m, x.s.t, [], x.tm⟩, (tx, cx), (none, 0)) : PtA)], fbk u = some k) → k ≠ K) := fun k ⟨u, hu, e⟩ => by
            rcases List.mem_append.1 hu with q | q
            · exact hfK.out k ⟨u, q, e⟩
            · rw [List.mem_singleton.1 q] at e; cases e
          have zle : z ≤ i := by rw [zl]; exact hPS.out.le
          obtain ⟨zw1, zw2, zw3, z0, z1, z2⟩ := nums6 z i zle (by omega)
          clear hPS rP0 hP6 g6 hk6 zl hfK zle hat6
          go_wp2_with (at_builtin; refine wpList_append_runB (by rfl) _ _ _ (by rfl) _ _ _ _ (by rfl) (by rfl) (rP.out _ rfl) ?_)
          clear rP q1 q2 q3 q4 q5 q6 Kq hrK zw1 zw2 zw3 z0 z1 z2
          have q3 := r3
          have q6 := r6
          have Kq := Kq6
          have hfK := hfK6
          clear r3 r6 Kq6 hfK6
          generalize w6 = wq at *
          generalize L ++ [((⟨x.s.m, x.s.t, [], x.tm⟩, (tx, cx), (none, 0)) : PtA)] = LM at *
          obtain ⟨fa, fn, fc, fa2, fc2, w8, L8, fb, nl, cF, rF0, hP8, c8, f8, g8, fb1, fb2⟩ := (hPM.out.below (show Below wq.heap.size wq wq.drew from (Below.refl _ wq).drew)).done (by omega)
          have lp := (hPM.out).len
          obtain ⟨last, hlast⟩ : ∃ last, LM.length = last + 1 := ⟨LM.length - 1, by omega⟩
          rw [hlast, Nat.add_sub_cancel] at cF hP8 c8 f8
          rw [hlast] at nl
          obtain rfl : last = z := by omega
          have hgK : Hid (gp ≠ K) := hgK6.out
          have fbK : ∀ k, fb = some k → k ≠ K := fun k e => hfK.out k (fb2 k e).2
          have sS : Hid (wq.drew.cell? ⟨gp, last * 4 + 2, none⟩ = some (.slice fa fn fc) ∧ wq.drew.cell? ⟨K, 2, none⟩ = some (.string x.s.f) ∧ wq.drew.cell? ⟨K, 5, none⟩ = some (.int .i64 x.n)) := ⟨cF, q3, q6⟩
          have gpl : gp < wq.heap.size := (hPM.out.pg.len).2.2.2
          have sA : Hid ((wq.drew.alloc (.cells #[.string x.s.f, .int .i64 x.n] 54)).cell? ⟨gp, last * 4 + 2, none⟩ = some (.slice fa fn fc) ∧ (wq.drew.alloc (.cells #[.string x.s.f, .int .i64 x.n] 54)).cell? ⟨K, 2, none⟩ = some (.string x.s.f) ∧ (wq.drew.alloc (.cells #[.string x.s.f, .int .i64 x.n] 54)).cell? ⟨K, 5, none⟩ = some (.int .i64 x.n)) := by
            have bA : Below wq.heap.size wq.drew (wq.drew.alloc (.cells #[.string x.s.f, .int .i64 x.n] 54)) := (Below.refl _ wq.drew).alloc (Nat.le_refl _) _
            exact ⟨by rw [bA.cell (p := ⟨gp, last * 4 + 2, none⟩) gpl]; exact sS.out.1, by rw [bA.cell (p := ⟨K, 2, none⟩) Kq]; exact sS.out.2.1, by rw [bA.cell (p := ⟨K, 5, none⟩) Kq]; exact sS.out.2.2⟩
          have sB : Hid (w8.cell? ⟨gp, last * 4 + 2, none⟩ = some (.slice fa fn fc) ∧ w8.cell? ⟨K, 2, none⟩ = some (.string x.s.f) ∧ w8.cell? ⟨K, 5, none⟩ = some (.int .i64 x.n)) := by
            have hk : w8.heap[K]? = wq.drew.heap[K]? := g8.block K Kq (fun e => fbK K e.symm rfl)
            exact ⟨c8, by rw [World.cell?_of_block (w := wq.drew) (a := ⟨K, 2, none⟩) hk]; exact sS.out.2.1, by rw [World.cell?_of_block (w := wq.drew) (a := ⟨K, 5, none⟩) hk]; exact sS.out.2.2⟩
          have sC : Hid ((w8.setCell ⟨gp, last * 4 + 2, none⟩ (.slice fa2 (fn + 1) fc2)).cell? ⟨K, 2, none⟩ = some (.string x.s.f) ∧ (w8.setCell ⟨gp, last * 4 + 2, none⟩ (.slice fa2 (fn + 1) fc2)).cell? ⟨K, 5, none⟩ = some (.int .i64 x.n)) := by
            have hne := hgK.out
            exact ⟨by rw [World.cell?_setCell_other _ _ _ _ (by intro e; injection e; omega)]; exact sB.out.2.1, by rw [World.cell?_setCell_other _ _ _ _ (by intro e; injection e; omega)]; exact sB.out.2.2⟩
          have cFd := sS.out.1
          have cFa := sA.out.1
          have cFq : wq.cell? ⟨gp, last * 4 + 2, none⟩ = some (.slice fa fn fc) := sS.out.1
          have rF : Hid (∀ W, W = wq.drew.alloc (.cells #[.string x.s.f, .int .i64 x.n] 54) → (Builtin.append_ #[39, 39] 39 #[.slice fa fn fc, .slice (some ⟨wq.heap.size, 0, none⟩) 1 1]).run Tryz.prog W = .ok (.slice fa2 (fn + 1) fc2) w8) := fun W e => by subst e; exact rF0
          have P8 : Hid (PS w3 S (i + 1) (.slice (some ⟨gp, 0, none⟩) (last + 1) cp) L8 (w8.setCell ⟨gp, last * 4 + 2, none⟩ (.slice fa2 (fn + 1) fc2))) := hP8
          clear hPM cF rF0 hP8 g8 fb1 fb2 fbK hlast lp
          refine wp_region_noPanic ?_
          refine wp_region_held_drew (S := fun W => W.cell? ⟨K, 2, none⟩ = some (.string x.s.f) ∧ W.cell? ⟨K, 5, none⟩ = some (.int .i64 x.n)) (by kernel_rfl) sS.out.2 (fun hHeld => ?_)
          refine zT 0 (v := ?_) rfl ?_ ?_
          rotate_left 1
          · (intro w0 hSw; (try dsimp only at hSw); obtain ⟨s1, s2⟩ := hSw; go_simp; try with_reducible rfl)
          (try simp only [z1, z2, z3]); (try simp only [Act.put, z4, z5, z6])
          refine zT 1 (v := ?_) rfl ?_ ?_
          rotate_left 1
          · (intro w0 hSw; (try dsimp only at hSw); obtain ⟨s1, s2⟩ := hSw; go_simp; try with_reducible rfl)
          (try simp only [z1, z2, z3]); (try simp only [Act.put, z4, z5, z6])
          refine zT 2 (v := ?_) rfl ?_ ?_
          rotate_left 1
          · (intro w0 hSw; (try dsimp only at hSw); obtain ⟨s1, s2⟩ := hSw; go_simp; try with_reducible rfl)
          (try simp only [z1, z2, z3]); (try simp only [Act.put, z4, z5, z6])
          refine zT 3 (v := ?_) rfl ?_ ?_
          rotate_left 1
          · (intro w0 hSw; (try dsimp only at hSw); obtain ⟨s1, s2⟩ := hSw; go_simp; try with_reducible rfl)
          (try simp only [z1, z2, z3]); (try simp only [Act.put, z4, z5, z6])
          refine zT 5 (v := ?_) rfl ?_ ?_
          rotate_left 1
          · (intro w0 hSw; (try dsimp only at hSw); obtain ⟨s1, s2⟩ := hSw; go_simp; try with_reducible rfl)
          (try simp only [z1, z2, z3]); (try simp only [Act.put, z4, z5, z6])
          refine zT 6 (v := ?_) rfl ?_ ?_
          rotate_left 1
          · (intro w0 hSw; (try dsimp only at hSw); obtain ⟨s1, s2⟩ := hSw; go_simp; try with_reducible rfl)
          (try simp only [z1, z2, z3]); (try simp only [Act.put, z4, z5, z6])
          refine zT 7 (v := ?_) rfl ?_ ?_
          rotate_left 1
          · (intro w0 hSw; (try dsimp only at hSw); obtain ⟨s1, s2⟩ := hSw; go_simp; try with_reducible rfl)
          (try simp only [z1, z2, z3]); (try simp only [Act.put, z4, z5, z6])
          refine zT 8 (v := ?_) rfl ?_ ?_
          rotate_left 1
          · (intro w0 hSw; (try dsimp only at hSw); obtain ⟨s1, s2⟩ := hSw; go_simp; try with_reducible rfl)
          (try simp only [z1, z2, z3]); (try simp only [Act.put, z4, z5, z6])
          refine zT 9 (v := ?_) rfl ?_ ?_
          rotate_left 1
          · (intro w0 hSw; (try dsimp only at hSw); obtain ⟨s1, s2⟩ := hSw; go_simp; try with_reducible rfl)
          (try simp only [z1, z2, z3]); (try simp only [Act.put, z4, z5, z6])
          refine zT 10 (v := ?_) rfl ?_ ?_
          rotate_left 1
          · (intro w0 hSw; (try dsimp only at hSw); obtain ⟨s1, s2⟩ := hSw; go_simp; try with_reducible rfl)
          (try simp only [z1, z2, z3]); (try simp only [Act.put, z4, z5, z6])
          refine zT 11 (v := ?_) rfl ?_ ?_
          rotate_left 1
          · (intro w0 hSw; (try dsimp only at hSw); obtain ⟨s1, s2⟩ := hSw; go_simp; try with_reducible rfl)
          (try simp only [z1, z2, z3]); (try simp only [Act.put, z4, z5, z6])
          refine zT 12 (v := ?_) rfl ?_ ?_
          rotate_left 1
          · (intro w0 hSw; (try dsimp only at hSw); obtain ⟨s1, s2⟩ := hSw; go_simp; try with_reducible rfl)
          (try simp only [z1, z2, z3]); (try simp only [Act.put, z4, z5, z6])
          refine wpAnyH_ready (rs := [4, 13]) (by kernel_rfl) (by simp) ?_
          refine AllReadyH.cons (o := _) rfl (fun K1 hK => ?_) ?_
          · go_simp
            try dsimp only
            refine hK _ _ sS.out.2 (fun hHeld => ?_)
            clear hK K1
            (try simp only [z1, z2, z3]); (try simp only [Act.put, z4, z5, z6])
            refine wpAnyH_ready (rs := [13]) (by kernel_rfl) (by simp) ?_
            refine AllReadyH.cons (o := _) rfl (fun K1 hK => ?_) AllReadyH.nil
            go_simp
            try dsimp only
            refine hK _ _ sA.out.2 (fun hHeld => ?_)
            clear hK K1
            (try simp only [z1, z2, z3]); (try simp only [Act.put, z4, z5, z6])
            refine wpAnyH_ready (rs := [14]) (by kernel_rfl) (by simp) ?_
            refine AllReadyH.cons (o := _) rfl (fun K1 hK => ?_) AllReadyH.nil
            refine step_append_runB rfl (.tmp 54) (.tmp 63) 39 rfl _ _ _ _ rfl rfl (rF.out _ rfl) ?_
            refine hK _ _ sB.out.2 (fun hHeld => ?_)
            clear hK K1
            (try simp only [z1, z2, z3]); (try simp only [Act.put, z4, z5, z6])
            refine zT 15 (v := ?_) rfl ?_ ?_
            rotate_left 1
            · (intro w0 hSw; (try dsimp only at hSw); obtain ⟨s1, s2⟩ := hSw; go_simp; try with_reducible rfl)
            (try simp only [z1, z2, z3]); (try simp only [Act.put, z4, z5, z6])
            refine zT 16 (v := ?_) rfl ?_ ?_
            rotate_left 1
            · (intro w0 hSw; (try dsimp only at hSw); obtain ⟨s1, s2⟩ := hSw; go_simp; try with_reducible rfl)
            (try simp only [z1, z2, z3]); (try simp only [Act.put, z4, z5, z6])
            refine wpAnyH_ready (rs := [17]) (by kernel_rfl) (by simp) ?_
            refine AllReadyH.cons (o := _) rfl (fun K1 hK => ?_) AllReadyH.nil
            go_simp
            try dsimp only
            refine hK _ _ sC.out (fun hHeld => ?_)
            clear hK K1
            (try simp only [z1, z2, z3]); (try simp only [Act.put, z4, z5, z6])
            refine wpAnyH_done (by kernel_rfl) ?_ _
            refine NoPanic.normal ?_
            clear sS sA sB sC rF c8 f8 q3 q6 cFd cFa cFq
            go_wp2_with fail
            exact ⟨⟨i + 1, last + 1, cp, some ⟨gp, 0, none⟩, L8, rfl, by first | rfl | simp, by omega, P8⟩, by simp [intOf]; omega⟩
          refine AllReadyH.cons (o := _) rfl (fun K1 hK => ?_) AllReadyH.nil
          go_simp
          try dsimp only
          refine hK _ _ sA.out.2 (fun hHeld => ?_)
          clear hK K1
          (try simp only [z1, z2, z3]); (try simp only [Act.put, z4, z5, z6])
          refine wpAnyH_ready (rs := [4]) (by kernel_rfl) (by simp) ?_
          refine AllReadyH.cons (o := _) rfl (fun K1 hK => ?_) AllReadyH.nil
          go_simp
          try dsimp only
          refine hK _ _ sA.out.2 (fun hHeld => ?_)
          clear hK K1
          (try simp only [z1, z2, z3]); (try simp only [Act.put, z4, z5, z6])
          refine wpAnyH_ready (rs := [14]) (by kernel_rfl) (by simp) ?_
          refine AllReadyH.cons (o := _) rfl (fun K1 hK => ?_) AllReadyH.nil
          refine step_append_runB rfl (.tmp 54) (.tmp 63) 39 rfl _ _ _ _ rfl rfl (rF.out _ rfl) ?_
          refine hK _ _ sB.out.2 (fun hHeld => ?_)
          clear hK K1
          (try simp only [z1, z2, z3]); (try simp only [Act.put, z4, z5, z6])
          refine zT 15 (v := ?_) rfl ?_ ?_
          rotate_left 1
          · (intro w0 hSw; (try dsimp only at hSw); obtain ⟨s1, s2⟩ := hSw; go_simp; try with_reducible rfl)
          (try simp only [z1, z2, z3]); (try simp only [Act.put, z4, z5, z6])
          refine zT 16 (v := ?_) rfl ?_ ?_
          rotate_left 1
          · (intro w0 hSw; (try dsimp only at hSw); obtain ⟨s1, s2⟩ := hSw; go_simp; try with_reducible rfl)
          (try simp only [z1, z2, z3]); (try simp only [Act.put, z4, z5, z6])
          refine wpAnyH_ready (rs := [17]) (by kernel_rfl) (by simp) ?_
          refine AllReadyH.cons (o := _) rfl (fun K1 hK => ?_) AllReadyH.nil
          go_simp
          try dsimp only
          refine hK _ _ sC.out (fun hHeld => ?_)
          clear hK K1
          (try simp only [z1, z2, z3]); (try simp only [Act.put, z4, z5, z6])
          refine wpAnyH_done (by kernel_rfl) ?_ _
          refine NoPanic.normal ?_
          clear sS sA sB sC rF c8 f8 q3 q6 cFd cFa cFq
          go_wp2_with fail
          exact ⟨⟨i + 1, last + 1, cp, some ⟨gp, 0, none⟩, L8, rfl, by first | rfl | simp, by omega, P8⟩, by simp [intOf]; omega⟩
    · have hiI : ¬ (i : Int) < (m : Int) := by omega
      obtain rfl : i = m := by omega
      have fin : Hid (PtsR w wr l (.returned (.slice a3 z c3))) := by
        have P := hP0.out
        refine ⟨_, L, w3.heap.size, rfl, P.pg, ?_, P.tl, fun u hu => by have := P.fl u hu; omega, by have := P.le; omega, B3.out.trans (P.bl.mono B3.out.size)⟩
        rw [P.is, List.take_of_length_le (by rw [hSeH.out, List.length_map, hmH.out]; exact Nat.le_refl _), hgH.out]
        rfl
      clear hP0
      go_wp2_with fail
      go_ret
      exact fin.out
end Go.Proofs.YtepakgfdakeibaaGreatDoor.So.Wr
