
import Derived.Test.YtpbcbpiolhjlhaaGreatDoorBzAM
import Derived.Test.YtpbcbpiolhjlhaaGreatDoorBzAL
import Derived.Test.YtpbcbpiolhjlhaaGreatDoorProg
import Derived.Deep.RegionHeld3
import Derived.Test.YtpbcbpiolhjlhaaGreatDoorBzAK
import Derived.Test.YtpbcbpiolhjlhaaGreatDoorDeJq

namespace Go.Proofs.YtpbcbpiolhjlhaaGreatDoor
open Go.RowKit _root_.Go.Proofs.YtpbcbpiolhjlhaaGreatDoor.So
set_option linter.unusedVariables false
set_option linter.unusedSimpArgs false
theorem grow_ccs (w : World) (n : Nat) (hn : n ≤ 1099511627776) : CcS w (w.drew.alloc (.cells (Builtin.zeroCells zW6 n ++ Builtin.zeroCells zW6 (grownCap w n 0 76 - n)) 76)) (.slice (some ⟨w.heap.size, 0, none⟩) 0 (grownCap w n 0 76)) [] := by
  have hml : maxLen = 9223372036854775807 := by decide
  have g1 := grownCap_ge w n 0 76
  have g2 := grownCap_le_maxLen w n 0 76 (by omega)
  have bd : Below w.heap.size w w.drew := (Below.refl _ w).drew
  refine ⟨⟨rfl, Or.inr ⟨w.heap.size, _, _, rfl, Nat.le_refl _, heap_alloc_new w.drew _, Nat.zero_le _, g2, ?_, by simp [encW]⟩⟩, (fun t h => by cases h), bd.alloc (Nat.le_refl _) _⟩
  rw [Array.size_append, zero_size, zero_size]; omega
set_option maxRecDepth 100000 in
set_option maxHeartbeats 4000000 in
theorem grow_any (w : World) (n : Nat) (hn : n ≤ 1099511627776) :
    Calls Tryz.prog 72 #[.slice none 0 0, .int .i64 (n : Int)] w fun e w' => ∃ a cap, e = .returned (.slice a 0 cap) ∧ CcS w w' (.slice a 0 cap) [] := by
  rcases Nat.eq_zero_or_pos n with h0 | h0
  · subst h0
    have fin : Hid (CcS w w (.slice none 0 0) []) := CcS.nil w
    go_enter Tryz.func72, Tryz.ntmps72
    go_wp2_with fail
    go_ret
    exact ⟨_, _, rfl, fin.out⟩
  · have hr := grow_run w n h0 hn
    have hS := grow_ccs w n hn
    generalize grownCap w n 0 76 = cap at hr hS
    generalize w.drew.alloc (.cells (Builtin.zeroCells zW6 n ++ Builtin.zeroCells zW6 (cap - n)) 76) = w1 at hr hS
    have rH : Hid (∀ W, W = w → (Builtin.append_ #[23, 3] 23 #[.slice none 0 0, .int .i64 (n : Int)]).run Tryz.prog W = .ok (.slice (some ⟨w.heap.size, 0, none⟩) n cap) w1) := fun W e => by subst e; exact hr
    have fin : Hid (CcS w w1 (.slice (some ⟨w.heap.size, 0, none⟩) 0 cap) []) := hS
    have n0 : ¬ (n : Int) < 0 := by omega
    have n1 : (0 : Int) < (n : Int) := by omega
    have nw : IntKind.i64.wrap (n : Int) = (n : Int) := IntWalk.i64_in _ (by omega)
    have nw2 : IntKind.i64.wrap ((n : Int) - 0) = (n : Int) := IntWalk.i64_in _ (by omega)
    clear hr hS
    go_enter Tryz.func72, Tryz.ntmps72
    go_wp2_with (at_builtin; refine wpList_append_runX (by rfl) _ _ _ _ (by rfl) _ _ _ _ (by rfl) (by rfl) (rH.out _ (by first | rfl | simp)) ?_)
    go_ret
    exact ⟨_, _, rfl, fin.out⟩
/-- what has been laid so far. -/
def preC (l m : List WrP) (k : Nat) : List WrP := if k = 0 then [] else if k = 1 then l else l ++ m
set_option maxRecDepth 100000 in
set_option maxHeartbeats 8000000 in
theorem concat_any (w : World) (P : Nat) (hP : P < w.heap.size) (a1 a2 : Option Addr) (c1 c2 : Nat) (l m : List WrP) (h1 : WIn w a1 l) (h2 : WIn w a2 m) (p1 : w.cell? ⟨P, 0, none⟩ = some (.slice a1 l.length c1)) (p2 : w.cell? ⟨P, 1, none⟩ = some (.slice a2 m.length c2)) (hn : l.length + m.length ≤ 1099511627776) :
    Calls Tryz.prog 22 #[.slice (some ⟨P, 0, none⟩) 2 2] w fun e w' => ∃ a z cap L, e = .returned (.slice a z cap) ∧ CcS w w' (.slice a z cap) L ∧ L.map (·.1) = l ++ m := by
  have lz : ∀ {wr : World} {a : Option Addr} {z c : Nat} {L : List WrA}, CcS w wr (.slice a z c) L → L.length = z := fun h => by
    obtain ⟨_, _, e, _⟩ := h.win
    injection e with _ e _
    exact e.symm
  have hA : Hid (∀ (wr : World) (a : Option Addr) (z c : Nat) (L : List WrA), CcS w wr (.slice a z c) L → L.map (·.1) = [] → ∃ v' w' M, (Builtin.append_ #[23, 23] 23 #[.slice a z c, .slice a1 l.length c1]).run Tryz.prog wr = .ok v' w' ∧ CcS w w' v' M ∧ M.map (·.1) = l) := fun wr a z c L h e => by
    have hL : L = [] := List.map_eq_nil_iff.1 e
    subst hL
    obtain ⟨v', w', M, q1, q2, q3⟩ := appW w wr _ _ h a1 c1 l h1 (by simp; omega)
    exact ⟨v', w', M, q1, q3, q2⟩
  have hB : Hid (∀ (wr : World) (a : Option Addr) (z c : Nat) (L : List WrA), CcS w wr (.slice a z c) L → L.map (·.1) = l → ∃ v' w' M, (Builtin.append_ #[23, 23] 23 #[.slice a z c, .slice a2 m.length c2]).run Tryz.prog wr = .ok v' w' ∧ CcS w w' v' M ∧ M.map (·.1) = l ++ m) := fun wr a z c L h e => by
    have : L.length = l.length := by rw [← e, List.length_map]
    obtain ⟨v', w', M, q1, q2, q3⟩ := appW w wr _ _ h a2 c2 m h2 (by omega)
    exact ⟨v', w', L ++ M, q1, q3, by rw [List.map_append, e, q2]⟩
  have sl : Hid (∀ (wr : World) (v : Value) (L : List WrA), CcS w wr v L → ∃ a z c, v = .slice a z c) := fun wr v L h => by
    obtain ⟨a, c, e, _⟩ := h.win
    exact ⟨a, _, c, e⟩
  have cP : Hid (∀ (wr : World) (v : Value) (L : List WrA), CcS w wr v L → wr.cell? ⟨P, 0, none⟩ = some (.slice a1 l.length c1) ∧ wr.cell? ⟨P, 1, none⟩ = some (.slice a2 m.length c2)) := fun wr v L h => ⟨by rw [h.bl.cell (p := ⟨P, 0, none⟩) hP]; exact p1, by rw [h.bl.cell (p := ⟨P, 1, none⟩) hP]; exact p2⟩
  have CG : Hid (Calls Tryz.prog 72 #[.slice none 0 0, .int .i64 (((l.length + m.length : Nat)) : Int)] w fun e w' => ∃ a cap, e = .returned (.slice a 0 cap) ∧ CcS w w' (.slice a 0 cap) []) := grow_any w _ hn
  clear lz h1 h2
  generalize l.length = n1 at *
  generalize m.length = n2 at *
  have k1 : ¬ (n1 : Int) < 0 := by omega
  have k2 : ¬ (((n1 + n2 : Nat)) : Int) < 0 := by omega
  have e1 : IntKind.i64.wrap (n1 : Int) = (n1 : Int) := IntWalk.i64_in _ (by omega)
  have e2 : IntKind.i64.wrap ((n1 : Int) + (n2 : Int)) = ((n1 + n2 : Nat) : Int) := IntWalk.i64_in _ (by omega)
  go_enter Tryz.func22, Tryz.ntmps22
  go_wp2_with fail
  go_loopw [3, 11] (fun sz ix wr => (wr = w) ∧ ((ix = .int .i64 0 ∧ sz = .int .i64 0) ∨ (ix = .int .i64 1 ∧ sz = .int .i64 (n1 : Int)) ∨ (ix = .int .i64 2 ∧ sz = .int .i64 (((n1 + n2 : Nat)) : Int)))) (fun _ ix _ => 2 - (intOf ix).toNat)
  case atStart => exact ⟨rfl, Or.inl ⟨rfl, rfl⟩⟩
  case round =>
    obtain ⟨hwr, hcs⟩ := hrel
    subst wr
    rcases hcs with ⟨rfl, rfl⟩ | ⟨rfl, rfl⟩ | ⟨rfl, rfl⟩
    · go_wp2_with fail
      exact ⟨⟨by first | rfl | trivial, Or.inr (Or.inl ⟨rfl, by first | rfl | simp⟩)⟩, by simp [intOf]⟩
    · go_wp2_with fail
      exact ⟨⟨by first | rfl | trivial, Or.inr (Or.inr ⟨rfl, by first | rfl | simp⟩)⟩, by simp [intOf]⟩
    · clear p1 p2
      go_wp2_with fail
      refine Calls.mono CG.out ?_
      rintro e w1 ⟨a, cap, rfl, hS⟩
      have S0 : Hid (CcS w w1 (.slice a 0 cap) [] ∧ ([] : List WrA).map (·.1) = preC l m 0) := ⟨hS, rfl⟩
      clear hS CG
      go_wp2_with fail
      go_loopw [6, 27] (fun v ix wx => ∃ (k : Nat) (a : Option Addr) (z c : Nat) (L : List WrA), (k = 0 ∨ k = 1 ∨ k = 2) ∧ ix = .int .i64 (k : Int) ∧ v = .slice a z c ∧ Hid (CcS w wx (.slice a z c) L ∧ L.map (·.1) = preC l m k)) (fun _ ix _ => 2 - (intOf ix).toNat)
      case atStart => exact ⟨0, a, 0, cap, [], Or.inl rfl, rfl, rfl, S0⟩
      case round =>
        clear S0
        obtain ⟨k, a, z, c, L, (rfl | rfl | rfl), rfl, rfl, hS⟩ := hrel
        · obtain ⟨x1, x2⟩ := cP.out _ _ _ hS.out.1
          obtain ⟨v', w', M, q1, q2, q3⟩ := hA.out _ a z c L hS.out.1 hS.out.2
          obtain ⟨a', z', c', rfl⟩ := sl.out _ _ _ q2
          have rH : Hid (∀ W, W = wr → (Builtin.append_ #[23, 23] 23 #[.slice a z c, .slice a1 n1 c1]).run Tryz.prog W = .ok (.slice a' z' c') w') := fun W e => by subst e; exact q1
          have S1 : Hid (CcS w w' (.slice a' z' c') M ∧ M.map (·.1) = preC l m 1) := ⟨q2, q3⟩
          clear q1 q2 q3 hS
          go_wp2_with (at_builtin; refine wpList_append_runB (by rfl) _ _ _ (by rfl) _ _ _ _ (by rfl) (by rfl) (rH.out _ (by first | rfl | simp)) ?_)
          exact ⟨⟨1, a', z', c', M, Or.inr (Or.inl rfl), rfl, rfl, S1⟩, by simp [intOf]⟩
        · obtain ⟨x1, x2⟩ := cP.out _ _ _ hS.out.1
          obtain ⟨v', w', M, q1, q2, q3⟩ := hB.out _ a z c L hS.out.1 hS.out.2
          obtain ⟨a', z', c', rfl⟩ := sl.out _ _ _ q2
          have rH : Hid (∀ W, W = wr → (Builtin.append_ #[23, 23] 23 #[.slice a z c, .slice a2 n2 c2]).run Tryz.prog W = .ok (.slice a' z' c') w') := fun W e => by subst e; exact q1
          have S1 : Hid (CcS w w' (.slice a' z' c') M ∧ M.map (·.1) = preC l m 2) := ⟨q2, q3⟩
          clear q1 q2 q3 hS
          go_wp2_with (at_builtin; refine wpList_append_runB (by rfl) _ _ _ (by rfl) _ _ _ _ (by rfl) (by rfl) (rH.out _ (by first | rfl | simp)) ?_)
          exact ⟨⟨2, a', z', c', M, Or.inr (Or.inr rfl), rfl, rfl, S1⟩, by simp [intOf]⟩
        · go_wp2_with fail
          go_ret
          exact ⟨a, z, c, L, rfl, hS.out.1, hS.out.2⟩
end Go.Proofs.YtpbcbpiolhjlhaaGreatDoor


namespace Go.Proofs.YtpbcbpiolhjlhaaGreatDoor
open Go.RowKit _root_.Go.Proofs.YtpbcbpiolhjlhaaGreatDoor.So
set_option linter.unusedVariables false
set_option linter.unusedSimpArgs false
/-- what points say. -/
def flW (p : PtP) (f : FdP) : WrP := ⟨⟨p.m, sortT p.t, f.1⟩, p.tm, 0, f.2⟩
def flatL (l : List PtP) : List WrP := l.flatMap fun p => p.f.map (flW p)
theorem flatL_app (l m : List PtP) : flatL (l ++ m) = flatL l ++ flatL m := by simp [flatL]
theorem flatL_take {l : List PtP} {i : Nat} {p : PtP} (h : l[i]? = some p) : flatL (l.take (i + 1)) = flatL (l.take i) ++ p.f.map (flW p) := by
  rw [List.take_add_one, h, Option.toList, flatL_app]; simp [flatL]
theorem flatL_few {l : List PtP} (h : ∀ p ∈ l, p.f.length ≤ 16) : (flatL l).length ≤ 16 * l.length := by
  induction l with
  | nil => simp [flatL]
  | cons p l ih =>
    have h1 := h p List.mem_cons_self
    have h2 := ih (fun q hq => h q (List.mem_cons_of_mem _ hq))
    rw [show flatL (p :: l) = p.f.map (flW p) ++ flatL l by simp [flatL], List.length_append, List.length_map, List.length_cons]; omega
theorem flatL_tags {l : List PtP} (h : ∀ p ∈ l, p.t.length ≤ 4398046511104) : ∀ x ∈ flatL l, x.s.t.length ≤ 4398046511104 := by
  intro x hx
  obtain ⟨p, hp, hx⟩ := List.mem_flatMap.1 hx
  obtain ⟨f, _, rfl⟩ := List.mem_map.1 hx
  exact Nat.le_trans (sortT_short p.t) (h p hp)
theorem right_few {p : PtP} (h : pointN p = 0) : p.f.length ≤ 16 := by
  unfold pointN at h
  split at h
  · split at h
    · split at h
      · rename_i hf
        unfold fieldsB at hf
        simp at hf
        omega
      · cases h
    · cases h
  · cases h
theorem sortedR_new {w w' : World} {e : Ending} {l : List TagP} (h : SortedR w w' e l) : ∃ a c, e = .returned (.slice a (sortT l).length c) ∧ TgIn w' a (sortT l) ∧ ∀ ad, a = some ad → w.heap.size ≤ ad.block := by
  rcases h with ⟨rfl, h⟩ | ⟨g, m, cap, G, h1, h2, h3, h4, h5⟩
  · exact ⟨none, 0, h, Or.inl rfl, fun ad q => by cases q⟩
  · refine ⟨some ⟨g, 0, none⟩, cap, ?_, by rw [← h5]; exact h4.tin, fun ad q => by cases q; exact h2⟩
    rw [h1, ← h5]; simp
/-- one more, and where the row lies then. -/
theorem app3W (W : World) (B : Nat) (v : Value) (L : List WrA) (h : OW2 W B v L) (hB : B ≤ W.heap.size) (t : WrA) (ht : SerIn W t.2.1 t.1.s) (htb : t.1.s.t ≠ [] → ∀ ad, t.2.1 = some ad → v.ownBlock ≠ some ad.block) (hn : L.length + 1 ≤ 1099511627776) :
    ∃ a c w', (Builtin.append_ #[23, 23] 23 #[v, .slice (some ⟨W.heap.size, 0, none⟩) 1 1]).run Tryz.prog (W.alloc (.cells #[.string t.1.s.m, .slice t.2.1 t.1.s.t.length t.2.2, .string t.1.s.f, .int .i64 t.1.tm, .int .u8 (t.1.kd : Int), .int .i64 t.1.n] 76)) = .ok (.slice a (L.length + 1) c) w' ∧ OW2 w' B (.slice a (L.length + 1) c) (L ++ [t]) ∧ Below B W w' ∧ W.grownBy w' v.ownBlock ∧ ∀ g, (Value.slice a (L.length + 1) c).ownBlock = some g → v.ownBlock = some g ∨ W.heap.size ≤ g := by
  obtain ⟨a, c, w', h1, h2, h3⟩ := app2W W B v L h hB t ht htb hn
  have b1 : Below W.heap.size W (W.alloc (.cells #[.string t.1.s.m, .slice t.2.1 t.1.s.t.length t.2.2, .string t.1.s.f, .int .i64 t.1.tm, .int .u8 (t.1.kd : Int), .int .i64 t.1.n] 76)) := (Below.refl _ W).alloc (Nat.le_refl _) _
  have ho2 := (h.1.below b1).1
  obtain ⟨i, i1, i0⟩ := Option.map_eq_some_iff.1 wr_info
  have i2 : i.zero = some (.agg #[.string ⟨#[]⟩, .slice none 0 0, .string ⟨#[]⟩, .int .i64 0, .int .u8 0, .int .i64 0]) := congrArg (·.1) i0
  have i3 : i.bytes = 80 := congrArg (·.2.1) i0
  have i4 : i.size = 6 := congrArg (·.2.2) i0
  have hml : maxLen = 9223372036854775807 := by decide
  have hB2 := Nat.le_trans hB b1.size
  obtain ⟨g, cap, w2, hr, own, gr, hat, hlt⟩ := run_append_lies (P := Tryz.prog) _ 23 23 B 76 i (.agg #[.string ⟨#[]⟩, .slice none 0 0, .string ⟨#[]⟩, .int .i64 0, .int .u8 0, .int .i64 0]) 6 80 Tryz.underlying23 i1 i2 i4 i3 rfl (by omega) v L.length (encW L) ho2 ⟨W.heap.size, 0, none⟩ 1 1 (encW [t]) rfl (fun j u hj => by
    rcases j with _ | _ | _ | _ | _ | _ | j <;> simp [encW] at hj <;> (try (subst hj; simp [go_sem]))) (encW_one _) (by omega) (by omega) (by omega) hB2 _ rfl
  rw [h1] at hr
  injection hr with e1 e2
  injection e1 with e3 e4 e5
  subst e2 e3 e5
  refine ⟨_, c, w', h1, h2, h3, ⟨gr.os, gr.tape, gr.output, Nat.le_trans b1.size gr.size, fun k hk hne => by rw [gr.block k (Nat.lt_of_lt_of_le hk b1.size) hne]; exact b1.block k hk⟩, fun g' hg' => ?_⟩
  have q1 : g = g' := by simpa [Value.ownBlock] using hg'
  subst q1
  rcases hat with e | e
  · exact Or.inl e
  · right; rw [e]; exact b1.size
/-- what stands while a point's fields are told. -/
structure FlI (w : World) (l : List PtP) (i : Nat) (p : PtP) (K M : Nat) (a' : Option Addr) (fa : Option Addr) (fc : Nat) (k : Nat) (v : Value) (L : List WrA) (wr : World) : Prop where
  bl : Below w.heap.size w wr
  row : OW2 wr w.heap.size v L
  is : L.map (·.1) = flatL (l.take i) ++ (p.f.take k).map (flW p)
  own : ∀ g, v.ownBlock = some g → g < K ∨ M ≤ g
  tg : TgIn wr a' (sortT p.t)
  ta : sortT p.t ≠ [] → ∀ ad, a' = some ad → K < ad.block ∧ ad.block < M
  hM : M ≤ wr.heap.size
  hK : K < M
  box : wr.cell? ⟨K, 0, none⟩ = some (.string p.m) ∧ wr.cell? ⟨K, 2, none⟩ = some (.slice fa p.f.length fc) ∧ wr.cell? ⟨K, 3, none⟩ = some (.int .i64 p.tm)
  kl : k ≤ p.f.length
  few : L.length ≤ 16 * i + k
theorem FlI.below {w : World} {l : List PtP} {i : Nat} {p : PtP} {K M : Nat} {a' fa : Option Addr} {fc k : Nat} {v : Value} {L : List WrA} {wr w' : World} (h : FlI w l i p K M a' fa fc k v L wr) (hB : Below wr.heap.size wr w') : FlI w l i p K M a' fa fc k v L w' := by
  have kl : K < wr.heap.size := Nat.lt_of_lt_of_le h.hK h.hM
  exact ⟨h.bl.trans (hB.mono h.bl.size), h.row.below hB, h.is, h.own, h.tg.below hB, h.ta, Nat.le_trans h.hM hB.size, h.hK, ⟨by rw [hB.cell (p := ⟨K, 0, none⟩) kl]; exact h.box.1, by rw [hB.cell (p := ⟨K, 2, none⟩) kl]; exact h.box.2.1, by rw [hB.cell (p := ⟨K, 3, none⟩) kl]; exact h.box.2.2⟩, h.kl, h.few⟩
theorem FlI.app {w : World} {l : List PtP} {i : Nat} {p : PtP} {K M : Nat} {a' fa : Option Addr} {fc k : Nat} {a3 : Option Addr} {z c3 : Nat} {L : List WrA} {W : World} (h : FlI w l i p K M a' fa fc k (.slice a3 z c3) L W) (c' : Nat) {f : FdP} (hf : p.f[k]? = some f) (hp : p.f.length ≤ 16) (hi : i ≤ 10000) (hpt : p.t.length ≤ 4398046511104) :
    ∃ a4 c4 w6 L4, (∀ W' N, W' = W.alloc (.cells #[.string p.m, .slice a' (sortT p.t).length c', .string f.1, .int .i64 p.tm, .int .u8 0, .int .i64 f.2] 76) → N = W.heap.size → (Builtin.append_ #[23, 23] 23 #[.slice a3 z c3, .slice (some ⟨N, 0, none⟩) 1 1]).run Tryz.prog W' = .ok (.slice a4 (z + 1) c4) w6) ∧ FlI w l i p K M a' fa fc (k + 1) (.slice a4 (z + 1) c4) L4 w6 := by
  have lz : L.length = z := by
    obtain ⟨_, _, e, _⟩ := h.row.1.win
    injection e with _ e _
    exact e.symm
  have hk : k < p.f.length := (List.getElem?_eq_some_iff.1 hf).1
  have hs := sortT_short p.t
  obtain ⟨a4, c4, w6, q1, q2, q3, q4, q5⟩ := app3W W w.heap.size (.slice a3 z c3) L h.row h.bl.size (flW p f, a', c') ⟨h.tg, show (sortT p.t).length ≤ 9223372036854775807 by omega⟩ (fun he ad had e => by
    have h1 := h.ta he ad had
    rcases h.own _ e with h2 | h2 <;> omega) (by have := h.few; omega)
  rw [lz] at q1 q2 q5
  have hKW : K < W.heap.size := Nat.lt_of_lt_of_le h.hK h.hM
  have keep : ∀ o, w6.cell? ⟨K, o, none⟩ = W.cell? ⟨K, o, none⟩ := fun o => by
    refine World.cell?_of_block (w := W) (a := ⟨K, o, none⟩) (q4.block K hKW (fun e => ?_))
    have hM := h.hM
    have hK := h.hK
    rcases h.own K e.symm with h2 | h2 <;> omega
  refine ⟨a4, c4, w6, _, fun W' N e e' => by subst e; subst e'; exact q1, ⟨h.bl.trans q3, q2, ?_, fun g hg => ?_, ?_, h.ta, Nat.le_trans h.hM q4.size, h.hK, ⟨by rw [keep]; exact h.box.1, by rw [keep]; exact h.box.2.1, by rw [keep]; exact h.box.2.2⟩, hk, by have := h.few; simp; omega⟩⟩
  · rw [List.map_append, h.is, List.take_add_one, hf, List.append_assoc]; simp
  · rcases q5 g hg with e | e
    · exact h.own g e
    · right; exact Nat.le_trans h.hM e
  · refine h.tg.grownW q4 (fun he ad had e => ?_)
    have h1 := h.ta he ad had
    rcases h.own _ e with h2 | h2 <;> omega
end Go.Proofs.YtpbcbpiolhjlhaaGreatDoor


namespace Go.Proofs.YtpbcbpiolhjlhaaGreatDoor
open Go.RowKit _root_.Go.Proofs.YtpbcbpiolhjlhaaGreatDoor.So
set_option linter.unusedVariables false
set_option linter.unusedSimpArgs false
/-- what stands between two points. -/
structure FlO (w : World) (l : List PtP) (i : Nat) (v : Value) (L : List WrA) (wr : World) : Prop where
  bl : Below w.heap.size w wr
  row : OW2 wr w.heap.size v L
  is : L.map (·.1) = flatL (l.take i)
  few : L.length ≤ 16 * i
theorem FlO.start {w : World} {l : List PtP} {i : Nat} {p : PtP} {v : Value} {L : List WrA} {wr w2 w3 : World} (h : FlO w l i v L wr) (a' fa ta : Option Addr) (tc fc : Nat) (h2 : w2 = wr.alloc (.cells #[.string p.m, .slice ta p.t.length tc, .slice fa p.f.length fc, .int .i64 p.tm] 80)) (b3 : Below w2.heap.size w2 w3) (tg : TgIn w3 a' (sortT p.t)) (fr : ∀ ad, a' = some ad → w2.heap.size ≤ ad.block) : FlI w l i p wr.heap.size w3.heap.size a' fa fc 0 v L w3 := by
  have b2 : Below wr.heap.size wr w2 := by rw [h2]; exact (Below.refl _ wr).alloc (Nat.le_refl _) _
  have s2 : w2.heap.size = wr.heap.size + 1 := by rw [h2]; simp
  have B3 := b2.trans (b3.mono b2.size)
  have kl : wr.heap.size < w2.heap.size := by omega
  have z : w2.cell? ⟨wr.heap.size, 0, none⟩ = some (.string p.m) ∧ w2.cell? ⟨wr.heap.size, 2, none⟩ = some (.slice fa p.f.length fc) ∧ w2.cell? ⟨wr.heap.size, 3, none⟩ = some (.int .i64 p.tm) := by rw [h2]; simp [go_sem]
  refine ⟨h.bl.trans (B3.mono h.bl.size), h.row.below B3, by simpa using h.is, fun g hg => Or.inl (World.ownsRow.lt h.row.1.1 g hg).2, tg, fun hne ad had => ⟨by have := fr ad had; omega, ?_⟩, Nat.le_refl _, Nat.lt_of_lt_of_le kl b3.size, ⟨by rw [b3.cell (p := ⟨wr.heap.size, 0, none⟩) kl]; exact z.1, by rw [b3.cell (p := ⟨wr.heap.size, 2, none⟩) kl]; exact z.2.1, by rw [b3.cell (p := ⟨wr.heap.size, 3, none⟩) kl]; exact z.2.2⟩, Nat.zero_le _, by have := h.few; omega⟩
  rcases tg with e | ⟨b, off, e, hb, _⟩
  · exact absurd e hne
  · rw [had] at e; injection e with e; rw [e]; exact hb
theorem FlI.done {w : World} {l : List PtP} {i : Nat} {p : PtP} {K M : Nat} {a' fa : Option Addr} {fc : Nat} {v : Value} {L : List WrA} {wr : World} (h : FlI w l i p K M a' fa fc p.f.length v L wr) (hp : l[i]? = some p) (h16 : p.f.length ≤ 16) : FlO w l (i + 1) v L wr := ⟨h.bl, h.row, by rw [flatL_take hp, h.is, List.take_length], by have := h.few; omega⟩
end Go.Proofs.YtpbcbpiolhjlhaaGreatDoor


namespace Go.Proofs.YtpbcbpiolhjlhaaGreatDoor
open Go.RowKit _root_.Go.Proofs.YtpbcbpiolhjlhaaGreatDoor.So
set_option linter.unusedVariables false
set_option linter.unusedSimpArgs false
def noP : PtP := ⟨⟨#[]⟩, [], [], 0⟩
instance : Inhabited PtP := ⟨noP⟩
/-- a point, with where its tags and fields lie. -/
abbrev PtA := PtP × (Option Addr × Nat) × (Option Addr × Nat)
def encP : List PtA → List Value
  | [] => []
  | t :: r => [.string t.1.m, .slice t.2.1.1 t.1.t.length t.2.1.2, .slice t.2.2.1 t.1.f.length t.2.2.2, .int .i64 t.1.tm] ++ encP r
theorem encP_append (a b : List PtA) : encP (a ++ b) = encP a ++ encP b := by
  induction a with
  | nil => rfl
  | cons s r ih => simp [encP, ih]
theorem encP_one (l : List PtA) : ∀ u ∈ encP l, u.oneCell' = true := by
  induction l with
  | nil => intro u hu; cases hu
  | cons s r ih =>
    intro u hu
    simp only [encP, List.mem_append, List.mem_cons, List.not_mem_nil, or_false] at hu
    rcases hu with (rfl | rfl | rfl | rfl) | hu
    · rfl
    · rfl
    · rfl
    · rfl
    · exact ih u hu
theorem encP_get (l : List PtA) (i : Nat) (s : PtA) (h : l[i]? = some s) : (encP l)[i * 4]? = some (.string s.1.m) ∧ (encP l)[i * 4 + 1]? = some (.slice s.2.1.1 s.1.t.length s.2.1.2) ∧ (encP l)[i * 4 + 2]? = some (.slice s.2.2.1 s.1.f.length s.2.2.2) ∧ (encP l)[i * 4 + 3]? = some (.int .i64 s.1.tm) := by
  induction l generalizing i with
  | nil => simp at h
  | cons a r ih =>
    cases i with
    | zero => simp at h; subst h; simp [encP]
    | succ i =>
      simp at h
      have := ih i h
      simp only [encP]
      rw [show (i + 1) * 4 = i * 4 + 4 by omega]
      simpa using this
theorem pt_info : (Tryz.prog.info? 80).map (fun i => (i.zero, i.bytes, i.size)) = some (some (.agg #[.string ⟨#[]⟩, .slice none 0 0, .slice none 0 0, .int .i64 0]), 72, 4) := by kernel_rfl
end Go.Proofs.YtpbcbpiolhjlhaaGreatDoor


namespace Go.Proofs.YtpbcbpiolhjlhaaGreatDoor
open Go.RowKit _root_.Go.Proofs.YtpbcbpiolhjlhaaGreatDoor.So
set_option linter.unusedVariables false
set_option linter.unusedSimpArgs false
theorem chkV_two {l : List PtP} (h : ¬ chkOk l) : chkV l = .iface 101 (.int .i64 6) ∨ ∃ i n : Int, chkV l = .iface 185 (.agg #[.int .i64 i, .iface 101 (.int .i64 n)]) := by
  unfold chkV
  split
  · exact Or.inl rfl
  · rename_i h1
    cases hb : badP l 0 with
    | none => exact absurd ⟨by omega, hb⟩ h
    | some q => obtain ⟨i, n⟩ := q; exact Or.inr ⟨i, n, rfl⟩
set_option maxRecDepth 100000 in
set_option maxHeartbeats 4000000 in
theorem flat_bad (a : Option Addr) (c : Nat) (l : List PtP) (w : World) (hl : PsIn w a l) (hn : l.length ≤ 4611686018427387904) (hok : ¬ chkOk l) (hT : UT w) :
    Calls Tryz.prog 5 #[.slice a l.length c] w fun e w' => e = .returned (.tuple #[.slice none 0 0, chkV l]) ∧ Below w.heap.size w w' := by
  have C0 : Hid (Calls Tryz.prog 15 #[.slice a l.length c] w fun e w' => e = .returned (chkV l) ∧ Below w.heap.size w w') := check_any a c l w hl hn hT
  have two := chkV_two hok
  clear hl hn hok hT
  generalize l.length = n at *
  rcases two with e | ⟨i, m, e⟩
  · rw [e] at C0 ⊢
    clear e
    go_enter Tryz.func5, Tryz.ntmps5
    go_wp2_with fail
    refine Calls.mono C0.out ?_
    rintro e w1 ⟨rfl, b1⟩
    have bH : Hid (Below w.heap.size w w1) := b1
    clear b1 C0
    go_wp2_with fail
    go_ret2
    exact ⟨rfl, bH.out⟩
  · rw [e] at C0 ⊢
    clear e
    go_enter Tryz.func5, Tryz.ntmps5
    go_wp2_with fail
    refine Calls.mono C0.out ?_
    rintro e w1 ⟨rfl, b1⟩
    have bH : Hid (Below w.heap.size w w1) := b1
    clear b1 C0
    go_wp2_with fail
    go_ret2
    exact ⟨rfl, bH.out⟩
end Go.Proofs.YtpbcbpiolhjlhaaGreatDoor


namespace Go.Proofs.YtpbcbpiolhjlhaaGreatDoor

set_option linter.unusedVariables false
/-! ### a region whose last operation waits for all the others (a store into what they read): the others first, in whatever order, then it -/
end Go.Proofs.YtpbcbpiolhjlhaaGreatDoor


namespace Go.Proofs.YtpbcbpiolhjlhaaGreatDoor
open Go.RowKit _root_.Go.Proofs.YtpbcbpiolhjlhaaGreatDoor.So
set_option linter.unusedVariables false
set_option linter.unusedSimpArgs false
theorem fd_info : (Tryz.prog.info? 83).map (fun i => (i.zero, i.bytes, i.size)) = some (some (.agg #[.string ⟨#[]⟩, .int .i64 0]), 24, 2) := by kernel_rfl
def encF : List FdP → List Value
  | [] => []
  | t :: r => [.string t.1, .int .i64 t.2] ++ encF r
theorem encF_append (a b : List FdP) : encF (a ++ b) = encF a ++ encF b := by
  induction a with
  | nil => rfl
  | cons s r ih => simp [encF, ih]
theorem encF_len (l : List FdP) : (encF l).length = l.length * 2 := by
  induction l with
  | nil => rfl
  | cons s r ih => simp only [encF, List.length_append, ih, List.length_cons, List.length_nil]; omega
theorem encF_one (l : List FdP) : ∀ u ∈ encF l, u.oneCell' = true := by
  induction l with
  | nil => intro u hu; cases hu
  | cons s r ih =>
    intro u hu
    simp only [encF, List.mem_append, List.mem_cons, List.not_mem_nil, or_false] at hu
    rcases hu with (rfl | rfl) | hu
    · rfl
    · rfl
    · exact ih u hu
theorem encF_get (l : List FdP) (i : Nat) (s : FdP) (h : l[i]? = some s) : (encF l)[i * 2]? = some (.string s.1) ∧ (encF l)[i * 2 + 1]? = some (.int .i64 s.2) := by
  induction l generalizing i with
  | nil => simp at h
  | cons a r ih =>
    cases i with
    | zero => simp at h; subst h; simp [encF]
    | succ i =>
      simp at h
      have := ih i h
      simp only [encF]
      rw [show (i + 1) * 2 = i * 2 + 2 by omega]
      simpa using this
/-- a row of fields of one's own. -/
def OF (w : World) (B : Nat) (v : Value) (l : List FdP) : Prop := w.ownsRow B 83 2 v l.length (encF l)
theorem OF.tin {w : World} {B : Nat} {v : Value} {l : List FdP} (h : OF w B v l) : ∃ a cap, v = .slice a l.length cap ∧ l.length ≤ cap ∧ FdIn w a l := by
  rcases h.2 with ⟨e, e0⟩ | ⟨g, cap, cur, e1, _, hg, hc, _⟩
  · exact ⟨none, 0, by rw [e, e0], by omega, Or.inl (List.eq_nil_of_length_eq_zero e0)⟩
  · subst e1
    have hcs := World.ownsRow.cells h (g := g) rfl
    refine ⟨some ⟨g, 0, none⟩, cap, rfl, hc, Or.inr ⟨g, 0, rfl, (World.ownsRow.lt h g rfl).2, fun i s hs => ?_⟩⟩
    obtain ⟨e1, e2⟩ := encF_get l i s hs
    have k1 := hcs _ _ e1
    have k2 := hcs _ _ e2
    rw [tag_add, Nat.zero_add] at k1 k2
    rw [Nat.zero_add]
    exact ⟨k1, k2⟩
theorem OF.nil (w : World) (B : Nat) : OF w B (.slice none 0 0) [] := ⟨rfl, Or.inl ⟨rfl, rfl⟩⟩
theorem OF.below {w w' : World} {B C : Nat} {v : Value} {l : List FdP} (h : OF w B v l) (hb : Below C w w') (hC : w.heap.size ≤ C) : OF w' B v l := by
  refine ⟨h.1, ?_⟩
  rcases h.2 with h2 | ⟨g, cap, cur, e1, e2, e3, e4⟩
  · exact Or.inl h2
  · exact Or.inr ⟨g, cap, cur, e1, e2, by rw [hb.block g (Nat.lt_of_lt_of_le (Array.getElem?_eq_some_iff.1 e3).1 hC)]; exact e3, e4⟩
theorem OF.bound {w : World} {B : Nat} {v : Value} {l : List FdP} (h : OF w B v l) {k : Nat} (e : v.ownBlock = some k) : B ≤ k ∧ k < w.heap.size := by
  rcases h.2 with ⟨e1, e0⟩ | ⟨g, cap, cur, e1, _, hg, hc, _⟩
  · rw [e1] at e; cases e
  · subst e1
    have : g = k := by simpa [Value.ownBlock] using e
    subst this
    exact World.ownsRow.lt h g rfl
theorem FdIn.news {w : World} {ad : Addr} {l : List FdP} (h : FdIn w (some ad) l) : (∀ j u, (encF l)[j]? = some u → w.cell? (ad.add j) = some u) := by
  rcases h with e | ⟨b, off, e, hb, hc⟩
  · subst e; simp [encF]
  · cases e
    intro j u hj
    have hj2 : j < l.length * 2 := by rw [← encF_len]; exact (List.getElem?_eq_some_iff.1 hj).1
    obtain ⟨s, hs⟩ : ∃ s, l[j / 2]? = some s := ⟨_, List.getElem?_eq_getElem (by omega)⟩
    obtain ⟨e1, e2⟩ := encF_get l _ s hs
    obtain ⟨c1, c2⟩ := hc _ s hs
    rw [tag_add]
    rcases (by omega : j % 2 = 0 ∨ j % 2 = 1) with q | q
    · rw [show j = j / 2 * 2 by omega] at hj ⊢
      rw [e1] at hj
      rw [c1, ← hj]
    · rw [show j = j / 2 * 2 + 1 by omega] at hj ⊢
      rw [e2] at hj
      rw [← Nat.add_assoc, c2, ← hj]
theorem app_noF (W : World) (a ad : Option Addr) (n cap c : Nat) (h : n ≤ cap) : (Builtin.append_ #[78, 78] 78 #[.slice a n cap, .slice ad 0 c]).run Tryz.prog W = .ok (.slice a n cap) W := by
  obtain ⟨i, i1, i0⟩ := Option.map_eq_some_iff.1 fd_info
  cases a <;> cases ad <;> simp [Builtin.append_, run_underlying Tryz.underlying78, sizeOf, typeInfo, i1, Builtin.lenOf, Builtin.firstCells, storeCells, loadCells, loadCellsFrom, h]
/-- fields appended, or none. -/
theorem appF (W : World) (B : Nat) (v : Value) (l f : List FdP) (h : OF W B v l) (hB : B ≤ W.heap.size) (a : Option Addr) (c : Nat) (hf : FdIn W a f) (hn : l.length + f.length ≤ 4398046511104) :
    ∃ v' w', (Builtin.append_ #[78, 78] 78 #[v, .slice a f.length c]).run Tryz.prog W = .ok v' w' ∧ OF w' B v' (l ++ f) ∧ W.grownBy w' v.ownBlock ∧ (v'.ownBlock = v.ownBlock ∨ v'.ownBlock = some W.heap.size) := by
  rcases Nat.eq_zero_or_pos f.length with h0 | h0
  · have e := List.eq_nil_of_length_eq_zero h0
    subst e
    obtain ⟨a1, c1, e1, hc1, _⟩ := h.tin
    exact ⟨v, W, by rw [e1]; exact app_noF _ _ _ _ _ _ hc1, by rw [List.append_nil]; exact h, ⟨rfl, rfl, rfl, Nat.le_refl _, fun k hk hne => rfl⟩, Or.inl rfl⟩
  · have hf' := hf
    rcases hf with e | ⟨b, off, e, hb, hc⟩
    · rw [e] at h0; simp at h0
    · subst e
      obtain ⟨i, i1, i0⟩ := Option.map_eq_some_iff.1 fd_info
      have i2 : i.zero = some (.agg #[.string ⟨#[]⟩, .int .i64 0]) := congrArg (·.1) i0
      have i3 : i.bytes = 24 := congrArg (·.2.1) i0
      have i4 : i.size = 2 := congrArg (·.2.2) i0
      have hml : maxLen = 9223372036854775807 := by decide
      obtain ⟨g, cap, w', hr, own, gr, hat, hlt⟩ := run_append_lies (P := Tryz.prog) W 78 78 B 83 i (.agg #[.string ⟨#[]⟩, .int .i64 0]) 2 24 Tryz.underlying78 i1 i2 i4 i3 rfl (by omega) v l.length (encF l) h ⟨b, off, none⟩ f.length c (encF f) (encF_len _) hf'.news (encF_one _) h0 (by omega) (by omega) hB _ rfl
      refine ⟨_, w', hr, ?_, gr, ?_⟩
      · unfold OF; rw [List.length_append, encF_append]; exact own
      · rcases hat with e | e
        · exact Or.inl e.symm
        · subst e; exact Or.inr rfl
theorem grown_belowF {W w' : World} {B : Nat} {v : Value} {l : List FdP} (h : OF W B v l) (hB : B ≤ W.heap.size) (gr : W.grownBy w' v.ownBlock) : Below B W w' := (Below.refl B W).grown gr hB (fun k e => (h.bound e).1)
end Go.Proofs.YtpbcbpiolhjlhaaGreatDoor


namespace Go.Proofs.YtpbcbpiolhjlhaaGreatDoor
open Go.RowKit _root_.Go.Proofs.YtpbcbpiolhjlhaaGreatDoor.So
set_option linter.unusedVariables false
set_option linter.unusedSimpArgs false
/-! ### points whose fields grow where they lie -/
def tbk (u : PtA) : Option Nat := if u.1.t = [] then none else u.2.1.1.map (·.block)
def fV (u : PtA) : Value := .slice u.2.2.1 u.1.f.length u.2.2.2
def fbk (u : PtA) : Option Nat := (fV u).ownBlock
/-- not one block. -/
def Ap (x y : Option Nat) : Prop := ∀ k, x = some k → y ≠ some k
theorem Ap.symm {x y : Option Nat} (h : Ap x y) : Ap y x := fun k e e2 => h k e2 e
theorem Ap.none (y : Option Nat) : Ap none y := fun k e => by cases e
/-- all but the row: rb is the row's block. -/
structure PX (w : World) (B : Nat) (rb : Option Nat) (L : List PtA) : Prop where
  tg : ∀ u ∈ L, TgIn w u.2.1.1 u.1.t
  fd : ∀ u ∈ L, OF w B (fV u) u.1.f
  tr : ∀ u ∈ L, Ap (tbk u) rb
  fr : ∀ u ∈ L, Ap (fbk u) rb
  tf : ∀ u ∈ L, ∀ u' ∈ L, Ap (tbk u) (fbk u')
  ff : L.Pairwise fun u u' => Ap (fbk u) (fbk u')
theorem PX.nil (w : World) (B : Nat) (rb : Option Nat) : PX w B rb [] := ⟨(fun _ h => by cases h), (fun _ h => by cases h), (fun _ h => by cases h), (fun _ h => by cases h), (fun _ h => by cases h), List.Pairwise.nil⟩
theorem tbk_lt {w : World} {u : PtA} (h : TgIn w u.2.1.1 u.1.t) {k : Nat} (e : tbk u = some k) : k < w.heap.size := by
  unfold tbk at e
  split at e
  · cases e
  · rename_i q
    rcases h with h | ⟨b, off, ha, hb, _⟩
    · exact absurd h q
    · rw [ha] at e
      have : b = k := by simpa using e
      rw [← this]; exact hb
/-- a change of one block, or of none that was there. -/
theorem TgIn.keep {w w' : World} {u : PtA} {r : Option Nat} (h : TgIn w u.2.1.1 u.1.t) (g : w.grownBy w' r) (ha : Ap (tbk u) r) : TgIn w' u.2.1.1 u.1.t := h.grownW g (fun hne ad had q => by
  refine ha ad.block ?_ q
  unfold tbk
  rw [if_neg hne, had]; rfl)
theorem OF.keep {w w' : World} {B : Nat} {u : PtA} {r : Option Nat} (h : OF w B (fV u) u.1.f) (g : w.grownBy w' r) (ha : Ap (fbk u) r) : OF w' B (fV u) u.1.f := by
  refine World.ownsRow.kept h g ?_
  cases q : (fV u).ownBlock with
  | none => exact Or.inl rfl
  | some k => right; intro e; exact ha k q e.symm
theorem PX.grown {w w' : World} {B : Nat} {rb : Option Nat} {L : List PtA} (h : PX w B rb L) (g : w.grownBy w' rb) : PX w' B rb L := ⟨fun u hu => (h.tg u hu).keep g (h.tr u hu), fun u hu => (h.fd u hu).keep g (h.fr u hu), h.tr, h.fr, h.tf, h.ff⟩
theorem PX.below {w w' : World} {B : Nat} {rb : Option Nat} {L : List PtA} (h : PX w B rb L) (hb : Below w.heap.size w w') : PX w' B rb L := ⟨fun u hu => (h.tg u hu).below hb, fun u hu => (h.fd u hu).below hb (Nat.le_refl _), h.tr, h.fr, h.tf, h.ff⟩
/-- the row in another block, that is new. -/
theorem PX.moved {w : World} {B k : Nat} {rb : Option Nat} {L : List PtA} (h : PX w B rb L) (hk : w.heap.size ≤ k) : PX w B (some k) L := by
  refine ⟨h.tg, h.fd, fun u hu j e q => ?_, fun u hu j e q => ?_, h.tf, h.ff⟩
  · injection q with q
    have := tbk_lt (h.tg u hu) e
    omega
  · injection q with q
    have := ((h.fd u hu).bound e).2
    omega
/-- one more: its tags lie elsewhere, its fields are none or in a block of their own. -/
theorem PX.more {w : World} {B : Nat} {rb : Option Nat} {L : List PtA} (h : PX w B rb L) (u : PtA) (ht : TgIn w u.2.1.1 u.1.t) (hf : OF w B (fV u) u.1.f) (h1 : Ap (tbk u) rb) (h2 : Ap (fbk u) rb) (h3 : Ap (tbk u) (fbk u)) (h4 : ∀ u' ∈ L, Ap (tbk u) (fbk u') ∧ Ap (tbk u') (fbk u) ∧ Ap (fbk u') (fbk u)) : PX w B rb (L ++ [u]) := by
  refine ⟨fun x hx => ?_, fun x hx => ?_, fun x hx => ?_, fun x hx => ?_, fun x hx y hy => ?_, List.pairwise_append.2 ⟨h.ff, List.pairwise_singleton _ _, fun a ha b hb => ?_⟩⟩
  · rcases List.mem_append.1 hx with q | q
    · exact h.tg x q
    · rw [List.mem_singleton.1 q]; exact ht
  · rcases List.mem_append.1 hx with q | q
    · exact h.fd x q
    · rw [List.mem_singleton.1 q]; exact hf
  · rcases List.mem_append.1 hx with q | q
    · exact h.tr x q
    · rw [List.mem_singleton.1 q]; exact h1
  · rcases List.mem_append.1 hx with q | q
    · exact h.fr x q
    · rw [List.mem_singleton.1 q]; exact h2
  · rcases List.mem_append.1 hx with q | q <;> rcases List.mem_append.1 hy with r | r
    · exact h.tf x q y r
    · rw [List.mem_singleton.1 r]; exact (h4 x q).2.1
    · rw [List.mem_singleton.1 q]; exact (h4 y r).1
    · rw [List.mem_singleton.1 q, List.mem_singleton.1 r]; exact h3
  · rw [List.mem_singleton.1 hb]; exact (h4 a ha).2.2
/-- a point whose fields are one more. -/
def addF (u : PtA) (f : FdP) (a : Option Addr) (c : Nat) : PtA := (⟨u.1.m, u.1.t, u.1.f ++ [f], u.1.tm⟩, u.2.1, (a, c))
/-- one point's fields grown: all else is as it was. -/
theorem PX.field {w w' : World} {B i : Nat} {rb : Option Nat} {L : List PtA} {u : PtA} (h : PX w B rb L) (hi : L[i]? = some u) (f : FdP) (a : Option Addr) (c : Nat)
    (g : w.grownBy w' (fbk u)) (ho : OF w' B (fV (addF u f a c)) (u.1.f ++ [f])) (hk : fbk (addF u f a c) = fbk u ∨ (∃ k, fbk (addF u f a c) = some k ∧ w.heap.size ≤ k ∧ rb ≠ some k)) (hrb : ∀ k, rb = some k → k < w.heap.size) : PX w' B rb (L.set i (addF u f a c)) := by
  obtain ⟨hl, hi'⟩ := List.getElem?_eq_some_iff.1 hi
  have hu : u ∈ L := List.mem_of_getElem? hi
  have tN : tbk (addF u f a c) = tbk u := rfl
  have new : ∀ x : Option Nat, (∀ k, x = some k → k < w.heap.size) → Ap x (fbk u) → Ap x (fbk (addF u f a c)) := fun x hx hxu k e q => by
    rcases hk with hk | ⟨k', hk, hk2, _⟩
    · rw [hk] at q; exact hxu k e q
    · rw [hk] at q
      injection q with q
      have := hx k e
      omega
  have bF : ∀ x ∈ L, ∀ k, fbk x = some k → k < w.heap.size := fun x hx k e => ((h.fd x hx).bound e).2
  have bT : ∀ x ∈ L, ∀ k, tbk x = some k → k < w.heap.size := fun x hx k e => tbk_lt (h.tg x hx) e
  have mem : ∀ x, x ∈ L.set i (addF u f a c) → x = addF u f a c ∨ ∃ j, j ≠ i ∧ L[j]? = some x := fun x hx => by
    obtain ⟨j, hj⟩ := List.getElem?_of_mem hx
    rw [List.getElem?_set] at hj
    split at hj
    · (try rw [if_pos (by omega)] at hj)
      injection hj with hj; exact Or.inl hj.symm
    · rename_i q; exact Or.inr ⟨j, fun e => q e.symm, hj⟩
  have apF : ∀ j x, j ≠ i → L[j]? = some x → Ap (fbk x) (fbk u) := fun j x hne hx => by
    obtain ⟨hj, ej⟩ := List.getElem?_eq_some_iff.1 hx
    rcases Nat.lt_or_ge j i with q | q
    · have := List.pairwise_iff_getElem.1 h.ff j i hj hl q
      rw [ej, hi'] at this; exact this
    · have := List.pairwise_iff_getElem.1 h.ff i j hl hj (by omega)
      rw [ej, hi'] at this; exact this.symm
  refine ⟨fun x hx => ?_, fun x hx => ?_, fun x hx => ?_, fun x hx => ?_, fun x hx y hy => ?_, ?_⟩
  · rcases mem x hx with e | ⟨j, hj, e⟩
    · rw [e]; exact (h.tg u hu).keep g (h.tf u hu u hu)
    · exact (h.tg x (List.mem_of_getElem? e)).keep g (h.tf x (List.mem_of_getElem? e) u hu)
  · rcases mem x hx with e | ⟨j, hj, e⟩
    · rw [e]; exact ho
    · exact (h.fd x (List.mem_of_getElem? e)).keep g (apF j x hj e)
  · rcases mem x hx with e | ⟨j, hj, e⟩
    · rw [e, tN]; exact h.tr u hu
    · exact h.tr x (List.mem_of_getElem? e)
  · rcases mem x hx with e | ⟨j, hj, e⟩
    · rw [e]
      rcases hk with hk | ⟨k', hk, hk2, hk3⟩
      · rw [hk]; exact h.fr u hu
      · intro k q; rw [hk] at q; injection q with q; rw [← q]; exact hk3
    · exact h.fr x (List.mem_of_getElem? e)
  · rcases mem y hy with e | ⟨j, hj, e⟩
    · rw [e]
      rcases mem x hx with e2 | ⟨j2, hj2, e2⟩
      · rw [e2, tN]; exact new _ (bT u hu) (h.tf u hu u hu)
      · exact new _ (bT x (List.mem_of_getElem? e2)) (h.tf x (List.mem_of_getElem? e2) u hu)
    · rcases mem x hx with e2 | ⟨j2, hj2, e2⟩
      · rw [e2, tN]; exact h.tf u hu y (List.mem_of_getElem? e)
      · exact h.tf x (List.mem_of_getElem? e2) y (List.mem_of_getElem? e)
  · refine List.pairwise_iff_getElem.2 fun p q hp hq hpq => ?_
    rw [List.length_set] at hp hq
    rw [List.getElem_set, List.getElem_set]
    have old := List.pairwise_iff_getElem.1 h.ff p q hp hq hpq
    by_cases e1 : i = p
    · subst e1
      rw [if_pos rfl, if_neg (by omega)]
      rw [hi'] at old
      exact (new _ (bF _ (List.getElem_mem hq)) old.symm).symm
    · rw [if_neg e1]
      by_cases e2 : i = q
      · subst e2
        rw [if_pos rfl]
        rw [hi'] at old
        exact new _ (bF _ (List.getElem_mem hp)) old
      · rw [if_neg e2]; exact old
/-- points in a row of their own, whose fields may grow. -/
structure PG (w : World) (B : Nat) (v : Value) (L : List PtA) : Prop where
  row : w.ownsRow B 80 4 v L.length (encP L)
  px : PX w B v.ownBlock L
theorem PG.nil (w : World) (B : Nat) : PG w B (.slice none 0 0) [] := ⟨⟨rfl, Or.inl ⟨rfl, rfl⟩⟩, PX.nil _ _ _⟩
theorem PG.below {w w' : World} {B : Nat} {v : Value} {L : List PtA} (h : PG w B v L) (hb : Below w.heap.size w w') : PG w' B v L := by
  refine ⟨⟨h.row.1, ?_⟩, h.px.below hb⟩
  rcases h.row.2 with h2 | ⟨g, cap, cur, e1, e2, e3, e4⟩
  · exact Or.inl h2
  · exact Or.inr ⟨g, cap, cur, e1, e2, by rw [hb.block g (Array.getElem?_eq_some_iff.1 e3).1]; exact e3, e4⟩
theorem encP_set (L : List PtA) (i : Nat) (u x : PtA) (hi : L[i]? = some u) (h1 : x.1.m = u.1.m) (h2 : x.2.1 = u.2.1) (h2' : x.1.t = u.1.t) (h3 : x.1.tm = u.1.tm) : (encP L).set (i * 4 + 2) (fV x) = encP (L.set i x) := by
  induction L generalizing i with
  | nil => simp at hi
  | cons a r ih =>
    cases i with
    | zero =>
      simp at hi; subst hi
      simp only [encP, List.set_cons_zero, fV]
      simp [h1, h2, h2', h3]
    | succ i =>
      simp at hi
      have := ih i hi
      simp only [encP, List.set_cons_succ]
      rw [show (i + 1) * 4 + 2 = i * 4 + 2 + 4 by omega]
      simp [this]
/-- a point in the row, to be read. -/
theorem PG.at {w : World} {B g n cap i : Nat} {L : List PtA} {u : PtA} (h : PG w B (.slice (some ⟨g, 0, none⟩) n cap) L) (hi : L[i]? = some u) : PAt w g (i * 4) u.1 u.2.1.1 u.2.1.2 u.2.2.1 u.2.2.2 := by
  have hcs := World.ownsRow.cells h.row (g := g) rfl
  obtain ⟨e1, e2, e3, e4⟩ := encP_get L i u hi
  have k1 := hcs _ _ e1
  have k2 := hcs _ _ e2
  have k3 := hcs _ _ e3
  have k4 := hcs _ _ e4
  rw [tag_add, Nat.zero_add] at k1 k2 k3 k4
  exact ⟨k1, k2, k3, k4⟩
theorem PG.len {w : World} {B g n cap : Nat} {L : List PtA} (h : PG w B (.slice (some ⟨g, 0, none⟩) n cap) L) : n = L.length ∧ L.length ≤ cap ∧ B ≤ g ∧ g < w.heap.size := by
  rcases h.row.2 with ⟨e, _⟩ | ⟨g', cap', cur, e1, e2, e3, e4, _⟩
  · cases e
  · injection e1 with q1 q2 q3
    injection q1 with q1
    injection q1 with q1
    subst q1 q2 q3
    exact ⟨rfl, e4, e2, (Array.getElem?_eq_some_iff.1 e3).1⟩
theorem fd_one (W : World) (f : FdP) : FdIn (W.alloc (.cells #[.string f.1, .int .i64 f.2] 83)) (some ⟨W.heap.size, 0, none⟩) [f] := by
  refine Or.inr ⟨W.heap.size, 0, rfl, by simp, fun i t ht => ?_⟩
  cases i with
  | zero => simp at ht; subst ht; exact ⟨by simp [go_sem], by simp [go_sem]⟩
  | succ i => simp at ht
/-- a field behind those of a point: append, then the store. -/
theorem PG.field {W : World} {B g n cap i : Nat} {L : List PtA} {u : PtA} (h : PG W B (.slice (some ⟨g, 0, none⟩) n cap) L) (hB : B ≤ W.heap.size) (hi : L[i]? = some u) (f : FdP) (hn : u.1.f.length + 1 ≤ 4398046511104) :
    ∃ a c w', (Builtin.append_ #[78, 78] 78 #[.slice u.2.2.1 u.1.f.length u.2.2.2, .slice (some ⟨W.heap.size, 0, none⟩) 1 1]).run Tryz.prog (W.alloc (.cells #[.string f.1, .int .i64 f.2] 83)) = .ok (.slice a (u.1.f.length + 1) c) w'
      ∧ PG (w'.setCell ⟨g, i * 4 + 2, none⟩ (.slice a (u.1.f.length + 1) c)) B (.slice (some ⟨g, 0, none⟩) n cap) (L.set i (addF u f a c)) ∧ Below B W (w'.setCell ⟨g, i * 4 + 2, none⟩ (.slice a (u.1.f.length + 1) c)) ∧ w'.cell? ⟨g, i * 4 + 2, none⟩ = some (.slice u.2.2.1 u.1.f.length u.2.2.2) ∧ w'.frozen? ⟨g, i * 4 + 2, none⟩ = false ∧ W.grownBy w' (fbk u) := by
  obtain ⟨W1, hW1⟩ : ∃ W1, W1 = W.alloc (.cells #[.string f.1, .int .i64 f.2] 83) := ⟨_, rfl⟩
  have b1 : Below W.heap.size W W1 := by rw [hW1]; exact (Below.refl _ W).alloc (Nat.le_refl _) _
  have h1 := h.below b1
  have hu : u ∈ L := List.mem_of_getElem? hi
  have hB1 := Nat.le_trans hB b1.size
  obtain ⟨v', w', hr, ho, gr, hk⟩ := appF W1 B (fV u) u.1.f [f] (h1.px.fd u hu) hB1 (some ⟨W.heap.size, 0, none⟩) 1 (by rw [hW1]; exact fd_one W f) (by simpa using hn)
  obtain ⟨a, c, e, _, _⟩ := ho.tin
  rw [List.length_append, List.length_singleton] at e
  subst e
  have eN : fV (addF u f a c) = .slice a (u.1.f.length + 1) c := by unfold fV addF; simp
  obtain ⟨ln, lc, lB, lg⟩ := h1.len
  have hgr : (Value.slice (some ⟨g, 0, none⟩) n cap).ownBlock = some g := rfl
  have hne : fbk u ≠ some g := fun q => h1.px.fr u hu g q rfl
  have row2 : w'.ownsRow B 80 4 (.slice (some ⟨g, 0, none⟩) n cap) L.length (encP L) := World.ownsRow.kept h1.row gr (Or.inr fun q => hne (show (fV u).ownBlock = some g from q.symm))
  subst ln
  have st := World.ownsRow.stored row2 (i * 4 + 2) (.slice a (u.1.f.length + 1) c)
  have px2 : PX w' B (some g) (L.set i (addF u f a c)) := PX.field h1.px hi f a c gr (by rw [eN]; exact ho) (by
    unfold fbk
    rw [eN]
    rcases hk with q | q
    · exact Or.inl q
    · exact Or.inr ⟨W1.heap.size, q, Nat.le_refl _, fun q2 => by have q3 : some g = some W1.heap.size := q2; injection q3 with q3; omega⟩) (fun k q => by have q3 : some g = some k := q; injection q3 with q3; omega)
  have hb2 : Below B W w' := (b1.mono hB).trans (grown_belowF (h1.px.fd u hu) hB1 gr)
  refine ⟨a, c, w', by rw [← hW1]; exact hr, ⟨?_, px2.grown st.2⟩, hb2.trans ((Below.refl B w').grown st.2 (by have := hb2.size; omega) (fun k e => by injection e with e; omega)), ?_, World.ownsRow.frozenAt row2 _, ⟨gr.os.trans b1.os, gr.tape.trans b1.tape, gr.output.trans b1.output, Nat.le_trans b1.size gr.size, fun k hk hne => by rw [gr.block k (Nat.lt_of_lt_of_le hk b1.size) hne]; exact b1.block k hk⟩⟩
  · rw [List.length_set, ← encP_set L i u (addF u f a c) hi rfl rfl rfl rfl, eN]
    exact st.1
  · have hcs := World.ownsRow.cells row2 (g := g) rfl
    have := hcs _ _ (encP_get L i u hi).2.2.1
    rw [tag_add, Nat.zero_add] at this
    exact this
/-- a point behind the others: its tags lie elsewhere, it has no fields. -/
theorem PG.more {W : World} {B : Nat} {v : Value} {L : List PtA} (h : PG W B v L) (hB : B ≤ W.heap.size) (m : ByteArray) (t : List TagP) (ta : Option Addr) (tc : Nat) (tm : Int) (ht : TgIn W ta t) (htb : t ≠ [] → ∀ ad, ta = some ad → ad.block < B) (hn : L.length + 1 ≤ 1099511627776) :
    ∃ g c w', (Builtin.append_ #[22, 22] 22 #[v, .slice (some ⟨W.heap.size, 0, none⟩) 1 1]).run Tryz.prog (W.alloc (.cells #[.string m, .slice ta t.length tc, .slice none 0 0, .int .i64 tm] 80)) = .ok (.slice (some ⟨g, 0, none⟩) (L.length + 1) c) w'
      ∧ PG w' B (.slice (some ⟨g, 0, none⟩) (L.length + 1) c) (L ++ [(⟨m, t, [], tm⟩, (ta, tc), (none, 0))]) ∧ Below B W w' ∧ W.grownBy w' v.ownBlock ∧ (v.ownBlock = some g ∨ W.heap.size < g) := by
  obtain ⟨u, hu⟩ : ∃ u : PtA, u = (⟨m, t, [], tm⟩, (ta, tc), (none, 0)) := ⟨_, rfl⟩
  obtain ⟨W1, hW1⟩ : ∃ W1, W1 = W.alloc (.cells #[.string m, .slice ta t.length tc, .slice none 0 0, .int .i64 tm] 80) := ⟨_, rfl⟩
  have b1 : Below W.heap.size W W1 := by rw [hW1]; exact (Below.refl _ W).alloc (Nat.le_refl _) _
  have s1 : W1.heap.size = W.heap.size + 1 := by rw [hW1]; simp
  have h1 := h.below b1
  obtain ⟨i, i1, i0⟩ := Option.map_eq_some_iff.1 pt_info
  have i2 : i.zero = some (.agg #[.string ⟨#[]⟩, .slice none 0 0, .slice none 0 0, .int .i64 0]) := congrArg (·.1) i0
  have i3 : i.bytes = 72 := congrArg (·.2.1) i0
  have i4 : i.size = 4 := congrArg (·.2.2) i0
  have hml : maxLen = 9223372036854775807 := by decide
  have hB2 := Nat.le_trans hB b1.size
  obtain ⟨g, cap, w', hr, own, gr, hat, hlt⟩ := run_append_lies (P := Tryz.prog) W1 22 22 B 80 i (.agg #[.string ⟨#[]⟩, .slice none 0 0, .slice none 0 0, .int .i64 0]) 4 72 Tryz.underlying22 i1 i2 i4 i3 rfl (by omega) v L.length (encP L) h1.row ⟨W.heap.size, 0, none⟩ 1 1 (encP [u]) rfl (fun j x hj => by
    rw [hW1]
    rw [hu] at hj
    rcases j with _ | _ | _ | _ | j <;> simp [encP] at hj <;> (try (subst hj; simp [go_sem]))) (encP_one _) (by omega) (by omega) (by omega) hB2 _ rfl
  have bb : Below B W w' := (b1.mono hB).trans ((Below.refl B _).grown gr hB2 (fun k e => (World.ownsRow.lt h1.row k e).1))
  have tl : ∀ k, tbk u = some k → k < B := fun k e => by
    rw [hu] at e
    unfold tbk at e
    split at e
    · cases e
    · rename_i q
      simp only at e q
      cases ta with
      | none => cases e
      | some ad =>
        have : ad.block = k := by simpa using e
        rw [← this]; exact htb q ad rfl
  have fN : fbk u = none := by rw [hu]; rfl
  have px1 : PX w' B (some g) L := by
    have p0 := h1.px.grown gr
    rcases hat with e | e
    · rw [← e]; exact p0
    · have q := h1.px.moved (k := g) (by omega)
      refine ⟨p0.tg, p0.fd, q.tr, q.fr, q.tf, q.ff⟩
  have gB : B ≤ g := (World.ownsRow.lt own g rfl).1
  refine ⟨g, cap, w', by rw [← hW1]; exact hr, ⟨?_, ?_⟩, bb, ⟨gr.os.trans b1.os, gr.tape.trans b1.tape, gr.output.trans b1.output, Nat.le_trans b1.size gr.size, fun k hk hne => by rw [gr.block k (Nat.lt_of_lt_of_le hk b1.size) hne]; exact b1.block k hk⟩, by rcases hat with e | e; exact Or.inl e; exact Or.inr (by omega)⟩
  · rw [← hu, List.length_append, List.length_singleton, encP_append]; exact own
  · show PX w' B (some g) _
    rw [← hu]
    refine px1.more u ?_ ?_ (fun k e q => ?_) (by rw [fN]; exact Ap.none _) (by rw [fN]; exact (Ap.none _).symm) (fun u' hu' => ⟨fun k e q => ?_, by rw [fN]; exact (Ap.none _).symm, by rw [fN]; exact (Ap.none _).symm⟩)
    · have tt : TgIn W1 u.2.1.1 u.1.t := by rw [hu]; exact ht.below b1
      exact tt.keep gr (fun k e q => by have := (World.ownsRow.lt h1.row k q).1; have := tl k e; omega)
    · rw [hu]; exact OF.nil _ _
    · injection q with q
      have := tl k e; omega
    · have := ((px1.fd u' hu').bound q).1
      have := tl k e; omega
end Go.Proofs.YtpbcbpiolhjlhaaGreatDoor


namespace Go.Proofs.YtpbcbpiolhjlhaaGreatDoor.So.Wr
open Go.RowKit
set_option linter.unusedVariables false
set_option linter.unusedSimpArgs false
set_option maxRecDepth 100000 in
set_option maxHeartbeats 4000000 in
theorem delete_nil (w : World) : Calls Tryz.prog 24 #[.slice none 0 0, .func (.func 25) #[] #[]] w fun e w' => e = .returned (.slice none 0 0) ∧ Below w.heap.size w w' := by
  have CI : Hid (Calls Tryz.prog 73 #[.slice none 0 0, .func (.func 25) #[] #[]] w fun e w' => e = .returned (.int .i64 (-1)) ∧ Below w.heap.size w w') := by
    go_enter Tryz.func73, Tryz.ntmps73
    go_wp2_with fail
    go_loopw [8] (fun v wr => v = .int .i64 0 ∧ wr = w) (fun _ _ => 0)
    case atStart => exact ⟨rfl, rfl⟩
    case round =>
      obtain ⟨rfl, hwr⟩ := hrel
      subst hwr
      go_wp2_with fail
      go_ret
      exact ⟨rfl, Below.refl _ _⟩
  go_enter Tryz.func24, Tryz.ntmps24
  go_wp2_with fail
  refine Calls.mono CI.out ?_
  rintro e w1 ⟨rfl, B1⟩
  have B1H : Hid (Below w.heap.size w w1) := B1
  clear B1 CI
  go_wp2_with fail
  go_ret
  exact ⟨rfl, B1H.out⟩
set_option maxRecDepth 100000 in
set_option maxHeartbeats 4000000 in
theorem pieces_nil (w : World) : Calls Tryz.prog 74 #[.slice none 0 0, .func (.func 27) #[] #[]] w fun e w' => e = .returned (.slice none 0 0) ∧ Below w.heap.size w w' := by
  go_enter Tryz.func74, Tryz.ntmps74
  go_wp2_with fail
  go_loopw [0, 5] (fun vr vc wr => vr = .slice none 0 0 ∧ vc = .slice none 0 0 ∧ wr = w) (fun _ _ _ => 0)
  case atStart => exact ⟨rfl, rfl, rfl⟩
  case round =>
    obtain ⟨rfl, rfl, hwr⟩ := hrel
    subst hwr
    go_wp2_with fail
    go_ret
    exact ⟨rfl, Below.refl _ _⟩
set_option maxRecDepth 100000 in
set_option maxHeartbeats 4000000 in
theorem sorted_nil (w : World) (X : Nat → WrA) (ah : Nat → Nat → Bool) : Calls Tryz.prog 26 #[.slice none 0 0, .func (.func 27) #[] #[]] w fun e w' => SrtR w w' X ah 0 e := by
  obtain ⟨w0, hw0⟩ : ∃ w0, w0 = w.alloc (.cells #[.func (.func 27) #[] #[]] 97) := ⟨_, rfl⟩
  have B0 : Hid (Below w.heap.size w w0) := by rw [hw0]; exact (Below.refl _ w).alloc (Nat.le_refl _) _
  have CP : Hid (Calls Tryz.prog 74 #[.slice none 0 0, .func (.func 27) #[] #[]] w0 fun e w' => e = .returned (.slice none 0 0) ∧ Below w0.heap.size w0 w') := pieces_nil w0
  have hmk0 : ∀ w, (Instr.makeSlice 23 (.int .i64 0) (.int .i64 0)).run Tryz.prog w = .ok (.slice (some ⟨w.heap.size, 0, none⟩) 0 0) (w.alloc (.cells (madeCells zW 0) 76)) := fun w => by simpa using make_zero 0 (by omega) w
  go_enter Tryz.func26, Tryz.ntmps26
  go_wp2_with fail
  rw [← hw0]
  clear hw0
  refine Calls.mono CP.out ?_
  rintro e w1 ⟨rfl, hB1⟩
  have B1 : Hid (Below w.heap.size w w1) := B0.out.trans (hB1.mono B0.out.size)
  clear hB1 B0 CP
  go_wp2_with fail
  go_loopw [7] (fun v wr => v = .int .i64 (-1) ∧ wr = w1) (fun _ _ => 0)
  case atStart => exact ⟨rfl, rfl⟩
  case round =>
    obtain ⟨rfl, hwr⟩ := hrel
    subst hwr
    have fin : Hid (SrtR w (wr.alloc (.cells (madeCells zW 0) 76)) X ah 0 (.returned (.slice (some ⟨wr.heap.size, 0, none⟩) 0 0))) := ⟨[], wr.heap.size, 0, rfl, ⟨List.Pairwise.nil, fun p => by simp⟩, by simp, fun i p hi => by simp at hi, B1.out.alloc B1.out.size _⟩
    clear B1
    go_wp2_with fail
    generalize wr.alloc (.cells (madeCells zW 0) 76) = w2 at fin ⊢
    generalize wr.heap.size = go at fin ⊢
    go_loopw [5, 8] (fun v5 v8 wx => v5 = .slice none 0 0 ∧ v8 = .slice (some ⟨go, 0, none⟩) 0 0 ∧ wx = w2) (fun _ _ _ => 0)
    case atStart => exact ⟨rfl, rfl, rfl⟩
    case round =>
      obtain ⟨rfl, rfl, hwx⟩ := hrel
      subst hwx
      go_wp2_with fail
      go_ret
      exact fin.out
/-! ### what Points tells, plain -/
def toP (g : (SerP × Int) × List (ByteArray × Int)) : PtP := ⟨g.1.1.m, g.1.1.t, g.2, g.1.2⟩
end Go.Proofs.YtpbcbpiolhjlhaaGreatDoor.So.Wr


namespace Go.Proofs.YtpbcbpiolhjlhaaGreatDoor.De
open Go.RowKit _root_.Go.Proofs.YtpbcbpiolhjlhaaGreatDoor.So
set_option linter.unusedVariables false
set_option linter.unusedSimpArgs false
theorem DW.slice {w : World} {B : Nat} {v : Value} {L : List WrA} (h : DW w B v L) : ∃ a cap, v = .slice a L.length cap ∧ L.length ≤ cap ∧ WIn w a (L.map (·.1)) := by
  obtain ⟨a, cap, e, hw⟩ := h.ow.win
  refine ⟨a, cap, e, ?_, hw⟩
  rcases h.row.2 with ⟨e1, e2⟩ | ⟨g, cap', cur, e1, _, _, hc, _⟩
  · rw [e2]; exact Nat.zero_le _
  · rw [e] at e1
    injection e1 with _ _ e3
    omega
def OdR (w w' : World) (l : List WrP) (e : Ending) : Prop := ∃ (a : Option Addr) (z c : Nat) (L : List WrA), e = .returned (.slice a z c) ∧ DW w' w.heap.size (.slice a z c) L ∧ L.map (·.1) = odD l ∧ Below w.heap.size w w'
theorem orderD (a : Option Addr) (c : Nat) (l : List WrP) (w : World) (hl : WIn w a l) (hn : l.length ≤ 549755813888) (hts : ∀ x ∈ l, x.s.t.length ≤ 4398046511104) :
    Calls Tryz.prog 7 #[.slice a l.length c] w fun e w' => OdR w w' l e :=
  (order_any a c l w hl hn hts).mono fun e w' hh => by
    obtain ⟨out, L, v, rfl, hs, o, i, b⟩ := hh
    obtain ⟨a', cap, e', _⟩ := o.slice
    subst e'
    exact ⟨a', L.length, cap, L, rfl, o, by rw [i]; exact ordL_is l out hs, b⟩
set_option maxRecDepth 100000 in
set_option maxHeartbeats 4000000 in
theorem bmerge_any (a a2 : Option Addr) (c c2 : Nat) (l m : List WrP) (w : World) (ha : WIn w a l) (hb : WIn w a2 m) (hn : l.length + m.length ≤ 549755813888) (htl : ∀ x ∈ l, x.s.t.length ≤ 4398046511104) (htm : ∀ x ∈ m, x.s.t.length ≤ 4398046511104) :
    Calls Tryz.prog 8 #[.slice a l.length c, .slice a2 m.length c2] w fun e w' => OdR w w' (l ++ m) e := by
  obtain ⟨w1, hw1⟩ : ∃ w1, w1 = w.alloc (.cells #[.slice a l.length c, .slice a2 m.length c2] 23) := ⟨_, rfl⟩
  have b1 : Below w.heap.size w w1 := by rw [hw1]; exact (Below.refl _ w).alloc (Nat.le_refl _) _
  have C1 : Hid (Calls Tryz.prog 22 #[.slice (some ⟨w.heap.size, 0, none⟩) 2 2] w1 fun e w' => ∃ a z cap L, e = .returned (.slice a z cap) ∧ CcS w1 w' (.slice a z cap) L ∧ L.map (·.1) = l ++ m) := concat_any w1 w.heap.size (by rw [hw1]; simp) a a2 c c2 l m (ha.below b1) (hb.below b1) (by rw [hw1]; simp [go_sem]) (by rw [hw1]; simp [go_sem]) (by omega)
  have C2 : Hid (∀ (w2 : World) (a3 : Option Addr) (z c3 : Nat) (L : List WrA), CcS w1 w2 (.slice a3 z c3) L → L.map (·.1) = l ++ m → Calls Tryz.prog 7 #[.slice a3 z c3] w2 fun e w' => OdR w w' (l ++ m) e) := fun w2 a3 z c3 L hS e => by
    obtain ⟨a', cap, e', hc, hw⟩ := hS.win
    injection e' with q1 q2 q3
    subst q1 q3
    rw [e] at hw
    have lL : L.length = (l ++ m).length := by rw [← e, List.length_map]
    rw [q2, lL]
    refine (orderD a3 c3 (l ++ m) w2 hw (by rw [List.length_append]; exact hn) (fun x hx => (List.mem_append.1 hx).elim (htl x) (htm x))).mono fun e w' hh => ?_
    obtain ⟨a4, z4, c4, L4, rfl, o, i, b⟩ := hh
    have B2 := b1.trans (hS.bl.mono b1.size)
    exact ⟨a4, z4, c4, L4, rfl, o.mono B2.size, i, B2.trans (b.mono B2.size)⟩
  clear b1 ha hb hn htl htm
  generalize l.length = n1 at *
  generalize m.length = n2 at *
  go_enter Tryz.func8, Tryz.ntmps8
  go_wp2_with fail
  rw [← hw1]
  clear hw1
  refine Calls.mono C1.out ?_
  rintro e w2 ⟨a3, z3, d3, L3, rfl, hS, hi⟩
  have C4 : Hid _ := C2.out w2 a3 z3 d3 L3 hS hi
  clear hS hi C1 C2
  go_wp2_with fail
  refine Calls.mono C4.out ?_
  rintro e w3 ⟨a4, z4, d4, L4, rfl, r⟩
  have fin : Hid (OdR w w3 (l ++ m) (.returned (.slice a4 z4 d4))) := ⟨a4, z4, d4, L4, rfl, r⟩
  clear r C4
  go_wp2_with fail
  go_ret
  exact fin.out
end Go.Proofs.YtpbcbpiolhjlhaaGreatDoor.De
