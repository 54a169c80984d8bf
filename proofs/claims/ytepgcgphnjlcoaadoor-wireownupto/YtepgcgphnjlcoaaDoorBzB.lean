
import Derived.Test.YtepgcgphnjlcoaaDoorBoDq
import Derived.Test.YtepgcgphnjlcoaaDoorTornMq
namespace Go.Proofs.YtepgcgphnjlcoaaDoor
open Go.RowKit
set_option linter.unusedVariables false
set_option linter.unusedSimpArgs false
set_option maxRecDepth 100000
theorem row_kept {w w' : World} {B size n : Nat} {e : TypeId} {v : Value} {xs : List Value} (h : w.ownsRow B e size v n xs) (hb : ∀ g, v.ownBlock = some g → w'.heap[g]? = w.heap[g]?) : w'.ownsRow B e size v n xs := by
  refine ⟨h.1, ?_⟩
  rcases h.2 with h2 | ⟨g, cap, cur, e1, e2, e3, e4⟩
  · exact Or.inl h2
  · exact Or.inr ⟨g, cap, cur, e1, e2, by rw [hb g (by rw [e1]; rfl)]; exact e3, e4⟩
/-- a book, where its blocks are as they were. -/
theorem Bk.BK.keep {N C m : Nat} {V : Nat → Value} {hv : Value} {G : Nat → List Value} {w w' : World} (h : Bk.BK N C m V hv G w) (sz : w.heap.size ≤ w'.heap.size) (k0 : w'.heap[N]? = w.heap[N]?) (k1 : ∀ q, hv.ownBlock = some q → w'.heap[q]? = w.heap[q]?) (k2 : ∀ j, j < m → ∀ q, (V j).ownBlock = some q → w'.heap[q]? = w.heap[q]?) : Bk.BK N C m V hv G w' := by
  have cc : ∀ j, w'.cell? ⟨N, j, none⟩ = w.cell? ⟨N, j, none⟩ := fun j => World.cell?_of_block (w := w) (a := ⟨N, j, none⟩) k0
  refine ⟨⟨h.sp.nC, by have := h.sp.nw; omega, by have := h.sp.cw; omega, fun i hi k e => by have := h.sp.vb i hi k e; omega, fun k e => by have := h.sp.hb k e; omega, h.sp.dis, h.sp.hd⟩, ⟨by rw [cc]; exact h.st.cF, row_kept h.st.hr k1, fun j hj => row_kept (h.st.rows j hj) (k2 j hj), Bk.BF.refl _ _ _⟩, fun j hj hne => by rw [cc]; exact h.nil j hj hne, fun j => ?_⟩
  rw [World.frozen?_of_block (w := w) (a := ⟨N, j, none⟩) k0]; exact h.fz j
theorem WS.kept {N : Nat} {w1 wx w' : World} {fr : Int} {v : Value} {n : Nat} {xs : List Value} (h : WS N w1 fr v n xs wx) (sz : wx.heap.size ≤ w'.heap.size) (k0 : w'.heap[N]? = wx.heap[N]?) (k1 : ∀ q, v.ownBlock = some q → w'.heap[q]? = wx.heap[q]?) : WS N w' fr v n xs w' := by
  have cc : ∀ j, w'.cell? ⟨N, j, none⟩ = wx.cell? ⟨N, j, none⟩ := fun j => World.cell?_of_block (w := wx) (a := ⟨N, j, none⟩) k0
  have zz : ∀ j, w'.frozen? ⟨N, j, none⟩ = wx.frozen? ⟨N, j, none⟩ := fun j => World.frozen?_of_block (w := wx) (a := ⟨N, j, none⟩) k0
  exact ⟨by rw [cc]; exact h.c0, by rw [cc]; exact h.c1, by rw [zz]; exact h.f0, by rw [zz]; exact h.f1, row_kept h.own k1, Below.refl _ _, Nat.lt_of_lt_of_le h.sz sz⟩
theorem TW.kept {w0 : World} {N1 N2 : Nat} {fr b : Int} {l1 l2 : List Nat} {v u : Value} {wx w' : World} (h : TW w0 N1 N2 fr l1 v b l2 u wx) (sz : wx.heap.size ≤ w'.heap.size) (k1 : w'.heap[N1]? = wx.heap[N1]?) (k2 : w'.heap[N2]? = wx.heap[N2]?) (k3 : ∀ q, v.ownBlock = some q → w'.heap[q]? = wx.heap[q]?) (k4 : ∀ q, u.ownBlock = some q → w'.heap[q]? = wx.heap[q]?) (bb : Below w0.heap.size w0 w') : TW w0 N1 N2 fr l1 v b l2 u w' :=
  ⟨h.r.kept sz k1 k3, h.d.kept sz k2 k4, h.nn, h.s1, h.s2, h.s3, h.lo1, h.lo2, bb⟩
/-- both Writers and the book, apart. -/
structure JX (w0 : World) (o : Ops) (k m : Nat) (v u : Value) (V : Nat → Value) (hv : Value) (G : Nat → List Value) (wr : World) : Prop where
  tw : TW w0 w0.heap.size (w0.heap.size + 1) (((8 - (wrAll o k).2) % 8 : Nat) : Int) (wrAll o k).1 v (((wrAll o k).2 : Nat) : Int) (wrAll o k).1 u wr
  cl : CL (wrAll o k).1 (wrAll o k).2
  le : (wrAll o k).1.length ≤ mAll o k
  bk : Bk.BK (w0.heap.size + 2) (w0.heap.size + 3) m V hv G wr
  s1 : ∀ q, v.ownBlock = some q → q ≠ w0.heap.size + 2 ∧ hv.ownBlock ≠ some q ∧ ∀ j, j < m → (V j).ownBlock ≠ some q
  s2 : ∀ q, u.ownBlock = some q → q ≠ w0.heap.size + 2 ∧ hv.ownBlock ≠ some q ∧ ∀ j, j < m → (V j).ownBlock ≠ some q
  gl : ∀ j, j < m → (G j).length ≤ 268435456
theorem JX.vlt {w0 : World} {o : Ops} {k m : Nat} {v u : Value} {V : Nat → Value} {hv : Value} {G : Nat → List Value} {wr : World} (h : JX w0 o k m v u V hv G wr) : (∀ q, v.ownBlock = some q → q < wr.heap.size) ∧ (∀ q, u.ownBlock = some q → q < wr.heap.size) ∧ w0.heap.size + 2 < wr.heap.size :=
  ⟨fun q e => own_lt h.tw.r.own e, fun q e => own_lt h.tw.d.own e, h.bk.sp.nw⟩
theorem JX.below {w0 : World} {o : Ops} {k m : Nat} {v u : Value} {V : Nat → Value} {hv : Value} {G : Nat → List Value} {wr w' : World} (h : JX w0 o k m v u V hv G wr) (hb : Below wr.heap.size wr w') : JX w0 o k m v u V hv G w' := ⟨h.tw.below hb, h.cl, h.le, h.bk.below hb, h.s1, h.s2, h.gl⟩
theorem JX.bb {w0 : World} {o : Ops} {k m : Nat} {v u : Value} {V : Nat → Value} {hv : Value} {G : Nat → List Value} {wr : World} (h : JX w0 o k m v u V hv G wr) : Below w0.heap.size w0 wr := h.tw.bb
/-- Bytes. -/
theorem JX.bytes {w0 : World} {o : Ops} {k m : Nat} {v u : Value} {V : Nat → Value} {hv : Value} {G : Nat → List Value} {wr : World} (h : JX w0 o k m v u V hv G wr) (hm : mAll o k ≤ 134217728) : Calls Tryd.prog 6 #[.pointer (some ⟨w0.heap.size, 0, none⟩)] wr fun e w' => ∃ v9 l9, e = .returned v9 ∧ List.length l9 ≤ 268435456 ∧ Bk.OE w' wr.heap.size v9 l9 ∧ Below wr.heap.size wr w' := by
  have le := h.le
  exact (bytesO _ _ _ v _ wr h.tw.r (by omega)).mono fun e w' ⟨v9, e1, e2, e3⟩ => ⟨v9, _, e1, by simp [enc]; omega, e2, e3⟩
/-- a list kept. -/
theorem JX.take {w0 : World} {o : Ops} {k m B : Nat} {v u : Value} {V : Nat → Value} {hv : Value} {G : Nat → List Value} {wr : World} {v9 : Value} {l9 : List Value} (h : JX w0 o k m v u V hv G wr) (o9 : Bk.OE wr B v9 l9) (hl : l9.length ≤ 268435456) (hf : ∀ q, v9.ownBlock = some q → w0.heap.size + 3 ≤ q ∧ v.ownBlock ≠ some q ∧ u.ownBlock ≠ some q ∧ hv.ownBlock ≠ some q ∧ ∀ j, j < m → (V j).ownBlock ≠ some q) (hm : m ≤ 4194304) :
    Calls Tryd.prog 5 #[.pointer (some ⟨w0.heap.size + 2, 0, none⟩), v9] wr fun e w' => e = .returned undef ∧ ∃ hv', JX w0 o k (m + 1) v u (fun j => if j = m then v9 else V j) hv' (fun j => if j = m then l9 else G j) w' ∧ Bk.FRB (w0.heap.size + 2) wr hv hv' w' := by
  obtain ⟨a1, a2, a3⟩ := h.vlt
  refine (Bk.take_any' h.bk o9 (fun q e => ⟨(hf q e).1, (hf q e).2.2.2.1, (hf q e).2.2.2.2⟩) hm).mono fun e w' ⟨e1, hv', bk, bN, fb⟩ => ⟨e1, hv', ⟨?_, h.cl, h.le, bk, fun q e => ?_, fun q e => ?_, fun j hj => ?_⟩, fb⟩
  · have n1 : ∀ q, hv.ownBlock = some q → w0.heap.size + 3 ≤ q := fun q e => (h.bk.sp.hb q e).1
    exact h.tw.kept fb.1 (fb.2.1 _ (by omega) (by omega) (fun e => by have := n1 _ e; omega)) (fb.2.1 _ (by omega) (by omega) (fun e => by have := n1 _ e; omega)) (fun q e => fb.2.1 q (a1 q e) (h.s1 q e).1 (h.s1 q e).2.1) (fun q e => fb.2.1 q (a2 q e) (h.s2 q e).1 (h.s2 q e).2.1) (h.bb.trans (bN.mono (by omega)))
  · refine ⟨(h.s1 q e).1, fun c => ?_, fun j hj c => ?_⟩
    · rcases fb.2.2 q c with d | d
      · exact (h.s1 q e).2.1 d
      · have := a1 q e; omega
    · by_cases hjm : j = m
      · simp only [if_pos hjm] at c; exact (hf q c).2.1 e
      · simp only [if_neg hjm] at c; exact (h.s1 q e).2.2 j (by omega) c
  · refine ⟨(h.s2 q e).1, fun c => ?_, fun j hj c => ?_⟩
    · rcases fb.2.2 q c with d | d
      · exact (h.s2 q e).2.1 d
      · have := a2 q e; omega
    · by_cases hjm : j = m
      · simp only [if_pos hjm] at c; exact (hf q c).2.2.1 e
      · simp only [if_neg hjm] at c; exact (h.s2 q e).2.2 j (by omega) c
  · by_cases hjm : j = m
    · simp only [if_pos hjm]; exact hl
    · simp only [if_neg hjm]; exact h.gl j (by omega)
/-- what lies beyond all is fresh. -/
theorem JX.fresh {w0 : World} {o : Ops} {k m : Nat} {v u : Value} {V : Nat → Value} {hv : Value} {G : Nat → List Value} {wr : World} (h : JX w0 o k m v u V hv G wr) {q : Nat} (hq : wr.heap.size ≤ q) : w0.heap.size + 3 ≤ q ∧ v.ownBlock ≠ some q ∧ u.ownBlock ≠ some q ∧ hv.ownBlock ≠ some q ∧ ∀ j, j < m → (V j).ownBlock ≠ some q := by
  obtain ⟨a1, a2, a3⟩ := h.vlt
  exact ⟨by omega, fun e => by have := a1 q e; omega, fun e => by have := a2 q e; omega, fun e => by have := (h.bk.sp.hb q e).2; omega, fun j hj e => by have := (h.bk.sp.vb j hj q e).2; omega⟩
/-- one thing written. -/
theorem JX.write {w0 : World} {o : Ops} {k m : Nat} {v u : Value} {V : Nat → Value} {hv : Value} {G : Nat → List Value} {wr : World} (h : JX w0 o k m v u V hv G wr) (O : Obj) (hx : o.X k < 18446744073709551616) (hB : BytesIn w0 (o.A k) (o.M k) (o.S k)) (hb : mAll o k + o.M k + 100 ≤ 140737488355328) :
    Calls Tryd.prog 4 #[.pointer (some ⟨w0.heap.size, 0, none⟩), .pointer (some ⟨w0.heap.size + 1, 0, none⟩), .agg #[.int .i64 (o.K k), .int .u64 (o.X k : Int), .int .i64 (o.B k), .slice (o.A k) (o.M k) (o.C k)]] (wr.alloc O) fun e w' => e = .returned undef ∧ ∃ v' u', JX w0 o (k + 1) m v' u' V hv G w' := by
  have hA := h.below ((Below.refl _ wr).alloc (Nat.le_refl _) O)
  obtain ⟨a1, a2, a3⟩ := hA.vlt
  have le := h.le
  refine (write_any w0 _ _ _ _ v u _ hA.tw h.cl (o.K k) (o.X k) hx (o.B k) (o.A k) (o.M k) (o.C k) (o.S k) hB (by omega)).mono ?_
  rintro e w' ⟨rfl, v', u', hT', hC', hl', hK⟩
  have n1 : ∀ q, hv.ownBlock = some q → w0.heap.size + 3 ≤ q ∧ q < (wr.alloc O).heap.size := fun q e => hA.bk.sp.hb q e
  have n2 : ∀ j, j < m → ∀ q, (V j).ownBlock = some q → w0.heap.size + 3 ≤ q ∧ q < (wr.alloc O).heap.size := fun j hj q e => hA.bk.sp.vb j hj q e
  refine ⟨rfl, v', u', ⟨hT', hC', by simp only [mAll]; exact Nat.le_trans hl' (by omega), hA.bk.keep hK.size ?_ (fun q e => ?_) (fun j hj q e => ?_), fun q e => ?_, fun q e => ?_, h.gl⟩⟩
  · exact hK.keep _ a3 (by omega) (by omega) (fun e => (h.s1 _ e.symm).1 rfl) (fun e => (h.s2 _ e.symm).1 rfl)
  · exact hK.keep q (n1 q e).2 (by have := (n1 q e).1; omega) (by have := (n1 q e).1; omega) (fun c => (h.s1 q c.symm).2.1 e) (fun c => (h.s2 q c.symm).2.1 e)
  · exact hK.keep q (n2 j hj q e).2 (by have := (n2 j hj q e).1; omega) (by have := (n2 j hj q e).1; omega) (fun c => (h.s1 q c.symm).2.2 j hj e) (fun c => (h.s2 q c.symm).2.2 j hj e)
  · rcases hK.own1 q e with c | c
    · exact h.s1 q c
    · exact ⟨by omega, fun d => by have := (n1 q d).2; omega, fun j hj d => by have := (n2 j hj q d).2; omega⟩
  · rcases hK.own2 q e with c | c
    · exact h.s2 q c
    · exact ⟨by omega, fun d => by have := (n1 q d).2; omega, fun j hj d => by have := (n2 j hj q d).2; omega⟩
/-- the state with what it is about hidden. -/
def JS (w0 : World) (o : Ops) (k m : Nat) (wr : World) : Prop := ∃ v u V hv G, JX w0 o k m v u V hv G wr
theorem JS.start (w : World) (o : Ops) : JS w o 0 0 (((w.alloc (.cells #[.slice none 0 0, .int .i64 0] 26)).alloc (.cells #[.slice none 0 0, .int .i64 0] 29)).alloc (.cells (Array.replicate 28 (.slice none 0 0)) 59)) := by
  obtain ⟨v, u, hT, hC, hl⟩ := TK.start w o
  have bk := Bk.BK.start ((w.alloc (.cells #[.slice none 0 0, .int .i64 0] 26)).alloc (.cells #[.slice none 0 0, .int .i64 0] 29))
  rw [show ((w.alloc (.cells #[.slice none 0 0, .int .i64 0] 26)).alloc (.cells #[.slice none 0 0, .int .i64 0] 29)).heap.size = w.heap.size + 2 by simp] at bk
  have vl : ∀ q, v.ownBlock = some q → q < w.heap.size + 2 := fun q e => by have := own_lt hT.r.own e; simpa using this
  have ul : ∀ q, u.ownBlock = some q → q < w.heap.size + 2 := fun q e => by have := own_lt hT.d.own e; simpa using this
  exact ⟨v, u, _, _, _, hT.alloc _, hC, hl, bk, fun q e => ⟨by have := vl q e; omega, fun c => by simp [Value.ownBlock] at c, fun j hj => by omega⟩, fun q e => ⟨by have := ul q e; omega, fun c => by simp [Value.ownBlock] at c, fun j hj => by omega⟩, fun j hj => by omega⟩
end Go.Proofs.YtepgcgphnjlcoaaDoor

namespace Go.Proofs.YtepgcgphnjlcoaaDoor
open Go.RowKit
set_option linter.unusedVariables false
set_option linter.unusedSimpArgs false
set_option maxRecDepth 100000
theorem frame_ltO (kind number : Nat) (hk : kind < 256) (l : List Nat) (hl : ∀ x ∈ l, x < 256) : ∀ x ∈ frameOf kind number l, x < 256 := by
  intro x hx
  rcases List.mem_append.1 hx with hx | hx
  · rcases List.mem_append.1 hx with hx | hx
    · exact head2_lt kind number _ hk x hx
    · exact hl x hx
  · exact be4_lt _ x hx

theorem new_okO (b o m c : Nat) (bs : Nat → Nat) (w : World) (h : BytesIn w (some ⟨b, o, none⟩) m bs) : Calls Tryd.prog 9 #[.slice (some ⟨b, o, none⟩) m c] w fun e w' => ∃ N a cap, e = .returned (.pointer (some ⟨N, 0, none⟩)) ∧ w.heap.size ≤ N ∧ RR N w' a m cap bs 0 0 none w' ∧ (∀ b off, a = some ⟨b, off, none⟩ → w.heap.size ≤ b) ∧ Below w.heap.size w w' := by
  have hC : Hid (∀ w', Below w.heap.size w w' → _) := fun w' hb => clone_cap b o m c bs w' (h.below hb)
  have hm := h.1
  clear h
  go_enter Tryd.func9, Tryd.ntmps9
  go_wp2_with fail
  refine Calls.mono (hC.out _ (Below.refl _ _)) ?_
  rintro e w2 ⟨⟨g, c', rfl, hc', hg1, hg2, hB⟩, hBe⟩
  have hRR : RR w2.heap.size (w2.alloc (.cells #[.slice (some ⟨g, 0, none⟩) m c', .int .i64 0, .int .i64 0, .nilIface] 97)) (some ⟨g, 0, none⟩) m c' bs 0 0 none (w2.alloc (.cells #[.slice (some ⟨g, 0, none⟩) m c', .int .i64 0, .int .i64 0, .nilIface] 97)) := by
    refine ⟨by simp [go_sem], by simp [go_sem], by simp [go_sem], by simp [go_sem, fvV], by simp [go_sem], by simp [go_sem], by simp [go_sem], ?_, hm, hc', by omega, by omega, fun h => absurd rfl h, Below.refl _ _, by simp⟩
    rcases hB with h0 | hB
    · exact Or.inl h0
    · exact Or.inr ⟨g, 0, rfl, by simp; omega, by omega, hB.below ((Below.refl _ w2).alloc (Nat.le_refl _) _) hg2⟩
  have hRRH : Hid _ := hRR
  have hBe2 := hBe.size
  clear hRR hB
  go_wp2_with fail
  go_ret
  exact ⟨w2.heap.size, _, c', rfl, hBe2, hRRH.out, fun b off e => by injection e with e; injection e with e _; omega, below_new hBe _⟩
theorem new_nilO (bs : Nat → Nat) (w : World) : Calls Tryd.prog 9 #[.slice none 0 0] w fun e w' => ∃ N a cap, e = .returned (.pointer (some ⟨N, 0, none⟩)) ∧ w.heap.size ≤ N ∧ RR N w' a 0 cap bs 0 0 none w' ∧ (∀ b off, a = some ⟨b, off, none⟩ → w.heap.size ≤ b) ∧ Below w.heap.size w w' := by
  go_enter Tryd.func9, Tryd.ntmps9
  go_wp2_with fail
  refine (clone_nil _).mono ?_
  rintro e w2 ⟨rfl, hw⟩
  have hw' := hw.symm
  subst hw'
  clear hw
  have hRR : RR w.heap.size (w.alloc (.cells #[.slice none 0 0, .int .i64 0, .int .i64 0, .nilIface] 97)) none 0 0 bs 0 0 none (w.alloc (.cells #[.slice none 0 0, .int .i64 0, .int .i64 0, .nilIface] 97)) :=
    ⟨by simp [go_sem], by simp [go_sem], by simp [go_sem], by simp [go_sem, fvV], by simp [go_sem], by simp [go_sem], by simp [go_sem], Or.inl rfl, by omega, by omega, by omega, by omega, fun h => absurd rfl h, Below.refl _ _, by simp⟩
  have hRRH : Hid _ := hRR
  clear hRR
  go_wp2_with fail
  go_ret
  exact ⟨w.heap.size, _, 0, rfl, Nat.le_refl _, hRRH.out, fun b off e => (by cases e), below_new (Below.refl _ _) _⟩
theorem new_noneO (ad : Addr) (c : Nat) (bs : Nat → Nat) (w : World) : Calls Tryd.prog 9 #[.slice (some ad) 0 c] w fun e w' => ∃ N a cap, e = .returned (.pointer (some ⟨N, 0, none⟩)) ∧ w.heap.size ≤ N ∧ RR N w' a 0 cap bs 0 0 none w' ∧ (∀ b off, a = some ⟨b, off, none⟩ → w.heap.size ≤ b) ∧ Below w.heap.size w w' := by
  have hC : Hid (∀ w', Below w.heap.size w w' → _) := fun w' hb => clone_noneA ad c w'
  go_enter Tryd.func9, Tryd.ntmps9
  go_wp2_with fail
  refine Calls.mono (hC.out _ (Below.refl _ _)) ?_
  rintro e w2 ⟨⟨g, c', rfl, hg1, hg2⟩, hBe⟩
  have hRR : RR w2.heap.size (w2.alloc (.cells #[.slice (some ⟨g, 0, none⟩) 0 c', .int .i64 0, .int .i64 0, .nilIface] 97)) (some ⟨g, 0, none⟩) 0 c' bs 0 0 none (w2.alloc (.cells #[.slice (some ⟨g, 0, none⟩) 0 c', .int .i64 0, .int .i64 0, .nilIface] 97)) := by
    refine ⟨by simp [go_sem], by simp [go_sem], by simp [go_sem], by simp [go_sem, fvV], by simp [go_sem], by simp [go_sem], by simp [go_sem], Or.inl rfl, by omega, by omega, by omega, by omega, fun h => absurd rfl h, Below.refl _ _, by simp⟩
  have hRRH : Hid _ := hRR
  have hBe2 := hBe.size
  clear hRR
  go_wp2_with fail
  go_ret
  exact ⟨w2.heap.size, _, c', rfl, hBe2, hRRH.out, fun b off e => by injection e with e; injection e with e _; omega, below_new hBe _⟩

theorem newR_inO (ba : Option Addr) (bc : Nat) (L : List Nat) (w : World) (h : BytesIn w ba L.length (natsOf L)) (hc : ba = none → bc = 0) :
    Calls Tryd.prog 9 #[.slice ba L.length bc] w fun e w' => ∃ N a cap, e = .returned (.pointer (some ⟨N, 0, none⟩)) ∧ w.heap.size ≤ N ∧ RR N w' a L.length cap (natsOf L) 0 0 none w' ∧ (∀ b off, a = some ⟨b, off, none⟩ → w.heap.size ≤ b) ∧ Below w.heap.size w w' := by
  cases ba with
  | none =>
    have h0 : L.length = 0 := by
      rcases h.2 with h0 | ⟨_, _, e, _⟩
      · exact h0
      · cases e
    rw [hc rfl, h0]
    exact new_nilO _ w
  | some ad =>
    rcases h.2 with h0 | ⟨b, off, e, hb, hB⟩
    · rw [h0]; exact new_noneO ad bc _ w
    · rw [e] at h ⊢
      exact new_okO b off _ bc _ w h
theorem RR.kept {N : Nat} {w1 wx w' : World} {a : Option Addr} {n cap : Nat} {bs : Nat → Nat} {p r : Nat} {fv : Option (Int × Int)} (h : RR N w1 a n cap bs p r fv wx) (sz : wx.heap.size ≤ w'.heap.size) (k0 : w'.heap[N]? = wx.heap[N]?) (k1 : n ≠ 0 → ∀ b off, a = some ⟨b, off, none⟩ → w'.heap[b]? = wx.heap[b]?) : RR N w' a n cap bs p r fv w' := by
  have cc : ∀ j, w'.cell? ⟨N, j, none⟩ = wx.cell? ⟨N, j, none⟩ := fun j => World.cell?_of_block (w := wx) (a := ⟨N, j, none⟩) k0
  have zz : ∀ j, w'.frozen? ⟨N, j, none⟩ = wx.frozen? ⟨N, j, none⟩ := fun j => World.frozen?_of_block (w := wx) (a := ⟨N, j, none⟩) k0
  refine ⟨by rw [cc]; exact h.c0, by rw [cc]; exact h.c1, by rw [cc]; exact h.c2, by rw [cc]; exact h.c3, by rw [zz]; exact h.f1, by rw [zz]; exact h.f2, by rw [zz]; exact h.f3, ?_, h.nb, h.nc, h.pn, h.r8, h.rp, Below.refl _ _, Nat.lt_of_lt_of_le h.sz sz⟩
  rcases h.row with h0 | ⟨b, off, e, hb, hne, hB⟩
  · exact Or.inl h0
  · by_cases h0 : n = 0
    · exact Or.inl h0
    · refine Or.inr ⟨b, off, e, by omega, hne, fun i hi => ?_⟩
      rw [World.cell?_of_block (w := wx) (a := ⟨b, off + i, none⟩) (k1 h0 b off e)]
      exact hB i hi
theorem oe_bytes {w : World} {B : Nat} {v : Value} {l : List Nat} (h : Bk.OE w B v (enc l)) (hl : ∀ y ∈ l, y < 256) (hb : l.length ≤ 140737488355327) : ∃ a c, v = .slice a l.length c ∧ BytesIn w a l.length (natsOf l) ∧ (a = none → c = 0) := by
  have el : (enc l).length = l.length := by simp [enc]
  have h' : w.ownsRow B 5 1 v l.length (enc l) := by rw [← el]; exact h
  rcases h'.2 with ⟨e, e0⟩ | ⟨g, cap, cur, e1, e2, e3, e4⟩
  · exact ⟨none, 0, by rw [e, e0], ⟨hb, Or.inl e0⟩, fun _ => rfl⟩
  · subst e1
    exact ⟨some ⟨g, 0, none⟩, cap, rfl, ⟨hb, Or.inr ⟨g, 0, rfl, (h'.lt g rfl).2, bytes_own h' hl⟩⟩, fun e => by cases e⟩
/-- both Writers, the book and a Reader, apart. -/
structure LX (w0 : World) (o : Ops) (K m : Nat) (v u : Value) (V : Nat → Value) (hv : Value) (G : Nat → List Value) (NR : Nat) (ar : Option Addr) (n cr : Nat) (bs : Nat → Nat) (wr : World) : Prop where
  jx : JX w0 o K m v u V hv G wr
  rr : ∃ p r fv, RR NR wr ar n cr bs p r fv wr
  sN : w0.heap.size + 3 ≤ NR ∧ v.ownBlock ≠ some NR ∧ u.ownBlock ≠ some NR ∧ hv.ownBlock ≠ some NR ∧ ∀ j, j < m → (V j).ownBlock ≠ some NR
  sR : n ≠ 0 → ∀ b off, ar = some ⟨b, off, none⟩ → w0.heap.size + 3 ≤ b ∧ hv.ownBlock ≠ some b ∧ b < wr.heap.size
theorem LX.below {w0 : World} {o : Ops} {K m : Nat} {v u : Value} {V : Nat → Value} {hv : Value} {G : Nat → List Value} {NR : Nat} {ar : Option Addr} {n cr : Nat} {bs : Nat → Nat} {wr w' : World} (h : LX w0 o K m v u V hv G NR ar n cr bs wr) (hb : Below wr.heap.size wr w') : LX w0 o K m v u V hv G NR ar n cr bs w' := by
  obtain ⟨p, r, fv, rr⟩ := h.rr
  exact ⟨h.jx.below hb, ⟨p, r, fv, rr.kept hb.size (hb.block _ rr.sz) (fun h0 b off e => hb.block b (h.sR h0 b off e).2.2)⟩, h.sN, fun h0 b off e => ⟨(h.sR h0 b off e).1, (h.sR h0 b off e).2.1, Nat.lt_of_lt_of_le (h.sR h0 b off e).2.2 hb.size⟩⟩
/-- Raw. -/
theorem LX.raw {w0 : World} {o : Ops} {K m : Nat} {v u : Value} {V : Nat → Value} {hv : Value} {G : Nat → List Value} {NR : Nat} {ar : Option Addr} {n cr : Nat} {bs : Nat → Nat} {wr : World} (h : LX w0 o K m v u V hv G NR ar n cr bs wr) (X : Int) (hX : -9223372036854775808 ≤ X ∧ X ≤ 9223372036854775807) (hn : n ≤ 268435456) :
    Calls Tryd.prog 10 #[.pointer (some ⟨NR, 0, none⟩), .int .i64 X] wr fun e w' => ∃ v9 l9, e = .returned v9 ∧ List.length l9 ≤ 268435456 ∧ Bk.OE w' wr.heap.size v9 l9 ∧ LX w0 o K m v u V hv G NR ar n cr bs w' ∧ ∀ q, v9.ownBlock = some q → (w0.heap.size + 3 ≤ q ∧ v.ownBlock ≠ some q ∧ u.ownBlock ≠ some q ∧ hv.ownBlock ≠ some q ∧ ∀ j, j < m → (V j).ownBlock ≠ some q) ∧ q ≠ NR := by
  obtain ⟨p, r, fv, rr⟩ := h.rr
  obtain ⟨a1, a2, a3⟩ := h.jx.vlt
  refine (rawO rr X hX).mono fun e w' ⟨⟨p', r', fv', v9, l9, e1, hl, ho, rr'⟩, rf⟩ => ⟨v9, l9, e1, by omega, ho, ?_, fun q eq => ?_⟩
  · have bN := rr'.b
    refine ⟨⟨h.jx.tw.kept rf.size (rf.keep _ (by omega) (by have := h.sN.1; omega)) (rf.keep _ (by omega) (by have := h.sN.1; omega)) (fun q e => rf.keep q (a1 q e) (fun c => h.sN.2.1 (by rw [← c]; exact e))) (fun q e => rf.keep q (a2 q e) (fun c => h.sN.2.2.1 (by rw [← c]; exact e))) (h.jx.bb.trans (bN.mono (by have := h.sN.1; omega))), h.jx.cl, h.jx.le, h.jx.bk.keep rf.size (rf.keep _ a3 (by have := h.sN.1; omega)) (fun q e => rf.keep q (h.jx.bk.sp.hb q e).2 (fun c => h.sN.2.2.2.1 (by rw [← c]; exact e))) (fun j hj q e => rf.keep q (h.jx.bk.sp.vb j hj q e).2 (fun c => h.sN.2.2.2.2 j hj (by rw [← c]; exact e))), h.jx.s1, h.jx.s2, h.jx.gl⟩, ⟨p', r', fv', rr'.kept (Nat.le_refl _) rfl (fun _ _ _ _ => rfl)⟩, h.sN, fun h0 b off e => ⟨(h.sR h0 b off e).1, (h.sR h0 b off e).2.1, Nat.lt_of_lt_of_le (h.sR h0 b off e).2.2 rf.size⟩⟩
  · have hq := (ho.bound eq).1
    exact ⟨h.jx.fresh hq, by have := rr.sz; omega⟩
theorem LX.take {w0 : World} {o : Ops} {K m B : Nat} {v u : Value} {V : Nat → Value} {hv : Value} {G : Nat → List Value} {NR : Nat} {ar : Option Addr} {n cr : Nat} {bs : Nat → Nat} {wr : World} {v9 : Value} {l9 : List Value} (h : LX w0 o K m v u V hv G NR ar n cr bs wr) (o9 : Bk.OE wr B v9 l9) (hl : l9.length ≤ 268435456) (hf : ∀ q, v9.ownBlock = some q → (w0.heap.size + 3 ≤ q ∧ v.ownBlock ≠ some q ∧ u.ownBlock ≠ some q ∧ hv.ownBlock ≠ some q ∧ ∀ j, j < m → (V j).ownBlock ≠ some q) ∧ q ≠ NR) (hm : m ≤ 4194304) :
    Calls Tryd.prog 5 #[.pointer (some ⟨w0.heap.size + 2, 0, none⟩), v9] wr fun e w' => e = .returned undef ∧ ∃ hv', LX w0 o K (m + 1) v u (fun j => if j = m then v9 else V j) hv' (fun j => if j = m then l9 else G j) NR ar n cr bs w' := by
  obtain ⟨p, r, fv, rr⟩ := h.rr
  refine (h.jx.take o9 hl (fun q e => (hf q e).1) hm).mono fun e w' ⟨e1, hv', jx, fb⟩ => ⟨e1, hv', jx, ⟨p, r, fv, rr.kept fb.1 (fb.2.1 _ rr.sz (by have := h.sN.1; omega) h.sN.2.2.2.1) (fun h0 b off e => fb.2.1 b (h.sR h0 b off e).2.2 (by have := (h.sR h0 b off e).1; omega) (h.sR h0 b off e).2.1)⟩, ⟨h.sN.1, h.sN.2.1, h.sN.2.2.1, fun c => ?_, fun j hj c => ?_⟩, fun h0 b off e => ⟨(h.sR h0 b off e).1, fun c => ?_, Nat.lt_of_lt_of_le (h.sR h0 b off e).2.2 fb.1⟩⟩
  · rcases fb.2.2 _ c with d | d
    · exact h.sN.2.2.2.1 d
    · have := rr.sz; omega
  · by_cases hjm : j = m
    · simp only [if_pos hjm] at c; exact (hf _ c).2 rfl
    · simp only [if_neg hjm] at c; exact h.sN.2.2.2.2 j (by omega) c
  · rcases fb.2.2 _ c with d | d
    · exact (h.sR h0 b off e).2.1 d
    · have := (h.sR h0 b off e).2.2; omega
/-- Alone. -/
theorem JX.alone {w0 : World} {o : Ops} {K m : Nat} {v u : Value} {V : Nat → Value} {hv : Value} {G : Nat → List Value} {wr : World} (h : JX w0 o K m v u V hv G wr) (hm : m ≤ 4194304) :
    Calls Tryd.prog 12 #[.pointer (some ⟨w0.heap.size + 2, 0, none⟩)] wr fun e w' => e = .returned (.bool true) ∧ TW w0 w0.heap.size (w0.heap.size + 1) (((8 - (wrAll o K).2) % 8 : Nat) : Int) (wrAll o K).1 v (((wrAll o K).2 : Nat) : Int) (wrAll o K).1 u w' := by
  obtain ⟨a1, a2, a3⟩ := h.vlt
  refine (Bk.alone_any h.bk hm h.gl).mono fun e w' ⟨e1, af⟩ => ⟨e1, h.tw.kept af.size (af.keep _ (by omega) (by omega) (fun j hj e => by have := (h.bk.sp.vb j hj _ e).1; omega)) (af.keep _ (by omega) (by omega) (fun j hj e => by have := (h.bk.sp.vb j hj _ e).1; omega)) (fun q e => af.keep q (a1 q e) (h.s1 q e).1 (h.s1 q e).2.2) (fun q e => af.keep q (a2 q e) (h.s2 q e).1 (h.s2 q e).2.2) (h.bb.trans ⟨af.same.1, af.same.2.1, af.same.2.2, af.size, fun k hk => af.keep k (by omega) (by omega) (fun j hj e => by have := (h.bk.sp.vb j hj _ e).1; omega)⟩)⟩
end Go.Proofs.YtepgcgphnjlcoaaDoor
