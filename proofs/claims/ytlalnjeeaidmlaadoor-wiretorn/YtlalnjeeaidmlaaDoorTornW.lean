
import Derived.Test.YtlalnjeeaidmlaaDoorSealN
import Derived.Test.YtlalnjeeaidmlaaDoorOpenC
import Derived.Test.YtlalnjeeaidmlaaDoorTornM
import Derived.Deep.RegionHeld3
import Derived.BigQuiet
namespace Go.Proofs.YtlalnjeeaidmlaaDoor
open Go.RowKit
set_option linter.unusedVariables false
set_option linter.unusedSimpArgs false
theorem step_append_run {P : Program} {ops : Array Oper} {o : Oper} {a : Act} {w : World} {K : Act → World → Prop} {Q : Exit → Act → World → Prop} {E : Prop}
    (hg : o.guard = none) (s x : Operand) (t : TypeId) (hop : o.op = Op.call { callee := Callee.builtin Builtin.append, args := #[s, x], argTypes := #[t, t] })
    (v y v' : Value) (w' : World) (hs : a.eval s = v) (hx : a.eval x = y) (hr : (Builtin.append_ #[t, t] o.type #[v, y]).run P w = .ok v' w') (hK : K (a.put o.dst v') w') :
    if Region.wanted o (yielded ops a.tmps) = true then Oper.wp P o a w K Q else E := by
  have hw : Region.wanted o (yielded ops a.tmps) = true := by simp [Region.wanted, hg]
  rw [if_pos hw]
  unfold Oper.wp execOp
  simp only [hop, resolve, invoke, builtin, Sem.run_bind, Sem.run_pure, Result.andThen_ok, List.map_toArray, List.map_cons, List.map_nil, hs, hx, hr]
  exact hK
def listOf (bs : Nat → Nat) (n : Nat) : List Nat := (List.range n).map bs
theorem listOf_len (bs : Nat → Nat) (n : Nat) : (listOf bs n).length = n := by simp [listOf]
theorem natsOf_listOf (bs : Nat → Nat) (n i : Nat) (h : i < n) : natsOf (listOf bs n) i = bs i := by simp [natsOf, listOf, List.getD_eq_getElem?_getD, h]
theorem BytesAt.congr {w : World} {b off n : Nat} {f g : Nat → Nat} (h : BytesAt w b off n f) (e : ∀ i, i < n → f i = g i) : BytesAt w b off n g := fun i hi => by rw [← e i hi]; exact h i hi
theorem BytesIn.list {w : World} {a : Option Addr} {n : Nat} {bs : Nat → Nat} (h : BytesIn w a n bs) : n = 0 ∨ ∃ b off, a = some ⟨b, off, none⟩ ∧ b < w.heap.size ∧ BytesAt w b off n (natsOf (listOf bs n)) := by
  rcases h.2 with h0 | ⟨b, off, h1, h2, h3⟩
  · exact Or.inl h0
  · exact Or.inr ⟨b, off, h1, h2, h3.congr fun i hi => (natsOf_listOf bs n i hi).symm⟩
theorem BytesIn.lt {w : World} {a : Option Addr} {n : Nat} {bs : Nat → Nat} (h : BytesIn w a n bs) : ∀ x ∈ listOf bs n, x < 256 := fun x hx => by
  simp [listOf] at hx
  obtain ⟨i, hi, rfl⟩ := hx
  rcases h.2 with h0 | ⟨b, off, h1, h2, h3⟩
  · omega
  · exact (h3 i hi).2
theorem belowN {B : Nat} {a w : World} (h : Below B a w) (n : Nat) : Below B a (w.drewN n) := ⟨h.os, h.tape, h.output, h.size, h.block⟩
def updT (f : Nat → Nat) (k v : Nat) : Nat → Nat := fun j => if j = k then v else f j
theorem xor_ne (a b : Nat) (h : b ≠ 0) : a ≠ a ^^^ b := fun e => by
  apply h
  have : a ^^^ a = a ^^^ (a ^^^ b) := by rw [← e]
  rw [Nat.xor_self, ← Nat.xor_assoc, Nat.xor_self, Nat.zero_xor] at this
  exact this.symm
theorem turned_at {w : World} {g n : Nat} {f : Nat → Nat} (h : BytesAt w g 0 n f) (k v : Nat) (hv : v < 256) (w' : World) (hw : w' = (w.setCell ⟨g, k, none⟩ (.int .u8 ((v : Nat) : Int))).drew) : BytesAt w' g 0 n (updT f k v) := fun i hi => by
  obtain ⟨h1, h2⟩ := h i hi
  rw [Nat.zero_add] at h1
  have hx : w'.cell? ⟨g, i, none⟩ = (w.setCell ⟨g, k, none⟩ (.int .u8 ((v : Nat) : Int))).cell? ⟨g, i, none⟩ := by rw [hw]; rfl
  rw [Nat.zero_add, hx]
  unfold updT
  by_cases hk : i = k
  · subst hk
    rw [if_pos rfl]
    exact ⟨World.cell?_setCell_same _ _ _ h1, hv⟩
  · rw [if_neg hk, World.cell?_setCell_other _ _ _ _ (by intro e'; injection e' with e1 e2; omega)]
    exact ⟨h1, h2⟩
theorem own_cap {w : World} {base e size n cap : Nat} {p : Addr} {xs : List Value} (h : w.ownsRow base e size (.slice (some p) n cap) n xs) : n ≤ cap := by
  rcases h.2 with ⟨hq, _⟩ | ⟨g0, cap0, cur, hq, _, _, hnc, _⟩
  · cases hq
  · cases hq; exact hnc
theorem same_zero (a1 a2 : Option Addr) (c1 c2 : Nat) (w : World) :
    Calls Tryd.prog 6 #[.slice a1 0 c1, .slice a2 0 c2] w fun e w' => e = .returned (.bool true) ∧ Below w.heap.size w w' := by
  go_enter Tryd.func6, Tryd.ntmps6
  go_wp2_with fail
  go_loopw [5] (fun i wr => i = .int .i64 0 ∧ Below w.heap.size w wr) (fun _ _ => 0)
  case atStart => exact ⟨rfl, Below.refl _ _⟩
  case round =>
    obtain ⟨rfl, hB⟩ := hrel
    go_wp2_with fail
    go_ret
    exact ⟨rfl, hB⟩
theorem same_in (g1 o1 c1 : Nat) (a : Option Addr) (c2 m : Nat) (bs : Nat → Nat) (w : World) (h1 : BytesAt w g1 o1 m bs) (h2 : BytesIn w a m bs) :
    Calls Tryd.prog 6 #[.slice (some ⟨g1, o1, none⟩) m c1, .slice a m c2] w fun e w' => e = .returned (.bool true) ∧ Below w.heap.size w w' := by
  obtain ⟨hm, h2⟩ := h2
  rcases h2 with rfl | ⟨b, off, rfl, hb, h2⟩
  · exact same_zero _ _ c1 c2 w
  · exact same_true g1 o1 c1 b off c2 m bs w (by omega) h1 h2
theorem frame_lt (kind number : Nat) (hk : kind < 256) (l : List Nat) (hl : ∀ x ∈ l, x < 256) : ∀ x ∈ frameOf kind number l, x < 256 := by
  intro x hx
  unfold frameOf at hx
  rcases List.mem_append.1 hx with hx | hx
  · rcases List.mem_append.1 hx with hx | hx
    · exact head2_lt kind number l.length hk x hx
    · exact hl x hx
  · exact be4_lt _ x hx
theorem frame_kind (kind number : Nat) (l b : List Nat) : natsOf (frameOf kind number l ++ b) 0 = kind := rfl
theorem frame_num (kind number : Nat) (hn : number < 18446744073709551616) (l b : List Nat) : u32At (natsOf (frameOf kind number l ++ b)) 5 * 4294967296 + u32At (natsOf (frameOf kind number l ++ b)) 9 = number := by
  have e1 : frameOf kind number l ++ b = ([kind] ++ be4 l.length) ++ (be4 (number / 4294967296) ++ (be4 (number % 4294967296) ++ be4 (crcOf (head1 kind number l.length)) ++ l ++ be4 (crcOf (head2 kind number l.length ++ l)) ++ b)) := by
    simp only [frameOf, head2, head1, List.append_assoc]
  have e2 : frameOf kind number l ++ b = ([kind] ++ be4 l.length ++ be4 (number / 4294967296)) ++ (be4 (number % 4294967296) ++ (be4 (crcOf (head1 kind number l.length)) ++ l ++ be4 (crcOf (head2 kind number l.length ++ l)) ++ b)) := by
    simp only [frameOf, head2, head1, List.append_assoc]
  have h5 : u32At (natsOf (frameOf kind number l ++ b)) 5 = number / 4294967296 := by rw [e1]; exact u32At_be4 ([kind] ++ be4 l.length) _ _ (by omega)
  have h9 : u32At (natsOf (frameOf kind number l ++ b)) 9 = number % 4294967296 := by rw [e2]; exact u32At_be4 ([kind] ++ be4 l.length ++ be4 (number / 4294967296)) _ _ (by omega)
  rw [h5, h9]; omega
theorem frame_body (kind number : Nat) (l b : List Nat) (i : Nat) (hi : i < l.length) : natsOf (frameOf kind number l ++ b) (17 + i) = natsOf l i := by
  have e : frameOf kind number l ++ b = head2 kind number l.length ++ (l ++ (be4 (crcOf (head2 kind number l.length ++ l)) ++ b)) := by simp only [frameOf, List.append_assoc]
  rw [e]
  have := natsOf_right (head2 kind number l.length) (l ++ (be4 (crcOf (head2 kind number l.length ++ l)) ++ b)) i
  rw [head2_len] at this
  rw [this, natsOf_left _ _ _ hi]
set_option maxRecDepth 100000 in
set_option maxHeartbeats 4000000 in
theorem wireTorn_short (number : Nat) (hn : number < 18446744073709551616) (a : Option Addr) (len cap : Nat) (bs : Nat → Nat) (At : Int) (hAt : -9223372036854775808 ≤ At ∧ At ≤ 9223372036854775807) (By : Nat) (hBy : By < 256) (a2 : Option Addr) (l2 c2 : Nat) (bs2 : Nat → Nat) (w : World) (hs : ST w)
    (h : BytesIn w a len bs) (h2 : BytesIn w a2 l2 bs2) (hlen : len ≤ 67108864) :
    Calls Tryd.prog 3 #[.slice a len cap, .int .u64 (number : Int), .agg #[.int .i64 At, .int .u8 (By : Int), .slice a2 l2 c2]] w fun e w' => e = .returned (.bool true) ∧ Below w.heap.size w w' := by
  have hl2 := h2.1
  have hB0 : Below w.heap.size w (w.alloc (.cells #[.int .i64 At, .int .u8 (By : Int), .slice a2 l2 c2] 25)) := (Below.refl _ _).alloc (Nat.le_refl _) _
  obtain ⟨W, hW⟩ : ∃ W, W = w.alloc (.cells #[.int .i64 At, .int .u8 (By : Int), .slice a2 l2 c2] 25) := ⟨_, rfl⟩
  rw [← hW] at hB0
  have hsz : W.heap.size = w.heap.size + 1 := by rw [hW]; simp
  have t0 : W.cell? ⟨w.heap.size, 0, none⟩ = some (.int .i64 At) := by rw [hW]; simp [go_sem]
  have t1 : W.cell? ⟨w.heap.size, 1, none⟩ = some (.int .u8 (By : Int)) := by rw [hW]; simp [go_sem]
  have t2 : W.cell? ⟨w.heap.size, 2, none⟩ = some (.slice a2 l2 c2) := by rw [hW]; simp [go_sem]
  have hbl := (h.below hB0).list
  have hlt := h.lt
  have h2' := h2.below hB0
  have sW := ST_below hs hB0
  have ll := listOf_len bs len
  generalize listOf bs len = l at *
  subst ll
  go_enter Tryd.func3, Tryd.ntmps3
  have hseal := seal_any 2 number (by omega) hn a cap l W hlen hbl hlt sW
  rw [hW] at hseal
  go_wp2_with fail
  refine Calls.mono hseal ?_
  rw [← hW]
  rintro e w1 ⟨g, c, rfl, o1, B1⟩
  have z1 : w.heap.size < w1.heap.size := by have := B1.size; omega
  have zW : W.heap.size ≤ w1.heap.size := B1.size
  clear hseal
  have fz1 : ∀ j, w1.frozen? ⟨g, j, none⟩ = false := fun j => by
    rcases o1.2 with ⟨hq, _⟩ | ⟨g0, cap0, cur, hq, _, hg0, _⟩
    · cases hq
    · cases hq; simp [World.frozen?, hg0]
  have hb1 : BytesIn w1 a l.length (natsOf l) := ⟨by omega, by
    rcases hbl with h0 | ⟨b, off, e1, e2, e3⟩
    · exact Or.inl h0
    · exact Or.inr ⟨b, off, e1, Nat.lt_of_lt_of_le e2 B1.size, e3.below B1 e2⟩⟩
  clear hbl
  have hfl : (frameOf 2 number l).length = 17 + l.length + 4 := by rw [frame_len]; omega
  have hf256 := frame_lt 2 number (by omega) l hlt
  have r256 := h2'.lt
  have hfo := frame_open 2 number l (listOf bs2 l2) (by omega) hlt hlen
  have hfk := frame_kind 2 number l (listOf bs2 l2)
  have hfn := frame_num 2 number hn l (listOf bs2 l2)
  have hfb := frame_body 2 number l (listOf bs2 l2)
  have b1 := bytes_own o1 hf256
  -- the copy, with what is behind it
  have hB1 := B1
  obtain ⟨v1, hv1⟩ : ∃ v1, v1 = (w1.alloc (Obj.cells #[] 5)).drew := ⟨_, rfl⟩
  have own0 : v1.ownsRow w1.heap.size 5 1 (.slice (some ⟨w1.heap.size, 0, none⟩) 0 0) 0 (enc []) := by
    rw [hv1]; exact World.ownsRow_made w1 #[] 0 (Nat.le_refl _) (by decide) rfl
  have Bv : Below w1.heap.size w1 v1 := by rw [hv1]; exact ((Below.refl _ _).alloc (Nat.le_refl _) _).drew
  have lg := (o1.lt g rfl).2
  have gW0 := (o1.lt g rfl).1
  obtain ⟨g2, k2, w2, hr2, o2, gr2⟩ := app_any w1.heap.size w1.heap.size 0 0 (17 + l.length + 4) [] (frameOf 2 number l) v1 (some ⟨g, 0, none⟩) c own0 hfl (Or.inr ⟨g, 0, rfl, b1.below Bv lg⟩) (by omega) Bv.size
  rw [Nat.zero_add] at hr2 o2
  have B2v : Below w1.heap.size v1 w2 := (Below.refl _ v1).grown gr2 Bv.size (fun k e => by cases e; exact Nat.le_refl _)
  have B12 : Below w1.heap.size w1 w2 := Bv.trans B2v
  have B2 : Below W.heap.size W w2 := B1.trans (B12.mono zW)
  have hr2' : Hid _ := hr2
  clear own0 hr2 gr2
  have h22 := (h2'.below B2).list
  have h22' : l2 = 0 ∨ ∃ b off, a2 = some ⟨b, off, none⟩ ∧ BytesAt w2 b off l2 (natsOf (listOf bs2 l2)) := by
    rcases h22 with h0 | ⟨b, off, e1, _, e2⟩
    · exact Or.inl h0
    · exact Or.inr ⟨b, off, e1, e2⟩
  obtain ⟨g3, k3, w3, hr3, o3, gr3⟩ := app_any w1.heap.size g2 k2 (17 + l.length + 4) l2 (frameOf 2 number l) (listOf bs2 l2) w2 a2 c2 o2 (listOf_len bs2 l2) h22' (by omega) B12.size
  have g2W := (o2.lt g2 rfl).1
  have hr3' : Hid _ := hr3
  have B13 : Below w1.heap.size w1 w3 := B12.grown gr3 B12.size (fun k e => by cases e; exact g2W)
  have B3 : Below W.heap.size W w3 := B1.trans (B13.mono zW)
  clear h22 h22' hr3
  have rl := listOf_len bs2 l2
  generalize listOf bs2 l2 = r at *
  have u2 : w1.cell? ⟨w.heap.size, 2, none⟩ = some (.slice a2 l2 c2) := by rw [B1.cell (by simp; omega)]; exact t2
  have u2v : (w1.alloc (Obj.cells #[] 5)).drew.cell? ⟨w.heap.size, 2, none⟩ = some (.slice a2 l2 c2) := by rw [← hv1, Bv.cell (p := ⟨w.heap.size, 2, none⟩) z1]; exact u2
  have u2w : w2.cell? ⟨w.heap.size, 2, none⟩ = some (.slice a2 l2 c2) := by rw [B2.cell (by simp; omega)]; exact t2
  have u2x : w3.cell? ⟨w.heap.size, 2, none⟩ = some (.slice a2 l2 c2) := by rw [B3.cell (by simp; omega)]; exact t2
  have hO : OH g3 (17 + l.length + 4 + l2) (natsOf (frameOf 2 number l ++ r)) w3 w3 := ⟨bytes_own o3 (fun x hx => by
    rcases List.mem_append.1 hx with hx | hx
    · exact hf256 x hx
    · exact r256 x hx), ST_below sW B3, Below.refl _ _⟩
  rw [show 21 + l.length + r.length = 17 + l.length + 4 + l2 by omega] at hfo
  have hk3 := own_cap o3
  have hop := open_ok g3 (17 + l.length + 4 + l2) k3 (natsOf (frameOf 2 number l ++ r)) w3 w3 hO (o3.lt g3 rfl).2 hk3 (by omega) hfo.2 (by rw [hfo.1]; omega)
  rw [hfo.1, hfk] at hop
  have hopN : ((u32At (natsOf (frameOf 2 number l ++ r)) 5 : Nat) : Int) * 4294967296 + ((u32At (natsOf (frameOf 2 number l ++ r)) 9 : Nat) : Int) = (number : Int) := by omega
  rw [hopN] at hop
  have hop' : Hid _ := hop
  have hr2'' : Hid _ := hr2'
  rw [hv1] at hr2''
  clear hop hopN hfo hO
  go_wp2_with fail
  go_region_held3 (fun w' => w'.cell? ⟨w.heap.size, 2, none⟩ = some (.slice a2 l2 c2)) (first | assumption | simpa using u2)
    (first
      | (refine step_append_run rfl (.tmp 31) (.tmp 32) 22 rfl _ _ _ _ rfl rfl hr2''.out ?_)
      | (refine step_append_run rfl (.tmp 33) (.tmp 35) 22 rfl _ _ _ _ rfl rfl hr3'.out ?_)
      | (go_at_call 5; refine Calls.mono hop'.out ?_; rintro e w4 ⟨g4, c4, rfl, f4, l4, hO4⟩; have u4 : w4.cell? ⟨w.heap.size, 2, none⟩ = some (.slice a2 l2 c2) := by { rw [hO4.2.2.cell (p := ⟨w.heap.size, 2, none⟩) (World.block_lt_of_cell? _ _ u2x)]; exact u2x }))
  have B34 := hO4.2.2
  have z3 := B13.size
  have B14 : Below w1.heap.size w1 w4 := B13.trans (B34.mono z3)
  have b4 := b1.below B14 lg
  have h4 := hb1.below B14
  have f4' : BytesAt w4 g4 0 l.length (natsOf l) := f4.congr fun i hi => hfb i hi
  have sa := same_in g4 0 c4 a cap l.length (natsOf l) w4 f4' h4
  have hcf := own_cap o1
  have q1 : (17 + (l.length : Int) + 4 == (l.length : Int) + 21) = true := by rw [beq_iff_eq]; omega
  have q2 : 17 + (l.length : Int) + 4 = (l.length : Int) + 21 := by omega
  have sa' : Hid _ := sa
  clear hr2'' hr2' hr3' hop' hO4 f4 f4' hfb hfk hfn u2v u2w u2x u2 h4 sa o2 o3 gr3 B2v Bv b1 hb1 o1 h2 h2' h r256 hv1 B2 B3 B12
  go_wp2_with fail
  refine Calls.mono sa'.out ?_
  rintro e w5 ⟨rfl, B5⟩
  have z4 := B14.size
  have B15 : Below w1.heap.size w1 w5 := B14.trans (B5.mono z4)
  have BW5 : Below W.heap.size W w5 := B1.trans (B15.mono zW)
  have b5 := b4.below B5 (Nat.lt_of_lt_of_le lg z4)
  have s5 := ST_below sW BW5
  have u0 : w5.cell? ⟨w.heap.size, 0, none⟩ = some (.int .i64 At) := by rw [BW5.cell (by simp; omega)]; exact t0
  have u1 : w5.cell? ⟨w.heap.size, 1, none⟩ = some (.int .u8 (By : Int)) := by rw [BW5.cell (by simp; omega)]; exact t1
  clear b4 B34 B14 B13 B5 sa'
  have hm1 : At.tmod ((l.length : Int) + 21) < (l.length : Int) + 21 := Int.tmod_lt_of_pos _ (by omega)
  have hm2 : -((l.length : Int) + 21) < At.tmod ((l.length : Int) + 21) := by
    have := Int.lt_tmod_of_pos At (b := (l.length : Int) + 21) (by omega)
    omega
  generalize hat : At.tmod ((l.length : Int) + 21) = t at *
  have q3 : ¬ ((l.length : Int) + 21 = 0) := by omega
  have q4 : ((l.length : Int) + 21 == 0) = false := by rw [beq_eq_false_iff_ne]; exact q3
  have gW := gW0
  go_wp2_with fail
  · obtain ⟨k, hkI⟩ : ∃ k : Nat, t + ((l.length : Int) + 21) = (k : Int) := ⟨(t + ((l.length : Int) + 21)).toNat, by omega⟩
    have hkL : k < 17 + l.length + 4 := by omega
    simp only [hkI, Int.toNat_natCast]
    have hop1 := open_bad g k c (natsOf (frameOf 2 number l)) w5 w5 ⟨fun i hi => b5 i (by omega), s5, Below.refl _ _⟩ (by omega) (by omega) (frame_cut 2 number l (by omega) hlt hlen k (by omega))
    have hop1' : Hid _ := hop1
    have hne : openE (natsOf (frameOf 2 number l)) k ≠ 0 := frame_cut 2 number l (by omega) hlt hlen k (by omega)
    clear hop1
    generalize openE (natsOf (frameOf 2 number l)) k = e1 at *
    refine Calls.mono hop1'.out ?_
    rintro e w6 ⟨rfl, hO6⟩
    have B56 := hO6.2.2
    have z5 := B15.size
    have B16 : Below w1.heap.size w1 w6 := B15.trans (B56.mono z5)
    have BW6 : Below W.heap.size W w6 := B1.trans (B16.mono zW)
    have lg5 : g < w5.heap.size := Nat.lt_of_lt_of_le lg z5
    have b6 := b5.below B56 lg5
    have u1' : w6.cell? ⟨w.heap.size, 1, none⟩ = some (.int .u8 (By : Int)) := by rw [BW6.cell (by simp; omega)]; exact t1
    have fz6 : w6.frozen? ⟨g, k, none⟩ = false := by rw [B16.frozen (p := ⟨g, k, none⟩) lg]; exact fz1 k
    obtain ⟨c6, x6⟩ := b6 k hkL
    rw [Nat.zero_add] at c6
    have k0 : (0 : Int) ≤ (k : Int) := by omega
    have k1 : (k : Int) < 17 + (l.length : Int) + 4 := by omega
    have k2 : (k : Int) < (l.length : Int) + 21 := by omega
    have k3 : k < 17 + l.length + 4 := hkL
    have b6' : Hid _ := b6
    clear b6 b5 hop1' hO6 u0 u1 hm1 hm2 q4
    obtain ⟨fk, hfk6⟩ : ∃ fk, fk = natsOf (frameOf 2 number l) k := ⟨_, rfl⟩
    rw [← hfk6] at c6 x6
    have hfkH : Hid _ := hfk6
    clear hfk6
    have ex : Hid _ := u8_xor_nat fk By (by omega) (by omega)
    have hx8 : fk ^^^ By < 256 := Nat.xor_lt_two_pow (n := 8) x6 hBy
    go_wp2_with fail
    go_region
    rw [ex.out]
    obtain ⟨w7, hw7⟩ : ∃ w7, w7 = (w6.setCell ⟨g, k, none⟩ (.int .u8 ((fk ^^^ By : Nat) : Int))).drew := ⟨_, rfl⟩
    rw [← hw7]
    have hfk6 := hfkH.out
    have BW7 : Below W.heap.size W w7 := by rw [hw7]; exact (BW6.setCell (p := ⟨g, k, none⟩) gW _).drew
    have s7 := ST_below sW BW7
    have b7 := turned_at b6'.out k (fk ^^^ By) hx8 w7 hw7
    have lg7 : g < w7.heap.size := by
      have := World.block_lt_of_cell? _ _ (b7 0 (by omega)).1
      exact this
    have hz7 := BW7.size
    clear b6' c6 ex B56 BW6 B16 B15 fz6 u1' hw7 s5 BW5
    by_cases hb0 : By = 0
    · have b8 : BytesAt w7 g 0 (17 + l.length + 4) (natsOf (frameOf 2 number l)) := b7.congr fun i hi => by
        simp only [updT]; split
        · rename_i hh; rw [hh, ← hfk6, hb0, Nat.xor_zero]
        · rfl
      have hfo := frame_open 2 number l [] (by omega) hlt hlen
      rw [List.append_nil, List.length_nil, show 21 + l.length + 0 = 17 + l.length + 4 by omega] at hfo
      have hop2 := open_ok g (17 + l.length + 4) c (natsOf (frameOf 2 number l)) w7 w7 ⟨b8, s7, Below.refl _ _⟩ lg7 hcf (by omega) hfo.2 (by rw [hfo.1]; omega)
      have hop2' : Hid _ := hop2
      clear hop2 b8 b7 hfo s7
      go_wp2_with fail
      refine Calls.mono hop2'.out ?_
      rintro e w8 ⟨g8, c8, rfl, _, _, hO8⟩
      have BW8 : Below W.heap.size W w8 := BW7.trans (hO8.2.2.mono hz7)
      have u8 : w8.cell? ⟨w.heap.size, 1, none⟩ = some (.int .u8 0) := by rw [BW8.cell (by simp; omega), t1, hb0]; rfl
      clear hop2' hO8
      go_wp2_with fail
      go_quiet (fail)
      go_wp2_with fail
      go_ret
      exact ⟨rfl, below_then hB0 (belowN BW8 _)⟩
    · have hne7 : openE (updT (natsOf (frameOf 2 number l)) k (fk ^^^ By)) (17 + l.length + 4) ≠ 0 := by
        rw [show 17 + l.length + 4 = 21 + l.length by omega]
        refine frame_turned 2 number l (by omega) hlt hlen _ k (by omega) (fun j hj => (b7 j (by omega)).2) (fun j hj => natsOf_lt hf256 j (by omega)) ?_ (fun j hj hjk => by simp [updT, hjk])
        simp only [updT, if_pos]
        rw [← hfk6]
        exact xor_ne fk By hb0
      have hop2 := open_bad g (17 + l.length + 4) c _ w7 w7 ⟨b7, s7, Below.refl _ _⟩ hcf (by omega) hne7
      have hop2' : Hid _ := hop2
      clear hop2 b7 s7
      generalize openE (updT (natsOf (frameOf 2 number l)) k (fk ^^^ By)) (17 + l.length + 4) = e2 at *
      have hbI : ¬ (By : Int) = 0 := by omega
      have hbI2 : ((By : Int) == 0) = false := by rw [beq_eq_false_iff_ne]; exact hbI
      go_wp2_with fail
      refine Calls.mono hop2'.out ?_
      rintro e w8 ⟨rfl, hO8⟩
      have BW8 : Below W.heap.size W w8 := BW7.trans (hO8.2.2.mono hz7)
      have u8 : w8.cell? ⟨w.heap.size, 1, none⟩ = some (.int .u8 (By : Int)) := by rw [BW8.cell (by simp; omega), t1]
      clear hop2' hO8
      go_wp2_with fail
      go_quiet (fail)
      go_wp2_with fail
      go_ret
      exact ⟨rfl, below_then hB0 (belowN BW8 _)⟩
  · obtain ⟨k, hkI⟩ : ∃ k : Nat, t = (k : Int) := ⟨(t).toNat, by omega⟩
    have hkL : k < 17 + l.length + 4 := by omega
    simp only [hkI, Int.toNat_natCast]
    have hop1 := open_bad g k c (natsOf (frameOf 2 number l)) w5 w5 ⟨fun i hi => b5 i (by omega), s5, Below.refl _ _⟩ (by omega) (by omega) (frame_cut 2 number l (by omega) hlt hlen k (by omega))
    have hop1' : Hid _ := hop1
    have hne : openE (natsOf (frameOf 2 number l)) k ≠ 0 := frame_cut 2 number l (by omega) hlt hlen k (by omega)
    clear hop1
    generalize openE (natsOf (frameOf 2 number l)) k = e1 at *
    refine Calls.mono hop1'.out ?_
    rintro e w6 ⟨rfl, hO6⟩
    have B56 := hO6.2.2
    have z5 := B15.size
    have B16 : Below w1.heap.size w1 w6 := B15.trans (B56.mono z5)
    have BW6 : Below W.heap.size W w6 := B1.trans (B16.mono zW)
    have lg5 : g < w5.heap.size := Nat.lt_of_lt_of_le lg z5
    have b6 := b5.below B56 lg5
    have u1' : w6.cell? ⟨w.heap.size, 1, none⟩ = some (.int .u8 (By : Int)) := by rw [BW6.cell (by simp; omega)]; exact t1
    have fz6 : w6.frozen? ⟨g, k, none⟩ = false := by rw [B16.frozen (p := ⟨g, k, none⟩) lg]; exact fz1 k
    obtain ⟨c6, x6⟩ := b6 k hkL
    rw [Nat.zero_add] at c6
    have k0 : (0 : Int) ≤ (k : Int) := by omega
    have k1 : (k : Int) < 17 + (l.length : Int) + 4 := by omega
    have k2 : (k : Int) < (l.length : Int) + 21 := by omega
    have k3 : k < 17 + l.length + 4 := hkL
    have b6' : Hid _ := b6
    clear b6 b5 hop1' hO6 u0 u1 hm1 hm2 q4
    obtain ⟨fk, hfk6⟩ : ∃ fk, fk = natsOf (frameOf 2 number l) k := ⟨_, rfl⟩
    rw [← hfk6] at c6 x6
    have hfkH : Hid _ := hfk6
    clear hfk6
    have ex : Hid _ := u8_xor_nat fk By (by omega) (by omega)
    have hx8 : fk ^^^ By < 256 := Nat.xor_lt_two_pow (n := 8) x6 hBy
    go_wp2_with fail
    go_region
    rw [ex.out]
    obtain ⟨w7, hw7⟩ : ∃ w7, w7 = (w6.setCell ⟨g, k, none⟩ (.int .u8 ((fk ^^^ By : Nat) : Int))).drew := ⟨_, rfl⟩
    rw [← hw7]
    have hfk6 := hfkH.out
    have BW7 : Below W.heap.size W w7 := by rw [hw7]; exact (BW6.setCell (p := ⟨g, k, none⟩) gW _).drew
    have s7 := ST_below sW BW7
    have b7 := turned_at b6'.out k (fk ^^^ By) hx8 w7 hw7
    have lg7 : g < w7.heap.size := by
      have := World.block_lt_of_cell? _ _ (b7 0 (by omega)).1
      exact this
    have hz7 := BW7.size
    clear b6' c6 ex B56 BW6 B16 B15 fz6 u1' hw7 s5 BW5
    by_cases hb0 : By = 0
    · have b8 : BytesAt w7 g 0 (17 + l.length + 4) (natsOf (frameOf 2 number l)) := b7.congr fun i hi => by
        simp only [updT]; split
        · rename_i hh; rw [hh, ← hfk6, hb0, Nat.xor_zero]
        · rfl
      have hfo := frame_open 2 number l [] (by omega) hlt hlen
      rw [List.append_nil, List.length_nil, show 21 + l.length + 0 = 17 + l.length + 4 by omega] at hfo
      have hop2 := open_ok g (17 + l.length + 4) c (natsOf (frameOf 2 number l)) w7 w7 ⟨b8, s7, Below.refl _ _⟩ lg7 hcf (by omega) hfo.2 (by rw [hfo.1]; omega)
      have hop2' : Hid _ := hop2
      clear hop2 b8 b7 hfo s7
      go_wp2_with fail
      refine Calls.mono hop2'.out ?_
      rintro e w8 ⟨g8, c8, rfl, _, _, hO8⟩
      have BW8 : Below W.heap.size W w8 := BW7.trans (hO8.2.2.mono hz7)
      have u8 : w8.cell? ⟨w.heap.size, 1, none⟩ = some (.int .u8 0) := by rw [BW8.cell (by simp; omega), t1, hb0]; rfl
      clear hop2' hO8
      go_wp2_with fail
      go_quiet (fail)
      go_wp2_with fail
      go_ret
      exact ⟨rfl, below_then hB0 (belowN BW8 _)⟩
    · have hne7 : openE (updT (natsOf (frameOf 2 number l)) k (fk ^^^ By)) (17 + l.length + 4) ≠ 0 := by
        rw [show 17 + l.length + 4 = 21 + l.length by omega]
        refine frame_turned 2 number l (by omega) hlt hlen _ k (by omega) (fun j hj => (b7 j (by omega)).2) (fun j hj => natsOf_lt hf256 j (by omega)) ?_ (fun j hj hjk => by simp [updT, hjk])
        simp only [updT, if_pos]
        rw [← hfk6]
        exact xor_ne fk By hb0
      have hop2 := open_bad g (17 + l.length + 4) c _ w7 w7 ⟨b7, s7, Below.refl _ _⟩ hcf (by omega) hne7
      have hop2' : Hid _ := hop2
      clear hop2 b7 s7
      generalize openE (updT (natsOf (frameOf 2 number l)) k (fk ^^^ By)) (17 + l.length + 4) = e2 at *
      have hbI : ¬ (By : Int) = 0 := by omega
      have hbI2 : ((By : Int) == 0) = false := by rw [beq_eq_false_iff_ne]; exact hbI
      go_wp2_with fail
      refine Calls.mono hop2'.out ?_
      rintro e w8 ⟨rfl, hO8⟩
      have BW8 : Below W.heap.size W w8 := BW7.trans (hO8.2.2.mono hz7)
      have u8 : w8.cell? ⟨w.heap.size, 1, none⟩ = some (.int .u8 (By : Int)) := by rw [BW8.cell (by simp; omega), t1]
      clear hop2' hO8
      go_wp2_with fail
      go_quiet (fail)
      go_wp2_with fail
      go_ret
      exact ⟨rfl, below_then hB0 (belowN BW8 _)⟩
end Go.Proofs.YtlalnjeeaidmlaaDoor
