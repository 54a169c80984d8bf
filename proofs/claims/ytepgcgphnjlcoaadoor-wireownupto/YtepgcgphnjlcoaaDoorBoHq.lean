
import Derived.Test.YtepgcgphnjlcoaaDoorBzB
namespace Go.Proofs.YtepgcgphnjlcoaaDoor
open Go.RowKit
set_option linter.unusedVariables false
set_option linter.unusedSimpArgs false
set_option maxRecDepth 100000
theorem seal_open (ba : Option Addr) (bc : Nat) (L : List Nat) (wr : World) (hs : ST wr) (hL : L.length ≤ 1048576) (hLB : BytesIn wr ba L.length (natsOf L)) (hL2 : ∀ x ∈ L, x < 256) :
    Calls Tryd.prog 7 #[.int .u8 1, .int .u64 2, .slice ba L.length bc] wr fun e w1 => ∃ g c1, e = .returned (.tuple #[.slice (some ⟨g, 0, none⟩) (17 + L.length + 4) c1, .nilIface]) ∧ Hid (Bk.OE w1 wr.heap.size (.slice (some ⟨g, 0, none⟩) (17 + L.length + 4) c1) (enc (frameOf 1 2 L)) ∧ (enc (frameOf 1 2 L)).length ≤ 268435456 ∧ g < w1.heap.size) ∧ Hid (Below wr.heap.size wr w1) ∧
      Hid (Calls Tryd.prog 8 #[.slice (some ⟨g, 0, none⟩) (17 + L.length + 4) c1] w1 fun e w2 => ∃ x1 x2 g2 n2 c2 x3, e = .returned (.tuple #[.int .u8 x1, .int .u64 x2, .slice (some ⟨g2, 0, none⟩) n2 c2, .int .i64 x3, .nilIface]) ∧ Hid (Below w1.heap.size w1 w2 ∧ ∃ l2, Bk.OE w2 w1.heap.size (.slice (some ⟨g2, 0, none⟩) n2 c2) l2 ∧ l2.length ≤ 268435456)) := by
  refine (seal_any 1 2 (by omega) (by omega) ba bc L wr (by omega) hLB.2 hL2 hs).mono fun e w1 ⟨g, c1, e1, ho, b1⟩ => ⟨g, c1, e1, ?_, b1, ?_⟩
  · have el : (enc (frameOf 1 2 L)).length = 17 + L.length + 4 := by rw [show (enc (frameOf 1 2 L)).length = (frameOf 1 2 L).length by simp [enc], frame_len]; omega
    refine ⟨?_, by omega, (ho.lt g rfl).2⟩
    show w1.ownsRow _ _ _ _ _ _
    rw [el]; exact ho
  · have hg := ho.lt g rfl
    have hc : 17 + L.length + 4 ≤ c1 := by
      rcases ho.2 with ⟨q, _⟩ | ⟨g', cap', cur, q, _, _, hnc, _⟩
      · cases q
      · injection q with _ _ q; omega
    have hOH : OH g (17 + L.length + 4) (natsOf (frameOf 1 2 L)) w1 w1 := ⟨bytes_own ho (frame_ltO 1 2 (by omega) L hL2), ST_below hs b1, Below.refl _ _⟩
    have fo := frame_open 1 2 L [] (by omega) hL2 (by omega)
    rw [List.append_nil] at fo
    refine (open_okO g (17 + L.length + 4) c1 (natsOf (frameOf 1 2 L)) w1 w1 hOH hg.2 hc (by omega) (by have := fo.2; simp only [List.length_nil] at this; rw [show 17 + L.length + 4 = 21 + L.length + 0 by omega]; exact this) (by rw [fo.1]; omega)).mono fun e w2 ⟨g2, c2, e2, ⟨l2, hl2, ho2⟩, oh2⟩ => ⟨_, _, g2, _, c2, _, e2, oh2.2.2, l2, ho2, by rw [hl2, fo.1]; omega⟩
theorem JX.take_p {w0 : World} {o : Ops} {k m : Nat} {v u : Value} {V : Nat → Value} {hv hv1 : Value} {G G1 : Nat → List Value} {wr w1 w2 w3 : World} {g n1 c1 g2 n2 c2 : Nat} {l2 : List Value} (J : JX w0 o k m v u V hv G wr) (b1 : Below wr.heap.size wr w1) (hg : g < w1.heap.size) (b2 : Below w1.heap.size w1 w2) (o2 : Bk.OE w2 w1.heap.size (.slice (some ⟨g2, 0, none⟩) n2 c2) l2)
    (J3 : JX w0 o k (m + 1) v u (fun j => if j = m then .slice (some ⟨g, 0, none⟩) n1 c1 else V j) hv1 G1 w3) (fb : Bk.FRB (w0.heap.size + 2) w2 hv hv1 w3) (hl : l2.length ≤ 268435456) (hm : m + 1 ≤ 4194304) :
    Calls Tryd.prog 5 #[.pointer (some ⟨w0.heap.size + 2, 0, none⟩), .slice (some ⟨g2, 0, none⟩) n2 c2] w3 fun e w' => e = .returned undef ∧ ∃ V' hv' G', JX w0 o k (m + 2) v u V' hv' G' w' := by
  have hq := o2.bound (k := g2) rfl
  have fr := (J.below b1).fresh hq.1
  have own : ∀ q, (Value.slice (some ⟨g2, 0, none⟩) n2 c2).ownBlock = some q → q = g2 := fun q e => by
    have : g2 = q := by simpa [Value.ownBlock] using e
    exact this.symm
  refine (J3.take (v9 := .slice (some ⟨g2, 0, none⟩) n2 c2) (l9 := l2) (B := w1.heap.size) (row_kept o2 (fun q e => ?_)) hl (fun q e => ?_) hm).mono fun e w' ⟨e1, hv', jx, _⟩ => ⟨e1, _, _, _, jx⟩
  · rw [own q e]
    exact fb.2.1 g2 hq.2 (by have := fr.1; omega) fr.2.2.2.1
  · rw [own q e]
    refine ⟨fr.1, fr.2.1, fr.2.2.1, fun c => ?_, fun j hj c => ?_⟩
    · rcases fb.2.2 _ c with d | d
      · exact fr.2.2.2.1 d
      · omega
    · by_cases hjm : j = m
      · simp only [if_pos hjm] at c
        have : g = g2 := by simpa [Value.ownBlock] using c
        omega
      · simp only [if_neg hjm] at c
        exact fr.2.2.2.2 j (by omega) c
/-- Bytes, and a Reader of them. -/
theorem JX.reader {w0 : World} {o : Ops} {k m : Nat} {v u : Value} {V : Nat → Value} {hv : Value} {G : Nat → List Value} {wr : World} (h : JX w0 o k m v u V hv G wr) (hm : mAll o k ≤ 134217728) : Calls Tryd.prog 6 #[.pointer (some ⟨w0.heap.size, 0, none⟩)] wr fun e w5 => ∃ v5, e = .returned v5 ∧
    Hid (Calls Tryd.prog 9 #[v5] w5 fun e w6 => ∃ NR ar cr, e = .returned (.pointer (some ⟨NR, 0, none⟩)) ∧ Hid (LX w0 o k m v u V hv G NR ar (wrAll o k).1.length cr (natsOf (wrAll o k).1) w6)) := by
  have le := h.le
  refine (bytesO _ _ _ v _ wr h.tw.r (by omega)).mono fun e w5 ⟨v5, e1, o5, b5⟩ => ⟨v5, e1, ?_⟩
  obtain ⟨a5, c5, e5, bi, hn⟩ := oe_bytes o5 h.cl.2.1 (by omega)
  subst e5
  refine (newR_inO a5 c5 _ w5 bi hn).mono fun e w6 ⟨NR, ar, cr, e6, hN, rr, hr, b6⟩ => ⟨NR, ar, cr, e6, ?_⟩
  have J5 := h.below b5
  refine ⟨J5.below b6, ⟨_, _, _, rr⟩, J5.fresh hN, fun h0 b off e => ?_⟩
  have f := J5.fresh (hr b off e)
  refine ⟨f.1, f.2.2.2.1, ?_⟩
  rcases rr.row with q | ⟨b', off', e', hb', _⟩
  · exact absurd q h0
  · rw [e] at e'; injection e' with e'; injection e' with e' _; omega
/-- between the Raws. -/
def LS (w0 : World) (o : Ops) (K : Nat) (NR : Nat) (ar : Option Addr) (n cr : Nat) (bs : Nat → Nat) (M : Nat) (wr : World) : Prop := ∃ m v u V hv G, m ≤ M ∧ LX w0 o K m v u V hv G NR ar n cr bs wr
set_option maxHeartbeats 16000000 in
theorem wireOwn_walk (a : Option Addr) (len cap : Nat) (o : Ops) (ba : Option Addr) (bc : Nat) (L : List Nat) (w : World) (hs : ST w) (hO : OpsAt w a len o) (hlen : len ≤ 1048576) (hb : mAll o len ≤ 67108864) (hL : L.length ≤ 1048576) (hLB : BytesIn w ba L.length (natsOf L)) (hL2 : ∀ x ∈ L, x < 256) :
    Calls Tryd.prog 3 #[.slice a len cap, .slice ba L.length bc] w fun e w' => e = .returned (.bool true) ∧ Below w.heap.size w w' := by
  have hT0 : Hid (JS w o 0 0 _) := JS.start w o
  have hOH : Hid _ := hO
  have hsH : Hid _ := hs
  have hLH : Hid (L.length ≤ 1048576 ∧ BytesIn w ba L.length (natsOf L) ∧ ∀ x ∈ L, x < 256) := ⟨hL, hLB, hL2⟩
  obtain ⟨ln, hln⟩ : ∃ ln, ln = L.length := ⟨_, rfl⟩
  have hlnH : Hid _ := hln
  rw [← hln]
  clear hO hs hL hLB hL2 hln
  go_enter Tryd.func3, Tryd.ntmps3
  go_wp2_with fail
  go_loopw [26] (fun i wr => ∃ k : Nat, k ≤ len ∧ i = .int .i64 (k : Int) ∧ Hid (JS w o k k wr)) (fun i _ => len - (intOf i).toNat)
  case atStart => exact ⟨0, Nat.zero_le _, rfl, hT0⟩
  case round =>
    clear hT0
    obtain ⟨k, hk, rfl, hJ⟩ := hrel
    by_cases hkl : k < len
    · have hkI : (k : Int) < (len : Int) := by omega
      have k0 : (0 : Int) ≤ (k : Int) := by omega
      have kw : IntKind.i64.wrap ((k : Int) + 1) = ((k + 1 : Nat) : Int) := IntWalk.i64_in _ (by omega)
      obtain ⟨v, u, V, hv, G, J⟩ := hJ.out
      rcases hOH.out with h0 | ⟨b, off, rfl, hbk, hc⟩
      · omega
      obtain ⟨⟨c0, c1, c2, c3⟩, hx, hB⟩ := hc k hkl
      have hbb := J.bb
      have e0 : wr.cell? ⟨b, off + k * 4, none⟩ = some (.int .i64 (o.K k)) := by rw [hbb.cell (p := ⟨b, off + k * 4, none⟩) hbk]; exact c0
      have e1 : wr.cell? ⟨b, off + k * 4 + 1, none⟩ = some (.int .u64 (o.X k : Int)) := by rw [hbb.cell (p := ⟨b, off + k * 4 + 1, none⟩) hbk]; exact c1
      have e2 : wr.cell? ⟨b, off + k * 4 + 2, none⟩ = some (.int .i64 (o.B k)) := by rw [hbb.cell (p := ⟨b, off + k * 4 + 2, none⟩) hbk]; exact c2
      have e3 : wr.cell? ⟨b, off + k * 4 + 3, none⟩ = some (.slice (o.A k) (o.M k) (o.C k)) := by rw [hbb.cell (p := ⟨b, off + k * 4 + 3, none⟩) hbk]; exact c3
      have hm1 := mAll_mono o (show k + 1 ≤ len by omega)
      have hm1H : Hid (mAll o (k + 1) ≤ 67108864) := by show _ ≤ _; omega
      have hstep : Hid (∀ O, _) := fun O => J.write O hx hB (by simp only [mAll] at hm1; omega)
      clear c0 c1 c2 c3 hc hB J hx hJ hbb hm1
      go_wp2_with fail
      refine (hstep.out _).mono ?_
      rintro e w2 ⟨rfl, v', u', J2⟩
      have J2H : Hid _ := J2
      have CB : Hid _ := J2.bytes (show mAll o (k + 1) ≤ 134217728 by have := hm1H.out; omega)
      clear hstep J2 e0 e1 e2 e3
      go_wp2_with fail
      refine Calls.mono CB.out ?_
      rintro e w3 ⟨v9, l9, rfl, hl9, ho9, b3⟩
      have CT : Hid _ := (J2H.out.below b3).take ho9 hl9 (fun q e => J2H.out.fresh (ho9.bound e).1) (show k ≤ 4194304 by omega)
      clear CB ho9 hl9 b3
      go_wp2_with fail
      refine Calls.mono CT.out ?_
      rintro e w4 ⟨rfl, hv', J4, _⟩
      have J4H : Hid (JS w o (k + 1) (k + 1) w4) := ⟨_, _, _, _, _, J4⟩
      clear J4 CT J2H
      go_wp2_with fail
      exact ⟨⟨k + 1, by omega, by first | rfl | go_num, J4H⟩, by first | (simp [intOf]; done) | (simp [intOf]; omega)⟩
    · have hlt : ¬ (k : Int) < (len : Int) := by omega
      obtain rfl : k = len := by omega
      obtain ⟨v, u, V, hv, G, J⟩ := hJ.out
      have JH : Hid _ := J
      have CS : Hid _ := seal_open ba bc L wr (ST_below hsH.out J.bb) hLH.out.1 (hLH.out.2.1.below J.bb) hLH.out.2.2
      rw [← hlnH.out] at CS
      clear hJ J
      go_wp2_with fail
      refine Calls.mono CS.out ?_
      rintro e w1 ⟨g, c1, rfl, h1, b1, CO⟩
      clear CS
      go_wp2_with fail
      refine Calls.mono CO.out ?_
      rintro e w2 ⟨x1, x2, g2, n2, c2, x3, rfl, h2⟩
      have J2 : Hid _ := JH.out.below (Bk.below_trans b1.out (Bk.below_less h2.out.1 b1.out.size))
      have CT : Hid _ := J2.out.take (Bk.OE.below h1.out.1 h2.out.1 (Nat.le_refl _)) h1.out.2.1 (fun q e => JH.out.fresh (h1.out.1.bound e).1) (show k ≤ 4194304 by omega)
      clear CO
      go_wp2_with fail
      refine Calls.mono CT.out ?_
      rintro e w3 ⟨rfl, hv1, J3, fb⟩
      obtain ⟨b2, l2, o2, hl2⟩ := h2.out
      have CP : Hid _ := JH.out.take_p b1.out h1.out.2.2 b2 o2 J3 fb hl2 (show k + 1 ≤ 4194304 by omega)
      clear CT J2 J3 fb h1 h2 b1 JH b2 o2 hl2
      go_wp2_with fail
      refine Calls.mono CP.out ?_
      rintro e w4 ⟨rfl, V4, hv4, G4, J4⟩
      have CR : Hid _ := J4.reader (show mAll o k ≤ 134217728 by omega)
      have n4 : Hid ((wrAll o k).1.length ≤ 268435456) := by
        have := J4.le
        show _ ≤ _
        omega
      clear CP J4
      go_wp2_with fail
      refine Calls.mono CR.out ?_
      rintro e w5 ⟨v5, rfl, CN⟩
      clear CR
      go_wp2_with fail
      refine Calls.mono CN.out ?_
      rintro e w6 ⟨NR, ar, cr, rfl, LX6⟩
      obtain ⟨nr, hnr⟩ : ∃ nr, nr = (wrAll o k).1.length := ⟨_, rfl⟩
      obtain ⟨bsr, hbsr⟩ : ∃ bsr, bsr = natsOf (wrAll o k).1 := ⟨_, rfl⟩
      have L0 : Hid (LS w o k NR ar nr cr bsr (k + 2 + 0) w6) := ⟨k + 2, v, u, V4, hv4, G4, by omega, by rw [hnr, hbsr]; exact LX6.out⟩
      have n5 : Hid (nr ≤ 268435456) := by rw [hnr]; exact n4.out
      clear CN LX6 n4 hnr hbsr
      go_wp2_with fail
      go_loopw [60] (fun i wr => ∃ q : Nat, q ≤ k ∧ i = .int .i64 (q : Int) ∧ Hid (LS w o k NR ar nr cr bsr (k + 2 + q) wr)) (fun i _ => k - (intOf i).toNat)
      case atStart => exact ⟨0, Nat.zero_le _, rfl, L0⟩
      case round =>
        clear L0
        obtain ⟨q, hq, rfl, hS⟩ := hrel
        by_cases hql : q < k
        · have hqI : (q : Int) < (k : Int) := by omega
          have q0 : (0 : Int) ≤ (q : Int) := by omega
          have qw : IntKind.i64.wrap ((q : Int) + 1) = ((q + 1 : Nat) : Int) := IntWalk.i64_in _ (by omega)
          obtain ⟨m, v7, u7, V7, hv7, G7, hm7, L7⟩ := hS.out
          rcases hOH.out with h0 | ⟨b, off, rfl, hbk, hc⟩
          · omega
          obtain ⟨⟨c0, c1', c2', c3⟩, hx, hB⟩ := hc q hql
          have hbb := L7.jx.bb
          have e0 : wr.cell? ⟨b, off + q * 4, none⟩ = some (.int .i64 (o.K q)) := by rw [hbb.cell (p := ⟨b, off + q * 4, none⟩) hbk]; exact c0
          have e1 : wr.cell? ⟨b, off + q * 4 + 1, none⟩ = some (.int .u64 (o.X q : Int)) := by rw [hbb.cell (p := ⟨b, off + q * 4 + 1, none⟩) hbk]; exact c1'
          have e2 : wr.cell? ⟨b, off + q * 4 + 2, none⟩ = some (.int .i64 (o.B q)) := by rw [hbb.cell (p := ⟨b, off + q * 4 + 2, none⟩) hbk]; exact c2'
          have e3 : wr.cell? ⟨b, off + q * 4 + 3, none⟩ = some (.slice (o.A q) (o.M q) (o.C q)) := by rw [hbb.cell (p := ⟨b, off + q * 4 + 3, none⟩) hbk]; exact c3
          obtain ⟨W1, hW1⟩ : ∃ W1, W1 = wr.alloc (.cells #[.int .i64 (o.K q), .int .u64 (o.X q : Int), .int .i64 (o.B q), .slice (o.A q) (o.M q) (o.C q)] 62) := ⟨_, rfl⟩
          have f0 : W1.cell? ⟨wr.heap.size, 0, none⟩ = some (.int .i64 (o.K q)) := by rw [hW1]; simp [go_sem]
          have f3 : W1.cell? ⟨wr.heap.size, 3, none⟩ = some (.slice (o.A q) (o.M q) (o.C q)) := by rw [hW1]; simp [go_sem]
          have L8 := L7.below (w' := W1) (by rw [hW1]; exact (Below.refl _ wr).alloc (Nat.le_refl _) _)
          have hMq := hB.1
          have CR : Hid _ := L8.raw (o.M q : Int) (by omega) n5.out
          have SK : Hid (LS w o k NR ar nr cr bsr (k + 2 + (q + 1)) W1) := ⟨m, _, _, _, _, _, by omega, L8⟩
          have hW1H : Hid (wr.alloc (.cells #[.int .i64 (o.K q), .int .u64 (o.X q : Int), .int .i64 (o.B q), .slice (o.A q) (o.M q) (o.C q)] 62) = W1) := hW1.symm
          have hm7H : Hid (m ≤ k + 2 + q) := hm7
          clear c0 c1' c2' c3 hc hB L7 L8 hx hS hbb hW1 hm7 hMq
          by_cases hK5 : o.K q = 5
          · rw [hK5] at e0 f0 hW1H
            clear hK5
            go_wp2_with fail
            rw [hW1H.out]
            refine Calls.mono CR.out ?_
            rintro e w8 ⟨v9, l9, rfl, hl9, ho9, L9, hf9⟩
            have CT : Hid _ := L9.take ho9 hl9 hf9 (show m ≤ 4194304 by have := hm7H.out; omega)
            clear CR hl9 ho9 L9 hf9 e0 e1 e2 e3 f0 f3 SK hW1H
            go_wp2_with fail
            refine Calls.mono CT.out ?_
            rintro e w9 ⟨rfl, hv', L10⟩
            have L10H : Hid (LS w o k NR ar nr cr bsr (k + 2 + (q + 1)) w9) := ⟨m + 1, _, _, _, _, _, by have := hm7H.out; omega, L10⟩
            clear CT L10 hm7H
            go_wp2_with fail
            exact ⟨⟨q + 1, by omega, by first | rfl | go_num, L10H⟩, by first | (simp [intOf]; done) | (simp [intOf]; omega)⟩
          · have hK5b : (o.K q == 5) = false := by simp [hK5]
            clear CR
            go_wp2_with fail
            rw [hW1H.out]
            exact ⟨⟨q + 1, by omega, by first | rfl | go_num, SK⟩, by first | (simp [intOf]; done) | (simp [intOf]; omega)⟩
        · have hlt2 : ¬ (q : Int) < (k : Int) := by omega
          obtain ⟨m, v7, u7, V7, hv7, G7, hm7, L7⟩ := hS.out
          have J7 : Hid (JX w o k m v7 u7 V7 hv7 G7 wr) := L7.jx
          have le7 := L7.jx.le
          obtain ⟨a2, cc, hu, _⟩ := L7.jx.tw.d.bytes L7.jx.cl.2.1 (by omega)
          subst hu
          obtain ⟨nn, hnn⟩ : ∃ nn, nn = (wrAll o k).1.length := ⟨_, rfl⟩
          obtain ⟨ns, hns⟩ : ∃ ns, ns = natsOf (wrAll o k).1 := ⟨_, rfl⟩
          have c7 : wr.drew.cell? ⟨w.heap.size + 1, 0, none⟩ = some (.slice a2 nn cc) := by rw [hnn]; exact L7.jx.tw.d.c0
          have CLv : Hid (∀ W, Below wr.heap.size wr W → Calls Tryd.prog 11 #[] W fun e w8 => e = .returned (.bool true) ∧ w8.cell? ⟨w.heap.size + 1, 0, none⟩ = some (.slice a2 nn cc) ∧ Hid (JX w o k m v7 (.slice a2 (wrAll o k).1.length cc) V7 hv7 G7 w8)) := fun W hW => (live_wire W (ST_below hsH.out (Bk.below_trans J7.out.bb (Bk.below_less hW J7.out.bb.size)))).mono fun e w8 ⟨e1, b8⟩ => by
            have J8 := (J7.out.below hW).below b8
            exact ⟨e1, by rw [hnn]; exact J8.tw.d.c0, J8⟩
          have CAl : Hid (∀ w8, JX w o k m v7 (.slice a2 (wrAll o k).1.length cc) V7 hv7 G7 w8 → Calls Tryd.prog 12 #[.pointer (some ⟨w.heap.size + 1 + 1, 0, none⟩)] w8 fun e w9 => e = .returned (.bool true) ∧ w9.cell? ⟨w.heap.size + 1, 0, none⟩ = some (.slice a2 nn cc) ∧ Hid (TW w w.heap.size (w.heap.size + 1) (((8 - (wrAll o k).2) % 8 : Nat) : Int) (wrAll o k).1 v7 (((wrAll o k).2 : Nat) : Int) (wrAll o k).1 (.slice a2 (wrAll o k).1.length cc) w9)) := fun w8 J8 => (J8.alone (by omega)).mono fun e w9 ⟨e1, t9⟩ => ⟨e1, by rw [hnn]; exact t9.d.c0, t9⟩
          have cl7 := L7.jx.cl
          have CBy : Hid (∀ w9, TW w w.heap.size (w.heap.size + 1) (((8 - (wrAll o k).2) % 8 : Nat) : Int) (wrAll o k).1 v7 (((wrAll o k).2 : Nat) : Int) (wrAll o k).1 (.slice a2 (wrAll o k).1.length cc) w9 → Calls Tryd.prog 6 #[.pointer (some ⟨w.heap.size, 0, none⟩)] w9 fun e w10 => ∃ a c, e = .returned (.slice a nn c) ∧ w10.cell? ⟨w.heap.size + 1, 0, none⟩ = some (.slice a2 nn cc) ∧ Hid (BytesIn w10 a nn ns ∧ BytesIn w10 a2 nn ns ∧ Below w.heap.size w w10)) := fun w9 t9 => by
            refine (bytesB _ _ _ v7 _ w9 t9.r cl7.2.1 (by omega)).mono fun e w10 ⟨a, c, e1, i1, b1⟩ => ?_
            have t10 := t9.below b1
            obtain ⟨a3, c3, e3, i3⟩ := t10.d.bytes cl7.2.1 (by omega)
            injection e3 with e3 _ e4
            subst e3 e4
            rw [hnn, hns]
            exact ⟨a, c, e1, t10.d.c0, i1, i3, t10.bb⟩
          have CSm : Hid (∀ w10 a c, (BytesIn w10 a nn ns ∧ BytesIn w10 a2 nn ns ∧ Below w.heap.size w w10) → w10.cell? ⟨w.heap.size + 1, 0, none⟩ = some (.slice a2 nn cc) → Calls Tryd.prog 13 #[.slice a nn c, .slice a2 nn cc] w10 fun e w11 => e = .returned (.bool true) ∧ w11.cell? ⟨w.heap.size + 1, 0, none⟩ = some (.slice a2 nn cc) ∧ Hid (Below w.heap.size w w11)) := fun w10 a c h10 hc => (same_in _ _ _ _ _ ns _ h10.1 h10.2.1).mono fun e w11 ⟨e1, b11⟩ => by
            have lt : w.heap.size + 1 < w10.heap.size := by
              rcases Nat.lt_or_ge (w.heap.size + 1) w10.heap.size with h2 | h2
              · exact h2
              · simp [World.cell?, Array.getElem?_eq_none h2] at hc
            exact ⟨e1, by rw [b11.cell (p := ⟨w.heap.size + 1, 0, none⟩) lt]; exact hc, Bk.below_trans h10.2.2 (Bk.below_less b11 h10.2.2.size)⟩
          clear hS L7 J7 le7 hnn hns cl7 hm7 hsH hLH hlnH n5
          go_wp2_with fail
          go_region_held3 (fun W => W.cell? ⟨w.heap.size + 1, 0, none⟩ = some (.slice a2 nn cc)) (first | assumption)
            (first
              | (go_at_call 11; (with_reducible refine Calls.mono (CLv.out _ (by first | exact (Below.refl _ wr).drew | exact ((Below.refl _ wr).drew).drew)) ?_); rintro e w8 ⟨rfl, S8, J8⟩)
              | (go_at_call 12; (with_reducible refine Calls.mono (CAl.out _ J8.out) ?_); rintro e w9 ⟨rfl, S9, T9⟩)
              | (go_at_call 6; (with_reducible refine Calls.mono (CBy.out _ T9.out) ?_); rintro e w10 ⟨a9, c9, rfl, S10, F10⟩)
              | (go_at_call 13; (with_reducible refine Calls.mono (CSm.out _ _ _ F10.out (by assumption)) ?_); rintro e w11 ⟨rfl, S11, F11⟩))
          all_goals
            go_wp2_with fail
            go_ret
            exact ⟨rfl, F11.out⟩
end Go.Proofs.YtepgcgphnjlcoaaDoor
