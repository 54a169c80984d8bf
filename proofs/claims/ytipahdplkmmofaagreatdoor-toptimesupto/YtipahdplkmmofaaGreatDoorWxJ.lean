
import Derived.Test.YtipahdplkmmofaaGreatDoorSpLw
import Derived.Test.YtipahdplkmmofaaGreatDoorWxF
import Derived.Test.YtipahdplkmmofaaGreatDoorWxH
import Derived.Test.YtipahdplkmmofaaGreatDoorRows
import Derived.ProofKit
import Derived.OpenShut
import Derived.Deep.SlicePairs
import Derived.Lib.SmallJoins
namespace Go.Proofs.YtipahdplkmmofaaGreatDoor
open Go.RowKit Go.Shelf
set_option linter.unusedVariables false
set_option linter.unusedSimpArgs false
theorem text_len2 (t : Int) (ht : I64 t) : (textP t).length ≤ 30 := by
  unfold I64 at ht
  have q1 : -719528 ≤ t / 86400000000000 ∧ t / 86400000000000 < 2932897 := by omega
  obtain ⟨⟨a1, a2, a3, a4, a5, a6⟩, _⟩ := date_ok (t / 86400000000000) q1.1 q1.2
  have hM' := lenM_bd (yOf (t / 86400000000000)) (ymOf (t / 86400000000000))
  have z1 := (pad_ok (yOf (t / 86400000000000)) 3 (by omega) (by show _ < (10000 : Int); omega)).1
  have z2 := (pad_ok (ymOf (t / 86400000000000)) 1 (by omega) (by show _ < (100 : Int); omega)).1
  have z3 := (pad_ok (ydOf (t / 86400000000000)) 1 (by omega) (by show _ < (100 : Int); omega)).1
  have z4 := (pad_ok (t % 86400000000000 / 3600000000000) 1 (by omega) (by show _ < (100 : Int); omega)).1
  have z5 := (pad_ok (t % 86400000000000 % 3600000000000 / 60000000000) 1 (by omega) (by show _ < (100 : Int); omega)).1
  have z6 := (pad_ok (t % 86400000000000 % 60000000000 / 1000000000) 1 (by omega) (by show _ < (100 : Int); omega)).1
  have z8 := (pad_ok (t % 86400000000000 % 1000000000) 8 (by omega) (by show _ < (1000000000 : Int); omega)).1
  have z9 := trimB_len (padP (t % 86400000000000 % 1000000000) 9)
  have z7 : (fracP (t % 86400000000000 % 1000000000)).length ≤ 10 := by
    generalize t % 86400000000000 % 1000000000 = q at z8 z9
    unfold fracP; split
    · simp
    · simp only [List.length_cons]
      have z8' : (padP q 9).length = 9 := z8
      omega
  unfold textP textR
  simp only [List.length_append, List.length_cons, List.length_nil]
  simp only [Nat.reduceAdd] at z1 z2 z3 z4 z5 z6 z8
  omega
/-! ### a text in bytes -/
def byL (t : List UInt8) : List Nat := Wi.bytesL (fun i => (t.getD i 0).toNat) t.length
def encP (t : List UInt8) : List Nat := t.length :: byL t
def entT (x : Int) : List Nat := encP (textP x) ++ encP (prT x)
def accT (z : Nat → Int) : Nat → List Nat
  | 0 => []
  | k + 1 => accT z k ++ entT (z k)
theorem byL_len (t : List UInt8) : (byL t).length = t.length := by simp [byL, Wi.bytesL]
theorem byL_lt (t : List UInt8) : ∀ y ∈ byL t, y < 256 := Wi.bytesL_lt fun i _ => UInt8.toNat_lt _
theorem encP_len (t : List UInt8) : (encP t).length = t.length + 1 := by simp [encP, byL_len]
theorem encP_lt (t : List UInt8) (h : t.length < 128) : ∀ y ∈ encP t, y < 256 := fun y hy => by
  rcases List.mem_cons.1 hy with rfl | hy
  · omega
  · exact byL_lt t y hy
theorem entT_len (x : Int) (hx : I64 x) : (entT x).length ≤ 62 := by
  have h1 := text_len2 x hx
  have h2 := prT_len x hx
  unfold entT; rw [List.length_append, encP_len, encP_len]; omega
theorem accT_len (z : Nat → Int) (hz : ∀ i, I64 (z i)) : ∀ k, (accT z k).length ≤ 62 * k
  | 0 => by simp [accT]
  | k + 1 => by have h1 := accT_len z hz k; have h2 := entT_len (z k) (hz k); unfold accT; rw [List.length_append]; omega
theorem accT_lt (z : Nat → Int) (hz : ∀ i, I64 (z i)) : ∀ k, ∀ y ∈ accT z k, y < 256
  | 0 => by intro y hy; simp [accT] at hy
  | k + 1 => by
    intro y hy
    unfold accT at hy
    have h1 := text_len2 (z k) (hz k)
    have h2 := prT_len (z k) (hz k)
    rcases List.mem_append.1 hy with hy | hy
    · exact accT_lt z hz k y hy
    · rcases List.mem_append.1 hy with hy | hy
      · exact encP_lt _ (by omega) y hy
      · exact encP_lt _ (by omega) y hy
theorem accT_le (z : Nat → Int) (k : Nat) : ∀ n, k ≤ n → ∃ r, accT z n = accT z k ++ r
  | 0, h => ⟨[], by have : k = 0 := by omega
                    subst this; simp⟩
  | n + 1, h => by
    rcases Nat.lt_or_ge n k with c | c
    · have : k = n + 1 := by omega
      subst this; exact ⟨[], by simp⟩
    · obtain ⟨r, hr⟩ := accT_le z k n c
      exact ⟨r ++ entT (z n), by rw [show accT z (n + 1) = accT z n ++ entT (z n) from rfl, hr, List.append_assoc]⟩
/-- at place k: the two texts. -/
theorem accT_at (z : Nat → Int) (k n : Nat) (h : k < n) : ∃ r, accT z n = accT z k ++ (encP (textP (z k)) ++ (encP (prT (z k)) ++ r)) := by
  obtain ⟨r, hr⟩ := accT_le z (k + 1) n h
  exact ⟨r, by rw [hr, show accT z (k + 1) = accT z k ++ entT (z k) from rfl]; simp [entT, List.append_assoc]⟩
theorem nat_at (a b c : List Nat) (i : Nat) (h : i < b.length) : Wi.natsOf (a ++ (b ++ c)) (a.length + i) = Wi.natsOf b i := by
  rw [Wi.natsOf_right, Wi.natsOf_left _ _ _ h]
/-- two texts with the same bytes. -/
theorem text_same (s : ByteArray) (t : List UInt8) (hs : s.size = t.length) (h : Wi.bytesL (fun i => (s.data.toList.getD i 0).toNat) s.size = byL t) : s = B t := by
  have e : s.data.toList = t := by
    have hl : s.data.toList.length = t.length := hs
    apply List.ext_getElem hl
    intro i h1 h2
    have h3 : Wi.natsOf (Wi.bytesL (fun i => (s.data.toList.getD i 0).toNat) s.size) i = Wi.natsOf (byL t) i := by rw [h]
    unfold byL at h3
    rw [Wi.nats_bytesL _ _ _ (by omega), Wi.nats_bytesL _ _ _ h2] at h3
    simp only [List.getD_eq_getElem?_getD, List.getElem?_eq_getElem h1, List.getElem?_eq_getElem h2, Option.getD_some] at h3
    exact UInt8.toNat_inj.1 h3
  rw [← B_of s, e]
/-- what a Reader finds at a text. -/
theorem encP_at (a c : List Nat) (t : List UInt8) (L : List Nat) (hL : L = a ++ (encP t ++ c)) (ht : t.length < 128) :
    (∀ i, i < (Wi.uB t.length).length → Wi.natsOf L (a.length + i) = (Wi.uB t.length).getD i 0) ∧ Wi.bytesL (fun i => Wi.natsOf L (a.length + (Wi.uB t.length).length + i)) t.length = byL t ∧ (Wi.uB t.length).length = 1 ∧ a.length + 1 + t.length ≤ L.length := by
  have eu := Wi.uB_small t.length ht
  rw [eu]
  subst hL
  refine ⟨fun i hi => ?_, ?_, rfl, by simp [encP_len]; omega⟩
  · have : i = 0 := by simpa using hi
    subst this
    rw [nat_at a (encP t) c 0 (by rw [encP_len]; omega)]; rfl
  · unfold byL Wi.bytesL
    apply List.map_congr_left
    intro i hi
    have hi' : i < t.length := List.mem_range.1 hi
    show Wi.natsOf _ (a.length + 1 + i) = _
    rw [show a.length + 1 + i = a.length + (1 + i) by omega, nat_at a (encP t) c (1 + i) (by rw [encP_len]; omega)]
    have := Wi.nats_bytesL (fun i => (t.getD i 0).toNat) t.length i hi'
    rw [show 1 + i = i + 1 by omega]
    exact this
end Go.Proofs.YtipahdplkmmofaaGreatDoor

namespace Go.Proofs.YtipahdplkmmofaaGreatDoor
open Go.RowKit Go.Shelf
set_option linter.unusedVariables false
set_option linter.unusedSimpArgs false
/-- the tables. -/
structure TW (w : World) : Prop where
  u : UT w
  m : MT w
  p : PT w
  s : Wi.ST w
theorem TW.below {w w' : World} (h : TW w) (hb : Below w.heap.size w w') : TW w' := ⟨h.u.below hb, h.m.below hb, h.p.below hb, Wi.ST_below h.s hb⟩
/-- a text, written. -/
theorem wtx {N : Nat} {w1 : World} {v : Value} {l : List Nat} {w : World} (h : Wi.WS N w1 0 v l.length (Wi.enc l) w) (t : List UInt8) (ht : t.length ≤ 30) (hl : l.length ≤ 67108864) :
    Calls Tryz.prog 14 #[.pointer (some ⟨N, 0, none⟩), .string (B t)] w fun e w' => e = .returned undef ∧ ∃ v', Wi.WS N w1 0 v' (l ++ encP t).length (Wi.enc (l ++ encP t)) w' := by
  refine (Wi.wtext_fr N w1 0 v l.length l w h (B t) (by rw [B_size]; omega)).mono ?_
  rintro e w' ⟨rfl, v', n', h', _, _⟩
  refine ⟨rfl, v', ?_⟩
  rw [B_size, Wi.uB_small t.length (by omega), Wi.enc_append, Wi.enc_append] at h'
  simp only [B_list] at h'
  have e : l ++ [t.length] ++ Wi.bytesL (fun i => (t.getD i 0).toNat) t.length = l ++ encP t := by
    simp [encP, byL]
  rw [e] at h'
  have hn : n' = (l ++ encP t).length := by
    have := h'.own.1
    rw [Wi.enc_len] at this; omega
  rw [← hn]; exact h'
/-- the bytes, and their frame. -/
theorem wby {N : Nat} {w1 : World} {v : Value} {l : List Nat} {w : World} (h : Wi.WS N w1 0 v l.length (Wi.enc l) w) (hl : ∀ y ∈ l, y < 256) (hb : l.length ≤ 67108864) :
    Calls Tryz.prog 18 #[.pointer (some ⟨N, 0, none⟩)] w fun e w' => ∃ a c, e = .returned (.slice a l.length c) ∧ (l.length = 0 ∨ ∃ b off, a = some ⟨b, off, none⟩ ∧ b < w'.heap.size ∧ Wi.BytesAt w' b off l.length (Wi.natsOf l)) ∧ Below w.heap.size w w' := by
  refine (Wi.bytesB2 N w1 0 v l w h hl (by omega)).mono ?_
  rintro e w' ⟨⟨rfl, rfl⟩ | ⟨g, o, c, rfl, hB⟩, hBe⟩
  · exact ⟨none, 0, rfl, Or.inl rfl, hBe⟩
  · exact ⟨_, c, rfl, hB.2, hBe⟩
theorem own_cap {w : World} {base t g n cap : Nat} {xs : List Value} (ho : w.ownsRow base t 1 (.slice (some ⟨g, 0, none⟩) n cap) n xs) : n ≤ cap := by
  rcases ho.2 with ⟨hq, _⟩ | ⟨g0, cap0, cur, hq, _, _, hnc, _⟩
  · cases hq
  · cases hq; exact hnc
theorem frame_lt9 (l : List Nat) (hl : ∀ x ∈ l, x < 256) : ∀ x ∈ Wi.frameOf 9 7 l, x < 256 := fun x hx => by
  unfold Wi.frameOf at hx
  rcases List.mem_append.1 hx with hx | hx
  · rcases List.mem_append.1 hx with hx | hx
    · exact Wi.head2_lt 9 7 l.length (by omega) x hx
    · exact hl x hx
  · unfold Wi.be4 at hx
    simp at hx
    omega
theorem sl9 (a : Option Addr) (c : Nat) (l : List Nat) (w : World) (hlen : l.length ≤ 67108864) (hb : l.length = 0 ∨ ∃ b off, a = some ⟨b, off, none⟩ ∧ b < w.heap.size ∧ Wi.BytesAt w b off l.length (Wi.natsOf l)) (hl : ∀ x ∈ l, x < 256) (hs : Wi.ST w) :
    Calls Tryz.prog 17 #[.int .u8 9, .int .u64 7, .slice a l.length c] w fun e w' => ∃ g cap, e = .returned (.tuple #[.slice (some ⟨g, 0, none⟩) (21 + l.length) cap, .nilIface]) ∧ Wi.BytesAt w' g 0 (21 + l.length) (Wi.natsOf (Wi.frameOf 9 7 l)) ∧ 21 + l.length ≤ cap ∧ g < w'.heap.size ∧ Below w.heap.size w w' := by
  refine (Wi.seal_any 9 7 (by omega) (by omega) a c l w hlen hb hl hs).mono ?_
  rintro e w' ⟨g, cap, rfl, ho, hBe⟩
  have hc := own_cap ho
  have hg := (ho.lt g rfl).2
  have hf : ∀ x ∈ Wi.frameOf 9 7 l, x < 256 := frame_lt9 l hl
  have hB := Wi.bytes_own ho hf
  rw [show 17 + l.length + 4 = 21 + l.length by omega] at hB hc ⊢
  exact ⟨g, cap, rfl, hB, hc, hg, hBe⟩
theorem op9 (g cap : Nat) (l : List Nat) (w : World) (hlen : l.length ≤ 67108864) (hl : ∀ x ∈ l, x < 256) (hB : Wi.BytesAt w g 0 (21 + l.length) (Wi.natsOf (Wi.frameOf 9 7 l))) (hc : 21 + l.length ≤ cap) (hg : g < w.heap.size) (hs : Wi.ST w) :
    Calls Tryz.prog 20 #[.slice (some ⟨g, 0, none⟩) (21 + l.length) cap] w fun e w' => ∃ b c, e = .returned (.tuple #[.int .u8 9, .int .u64 7, .slice (some ⟨b, 0, none⟩) l.length c, .int .i64 ((21 + l.length : Nat) : Int), .nilIface]) ∧ Wi.BytesIn w' (some ⟨b, 0, none⟩) l.length (Wi.natsOf l) ∧ Below w.heap.size w w' := by
  obtain ⟨e1, e2⟩ := Wi.frame_open 9 7 l [] (by omega) hl hlen
  rw [List.append_nil] at e1 e2
  simp only [List.length_nil, Nat.add_zero] at e2
  have x0 : Wi.natsOf (Wi.frameOf 9 7 l) 0 = 9 := rfl
  have x5 : Wi.u32At (Wi.natsOf (Wi.frameOf 9 7 l)) 5 = 0 := by
    have y0 : Wi.natsOf (Wi.frameOf 9 7 l) 5 = 0 := rfl
    have y1 : Wi.natsOf (Wi.frameOf 9 7 l) 6 = 0 := rfl
    have y2 : Wi.natsOf (Wi.frameOf 9 7 l) 7 = 0 := rfl
    have y3 : Wi.natsOf (Wi.frameOf 9 7 l) 8 = 0 := rfl
    unfold Wi.u32At
    rw [y0, y1, y2, y3]
  have x9 : Wi.u32At (Wi.natsOf (Wi.frameOf 9 7 l)) 9 = 7 := by
    have y0 : Wi.natsOf (Wi.frameOf 9 7 l) 9 = 0 := rfl
    have y1 : Wi.natsOf (Wi.frameOf 9 7 l) 10 = 0 := rfl
    have y2 : Wi.natsOf (Wi.frameOf 9 7 l) 11 = 0 := rfl
    have y3 : Wi.natsOf (Wi.frameOf 9 7 l) 12 = 7 := rfl
    unfold Wi.u32At
    rw [y0, y1, y2, y3]
  have xs : ∀ i, i < l.length → Wi.natsOf (Wi.frameOf 9 7 l) (17 + i) = Wi.natsOf l i := fun i hi => by
    have : Wi.frameOf 9 7 l = Wi.head2 9 7 l.length ++ (l ++ Wi.be4 (Wi.crcOf (Wi.head2 9 7 l.length ++ l))) := by unfold Wi.frameOf; rw [List.append_assoc]
    rw [this, ← Wi.head2_len 9 7 l.length, Wi.natsOf_right, Wi.natsOf_left _ _ _ hi]
  have H := Wi.open_ok g (21 + l.length) cap (Wi.natsOf (Wi.frameOf 9 7 l)) w w ⟨hB, hs, Below.refl _ _⟩ hg hc (by omega) e2 (by omega)
  rw [e1, x0, x5, x9] at H
  refine H.mono ?_
  rintro e w' ⟨b, c, rfl, hB', hb', hO⟩
  refine ⟨b, c, ?_, ⟨by omega, Or.inr ⟨b, 0, rfl, hb', fun i hi => ?_⟩⟩, hO.2.2⟩
  · have : (17 + (l.length : Int) + 4) = ((21 + l.length : Nat) : Int) := by omega
    rw [this]; rfl
  · have := hB' i hi
    simp only [xs i hi] at this; exact this
/-- a text, read. -/
theorem rtx {N : Nat} {w1 : World} {a : Option Addr} {cap : Nat} {L : List Nat} {w : World} (A C : List Nat) (t : List UInt8) (h : Wi.RR N w1 a L.length cap (Wi.natsOf L) A.length 0 none w) (hL : L = A ++ (encP t ++ C)) (ht : t.length ≤ 30) :
    Calls Tryz.prog 22 #[.pointer (some ⟨N, 0, none⟩), .int .i64 64] w fun e w' => e = .returned (.string (B t)) ∧ Wi.RR N w1 a L.length cap (Wi.natsOf L) (A ++ encP t).length 0 none w' := by
  obtain ⟨f1, f2, f3, f4⟩ := encP_at A C t L hL (by omega)
  refine (Wi.rText_most h (by simp) t.length (by omega) (by omega) f1 64 (by omega)).mono ?_
  rintro e w' ⟨⟨s, rfl, hs, hb⟩, hR, _⟩
  rw [f2] at hb
  rw [text_same s t hs hb]
  refine ⟨rfl, ?_⟩
  have : A.length + (Wi.uB t.length).length + t.length = (A ++ encP t).length := by rw [List.length_append, encP_len]; omega
  rw [← this]; exact hR
end Go.Proofs.YtipahdplkmmofaaGreatDoor

namespace Go.Proofs.YtipahdplkmmofaaGreatDoor
open Go.ChangeShapes Go.WideShapes Go.ChangeAt Go.RowKit
set_option linter.unusedVariables false
set_option linter.unusedSimpArgs false
theorem bulk_litsI {H : Type} (k : IntKind) (l : List Int) : Rows.uptoBulkAll (lits (H := H) k l) = l.length := by
  unfold lits
  induction l with
  | nil => simp [Rows.uptoBulkAll]
  | cons x a ih => simp [Rows.uptoBulkAll, Rows.uptoBulk, ih]; omega
set_option maxRecDepth 100000 in
/-- a slice of numbers, by its bulk. -/
theorem ints_bulk {H : Type} {enc : TypeId × Value → H} {t e : TypeId} {W : World} {v : Value} {y : DataW H × List MemPlace} {fuel : Nat}
    (ht : Tryz.prog.underlying t = some (.slice e)) (he : Tryz.prog.underlying e = some (.int .i64)) (hc : Tryz.prog.cellsOf e = 1)
    (hf : DataW.trod enc Tryz.prog W 0 (fun _ => true) true fuel t [v] = some y) :
    ∃ a len cap, ∃ z : Nat → Int, v = .slice a len cap ∧ len + 1 ≤ Rows.uptoBulk y.1 ∧ (∀ i, I64 (z i)) ∧ (len = 0 ∨ ∃ b off, a = some ⟨b, off, none⟩ ∧ b < W.heap.size ∧ ∀ i, i < len → W.cell? ⟨b, off + i, none⟩ = some (.int .i64 (z i))) := by
  have hz1 : I64 0 := by unfold I64; omega
  rcases open_ints ht he hc hf with ⟨hcs, hx⟩ | ⟨a', len, cap, zs, hcs, _, hl, hm, hzl, hx, hcell, hwz⟩
  · simp at hcs
    subst hcs
    exact ⟨none, 0, 0, fun _ => 0, rfl, by rw [hx]; simp [Rows.uptoBulk], fun _ => hz1, Or.inl rfl⟩
  · simp at hcs
    subst hcs
    simp at hzl
    refine ⟨some a', len, cap, fun i => zs.getD i 0, rfl, ?_, fun i => ?_, ?_⟩
    · rw [hx]
      simp only [Rows.uptoBulk, bulk_litsI, List.length_take, List.length_drop]
      omega
    · show I64 (zs.getD i 0)
      rcases Nat.lt_or_ge i zs.length with hi | hi
      · have hm2 : zs.getD i 0 ∈ zs := by rw [List.getD_eq_getElem?_getD, List.getElem?_eq_getElem hi]; exact List.getElem_mem hi
        have := bounds_i64 (hwz (zs.getD i 0) hm2)
        unfold I64; omega
      · rw [List.getD_eq_getElem?_getD, List.getElem?_eq_none hi]; exact hz1
    · rcases Nat.eq_zero_or_pos len with h0 | h0
      · exact Or.inl h0
      · right
        obtain ⟨b, off, rfl, hc'⟩ := ints_at hcell (by omega)
        refine ⟨b, off, rfl, ?_, fun i hi => hc' i (by omega)⟩
        have := hc' 0 (by omega)
        rcases Nat.lt_or_ge b W.heap.size with h' | h'
        · exact h'
        · simp [World.cell?, Array.getElem?_eq_none h'] at this
end Go.Proofs.YtipahdplkmmofaaGreatDoor
