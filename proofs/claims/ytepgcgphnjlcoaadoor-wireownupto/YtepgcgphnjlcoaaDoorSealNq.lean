
import Derived.Test.YtepgcgphnjlcoaaDoorTornAq
import Derived.Maps.AppendAt
import Derived.Test.YtepgcgphnjlcoaaDoorBaseq
namespace Go.Proofs.YtepgcgphnjlcoaaDoor
open Go.RowKit
set_option linter.unusedVariables false
set_option linter.unusedSimpArgs false
theorem seal_long (kind : Int) (number : Int) (a : Option Addr) (len cap : Nat) (w : World) (hl : 67108864 < len) :
    Calls Tryd.prog 7 #[.int .u8 kind, .int .u64 number, .slice a len cap] w fun e w' => e = .returned (.tuple #[.slice none 0 0, .iface 88 (.int .i64 6)]) ∧ w' = w := by
  have hI : (67108864 : Int) < (len : Int) := by omega
  go_enter Tryd.func7, Tryd.ntmps7
  go_wp2_with fail
  refine (new_any 6 rfl _).mono ?_
  rintro e w1 ⟨rfl, rfl⟩
  go_wp2_with fail
  go_ret2
  exact ⟨rfl, rfl⟩
set_option maxRecDepth 100000 in
set_option maxHeartbeats 4000000 in
theorem seal_any (kind number : Nat) (hk : kind < 256) (hn : number < 18446744073709551616) (a : Option Addr) (cap : Nat) (l : List Nat) (w : World) (hlen : l.length ≤ 67108864)
    (hb : l.length = 0 ∨ ∃ b off, a = some ⟨b, off, none⟩ ∧ b < w.heap.size ∧ BytesAt w b off l.length (natsOf l)) (hl : ∀ x ∈ l, x < 256) (hs : ST w) :
    Calls Tryd.prog 7 #[.int .u8 (kind : Int), .int .u64 (number : Int), .slice a l.length cap] w fun e w' => ∃ g cap', e = .returned (.tuple #[.slice (some ⟨g, 0, none⟩) (17 + l.length + 4) cap', .nilIface]) ∧ w'.ownsRow w.heap.size 5 1 (.slice (some ⟨g, 0, none⟩) (17 + l.length + 4) cap') (17 + l.length + 4) (enc (frameOf kind number l)) ∧ Below w.heap.size w w' := by
  obtain ⟨i, i1, i0⟩ := Option.map_eq_some_iff.1 byte_info
  have i2 : i.zero = some (.int .u8 0) := congrArg (·.1) i0
  have i3 : i.bytes = 1 := congrArg (·.2.1) i0
  have i4 : i.size = 1 := congrArg (·.2.2) i0
  have hml : maxLen = 9223372036854775807 := by decide
  have hI : ¬ (67108864 : Int) < (l.length : Int) := by omega
  have hmk := make_u8 (21 + l.length) (by omega)
  have hmc : ((21 + l.length : Nat) : Int) = 17 + (l.length : Int) + 4 := by omega
  rw [hmc] at hmk
  clear i0
  generalize hN : l.length = n at *
  go_enter Tryd.func7, Tryd.ntmps7
  have own0 : ((w.alloc (.cells (madeCells #[.int .u8 0] (21 + n)) 5)).alloc (.cells #[.int .u8 (kind : Int)] 5)).ownsRow w.heap.size 5 1 (.slice (some ⟨w.heap.size, 0, none⟩) 0 (21 + n)) 0 (enc []) :=
    (World.ownsRow_made w _ (21 + n) (Nat.le_refl _) (by omega) (made_size _)).alloc _
  have news0 : ∀ j u, (enc [kind])[j]? = some u → ((w.alloc (.cells (madeCells #[.int .u8 0] (21 + n)) 5)).alloc (.cells #[.int .u8 (kind : Int)] 5)).cell? ((⟨w.heap.size + 1, 0, none⟩ : Addr).add j) = some u := by
    have := cells_news (w.alloc (.cells (madeCells #[.int .u8 0] (21 + n)) 5)) [kind] (0, 0)
    simpa [enc] using this
  have B0 := below_new (below_new (Below.refl _ w) (.cells (madeCells #[.int .u8 0] (21 + n)) 5)) (.cells #[.int .u8 (kind : Int)] 5)
  go_wp2_with (at_builtin; refine wpList_append_lies _ (by rfl) _ _ _ (by rfl) w.heap.size 5 i (.int .u8 0) 1 1 Tryd.underlying23 i1 i2 i4 i3 rfl (by omega) _ 0 (enc []) (by rfl) own0 ⟨w.heap.size + 1, 0, none⟩ 1 1 (enc [kind]) (by rfl) (by simp [enc]) news0 (enc_one _) (by omega) (by omega) (by omega) (by simp; omega) _ rfl ?_)
  intro g1 c1 w1 p1 gr1 at1 lt1
  have o1 : w1.ownsRow w.heap.size 5 1 (.slice (some ⟨g1, 0, none⟩) 1 c1) 1 (enc [kind]) := p1
  have B1 := below_grown B0 gr1 (fun k e => by simp [Value.ownBlock] at e; omega)
  clear own0 news0 B0 p1 gr1 at1 hmk
  have x1 : (n : Int) % 4294967296 = (n : Int) := by omega
  go_wp2_with fail
  refine (four_z (n) (by omega) _ (by omega) _).mono ?_
  rintro e v2 ⟨rfl, rfl⟩
  go_wp2_with (at_builtin; refine wpList_append_lies _ (by rfl) _ _ _ (by rfl) w.heap.size 5 i (.int .u8 0) 1 1 Tryd.underlying23 i1 i2 i4 i3 rfl (by omega) _ 1 (enc ([kind])) (by rfl) (o1.alloc _) ⟨w1.heap.size, 0, none⟩ 4 4 (enc (be4 (n))) (by rfl) (by simp [enc, be4]) (cells_news w1 (be4 (n)) (0, 0)) (enc_one _) (by omega) (by omega) (by omega) (by have := B1.size; simp; omega) _ rfl ?_)
  intro g2 c2 w2 p2 gr2 at2 lt2
  have o2 : w2.ownsRow w.heap.size 5 1 (.slice (some ⟨g2, 0, none⟩) 5 c2) 5 (enc ([kind] ++ be4 (n))) := by have := p2; rw [enc_append] at this; exact this
  have B2 := below_grown (below_new B1 (.cells (enc (be4 (n))).toArray 5)) gr2 (fun k e => (o1.lt k e).1)
  clear p2 gr2 at2 o1 B1
  go_wp2_with fail
  refine (four_z (number / 4294967296) (by omega) _ (by omega) _).mono ?_
  rintro e v3 ⟨rfl, rfl⟩
  go_wp2_with (at_builtin; refine wpList_append_lies _ (by rfl) _ _ _ (by rfl) w.heap.size 5 i (.int .u8 0) 1 1 Tryd.underlying23 i1 i2 i4 i3 rfl (by omega) _ 5 (enc ([kind] ++ be4 (n))) (by rfl) (o2.alloc _) ⟨w2.heap.size, 0, none⟩ 4 4 (enc (be4 (number / 4294967296))) (by rfl) (by simp [enc, be4]) (cells_news w2 (be4 (number / 4294967296)) (0, 0)) (enc_one _) (by omega) (by omega) (by omega) (by have := B2.size; simp; omega) _ rfl ?_)
  intro g3 c3 w3 p3 gr3 at3 lt3
  have o3 : w3.ownsRow w.heap.size 5 1 (.slice (some ⟨g3, 0, none⟩) 9 c3) 9 (enc ([kind] ++ be4 (n) ++ be4 (number / 4294967296))) := by have := p3; rw [enc_append] at this; exact this
  have B3 := below_grown (below_new B2 (.cells (enc (be4 (number / 4294967296))).toArray 5)) gr3 (fun k e => (o2.lt k e).1)
  clear p3 gr3 at3 o2 B2
  go_wp2_with fail
  refine (four_z (number % 4294967296) (by omega) _ (by omega) _).mono ?_
  rintro e v4 ⟨rfl, rfl⟩
  go_wp2_with (at_builtin; refine wpList_append_lies _ (by rfl) _ _ _ (by rfl) w.heap.size 5 i (.int .u8 0) 1 1 Tryd.underlying23 i1 i2 i4 i3 rfl (by omega) _ 9 (enc ([kind] ++ be4 (n) ++ be4 (number / 4294967296))) (by rfl) (o3.alloc _) ⟨w3.heap.size, 0, none⟩ 4 4 (enc (be4 (number % 4294967296))) (by rfl) (by simp [enc, be4]) (cells_news w3 (be4 (number % 4294967296)) (0, 0)) (enc_one _) (by omega) (by omega) (by omega) (by have := B3.size; simp; omega) _ rfl ?_)
  intro g4 c4 w4 p4 gr4 at4 lt4
  have o4 : w4.ownsRow w.heap.size 5 1 (.slice (some ⟨g4, 0, none⟩) 13 c4) 13 (enc ([kind] ++ be4 (n) ++ be4 (number / 4294967296) ++ be4 (number % 4294967296))) := by have := p4; rw [enc_append] at this; exact this
  have B4 := below_grown (below_new B3 (.cells (enc (be4 (number % 4294967296))).toArray 5)) gr4 (fun k e => (o3.lt k e).1)
  clear p4 gr4 at4 o3 B3
  have o4h : w4.ownsRow w.heap.size 5 1 (.slice (some ⟨g4, 0, none⟩) 13 c4) 13 (enc (head1 kind number n)) := o4
  clear o4
  have hlt1 : ∀ x ∈ head1 kind number n, x < 256 := head1_lt kind number n hk
  have hc1 := crcOf_lt hlt1
  have hl1 : (head1 kind number n).length = 13 := rfl
  have ST4 := ST_below hs B4
  have b4 := bytes_own o4h hlt1
  go_wp2_with fail
  refine (crc_wire g4 0 13 c4 _ _ (by omega) b4 ST4).mono ?_
  rintro e v5 ⟨rfl, rfl⟩
  rw [show crcTo (natsOf (head1 kind number n)) 13 ^^^ 4294967295 = crcOf (head1 kind number n) from rfl]
  clear b4 ST4
  have o4 := o4h
  go_wp2_with fail
  refine (four_z (crcOf (head1 kind number n)) hc1 _ rfl _).mono ?_
  rintro e v5 ⟨rfl, rfl⟩
  go_wp2_with (at_builtin; refine wpList_append_lies _ (by rfl) _ _ _ (by rfl) w.heap.size 5 i (.int .u8 0) 1 1 Tryd.underlying23 i1 i2 i4 i3 rfl (by omega) _ 13 (enc (head1 kind number n)) (by rfl) (o4h.alloc _) ⟨v5.heap.size, 0, none⟩ 4 4 (enc (be4 (crcOf (head1 kind number n)))) (by rfl) (by simp [enc, be4]) (cells_news v5 (be4 (crcOf (head1 kind number n))) (0, 0)) (enc_one _) (by omega) (by omega) (by omega) (by have := B4.size; simp; omega) _ rfl ?_)
  intro g5 c5 w5 p5 gr5 at5 lt5
  have o5 : w5.ownsRow w.heap.size 5 1 (.slice (some ⟨g5, 0, none⟩) 17 c5) 17 (enc (head1 kind number n ++ be4 (crcOf (head1 kind number n)))) := by have := p5; rw [enc_append] at this; exact this
  have B5 := below_grown (below_new B4 (.cells (enc (be4 (crcOf (head1 kind number n)))).toArray 5)) gr5 (fun k e => (o4.lt k e).1)
  clear p5 gr5 at5 o4 B4
  have o5h : w5.ownsRow w.heap.size 5 1 (.slice (some ⟨g5, 0, none⟩) 17 c5) 17 (enc (head2 kind number n)) := o5
  clear o5
  have bl : n = 0 ∨ ∃ b off, a = some ⟨b, off, none⟩ ∧ BytesAt w5 b off n (natsOf l) := by
    rcases hb with h0 | ⟨b, off, rfl, hbk, hb⟩
    · exact Or.inl h0
    · exact Or.inr ⟨b, off, rfl, hb.below B5 hbk⟩
  obtain ⟨g6, c6, w6, hr6, p6, gr6⟩ := app_any w.heap.size g5 c5 17 n (head2 kind number n) l w5 a cap o5h hN bl (by omega) (by have := B5.size; omega)
  have lt6 := (p6.lt g6 rfl).2
  have o6 : w6.ownsRow w.heap.size 5 1 (.slice (some ⟨g6, 0, none⟩) (17 + n) c6) (17 + n) (enc (head2 kind number n ++ l)) := p6
  have B6 := below_grown B5 gr6 (fun k e => (o5h.lt k e).1)
  have hr6' : Hid _ := hr6
  clear p6 gr6 bl hr6 hb
  go_wp2_with (at_builtin; refine wpList_append_run (by rfl) _ _ _ (by rfl) _ _ _ _ (by rfl) (by rfl) hr6'.out ?_)
  clear hr6' o5h B5
  have hlt2 : ∀ x ∈ head2 kind number n ++ l, x < 256 := fun x hx => by
    rcases List.mem_append.1 hx with hx | hx
    · exact head2_lt kind number n hk x hx
    · exact hl x hx
  have hc2 := crcOf_lt hlt2
  have hl2 : (head2 kind number n ++ l).length = 17 + n := by rw [List.length_append, hN]; rfl
  have ST6 := ST_below hs B6
  have b6 := bytes_own o6 hlt2
  go_wp2_with fail
  refine (crc_wire g6 0 (17 + n) c6 _ _ (by omega) b6 ST6).mono ?_
  rintro e v7 ⟨rfl, rfl⟩
  rw [show crcTo (natsOf (head2 kind number n ++ l)) (17 + n) ^^^ 4294967295 = crcOf (head2 kind number n ++ l) by rw [crcOf, hl2]]
  clear b6 ST6
  go_wp2_with fail
  refine (four_z (crcOf (head2 kind number n ++ l)) hc2 _ rfl _).mono ?_
  rintro e v7 ⟨rfl, rfl⟩
  go_wp2_with (at_builtin; refine wpList_append_lies _ (by rfl) _ _ _ (by rfl) w.heap.size 5 i (.int .u8 0) 1 1 Tryd.underlying23 i1 i2 i4 i3 rfl (by omega) _ (17 + n) (enc (head2 kind number n ++ l)) (by rfl) (o6.alloc _) ⟨v7.heap.size, 0, none⟩ 4 4 (enc (be4 (crcOf (head2 kind number n ++ l)))) (by rfl) (by simp [enc, be4]) (cells_news v7 (be4 (crcOf (head2 kind number n ++ l))) (0, 0)) (enc_one _) (by omega) (by omega) (by omega) (by have := B6.size; simp; omega) _ rfl ?_)
  intro g7 c7 w7 p7 gr7 at7 lt7
  have o7 : w7.ownsRow w.heap.size 5 1 (.slice (some ⟨g7, 0, none⟩) (17 + n + 4) c7) (17 + n + 4) (enc (head2 kind number n ++ l ++ be4 (crcOf (head2 kind number n ++ l)))) := by have := p7; rw [enc_append] at this; exact this
  have B7 := below_grown (below_new B6 (.cells (enc (be4 (crcOf (head2 kind number n ++ l)))).toArray 5)) gr7 (fun k e => (o6.lt k e).1)
  clear p7 gr7 at7 o6 B6
  go_wp2_with fail
  go_ret2
  refine ⟨g7, c7, rfl, ?_, B7⟩
  have e7 : frameOf kind number l = (head2 kind number n ++ l) ++ be4 (crcOf (head2 kind number n ++ l)) := by rw [frameOf, hN]
  rw [e7]; exact o7
end Go.Proofs.YtepgcgphnjlcoaaDoor
