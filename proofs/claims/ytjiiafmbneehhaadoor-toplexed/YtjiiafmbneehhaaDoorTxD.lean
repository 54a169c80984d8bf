
import Derived.Test.YtjiiafmbneehhaaDoorTxC
namespace Go.Proofs.YtjiiafmbneehhaaDoor.Lx
open Go.RowKit Go.Shelf
set_option linter.unusedVariables false
set_option linter.unusedSimpArgs false
set_option maxRecDepth 100000
theorem escL_append (m : UInt8) (a b : List UInt8) : escL m (a ++ b) = escL m a ++ escL m b := by
  induction a with
  | nil => rfl
  | cons c r ih => show (if c = m ∨ c = 92 then [92, c] else [c]) ++ escL m (r ++ b) = ((if c = m ∨ c = 92 then [92, c] else [c]) ++ escL m r) ++ escL m b; rw [ih, List.append_assoc]
theorem take_at (s : ByteArray) (k : Nat) (hk : k < s.size) : (bL s).take (k + 1) = (bL s).take k ++ [s[k]] := by
  have h : (bL s)[k]? = some s[k] := by
    rw [List.getElem?_eq_getElem (by rw [bL_len]; exact hk)]; rfl
  rw [List.take_add_one, h]; rfl
theorem escL_take (m : UInt8) (s : ByteArray) (k : Nat) (hk : k < s.size) : escL m ((bL s).take (k + 1)) = escL m ((bL s).take k) ++ (if s[k] = m ∨ s[k] = 92 then [92, s[k]] else [s[k]]) := by
  rw [take_at s k hk, escL_append]
  congr 1
  show (if s[k] = m ∨ s[k] = 92 then [92, s[k]] else [s[k]]) ++ [] = _
  rw [List.append_nil]
theorem escL_len (m : UInt8) (a : List UInt8) : (escL m a).length ≤ 2 * a.length := by
  induction a with
  | nil => simp [escL]
  | cons c r ih =>
    show ((if c = m ∨ c = 92 then [92, c] else [c]) ++ escL m r).length ≤ _
    rw [List.length_append]
    split <;> simp <;> omega
/-- a text that is written, its box at b. -/
def BS (b : Nat) (W1 : World) (bs : List UInt8) (W : World) : Prop := Lib.IsBuilderF 41 5 b b (Lib.byteCells bs) W ∧ Below b W1 W ∧ b ≤ W1.heap.size
theorem BS.new (w : World) : BS w.heap.size w [] (w.alloc (.cells #[.pointer none, .slice none 0 0] 41)) :=
  ⟨.inl ⟨Nat.le_refl _, .slice none 0 0, heap_alloc_new w _, ⟨rfl, .inl ⟨rfl, rfl⟩⟩, by simp [Value.ownBlock]⟩, (Below.refl _ w).alloc (Nat.le_refl _) _, Nat.le_refl _⟩
theorem BS.write {b : Nat} {W1 W : World} {bs : List UInt8} (h : BS b W1 bs W) (c : UInt8) (ht : bs.length + 1 ≤ 140737488355328) :
    Calls Tryd.prog 12 #[.pointer (some ⟨b, 0, none⟩), .int .u8 (c.toNat : Int)] W fun e w' => e = .returned .nilIface ∧ BS b W1 (bs ++ [c]) w' := by
  obtain ⟨h1, h2, h3⟩ := h
  refine (Tryd.Builder_WriteByte_k b b (Lib.byteCells bs) (c.toNat : Int) W h1 (by rw [Lib.byteCells_length]; exact ht) (by have := h2.size; omega)).mono ?_
  rintro e w' ⟨rfl, k1, k2, k3⟩
  refine ⟨rfl, ?_, h2.trans k2, h3⟩
  rw [Lib.byteCells_append]
  exact .inr k1
theorem BS.text {b : Nat} {W1 W : World} {bs : List UInt8} (h : BS b W1 bs W) :
    Calls Tryd.prog 13 #[.pointer (some ⟨b, 0, none⟩)] W fun e w' => e = .returned (.string ⟨bs.toArray⟩) ∧ BS b W1 bs w' := by
  obtain ⟨h1, h2, h3⟩ := h
  refine (Tryd.Builder_String_any_k b b bs W h1 (by have := h2.size; omega)).mono ?_
  rintro e w' ⟨rfl, k1, k2, k3⟩
  exact ⟨rfl, k1, h2.trans k2, h3⟩
theorem tn_eq {a b : UInt8} (h : a = b) : ((a.toNat : Int) == (b.toNat : Int)) = true ∧ decide ((a.toNat : Int) = (b.toNat : Int)) = true := by subst h; simp
theorem tn_ne {a b : UInt8} (h : ¬ a = b) : ((a.toNat : Int) == (b.toNat : Int)) = false ∧ decide ((a.toNat : Int) = (b.toNat : Int)) = false := by
  have : ¬ (a.toNat : Int) = (b.toNat : Int) := fun q => h (UInt8.toNat_inj.1 (by omega))
  exact ⟨beq_eq_false_iff_ne.2 this, decide_eq_false this⟩
set_option maxHeartbeats 4000000 in
theorem enclose_any (s : ByteArray) (hs : s.size ≤ 1048576) (m : UInt8) (w : World) : Calls Tryd.prog 9 #[.string s, .int .u8 (m.toNat : Int)] w fun e w' => e = .returned (.string ⟨(m :: (escL m (bL s) ++ [m])).toArray⟩) ∧ Below w.heap.size w w' := by
  have B0 : Hid (BS w.heap.size w [] (w.alloc (.cells #[.pointer none, .slice none 0 0] 41))) := BS.new w
  generalize hb : w.heap.size = b at B0
  have hbH : Hid (w.heap.size = b) := hb
  have fin : Hid (∀ W bs, BS b w bs W → Below w.heap.size w W) := fun W bs h => by rw [hb]; exact h.2.1
  rw [hb] at fin
  go_enter Tryd.func9, Tryd.ntmps9
  go_wp2_with fail
  clear hb
  generalize World.alloc w _ = W1 at B0 ⊢
  with_reducible refine Calls.mono (B0.out.write m (by simp)) ?_
  rintro e w2 ⟨rfl, b2⟩
  have B2 : Hid (BS b w [m] w2) := b2
  clear b2 B0
  go_wp2_with fail
  go_loopw [11] (fun v11 wr => ∃ k : Nat, v11 = .int .i64 (k : Int) ∧ k ≤ s.size ∧ Hid (BS b w (m :: escL m ((bL s).take k)) wr)) (fun v11 _ => s.size - (intOf v11).toNat)
  case atStart => exact ⟨0, rfl, Nat.zero_le _, B2⟩
  case round =>
    clear B2
    obtain ⟨k, rfl, hk, hB⟩ := hrel
    have k0 : (0 : Int) ≤ (k : Int) := by omega
    by_cases hlt : k < s.size
    · have kI : (k : Int) < (s.size : Int) := by omega
      have kw : IntKind.i64.wrap ((k : Int) + 1) = ((k + 1 : Nat) : Int) := IntWalk.i64_in _ (by omega)
      have et := escL_take m s k hlt
      have ln : (escL m ((bL s).take k)).length ≤ 2 * k := by
        have := escL_len m ((bL s).take k)
        rw [List.length_take] at this
        omega
      by_cases h1 : s[k] = m
      · obtain ⟨q1, q2⟩ := tn_eq h1
        have NX : Hid (∀ W, BS b w (m :: escL m ((bL s).take k) ++ [92] ++ [s[k]]) W → BS b w (m :: escL m ((bL s).take (k + 1))) W) := fun W h => by
          rw [et, if_pos (Or.inl h1)]; simpa using h
        have c1 : Hid (Calls Tryd.prog 12 #[.pointer (some ⟨b, 0, none⟩), .int .u8 92] wr fun e w' => e = .returned .nilIface ∧ BS b w (m :: escL m ((bL s).take k) ++ [92]) w') := hB.out.write 92 (by simp; omega)
        have c2 : Hid (∀ W, BS b w (m :: escL m ((bL s).take k) ++ [92]) W → Calls Tryd.prog 12 #[.pointer (some ⟨b, 0, none⟩), .int .u8 (s[k].toNat : Int)] W fun e w' => e = .returned .nilIface ∧ BS b w (m :: escL m ((bL s).take k) ++ [92] ++ [s[k]]) w') := fun W h => h.write s[k] (by simp; omega)
        clear et ln h1 hB
        go_wp2_with fail
        with_reducible refine Calls.mono c1.out ?_
        rintro e w3 ⟨rfl, b3⟩
        have B3 : Hid (BS b w (m :: escL m ((bL s).take k) ++ [92]) w3) := b3
        clear b3 c1
        go_wp2_with fail
        with_reducible refine Calls.mono (c2.out _ B3.out) ?_
        rintro e w4 ⟨rfl, b4⟩
        have B4 : Hid (BS b w (m :: escL m ((bL s).take (k + 1))) w4) := NX.out _ b4
        clear b4 c2 B3 NX
        go_wp2_with fail
        exact ⟨⟨k + 1, by first | rfl | (rw [kw]), hlt, B4⟩, by first | (simp [intOf]; done) | (simp [intOf]; omega)⟩
      · obtain ⟨q1, q2⟩ := tn_ne h1
        by_cases h2 : s[k] = 92
        · have q3 : ((s[k].toNat : Int) == 92) = true := (tn_eq h2).1
          have q4 : decide ((s[k].toNat : Int) = 92) = true := (tn_eq h2).2
          have NX : Hid (∀ W, BS b w (m :: escL m ((bL s).take k) ++ [92] ++ [s[k]]) W → BS b w (m :: escL m ((bL s).take (k + 1))) W) := fun W h => by
            rw [et, if_pos (Or.inr h2)]; simpa using h
          have c1 : Hid (Calls Tryd.prog 12 #[.pointer (some ⟨b, 0, none⟩), .int .u8 92] wr fun e w' => e = .returned .nilIface ∧ BS b w (m :: escL m ((bL s).take k) ++ [92]) w') := hB.out.write 92 (by simp; omega)
          have c2 : Hid (∀ W, BS b w (m :: escL m ((bL s).take k) ++ [92]) W → Calls Tryd.prog 12 #[.pointer (some ⟨b, 0, none⟩), .int .u8 (s[k].toNat : Int)] W fun e w' => e = .returned .nilIface ∧ BS b w (m :: escL m ((bL s).take k) ++ [92] ++ [s[k]]) w') := fun W h => h.write s[k] (by simp; omega)
          clear et ln h1 h2 hB
          go_wp2_with fail
          with_reducible refine Calls.mono c1.out ?_
          rintro e w3 ⟨rfl, b3⟩
          have B3 : Hid (BS b w (m :: escL m ((bL s).take k) ++ [92]) w3) := b3
          clear b3 c1
          go_wp2_with fail
          with_reducible refine Calls.mono (c2.out _ B3.out) ?_
          rintro e w4 ⟨rfl, b4⟩
          have B4 : Hid (BS b w (m :: escL m ((bL s).take (k + 1))) w4) := NX.out _ b4
          clear b4 c2 B3 NX
          go_wp2_with fail
          exact ⟨⟨k + 1, by first | rfl | (rw [kw]), hlt, B4⟩, by first | (simp [intOf]; done) | (simp [intOf]; omega)⟩
        · have q3 : ((s[k].toNat : Int) == 92) = false := (tn_ne h2).1
          have q4 : decide ((s[k].toNat : Int) = 92) = false := (tn_ne h2).2
          have NX : Hid (∀ W, BS b w (m :: escL m ((bL s).take k) ++ [s[k]]) W → BS b w (m :: escL m ((bL s).take (k + 1))) W) := fun W h => by
            rw [et, if_neg (by rintro (q | q); exact h1 q; exact h2 q)]; simpa using h
          have c2 : Hid (Calls Tryd.prog 12 #[.pointer (some ⟨b, 0, none⟩), .int .u8 (s[k].toNat : Int)] wr fun e w' => e = .returned .nilIface ∧ BS b w (m :: escL m ((bL s).take k) ++ [s[k]]) w') := hB.out.write s[k] (by simp; omega)
          clear et ln h1 h2 hB
          go_wp2_with fail
          with_reducible refine Calls.mono c2.out ?_
          rintro e w4 ⟨rfl, b4⟩
          have B4 : Hid (BS b w (m :: escL m ((bL s).take (k + 1))) w4) := NX.out _ b4
          clear b4 c2 NX
          go_wp2_with fail
          exact ⟨⟨k + 1, by first | rfl | (rw [kw]), hlt, B4⟩, by first | (simp [intOf]; done) | (simp [intOf]; omega)⟩
    · have kI : ¬ (k : Int) < (s.size : Int) := by omega
      have ee : (bL s).take k = bL s := List.take_of_length_le (by rw [bL_len]; omega)
      have ln := escL_len m (bL s)
      rw [bL_len] at ln
      rw [ee] at hB
      have c1 : Hid (Calls Tryd.prog 12 #[.pointer (some ⟨b, 0, none⟩), .int .u8 (m.toNat : Int)] wr fun e w' => e = .returned .nilIface ∧ BS b w (m :: escL m (bL s) ++ [m]) w') := hB.out.write m (by simp; omega)
      clear ee ln hB
      go_wp2_with fail
      with_reducible refine Calls.mono c1.out ?_
      rintro e w3 ⟨rfl, b3⟩
      have B3 : Hid (BS b w (m :: (escL m (bL s) ++ [m])) w3) := b3
      clear b3 c1
      go_wp2_with fail
      with_reducible refine Calls.mono B3.out.text ?_
      rintro e w4 ⟨rfl, b4⟩
      have B4 : Hid (Below b w w4) := fin.out _ _ b4
      clear b4 B3 fin
      go_wp2_with fail
      go_ret
      exact ⟨rfl, B4.out⟩
end Go.Proofs.YtjiiafmbneehhaaDoor.Lx
