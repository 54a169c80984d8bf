
import Derived.Test.YtbojljmacheccaaGreatDoorProg
import Derived.Lib.AtoiAllCases
import Derived.Lib.ItoaNum
import Derived.Lib.ParseIntBTie
import Derived.Lib.Strings
import Derived.Lib.SlTrimSet
import Derived.Lib.Bytealg
namespace Go.Proofs.YtbojljmacheccaaGreatDoor.Ln
set_option linter.unusedVariables false
set_option linter.unusedSimpArgs false
/-! ### plain: a point's line, read and written. un: a name or text unescaped; nv: a row's number, if it is one in decimal; esc, dig: how they are written. -/
abbrev By := List UInt8
abbrev UnF := By → Except Int (By × Nat)
abbrev NvF := By → Option Int
structure Pt where
  m : By
  tags : List (By × By)
  fs : List (By × Int)
  t : Int
def pieceL (un : UnF) (l : By) (k : Nat) : Except Int (By × Nat) := match un (l.drop k) with
  | .error p => .error ((k : Int) + p)
  | .ok x => if x.1 = [] then .error (k : Int) else .ok (x.1, k + x.2)
def mustL (c : UInt8) (l : By) (k : Nat) : Except Int Nat := if (l.drop k).head? = some c then .ok (k + 1) else .error (k : Int)
def isDg (c : UInt8) : Bool := decide (48 ≤ c.toNat) && decide (c.toNat ≤ 57)
def digR : By → Nat
  | [] => 0
  | c :: r => if isDg c = true then digR r + 1 else 0
def rowN : By → Nat
  | [] => 0
  | c :: r => if c = 45 then digR r + 1 else digR (c :: r)
def numL (nv : NvF) (l : By) (k : Nat) : Except Int (Int × Nat) := match nv ((l.drop k).take (rowN (l.drop k))) with
  | some v => .ok (v, k + rowN (l.drop k))
  | none => .error (k : Int)
def tagL (un : UnF) (l : By) (k : Nat) : Except Int ((By × By) × Nat) := match pieceL un l k with
  | .error e => .error e
  | .ok (a, k1) => match mustL 61 l k1 with
    | .error e => .error e
    | .ok k2 => match pieceL un l k2 with
      | .error e => .error e
      | .ok (b, k3) => .ok ((a, b), k3)
def fieldL (un : UnF) (nv : NvF) (l : By) (k : Nat) : Except Int ((By × Int) × Nat) := match pieceL un l k with
  | .error e => .error e
  | .ok (a, k1) => match mustL 61 l k1 with
    | .error e => .error e
    | .ok k2 => match numL nv l k2 with
      | .error e => .error e
      | .ok (n, k3) => match mustL 105 l k3 with
        | .error e => .error e
        | .ok k4 => .ok ((a, n), k4)
def tagsL (un : UnF) (l : By) : Nat → Nat → List (By × By) → Except Int (List (By × By) × Nat)
  | 0, k, acc => .ok (acc, k)
  | f + 1, k, acc => if (l.drop k).head? = some 44 then (match tagL un l (k + 1) with
      | .error e => .error e
      | .ok (t, k1) => tagsL un l f k1 (acc ++ [t])) else .ok (acc, k)
def fieldsL (un : UnF) (nv : NvF) (l : By) : Nat → Nat → List (By × Int) → Except Int (List (By × Int) × Nat)
  | 0, k, acc => .ok (acc, k)
  | f + 1, k, acc => if (l.drop k).head? = some 44 then (match fieldL un nv l (k + 1) with
      | .error e => .error e
      | .ok (t, k1) => fieldsL un nv l f k1 (acc ++ [t])) else .ok (acc, k)
def feedAt : By → Option Nat
  | [] => none
  | c :: r => if c = 10 then some 0 else (feedAt r).map (· + 1)
def oneL (un : UnF) (nv : NvF) (l : By) : Except Int Pt := match feedAt l with
  | some i => .error (i : Int)
  | none => if l.head? = some 35 then .error 0 else match pieceL un l 0 with
    | .error e => .error e
    | .ok (m, k1) => match tagsL un l l.length k1 [] with
      | .error e => .error e
      | .ok (ts, k2) => match mustL 32 l k2 with
        | .error e => .error e
        | .ok k3 => match fieldL un nv l k3 with
          | .error e => .error e
          | .ok (f, k4) => match fieldsL un nv l l.length k4 [f] with
            | .error e => .error e
            | .ok (fs, k5) => match mustL 32 l k5 with
              | .error e => .error e
              | .ok k6 => match numL nv l k6 with
                | .error e => .error e
                | .ok (t, k7) => if k7 < l.length then .error (k7 : Int) else .ok ⟨m, ts, fs, t⟩
/-! ### written -/
def tagW (esc : By → By) (t : By × By) : By := 44 :: (esc t.1 ++ 61 :: esc t.2)
def tagsW (esc : By → By) : List (By × By) → By
  | [] => []
  | t :: r => tagW esc t ++ tagsW esc r
def fieldW (esc : By → By) (dig : Int → By) (f : By × Int) : By := esc f.1 ++ 61 :: (dig f.2 ++ [105])
def moreW (esc : By → By) (dig : Int → By) : List (By × Int) → By
  | [] => []
  | f :: r => 44 :: (fieldW esc dig f) ++ moreW esc dig r
def fieldsW (esc : By → By) (dig : Int → By) : List (By × Int) → By
  | [] => []
  | f :: r => 32 :: (fieldW esc dig f) ++ moreW esc dig r
def lineW (esc : By → By) (dig : Int → By) (p : Pt) : By := esc p.m ++ (tagsW esc p.tags ++ (fieldsW esc dig p.fs ++ 32 :: dig p.t))
/-- what reading wants of escaping and of numbers. -/
structure Ok (un : UnF) (nv : NvF) (esc : By → By) (dig : Int → By) (inI : Int → Prop) : Prop where
  sign : ∀ t b r, b = 44 ∨ b = 61 ∨ b = 32 → un (esc t ++ b :: r) = .ok (t, (esc t).length)
  row : ∀ v r, inI v → (∀ c, r.head? = some c → isDg c = false) → rowN (dig v ++ r) = (dig v).length
  num : ∀ v, inI v → nv (dig v) = some v
theorem drop_mid (a b : By) : (a ++ b).drop a.length = b := List.drop_left
theorem piece_w {un nv esc dig inI} (h : Ok un nv esc dig inI) (a t r : By) (b : UInt8) (hb : b = 44 ∨ b = 61 ∨ b = 32) (ht : t ≠ []) : pieceL un (a ++ (esc t ++ b :: r)) a.length = .ok (t, (a ++ esc t).length) := by
  unfold pieceL
  rw [drop_mid, h.sign t b r hb]
  show (if t = [] then _ else _) = _
  rw [if_neg ht, List.length_append]
theorem must_w (c : UInt8) (a r : By) : mustL c (a ++ c :: r) a.length = .ok (a.length + 1) := by
  unfold mustL
  rw [drop_mid]
  simp
theorem num_w {un nv esc dig inI} (h : Ok un nv esc dig inI) (a r : By) (v : Int) (hv : inI v) (hr : ∀ c, r.head? = some c → isDg c = false) : numL nv (a ++ (dig v ++ r)) a.length = .ok (v, (a ++ dig v).length) := by
  unfold numL
  rw [drop_mid, h.row v r hv hr, List.take_left, h.num v hv, List.length_append]
theorem tag_w {un nv esc dig inI} (h : Ok un nv esc dig inI) (a r : By) (b : UInt8) (hb : b = 44 ∨ b = 61 ∨ b = 32) (t : By × By) (h1 : t.1 ≠ []) (h2 : t.2 ≠ []) : tagL un (a ++ (tagW esc t ++ b :: r)) (a.length + 1) = .ok (t, (a ++ tagW esc t).length) := by
  have e1 : a ++ (tagW esc t ++ b :: r) = (a ++ [44]) ++ (esc t.1 ++ 61 :: (esc t.2 ++ b :: r)) := by unfold tagW; simp
  have e2 : a ++ (tagW esc t ++ b :: r) = (a ++ [44] ++ esc t.1) ++ 61 :: (esc t.2 ++ b :: r) := by unfold tagW; simp
  have e3 : a ++ (tagW esc t ++ b :: r) = (a ++ [44] ++ esc t.1 ++ [61]) ++ (esc t.2 ++ b :: r) := by unfold tagW; simp
  have p1 := piece_w h (a ++ [44]) t.1 (esc t.2 ++ b :: r) 61 (Or.inr (Or.inl rfl)) h1
  have p2 := must_w 61 (a ++ [44] ++ esc t.1) (esc t.2 ++ b :: r)
  have p3 := piece_w h (a ++ [44] ++ esc t.1 ++ [61]) t.2 r b hb h2
  rw [← e1] at p1
  rw [← e2] at p2
  rw [← e3] at p3
  have l1 : (a ++ [44]).length = a.length + 1 := by simp
  rw [l1] at p1
  have l3 : (a ++ [44] ++ esc t.1).length + 1 = (a ++ [44] ++ esc t.1 ++ [61]).length := by simp only [List.length_append, List.length_cons, List.length_nil]
  rw [l3] at p2
  unfold tagL
  rw [p1]
  dsimp only
  rw [p2]
  dsimp only
  rw [p3]
  dsimp only
  congr 2
  unfold tagW; simp
theorem field_w {un nv esc dig inI} (h : Ok un nv esc dig inI) (a r : By) (c0 : UInt8) (f : By × Int) (h1 : f.1 ≠ []) (h2 : inI f.2) : fieldL un nv (a ++ (c0 :: fieldW esc dig f ++ r)) (a.length + 1) = .ok (f, (a ++ (c0 :: fieldW esc dig f)).length) := by
  have e1 : a ++ (c0 :: fieldW esc dig f ++ r) = (a ++ [c0]) ++ (esc f.1 ++ 61 :: (dig f.2 ++ 105 :: r)) := by unfold fieldW; simp
  have e2 : a ++ (c0 :: fieldW esc dig f ++ r) = (a ++ [c0] ++ esc f.1) ++ 61 :: (dig f.2 ++ 105 :: r) := by unfold fieldW; simp
  have e3 : a ++ (c0 :: fieldW esc dig f ++ r) = (a ++ [c0] ++ esc f.1 ++ [61]) ++ (dig f.2 ++ 105 :: r) := by unfold fieldW; simp
  have e4 : a ++ (c0 :: fieldW esc dig f ++ r) = (a ++ [c0] ++ esc f.1 ++ [61] ++ dig f.2) ++ 105 :: r := by unfold fieldW; simp
  have p1 := piece_w h (a ++ [c0]) f.1 (dig f.2 ++ 105 :: r) 61 (Or.inr (Or.inl rfl)) h1
  have p2 := must_w 61 (a ++ [c0] ++ esc f.1) (dig f.2 ++ 105 :: r)
  have p3 := num_w h (a ++ [c0] ++ esc f.1 ++ [61]) (105 :: r) f.2 h2 (fun c hc => by injection hc with hc; subst hc; decide)
  have p4 := must_w 105 (a ++ [c0] ++ esc f.1 ++ [61] ++ dig f.2) r
  rw [← e1] at p1
  rw [← e2] at p2
  rw [← e3] at p3
  rw [← e4] at p4
  have l1 : (a ++ [c0]).length = a.length + 1 := by simp
  rw [l1] at p1
  have l3 : (a ++ [c0] ++ esc f.1).length + 1 = (a ++ [c0] ++ esc f.1 ++ [61]).length := by simp only [List.length_append, List.length_cons, List.length_nil]
  rw [l3] at p2
  unfold fieldL
  rw [p1]
  dsimp only
  rw [p2]
  dsimp only
  rw [p3]
  dsimp only
  rw [p4]
  dsimp only
  congr 2
  unfold fieldW; simp; omega
theorem tags_w {un nv esc dig inI} (h : Ok un nv esc dig inI) (r : By) : ∀ (ts : List (By × By)) (a : By) (f : Nat) (acc : List (By × By)), ts.length < f → (∀ t ∈ ts, t.1 ≠ [] ∧ t.2 ≠ []) → tagsL un (a ++ (tagsW esc ts ++ 32 :: r)) f a.length acc = .ok (acc ++ ts, (a ++ tagsW esc ts).length)
  | _, _, 0, _, hf, _ => by omega
  | [], a, f + 1, acc, _, _ => by
    unfold tagsL
    show (if ((a ++ 32 :: r).drop a.length).head? = some 44 then _ else _) = _
    rw [drop_mid, if_neg (by simp)]
    simp [tagsW]
  | t :: ts, a, f + 1, acc, hf, hp => by
    obtain ⟨h1, h2⟩ := hp t (List.mem_cons_self ..)
    have ih := tags_w h r ts (a ++ tagW esc t) f (acc ++ [t]) (by simp at hf; omega) (fun x hx => hp x (List.mem_cons_of_mem _ hx))
    have e0 : a ++ (tagsW esc (t :: ts) ++ 32 :: r) = (a ++ tagW esc t) ++ (tagsW esc ts ++ 32 :: r) := by show a ++ ((tagW esc t ++ tagsW esc ts) ++ 32 :: r) = _; simp
    obtain ⟨b, q, hq, hb⟩ : ∃ b q, tagsW esc ts ++ 32 :: r = b :: q ∧ (b = 44 ∨ b = 61 ∨ b = 32) := by
      cases ts with
      | nil => exact ⟨32, r, rfl, Or.inr (Or.inr rfl)⟩
      | cons x xs => exact ⟨44, _, rfl, Or.inl rfl⟩
    have tw := tag_w h a q b hb t h1 h2
    rw [e0]
    unfold tagsL
    have hd : ((a ++ tagW esc t ++ (tagsW esc ts ++ 32 :: r)).drop a.length).head? = some 44 := by rw [List.append_assoc, drop_mid]; rfl
    rw [if_pos hd]
    rw [← hq] at tw
    rw [← List.append_assoc] at tw
    rw [tw]
    show tagsL un _ f (a ++ tagW esc t).length (acc ++ [t]) = _
    rw [ih]
    congr 2
    · simp
    · show _ = (a ++ (tagW esc t ++ tagsW esc ts)).length; simp
theorem more_w {un nv esc dig inI} (h : Ok un nv esc dig inI) (r : By) : ∀ (fs : List (By × Int)) (a : By) (f : Nat) (acc : List (By × Int)), fs.length < f → (∀ x ∈ fs, x.1 ≠ [] ∧ inI x.2) → fieldsL un nv (a ++ (moreW esc dig fs ++ 32 :: r)) f a.length acc = .ok (acc ++ fs, (a ++ moreW esc dig fs).length)
  | _, _, 0, _, hf, _ => by omega
  | [], a, f + 1, acc, _, _ => by
    unfold fieldsL
    show (if ((a ++ 32 :: r).drop a.length).head? = some 44 then _ else _) = _
    rw [drop_mid, if_neg (by simp)]
    simp [moreW]
  | x :: fs, a, f + 1, acc, hf, hp => by
    obtain ⟨h1, h2⟩ := hp x (List.mem_cons_self ..)
    have ih := more_w h r fs (a ++ (44 :: fieldW esc dig x)) f (acc ++ [x]) (by simp at hf; omega) (fun y hy => hp y (List.mem_cons_of_mem _ hy))
    have e0 : a ++ (moreW esc dig (x :: fs) ++ 32 :: r) = (a ++ (44 :: fieldW esc dig x)) ++ (moreW esc dig fs ++ 32 :: r) := by show a ++ ((44 :: fieldW esc dig x ++ moreW esc dig fs) ++ 32 :: r) = _; simp
    have fw := field_w h a (moreW esc dig fs ++ 32 :: r) 44 x h1 h2
    rw [e0]
    unfold fieldsL
    have hd : ((a ++ (44 :: fieldW esc dig x) ++ (moreW esc dig fs ++ 32 :: r)).drop a.length).head? = some 44 := by rw [List.append_assoc, drop_mid]; rfl
    rw [if_pos hd]
    have e1 : a ++ (44 :: fieldW esc dig x ++ (moreW esc dig fs ++ 32 :: r)) = a ++ (44 :: fieldW esc dig x) ++ (moreW esc dig fs ++ 32 :: r) := by simp
    rw [e1] at fw
    rw [fw]
    show fieldsL un nv _ f (a ++ (44 :: fieldW esc dig x)).length (acc ++ [x]) = _
    rw [ih]
    congr 2
    · simp
    · show _ = (a ++ ((44 :: fieldW esc dig x) ++ moreW esc dig fs)).length; simp
/-- a point that has a line. -/
def Pl (inI : Int → Prop) (p : Pt) : Prop := p.m ≠ [] ∧ (∀ t ∈ p.tags, t.1 ≠ [] ∧ t.2 ≠ []) ∧ p.fs ≠ [] ∧ (∀ x ∈ p.fs, x.1 ≠ [] ∧ inI x.2) ∧ inI p.t
theorem tags_len (esc : By → By) : ∀ ts : List (By × By), ts.length ≤ (tagsW esc ts).length
  | [] => Nat.le_refl _
  | t :: r => by
    have := tags_len esc r
    show r.length + 1 ≤ (tagW esc t ++ tagsW esc r).length
    unfold tagW
    simp; omega
theorem more_len (esc : By → By) (dig : Int → By) : ∀ fs : List (By × Int), fs.length ≤ (moreW esc dig fs).length
  | [] => Nat.le_refl _
  | t :: r => by
    have := more_len esc dig r
    show r.length + 1 ≤ (44 :: fieldW esc dig t ++ moreW esc dig r).length
    simp; omega
/-- what is printed of a point is read as this point. -/
theorem one_print {un nv esc dig inI} (h : Ok un nv esc dig inI) (p : Pt) (hp : Pl inI p) (h10 : feedAt (lineW esc dig p) = none) (h35 : ¬ (lineW esc dig p).head? = some 35) : oneL un nv (lineW esc dig p) = .ok p := by
  obtain ⟨m, ts, fs, t⟩ := p
  obtain ⟨g1, g2, g3, g4, g5⟩ := hp
  cases fs with
  | nil => exact absurd rfl g3
  | cons x xs =>
  dsimp only at g1 g2 g4 g5
  obtain ⟨x1, x2⟩ := g4 x (List.mem_cons_self ..)
  have g6 : ∀ y ∈ xs, y.1 ≠ [] ∧ inI y.2 := fun y hy => g4 y (List.mem_cons_of_mem _ hy)
  obtain ⟨L, hL⟩ : ∃ L, lineW esc dig ⟨m, ts, x :: xs, t⟩ = L := ⟨_, rfl⟩
  have eW : L = esc m ++ (tagsW esc ts ++ ((32 :: fieldW esc dig x ++ moreW esc dig xs) ++ 32 :: dig t)) := hL.symm
  obtain ⟨b, q, hq, hb⟩ : ∃ b q, tagsW esc ts ++ ((32 :: fieldW esc dig x ++ moreW esc dig xs) ++ 32 :: dig t) = b :: q ∧ (b = 44 ∨ b = 61 ∨ b = 32) := by
    cases ts with
    | nil => exact ⟨32, _, rfl, Or.inr (Or.inr rfl)⟩
    | cons y ys => exact ⟨44, _, rfl, Or.inl rfl⟩
  have p1 := piece_w h [] m q b hb g1
  rw [← hq] at p1
  have p2 := tags_w h (fieldW esc dig x ++ moreW esc dig xs ++ 32 :: dig t) ts (esc m) L.length [] (by
    have := tags_len esc ts
    rw [eW]; simp; omega) g2
  have p3 := must_w 32 (esc m ++ tagsW esc ts) (fieldW esc dig x ++ moreW esc dig xs ++ 32 :: dig t)
  have p4 := field_w h (esc m ++ tagsW esc ts) (moreW esc dig xs ++ 32 :: dig t) 32 x x1 x2
  have p5 := more_w h (dig t) xs (esc m ++ tagsW esc ts ++ (32 :: fieldW esc dig x)) L.length [x] (by
    have := more_len esc dig xs
    rw [eW]; simp; omega) g6
  have p6 := must_w 32 (esc m ++ tagsW esc ts ++ (32 :: fieldW esc dig x) ++ moreW esc dig xs) (dig t)
  have p7 := num_w h (esc m ++ tagsW esc ts ++ (32 :: fieldW esc dig x) ++ moreW esc dig xs ++ [32]) [] t g5 (fun c hc => by cases hc)
  have n1 : [] ++ (esc m ++ (tagsW esc ts ++ ((32 :: fieldW esc dig x ++ moreW esc dig xs) ++ 32 :: dig t))) = L := eW.symm
  have n2 : esc m ++ (tagsW esc ts ++ 32 :: (fieldW esc dig x ++ moreW esc dig xs ++ 32 :: dig t)) = L := by rw [eW]; simp
  have n3 : esc m ++ tagsW esc ts ++ 32 :: (fieldW esc dig x ++ moreW esc dig xs ++ 32 :: dig t) = L := by rw [eW]; simp
  have n4 : esc m ++ tagsW esc ts ++ (32 :: fieldW esc dig x ++ (moreW esc dig xs ++ 32 :: dig t)) = L := by rw [eW]; simp
  have n5 : esc m ++ tagsW esc ts ++ (32 :: fieldW esc dig x) ++ (moreW esc dig xs ++ 32 :: dig t) = L := by rw [eW]; simp
  have n6 : esc m ++ tagsW esc ts ++ (32 :: fieldW esc dig x) ++ moreW esc dig xs ++ 32 :: dig t = L := by rw [eW]; simp
  have n7 : esc m ++ tagsW esc ts ++ (32 :: fieldW esc dig x) ++ moreW esc dig xs ++ [32] ++ (dig t ++ []) = L := by rw [eW]; simp
  rw [n1] at p1
  rw [n2] at p2
  rw [n3] at p3
  rw [n4] at p4
  rw [n5] at p5
  rw [n6] at p6
  rw [n7] at p7
  have m6 : (esc m ++ tagsW esc ts ++ (32 :: fieldW esc dig x) ++ moreW esc dig xs).length + 1 = (esc m ++ tagsW esc ts ++ (32 :: fieldW esc dig x) ++ moreW esc dig xs ++ [32]).length := by simp only [List.length_append, List.length_cons, List.length_nil]
  rw [m6] at p6
  rw [hL] at h10 h35 ⊢
  unfold oneL
  rw [h10]
  dsimp only
  rw [if_neg h35]
  have p1' : pieceL un L 0 = .ok (m, (esc m).length) := p1
  rw [p1']
  dsimp only
  rw [p2]
  dsimp only
  rw [p3]
  dsimp only
  rw [p4]
  dsimp only
  rw [p5]
  dsimp only
  rw [p6]
  dsimp only
  rw [p7]
  dsimp only
  rw [if_neg (by rw [eW]; simp)]
  simp
end Go.Proofs.YtbojljmacheccaaGreatDoor.Ln

namespace Go.Proofs.YtbojljmacheccaaGreatDoor.Ln
set_option linter.unusedVariables false
set_option linter.unusedSimpArgs false
/-- read so far: w. -/
def St (l : By) (k : Nat) (w : By) : Prop := k ≤ l.length ∧ l.take k = w
/-- what is read is what would be written. -/
structure Bk (un : UnF) (nv : NvF) (esc : By → By) (dig : Int → By) : Prop where
  un : ∀ l t n, un l = .ok (t, n) → l.take n = esc t ∧ n ≤ l.length
  nv : ∀ x v, nv x = some v → x = dig v
theorem take_add' (l : By) (k n : Nat) : l.take (k + n) = l.take k ++ (l.drop k).take n := List.take_add
theorem St.more {l : By} {k n : Nat} {w x : By} (h : St l k w) (hx : (l.drop k).take n = x) (hn : n ≤ (l.drop k).length) : St l (k + n) (w ++ x) := by
  obtain ⟨h1, h2⟩ := h
  rw [List.length_drop] at hn
  exact ⟨by omega, by rw [take_add', h2, hx]⟩
theorem row_dig : ∀ l : By, digR l ≤ l.length
  | [] => Nat.le_refl _
  | c :: r => by
    have := row_dig r
    unfold digR
    split <;> simp <;> omega
theorem row_le (l : By) : rowN l ≤ l.length := by
  cases l with
  | nil => exact Nat.le_refl _
  | cons c r =>
    have := row_dig r
    have := row_dig (c :: r)
    show (if c = 45 then digR r + 1 else digR (c :: r)) ≤ _
    split
    · simp; omega
    · assumption
end Go.Proofs.YtbojljmacheccaaGreatDoor.Ln

namespace Go.Proofs.YtbojljmacheccaaGreatDoor.Ln
set_option linter.unusedVariables false
set_option linter.unusedSimpArgs false
end Go.Proofs.YtbojljmacheccaaGreatDoor.Ln

namespace Go.Proofs.YtbojljmacheccaaGreatDoor.Ln
set_option linter.unusedVariables false
set_option linter.unusedSimpArgs false
theorem feed_app : ∀ (a b : By), feedAt (a ++ b) = none ↔ feedAt a = none ∧ feedAt b = none
  | [], b => by simp [feedAt]
  | c :: r, b => by
    have ih := feed_app r b
    show (if c = 10 then some 0 else (feedAt (r ++ b)).map (· + 1)) = none ↔ (if c = 10 then some 0 else (feedAt r).map (· + 1)) = none ∧ _
    by_cases h : c = 10
    · rw [if_pos h, if_pos h]; simp
    · rw [if_neg h, if_neg h, Option.map_eq_none_iff, Option.map_eq_none_iff, ih]
theorem feed_cons (c : UInt8) (a : By) : feedAt (c :: a) = none ↔ c ≠ 10 ∧ feedAt a = none := by
  show (if c = 10 then some 0 else (feedAt a).map (· + 1)) = none ↔ _
  by_cases h : c = 10
  · rw [if_pos h]; simp [h]
  · rw [if_neg h, Option.map_eq_none_iff]; simp [h]
/-- what escaping does to feeds and to the first byte. -/
structure Ex (esc : By → By) (dig : Int → By) : Prop where
  feed : ∀ t, feedAt t = none → feedAt (esc t) = none
  dfeed : ∀ v, feedAt (dig v) = none
  head : ∀ t r, t ≠ [] → (esc t ++ r).head? = some 35 → t.head? = some 35
/-- may stand in a line. -/
def wordB (t : By) : Prop := t ≠ [] ∧ feedAt t = none
/-- a plain point. -/
def PlainP (p : Pt) : Prop := wordB p.m ∧ p.m.head? ≠ some 35 ∧ p.fs ≠ [] ∧ (∀ t ∈ p.tags, wordB t.1 ∧ wordB t.2) ∧ ∀ x ∈ p.fs, wordB x.1
theorem tags_feed {esc dig} (E : Ex esc dig) : ∀ ts : List (By × By), (∀ t ∈ ts, wordB t.1 ∧ wordB t.2) → feedAt (tagsW esc ts) = none
  | [], _ => rfl
  | t :: r, h => by
    obtain ⟨⟨_, a⟩, ⟨_, b⟩⟩ := h t (List.mem_cons_self ..)
    show feedAt (tagW esc t ++ tagsW esc r) = none
    unfold tagW
    rw [feed_app, feed_cons, feed_app, feed_cons]
    exact ⟨⟨by decide, E.feed _ a, by decide, E.feed _ b⟩, tags_feed E r (fun x hx => h x (List.mem_cons_of_mem _ hx))⟩
theorem field_feed {esc dig} (E : Ex esc dig) (f : By × Int) (h : wordB f.1) : feedAt (fieldW esc dig f) = none := by
  unfold fieldW
  rw [feed_app, feed_cons, feed_app]
  exact ⟨E.feed _ h.2, by decide, E.dfeed _, by decide⟩
theorem more_feed {esc dig} (E : Ex esc dig) : ∀ fs : List (By × Int), (∀ x ∈ fs, wordB x.1) → feedAt (moreW esc dig fs) = none
  | [], _ => rfl
  | t :: r, h => by
    show feedAt (44 :: fieldW esc dig t ++ moreW esc dig r) = none
    rw [feed_app, feed_cons]
    exact ⟨⟨by decide, field_feed E t (h t (List.mem_cons_self ..))⟩, more_feed E r (fun x hx => h x (List.mem_cons_of_mem _ hx))⟩
theorem line_feed {esc dig} (E : Ex esc dig) (p : Pt) (h : PlainP p) : feedAt (lineW esc dig p) = none ∧ ¬ (lineW esc dig p).head? = some 35 := by
  obtain ⟨m, ts, fs, t⟩ := p
  obtain ⟨⟨m1, m2⟩, h1, h2, h3, h4⟩ := h
  cases fs with
  | nil => exact absurd rfl h2
  | cons x xs =>
  constructor
  · unfold lineW
    show feedAt (esc m ++ (tagsW esc ts ++ ((32 :: fieldW esc dig x ++ moreW esc dig xs) ++ 32 :: dig t))) = none
    rw [feed_app, feed_app, feed_app, feed_app, feed_cons, feed_cons]
    exact ⟨E.feed _ m2, tags_feed E ts h3, ⟨⟨by decide, field_feed E x (h4 x (List.mem_cons_self ..))⟩, more_feed E xs (fun y hy => h4 y (List.mem_cons_of_mem _ hy))⟩, by decide, E.dfeed _⟩
  · intro q
    exact h1 (E.head m _ m1 q)
/-! ### many lines -/
def cutF : By → By × By
  | [] => ([], [])
  | c :: r => if c = 10 then ([], r) else (c :: (cutF r).1, (cutF r).2)
theorem cut_len : ∀ l : By, (cutF l).2.length ≤ l.length
  | [] => Nat.le_refl _
  | c :: r => by
    have := cut_len r
    unfold cutF
    split
    · simp
    · simp; omega
/-- One, with the bound: none is 'too long'. -/
def one8 (un : UnF) (nv : NvF) (l : By) : Except (Option Int) Pt := if 8192 < l.length then .error none else match oneL un nv l with
  | .error e => .error (some e)
  | .ok p => .ok p
end Go.Proofs.YtbojljmacheccaaGreatDoor.Ln

namespace Go.Proofs.YtbojljmacheccaaGreatDoor.Ln
set_option linter.unusedVariables false
set_option linter.unusedSimpArgs false
theorem pu_app (l r : List UInt8) : ∀ (a b : Nat), Lib.parseUint10 a l = .ok b → Lib.parseUint10 a (l ++ r) = Lib.parseUint10 b r := by
  induction l with
  | nil => intro a b h; simp [Lib.parseUint10] at h; subst h; rfl
  | cons c l ih =>
    intro a b h
    simp only [Lib.parseUint10, List.cons_append] at h ⊢
    by_cases h1 : 48 ≤ c.toNat ∧ c.toNat ≤ 57
    · rw [if_pos h1] at h ⊢
      by_cases h2 : 1844674407370955162 ≤ a
      · rw [if_pos h2] at h; cases h
      · rw [if_neg h2] at h ⊢
        by_cases h3 : 18446744073709551616 ≤ a * 10 + (c.toNat - 48)
        · rw [if_pos h3] at h; cases h
        · rw [if_neg h3] at h ⊢
          exact ih _ _ h
    · rw [if_neg h1] at h; cases h
theorem pu_one (a d : Nat) (hd : d < 10) (ha : a * 10 + d < 9223372036854775810) : Lib.parseUint10 a [UInt8.ofNat (48 + d)] = .ok (a * 10 + d) := by
  have e : (UInt8.ofNat (48 + d)).toNat = 48 + d := by rw [UInt8.toNat_ofNat']; omega
  simp only [Lib.parseUint10, e]
  rw [if_pos (by omega), if_neg (by omega), if_neg (by omega)]
  congr 1; omega
theorem pu_dec (u : Nat) (h : u < 9223372036854775810) : Lib.parseUint10 0 (Lib.decDigits u) = .ok u := by
  induction u using Nat.strongRecOn with
  | ind u ih =>
    rw [Lib.decDigits]
    split
    · rename_i h10
      have := pu_one 0 u h10 (by omega)
      rw [this]; congr 1; omega
    · rename_i h10
      rw [pu_app _ _ 0 (u / 10) (ih (u / 10) (by omega) (by omega)), pu_one (u / 10) (u % 10) (by omega) (by omega)]
      congr 1; omega
theorem dec_ne (u : Nat) : Lib.decDigits u ≠ [] := by
  rw [Lib.decDigits]; split <;> simp
theorem dec_head (u : Nat) : ∀ c ∈ Lib.decDigits u, 48 ≤ c.toNat ∧ c.toNat ≤ 57 := by
  induction u using Nat.strongRecOn with
  | ind u ih =>
    rw [Lib.decDigits]
    split
    · intro c hc; rw [List.mem_singleton] at hc; subst hc; rw [UInt8.toNat_ofNat']; omega
    · intro c hc
      rcases List.mem_append.1 hc with hc | hc
      · exact ih (u / 10) (by omega) c hc
      · rw [List.mem_singleton] at hc; subst hc; rw [UInt8.toNat_ofNat']; omega
/-- what Itoa writes Atoi reads. -/
theorem atoi_itoa (n : Int) (h1 : -9223372036854775808 ≤ n) (h2 : n ≤ 9223372036854775807) : Lib.atoiAll (Lib.itoa n) = .ok n := by
  unfold Lib.itoa
  by_cases hn : n < 0
  · rw [if_pos hn]
    have : Lib.parseMag (Lib.decDigits n.natAbs) = .ok n.natAbs := by
      unfold Lib.parseMag; rw [if_neg (dec_ne _)]; exact pu_dec _ (by omega)
    rw [Lib.atoiAll_minus, this]
    unfold Lib.signed
    first | (simp only; rw [if_neg (by omega)]; congr 1; omega) | (simp only; split <;> first | omega | (congr 1; omega))
  · rw [if_neg hn]
    obtain ⟨c, r, hcr⟩ : ∃ c r, Lib.decDigits n.toNat = c :: r := by
      cases h : Lib.decDigits n.toNat with
      | nil => exact absurd h (dec_ne _)
      | cons c r => exact ⟨c, r, rfl⟩
    have hc := dec_head n.toNat c (by rw [hcr]; simp)
    have : Lib.parseMag (Lib.decDigits n.toNat) = .ok n.toNat := by
      unfold Lib.parseMag; rw [if_neg (dec_ne _)]; exact pu_dec _ (by omega)
    rw [hcr] at this ⊢
    rw [Lib.atoiAll_plain c r (by omega) (by omega), this]
    unfold Lib.signless
    first | (simp only; rw [if_neg (by omega)]; congr 1; omega) | (simp only; split <;> first | omega | (congr 1; omega))
/-- a row's number, if it is in decimal: it prints as it was read. -/
def nvL : NvF := fun x => match Lib.parseIntB 64 x with
  | .ok v => if Lib.itoa v = x then some v else none
  | _ => none
def I64L (v : Int) : Prop := -9223372036854775808 ≤ v ∧ v ≤ 9223372036854775807
theorem nv_out {x : By} {v : Int} (h : nvL x = some v) : x = Lib.itoa v ∧ I64L v ∧ Lib.parseIntB 64 x = .ok v := by
  unfold nvL at h
  cases hp : Lib.parseIntB 64 x with
  | ok u =>
    rw [hp] at h
    dsimp only at h
    split at h
    · rename_i e
      injection h with h; subst h
      have b := Lib.parseIntB_bounds hp
      refine ⟨e.symm, ?_, rfl⟩
      unfold I64L
      have e2 : ((2 ^ (64 - 1) : Nat) : Int) = 9223372036854775808 := by decide
      rw [e2] at b
      omega
    · cases h
  | «syntax» => rw [hp] at h; cases h
  | range => rw [hp] at h; cases h
theorem nv_itoa (v : Int) (h : I64L v) : nvL (Lib.itoa v) = some v := by
  unfold nvL
  rw [Lib.parseIntB_64, atoi_itoa v h.1 h.2]
  dsimp only
  rw [if_pos rfl]
theorem dig_all : ∀ (l r : By), (∀ c ∈ l, 48 ≤ c.toNat ∧ c.toNat ≤ 57) → (∀ c, r.head? = some c → isDg c = false) → digR (l ++ r) = l.length
  | [], [], _, _ => rfl
  | [], c :: r, _, h => by
    show digR (c :: r) = 0
    unfold digR
    rw [if_neg (by rw [h c rfl]; simp)]
  | c :: l, r, h, hr => by
    show digR (c :: (l ++ r)) = l.length + 1
    unfold digR
    obtain ⟨a, b⟩ := h c (List.mem_cons_self ..)
    rw [if_pos (by unfold isDg; rw [decide_eq_true a, decide_eq_true b]; rfl), dig_all l r (fun x hx => h x (List.mem_cons_of_mem _ hx)) hr]
theorem row_itoa (v : Int) (r : By) (hr : ∀ c, r.head? = some c → isDg c = false) : rowN (Lib.itoa v ++ r) = (Lib.itoa v).length := by
  unfold Lib.itoa
  by_cases hn : v < 0
  · rw [if_pos hn]
    show (if (45 : UInt8) = 45 then digR (Lib.decDigits v.natAbs ++ r) + 1 else digR (45 :: (Lib.decDigits v.natAbs ++ r))) = _
    rw [if_pos rfl, dig_all _ r (dec_head _) hr]; rfl
  · rw [if_neg hn]
    obtain ⟨c, q, hcr⟩ : ∃ c q, Lib.decDigits v.toNat = c :: q := by
      cases h : Lib.decDigits v.toNat with
      | nil => exact absurd h (dec_ne _)
      | cons c q => exact ⟨c, q, rfl⟩
    have hc := dec_head v.toNat c (by rw [hcr]; simp)
    have al := dig_all _ r (dec_head v.toNat) hr
    rw [hcr] at al ⊢
    show (if c = 45 then digR (q ++ r) + 1 else digR (c :: (q ++ r))) = _
    rw [if_neg (by intro e; subst e; exact absurd hc.1 (by decide))]
    exact al
theorem feed_all : ∀ l : By, (∀ c ∈ l, c ≠ 10) → feedAt l = none
  | [], _ => rfl
  | c :: r, h => by rw [feed_cons]; exact ⟨h c (List.mem_cons_self ..), feed_all r (fun x hx => h x (List.mem_cons_of_mem _ hx))⟩
theorem itoa_feed (v : Int) : feedAt (Lib.itoa v) = none := by
  have d : ∀ u, feedAt (Lib.decDigits u) = none := fun u => feed_all _ (fun c hc e => by have := dec_head u c hc; rw [e] at this; exact absurd this.1 (by decide))
  unfold Lib.itoa
  split
  · rw [feed_cons]; exact ⟨by decide, d _⟩
  · exact d _
/-- what is left to be shown of a key's escaping, for the line's laws. -/
theorem ok_of {un : UnF} {esc : By → By} (hs : ∀ t b r, b = 44 ∨ b = 61 ∨ b = 32 → un (esc t ++ b :: r) = .ok (t, (esc t).length)) : Ok un nvL esc Lib.itoa I64L :=
  ⟨hs, fun v r _ hr => row_itoa v r hr, fun v hv => nv_itoa v hv⟩
theorem bk_of {un : UnF} {esc : By → By} (hu : ∀ l t n, un l = .ok (t, n) → l.take n = esc t ∧ n ≤ l.length) : Bk un nvL esc Lib.itoa := ⟨hu, fun x v h => (nv_out h).1⟩
theorem ex_of {esc : By → By} (h1 : ∀ t, feedAt t = none → feedAt (esc t) = none) (h2 : ∀ t r, t ≠ [] → (esc t ++ r).head? = some 35 → t.head? = some 35) : Ex esc Lib.itoa := ⟨h1, itoa_feed, h2⟩
end Go.Proofs.YtbojljmacheccaaGreatDoor.Ln

namespace Go.Proofs.YtbojljmacheccaaGreatDoor.Ln
set_option linter.unusedVariables false
set_option linter.unusedSimpArgs false
def dgL : By := [48, 49, 50, 51, 52, 53, 54, 55, 56, 57]
theorem dg_contains (c : UInt8) : dgL.contains c = isDg c := by
  have e : ∀ k : UInt8, c = k ↔ c.toNat = k.toNat := fun k => ⟨fun h => by rw [h], fun h => UInt8.toNat_inj.1 h⟩
  rw [Bool.eq_iff_iff]
  unfold isDg dgL
  simp only [List.contains_iff_mem, List.mem_cons, List.not_mem_nil, or_false, Bool.and_eq_true, decide_eq_true_eq, e]
  have h48 : (48 : UInt8).toNat = 48 := rfl
  have h49 : (49 : UInt8).toNat = 49 := rfl
  have h50 : (50 : UInt8).toNat = 50 := rfl
  have h51 : (51 : UInt8).toNat = 51 := rfl
  have h52 : (52 : UInt8).toNat = 52 := rfl
  have h53 : (53 : UInt8).toNat = 53 := rfl
  have h54 : (54 : UInt8).toNat = 54 := rfl
  have h55 : (55 : UInt8).toNat = 55 := rfl
  have h56 : (56 : UInt8).toNat = 56 := rfl
  have h57 : (57 : UInt8).toNat = 57 := rfl
  omega
theorem drop_dig : ∀ l : By, l.dropWhile (dgL.contains ·) = l.drop (digR l)
  | [] => rfl
  | c :: r => by
    have ih := drop_dig r
    rw [List.dropWhile_cons, dg_contains]
    unfold digR
    by_cases h : isDg c = true
    · rw [if_pos h, if_pos h, ih]; rfl
    · rw [if_neg h, if_neg h]; rfl
/-- the longest row that could be a number, as the program takes it. -/
theorem row_trim (l : By) : Lib.trimSuffix l (Lib.trimLeftS (Lib.trimPrefix l [45]) dgL) = l.take (rowN l) := by
  have hb : Lib.trimLeftS (Lib.trimPrefix l [45]) dgL = l.drop (rowN l) := by
    unfold Lib.trimLeftS Lib.trimPrefix Lib.hasPrefix
    cases l with
    | nil => rfl
    | cons c r =>
      show List.dropWhile _ (if ([45] : By).isPrefixOf (c :: r) = true then _ else _) = _
      by_cases h : c = 45
      · subst h
        rw [if_pos (by simp [List.isPrefixOf])]
        show List.dropWhile (dgL.contains ·) r = _
        rw [drop_dig]
        show _ = ((45 : UInt8) :: r).drop (if (45 : UInt8) = 45 then digR r + 1 else digR (45 :: r))
        rw [if_pos rfl]; rfl
      · rw [if_neg (by simp [List.isPrefixOf, Ne.symm h]), drop_dig]
        show _ = (c :: r).drop (if c = 45 then digR r + 1 else digR (c :: r))
        rw [if_neg h]
  rw [hb]
  unfold Lib.trimSuffix Lib.hasSuffix
  have hk := row_le l
  rw [if_pos (by rw [List.isSuffixOf_iff_suffix]; exact List.drop_suffix _ _), List.length_drop, show l.length - (l.length - rowN l) = rowN l by omega]
end Go.Proofs.YtbojljmacheccaaGreatDoor.Ln

namespace Go.Proofs.YtbojljmacheccaaGreatDoor.Ln
set_option linter.unusedVariables false
set_option linter.unusedSimpArgs false
/-- where the first feed stands, as strings.Index tells it. -/
theorem feed_index : ∀ l : By, Lib.indexByte l 10 = (match feedAt l with
    | none => -1
    | some i => (i : Int))
  | [] => rfl
  | c :: r => by
    have ih := feed_index r
    have ge := Lib.indexByte_ge r 10
    unfold Lib.indexByte feedAt
    by_cases h : c = 10
    · subst h; rfl
    · have h1 : (c == 10) = false := beq_eq_false_iff_ne.2 h
      rw [h1, if_neg h]
      cases hf : feedAt r with
      | none =>
        rw [hf] at ih
        dsimp only at ih
        have h3 : (Lib.indexByte r 10 == -1) = true := beq_iff_eq.2 ih
        rw [h3]; rfl
      | some i =>
        rw [hf] at ih
        dsimp only at ih
        have h3 : (Lib.indexByte r 10 == -1) = false := beq_eq_false_iff_ne.2 (by rw [ih]; intro q; have h0 : (0 : Int) ≤ (i : Int) := Int.natCast_nonneg i; rw [show (i : Int) = -1 from q] at h0; exact absurd h0 (by decide))
        rw [h3, ih]
        show (i : Int) + 1 = ((i + 1 : Nat) : Int)
        omega
theorem feed_none (l : By) : (Lib.indexByte l 10 < 0) ↔ feedAt l = none := by
  rw [feed_index]
  cases feedAt l with
  | none => simp
  | some i => simp
end Go.Proofs.YtbojljmacheccaaGreatDoor.Ln

namespace Go.Proofs.YtbojljmacheccaaGreatDoor.Ln
set_option linter.unusedVariables false
set_option linter.unusedSimpArgs false
/-! ### the document's reader: its first error stays, and behind it nothing is read. -/
abbrev DSt := Nat × Option Int
def failD (st : DSt) (p : Int) : DSt := if st.2 = none then (st.1, some p) else st
def pieceD (un : UnF) (l : By) (st : DSt) : By × DSt := if st.2 = none then (match pieceL un l st.1 with | .ok x => (x.1, (x.2, none)) | .error p => ([], (st.1, some p))) else ([], st)
def isD (l : By) (c : UInt8) (st : DSt) : Bool := decide (st.2 = none) && decide ((l.drop st.1).head? = some c)
def mustD (l : By) (c : UInt8) (st : DSt) : DSt := if isD l c st = true then (st.1 + 1, none) else failD st (st.1 : Int)
def numD (nv : NvF) (l : By) (st : DSt) : Int × DSt := if st.2 = none then (match numL nv l st.1 with | .ok x => (x.1, (x.2, none)) | .error p => (0, (st.1, some p))) else (0, st)
def tagD (un : UnF) (l : By) (st : DSt) : (By × By) × DSt := (((pieceD un l st).1, (pieceD un l (mustD l 61 (pieceD un l st).2)).1), (pieceD un l (mustD l 61 (pieceD un l st).2)).2)
def fieldD (un : UnF) (nv : NvF) (l : By) (st : DSt) : (By × Int) × DSt := (((pieceD un l st).1, (numD nv l (mustD l 61 (pieceD un l st).2)).1), mustD l 105 (numD nv l (mustD l 61 (pieceD un l st).2)).2)
def tagsD (un : UnF) (l : By) : Nat → DSt → List (By × By) → List (By × By) × DSt
  | 0, st, acc => (acc, st)
  | f + 1, st, acc => if isD l 44 st = true then tagsD un l f (tagD un l (st.1 + 1, none)).2 (acc ++ [(tagD un l (st.1 + 1, none)).1]) else (acc, st)
def restD (un : UnF) (nv : NvF) (l : By) : Nat → DSt → List (By × Int) → List (By × Int) × DSt
  | 0, st, acc => (acc, st)
  | f + 1, st, acc => if isD l 44 st = true then restD un nv l f (fieldD un nv l (st.1 + 1, none)).2 (acc ++ [(fieldD un nv l (st.1 + 1, none)).1]) else (acc, st)
/-- the loop over fields: f, at a place where one must stand. -/
def fieldsD (un : UnF) (nv : NvF) (l : By) (f : Nat) (st : DSt) (acc : List (By × Int)) : List (By × Int) × DSt := if st.2 = none then restD un nv l f (fieldD un nv l st).2 (acc ++ [(fieldD un nv l st).1]) else (acc, st)
end Go.Proofs.YtbojljmacheccaaGreatDoor.Ln

namespace Go.Proofs.YtbojljmacheccaaGreatDoor.Ln
set_option linter.unusedVariables false
set_option linter.unusedSimpArgs false
/-- what ParseInt tells of any row, with its error or not. -/
def pvL (l : By) : Int := match Lib.parseIntB 64 l with
  | .ok v => v
  | .syntax => 0
  | .range => Lib.intSat 64 l
theorem sat_in (l : By) : I64L (Lib.intSat 64 l) := by
  unfold Lib.intSat I64L
  have e1 : ((2 ^ (64 - 1) : Nat) : Int) = 9223372036854775808 := by decide
  have e2 : ((2 ^ (64 - 1) - 1 : Nat) : Int) = 9223372036854775807 := by decide
  split
  · rw [e1]; omega
  · rw [e2]; omega
theorem pv_in (l : By) : I64L (pvL l) := by
  unfold pvL
  cases hp : Lib.parseIntB 64 l with
  | ok v =>
    have b := Lib.parseIntB_bounds hp
    unfold I64L
    have e2 : ((2 ^ (64 - 1) : Nat) : Int) = 9223372036854775808 := by decide
    rw [e2] at b
    dsimp only
    omega
  | «syntax» => unfold I64L; dsimp only; omega
  | range => exact sat_in l
/-- so a row is a number in decimal just if it prints as it was read. -/
theorem nv_pv (l : By) : nvL l = if Lib.itoa (pvL l) = l then some (pvL l) else none := by
  by_cases h : Lib.itoa (pvL l) = l
  · rw [if_pos h]
    have := nv_itoa (pvL l) (pv_in l)
    rw [h] at this
    exact this
  · rw [if_neg h]
    unfold nvL
    unfold pvL at h
    cases hp : Lib.parseIntB 64 l with
    | ok v => rw [hp] at h; dsimp only at h ⊢; rw [if_neg h]
    | «syntax» => rfl
    | range => rfl
theorem nv_bad {l : By} (h : ∀ v, Lib.parseIntB 64 l ≠ .ok v) : nvL l = none := by
  unfold nvL
  cases hp : Lib.parseIntB 64 l with
  | ok v => exact absurd hp (h v)
  | «syntax» => rfl
  | range => rfl
/-! ### bounds: what is read of a line is no longer than the line. -/
theorem piece_le {un : UnF} (hu : ∀ l t n, un l = .ok (t, n) → n ≤ l.length) {l : By} {k k' : Nat} {t : By} (hk : k ≤ l.length) (h : pieceL un l k = .ok (t, k')) : k ≤ k' ∧ k' ≤ l.length := by
  unfold pieceL at h
  cases hu' : un (l.drop k) with
  | error p => rw [hu'] at h; cases h
  | ok x =>
    rw [hu'] at h
    dsimp only at h
    split at h
    · cases h
    · injection h with h; injection h with h1 h2
      have := hu _ x.1 x.2 hu'
      rw [List.length_drop] at this
      omega
theorem must_le {l : By} {c : UInt8} {k k' : Nat} (h : mustL c l k = .ok k') : k' = k + 1 ∧ k < l.length := by
  unfold mustL at h
  split at h
  · rename_i hh
    injection h with h
    refine ⟨h.symm, ?_⟩
    cases hd : l.drop k with
    | nil => rw [hd] at hh; cases hh
    | cons a r =>
      have := congrArg List.length hd
      rw [List.length_drop] at this
      simp at this
      omega
  · cases h
theorem follow_lt {l : By} {c : UInt8} {k : Nat} (h : (l.drop k).head? = some c) : k < l.length := by
  cases hd : l.drop k with
  | nil => rw [hd] at h; cases h
  | cons a r =>
    have := congrArg List.length hd
    rw [List.length_drop] at this
    simp at this
    omega
theorem num_le {nv : NvF} {l : By} {k k' : Nat} {v : Int} (hk : k ≤ l.length) (h : numL nv l k = .ok (v, k')) : k ≤ k' ∧ k' ≤ l.length := by
  unfold numL at h
  split at h
  · injection h with h; injection h with h1 h2
    have := row_le (l.drop k)
    rw [List.length_drop] at this
    omega
  · cases h
theorem tag_le {un : UnF} (hu : ∀ l t n, un l = .ok (t, n) → n ≤ l.length) {l : By} {k k' : Nat} {t : By × By} (hk : k ≤ l.length) (h : tagL un l k = .ok (t, k')) : k ≤ k' ∧ k' ≤ l.length := by
  unfold tagL at h
  split at h
  · cases h
  · rename_i a k1 p1
    split at h
    · cases h
    · rename_i k2 p2
      split at h
      · cases h
      · rename_i b k3 p3
        injection h with h; injection h with h1 h2
        have a1 := piece_le hu hk p1
        have a2 := must_le p2
        have a3 := piece_le hu (by omega) p3
        omega
theorem field_le {un : UnF} {nv : NvF} (hu : ∀ l t n, un l = .ok (t, n) → n ≤ l.length) {l : By} {k k' : Nat} {t : By × Int} (hk : k ≤ l.length) (h : fieldL un nv l k = .ok (t, k')) : k ≤ k' ∧ k' ≤ l.length := by
  unfold fieldL at h
  split at h
  · cases h
  · rename_i a k1 p1
    split at h
    · cases h
    · rename_i k2 p2
      split at h
      · cases h
      · rename_i b k3 p3
        split at h
        · cases h
        · rename_i k4 p4
          injection h with h; injection h with h1 h2
          have a1 := piece_le hu hk p1
          have a2 := must_le p2
          have a3 := num_le (by omega) p3
          have a4 := must_le p4
          omega
theorem is_lt {l : By} {c : UInt8} {st : DSt} (h : isD l c st = true) : st.1 < l.length ∧ st.2 = none := by
  unfold isD at h
  rw [Bool.and_eq_true, decide_eq_true_eq, decide_eq_true_eq] at h
  exact ⟨follow_lt h.2, h.1⟩
theorem pieceD_le {un : UnF} (hu : ∀ l t n, un l = .ok (t, n) → n ≤ l.length) {l : By} {st : DSt} (hk : st.1 ≤ l.length) : (pieceD un l st).2.1 ≤ l.length := by
  unfold pieceD
  split
  · cases h : pieceL un l st.1 with
    | ok x => obtain ⟨t, k'⟩ := x; exact (piece_le hu hk h).2
    | error p => exact hk
  · exact hk
theorem mustD_le {l : By} {c : UInt8} {st : DSt} (hk : st.1 ≤ l.length) : (mustD l c st).1 ≤ l.length := by
  unfold mustD
  split
  · rename_i h; exact (is_lt h).1
  · unfold failD; split <;> exact hk
theorem numD_le {nv : NvF} {l : By} {st : DSt} (hk : st.1 ≤ l.length) : (numD nv l st).2.1 ≤ l.length := by
  unfold numD
  split
  · cases h : numL nv l st.1 with
    | ok x => obtain ⟨t, k'⟩ := x; exact (num_le hk h).2
    | error p => exact hk
  · exact hk
theorem tagD_le {un : UnF} (hu : ∀ l t n, un l = .ok (t, n) → n ≤ l.length) {l : By} {st : DSt} (hk : st.1 ≤ l.length) : (tagD un l st).2.1 ≤ l.length := pieceD_le hu (mustD_le (pieceD_le hu hk))
theorem fieldD_le {un : UnF} {nv : NvF} (hu : ∀ l t n, un l = .ok (t, n) → n ≤ l.length) {l : By} {st : DSt} (hk : st.1 ≤ l.length) : (fieldD un nv l st).2.1 ≤ l.length := mustD_le (numD_le (mustD_le (pieceD_le hu hk)))
end Go.Proofs.YtbojljmacheccaaGreatDoor.Ln

namespace Go.Proofs.YtbojljmacheccaaGreatDoor.Ln
set_option linter.unusedVariables false
set_option linter.unusedSimpArgs false
/-! ### the document's loops, a step at a time. -/
abbrev UnLe (un : UnF) : Prop := ∀ l t n, un l = .ok (t, n) → n ≤ l.length
theorem pieceD_ge {un : UnF} (hu : UnLe un) {l : By} {st : DSt} (hk : st.1 ≤ l.length) : st.1 ≤ (pieceD un l st).2.1 := by
  unfold pieceD
  split
  · cases h : pieceL un l st.1 with
    | ok x => obtain ⟨t, k'⟩ := x; exact (piece_le hu hk h).1
    | error p => exact Nat.le_refl _
  · exact Nat.le_refl _
theorem mustD_ge {l : By} {c : UInt8} {st : DSt} : st.1 ≤ (mustD l c st).1 := by
  unfold mustD
  split
  · exact Nat.le_succ _
  · unfold failD; split <;> exact Nat.le_refl _
theorem numD_ge {nv : NvF} {l : By} {st : DSt} (hk : st.1 ≤ l.length) : st.1 ≤ (numD nv l st).2.1 := by
  unfold numD
  split
  · cases h : numL nv l st.1 with
    | ok x => obtain ⟨t, k'⟩ := x; exact (num_le hk h).1
    | error p => exact Nat.le_refl _
  · exact Nat.le_refl _
theorem tagD_ge {un : UnF} (hu : UnLe un) {l : By} {st : DSt} (hk : st.1 ≤ l.length) : st.1 ≤ (tagD un l st).2.1 :=
  Nat.le_trans (pieceD_ge hu hk) (Nat.le_trans (mustD_ge (l := l) (c := 61)) (pieceD_ge hu (mustD_le (pieceD_le hu hk))))
theorem fieldD_ge {un : UnF} {nv : NvF} (hu : UnLe un) {l : By} {st : DSt} (hk : st.1 ≤ l.length) : st.1 ≤ (fieldD un nv l st).2.1 :=
  Nat.le_trans (pieceD_ge hu hk) (Nat.le_trans (mustD_ge (l := l) (c := 61)) (Nat.le_trans (numD_ge (mustD_le (pieceD_le hu hk))) (mustD_ge (l := l) (c := 105))))
/-- at the head of the loop over tags. -/
def TgS (un : UnF) (l : By) (R : List (By × By) × DSt) (st : DSt) (acc : List (By × By)) : Prop := st.1 ≤ l.length ∧ acc.length ≤ st.1 ∧ ∃ f, l.length ≤ f + st.1 ∧ tagsD un l f st acc = R
theorem TgS.step {un : UnF} (hu : UnLe un) {l : By} {R : List (By × By) × DSt} {st : DSt} {acc : List (By × By)} (h : TgS un l R st acc) (hc : isD l 44 st = true) : st.1 + 1 ≤ l.length ∧ st.1 < (tagD un l (st.1 + 1, none)).2.1 ∧ TgS un l R (tagD un l (st.1 + 1, none)).2 (acc ++ [(tagD un l (st.1 + 1, none)).1]) := by
  obtain ⟨h1, h2, f, hf, e⟩ := h
  have q := (is_lt hc).1
  have g := tagD_ge hu (l := l) (st := (st.1 + 1, none)) q
  have g2 := tagD_le hu (l := l) (st := (st.1 + 1, none)) q
  dsimp only at g
  cases f with
  | zero => omega
  | succ f =>
    refine ⟨q, g, g2, by simp; omega, f, by omega, ?_⟩
    rw [← e]
    conv => rhs; unfold tagsD
    rw [if_pos hc]
theorem TgS.stop {un : UnF} {l : By} {R : List (By × By) × DSt} {st : DSt} {acc : List (By × By)} (h : TgS un l R st acc) (hc : isD l 44 st = false) : R = (acc, st) := by
  obtain ⟨h1, h2, f, hf, e⟩ := h
  rw [← e]
  cases f with
  | zero => rfl
  | succ f => unfold tagsD; rw [if_neg (by rw [hc]; simp)]
theorem TgS.start {un : UnF} {l : By} {st : DSt} (h : st.1 ≤ l.length) : TgS un l (tagsD un l l.length st []) st [] := ⟨h, Nat.zero_le _, l.length, by omega, rfl⟩
/-- at the head of the loop over fields: more tells whether a field follows. -/
def FdS (un : UnF) (nv : NvF) (l : By) (R : List (By × Int) × DSt) (more : Bool) (st : DSt) (acc : List (By × Int)) : Prop := st.1 ≤ l.length ∧ acc.length ≤ st.1 + 1 ∧ (if more = true then acc.length ≤ st.1 ∧ ∃ f, l.length ≤ f + st.1 ∧ fieldsD un nv l f st acc = R else R = (acc, st))
/-- behind a field. -/
theorem FdS.step {un : UnF} {nv : NvF} (hu : UnLe un) {l : By} {R : List (By × Int) × DSt} {st : DSt} {acc : List (By × Int)} (h : FdS un nv l R true st acc) (hc : st.2 = none) :
    (fieldD un nv l st).2.1 ≤ l.length ∧ st.1 ≤ (fieldD un nv l st).2.1 ∧ acc.length ≤ st.1 ∧ (if isD l 44 (fieldD un nv l st).2 = true then (fieldD un nv l st).2.1 + 1 ≤ l.length ∧ FdS un nv l R true ((fieldD un nv l st).2.1 + 1, none) (acc ++ [(fieldD un nv l st).1]) else FdS un nv l R false (fieldD un nv l st).2 (acc ++ [(fieldD un nv l st).1])) := by
  obtain ⟨h1, h2, h3⟩ := h
  rw [if_pos rfl] at h3
  obtain ⟨h4, f, hf, e⟩ := h3
  have g := fieldD_ge (nv := nv) hu (l := l) (st := st) h1
  have g2 := fieldD_le (nv := nv) hu (l := l) (st := st) h1
  refine ⟨g2, g, h4, ?_⟩
  unfold fieldsD at e
  rw [if_pos hc] at e
  by_cases hi : isD l 44 (fieldD un nv l st).2 = true
  · rw [if_pos hi]
    have q := (is_lt hi).1
    refine ⟨q, q, by simp; omega, ?_⟩
    rw [if_pos rfl]
    cases f with
    | zero => omega
    | succ f =>
      refine ⟨by simp; omega, f, by simp; omega, ?_⟩
      unfold fieldsD
      rw [if_pos rfl, ← e]
      conv => rhs; unfold restD
      rw [if_pos hi]
  · rw [if_neg hi]
    refine ⟨g2, by simp; omega, ?_⟩
    rw [if_neg (by simp), ← e]
    cases f with
    | zero => rfl
    | succ f => unfold restD; rw [if_neg hi]
theorem FdS.stop {un : UnF} {nv : NvF} {l : By} {R : List (By × Int) × DSt} {more : Bool} {st : DSt} {acc : List (By × Int)} (h : FdS un nv l R more st acc) (hc : more = false ∨ st.2 ≠ none) : R = (acc, st) := by
  obtain ⟨h1, h2, h3⟩ := h
  cases more with
  | false => rw [if_neg (by simp)] at h3; exact h3
  | true =>
    rw [if_pos rfl] at h3
    obtain ⟨h4, f, hf, e⟩ := h3
    have hs : st.2 ≠ none := hc.resolve_left (by simp)
    unfold fieldsD at e
    rw [if_neg hs] at e
    exact e.symm
theorem FdS.start {un : UnF} {nv : NvF} {l : By} {st : DSt} (h : st.1 ≤ l.length) : FdS un nv l (fieldsD un nv l l.length st []) true st [] := ⟨h, Nat.zero_le _, by rw [if_pos rfl]; exact ⟨Nat.zero_le _, l.length, by omega, rfl⟩⟩
/-! ### the digits of a number. -/
end Go.Proofs.YtbojljmacheccaaGreatDoor.Ln
