/- What schemas and their changes come to: mathematics. -/
import Derived.Test.YtklohbglkbhjhaaDoorChgA
namespace Go.Proofs.YtklohbglkbhjhaaDoor
open Go.RowKit
set_option linter.unusedVariables false

/-- May a text be a column's name. -/
def NameL (s : ByteArray) : Prop := (∀ i (h : i < s.size), 33 ≤ s[i].toNat ∧ s[i].toNat ≤ 126) ∧ 1 ≤ s.size ∧ s.size ≤ 12
instance (s : ByteArray) : Decidable (NameL s) := inferInstanceAs (Decidable (_ ∧ _))
def TypL (t : Int) : Prop := 1 ≤ t ∧ t ≤ 4
instance (t : Int) : Decidable (TypL t) := inferInstanceAs (Decidable (_ ∧ _))
def EncL (e : Int) : Prop := 1 ≤ e ∧ e ≤ 5
instance (t : Int) : Decidable (EncL t) := inferInstanceAs (Decidable (_ ∧ _))
instance (t i : Int) (n : Nat) : Decidable (MayV t i n) := inferInstanceAs (Decidable (_ ∨ _))
instance (t : Int) (x : Val3) : Decidable (FitsV t x) := inferInstanceAs (Decidable (_ ∧ _))
/-- A column of a schema, by itself. -/
def ColL (last : Int) (x : Col3) : Prop := (1 ≤ x.1 ∧ x.1 ≤ last) ∧ NameL x.2.1 ∧ TypL x.2.2
instance (last : Int) (x : Col3) : Decidable (ColL last x) := inferInstanceAs (Decidable (_ ∧ _))
/-- A column of a schema: none ahead of it has its ID or its name. -/
def ColS (l : List Col3) (last : Int) (i : Nat) (x : Col3) : Prop := ColL last x ∧ findI l x.1 = some i ∧ findC l x.2.1 = some i
instance (l : List Col3) (last : Int) (i : Nat) (x : Col3) : Decidable (ColS l last i x) := inferInstanceAs (Decidable (_ ∧ _))
def MayS (l : List Col3) (last : Int) : Prop := (1 ≤ l.length ∧ l.length ≤ 6) ∧ last ≤ 10000 ∧ ∀ i (h : i < l.length), ColS l last i l[i]
instance (l : List Col3) (last : Int) : Decidable (MayS l last) := inferInstanceAs (Decidable (_ ∧ _))
theorem findI_self {l : List Col3} {i : Nat} (h : i < l.length) : ∃ j, findI l l[i].1 = some j := by
  rcases hf : findI l l[i].1 with _ | j
  · unfold findI at hf
    rw [List.findIdx?_eq_none_iff] at hf
    have := hf _ (List.getElem_mem h)
    simp at this
  · exact ⟨j, rfl⟩
theorem findC_self {l : List Col3} {i : Nat} (h : i < l.length) : ∃ j, findC l l[i].2.1 = some j := by
  rcases hf : findC l l[i].2.1 with _ | j
  · unfold findC at hf
    rw [List.findIdx?_eq_none_iff] at hf
    have := hf _ (List.getElem_mem h)
    simp at this
  · exact ⟨j, rfl⟩
theorem findI_lt {l : List Col3} {id : Int} {k : Nat} (h : findI l id = some k) : ∃ hk : k < l.length, l[k].1 = id := by
  unfold findI at h
  rw [List.findIdx?_eq_some_iff_getElem] at h
  obtain ⟨hk, h1, _⟩ := h
  exact ⟨hk, by simpa using h1⟩
/-- A layout: sorted by, parted by, parts, encodings. -/
structure Lay4 where
  sb : Int
  pb : Int
  parts : Int
  enc : List Int
deriving DecidableEq
/-- A change. -/
structure Chg where
  kind : Int
  col : Int
  name : ByteArray
  typ : Int
  val : Val3
  sep : Int
  num : Int
def MayLy (l : List Col3) (m : Lay4) : Prop :=
  (m.sb = 0 ∨ (findI l m.sb).isSome = true) ∧ (1 ≤ m.parts ∧ m.parts ≤ 4) ∧ ((findI l m.pb).isSome = true ∨ m.pb = 0 ∧ m.parts = 1) ∧ (∀ e ∈ m.enc, EncL e) ∧ m.enc.length = l.length
instance (l : List Col3) (m : Lay4) : Decidable (MayLy l m) := inferInstanceAs (Decidable (_ ∧ _))
/-- What a change makes of columns, their last ID, a layout. -/
abbrev St3 := List Col3 × Int × Lay4
/-- A list with one more. -/
def insA {α : Type} (l : List α) (i : Nat) (x : α) : List α := l.take i ++ x :: l.drop i
theorem insA_len {α : Type} (l : List α) (i : Nat) (x : α) : (insA l i x).length = l.length + 1 := by
  unfold insA
  rw [List.length_append, List.length_cons, List.length_take, List.length_drop]; omega
/-- Add, at a place. -/
def addM (s : St3) (c : Chg) (typ : Int) (val : Val3) (at_ : Nat) : Except Int St3 :=
  if ¬ (NameL c.name ∧ TypL typ) then .error 1
  else if (findC s.1 c.name).isSome = true then .error 9
  else if ¬ FitsV typ val then .error 4
  else if 6 ≤ s.1.length ∨ 10000 ≤ s.2.1 then .error 6
  else .ok (insA s.1 at_ (s.2.1 + 1, c.name, typ), s.2.1 + 1, { s.2.2 with enc := insA s.2.2.enc at_ 1 })
def heldM (s : St3) (c : Chg) : Prop := c.col = s.2.2.sb ∨ c.col = s.2.2.pb
instance (s : St3) (c : Chg) : Decidable (heldM s c) := inferInstanceAs (Decidable (_ ∨ _))
def dropM (s : St3) (c : Chg) (at_ : Nat) : Except Int St3 :=
  if s.1.length = 1 ∨ heldM s c then .error 1
  else .ok (s.1.eraseIdx at_, s.2.1, { s.2.2 with enc := s.2.2.enc.eraseIdx at_ })
/-- The column at a place, with another name, or another type. -/
def nameAt (l : List Col3) (i : Nat) (nm : ByteArray) : List Col3 := l.modify i fun x => (x.1, nm, x.2.2)
def typeAt (l : List Col3) (i : Nat) (t : Int) : List Col3 := l.modify i fun x => (x.1, x.2.1, t)
def renameM (s : St3) (c : Chg) (at_ : Nat) : Except Int St3 :=
  if ¬ NameL c.name then .error 1
  else if (findC s.1 c.name).isSome = true ∧ findC s.1 c.name ≠ some at_ then .error 9
  else .ok (nameAt s.1 at_ c.name, s.2)
def typOf (l : List Col3) (i : Nat) : Int := (l.getD i (0, ⟨#[]⟩, 0)).2.2
def widenM (s : St3) (at_ : Nat) : Except Int St3 :=
  if typOf s.1 at_ = 3 then .ok (typeAt s.1 at_ 1, s.2)
  else if typOf s.1 at_ = 1 then .ok (typeAt s.1 at_ 2, s.2)
  else .error 4
def splitM (s : St3) (c : Chg) (at_ : Nat) : Except Int St3 :=
  if typOf s.1 at_ ≠ 4 then .error 4
  else if heldM s c then .error 1
  else addM s c 4 (0, 0, ⟨#[]⟩) (at_ + 1)
def recodeM (s : St3) (c : Chg) (at_ : Nat) : Except Int St3 :=
  if ¬ EncL c.num then .error 1
  else .ok (s.1, s.2.1, { s.2.2 with enc := s.2.2.enc.set at_ c.num })
def resortM (s : St3) (c : Chg) : Except Int St3 :=
  if c.col ≠ 0 ∧ (findI s.1 c.col).isSome = false then .error 3
  else .ok (s.1, s.2.1, { s.2.2 with sb := c.col })
def repartM (s : St3) (c : Chg) : Except Int St3 :=
  if c.num < 1 ∨ 4 < c.num then .error 1
  else if (findI s.1 c.col).isSome = false ∧ (c.col ≠ 0 ∨ c.num ≠ 1) then .error 3
  else .ok (s.1, s.2.1, { s.2.2 with pb := c.col, parts := c.num })
def changeM (s : St3) (c : Chg) : Except Int St3 :=
  if c.kind = 1 then addM s c c.typ c.val s.1.length
  else if c.kind = 6 then resortM s c
  else if c.kind = 7 then repartM s c
  else if c.kind = 8 then .ok s
  else if c.kind = 2 ∨ c.kind = 3 ∨ c.kind = 4 ∨ c.kind = 5 ∨ c.kind = 9 then
    match findI s.1 c.col with
    | none => .error 3
    | some i => if c.kind = 2 then dropM s c i else if c.kind = 3 then renameM s c i else if c.kind = 4 then widenM s i else if c.kind = 5 then splitM s c i else recodeM s c i
  else .error 1
/-- Apply. -/
def applyM (s : St3) (c : Chg) : Except Int St3 := if MayS s.1 s.2.1 ∧ MayLy s.1 s.2.2 then changeM s c else .error 1
end Go.Proofs.YtklohbglkbhjhaaDoor
