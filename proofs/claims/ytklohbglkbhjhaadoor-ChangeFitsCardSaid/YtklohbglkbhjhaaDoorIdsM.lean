
import Derived.Test.YtklohbglkbhjhaaDoorChgE
import Derived.Test.YtklohbglkbhjhaaDoorBase
import Derived.Test.YtklohbglkbhjhaaDoorRowsM
import Derived.WalkKit
import Derived.Laws.OwnMore
import Derived.Laws.BytesArg
import Derived.Laws.Rows
import Derived.Deep.AppendLies
import Derived.Deep.Draws
import Derived.Test.YtklohbglkbhjhaaDoorChecked
import Derived.Deep.OwnRows
import Derived.Lib.Hide
import Derived.Deep.Quiet
import Derived.Laws.AppendOwnNone
import Derived.Lib.Strings
import Derived.Outline
import Derived.WalkLawsBesides
import Derived.WalkSpells
import Derived.PlainAid
import Derived.Deep.QuietTactic
import Derived.BigQuiet
import Derived.RegionTactic
import Derived.BigRegion
import Derived.Handy
import Derived.Laws.BitsAllLaws
import Derived.Deep.RegionWith
import Derived.Lib.AppendStr
import Derived.Deep.RegionLaw
import Derived.Maps.AppendAt
import Derived.OpenShut
import Derived.WideShapes
import Derived.ChangeArms
import Derived.Deep.Slices
import Derived.Sort.Grow
import Derived.LaidEql
import Derived.Stop.Asserts
import Derived.RowKitTokens
import Derived.OrdersHeld
import Derived.Stop.IfaceNil
import Derived.Laws.BitsLemmas
import Derived.Laws.Bits64
import Derived.WalkSmall
import Derived.Lib.Bytealg
import Derived.Deep.SlicePairs
import Derived.Shelf.Abstract
/- SchemaIDs: mathematics. -/

namespace Go.Proofs.YtklohbglkbhjhaaDoor
open Go.RowKit
set_option linter.unusedVariables false

/-- Which IDs are gone. -/
structure IdI (s : St3) (G : Nat → Bool) (i : Nat) : Prop where
  last : 1 ≤ s.2.1 ∧ s.2.1 ≤ 4 + (i : Int)
  ids : ∀ x ∈ s.1, 1 ≤ x.1 ∧ x.1 ≤ s.2.1 ∧ G x.1.toNat = false
  gone : ∀ j : Nat, G j = true → (j : Int) ≤ s.2.1
  len : 1 ≤ s.1.length ∧ s.1.length ≤ 6
  nm : ∀ x ∈ s.1, x.2.1.size ≤ 9223372036854775807
  enc : s.2.2.enc.length = s.1.length
theorem mem_insA {α : Type} {l : List α} {i : Nat} {x y : α} (h : y ∈ insA l i x) : y = x ∨ y ∈ l := by
  unfold insA at h
  rcases List.mem_append.1 h with h | h
  · exact .inr (List.mem_of_mem_take h)
  · rcases List.mem_cons.1 h with h | h
    · exact .inl h
    · exact .inr (List.mem_of_mem_drop h)
theorem addM_ok {s s' : St3} {c : Chg} {typ : Int} {val : Val3} {i : Nat} (h : addM s c typ val i = .ok s') : (NameL c.name ∧ s.1.length < 6 ∧ s.2.1 < 10000) ∧ s' = (insA s.1 i (s.2.1 + 1, c.name, typ), s.2.1 + 1, { s.2.2 with enc := insA s.2.2.enc i 1 }) := by
  unfold addM at h
  by_cases h1 : ¬ (NameL c.name ∧ TypL typ)
  · rw [if_pos h1] at h; cases h
  · rw [if_neg h1] at h
    by_cases h2 : (findC s.1 c.name).isSome = true
    · rw [if_pos h2] at h; cases h
    · rw [if_neg h2] at h
      by_cases h3 : ¬ FitsV typ val
      · rw [if_pos h3] at h; cases h
      · rw [if_neg h3] at h
        by_cases h4 : 6 ≤ s.1.length ∨ 10000 ≤ s.2.1
        · rw [if_pos h4] at h; cases h
        · rw [if_neg h4] at h
          injection h with h
          exact ⟨⟨(Classical.not_not.1 h1).1, by omega, by omega⟩, h.symm⟩
theorem IdI.add {s : St3} {G : Nat → Bool} {i : Nat} (h : IdI s G i) (nm : ByteArray) (hn : NameL nm) (typ : Int) (k : Nat) (hk : k ≤ s.1.length) (h6 : s.1.length < 6) : IdI (insA s.1 k (s.2.1 + 1, nm, typ), s.2.1 + 1, { s.2.2 with enc := insA s.2.2.enc k 1 }) G (i + 1) := by
  refine ⟨⟨by have := h.last; show 1 ≤ s.2.1 + 1; omega, by have := h.last; show s.2.1 + 1 ≤ 4 + ((i + 1 : Nat) : Int); omega⟩, fun x hx => ?_, fun j hj => by have := h.gone j hj; show (j : Int) ≤ s.2.1 + 1; omega, by rw [insA_len]; have := h.len; omega, fun x hx => ?_, by show (insA s.2.2.enc k 1).length = (insA s.1 k _).length; rw [insA_len, insA_len, h.enc]⟩
  · rcases mem_insA hx with rfl | hx
    · refine ⟨by have := h.last; show 1 ≤ s.2.1 + 1; omega, Int.le_refl _, ?_⟩
      rcases hg : G (s.2.1 + 1).toNat with _ | _
      · rfl
      · have h1 := h.gone _ hg
        have h2 := h.last
        exfalso; omega
    · obtain ⟨h1, h2, h3⟩ := h.ids x hx
      exact ⟨h1, by show x.1 ≤ s.2.1 + 1; omega, h3⟩
  · rcases mem_insA hx with rfl | hx
    · have := hn.2.2; show nm.size ≤ 9223372036854775807; omega
    · exact h.nm x hx
end Go.Proofs.YtklohbglkbhjhaaDoor

/- What may be goes on to be: mathematics of schemas and their changes. -/

namespace Go.Proofs.YtklohbglkbhjhaaDoor
open Go.RowKit
set_option linter.unusedVariables false

theorem nodup_first {α β : Type} [DecidableEq β] {l : List α} {f : α → β} : (∀ i (h : i < l.length), l.findIdx? (fun x => decide (f x = f l[i])) = some i) ↔ (l.map f).Nodup := by
  constructor
  · intro h
    refine List.pairwise_iff_getElem.2 fun i j hi hj hij he => ?_
    rw [List.length_map] at hi hj
    simp only [List.getElem_map] at he
    have h1 := h j hj
    rw [List.findIdx?_eq_some_iff_getElem] at h1
    obtain ⟨_, _, h3⟩ := h1
    have := h3 i hij
    simp [he] at this
  · intro h i hi
    rw [List.findIdx?_eq_some_iff_getElem]
    refine ⟨hi, by simp, fun j hj => ?_⟩
    have := List.pairwise_iff_getElem.1 h j i (by rw [List.length_map]; omega) (by rw [List.length_map]; exact hi) hj
    simpa using this
theorem first_none {α β : Type} [DecidableEq β] {l : List α} {f : α → β} {v : β} : l.findIdx? (fun x => decide (f x = v)) = none ↔ v ∉ l.map f := by
  rw [List.findIdx?_eq_none_iff]
  simp
theorem first_isSome {α β : Type} [DecidableEq β] {l : List α} {f : α → β} {v : β} : (l.findIdx? (fun x => decide (f x = v))).isSome = true ↔ v ∈ l.map f := by
  rcases h : l.findIdx? (fun x => decide (f x = v)) with _ | k
  · have := first_none.1 h
    exact ⟨(fun h => by cases h), fun h => absurd h this⟩
  · refine ⟨fun _ => Classical.byContradiction fun hn => ?_, fun _ => rfl⟩
    rw [first_none.2 hn] at h; cases h
theorem nodup_set {β : Type} {l : List β} (h : l.Nodup) (k : Nat) (v : β) (hv : ∀ j (hj : j < l.length), j ≠ k → l[j] ≠ v) : (l.set k v).Nodup := by
  refine List.pairwise_iff_getElem.2 fun i j hi hj hij he => ?_
  rw [List.length_set] at hi hj
  rw [List.getElem_set, List.getElem_set] at he
  by_cases e1 : k = i
  · rw [if_pos e1, if_neg (by omega)] at he
    exact hv j hj (by omega) he.symm
  · rw [if_neg e1] at he
    by_cases e2 : k = j
    · rw [if_pos e2] at he
      exact hv i hi (by omega) he
    · rw [if_neg e2] at he
      exact List.pairwise_iff_getElem.1 h i j hi hj hij he
theorem insA_perm {α : Type} (l : List α) (i : Nat) (x : α) : (insA l i x).Perm (x :: l) := by
  unfold insA
  have h := List.perm_middle (a := x) (l₁ := l.take i) (l₂ := l.drop i)
  rw [List.take_append_drop] at h
  exact h
theorem insA_map {α β : Type} (f : α → β) (l : List α) (i : Nat) (x : α) : (insA l i x).map f = insA (l.map f) i (f x) := by
  unfold insA; rw [List.map_append, List.map_cons, List.map_take, List.map_drop]
/-- A schema, told by its lists of IDs and names. -/
structure MayQ (l : List Col3) (lst : Int) : Prop where
  len : 1 ≤ l.length ∧ l.length ≤ 6
  last : lst ≤ 10000
  col : ∀ x ∈ l, ColL lst x
  ids : (l.map (·.1)).Nodup
  nms : (l.map (·.2.1)).Nodup
theorem mayS_iff {l : List Col3} {last : Int} : MayS l last ↔ MayQ l last := by
  constructor
  · rintro ⟨h1, h2, h3⟩
    refine ⟨h1, h2, fun x hx => ?_, nodup_first.1 fun i h => (h3 i h).2.1, nodup_first.1 fun i h => (h3 i h).2.2⟩
    obtain ⟨i, hi, rfl⟩ := List.getElem_of_mem hx
    exact (h3 i hi).1
  · intro h
    exact ⟨h.len, h.last, fun i hi => ⟨h.col _ (List.getElem_mem hi), nodup_first.2 h.ids i hi, nodup_first.2 h.nms i hi⟩⟩
theorem findI_mem {l : List Col3} {id : Int} : (findI l id).isSome = true ↔ id ∈ l.map (·.1) := first_isSome
theorem findC_mem {l : List Col3} {nm : ByteArray} : (findC l nm).isSome = true ↔ nm ∈ l.map (·.2.1) := first_isSome
/-- A layout, told by the list of IDs. -/
structure LayQ (ids : List Int) (n : Nat) (m : Lay4) : Prop where
  sb : m.sb = 0 ∨ m.sb ∈ ids
  parts : 1 ≤ m.parts ∧ m.parts ≤ 4
  pb : m.pb ∈ ids ∨ m.pb = 0 ∧ m.parts = 1
  enc : ∀ e ∈ m.enc, EncL e
  len : m.enc.length = n
theorem mayLy_iff {l : List Col3} {m : Lay4} : MayLy l m ↔ LayQ (l.map (·.1)) l.length m := by
  unfold MayLy
  rw [findI_mem, findI_mem]
  exact ⟨fun ⟨a, b, c, d, e⟩ => ⟨a, b, c, d, e⟩, fun h => ⟨h.sb, h.parts, h.pb, h.enc, h.len⟩⟩
theorem nameAt_ids (l : List Col3) (k : Nat) (nm : ByteArray) : (nameAt l k nm).map (·.1) = l.map (·.1) := by
  unfold nameAt
  refine List.ext_getElem (by simp) fun i h1 h2 => ?_
  simp only [List.getElem_map, List.getElem_modify]
  split <;> rfl
theorem nameAt_nms (l : List Col3) (k : Nat) (nm : ByteArray) : (nameAt l k nm).map (·.2.1) = (l.map (·.2.1)).set k nm := by
  unfold nameAt
  refine List.ext_getElem (by simp) fun i h1 h2 => ?_
  simp only [List.getElem_map, List.getElem_modify, List.getElem_set]
  split <;> rfl
theorem nameAt_len (l : List Col3) (k : Nat) (nm : ByteArray) : (nameAt l k nm).length = l.length := by unfold nameAt; simp
theorem typeAt_ids (l : List Col3) (k : Nat) (t : Int) : (typeAt l k t).map (·.1) = l.map (·.1) := by
  unfold typeAt
  refine List.ext_getElem (by simp) fun i h1 h2 => ?_
  simp only [List.getElem_map, List.getElem_modify]
  split <;> rfl
theorem typeAt_nms (l : List Col3) (k : Nat) (t : Int) : (typeAt l k t).map (·.2.1) = l.map (·.2.1) := by
  unfold typeAt
  refine List.ext_getElem (by simp) fun i h1 h2 => ?_
  simp only [List.getElem_map, List.getElem_modify]
  split <;> rfl
theorem typeAt_len (l : List Col3) (k : Nat) (t : Int) : (typeAt l k t).length = l.length := by unfold typeAt; simp
theorem mem_modify {α : Type} {f : α → α} {l : List α} {k : Nat} {x : α} (h : x ∈ l.modify k f) : x ∈ l ∨ ∃ y ∈ l, x = f y := by
  obtain ⟨i, hi, rfl⟩ := List.getElem_of_mem h
  rw [List.length_modify] at hi
  rw [List.getElem_modify]
  split
  · exact .inr ⟨_, List.getElem_mem hi, rfl⟩
  · exact .inl (List.getElem_mem hi)
theorem MayQ.name {l : List Col3} {last : Int} (h : MayQ l last) {k : Nat} {nm : ByteArray} (hn : NameL nm) (hd : ∀ j (hj : j < l.length), j ≠ k → l[j].2.1 ≠ nm) : MayQ (nameAt l k nm) last := by
  refine ⟨by rw [nameAt_len]; exact h.len, h.last, fun x hx => ?_, by rw [nameAt_ids]; exact h.ids, ?_⟩
  · rcases mem_modify hx with hx | ⟨y, hy, rfl⟩
    · exact h.col _ hx
    · obtain ⟨h1, _, h3⟩ := h.col _ hy
      exact ⟨h1, hn, h3⟩
  · rw [nameAt_nms]
    refine nodup_set h.nms _ _ fun j hj hjk => ?_
    rw [List.length_map] at hj
    rw [List.getElem_map]
    exact hd j hj hjk
theorem MayQ.type {l : List Col3} {last : Int} (h : MayQ l last) {k : Nat} {t : Int} (hn : TypL t) : MayQ (typeAt l k t) last := by
  refine ⟨by rw [typeAt_len]; exact h.len, h.last, fun x hx => ?_, by rw [typeAt_ids]; exact h.ids, by rw [typeAt_nms]; exact h.nms⟩
  rcases mem_modify hx with hx | ⟨y, hy, rfl⟩
  · exact h.col _ hx
  · obtain ⟨h1, h2, _⟩ := h.col _ hy
    exact ⟨h1, h2, hn⟩
theorem MayQ.findI {l : List Col3} {last : Int} (h : MayQ l last) {k : Nat} (hk : k < l.length) : findI l l[k].1 = some k := nodup_first.2 h.ids k hk
theorem MayQ.findC {l : List Col3} {last : Int} (h : MayQ l last) {k : Nat} (hk : k < l.length) : findC l l[k].2.1 = some k := nodup_first.2 h.nms k hk

section
variable {s : St3} {k : Nat}
/-- The five pairs of changes. -/
abbrev otherB : ByteArray := ⟨#[111, 116, 104, 101, 114]⟩
theorem MayQ.small {l : List Col3} {last : Int} (h : MayQ l last) : ∀ x ∈ l, x.2.1.size ≤ 9223372036854775807 := fun x hx => by
  have := (h.col x hx).2.1.2.2; omega
end
end Go.Proofs.YtklohbglkbhjhaaDoor
