/- What may be goes on to be: mathematics of schemas and their changes. -/
import Derived.Test.YtklohbglkbhjhaaDoorIdsM
namespace Go.Proofs.YtklohbglkbhjhaaDoor
open Go.RowKit
set_option linter.unusedVariables false

theorem nodup_first {α β : Type} [DecidableEq β] {l : List α} {f : α → β} : (∀ i (h : i < l.length), l.findIdx? (fun x => decide (f x = f l[i])) = some i) ↔ (l.map f).Nodup := by
  constructor
  · intro h
    refine List.pairwise_iff_getElem.2 fun i j hi hj hij he => ?_
    rw [List.length_map] at hi hj
    simp only [List.getElem_map] at he
    have h1 := h j hj
    rw [List.findIdx?_eq_some_iff_getElem] at h1
    obtain ⟨_, _, h3⟩ := h1
    have := h3 i hij
    simp [he] at this
  · intro h i hi
    rw [List.findIdx?_eq_some_iff_getElem]
    refine ⟨hi, by simp, fun j hj => ?_⟩
    have := List.pairwise_iff_getElem.1 h j i (by rw [List.length_map]; omega) (by rw [List.length_map]; exact hi) hj
    simpa using this
theorem first_none {α β : Type} [DecidableEq β] {l : List α} {f : α → β} {v : β} : l.findIdx? (fun x => decide (f x = v)) = none ↔ v ∉ l.map f := by
  rw [List.findIdx?_eq_none_iff]
  simp
theorem first_isSome {α β : Type} [DecidableEq β] {l : List α} {f : α → β} {v : β} : (l.findIdx? (fun x => decide (f x = v))).isSome = true ↔ v ∈ l.map f := by
  rcases h : l.findIdx? (fun x => decide (f x = v)) with _ | k
  · have := first_none.1 h
    exact ⟨(fun h => by cases h), fun h => absurd h this⟩
  · refine ⟨fun _ => Classical.byContradiction fun hn => ?_, fun _ => rfl⟩
    rw [first_none.2 hn] at h; cases h
theorem nodup_set {β : Type} {l : List β} (h : l.Nodup) (k : Nat) (v : β) (hv : ∀ j (hj : j < l.length), j ≠ k → l[j] ≠ v) : (l.set k v).Nodup := by
  refine List.pairwise_iff_getElem.2 fun i j hi hj hij he => ?_
  rw [List.length_set] at hi hj
  rw [List.getElem_set, List.getElem_set] at he
  by_cases e1 : k = i
  · rw [if_pos e1, if_neg (by omega)] at he
    exact hv j hj (by omega) he.symm
  · rw [if_neg e1] at he
    by_cases e2 : k = j
    · rw [if_pos e2] at he
      exact hv i hi (by omega) he
    · rw [if_neg e2] at he
      exact List.pairwise_iff_getElem.1 h i j hi hj hij he
theorem insA_perm {α : Type} (l : List α) (i : Nat) (x : α) : (insA l i x).Perm (x :: l) := by
  unfold insA
  have h := List.perm_middle (a := x) (l₁ := l.take i) (l₂ := l.drop i)
  rw [List.take_append_drop] at h
  exact h
theorem insA_map {α β : Type} (f : α → β) (l : List α) (i : Nat) (x : α) : (insA l i x).map f = insA (l.map f) i (f x) := by
  unfold insA; rw [List.map_append, List.map_cons, List.map_take, List.map_drop]
/-- A schema, told by its lists of IDs and names. -/
structure MayQ (l : List Col3) (lst : Int) : Prop where
  len : 1 ≤ l.length ∧ l.length ≤ 6
  last : lst ≤ 10000
  col : ∀ x ∈ l, ColL lst x
  ids : (l.map (·.1)).Nodup
  nms : (l.map (·.2.1)).Nodup
theorem mayS_iff {l : List Col3} {last : Int} : MayS l last ↔ MayQ l last := by
  constructor
  · rintro ⟨h1, h2, h3⟩
    refine ⟨h1, h2, fun x hx => ?_, nodup_first.1 fun i h => (h3 i h).2.1, nodup_first.1 fun i h => (h3 i h).2.2⟩
    obtain ⟨i, hi, rfl⟩ := List.getElem_of_mem hx
    exact (h3 i hi).1
  · intro h
    exact ⟨h.len, h.last, fun i hi => ⟨h.col _ (List.getElem_mem hi), nodup_first.2 h.ids i hi, nodup_first.2 h.nms i hi⟩⟩
theorem findI_mem {l : List Col3} {id : Int} : (findI l id).isSome = true ↔ id ∈ l.map (·.1) := first_isSome
theorem findC_mem {l : List Col3} {nm : ByteArray} : (findC l nm).isSome = true ↔ nm ∈ l.map (·.2.1) := first_isSome
/-- A layout, told by the list of IDs. -/
structure LayQ (ids : List Int) (n : Nat) (m : Lay4) : Prop where
  sb : m.sb = 0 ∨ m.sb ∈ ids
  parts : 1 ≤ m.parts ∧ m.parts ≤ 4
  pb : m.pb ∈ ids ∨ m.pb = 0 ∧ m.parts = 1
  enc : ∀ e ∈ m.enc, EncL e
  len : m.enc.length = n
theorem mayLy_iff {l : List Col3} {m : Lay4} : MayLy l m ↔ LayQ (l.map (·.1)) l.length m := by
  unfold MayLy
  rw [findI_mem, findI_mem]
  exact ⟨fun ⟨a, b, c, d, e⟩ => ⟨a, b, c, d, e⟩, fun h => ⟨h.sb, h.parts, h.pb, h.enc, h.len⟩⟩
theorem nameAt_ids (l : List Col3) (k : Nat) (nm : ByteArray) : (nameAt l k nm).map (·.1) = l.map (·.1) := by
  unfold nameAt
  refine List.ext_getElem (by simp) fun i h1 h2 => ?_
  simp only [List.getElem_map, List.getElem_modify]
  split <;> rfl
theorem nameAt_nms (l : List Col3) (k : Nat) (nm : ByteArray) : (nameAt l k nm).map (·.2.1) = (l.map (·.2.1)).set k nm := by
  unfold nameAt
  refine List.ext_getElem (by simp) fun i h1 h2 => ?_
  simp only [List.getElem_map, List.getElem_modify, List.getElem_set]
  split <;> rfl
theorem nameAt_len (l : List Col3) (k : Nat) (nm : ByteArray) : (nameAt l k nm).length = l.length := by unfold nameAt; simp
theorem typeAt_ids (l : List Col3) (k : Nat) (t : Int) : (typeAt l k t).map (·.1) = l.map (·.1) := by
  unfold typeAt
  refine List.ext_getElem (by simp) fun i h1 h2 => ?_
  simp only [List.getElem_map, List.getElem_modify]
  split <;> rfl
theorem typeAt_nms (l : List Col3) (k : Nat) (t : Int) : (typeAt l k t).map (·.2.1) = l.map (·.2.1) := by
  unfold typeAt
  refine List.ext_getElem (by simp) fun i h1 h2 => ?_
  simp only [List.getElem_map, List.getElem_modify]
  split <;> rfl
theorem typeAt_len (l : List Col3) (k : Nat) (t : Int) : (typeAt l k t).length = l.length := by unfold typeAt; simp
theorem mem_modify {α : Type} {f : α → α} {l : List α} {k : Nat} {x : α} (h : x ∈ l.modify k f) : x ∈ l ∨ ∃ y ∈ l, x = f y := by
  obtain ⟨i, hi, rfl⟩ := List.getElem_of_mem h
  rw [List.length_modify] at hi
  rw [List.getElem_modify]
  split
  · exact .inr ⟨_, List.getElem_mem hi, rfl⟩
  · exact .inl (List.getElem_mem hi)
theorem MayQ.name {l : List Col3} {last : Int} (h : MayQ l last) {k : Nat} {nm : ByteArray} (hn : NameL nm) (hd : ∀ j (hj : j < l.length), j ≠ k → l[j].2.1 ≠ nm) : MayQ (nameAt l k nm) last := by
  refine ⟨by rw [nameAt_len]; exact h.len, h.last, fun x hx => ?_, by rw [nameAt_ids]; exact h.ids, ?_⟩
  · rcases mem_modify hx with hx | ⟨y, hy, rfl⟩
    · exact h.col _ hx
    · obtain ⟨h1, _, h3⟩ := h.col _ hy
      exact ⟨h1, hn, h3⟩
  · rw [nameAt_nms]
    refine nodup_set h.nms _ _ fun j hj hjk => ?_
    rw [List.length_map] at hj
    rw [List.getElem_map]
    exact hd j hj hjk
theorem MayQ.type {l : List Col3} {last : Int} (h : MayQ l last) {k : Nat} {t : Int} (hn : TypL t) : MayQ (typeAt l k t) last := by
  refine ⟨by rw [typeAt_len]; exact h.len, h.last, fun x hx => ?_, by rw [typeAt_ids]; exact h.ids, by rw [typeAt_nms]; exact h.nms⟩
  rcases mem_modify hx with hx | ⟨y, hy, rfl⟩
  · exact h.col _ hx
  · obtain ⟨h1, h2, _⟩ := h.col _ hy
    exact ⟨h1, h2, hn⟩
/-- Names differ, so what has the name of the column at a place stands there. -/
theorem MayQ.other {l : List Col3} {last : Int} (h : MayQ l last) {k : Nat} (hk : k < l.length) : ∀ j (hj : j < l.length), j ≠ k → l[j].2.1 ≠ l[k].2.1 := by
  intro j hj hjk he
  have h1 := nodup_first.2 h.nms j hj
  have h2 := nodup_first.2 h.nms k hk
  rw [he] at h1
  rw [h1] at h2
  injection h2 with h2
  exact hjk h2
theorem MayQ.findI {l : List Col3} {last : Int} (h : MayQ l last) {k : Nat} (hk : k < l.length) : findI l l[k].1 = some k := nodup_first.2 h.ids k hk
theorem MayQ.findC {l : List Col3} {last : Int} (h : MayQ l last) {k : Nat} (hk : k < l.length) : findC l l[k].2.1 = some k := nodup_first.2 h.nms k hk

section
variable {s : St3} {k : Nat}
/-- The five pairs of changes. -/
abbrev otherB : ByteArray := ⟨#[111, 116, 104, 101, 114]⟩
theorem MayQ.small {l : List Col3} {last : Int} (h : MayQ l last) : ∀ x ∈ l, x.2.1.size ≤ 9223372036854775807 := fun x hx => by
  have := (h.col x hx).2.1.2.2; omega
end
end Go.Proofs.YtklohbglkbhjhaaDoor
