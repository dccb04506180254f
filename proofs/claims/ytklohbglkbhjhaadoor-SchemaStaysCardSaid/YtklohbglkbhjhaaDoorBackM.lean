/- What may be goes on to be: mathematics of schemas and their changes. -/
import Derived.Test.YtklohbglkbhjhaaDoorIdsM
namespace Go.Proofs.YtklohbglkbhjhaaDoor
open Go.RowKit
set_option linter.unusedVariables false

theorem nodup_first {α β : Type} [DecidableEq β] {l : List α} {f : α → β} : (∀ i (h : i < l.length), l.findIdx? (fun x => decide (f x = f l[i])) = some i) ↔ (l.map f).Nodup := by
  constructor
  · intro h
    refine List.pairwise_iff_getElem.2 fun i j hi hj hij he => ?_
    rw [List.length_map] at hi hj
    simp only [List.getElem_map] at he
    have h1 := h j hj
    rw [List.findIdx?_eq_some_iff_getElem] at h1
    obtain ⟨_, _, h3⟩ := h1
    have := h3 i hij
    simp [he] at this
  · intro h i hi
    rw [List.findIdx?_eq_some_iff_getElem]
    refine ⟨hi, by simp, fun j hj => ?_⟩
    have := List.pairwise_iff_getElem.1 h j i (by rw [List.length_map]; omega) (by rw [List.length_map]; exact hi) hj
    simpa using this
theorem first_none {α β : Type} [DecidableEq β] {l : List α} {f : α → β} {v : β} : l.findIdx? (fun x => decide (f x = v)) = none ↔ v ∉ l.map f := by
  rw [List.findIdx?_eq_none_iff]
  simp
theorem first_isSome {α β : Type} [DecidableEq β] {l : List α} {f : α → β} {v : β} : (l.findIdx? (fun x => decide (f x = v))).isSome = true ↔ v ∈ l.map f := by
  rcases h : l.findIdx? (fun x => decide (f x = v)) with _ | k
  · have := first_none.1 h
    exact ⟨(fun h => by cases h), fun h => absurd h this⟩
  · refine ⟨fun _ => Classical.byContradiction fun hn => ?_, fun _ => rfl⟩
    rw [first_none.2 hn] at h; cases h
theorem nodup_set {β : Type} {l : List β} (h : l.Nodup) (k : Nat) (v : β) (hv : ∀ j (hj : j < l.length), j ≠ k → l[j] ≠ v) : (l.set k v).Nodup := by
  refine List.pairwise_iff_getElem.2 fun i j hi hj hij he => ?_
  rw [List.length_set] at hi hj
  rw [List.getElem_set, List.getElem_set] at he
  by_cases e1 : k = i
  · rw [if_pos e1, if_neg (by omega)] at he
    exact hv j hj (by omega) he.symm
  · rw [if_neg e1] at he
    by_cases e2 : k = j
    · rw [if_pos e2] at he
      exact hv i hi (by omega) he
    · rw [if_neg e2] at he
      exact List.pairwise_iff_getElem.1 h i j hi hj hij he
theorem insA_perm {α : Type} (l : List α) (i : Nat) (x : α) : (insA l i x).Perm (x :: l) := by
  unfold insA
  have h := List.perm_middle (a := x) (l₁ := l.take i) (l₂ := l.drop i)
  rw [List.take_append_drop] at h
  exact h
theorem insA_map {α β : Type} (f : α → β) (l : List α) (i : Nat) (x : α) : (insA l i x).map f = insA (l.map f) i (f x) := by
  unfold insA; rw [List.map_append, List.map_cons, List.map_take, List.map_drop]
/-- A schema, told by its lists of IDs and names. -/
structure MayQ (l : List Col3) (lst : Int) : Prop where
  len : 1 ≤ l.length ∧ l.length ≤ 6
  last : lst ≤ 10000
  col : ∀ x ∈ l, ColL lst x
  ids : (l.map (·.1)).Nodup
  nms : (l.map (·.2.1)).Nodup
theorem mayS_iff {l : List Col3} {last : Int} : MayS l last ↔ MayQ l last := by
  constructor
  · rintro ⟨h1, h2, h3⟩
    refine ⟨h1, h2, fun x hx => ?_, nodup_first.1 fun i h => (h3 i h).2.1, nodup_first.1 fun i h => (h3 i h).2.2⟩
    obtain ⟨i, hi, rfl⟩ := List.getElem_of_mem hx
    exact (h3 i hi).1
  · intro h
    exact ⟨h.len, h.last, fun i hi => ⟨h.col _ (List.getElem_mem hi), nodup_first.2 h.ids i hi, nodup_first.2 h.nms i hi⟩⟩
theorem findI_mem {l : List Col3} {id : Int} : (findI l id).isSome = true ↔ id ∈ l.map (·.1) := first_isSome
theorem findC_mem {l : List Col3} {nm : ByteArray} : (findC l nm).isSome = true ↔ nm ∈ l.map (·.2.1) := first_isSome
/-- A layout, told by the list of IDs. -/
structure LayQ (ids : List Int) (n : Nat) (m : Lay4) : Prop where
  sb : m.sb = 0 ∨ m.sb ∈ ids
  parts : 1 ≤ m.parts ∧ m.parts ≤ 4
  pb : m.pb ∈ ids ∨ m.pb = 0 ∧ m.parts = 1
  enc : ∀ e ∈ m.enc, EncL e
  len : m.enc.length = n
theorem mayLy_iff {l : List Col3} {m : Lay4} : MayLy l m ↔ LayQ (l.map (·.1)) l.length m := by
  unfold MayLy
  rw [findI_mem, findI_mem]
  exact ⟨fun ⟨a, b, c, d, e⟩ => ⟨a, b, c, d, e⟩, fun h => ⟨h.sb, h.parts, h.pb, h.enc, h.len⟩⟩
theorem nameAt_ids (l : List Col3) (k : Nat) (nm : ByteArray) : (nameAt l k nm).map (·.1) = l.map (·.1) := by
  unfold nameAt
  refine List.ext_getElem (by simp) fun i h1 h2 => ?_
  simp only [List.getElem_map, List.getElem_modify]
  split <;> rfl
theorem nameAt_nms (l : List Col3) (k : Nat) (nm : ByteArray) : (nameAt l k nm).map (·.2.1) = (l.map (·.2.1)).set k nm := by
  unfold nameAt
  refine List.ext_getElem (by simp) fun i h1 h2 => ?_
  simp only [List.getElem_map, List.getElem_modify, List.getElem_set]
  split <;> rfl
theorem nameAt_len (l : List Col3) (k : Nat) (nm : ByteArray) : (nameAt l k nm).length = l.length := by unfold nameAt; simp
theorem typeAt_ids (l : List Col3) (k : Nat) (t : Int) : (typeAt l k t).map (·.1) = l.map (·.1) := by
  unfold typeAt
  refine List.ext_getElem (by simp) fun i h1 h2 => ?_
  simp only [List.getElem_map, List.getElem_modify]
  split <;> rfl
theorem typeAt_nms (l : List Col3) (k : Nat) (t : Int) : (typeAt l k t).map (·.2.1) = l.map (·.2.1) := by
  unfold typeAt
  refine List.ext_getElem (by simp) fun i h1 h2 => ?_
  simp only [List.getElem_map, List.getElem_modify]
  split <;> rfl
theorem typeAt_len (l : List Col3) (k : Nat) (t : Int) : (typeAt l k t).length = l.length := by unfold typeAt; simp
theorem mem_modify {α : Type} {f : α → α} {l : List α} {k : Nat} {x : α} (h : x ∈ l.modify k f) : x ∈ l ∨ ∃ y ∈ l, x = f y := by
  obtain ⟨i, hi, rfl⟩ := List.getElem_of_mem h
  rw [List.length_modify] at hi
  rw [List.getElem_modify]
  split
  · exact .inr ⟨_, List.getElem_mem hi, rfl⟩
  · exact .inl (List.getElem_mem hi)
theorem MayQ.name {l : List Col3} {last : Int} (h : MayQ l last) {k : Nat} {nm : ByteArray} (hn : NameL nm) (hd : ∀ j (hj : j < l.length), j ≠ k → l[j].2.1 ≠ nm) : MayQ (nameAt l k nm) last := by
  refine ⟨by rw [nameAt_len]; exact h.len, h.last, fun x hx => ?_, by rw [nameAt_ids]; exact h.ids, ?_⟩
  · rcases mem_modify hx with hx | ⟨y, hy, rfl⟩
    · exact h.col _ hx
    · obtain ⟨h1, _, h3⟩ := h.col _ hy
      exact ⟨h1, hn, h3⟩
  · rw [nameAt_nms]
    refine nodup_set h.nms _ _ fun j hj hjk => ?_
    rw [List.length_map] at hj
    rw [List.getElem_map]
    exact hd j hj hjk
theorem MayQ.type {l : List Col3} {last : Int} (h : MayQ l last) {k : Nat} {t : Int} (hn : TypL t) : MayQ (typeAt l k t) last := by
  refine ⟨by rw [typeAt_len]; exact h.len, h.last, fun x hx => ?_, by rw [typeAt_ids]; exact h.ids, by rw [typeAt_nms]; exact h.nms⟩
  rcases mem_modify hx with hx | ⟨y, hy, rfl⟩
  · exact h.col _ hx
  · obtain ⟨h1, h2, _⟩ := h.col _ hy
    exact ⟨h1, h2, hn⟩
/-- Names differ, so what has the name of the column at a place stands there. -/
theorem MayQ.other {l : List Col3} {last : Int} (h : MayQ l last) {k : Nat} (hk : k < l.length) : ∀ j (hj : j < l.length), j ≠ k → l[j].2.1 ≠ l[k].2.1 := by
  intro j hj hjk he
  have h1 := nodup_first.2 h.nms j hj
  have h2 := nodup_first.2 h.nms k hk
  rw [he] at h1
  rw [h1] at h2
  injection h2 with h2
  exact hjk h2
theorem MayQ.findI {l : List Col3} {last : Int} (h : MayQ l last) {k : Nat} (hk : k < l.length) : findI l l[k].1 = some k := nodup_first.2 h.ids k hk
theorem MayQ.findC {l : List Col3} {last : Int} (h : MayQ l last) {k : Nat} (hk : k < l.length) : findC l l[k].2.1 = some k := nodup_first.2 h.nms k hk

section
variable {s : St3} {k : Nat}
/-- The five pairs of changes. -/
abbrev otherB : ByteArray := ⟨#[111, 116, 104, 101, 114]⟩
theorem otherL : NameL otherB := by decide +kernel
theorem applyM_of {s : St3} {c : Chg} (h : MayQ s.1 s.2.1) (hl : LayQ (s.1.map (·.1)) s.1.length s.2.2) : applyM s c = changeM s c := by
  unfold applyM; rw [if_pos ⟨mayS_iff.2 h, mayLy_iff.2 hl⟩]
def cRen (id : Int) (nm : ByteArray) : Chg := ⟨3, id, nm, 0, (0, 0, ⟨#[]⟩), 0, 0⟩
def cSort (id : Int) : Chg := ⟨6, id, ⟨#[]⟩, 0, (0, 0, ⟨#[]⟩), 0, 0⟩
def cPart (id n : Int) : Chg := ⟨7, id, ⟨#[]⟩, 0, (0, 0, ⟨#[]⟩), 0, n⟩
def cCode (id n : Int) : Chg := ⟨9, id, ⟨#[]⟩, 0, (0, 0, ⟨#[]⟩), 0, n⟩
def cDict : Chg := ⟨8, 0, ⟨#[]⟩, 0, (0, 0, ⟨#[]⟩), 0, 0⟩
/-- One goes, and back. -/
def Back (s : St3) (a b : Chg) : Prop := ∃ s1, applyM s a = .ok s1 ∧ applyM s1 b = .ok s ∧ s1.1.length = s.1.length ∧ s1.2.2.enc.length = s.2.2.enc.length ∧ ∀ x ∈ s1.1, x.2.1.size ≤ 100000
theorem renameM_at {s : St3} {c : Chg} (hn : NameL c.name) (h : findC s.1 c.name = none ∨ findC s.1 c.name = some k) : renameM s c k = .ok (nameAt s.1 k c.name, s.2) := by
  unfold renameM
  rw [if_neg (fun e => e hn), if_neg]
  rintro ⟨h1, h2⟩
  rcases h with h | h
  · rw [h] at h1; cases h1
  · exact h2 h
theorem changeM_rename {s : St3} {id : Int} {nm : ByteArray} (hf : findI s.1 id = some k) : changeM s (cRen id nm) = renameM s (cRen id nm) k := by
  unfold changeM cRen
  simp only [hf]
  rfl
theorem changeM_code {s : St3} {id n : Int} (hf : findI s.1 id = some k) : changeM s (cCode id n) = recodeM s (cCode id n) k := by
  unfold changeM cCode
  simp only [hf]
  rfl
theorem MayQ.small {l : List Col3} {last : Int} (h : MayQ l last) : ∀ x ∈ l, x.2.1.size ≤ 100000 := fun x hx => by
  have := (h.col x hx).2.1.2.2; omega
theorem back_name (h : MayQ s.1 s.2.1) (hl : LayQ (s.1.map (·.1)) s.1.length s.2.2) (hk : k < s.1.length) (ho : otherB ∉ s.1.map (·.2.1)) : Back s (cRen s.1[k].1 otherB) (cRen s.1[k].1 s.1[k].2.1) := by
  have hd : ∀ j (hj : j < s.1.length), j ≠ k → s.1[j].2.1 ≠ otherB := fun j hj _ e => ho (e ▸ List.mem_map.2 ⟨_, List.getElem_mem hj, rfl⟩)
  have h1 : MayQ (nameAt s.1 k otherB) s.2.1 := h.name otherL hd
  have hf := h.findI hk
  have hk1 : k < (nameAt s.1 k otherB).length := by rw [nameAt_len]; exact hk
  have hid : (nameAt s.1 k otherB)[k].1 = s.1[k].1 := by
    have e := List.getElem_of_eq (nameAt_ids s.1 k otherB) (i := k) (by rw [List.length_map]; exact hk1)
    rwa [List.getElem_map, List.getElem_map] at e
  have hf1 := h1.findI hk1
  rw [hid] at hf1
  have hl1 : LayQ ((nameAt s.1 k otherB).map (·.1)) (nameAt s.1 k otherB).length s.2.2 := by rw [nameAt_ids, nameAt_len]; exact hl
  refine ⟨(nameAt s.1 k otherB, s.2), ?_, ?_, nameAt_len .., rfl, h1.small⟩
  · rw [applyM_of h hl, changeM_rename hf]
    exact renameM_at otherL (.inl (first_none.2 ho))
  · rw [applyM_of (s := (nameAt s.1 k otherB, s.2)) h1 hl1, changeM_rename (s := (nameAt s.1 k otherB, s.2)) hf1]
    have hn : NameL s.1[k].2.1 := (h.col _ (List.getElem_mem hk)).2.1
    rw [renameM_at (k := k) (s := (nameAt s.1 k otherB, s.2)) (c := cRen s.1[k].1 s.1[k].2.1) hn]
    · show Except.ok (nameAt (nameAt s.1 k otherB) k s.1[k].2.1, s.2) = _
      congr 1
      refine Prod.ext ?_ rfl
      show nameAt (nameAt s.1 k otherB) k s.1[k].2.1 = s.1
      unfold nameAt
      refine List.ext_getElem (by rw [List.length_modify, List.length_modify]) fun i hi1 hi2 => ?_
      rw [List.getElem_modify, List.getElem_modify]
      by_cases e : k = i
      · subst e; rw [if_pos rfl, if_pos rfl]
      · rw [if_neg e, if_neg e]
    · left
      refine first_none.2 ?_
      show s.1[k].2.1 ∉ (nameAt s.1 k otherB).map (·.2.1)
      rw [nameAt_nms]
      intro hm
      obtain ⟨j, hj, he⟩ := List.getElem_of_mem hm
      rw [List.length_set, List.length_map] at hj
      rw [List.getElem_set] at he
      by_cases e : k = j
      · rw [if_pos e] at he
        exact ho (he ▸ List.mem_map.2 ⟨_, List.getElem_mem hk, rfl⟩)
      · rw [if_neg e, List.getElem_map] at he
        exact h.other hk j hj (Ne.symm e) he
theorem back_sort (h : MayQ s.1 s.2.1) (hl : LayQ (s.1.map (·.1)) s.1.length s.2.2) (hk : k < s.1.length) : Back s (cSort s.1[k].1) (cSort s.2.2.sb) := by
  have hm : s.1[k].1 ∈ s.1.map (·.1) := List.mem_map.2 ⟨_, List.getElem_mem hk, rfl⟩
  have e : ∀ (t : St3) (id : Int), (id = 0 ∨ id ∈ t.1.map (·.1)) → changeM t (cSort id) = .ok (t.1, t.2.1, { t.2.2 with sb := id }) := fun t id ht => by
    unfold changeM cSort resortM
    simp only
    rw [if_neg (by omega), if_pos trivial, if_neg]
    rintro ⟨h1, h2⟩
    rcases ht with ht | ht
    · exact h1 ht
    · rw [findI_mem.2 ht] at h2; cases h2
  refine ⟨(s.1, s.2.1, { s.2.2 with sb := s.1[k].1 }), ?_, ?_, rfl, rfl, h.small⟩
  · rw [applyM_of h hl, e _ _ (.inr hm)]
  · rw [applyM_of (s := (s.1, s.2.1, { s.2.2 with sb := s.1[k].1 })) h ⟨.inr hm, hl.parts, hl.pb, hl.enc, hl.len⟩]
    exact e (s.1, s.2.1, { s.2.2 with sb := s.1[k].1 }) _ hl.sb
theorem back_part (h : MayQ s.1 s.2.1) (hl : LayQ (s.1.map (·.1)) s.1.length s.2.2) (hk : k < s.1.length) : Back s (cPart s.1[k].1 3) (cPart s.2.2.pb s.2.2.parts) := by
  have hm : s.1[k].1 ∈ s.1.map (·.1) := List.mem_map.2 ⟨_, List.getElem_mem hk, rfl⟩
  have e : ∀ (t : St3) (id n : Int), (1 ≤ n ∧ n ≤ 4) → (id ∈ t.1.map (·.1) ∨ id = 0 ∧ n = 1) → changeM t (cPart id n) = .ok (t.1, t.2.1, { t.2.2 with pb := id, parts := n }) := fun t id n hn ht => by
    unfold changeM cPart repartM
    simp only
    rw [if_neg (by omega), if_neg (by omega), if_pos trivial, if_neg (by omega), if_neg]
    rintro ⟨h1, h2⟩
    rcases ht with ht | ht
    · rw [findI_mem.2 ht] at h1; cases h1
    · rcases h2 with h2 | h2
      · exact h2 ht.1
      · exact h2 ht.2
  refine ⟨(s.1, s.2.1, { s.2.2 with pb := s.1[k].1, parts := 3 }), ?_, ?_, rfl, rfl, h.small⟩
  · rw [applyM_of h hl, e _ _ _ (by omega) (.inl hm)]
  · rw [applyM_of (s := (s.1, s.2.1, { s.2.2 with pb := s.1[k].1, parts := 3 })) h ⟨hl.sb, ⟨by show (1 : Int) ≤ 3; omega, by show (3 : Int) ≤ 4; omega⟩, .inl hm, hl.enc, hl.len⟩]
    exact e (s.1, s.2.1, { s.2.2 with pb := s.1[k].1, parts := 3 }) _ _ hl.parts hl.pb
theorem back_code (h : MayQ s.1 s.2.1) (hl : LayQ (s.1.map (·.1)) s.1.length s.2.2) (hk : k < s.1.length) (hk2 : k < s.2.2.enc.length) : Back s (cCode s.1[k].1 4) (cCode s.1[k].1 s.2.2.enc[k]) := by
  have hf := h.findI hk
  have he4 : EncL 4 := ⟨by omega, by omega⟩
  have hen := hl.enc _ (List.getElem_mem hk2)
  have e : ∀ (t : St3) (id n : Int), EncL n → recodeM t (cCode id n) k = .ok (t.1, t.2.1, { t.2.2 with enc := t.2.2.enc.set k n }) := fun t id n hn => by
    unfold recodeM cCode
    simp only
    rw [if_neg (fun e => e hn)]
  refine ⟨(s.1, s.2.1, { s.2.2 with enc := s.2.2.enc.set k 4 }), ?_, ?_, rfl, by show (s.2.2.enc.set k 4).length = _; rw [List.length_set], h.small⟩
  · rw [applyM_of h hl, changeM_code hf, e _ _ _ he4]
  · rw [applyM_of (s := (s.1, s.2.1, { s.2.2 with enc := s.2.2.enc.set k 4 })) h ⟨hl.sb, hl.parts, hl.pb, fun x hx => by
        rcases List.mem_or_eq_of_mem_set hx with hx | rfl
        · exact hl.enc _ hx
        · exact he4, by show (s.2.2.enc.set k 4).length = _; rw [List.length_set]; exact hl.len⟩, changeM_code (s := (s.1, s.2.1, { s.2.2 with enc := s.2.2.enc.set k 4 })) hf]
    refine (e (s.1, s.2.1, { s.2.2 with enc := s.2.2.enc.set k 4 }) _ _ hen).trans ?_
    show Except.ok (s.1, s.2.1, { s.2.2 with enc := (s.2.2.enc.set k 4).set k s.2.2.enc[k] }) = _
    rw [List.set_set, List.set_getElem_self]
theorem back_dict (h : MayQ s.1 s.2.1) (hl : LayQ (s.1.map (·.1)) s.1.length s.2.2) : Back s cDict cDict := by
  have e : changeM s cDict = .ok s := by
    unfold changeM cDict
    simp only
    rw [if_neg (by omega), if_neg (by omega), if_neg (by omega), if_pos trivial]
  exact ⟨s, by rw [applyM_of h hl, e], by rw [applyM_of h hl, e], rfl, rfl, h.small⟩
end
end Go.Proofs.YtklohbglkbhjhaaDoor
