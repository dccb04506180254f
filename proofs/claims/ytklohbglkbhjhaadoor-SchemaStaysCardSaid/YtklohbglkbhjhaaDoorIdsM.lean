/- SchemaIDs: mathematics. -/
import Derived.Test.YtklohbglkbhjhaaDoorSchM
namespace Go.Proofs.YtklohbglkbhjhaaDoor
open Go.RowKit
set_option linter.unusedVariables false

/-- Which IDs are gone. -/
structure IdI (s : St3) (G : Nat → Bool) (i : Nat) : Prop where
  last : 1 ≤ s.2.1 ∧ s.2.1 ≤ 4 + (i : Int)
  ids : ∀ x ∈ s.1, 1 ≤ x.1 ∧ x.1 ≤ s.2.1 ∧ G x.1.toNat = false
  gone : ∀ j : Nat, G j = true → (j : Int) ≤ s.2.1
  len : 1 ≤ s.1.length ∧ s.1.length ≤ 6
  nm : ∀ x ∈ s.1, x.2.1.size ≤ 100000
  enc : s.2.2.enc.length = s.1.length
theorem mem_insA {α : Type} {l : List α} {i : Nat} {x y : α} (h : y ∈ insA l i x) : y = x ∨ y ∈ l := by
  unfold insA at h
  rcases List.mem_append.1 h with h | h
  · exact .inr (List.mem_of_mem_take h)
  · rcases List.mem_cons.1 h with h | h
    · exact .inl h
    · exact .inr (List.mem_of_mem_drop h)
theorem addM_ok {s s' : St3} {c : Chg} {typ : Int} {val : Val3} {i : Nat} (h : addM s c typ val i = .ok s') : (NameL c.name ∧ s.1.length < 6 ∧ s.2.1 < 10000) ∧ s' = (insA s.1 i (s.2.1 + 1, c.name, typ), s.2.1 + 1, { s.2.2 with enc := insA s.2.2.enc i 1 }) := by
  unfold addM at h
  by_cases h1 : ¬ (NameL c.name ∧ TypL typ)
  · rw [if_pos h1] at h; cases h
  · rw [if_neg h1] at h
    by_cases h2 : (findC s.1 c.name).isSome = true
    · rw [if_pos h2] at h; cases h
    · rw [if_neg h2] at h
      by_cases h3 : ¬ FitsV typ val
      · rw [if_pos h3] at h; cases h
      · rw [if_neg h3] at h
        by_cases h4 : 6 ≤ s.1.length ∨ 10000 ≤ s.2.1
        · rw [if_pos h4] at h; cases h
        · rw [if_neg h4] at h
          injection h with h
          exact ⟨⟨(Classical.not_not.1 h1).1, by omega, by omega⟩, h.symm⟩
theorem IdI.add {s : St3} {G : Nat → Bool} {i : Nat} (h : IdI s G i) (nm : ByteArray) (hn : NameL nm) (typ : Int) (k : Nat) (hk : k ≤ s.1.length) (h6 : s.1.length < 6) : IdI (insA s.1 k (s.2.1 + 1, nm, typ), s.2.1 + 1, { s.2.2 with enc := insA s.2.2.enc k 1 }) G (i + 1) := by
  refine ⟨⟨by have := h.last; show 1 ≤ s.2.1 + 1; omega, by have := h.last; show s.2.1 + 1 ≤ 4 + ((i + 1 : Nat) : Int); omega⟩, fun x hx => ?_, fun j hj => by have := h.gone j hj; show (j : Int) ≤ s.2.1 + 1; omega, by rw [insA_len]; have := h.len; omega, fun x hx => ?_, by show (insA s.2.2.enc k 1).length = (insA s.1 k _).length; rw [insA_len, insA_len, h.enc]⟩
  · rcases mem_insA hx with rfl | hx
    · refine ⟨by have := h.last; show 1 ≤ s.2.1 + 1; omega, Int.le_refl _, ?_⟩
      rcases hg : G (s.2.1 + 1).toNat with _ | _
      · rfl
      · have h1 := h.gone _ hg
        have h2 := h.last
        exfalso; omega
    · obtain ⟨h1, h2, h3⟩ := h.ids x hx
      exact ⟨h1, by show x.1 ≤ s.2.1 + 1; omega, h3⟩
  · rcases mem_insA hx with rfl | hx
    · have := hn.2.2; show nm.size ≤ 100000; omega
    · exact h.nm x hx
theorem applyM_ok {s s' : St3} {c : Chg} (h : applyM s c = .ok s') : MayS s.1 s.2.1 ∧ changeM s c = .ok s' := by
  unfold applyM at h
  by_cases h1 : MayS s.1 s.2.1 ∧ MayLy s.1 s.2.2
  · rw [if_pos h1] at h; exact ⟨h1.1, h⟩
  · rw [if_neg h1] at h; cases h
def goneAt (G : Nat → Bool) (k : Nat) : Nat → Bool := fun j => if j = k then true else G j
theorem IdI.stepAdd {s s' : St3} {G : Nat → Bool} {i : Nat} (h : IdI s G i) {c : Chg} (hk : c.kind = 1) (hs : applyM s c = .ok s') : IdI s' G (i + 1) := by
  obtain ⟨hm, hc⟩ := applyM_ok hs
  unfold changeM at hc
  rw [if_pos hk] at hc
  obtain ⟨⟨hn, h6, _⟩, rfl⟩ := addM_ok hc
  exact h.add _ hn _ _ (Nat.le_refl _) h6
theorem IdI.stepSplit {s s' : St3} {G : Nat → Bool} {i : Nat} (h : IdI s G i) {c : Chg} (hk : c.kind = 5) (hs : applyM s c = .ok s') : IdI s' G (i + 1) := by
  obtain ⟨hm, hc⟩ := applyM_ok hs
  unfold changeM at hc
  rw [if_neg (by omega), if_neg (by omega), if_neg (by omega), if_neg (by omega), if_pos (by omega)] at hc
  rcases hf : findI s.1 c.col with _ | k
  · rw [hf] at hc; cases hc
  · rw [hf] at hc
    simp only at hc
    rw [if_neg (by omega), if_neg (by omega), if_neg (by omega), if_pos hk] at hc
    unfold splitM at hc
    by_cases h4 : typOf s.1 k ≠ 4
    · rw [if_pos h4] at hc; cases hc
    · rw [if_neg h4] at hc
      by_cases hh : heldM s c
      · rw [if_pos hh] at hc; cases hc
      · rw [if_neg hh] at hc
        obtain ⟨⟨hn, h6, _⟩, rfl⟩ := addM_ok hc
        obtain ⟨hkl, _⟩ := findI_lt hf
        exact h.add _ hn _ _ (by omega) h6
theorem IdI.stepDrop {s s' : St3} {G : Nat → Bool} {i : Nat} (h : IdI s G i) {c : Chg} (hk : c.kind = 2) (hs : applyM s c = .ok s') : IdI s' (goneAt G c.col.toNat) (i + 1) ∧ 1 ≤ c.col ∧ c.col ≤ s.2.1 := by
  obtain ⟨hm, hc⟩ := applyM_ok hs
  unfold changeM at hc
  rw [if_neg (by omega), if_neg (by omega), if_neg (by omega), if_neg (by omega), if_pos (by omega)] at hc
  rcases hf : findI s.1 c.col with _ | k
  · rw [hf] at hc; cases hc
  · rw [hf] at hc
    simp only at hc
    rw [if_pos hk] at hc
    unfold dropM at hc
    by_cases h1 : s.1.length = 1 ∨ heldM s c
    · rw [if_pos h1] at hc; cases hc
    · rw [if_neg h1] at hc
      injection hc with hc
      subst hc
      obtain ⟨hkl, hkc⟩ := findI_lt hf
      obtain ⟨i1, i2, i3⟩ := h.ids _ (List.getElem_mem hkl)
      rw [hkc] at i1 i2
      have hl1 : (s.1.eraseIdx k).length = s.1.length - 1 := by rw [List.length_eraseIdx, if_pos hkl]
      have hl2 : (s.2.2.enc.eraseIdx k).length = s.2.2.enc.length - 1 := by rw [List.length_eraseIdx, if_pos (by rw [h.enc]; exact hkl)]
      have hlen := h.len
      have hne : s.1.length ≠ 1 := fun e => h1 (.inl e)
      refine ⟨⟨⟨h.last.1, by have := h.last; show s.2.1 ≤ 4 + ((i + 1 : Nat) : Int); omega⟩, fun x hx => ?_, fun j hj => ?_, by show 1 ≤ (s.1.eraseIdx k).length ∧ _; rw [hl1]; omega, fun x hx => h.nm x (List.mem_of_mem_eraseIdx hx), by show (s.2.2.enc.eraseIdx k).length = (s.1.eraseIdx k).length; rw [hl1, hl2, h.enc]⟩, i1, i2⟩
      · have hx' := List.mem_of_mem_eraseIdx hx
        obtain ⟨j1, j2, j3⟩ := h.ids x hx'
        refine ⟨j1, j2, ?_⟩
        unfold goneAt
        rw [if_neg, j3]
        intro e
        have hxc : x.1 = c.col := by omega
        obtain ⟨j, hj, hjk⟩ := List.mem_eraseIdx_iff_getElem.1 hx
        have h2 := (hm.2.2 j hj).2.1
        rw [hjk.2, hxc, hf] at h2
        injection h2 with h2
        exact hjk.1 h2.symm
      · unfold goneAt at hj
        by_cases e : j = c.col.toNat
        · show (j : Int) ≤ s.2.1; omega
        · rw [if_neg e] at hj; exact h.gone j hj
end Go.Proofs.YtklohbglkbhjhaaDoor
