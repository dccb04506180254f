/- SchemaIDs: mathematics. -/
import Derived.Test.YtklohbglkbhjhaaDoorSchM
namespace Go.Proofs.YtklohbglkbhjhaaDoor
open Go.RowKit
set_option linter.unusedVariables false

/-- Which IDs are gone. -/
structure IdI (s : St3) (G : Nat → Bool) (i : Nat) : Prop where
  last : 1 ≤ s.2.1 ∧ s.2.1 ≤ 4 + (i : Int)
  ids : ∀ x ∈ s.1, 1 ≤ x.1 ∧ x.1 ≤ s.2.1 ∧ G x.1.toNat = false
  gone : ∀ j : Nat, G j = true → (j : Int) ≤ s.2.1
  len : 1 ≤ s.1.length ∧ s.1.length ≤ 6
  nm : ∀ x ∈ s.1, x.2.1.size ≤ 9223372036854775807
  enc : s.2.2.enc.length = s.1.length
theorem mem_insA {α : Type} {l : List α} {i : Nat} {x y : α} (h : y ∈ insA l i x) : y = x ∨ y ∈ l := by
  unfold insA at h
  rcases List.mem_append.1 h with h | h
  · exact .inr (List.mem_of_mem_take h)
  · rcases List.mem_cons.1 h with h | h
    · exact .inl h
    · exact .inr (List.mem_of_mem_drop h)
theorem addM_ok {s s' : St3} {c : Chg} {typ : Int} {val : Val3} {i : Nat} (h : addM s c typ val i = .ok s') : (NameL c.name ∧ s.1.length < 6 ∧ s.2.1 < 10000) ∧ s' = (insA s.1 i (s.2.1 + 1, c.name, typ), s.2.1 + 1, { s.2.2 with enc := insA s.2.2.enc i 1 }) := by
  unfold addM at h
  by_cases h1 : ¬ (NameL c.name ∧ TypL typ)
  · rw [if_pos h1] at h; cases h
  · rw [if_neg h1] at h
    by_cases h2 : (findC s.1 c.name).isSome = true
    · rw [if_pos h2] at h; cases h
    · rw [if_neg h2] at h
      by_cases h3 : ¬ FitsV typ val
      · rw [if_pos h3] at h; cases h
      · rw [if_neg h3] at h
        by_cases h4 : 6 ≤ s.1.length ∨ 10000 ≤ s.2.1
        · rw [if_pos h4] at h; cases h
        · rw [if_neg h4] at h
          injection h with h
          exact ⟨⟨(Classical.not_not.1 h1).1, by omega, by omega⟩, h.symm⟩
theorem IdI.add {s : St3} {G : Nat → Bool} {i : Nat} (h : IdI s G i) (nm : ByteArray) (hn : NameL nm) (typ : Int) (k : Nat) (hk : k ≤ s.1.length) (h6 : s.1.length < 6) : IdI (insA s.1 k (s.2.1 + 1, nm, typ), s.2.1 + 1, { s.2.2 with enc := insA s.2.2.enc k 1 }) G (i + 1) := by
  refine ⟨⟨by have := h.last; show 1 ≤ s.2.1 + 1; omega, by have := h.last; show s.2.1 + 1 ≤ 4 + ((i + 1 : Nat) : Int); omega⟩, fun x hx => ?_, fun j hj => by have := h.gone j hj; show (j : Int) ≤ s.2.1 + 1; omega, by rw [insA_len]; have := h.len; omega, fun x hx => ?_, by show (insA s.2.2.enc k 1).length = (insA s.1 k _).length; rw [insA_len, insA_len, h.enc]⟩
  · rcases mem_insA hx with rfl | hx
    · refine ⟨by have := h.last; show 1 ≤ s.2.1 + 1; omega, Int.le_refl _, ?_⟩
      rcases hg : G (s.2.1 + 1).toNat with _ | _
      · rfl
      · have h1 := h.gone _ hg
        have h2 := h.last
        exfalso; omega
    · obtain ⟨h1, h2, h3⟩ := h.ids x hx
      exact ⟨h1, by show x.1 ≤ s.2.1 + 1; omega, h3⟩
  · rcases mem_insA hx with rfl | hx
    · have := hn.2.2; show nm.size ≤ 9223372036854775807; omega
    · exact h.nm x hx
end Go.Proofs.YtklohbglkbhjhaaDoor
