/- What the law of parts counts: mathematics. -/
import Derived.Test.YtphiggjgapaaiaaPartM
namespace Go.Proofs.Ytphiggjgapaaiaa
open Go.RowKit
set_option linter.unusedVariables false

/-- Where each row was seen, ahead of the j-th of part p: its part and one. -/
def whA (F : Nat → Nat) (p j : Nat) : List Int := (List.range 20).map fun r => if F r < p ∨ (F r = p ∧ r ∈ (inPart F 20 p).take j) then (F r : Int) + 1 else 0
theorem whA_len (F : Nat → Nat) (p j : Nat) : (whA F p j).length = 20 := by simp [whA]
theorem whA_get (F : Nat → Nat) (p j r : Nat) (h : r < (whA F p j).length) : (whA F p j)[r] = if F r < p ∨ (F r = p ∧ r ∈ (inPart F 20 p).take j) then (F r : Int) + 1 else 0 := by
  simp only [whA, List.getElem_map, List.getElem_range]
theorem inPart_get (F : Nat → Nat) (p j : Nat) (h : j < (inPart F 20 p).length) : (inPart F 20 p)[j] < 20 ∧ F (inPart F 20 p)[j] = p := (inPart_mem F 20 p _).1 (List.getElem_mem h)
theorem inPart_new (F : Nat → Nat) (p j : Nat) (h : j < (inPart F 20 p).length) : (inPart F 20 p)[j] ∉ (inPart F 20 p).take j := by
  intro hm
  obtain ⟨i, hi, e⟩ := List.mem_iff_getElem.1 hm
  rw [List.length_take] at hi
  rw [List.getElem_take] at e
  have := List.pairwise_iff_getElem.1 (inPart_inc F 20 p) i j (by omega) h (by omega)
  omega
theorem inPart_up (F : Nat → Nat) (p j : Nat) (h : j + 1 < (inPart F 20 p).length) : (inPart F 20 p)[j]'(by omega) < (inPart F 20 p)[j + 1] :=
  List.pairwise_iff_getElem.1 (inPart_inc F 20 p) j (j + 1) (by omega) h (by omega)
theorem whA_no (F : Nat → Nat) (p j : Nat) (h : j < (inPart F 20 p).length) : (whA F p j)[(inPart F 20 p)[j]]'(by rw [whA_len]; exact (inPart_get F p j h).1) = 0 := by
  rw [whA_get, if_neg]
  rintro (h1 | ⟨_, h2⟩)
  · have := (inPart_get F p j h).2; omega
  · exact inPart_new F p j h h2
theorem whA_step (F : Nat → Nat) (p j : Nat) (h : j < (inPart F 20 p).length) : (whA F p j).set (inPart F 20 p)[j] ((p : Int) + 1) = whA F p (j + 1) := by
  refine List.ext_getElem (by rw [List.length_set, whA_len, whA_len]) fun r h1 h2 => ?_
  rw [List.getElem_set]
  have hF := (inPart_get F p j h).2
  by_cases e : (inPart F 20 p)[j] = r
  · rw [if_pos e]
    subst e
    rw [whA_get, if_pos (Or.inr ⟨hF, List.mem_take_iff_getElem.2 ⟨j, by omega, rfl⟩⟩), hF]
  · rw [if_neg e, whA_get, whA_get]
    have hm : r ∈ (inPart F 20 p).take (j + 1) ↔ r ∈ (inPart F 20 p).take j := by
      rw [List.take_succ_eq_append_getElem h, List.mem_append, List.mem_singleton]
      exact ⟨fun h => h.resolve_right fun e' => e e'.symm, .inl⟩
    simp only [hm]
theorem whA_next (F : Nat → Nat) (p : Nat) : whA F p (inPart F 20 p).length = whA F (p + 1) 0 := by
  refine List.ext_getElem (by rw [whA_len, whA_len]) fun r h1 h2 => ?_
  rw [whA_get, whA_get]
  rw [whA_len] at h1
  have hm : r ∈ (inPart F 20 p).take (inPart F 20 p).length ↔ F r = p := by
    rw [List.take_length, inPart_mem]; exact ⟨fun h => h.2, fun h => ⟨h1, h⟩⟩
  have hn : r ∉ (inPart F 20 (p + 1)).take 0 := by simp
  by_cases h : F r < p + 1
  · have a : F r < p ∨ (F r = p ∧ r ∈ (inPart F 20 p).take (inPart F 20 p).length) := by
      rcases Nat.lt_or_ge (F r) p with h' | h'
      · exact .inl h'
      · exact .inr ⟨by omega, hm.2 (by omega)⟩
    rw [if_pos a, if_pos (Or.inl h)]
  · have a : ¬ (F r < p ∨ (F r = p ∧ r ∈ (inPart F 20 p).take (inPart F 20 p).length)) := by
      rintro (h' | ⟨h', _⟩) <;> omega
    have b : ¬ (F r < p + 1 ∨ (F r = p + 1 ∧ r ∈ (inPart F 20 (p + 1)).take 0)) := by
      rintro (h' | ⟨_, h'⟩)
      · exact h h'
      · exact hn h'
    rw [if_neg a, if_neg b]
theorem whA_start (F : Nat → Nat) : whA F 0 0 = List.replicate 20 0 := by
  refine List.ext_getElem (by rw [whA_len, List.length_replicate]) fun r h1 h2 => ?_
  have a : ¬ (F r < 0 ∨ (F r = 0 ∧ r ∈ (inPart F 20 0).take 0)) := by
    rintro (h | ⟨_, h⟩)
    · omega
    · simp at h
  rw [whA_get, List.getElem_replicate, if_neg a]
theorem whA_end (F : Nat → Nat) (n r : Nat) (hF : ∀ r, r < 20 → F r < n) (h : r < (whA F n 0).length) : (whA F n 0)[r] = (F r : Int) + 1 := by
  rw [whA_get, if_pos (.inl (hF r (by rw [whA_len] at h; exact h)))]
/-- How many rows are in the parts ahead of p. -/
def seenA (F : Nat → Nat) (p : Nat) : Nat := ((List.range p).map fun q => (inPart F 20 q).length).sum
theorem seenA_zero (F : Nat → Nat) : seenA F 0 = 0 := rfl
theorem seenA_succ (F : Nat → Nat) (p : Nat) : seenA F (p + 1) = seenA F p + (inPart F 20 p).length := by
  unfold seenA
  rw [List.range_succ, List.map_append, List.sum_append, List.map_singleton, List.sum_singleton]
theorem seenA_all (F : Nat → Nat) (n : Nat) (hF : ∀ r, r < 20 → F r < n) : seenA F n = 20 := inPart_sum F n 20 hF
theorem seenA_le (F : Nat → Nat) (n p : Nat) (hF : ∀ r, r < 20 → F r < n) (hp : p ≤ n) : seenA F p ≤ 20 := by
  rw [← seenA_all F n hF]
  unfold seenA
  obtain ⟨d, rfl⟩ : ∃ d, n = p + d := ⟨n - p, by omega⟩
  rw [List.range_add, List.map_append, List.sum_append]
  omega
end Go.Proofs.Ytphiggjgapaaiaa
