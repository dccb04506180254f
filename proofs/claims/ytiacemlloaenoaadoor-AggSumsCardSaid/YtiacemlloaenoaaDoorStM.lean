/- Insertion sort leaves those alike as they stood: mathematics. -/
import Derived.Sort.LotA
namespace Go.Proofs.YtiacemlloaenoaaDoor
open Go Go.Sort
set_option linter.unusedVariables false
set_option linter.unusedSectionVars false
section
variable {α : Type} [Inhabited α]
/-- Of those alike the lesser first. -/
def ltS (cf : α → α → Int) (r : α → Nat) (x y : α) : Bool := decide (cf x y < 0 ∨ cf x y = 0 ∧ r x < r y)
def ltC (cf : α → α → Int) (x y : α) : Bool := decide (cf x y < 0)
structure PreO (cf : α → α → Int) : Prop where
  turn : ∀ x y, cf y x = - cf x y
  trans : ∀ x y z, cf x y ≤ 0 → cf y z ≤ 0 → cf x z ≤ 0 ∧ (cf x y < 0 ∨ cf y z < 0 → cf x z < 0)
theorem PreO.self {cf : α → α → Int} (h : PreO cf) (x : α) : cf x x = 0 := by have := h.turn x x; omega
theorem PreO.swo {cf : α → α → Int} (h : PreO cf) (r : α → Nat) : SWO (ltS cf r) where
  irrefl x := by unfold ltS; rw [decide_eq_false_iff_not, h.self]; omega
  trans x y z h1 h2 := by
    unfold ltS at *
    rw [decide_eq_true_eq] at *
    have ht := h.trans x y z (by omega) (by omega)
    rcases h1 with h1 | ⟨h1, h3⟩
    · exact .inl (ht.2 (.inl h1))
    · rcases h2 with h2 | ⟨h2, h4⟩
      · exact .inl (ht.2 (.inr h2))
      · have := h.trans z y x (by have := h.turn y z; omega) (by have := h.turn x y; omega)
        have := h.turn x z
        exact .inr ⟨by omega, by omega⟩
  ntrans x y z h1 h2 := by
    unfold ltS at *
    rw [decide_eq_false_iff_not] at *
    have a := h.turn x y
    have b := h.turn y z
    have c := h.turn x z
    have ht := h.trans z y x (by omega) (by omega)
    intro h3
    by_cases e1 : cf x y = 0
    · by_cases e2 : cf y z = 0
      · omega
      · have := ht.2 (.inl (by omega)); omega
    · have := ht.2 (.inr (by omega)); omega
theorem ins_same (cf : α → α → Int) (r : α → Nat) (i : Nat) : ∀ (j : Nat) (d : Array α), j < d.size → j ≤ i → r d[j]! = i → (∀ k, k < j → r d[k]! < i) →
    insInner (ltC cf) 0 j d = insInner (ltS cf r) 0 j d ∧ (insInner (ltC cf) 0 j d).size = d.size ∧ (∀ k, k ≤ j → r (insInner (ltC cf) 0 j d)[k]! ≤ i) ∧ ∀ k, j < k → (insInner (ltC cf) 0 j d)[k]! = d[k]!
  | 0, d, hj, _, h0, _ => by
    unfold insInner
    exact ⟨rfl, rfl, fun k hk => by obtain rfl : k = 0 := by omega
                                    omega, fun _ _ => rfl⟩
  | j + 1, d, hj, hji, h0, hl => by
    unfold insInner
    have e : ltS cf r d[j + 1]! d[j]! = ltC cf d[j + 1]! d[j]! := by
      unfold ltS ltC
      have := hl j (Nat.lt_succ_self _)
      exact decide_eq_decide.2 ⟨fun h => by omega, fun h => .inl h⟩
    rw [e]
    by_cases hlt : (j + 1 > 0 && ltC cf d[j + 1]! d[j]!) = true
    · rw [if_pos hlt, if_pos hlt]
      have hsz : (swp d (j + 1) j).size = d.size := by simp [swp]
      have g1 : (swp d (j + 1) j)[j]! = d[j + 1]! := by
        rw [getElem!_pos _ j (by rw [hsz]; omega)]
        simp [swp]
      have g2 : (swp d (j + 1) j)[j + 1]! = d[j]! := by
        rw [getElem!_pos _ (j + 1) (by rw [hsz]; omega)]
        simp [swp, hj]
      have g3 : ∀ k, k ≠ j → k ≠ j + 1 → (swp d (j + 1) j)[k]! = d[k]! := fun k h1 h2 => by
        by_cases hk : k < d.size
        · rw [getElem!_pos _ k (by rw [hsz]; exact hk), getElem!_pos d k hk]
          simp only [swp]
          rw [Array.getElem_setIfInBounds (by simpa using hk), if_neg (by omega), Array.getElem_setIfInBounds hk, if_neg (by omega)]
        · rw [getElem!_neg _ k (by rw [hsz]; exact hk), getElem!_neg d k hk]
      obtain ⟨i1, i2, i3, i4⟩ := ins_same cf r i j (swp d (j + 1) j) (by rw [hsz]; omega) (by omega) (by rw [g1]; exact h0) (fun k hk => by rw [g3 k (by omega) (by omega)]; exact hl k (by omega))
      refine ⟨i1, by rw [i2, hsz], fun k hk => ?_, fun k hk => by rw [i4 k (by omega), g3 k (by omega) (by omega)]⟩
      by_cases hkj : k ≤ j
      · exact i3 k hkj
      · obtain rfl : k = j + 1 := by omega
        rw [i4 _ (Nat.lt_succ_self _), g2]
        exact Nat.le_of_lt (hl j (Nat.lt_succ_self _))
    · rw [if_neg hlt, if_neg hlt]
      refine ⟨rfl, rfl, fun k hk => ?_, fun _ _ => rfl⟩
      by_cases hkj : k < j + 1
      · exact Nat.le_of_lt (hl k hkj)
      · obtain rfl : k = j + 1 := by omega
        omega
theorem out_same (cf : α → α → Int) (r : α → Nat) (b : Nat) : ∀ (m i : Nat) (d : Array α), b - i = m → b ≤ d.size → (∀ k, k < i → r d[k]! < i) → (∀ k, i ≤ k → k < b → r d[k]! = k) → insOuter (ltC cf) 0 b i d = insOuter (ltS cf r) 0 b i d := by
  intro m
  induction m with
  | zero =>
    intro i d hm _ _ _
    unfold insOuter
    rw [if_neg (by omega), if_neg (by omega)]
  | succ m ih =>
    intro i d hm hb h1 h2
    unfold insOuter
    rw [if_pos (by omega), if_pos (by omega)]
    obtain ⟨e1, e2, e3, e4⟩ := ins_same cf r i i d (by omega) (Nat.le_refl _) (h2 i (Nat.le_refl _) (by omega)) h1
    rw [← e1]
    refine ih (i + 1) _ (by omega) (by rw [e2]; exact hb) (fun k hk => Nat.lt_succ_of_le (e3 k (by omega))) fun k hk hkb => ?_
    rw [e4 k (by omega)]
    exact h2 k (by omega) hkb
/-- What insertion sort makes of places that stand in their order: a permutation, sorted, those alike as they stood. -/
theorem ins_stable {cf : α → α → Int} (h : PreO cf) (r : α → Nat) (d : Array α) (hd : ∀ k, k < d.size → r d[k]! = k) :
    PermIn 0 d.size d (insertionSort (ltC cf) d 0 d.size) ∧ SortedIn (ltS cf r) 0 d.size (insertionSort (ltC cf) d 0 d.size) := by
  have e : insertionSort (ltC cf) d 0 d.size = insertionSort (ltS cf r) d 0 d.size := by
    unfold insertionSort
    rcases Nat.eq_zero_or_pos d.size with h0 | hp
    · unfold insOuter; rw [if_neg (by omega), if_neg (by omega)]
    · refine out_same cf r d.size _ 1 d rfl (Nat.le_refl _) (fun k hk => ?_) (fun k hk hkb => hd k hkb)
      obtain rfl : k = 0 := by omega
      rw [hd 0 hp]; decide
  rw [e]
  exact insertionSort_holds (h.swo r) d 0 d.size (Nat.zero_le _) (Nat.le_refl _)
end
end Go.Proofs.YtiacemlloaenoaaDoor
