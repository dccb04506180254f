/- What is taken, told by the extents that are held. -/
import Derived.Test.YtnmldploafpbdaaDoorHv19
namespace Go.Proofs.YtnmldploafpbdaaDoor
open Go.RowKit
set_option linter.unusedVariables false

def covB (h : List (Nat × Nat)) (y : Nat) : Bool := h.any fun x => decide (x.1 ≤ y ∧ y < x.1 + x.2)
theorem covB_false {h : List (Nat × Nat)} {y : Nat} (hc : covB h y = false) : ∀ x ∈ h, ¬ (x.1 ≤ y ∧ y < x.1 + x.2) := by
  intro x hx hxy
  have := List.any_eq_false.1 hc x hx
  simp at this
  omega
theorem covB_snoc (h : List (Nat × Nat)) (x : Nat × Nat) (y : Nat) : covB (h ++ [x]) y = (covB h y || decide (x.1 ≤ y ∧ y < x.1 + x.2)) := by
  unfold covB; rw [List.any_append]; simp
theorem covB_cons (h : List (Nat × Nat)) (x : Nat × Nat) (y : Nat) : covB (x :: h) y = (decide (x.1 ≤ y ∧ y < x.1 + x.2) || covB h y) := rfl
theorem usedL_append (a b : List Bool) : usedL (a ++ b) = usedL a + usedL b := by simp [usedL]
theorem usedL_rep (n : Nat) (b : Bool) : usedL (List.replicate n b) = if b then n else 0 := by
  cases b <;> simp [usedL]
theorem seg_rep {l : List Bool} {k m : Nat} {b : Bool} (hk : k + m ≤ l.length) (h : ∀ i, i < m → l[k + i]? = some b) : segL l k m = List.replicate m b := by
  apply List.ext_getElem?
  intro i
  rw [List.getElem?_replicate]
  by_cases hi : i < m
  · rw [if_pos hi]
    unfold segL
    rw [List.getElem?_take_of_lt hi, List.getElem?_drop]
    exact h i hi
  · rw [if_neg hi, List.getElem?_eq_none (by rw [segL_len hk]; omega)]
theorem used_split (l : List Bool) (k m : Nat) : usedL l = usedL (l.take k) + usedL (segL l k m) + usedL (l.drop (k + m)) := by
  have : l = l.take k ++ (segL l k m ++ l.drop (k + m)) := by
    unfold segL
    rw [← List.drop_drop, List.take_append_drop, List.take_append_drop]
  conv => lhs; rw [this]
  rw [usedL_append, usedL_append]; omega
theorem used_setL (l : List Bool) (k m : Nat) (b : Bool) : usedL (setL l k m b) = usedL (l.take k) + (if b then m else 0) + usedL (l.drop (k + m)) := by
  unfold setL
  rw [usedL_append, usedL_append, usedL_rep]

def sumN (h : List (Nat × Nat)) : Nat := (h.map (·.2)).sum
theorem sumN_snoc (h : List (Nat × Nat)) (x : Nat × Nat) : sumN (h ++ [x]) = sumN h + x.2 := by simp [sumN]
theorem sumN_cons (h : List (Nat × Nat)) (x : Nat × Nat) : sumN (x :: h) = x.2 + sumN h := by simp [sumN]
/-- The extents h do not meet, and are all that is taken. -/
def Cov (h : List (Nat × Nat)) (ls : List Bool) : Prop :=
  ls.length = 50 ∧ (∀ y, y < 50 → ls[y]? = some (covB h y)) ∧ h.Pairwise (fun x z => x.1 + x.2 ≤ z.1 ∨ z.1 + z.2 ≤ x.1) ∧ (∀ x ∈ h, 1 ≤ x.2 ∧ x.1 + x.2 ≤ 50) ∧ usedL ls = sumN h
theorem Cov.nil_ : Cov [] (List.replicate 50 false) := by
  refine ⟨List.length_replicate, fun y hy => ?_, List.Pairwise.nil, (fun x hx => by cases hx), rfl⟩
  rw [List.getElem?_replicate, if_pos hy]; rfl
theorem Cov.none_ {ls : List Bool} (h : Cov [] ls) : ls = List.replicate 50 false := by
  apply List.ext_getElem?
  intro y
  rw [List.getElem?_replicate]
  by_cases hy : y < 50
  · rw [if_pos hy, h.2.1 y hy]; rfl
  · rw [if_neg hy, List.getElem?_eq_none (by rw [h.1]; omega)]
theorem Cov.take {h : List (Nat × Nat)} {ls : List Bool} {j m : Nat} (hc : Cov h ls) (hok : okS ls j m) (hm : 1 ≤ m) : Cov (h ++ [(j, m)]) (setL ls j m true) := by
  obtain ⟨h1, h2, h3, h4, h5⟩ := hc
  have hjm := hok.1
  have hfree : ∀ y, j ≤ y → y < j + m → covB h y = false := by
    intro y hy1 hy2
    have e1 := h2 y (by omega)
    rw [hok.2 y hy1 hy2] at e1
    injection e1 with e1
    exact e1.symm
  have hseg : segL ls j m = List.replicate m false := seg_rep hjm fun i hi => hok.2 (j + i) (by omega) (by omega)
  refine ⟨(setL_len true hjm).trans h1, fun y hy => ?_, ?_, ?_, ?_⟩
  · rw [setL_get ls j m true hjm, covB_snoc]
    by_cases hin : j ≤ y ∧ y < j + m
    · rw [if_pos hin, decide_eq_true hin, Bool.or_true]
    · rw [if_neg hin, decide_eq_false hin, Bool.or_false]; exact h2 y hy
  · rw [List.pairwise_append]
    refine ⟨h3, List.pairwise_singleton _ _, fun x hx z hz => ?_⟩
    rw [List.mem_singleton] at hz
    subst hz
    have hx1 := h4 x hx
    have k1 := fun hy1 hy2 => covB_false (hfree (max x.1 j) hy1 hy2) x hx
    show x.1 + x.2 ≤ j ∨ j + m ≤ x.1
    by_cases hd : x.1 + x.2 ≤ j ∨ j + m ≤ x.1
    · exact hd
    · exact absurd ⟨by omega, by omega⟩ (k1 (by omega) (by omega))
  · intro x hx
    rcases List.mem_append.1 hx with hx | hx
    · exact h4 x hx
    · rw [List.mem_singleton] at hx; subst hx; exact ⟨hm, by omega⟩
  · rw [used_setL, sumN_snoc, ← h5, used_split ls j m, hseg, usedL_rep]
    simp; omega
theorem Cov.free {t : List (Nat × Nat)} {ls : List Bool} {j m : Nat} (hc : Cov ((j, m) :: t) ls) : turnS 7 ls (7 + (j : Int)) (m : Int) false = some (setL ls j m false) ∧ Cov t (setL ls j m false) ∧ turnS 7 (setL ls j m false) (7 + (j : Int)) (m : Int) false = none := by
  obtain ⟨h1, h2, h3, h4, h5⟩ := hc
  have hb := h4 (j, m) (List.mem_cons_self ..)
  have hm : 1 ≤ m := hb.1
  have hjm : j + m ≤ ls.length := by rw [h1]; exact hb.2
  have hall : ∀ i, i < m → ls[j + i]? = some true := by
    intro i hi
    rw [h2 (j + i) (by omega), covB_cons, decide_eq_true (⟨by omega, by omega⟩ : j ≤ j + i ∧ j + i < j + m), Bool.true_or]
  have hseg : segL ls j m = List.replicate m true := seg_rep hjm hall
  rw [List.pairwise_cons] at h3
  refine ⟨?_, ⟨(setL_len false hjm).trans h1, fun y hy => ?_, h3.2, fun x hx => h4 x (List.mem_cons_of_mem _ hx), ?_⟩, ?_⟩
  · rw [turnS_in hm hjm, if_pos (show idxB false (segL ls j m) = -1 from idxB_of (b := true) hjm hall)]
  · rw [setL_get ls j m false hjm]
    by_cases hin : j ≤ y ∧ y < j + m
    · rw [if_pos hin]
      have : covB t y = false := by
        unfold covB
        rw [List.any_eq_false]
        intro x hx
        have := h3.1 x hx
        simp at this ⊢
        omega
      rw [this]
    · rw [if_neg hin, h2 y hy, covB_cons, decide_eq_false hin, Bool.false_or]
  · rw [sumN_cons] at h5
    have := used_split ls j m
    rw [hseg, usedL_rep] at this
    rw [used_setL]
    simp at this ⊢
    omega
  · rw [turnS_in hm (by rw [setL_len false hjm]; exact hjm), if_neg]
    refine idxB_not (b := true) (j := 0) (by rw [setL_len false hjm]; exact hjm) (by omega) ?_
    rw [setL_get ls j m false hjm, if_pos ⟨by omega, by omega⟩]; rfl

/-- Cells a to a + q hold v. -/
def setN (l : List Nat) (k j v : Nat) : List Nat := l.take k ++ List.replicate j v ++ l.drop (k + j)
theorem setN_zero (l : List Nat) (k v : Nat) : setN l k 0 v = l := by simp [setN]
theorem setN_len {l : List Nat} {k j : Nat} (v : Nat) (h : k + j ≤ l.length) : (setN l k j v).length = l.length := by simp [setN]; omega
theorem setN_get (l : List Nat) (k j v : Nat) (h : k + j ≤ l.length) (i : Nat) : (setN l k j v)[i]? = if k ≤ i ∧ i < k + j then some v else l[i]? := by
  unfold setN
  rw [List.append_assoc, List.getElem?_append, List.length_take, Nat.min_eq_left (by omega)]
  split
  · rw [if_neg (by omega), List.getElem?_take_of_lt (by omega)]
  · rw [List.getElem?_append, List.length_replicate]
    split
    · rw [if_pos (by omega), List.getElem?_replicate, if_pos (by omega)]
    · rw [if_neg (by omega), List.getElem?_drop]
      congr 1; omega
theorem setN_step (l : List Nat) (k j v : Nat) (h : k + j < l.length) : (setN l k j v).set (k + j) v = setN l k (j + 1) v := by
  apply List.ext_getElem?
  intro i
  rw [List.getElem?_set, setN_len v (by omega), setN_get l k j v (by omega), setN_get l k (j + 1) v (by omega)]
  by_cases h1 : k + j = i
  · rw [if_pos h1, if_pos (by omega), if_pos (by omega)]
  · rw [if_neg h1]
    by_cases h2 : k ≤ i ∧ i < k + j
    · rw [if_pos h2, if_pos (by omega)]
    · rw [if_neg h2, if_neg (by omega)]
/-- What is not held has no owner. -/
def OwnI (h : List (Nat × Nat)) (own : List Nat) : Prop := own.length = 60 ∧ ∀ y, y < 50 → covB h y = false → own[7 + y]? = some 0
theorem OwnI.take {h : List (Nat × Nat)} {own : List Nat} {j m v : Nat} (ho : OwnI h own) (hb : j + m ≤ 50) : OwnI (h ++ [(j, m)]) (setN own (7 + j) m v) := by
  refine ⟨(setN_len v (by rw [ho.1]; omega)).trans ho.1, fun y hy hc => ?_⟩
  rw [covB_snoc, Bool.or_eq_false_iff] at hc
  rw [setN_get _ _ _ _ (by rw [ho.1]; omega), if_neg (by have := hc.2; simp at this; omega)]
  exact ho.2 y hy hc.1
theorem OwnI.free {t : List (Nat × Nat)} {own : List Nat} {j m : Nat} (ho : OwnI ((j, m) :: t) own) (hb : j + m ≤ 50) : OwnI t (setN own (7 + j) m 0) := by
  refine ⟨(setN_len 0 (by rw [ho.1]; omega)).trans ho.1, fun y hy hc => ?_⟩
  rw [setN_get _ _ _ _ (by rw [ho.1]; omega)]
  by_cases hin : 7 + j ≤ 7 + y ∧ 7 + y < 7 + j + m
  · rw [if_pos hin]
  · rw [if_neg hin]
    exact ho.2 y hy (by rw [covB_cons, hc, Bool.or_false]; exact decide_eq_false (by omega))
theorem OwnI.zero {h : List (Nat × Nat)} {ls : List Bool} {own : List Nat} {j m : Nat} (ho : OwnI h own) (hc : Cov h ls) (hok : okS ls j m) (q : Nat) (hq : q < m) : own[7 + j + q]? = some 0 := by
  have hjm := hok.1
  have hl := hc.1
  have e1 := hc.2.1 (j + q) (by omega)
  rw [hok.2 (j + q) (by omega) (by omega)] at e1
  injection e1 with e1
  have := ho.2 (j + q) (by omega) e1.symm
  rw [← Nat.add_assoc] at this
  exact this
theorem OwnI.nil_ : OwnI [] (List.replicate 60 0) := ⟨List.length_replicate, fun y hy _ => by rw [List.getElem?_replicate, if_pos (by omega)]⟩
/-- Extents, as the program tells them. -/
def exL (h : List (Nat × Nat)) : List (Int × Int) := h.map fun x => (7 + (x.1 : Int), (x.2 : Int))
theorem exL_snoc (h : List (Nat × Nat)) (j m : Nat) : exL (h ++ [(j, m)]) = exL h ++ [(7 + (j : Int), (m : Int))] := by simp [exL]
theorem exL_len (h : List (Nat × Nat)) : (exL h).length = h.length := by simp [exL]
theorem exL_get (h : List (Nat × Nat)) (i : Nat) (hi : i < h.length) : (exL h)[i]'(by rw [exL_len]; exact hi) = (7 + (h[i].1 : Int), (h[i].2 : Int)) := by simp [exL]
end Go.Proofs.YtnmldploafpbdaaDoor
