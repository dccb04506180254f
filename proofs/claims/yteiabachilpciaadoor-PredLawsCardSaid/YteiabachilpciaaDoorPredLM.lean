/- The mathematics of PredLaws: what one more test does. -/
import Derived.Test.YteiabachilpciaaDoorPredM
namespace Go.Proofs.YteiabachilpciaaDoor
open Go.RowKit
set_option linter.unusedVariables false

theorem rowT_nil (cols : List Col3) (row : List Val3) : rowT cols [] row = 2 := rfl
theorem rowT_1 (cols : List Col3) (row : List Val3) (t : Tst) (h : t.or_ = false) : rowT cols [t] row = oneT cols row t := by
  have h1 := oneT_in cols row t
  have e : rowT cols [t] row = max 0 (min 2 (oneT cols row t)) := by
    unfold rowT rowS
    simp only [List.foldl_cons, List.foldl_nil, stepT, Bool.false_and, Bool.false_eq_true, if_false]
  rw [e]; omega
/-- Or is nothing to one test. -/
theorem oneT_or (cols : List Col3) (row : List Val3) (t : Tst) (o : Bool) : oneT cols row { t with or_ := o } = oneT cols row t := rfl
/-- Not turns it. -/
theorem oneT_not (cols : List Col3) (row : List Val3) (t : Tst) (o : Bool) : oneT cols row { t with not_ := !t.not_, or_ := o } = 2 - oneT cols row t := by
  obtain ⟨nm, op, v, o1, n1⟩ := t
  cases n1
  · rfl
  · simp only [oneT, Bool.not_true, Bool.false_eq_true, if_false, if_true]
    omega
theorem rowT_2 (cols : List Col3) (row : List Val3) (t u : Tst) (ht : t.or_ = false) (hu : u.or_ = false) : rowT cols [t, u] row = min (oneT cols row t) (oneT cols row u) := by
  have h1 := oneT_in cols row t
  have h2 := oneT_in cols row u
  have e : rowT cols [t, u] row = max 0 (min (min 2 (oneT cols row t)) (oneT cols row u)) := by
    unfold rowT rowS
    simp only [List.foldl_cons, List.foldl_nil, stepT, Bool.false_and, Bool.false_eq_true, if_false, hu, Bool.and_false]
  rw [e]; omega
theorem rowT_and (cols : List Col3) (row : List Val3) (l : List Tst) (t : Tst) (ht : t.or_ = false) : rowT cols (l ++ [t]) row ≤ rowT cols l row := by
  unfold rowT
  rw [rowS_snoc]
  unfold stepT
  rw [ht, Bool.and_false, if_neg (by decide)]
  show max (rowS cols row l).2.1 (min (rowS cols row l).2.2 _) ≤ max (rowS cols row l).2.1 (rowS cols row l).2.2
  omega
theorem rowT_or (cols : List Col3) (row : List Val3) (l : List Tst) (t : Tst) (hl : 0 < l.length) (ht : t.or_ = true) : rowT cols l row ≤ rowT cols (l ++ [t]) row ∧ oneT cols row t ≤ rowT cols (l ++ [t]) row := by
  have h1 := oneT_in cols row t
  have h2 : (rowS cols row l).1 = true := by rw [rowS_fst]; exact decide_eq_true hl
  unfold rowT
  rw [rowS_snoc]
  unfold stepT
  rw [ht, h2, Bool.and_true, if_pos rfl]
  show max (rowS cols row l).2.1 (rowS cols row l).2.2 ≤ max (max (rowS cols row l).2.1 (rowS cols row l).2.2) (min 2 (oneT cols row t)) ∧ oneT cols row t ≤ max (max (rowS cols row l).2.1 (rowS cols row l).2.2) (min 2 (oneT cols row t))
  omega
theorem rowT_in (cols : List Col3) (row : List Val3) (l : List Tst) : 0 ≤ rowT cols l row ∧ rowT cols l row ≤ 2 := by
  have h := rowS_in cols row l
  unfold rowT; omega
end Go.Proofs.YteiabachilpciaaDoor
