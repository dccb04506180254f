/- The walk of the reference's takeOne. -/
import Derived.Test.YtifejanbgobngaaDoorRefL
namespace Go.Proofs.YtifejanbgobngaaDoor
open Go.RowKit
set_option linter.unusedVariables false

/-- What takeOne tells. -/
def TakesO (o : Option (Int × List Nat × Nat)) (t : Int) (w : World) (e : Ending) (w' : World) : Prop :=
  ((o = none ∧ ∃ (t' i' n' : Int) (s' : ByteArray), e = .returned (.tuple #[vagg t' i' s', .int .i64 n', .bool false])) ∨
    ∃ i s n, o = some (i, s, n) ∧ e = .returned (.tuple #[vagg t i (bstr s), .int .i64 (n : Int), .bool true])) ∧ Later w w'
theorem TakesO.no {o : Option (Int × List Nat × Nat)} {t : Int} {w w' : World} (h : o = none) (t' i' n' : Int) (s' : ByteArray) (l : Later w w') : TakesO o t w (.returned (.tuple #[vagg t' i' s', .int .i64 n', .bool false])) w' := ⟨.inl ⟨h, t', i', n', s', rfl⟩, l⟩
theorem TakesO.yes {o : Option (Int × List Nat × Nat)} {t : Int} {w w' : World} {i : Int} {s : List Nat} {n : Nat} (h : o = some (i, s, n)) (l : Later w w') : TakesO o t w (.returned (.tuple #[vagg t i (bstr s), .int .i64 (n : Int), .bool true])) w' := ⟨.inr ⟨i, s, n, h, rfl⟩, l⟩
theorem takeC_may {t : Int} {b : List Nat} {i : Int} {s : List Nat} {n : Nat} (h : readC t b = some (i, s, n)) (hm : MayV t i (bstr s).size) : takeC t b = some (i, s, n) := by
  unfold takeC; rw [h]; simp only; rw [if_pos (by rw [← bstr_size]; exact hm)]
theorem takeC_not {t : Int} {b : List Nat} {i : Int} {s : List Nat} {n : Nat} (h : readC t b = some (i, s, n)) (hm : ¬ MayV t i (bstr s).size) : takeC t b = none := by
  unfold takeC; rw [h]; simp only; rw [if_neg (by rw [← bstr_size]; exact hm)]
theorem takeC_none {t : Int} {b : List Nat} (h : readC t b = none) : takeC t b = none := by unfold takeC; rw [h]
theorem bstr_nil : bstr [] = (⟨#[]⟩ : ByteArray) := rfl

theorem takeOne_nil (t : Int) (ht : 1 ≤ t ∧ t ≤ 4) (A : Option Addr) (c : Nat) (w : World) :
    Calls Tryd.prog 54 #[.int .i64 t, .slice A 0 c] w (TakesO (takeC t []) t w) := by
  have hn : takeC t [] = none := by
    obtain rfl | rfl | rfl | rfl : t = 1 ∨ t = 2 ∨ t = 3 ∨ t = 4 := by omega
    all_goals rfl
  rw [hn]
  clear hn
  go_enter Tryd.func54, Tryd.ntmps54
  go_wp2_with fail
  exact bodyPost_ret (v := .tuple #[vagg 0 0 ⟨#[]⟩, .int .i64 0, .bool false]) (by simp [results, Tryd.results54, go_sem]) rfl (TakesO.no rfl _ _ _ _ (((Later.refl w).alloc _).alloc _))
end Go.Proofs.YtifejanbgobngaaDoor
