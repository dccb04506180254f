/- What agg's functions come to: mathematics. -/
import Derived.Test.YtiacemlloaenoaaDoorPlainMath
namespace Go.Proofs.YtiacemlloaenoaaDoor
set_option linter.unusedVariables false

/-- The least, or the greatest, so far. -/
def lstep (sg : Int) (k : Nat) (a x : Val3) : Val3 := if k = 0 ∨ sg * cmp3 x a < 0 then x else a
def leastN (sg : Int) (l : List Val3) : Nat → Val3
  | 0 => (0, 0, ⟨#[]⟩)
  | k + 1 => lstep sg k (leastN sg l k) (l.getD k (0, 0, ⟨#[]⟩))
def leastV (sg : Int) (l : List Val3) : Val3 := leastN sg l l.length
theorem leastN_succ (sg : Int) (l : List Val3) (k : Nat) (h : k < l.length) : leastN sg l (k + 1) = lstep sg k (leastN sg l k) l[k] := by
  show lstep sg k (leastN sg l k) (l.getD k (0, 0, ⟨#[]⟩)) = _
  rw [List.getD_eq_getElem?_getD, List.getElem?_eq_getElem h]; rfl

/-- The sum of the numbers. -/
def sumI : List Val3 → Int
  | [] => 0
  | x :: r => x.2.1 + sumI r
theorem sumI_append (a b : List Val3) : sumI (a ++ b) = sumI a + sumI b := by
  induction a with
  | nil => simp [sumI]
  | cons x r ih => simp only [List.cons_append, sumI, ih]; omega
theorem sumI_take (l : List Val3) (k : Nat) (h : k < l.length) : sumI (l.take (k + 1)) = sumI (l.take k) + l[k].2.1 := by
  rw [List.take_succ_eq_append_getElem h, sumI_append]; simp [sumI]
def Num3 (x : Val3) : Prop := x.1 = 1 ∨ x.1 = 2
instance (x : Val3) : Decidable (Num3 x) := inferInstanceAs (Decidable (_ ∨ _))
/-- What a sum comes to: a value, or why there is none (4: EType, 5: EOver). -/
def sumV (l : List Val3) : Except Int Val3 :=
  if l = [] then .ok (0, 0, ⟨#[]⟩) else if ∀ x ∈ l, Num3 x then (if -9223372036854775808 ≤ sumI l ∧ sumI l ≤ 9223372036854775807 then .ok (2, sumI l, ⟨#[]⟩) else .error 5) else .error 4
/-- What is there of a sum in 128 bits. -/
def Sum128 (T : Int) (hi lo : Nat) : Prop := hi < 18446744073709551616 ∧ lo < 18446744073709551616 ∧ ∃ q : Int, T = q * 340282366920938463463374607431768211456 + hi * 18446744073709551616 + lo
theorem sum128_zero : Sum128 0 0 0 := ⟨by omega, by omega, 0, by omega⟩
theorem sum128_pos {T : Int} {hi lo : Nat} (h : Sum128 T hi lo) (x : Int) (h0 : 0 ≤ x) (hx : x ≤ 9223372036854775807) (u : Nat) (hu : (u : Int) = x) :
    Sum128 (T + x) ((hi + (0 + (lo + u) / 18446744073709551616) % 18446744073709551616) % 18446744073709551616) ((lo + u) % 18446744073709551616) := by
  obtain ⟨h1, h2, q, h3⟩ := h
  by_cases hc : lo + u < 18446744073709551616
  · rw [Nat.div_eq_of_lt hc, Nat.mod_eq_of_lt hc]
    have e : (hi + (0 + 0) % 18446744073709551616) % 18446744073709551616 = hi := Nat.mod_eq_of_lt h1
    rw [e]
    exact ⟨h1, hc, q, by omega⟩
  · have e1 : (lo + u) / 18446744073709551616 = 1 := by
      rw [Nat.div_eq_sub_div (by decide) (by omega), Nat.div_eq_of_lt (by omega)]
    have e2 : (lo + u) % 18446744073709551616 = lo + u - 18446744073709551616 := by
      rw [Nat.mod_eq_sub_mod (by omega), Nat.mod_eq_of_lt (by omega)]
    have e3 : (0 + 1) % 18446744073709551616 = 1 := rfl
    rw [e1, e2, e3]
    by_cases hh : hi + 1 < 18446744073709551616
    · rw [Nat.mod_eq_of_lt hh]; exact ⟨hh, by omega, q, by omega⟩
    · have : hi = 18446744073709551615 := by omega
      subst this
      exact ⟨by decide, by omega, q + 1, by omega⟩
theorem sum128_neg {T : Int} {hi lo : Nat} (h : Sum128 T hi lo) (x : Int) (h0 : x < 0) (hx : -9223372036854775808 ≤ x) (u : Nat) (hu : (u : Int) = x + 18446744073709551616) :
    Sum128 (T + x) ((hi + (18446744073709551615 + (lo + u) / 18446744073709551616) % 18446744073709551616) % 18446744073709551616) ((lo + u) % 18446744073709551616) := by
  obtain ⟨h1, h2, q, h3⟩ := h
  by_cases hc : lo + u < 18446744073709551616
  · rw [Nat.div_eq_of_lt hc, Nat.mod_eq_of_lt hc]
    have e : (18446744073709551615 + 0) % 18446744073709551616 = 18446744073709551615 := rfl
    rw [e]
    by_cases hh : hi = 0
    · subst hh
      exact ⟨by decide, hc, q - 1, by omega⟩
    · have e2 : (hi + 18446744073709551615) % 18446744073709551616 = hi - 1 := by
        rw [Nat.mod_eq_sub_mod (by omega), Nat.mod_eq_of_lt (by omega)]; omega
      rw [e2]
      exact ⟨by omega, hc, q, by omega⟩
  · have e1 : (lo + u) / 18446744073709551616 = 1 := by
      rw [Nat.div_eq_sub_div (by decide) (by omega), Nat.div_eq_of_lt (by omega)]
    have e2 : (lo + u) % 18446744073709551616 = lo + u - 18446744073709551616 := by
      rw [Nat.mod_eq_sub_mod (by omega), Nat.mod_eq_of_lt (by omega)]
    have e3 : (18446744073709551615 + 1) % 18446744073709551616 = 0 := rfl
    rw [e1, e2, e3, Nat.add_zero, Nat.mod_eq_of_lt h1]
    exact ⟨h1, by omega, q, by omega⟩
theorem sumI_bound (l : List Val3) (h : ∀ x ∈ l, -9223372036854775808 ≤ x.2.1 ∧ x.2.1 ≤ 9223372036854775807) : -9223372036854775808 * (l.length : Int) ≤ sumI l ∧ sumI l ≤ 9223372036854775807 * (l.length : Int) := by
  induction l with
  | nil => simp [sumI]
  | cons x r ih =>
    have h1 := h x (by simp)
    have h2 := ih fun y hy => h y (by simp [hy])
    simp only [sumI, List.length_cons]
    omega
/-- In the end: the sum is there just if the upper half is the lower one's sign. -/
theorem sum128_low {T : Int} {hi lo : Nat} (h : Sum128 T hi lo) (hT : -922337203685477580800000 ≤ T ∧ T ≤ 922337203685477580800000) (hl : lo < 9223372036854775808) :
    (hi = 0 ↔ (-9223372036854775808 ≤ T ∧ T ≤ 9223372036854775807)) ∧ (hi = 0 → (lo : Int) = T) := by
  obtain ⟨h1, h2, q, h3⟩ := h
  have hq : q = 0 ∨ q = -1 := by omega
  rcases hq with rfl | rfl
  · exact ⟨⟨fun e => by omega, fun e => by omega⟩, fun e => by omega⟩
  · exact ⟨⟨fun e => by omega, fun e => by omega⟩, fun e => by omega⟩
theorem sum128_high {T : Int} {hi lo : Nat} (h : Sum128 T hi lo) (hT : -922337203685477580800000 ≤ T ∧ T ≤ 922337203685477580800000) (hl : 9223372036854775808 ≤ lo) :
    (hi = 18446744073709551615 ↔ (-9223372036854775808 ≤ T ∧ T ≤ 9223372036854775807)) ∧ (hi = 18446744073709551615 → (lo : Int) - 18446744073709551616 = T) := by
  obtain ⟨h1, h2, q, h3⟩ := h
  have hq : q = 0 ∨ q = -1 := by omega
  rcases hq with rfl | rfl
  · exact ⟨⟨fun e => by omega, fun e => by omega⟩, fun e => by omega⟩
  · exact ⟨⟨fun e => by omega, fun e => by omega⟩, fun e => by omega⟩
/-- One aggregate of these places. -/
def ofV (L : List Val3) (op : Int) : Except Int Val3 :=
  if op = 1 then .ok (2, L.length, ⟨#[]⟩) else if op = 2 then sumV L else if op = 4 then .ok (leastV (-1) L) else .ok (leastV 1 L)
end Go.Proofs.YtiacemlloaenoaaDoor
