/- Plain mathematics of bits that are laid one behind the other. -/
import Derived.Test.YtfcedbhmbcbiaaaGreatDoorNumMath
namespace Go.Proofs.YtfcedbhmbcbiaaaGreatDoor
set_option linter.unusedVariables false

theorem cat_drop (w q : Nat) (l : List Nat) (h : ∀ x ∈ l, x < 2 ^ w) (hq : q ≤ l.length) : cat w (l.drop q) = cat w l / 2 ^ (w * q) := by
  have e := cat_append w (l.take q) (l.drop q)
  rw [List.take_append_drop] at e
  have hl : (l.take q).length = q := by simp [hq]
  have hlt := cat_lt w (l.take q) fun x hx => h x (List.mem_of_mem_take hx)
  rw [hl] at e hlt
  rw [e, Nat.add_mul_div_left _ _ (Nat.two_pow_pos _), Nat.div_eq_of_lt hlt, Nat.zero_add]
theorem cat_take (w m : Nat) (l : List Nat) (h : ∀ x ∈ l, x < 2 ^ w) : cat w (l.take m) = cat w l % 2 ^ (w * m) := by
  rcases Nat.lt_or_ge l.length m with hm | hm
  · rw [List.take_of_length_le (by omega), Nat.mod_eq_of_lt]
    exact Nat.lt_of_lt_of_le (cat_lt w l h) (Nat.pow_le_pow_right (by omega) (Nat.mul_le_mul_left _ (by omega)))
  · have e := cat_append w (l.take m) (l.drop m)
    rw [List.take_append_drop] at e
    have hl : (l.take m).length = m := by simp [hm]
    have hlt := cat_lt w (l.take m) fun x hx => h x (List.mem_of_mem_take hx)
    rw [hl] at e hlt
    rw [e, Nat.add_mul_mod_self_left, Nat.mod_eq_of_lt hlt]
theorem cat_cut (w q m : Nat) (l : List Nat) (h : ∀ x ∈ l, x < 2 ^ w) (hq : q ≤ l.length) : cat w ((l.drop q).take m) = cat w l / 2 ^ (w * q) % 2 ^ (w * m) := by
  rw [cat_take w m _ fun x hx => h x (List.mem_of_mem_drop hx), cat_drop w q l h hq]

theorem pickA (N q s k : Nat) (h : s + k ≤ 64) : N / 2 ^ (8 * q) % 2 ^ 64 / 2 ^ s % 2 ^ k = N / 2 ^ (8 * q + s) % 2 ^ k := by
  refine Nat.eq_of_testBit_eq fun i => ?_
  simp only [Nat.testBit_mod_two_pow, Nat.testBit_div_two_pow]
  by_cases hi : i < k
  · have : i + s < 64 := by omega
    simp only [hi, this, decide_true, Bool.true_and]
    congr 1; omega
  · simp [hi]
theorem pickB (N q s k : Nat) (h : 64 < s + k) (hs : s < 8) (hk : k ≤ 64) :
    ((N / 2 ^ (8 * q) % 2 ^ 64 / 2 ^ s) ||| (N / 2 ^ (8 * (q + 8)) % 2 ^ 8 * 2 ^ (64 - s) % 2 ^ 64)) % 2 ^ k = N / 2 ^ (8 * q + s) % 2 ^ k := by
  refine Nat.eq_of_testBit_eq fun i => ?_
  simp only [Nat.testBit_mod_two_pow, Nat.testBit_div_two_pow, Nat.testBit_or, Nat.testBit_mul_two_pow]
  by_cases hi : i < k
  · simp only [hi, decide_true, Bool.true_and]
    have h64 : i < 64 := by omega
    by_cases h1 : i + s < 64
    · have h2 : ¬ 64 - s ≤ i := by omega
      simp only [h1, h2, h64, decide_true, decide_false, Bool.true_and, Bool.false_and, Bool.or_false]
      congr 1; omega
    · have h2 : 64 - s ≤ i := by omega
      have h3 : i - (64 - s) < 8 := by omega
      simp only [h1, h2, h3, h64, decide_true, decide_false, Bool.true_and, Bool.false_and, Bool.false_or]
      congr 1; omega
  · simp [hi]
theorem ones_shift (k : Nat) (hk : k ≤ 64) : (2 ^ 64 - 1) / 2 ^ (64 - k) = 2 ^ k - 1 := by
  refine Nat.eq_of_testBit_eq fun i => ?_
  simp only [Nat.testBit_div_two_pow, Nat.testBit_two_pow_sub_one]
  by_cases hi : i < k
  · have : i + (64 - k) < 64 := by omega
    simp [hi, this]
  · have : ¬ i + (64 - k) < 64 := by omega
    simp [hi, this]
theorem bit_sum (M v a i : Nat) (hM : M < 2 ^ a) : (M + v * 2 ^ a).testBit i = if i < a then M.testBit i else v.testBit (i - a) := by
  have := Nat.testBit_two_pow_mul_add v hM i
  rwa [Nat.mul_comm, Nat.add_comm] at this
theorem layOr (M v q s : Nat) (hs : s < 8) (hM : M < 2 ^ (8 * q + s)) :
    (M / 2 ^ (8 * q) % 2 ^ 8) ||| (v * 2 ^ s % 2 ^ 64 % 2 ^ 8) = (M + v * 2 ^ (8 * q + s)) / 2 ^ (8 * q) % 2 ^ 8 := by
  refine Nat.eq_of_testBit_eq fun i => ?_
  simp only [Nat.testBit_or, Nat.testBit_mod_two_pow, Nat.testBit_div_two_pow, Nat.testBit_mul_two_pow, bit_sum _ _ _ _ hM]
  by_cases hi : i < 8
  · have h64 : i < 64 := by omega
    simp only [hi, h64, decide_true, Bool.true_and]
    by_cases h1 : i < s
    · have h2 : ¬ s ≤ i := by omega
      rw [if_pos (by omega)]
      simp [h2]
    · have h2 : s ≤ i := by omega
      rw [if_neg (by omega)]
      have h3 : M.testBit (i + 8 * q) = false := Nat.testBit_lt_two_pow (Nat.lt_of_lt_of_le hM (Nat.pow_le_pow_right (by omega) (by omega)))
      simp only [h3, h2, decide_true, Bool.true_and, Bool.false_or]
      congr 1; omega
  · simp [hi]
theorem layRest (M v q s : Nat) (hs : s < 8) (hM : M < 2 ^ (8 * q + s)) : v / 2 ^ (8 - s) = (M + v * 2 ^ (8 * q + s)) / 2 ^ (8 * (q + 1)) := by
  refine Nat.eq_of_testBit_eq fun i => ?_
  simp only [Nat.testBit_div_two_pow, bit_sum _ _ _ _ hM]
  rw [if_neg (by omega)]
  congr 1; omega
theorem mod_next (T k : Nat) : T % 2 ^ (8 * k) + T / 2 ^ (8 * k) % 2 ^ 8 * 2 ^ (8 * k) = T % 2 ^ (8 * (k + 1)) := by
  rw [Nat.mul_succ, Nat.pow_add, Nat.mod_mul, Nat.mul_comm (2 ^ (8 * k))]
theorem laySet (M v q s n : Nat) (hs : s < 8) (hM : M < 2 ^ (8 * q + s)) :
    (chop 8 M n).set q ((M + v * 2 ^ (8 * q + s)) / 2 ^ (8 * q) % 2 ^ 8) = chop 8 ((M + v * 2 ^ (8 * q + s)) % 2 ^ (8 * (q + 1))) n := by
  rw [chop_set 8 M n q _ (Nat.lt_of_lt_of_le hM (Nat.pow_le_pow_right (by omega) (by omega))) (Nat.mod_lt _ (by decide)), ← mod_next]
  congr 2
  rw [Nat.pow_add, Nat.mul_left_comm, Nat.add_mul_mod_self_left]
theorem layNext (T k n : Nat) : (chop 8 (T % 2 ^ (8 * k)) n).set k (T / 2 ^ (8 * k) % 2 ^ 8) = chop 8 (T % 2 ^ (8 * (k + 1))) n := by
  have h : T % 2 ^ (8 * k) < 2 ^ (8 * k) := Nat.mod_lt _ (Nat.two_pow_pos _)
  rw [chop_set 8 _ n k _ (Nat.lt_of_lt_of_le h (Nat.pow_le_pow_right (by omega) (by omega))) (Nat.mod_lt _ (by decide)), ← mod_next, Nat.mod_mod]
theorem div_next (T k : Nat) : T / 2 ^ (8 * k) / 256 = T / 2 ^ (8 * (k + 1)) := by
  rw [Nat.div_div_eq_div_mul, show 8 * (k + 1) = 8 * k + 8 from rfl, Nat.pow_add]
theorem cat_snoc (w j : Nat) (l : List Nat) (h : j < l.length) : cat w (l.take (j + 1)) = cat w (l.take j) + l[j] * 2 ^ (j * w) := by
  rw [List.take_succ_eq_append_getElem h, cat_append, List.length_take_of_le (Nat.le_of_lt h)]
  simp only [cat, Nat.mul_zero, Nat.add_zero]
  rw [Nat.mul_comm, Nat.mul_comm w j]
theorem cat_take_lt (w j : Nat) (l : List Nat) (hl : ∀ x ∈ l, x < 2 ^ w) (h : j ≤ l.length) : cat w (l.take j) < 2 ^ (j * w) := by
  have := cat_lt w (l.take j) fun x hx => hl x (List.mem_of_mem_take hx)
  rwa [List.length_take_of_le h, Nat.mul_comm] at this
theorem cat_take_end (w j n : Nat) (l : List Nat) (hl : ∀ x ∈ l, x < 2 ^ w) (h : j ≤ l.length) (hn : n = (l.length * w + 7) / 8) : cat w (l.take j) < 2 ^ (8 * n) :=
  Nat.lt_of_lt_of_le (cat_take_lt w j l hl h) (Nat.pow_le_pow_right (by omega) (by
    have : j * w ≤ l.length * w := Nat.mul_le_mul_right _ h
    omega))
/-- What bits.Take takes. -/
def TakeOK (b : List Nat) (n k : Int) : Prop := ∃ n' k' : Nat, n = n' ∧ k = k' ∧ n' ≤ 1000 ∧ k' ≤ 64 ∧ b.length = (n' * k' + 7) / 8 ∧ cat 8 b < 2 ^ (n' * k')
theorem ended_iff (b : List Nat) (at_ : Nat) (h : ∀ x ∈ b, x < 256) (hl : b.length = (at_ + 7) / 8) :
    (at_ % 8 == 0 || b.getD (at_ / 8) 0 / 2 ^ (at_ % 8) == 0) = decide (cat 8 b < 2 ^ at_) := by
  have hlt := cat_lt 8 b h
  by_cases h8 : at_ % 8 = 0
  · have e : 8 * b.length = at_ := by omega
    rw [e] at hlt
    simp [h8, hlt]
  · have hq : at_ / 8 < b.length := by omega
    have e : b.take (at_ / 8 + 1) = b := List.take_of_length_le (by omega)
    have hs := cat_snoc 8 (at_ / 8) b hq
    have ht := cat_take_lt 8 (at_ / 8) b h (by omega)
    rw [e] at hs
    rw [List.getD_eq_getElem?_getD, List.getElem?_eq_getElem hq, Option.getD_some, show (at_ % 8 == 0) = false by simp [h8], Bool.false_or, Bool.eq_iff_iff]
    simp only [beq_iff_eq, decide_eq_true_eq]
    rw [Nat.div_eq_zero_iff_lt (Nat.two_pow_pos _), hs]
    have hp : 2 ^ at_ = 2 ^ (at_ % 8) * 2 ^ (at_ / 8 * 8) := by rw [← Nat.pow_add]; congr 1; omega
    rw [hp]
    constructor
    · intro hx
      calc cat 8 (b.take (at_ / 8)) + b[at_ / 8] * 2 ^ (at_ / 8 * 8) < 2 ^ (at_ / 8 * 8) + b[at_ / 8] * 2 ^ (at_ / 8 * 8) := by omega
        _ = (b[at_ / 8] + 1) * 2 ^ (at_ / 8 * 8) := by rw [Nat.succ_mul, Nat.add_comm]
        _ ≤ 2 ^ (at_ % 8) * 2 ^ (at_ / 8 * 8) := Nat.mul_le_mul_right _ hx
    · intro hx
      exact Nat.lt_of_mul_lt_mul_right (Nat.lt_of_le_of_lt (Nat.le_add_left _ _) hx)
theorem set_fill (L : List Nat) (j n : Nat) (hL : L.length = n) (hj : j < n) (x : Nat) (hx : x = L[j]) :
    (L.take j ++ List.replicate (n - j) 0).set j x = L.take (j + 1) ++ List.replicate (n - (j + 1)) 0 := by
  subst hx
  rw [List.set_append_right _ _ (by simp; omega), List.length_take_of_le (by omega), Nat.sub_self, show n - j = (n - (j + 1)) + 1 by omega, List.replicate_succ, List.set_cons_zero, List.take_succ_eq_append_getElem (by omega), List.append_assoc]
  rfl
theorem notOK {b : List Nat} {zn zk : Int} (n k : Nat) (hn : zn = n) (hk : zk = k) (h : ¬ (n ≤ 1000 ∧ k ≤ 64 ∧ b.length = (n * k + 7) / 8 ∧ cat 8 b < 2 ^ (n * k))) : ¬ TakeOK b zn zk := by
  rintro ⟨n', k', h1, h2, h3⟩
  have e1 : n' = n := by omega
  have e2 : k' = k := by omega
  subst e1 e2
  exact h h3
theorem notOK_arg {b : List Nat} {zn zk : Int} (h : zn < 0 ∨ 1000 < zn ∨ zk < 0 ∨ 64 < zk) : ¬ TakeOK b zn zk := by
  rintro ⟨n', k', h1, h2, h3, h4, _⟩
  omega
theorem back_bytes (k m : Nat) (l : List Nat) (hw : ∀ x ∈ l, x < 2 ^ k) (hm : m = (l.length * k + 7) / 8) : cat 8 (chop 8 (cat k l) m) = cat k l ∧ cat k l < 2 ^ (l.length * k) ∧ chop k (cat k l) l.length = l := by
  have h1 := cat_lt k l hw
  rw [Nat.mul_comm] at h1
  refine ⟨?_, h1, chop_cat k l hw⟩
  rw [cat_chop, Nat.mod_eq_of_lt]
  exact Nat.lt_of_lt_of_le h1 (Nat.pow_le_pow_right (by omega) (by omega))
theorem wid_le64 {v : Nat} (hv : v < 18446744073709551616) : wid v ≤ 64 := (wid_le v 64).2 (by simpa using hv)
theorem widL_le64 (l : List Nat) (h : ∀ x ∈ l, x < 18446744073709551616) : widL l ≤ 64 := (widL_le l 64).2 (by simpa using h)
theorem cast_shr (x s : Nat) : (x : Int) / 2 ^ s = ((x / 2 ^ s : Nat) : Int) := by simp
theorem shr_lt (x s : Nat) (hx : x < 18446744073709551616) : x / 2 ^ s < 18446744073709551616 := Nat.lt_of_le_of_lt (Nat.div_le_self _ _) hx
end Go.Proofs.YtfcedbhmbcbiaaaGreatDoor
