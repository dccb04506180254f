/- Plain mathematics of numbers of few bytes as the reference reads them. -/
import Derived.Test.YtfcedbhmbcbiaaaGreatDoorNumMath
namespace Go.Proofs.YtfcedbhmbcbiaaaGreatDoor
set_option linter.unusedVariables false

/-- The number that these bytes are, seven bits a byte, the lowest first. -/
def low7 : List Nat → Nat
  | [] => 0
  | x :: r => x % 128 + 128 * low7 r
/-- The first byte below 128 is the n-th. -/
def LowAt (b : List Nat) (n : Nat) : Prop := 1 ≤ n ∧ (∃ x, b[n - 1]? = some x ∧ x < 128) ∧ ∀ j, j + 1 < n → ∃ x, b[j]? = some x ∧ 128 ≤ x

theorem LowAt.uniq {b : List Nat} {n m : Nat} (h : LowAt b n) (k : LowAt b m) : n = m := by
  obtain ⟨h1, ⟨x, hx, hx1⟩, h3⟩ := h
  obtain ⟨k1, ⟨y, hy, hy1⟩, k3⟩ := k
  rcases Nat.lt_trichotomy n m with hlt | heq | hlt
  · obtain ⟨z, hz, hz1⟩ := k3 (n - 1) (by omega)
    rw [hx] at hz; injection hz with hz; omega
  · exact heq
  · obtain ⟨z, hz, hz1⟩ := h3 (m - 1) (by omega)
    rw [hy] at hz; injection hz with hz; omega
theorem low7_put : ∀ f v, v < 2 ^ (7 * f + 1) → low7 (putAux f v) = v
  | 0, v, h => by
    have : v < 2 := by simpa using h
    simp [putAux, low7]; omega
  | f + 1, v, h => by
    unfold putAux
    split
    · have hd : v / 128 < 2 ^ (7 * f + 1) := by
        rw [Nat.div_lt_iff_lt_mul (by omega)]
        rw [show 7 * (f + 1) + 1 = 7 * f + 1 + 7 by omega, Nat.pow_add] at h
        exact h
      simp only [low7, low7_put f _ hd]
      omega
    · simp only [low7]; omega
theorem lowAt_put : ∀ f v (r : List Nat), v < 2 ^ (7 * f + 1) → LowAt (putAux f v ++ r) (putAux f v).length
  | 0, v, r, h => by
    have : v < 2 := by simpa using h
    exact ⟨by simp [putAux], ⟨v, by simp [putAux], by omega⟩, fun j hj => by simp [putAux] at hj⟩
  | f + 1, v, r, h => by
    unfold putAux
    split
    · have hd : v / 128 < 2 ^ (7 * f + 1) := by
        rw [Nat.div_lt_iff_lt_mul (by omega)]
        rw [show 7 * (f + 1) + 1 = 7 * f + 1 + 7 by omega, Nat.pow_add] at h
        exact h
      obtain ⟨h1, ⟨x, hx, hx1⟩, h3⟩ := lowAt_put f _ r hd
      refine ⟨by simp, ⟨x, ?_, hx1⟩, fun j hj => ?_⟩
      · rw [List.length_cons, Nat.add_sub_cancel, List.cons_append]
        obtain ⟨k, hk⟩ : ∃ k, (putAux f (v / 128)).length = k + 1 := ⟨_, (Nat.sub_add_cancel h1).symm⟩
        rw [hk] at hx ⊢
        simpa using hx
      · cases j with
        | zero => exact ⟨_, by simp; rfl, by omega⟩
        | succ j =>
          obtain ⟨y, hy, hy1⟩ := h3 j (by simp at hj; omega)
          exact ⟨y, by simpa using hy, hy1⟩
    · exact ⟨by simp, ⟨v, by simp, by omega⟩, fun j hj => by simp at hj⟩
theorem takeNum_low {b : List Nat} (hb : ∀ y ∈ b, y < 256) {v n : Nat} (h : takeNum b = some (v, n)) : LowAt b n ∧ n ≤ 10 ∧ low7 (b.take n) = v ∧ b.take n = putNum v ∧ v < 18446744073709551616 := by
  obtain ⟨h1, h2, r, hr⟩ := takeNum_is hb h
  have h1' : v < 2 ^ (7 * 9 + 1) := by simpa using h1
  have ht : b.take n = putNum v := by rw [← hr, h2]; simp
  refine ⟨?_, by rw [h2]; exact putNum_le v, by rw [ht]; exact low7_put 9 v h1', ht, h1⟩
  rw [← hr, h2]
  exact lowAt_put 9 v r h1'
/-- No byte below 128 among the first ten: no number. -/
theorem takeNum_high {b : List Nat} (hb : ∀ y ∈ b, y < 256) (k : Nat) (hk : k = 10 ∨ k = b.length) (h : ∀ j, j < k → ∃ x, b[j]? = some x ∧ 128 ≤ x) : takeNum b = none := by
  cases e : takeNum b with
  | none => rfl
  | some p =>
    obtain ⟨v, n⟩ := p
    obtain ⟨⟨h1, ⟨x, hx, hx1⟩, _⟩, h10, _⟩ := takeNum_low hb e
    have hlt := (List.getElem?_eq_some_iff.1 hx).1
    obtain ⟨y, hy, hy1⟩ := h (n - 1) (by omega)
    rw [hx] at hy; injection hy with hy; omega
theorem takeNum_yes {b : List Nat} {n v : Nat} (hv : v < 18446744073709551616) (h : b.take n = putNum v) : takeNum b = some (v, (putNum v).length) := by
  rw [← List.take_append_drop n b, h]; exact takeNum_put hv _
theorem takeNum_no {b : List Nat} (hb : ∀ y ∈ b, y < 256) {n v : Nat} (hl : LowAt b n) (hv : v = low7 (b.take n) % 18446744073709551616) (h : b.take n ≠ putNum v) : takeNum b = none := by
  cases e : takeNum b with
  | none => rfl
  | some p =>
    obtain ⟨u, m⟩ := p
    obtain ⟨h1, h10, h3, h4, h5⟩ := takeNum_low hb e
    obtain rfl := hl.uniq h1
    rw [h3, Nat.mod_eq_of_lt h5] at hv
    subst hv
    exact absurd h4 h
theorem low7_drop (l : List Nat) (i : Nat) (h : i < l.length) : low7 (l.drop i) = l[i] % 128 + 128 * low7 (l.drop (i + 1)) := by
  rw [List.drop_eq_getElem_cons h]; rfl
theorem low7_step (a x : Nat) : (a % 18446744073709551616 * 128 + x % 128) % 18446744073709551616 = (x % 128 + 128 * a) % 18446744073709551616 := by
  omega
end Go.Proofs.YtfcedbhmbcbiaaaGreatDoor
