/- Plain mathematics of numbers of few bytes: seven bits a byte, the lowest first. -/
namespace Go.Proofs.YtifejanbgobngaaDoor
set_option linter.unusedVariables false

def putAux : Nat → Nat → List Nat
  | 0, v => [v]
  | f + 1, v => if 128 ≤ v then (v % 128 + 128) :: putAux f (v / 128) else [v]
/-- v in as few bytes as may be. -/
def putNum (v : Nat) : List Nat := putAux 9 v

/-- The number that bytes begin with, i of them behind us, v of them so far. -/
def takeAux : Nat → Nat → List Nat → Option (Nat × Nat)
  | _, _, [] => none
  | i, v, x :: r =>
    if i = 9 ∧ 1 < x then none
    else if 128 ≤ x then takeAux (i + 1) (v + x % 128 * 2 ^ (7 * i)) r
    else if x = 0 ∧ 0 < i then none
    else some (v + x % 128 * 2 ^ (7 * i), i + 1)
def takeNum (b : List Nat) : Option (Nat × Nat) := takeAux 0 0 b

theorem putAux_pos : ∀ f v, 0 < (putAux f v).length
  | 0, v => by simp [putAux]
  | f + 1, v => by unfold putAux; split <;> simp
theorem putAux_le : ∀ f v, (putAux f v).length ≤ f + 1
  | 0, v => by simp [putAux]
  | f + 1, v => by
    unfold putAux
    split
    · have := putAux_le f (v / 128); simp; omega
    · simp
theorem putNum_pos (v : Nat) : 0 < (putNum v).length := putAux_pos 9 v
theorem putNum_le (v : Nat) : (putNum v).length ≤ 10 := putAux_le 9 v
theorem putAux_mono : ∀ f v w, w ≤ v → (putAux f w).length ≤ (putAux f v).length
  | 0, v, w, _ => by simp [putAux]
  | f + 1, v, w, h => by
    unfold putAux
    by_cases h1 : 128 ≤ w
    · rw [if_pos h1, if_pos (by omega)]
      have := putAux_mono f (v / 128) (w / 128) (Nat.div_le_div_right h)
      simpa using this
    · rw [if_neg h1]
      split
      · simp
      · simp
theorem putNum_mono {v w : Nat} (h : w ≤ v) : (putNum w).length ≤ (putNum v).length := putAux_mono 9 v w h
theorem putAux_lt : ∀ f v, v < 2 ^ (7 * f + 1) → ∀ x ∈ putAux f v, x < 256
  | 0, v, h, x, hx => by
    simp [putAux] at hx
    subst hx
    simp at h; omega
  | f + 1, v, h, x, hx => by
    unfold putAux at hx
    split at hx
    · rcases List.mem_cons.1 hx with rfl | hx
      · omega
      · refine putAux_lt f (v / 128) ?_ x hx
        rw [Nat.div_lt_iff_lt_mul (by omega)]
        rw [show 7 * (f + 1) + 1 = 7 * f + 1 + 7 by omega, Nat.pow_add] at h
        exact h
    · simp at hx; omega
theorem putNum_lt {v : Nat} (h : v < 18446744073709551616) : ∀ x ∈ putNum v, x < 256 := putAux_lt 9 v (by simpa using h)

theorem pow7 (i : Nat) : 2 ^ (7 * (i + 1)) = 128 * 2 ^ (7 * i) := by rw [Nat.mul_succ, Nat.pow_add, Nat.mul_comm]
/-- What was put comes back, whatever stands behind. -/
theorem take_put : ∀ (f i u v : Nat) (r : List Nat), i + f = 9 → v < 2 ^ (7 * f + 1) → (0 < i → 0 < v) →
    takeAux i u (putAux f v ++ r) = some (u + v * 2 ^ (7 * i), i + (putAux f v).length)
  | 0, i, u, v, r, hf, hv, h0 => by
    have hi : i = 9 := by omega
    subst hi
    have hv2 : v < 2 := by simpa using hv
    have h0' := h0 (by omega)
    have hv1 : v = 1 := by omega
    subst hv1
    simp [putAux, takeAux]
  | f + 1, i, u, v, r, hf, hv, h0 => by
    unfold putAux
    by_cases h1 : 128 ≤ v
    · rw [if_pos h1, List.cons_append]
      unfold takeAux
      rw [if_neg (by omega), if_pos (by omega)]
      have hd : v / 128 < 2 ^ (7 * f + 1) := by
        rw [Nat.div_lt_iff_lt_mul (by omega)]
        rw [show 7 * (f + 1) + 1 = 7 * f + 1 + 7 by omega, Nat.pow_add] at hv
        exact hv
      rw [take_put f (i + 1) _ (v / 128) r (by omega) hd (fun _ => by omega)]
      have e : (v % 128 + 128) % 128 * 2 ^ (7 * i) + v / 128 * 2 ^ (7 * (i + 1)) = v * 2 ^ (7 * i) := by
        rw [Nat.add_mod_right, Nat.mod_mod, pow7, ← Nat.mul_assoc, ← Nat.add_mul]
        congr 1; omega
      rw [Nat.add_assoc, e, List.length_cons]
      congr 2; omega
    · rw [if_neg h1]
      show takeAux i u (v :: r) = _
      unfold takeAux
      rw [if_neg (by omega), if_neg h1, if_neg (by omega), Nat.mod_eq_of_lt (by omega)]
      rfl
theorem takeNum_put {v : Nat} (h : v < 18446744073709551616) (r : List Nat) : takeNum (putNum v ++ r) = some (v, (putNum v).length) := by
  have := take_put 9 0 0 v r rfl (by simpa using h) (fun h => absurd h (by omega))
  simpa [takeNum, putNum] using this
/-- Bytes that tell a number begin with what the number is put as. -/
theorem take_is : ∀ (b : List Nat) (i f u x n : Nat), i + f = 9 → (∀ y ∈ b, y < 256) → takeAux i u b = some (x, n) →
    ∃ v, x = u + v * 2 ^ (7 * i) ∧ v < 2 ^ (7 * f + 1) ∧ (0 < i → 0 < v) ∧ n = i + (putAux f v).length ∧ putAux f v <+: b
  | [], i, f, u, x, n, hf, hb, h => by simp [takeAux] at h
  | y :: r, i, f, u, x, n, hf, hb, h => by
    have hy : y < 256 := hb y (by simp)
    unfold takeAux at h
    by_cases h1 : i = 9 ∧ 1 < y
    · rw [if_pos h1] at h; cases h
    · rw [if_neg h1] at h
      by_cases h2 : 128 ≤ y
      · rw [if_pos h2] at h
        have hi : i ≠ 9 := by omega
        obtain ⟨f, rfl⟩ : ∃ g, f = g + 1 := ⟨f - 1, by omega⟩
        obtain ⟨v, h3, h4, h5, h6, h7⟩ := take_is r (i + 1) f _ x n (by omega) (fun z hz => hb z (by simp [hz])) h
        have h5' := h5 (by omega)
        have hv128 : (y - 128 + 128 * v) / 128 = v := by omega
        have hm128 : (y - 128 + 128 * v) % 128 = y - 128 := by omega
        refine ⟨y - 128 + 128 * v, ?_, ?_, fun _ => by omega, ?_, ?_⟩
        · rw [h3, pow7, Nat.add_mul, ← Nat.add_assoc]
          have e1 : y % 128 = y - 128 := by omega
          rw [e1, Nat.mul_comm 128 v, Nat.mul_assoc]
        · rw [show 7 * (f + 1) + 1 = 7 * f + 1 + 7 by omega, Nat.pow_add]
          have : 2 ^ 7 = 128 := rfl
          have h8 : v + 1 ≤ 2 ^ (7 * f + 1) := h4
          have := Nat.mul_le_mul_right 128 h8
          omega
        · unfold putAux
          rw [if_pos (by omega), hv128, List.length_cons, h6]; omega
        · unfold putAux
          rw [if_pos (by omega), hv128, hm128, show y - 128 + 128 = y by omega]
          exact List.cons_prefix_cons.2 ⟨rfl, h7⟩
      · rw [if_neg h2] at h
        by_cases h3 : y = 0 ∧ 0 < i
        · rw [if_pos h3] at h; cases h
        · rw [if_neg h3] at h
          obtain ⟨rfl, rfl⟩ := Prod.mk.inj (Option.some.inj h)
          have hp : putAux f y = [y] := by
            cases f with
            | zero => rfl
            | succ f => unfold putAux; rw [if_neg h2]
          have h9 : y < 2 ^ (7 * f + 1) := by
            cases f with
            | zero => simp; omega
            | succ f =>
              have : 2 ^ 8 ≤ 2 ^ (7 * (f + 1) + 1) := Nat.pow_le_pow_right (by omega) (by omega)
              omega
          refine ⟨y, by rw [Nat.mod_eq_of_lt (by omega)], h9, fun _ => by omega, by rw [hp]; rfl, ?_⟩
          rw [hp]
          exact ⟨r, rfl⟩
theorem takeNum_is {b : List Nat} (hb : ∀ y ∈ b, y < 256) {v n : Nat} (h : takeNum b = some (v, n)) : v < 18446744073709551616 ∧ n = (putNum v).length ∧ putNum v <+: b := by
  obtain ⟨v', h1, h2, _, h3, h4⟩ := take_is b 0 9 0 v n rfl hb h
  have : v = v' := by simpa using h1
  subst this
  exact ⟨by simpa using h2, by simpa [putNum] using h3, h4⟩
/-- Cut off it is none. -/
theorem takeNum_cut {v : Nat} (h : v < 18446744073709551616) (k : Nat) (hk : k < (putNum v).length) : takeNum ((putNum v).take k) = none := by
  cases e : takeNum ((putNum v).take k) with
  | none => rfl
  | some p =>
    obtain ⟨x, n⟩ := p
    obtain ⟨h1, h2, h3⟩ := takeNum_is (fun y hy => putNum_lt h y (List.mem_of_mem_take hy)) e
    have h4 : putNum x <+: putNum v := h3.trans (List.take_prefix _ _)
    obtain ⟨r, hr⟩ := h4
    have h5 := takeNum_put h1 r
    have h6 := takeNum_put h []
    rw [hr] at h5
    rw [List.append_nil, h5] at h6
    obtain ⟨rfl, _⟩ := Prod.mk.inj (Option.some.inj h6)
    have := h3.length_le
    rw [List.length_take] at this
    omega

def zig (v : Int) : Nat := if v < 0 then (-2 * v - 1).toNat else (2 * v).toNat
def zag (u : Nat) : Int := if u % 2 = 1 then -((u / 2 : Nat) : Int) - 1 else ((u / 2 : Nat) : Int)
theorem zag_zig (v : Int) : zag (zig v) = v := by
  unfold zag zig
  split <;> split <;> omega
theorem zig_zag (u : Nat) : zig (zag u) = u := by
  unfold zag zig
  split <;> split <;> omega
theorem zig_lt (v : Int) (h0 : -9223372036854775808 ≤ v) (h1 : v ≤ 9223372036854775807) : zig v < 18446744073709551616 := by
  unfold zig; split <;> omega
theorem zag_in (u : Nat) (h : u < 18446744073709551616) : -9223372036854775808 ≤ zag u ∧ zag u ≤ 9223372036854775807 := by
  unfold zag; split <;> omega
end Go.Proofs.YtifejanbgobngaaDoor
