/- Plain mathematics, no program: numbers laid one behind the other, so many bits each ('cat'), and cut again ('chop'); how many bits a number has ('wid'). -/
namespace Go.Proofs.YtifejanbgobngaaDoor
set_option linter.unusedVariables false

def cat (w : Nat) : List Nat → Nat
  | [] => 0
  | v :: l => v + 2 ^ w * cat w l
def chop (w N : Nat) : Nat → List Nat
  | 0 => []
  | n + 1 => N % 2 ^ w :: chop w (N / 2 ^ w) n

theorem chop_length (w : Nat) : ∀ (n N : Nat), (chop w N n).length = n
  | 0, _ => rfl
  | n + 1, N => by simp [chop, chop_length w n]
theorem pow_split (w i : Nat) : 2 ^ (w * (i + 1)) = 2 ^ w * 2 ^ (w * i) := by rw [Nat.mul_succ, Nat.add_comm, Nat.pow_add]
theorem chop_get (w : Nat) : ∀ (n N i : Nat) (h : i < (chop w N n).length), (chop w N n)[i] = N / 2 ^ (w * i) % 2 ^ w
  | 0, _, _, h => by simp [chop] at h
  | n + 1, N, 0, _ => by simp [chop]
  | n + 1, N, i + 1, h => by
    simp only [chop, List.getElem_cons_succ]
    rw [chop_get w n, pow_split, Nat.div_div_eq_div_mul]
theorem chop_lt (w : Nat) : ∀ (n N : Nat), ∀ x ∈ chop w N n, x < 2 ^ w
  | 0, _, x, h => by simp [chop] at h
  | n + 1, N, x, h => by
    simp only [chop, List.mem_cons] at h
    rcases h with rfl | h
    · exact Nat.mod_lt _ (Nat.two_pow_pos w)
    · exact chop_lt w n _ x h
theorem cat_chop (w : Nat) : ∀ (n N : Nat), cat w (chop w N n) = N % 2 ^ (w * n)
  | 0, N => by simp [chop, cat, Nat.mod_one]
  | n + 1, N => by
    simp only [chop, cat]
    rw [cat_chop w n, pow_split, Nat.mod_mul]
theorem chop_cat (w : Nat) : ∀ l : List Nat, (∀ x ∈ l, x < 2 ^ w) → chop w (cat w l) l.length = l
  | [], _ => rfl
  | v :: l, h => by
    have hv : v < 2 ^ w := h v (by simp)
    simp only [List.length_cons, chop, cat]
    rw [Nat.add_mul_mod_self_left, Nat.mod_eq_of_lt hv, Nat.add_mul_div_left _ _ (Nat.two_pow_pos w), Nat.div_eq_of_lt hv, Nat.zero_add, chop_cat w l fun x hx => h x (by simp [hx])]
theorem cat_lt (w : Nat) : ∀ l : List Nat, (∀ x ∈ l, x < 2 ^ w) → cat w l < 2 ^ (w * l.length)
  | [], _ => by simp [cat]
  | v :: l, h => by
    have hv : v < 2 ^ w := h v (by simp)
    have ih := cat_lt w l fun x hx => h x (by simp [hx])
    simp only [cat, List.length_cons]
    rw [pow_split]
    calc v + 2 ^ w * cat w l < 2 ^ w + 2 ^ w * cat w l := by omega
      _ = 2 ^ w * (cat w l + 1) := by rw [Nat.mul_succ, Nat.add_comm]
      _ ≤ 2 ^ w * 2 ^ (w * l.length) := Nat.mul_le_mul_left _ ih
theorem cat_append (w : Nat) : ∀ a b : List Nat, cat w (a ++ b) = cat w a + 2 ^ (w * a.length) * cat w b
  | [], b => by simp [cat]
  | v :: a, b => by
    simp only [List.cons_append, cat, List.length_cons]
    rw [cat_append w a b, pow_split, Nat.mul_add, Nat.mul_assoc, Nat.add_assoc]
theorem cat_get (w : Nat) (l : List Nat) (h : ∀ x ∈ l, x < 2 ^ w) (i : Nat) (hi : i < l.length) : l[i] = cat w l / 2 ^ (w * i) % 2 ^ w := by
  have e := chop_cat w l h
  have := chop_get w l.length (cat w l) i (by rw [chop_length]; exact hi)
  rw [← this]
  congr 1
  exact e.symm
theorem cat_zeros (w n : Nat) : cat w (List.replicate n 0) = 0 := by
  induction n with
  | zero => rfl
  | succ n ih => simp [List.replicate_succ, cat, ih]
theorem chop_zero (w n : Nat) : chop w 0 n = List.replicate n 0 := by
  induction n with
  | zero => rfl
  | succ n ih => simp [List.replicate_succ, chop, ih]
theorem chop_append (w N m n : Nat) : chop w N (m + n) = chop w N m ++ chop w (N / 2 ^ (w * m)) n := by
  induction m generalizing N with
  | zero => simp [chop]
  | succ m ih =>
    rw [Nat.succ_add]
    simp only [chop, List.cons_append]
    rw [ih, pow_split, Nat.div_div_eq_div_mul]
theorem chop_set (w : Nat) (M n i x : Nat) (hM : M < 2 ^ (w * (i + 1))) (hx : x < 2 ^ w) :
    (chop w M n).set i x = chop w (M % 2 ^ (w * i) + x * 2 ^ (w * i)) n := by
  have hp := Nat.two_pow_pos (w * i)
  have hr : M % 2 ^ (w * i) < 2 ^ (w * i) := Nat.mod_lt _ hp
  refine List.ext_getElem (by simp [chop_length]) fun j h1 h2 => ?_
  rw [List.getElem_set, chop_get]
  rcases Nat.lt_trichotomy j i with hj | rfl | hj
  · rw [if_neg (by omega), chop_get]
    refine Nat.eq_of_testBit_eq fun b => ?_
    simp only [Nat.testBit_mod_two_pow, Nat.testBit_div_two_pow]
    by_cases hb : b < w
    · simp only [hb, decide_true, Bool.true_and]
      have hlt : b + w * j < w * i := by
        have : w * (j + 1) ≤ w * i := Nat.mul_le_mul_left _ (by omega)
        rw [Nat.mul_succ] at this; omega
      have e := Nat.testBit_two_pow_mul_add x hr (b + w * j)
      rw [Nat.mul_comm, Nat.add_comm] at e
      rw [e, if_pos hlt, Nat.testBit_mod_two_pow]
      simp [hlt]
    · simp [hb]
  · rw [if_pos rfl, chop_get, Nat.add_mul_div_right _ _ hp, Nat.div_eq_of_lt hr, Nat.zero_add, Nat.mod_eq_of_lt hx]
  · rw [if_neg (by omega), chop_get]
    have hle : 2 ^ (w * (i + 1)) ≤ 2 ^ (w * j) := Nat.pow_le_pow_right (by omega) (Nat.mul_le_mul_left _ (by omega))
    have h3 : M % 2 ^ (w * i) + x * 2 ^ (w * i) < 2 ^ (w * (i + 1)) := by
      rw [pow_split]
      calc M % 2 ^ (w * i) + x * 2 ^ (w * i) < 2 ^ (w * i) + x * 2 ^ (w * i) := by omega
        _ = (x + 1) * 2 ^ (w * i) := by rw [Nat.succ_mul, Nat.add_comm]
        _ ≤ 2 ^ w * 2 ^ (w * i) := Nat.mul_le_mul_right _ hx
    rw [Nat.div_eq_of_lt (by omega), Nat.div_eq_of_lt (by omega)]

/-- How many bits a number has. -/
def wid (v : Nat) : Nat := if v = 0 then 0 else v.log2 + 1
theorem wid_le (v k : Nat) : wid v ≤ k ↔ v < 2 ^ k := by
  unfold wid
  split
  · subst_vars; simp [Nat.two_pow_pos]
  · rename_i h
    rw [← Nat.log2_lt h]; omega
theorem wid_eq (v k : Nat) (h1 : v < 2 ^ k) (h2 : k = 0 ∨ 2 ^ (k - 1) ≤ v) : wid v = k := by
  have a := (wid_le v k).2 h1
  rcases h2 with rfl | h2
  · omega
  · rcases Nat.lt_or_ge (wid v) k with hlt | hge
    · have := (wid_le v (k - 1)).1 (by omega); omega
    · omega
theorem wid_zero : wid 0 = 0 := rfl
theorem wid_pos {v : Nat} (h : 0 < v) : 0 < wid v := by unfold wid; rw [if_neg (by omega)]; omega
theorem wid_shift (v k : Nat) (h : 2 ^ k ≤ v) : wid v = wid (v / 2 ^ k) + k := by
  have hp := Nat.two_pow_pos k
  have h1 : k < wid v := by
    rcases Nat.lt_or_ge k (wid v) with h1 | h1
    · exact h1
    · have := (wid_le v k).1 h1; omega
  refine Nat.le_antisymm ?_ ?_
  · rw [wid_le, Nat.pow_add]
    have := (wid_le (v / 2 ^ k) _).1 (Nat.le_refl _)
    exact (Nat.div_lt_iff_lt_mul hp).1 this
  · have h2 : wid (v / 2 ^ k) ≤ wid v - k := by
      rw [wid_le, Nat.div_lt_iff_lt_mul hp, ← Nat.pow_add]
      have := (wid_le v _).1 (Nat.le_refl _)
      rwa [Nat.sub_add_cancel (by omega)]
    omega
theorem wid_half (x : Nat) (h : 0 < x) : wid x = wid (x / 2) + 1 := by
  by_cases h1 : x = 1
  · subst h1; rfl
  · have := wid_shift x 1 (by omega)
    rwa [Nat.pow_one] at this
/-- How many bits the greatest of them has. -/
def widL (l : List Nat) : Nat := l.foldl (fun a v => max a (wid v)) 0
theorem foldl_max (l : List Nat) (a : Nat) (k : Nat) : l.foldl (fun a v => max a (wid v)) a ≤ k ↔ a ≤ k ∧ ∀ v ∈ l, wid v ≤ k := by
  induction l generalizing a with
  | nil => simp
  | cons v l ih => simp only [List.foldl_cons, ih, List.mem_cons, forall_eq_or_imp, Nat.max_le, and_assoc]
theorem widL_le (l : List Nat) (k : Nat) : widL l ≤ k ↔ ∀ v ∈ l, v < 2 ^ k := by
  unfold widL; rw [foldl_max]; simp [wid_le]
theorem widL_take (l : List Nat) (k : Nat) (h : k < l.length) : widL (l.take (k + 1)) = max (widL (l.take k)) (wid l[k]) := by
  unfold widL
  rw [List.take_succ_eq_append_getElem h, List.foldl_append]
  rfl
theorem or_add (A B m : Nat) (hA : A % 2 ^ m = 0) (hB : B < 2 ^ m) : A ||| B = A + B := by
  have e : A = (A / 2 ^ m) <<< m := by
    rw [Nat.shiftLeft_eq]
    have := Nat.div_add_mod A (2 ^ m)
    rw [hA, Nat.add_zero, Nat.mul_comm] at this
    exact this.symm
  rw [e]
  exact (Nat.shiftLeft_add_eq_or_of_lt hB _).symm
end Go.Proofs.YtifejanbgobngaaDoor
