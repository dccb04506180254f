
import Derived.Laws.BitsAllLaws
import Derived.Laws.BitsLemmas
import Derived.Laws.Bits64
import Derived.PlainAid
import Derived.WalkSmall
/- Plain mathematics of numbers of few bytes: seven bits a byte, the lowest first. -/
namespace Go.Proofs.YtfcedbhmbcbiaaaGreatDoor
set_option linter.unusedVariables false

def putAux : Nat → Nat → List Nat
  | 0, v => [v]
  | f + 1, v => if 128 ≤ v then (v % 128 + 128) :: putAux f (v / 128) else [v]
/-- v in as few bytes as may be. -/
def putNum (v : Nat) : List Nat := putAux 9 v

/-- The number that bytes begin with, i of them behind us, v of them so far. -/
def takeAux : Nat → Nat → List Nat → Option (Nat × Nat)
  | _, _, [] => none
  | i, v, x :: r =>
    if i = 9 ∧ 1 < x then none
    else if 128 ≤ x then takeAux (i + 1) (v + x % 128 * 2 ^ (7 * i)) r
    else if x = 0 ∧ 0 < i then none
    else some (v + x % 128 * 2 ^ (7 * i), i + 1)
def takeNum (b : List Nat) : Option (Nat × Nat) := takeAux 0 0 b

theorem putAux_pos : ∀ f v, 0 < (putAux f v).length
  | 0, v => by simp [putAux]
  | f + 1, v => by unfold putAux; split <;> simp
theorem putAux_le : ∀ f v, (putAux f v).length ≤ f + 1
  | 0, v => by simp [putAux]
  | f + 1, v => by
    unfold putAux
    split
    · have := putAux_le f (v / 128); simp; omega
    · simp
theorem putNum_pos (v : Nat) : 0 < (putNum v).length := putAux_pos 9 v
theorem putNum_le (v : Nat) : (putNum v).length ≤ 10 := putAux_le 9 v
theorem putAux_mono : ∀ f v w, w ≤ v → (putAux f w).length ≤ (putAux f v).length
  | 0, v, w, _ => by simp [putAux]
  | f + 1, v, w, h => by
    unfold putAux
    by_cases h1 : 128 ≤ w
    · rw [if_pos h1, if_pos (by omega)]
      have := putAux_mono f (v / 128) (w / 128) (Nat.div_le_div_right h)
      simpa using this
    · rw [if_neg h1]
      split
      · simp
      · simp
theorem putNum_mono {v w : Nat} (h : w ≤ v) : (putNum w).length ≤ (putNum v).length := putAux_mono 9 v w h
theorem putAux_lt : ∀ f v, v < 2 ^ (7 * f + 1) → ∀ x ∈ putAux f v, x < 256
  | 0, v, h, x, hx => by
    simp [putAux] at hx
    subst hx
    simp at h; omega
  | f + 1, v, h, x, hx => by
    unfold putAux at hx
    split at hx
    · rcases List.mem_cons.1 hx with rfl | hx
      · omega
      · refine putAux_lt f (v / 128) ?_ x hx
        rw [Nat.div_lt_iff_lt_mul (by omega)]
        rw [show 7 * (f + 1) + 1 = 7 * f + 1 + 7 by omega, Nat.pow_add] at h
        exact h
    · simp at hx; omega
theorem putNum_lt {v : Nat} (h : v < 18446744073709551616) : ∀ x ∈ putNum v, x < 256 := putAux_lt 9 v (by simpa using h)

theorem pow7 (i : Nat) : 2 ^ (7 * (i + 1)) = 128 * 2 ^ (7 * i) := by rw [Nat.mul_succ, Nat.pow_add, Nat.mul_comm]
/-- What was put comes back, whatever stands behind. -/
theorem take_put : ∀ (f i u v : Nat) (r : List Nat), i + f = 9 → v < 2 ^ (7 * f + 1) → (0 < i → 0 < v) →
    takeAux i u (putAux f v ++ r) = some (u + v * 2 ^ (7 * i), i + (putAux f v).length)
  | 0, i, u, v, r, hf, hv, h0 => by
    have hi : i = 9 := by omega
    subst hi
    have hv2 : v < 2 := by simpa using hv
    have h0' := h0 (by omega)
    have hv1 : v = 1 := by omega
    subst hv1
    simp [putAux, takeAux]
  | f + 1, i, u, v, r, hf, hv, h0 => by
    unfold putAux
    by_cases h1 : 128 ≤ v
    · rw [if_pos h1, List.cons_append]
      unfold takeAux
      rw [if_neg (by omega), if_pos (by omega)]
      have hd : v / 128 < 2 ^ (7 * f + 1) := by
        rw [Nat.div_lt_iff_lt_mul (by omega)]
        rw [show 7 * (f + 1) + 1 = 7 * f + 1 + 7 by omega, Nat.pow_add] at hv
        exact hv
      rw [take_put f (i + 1) _ (v / 128) r (by omega) hd (fun _ => by omega)]
      have e : (v % 128 + 128) % 128 * 2 ^ (7 * i) + v / 128 * 2 ^ (7 * (i + 1)) = v * 2 ^ (7 * i) := by
        rw [Nat.add_mod_right, Nat.mod_mod, pow7, ← Nat.mul_assoc, ← Nat.add_mul]
        congr 1; omega
      rw [Nat.add_assoc, e, List.length_cons]
      congr 2; omega
    · rw [if_neg h1]
      show takeAux i u (v :: r) = _
      unfold takeAux
      rw [if_neg (by omega), if_neg h1, if_neg (by omega), Nat.mod_eq_of_lt (by omega)]
      rfl
theorem takeNum_put {v : Nat} (h : v < 18446744073709551616) (r : List Nat) : takeNum (putNum v ++ r) = some (v, (putNum v).length) := by
  have := take_put 9 0 0 v r rfl (by simpa using h) (fun h => absurd h (by omega))
  simpa [takeNum, putNum] using this
/-- Bytes that tell a number begin with what the number is put as. -/
theorem take_is : ∀ (b : List Nat) (i f u x n : Nat), i + f = 9 → (∀ y ∈ b, y < 256) → takeAux i u b = some (x, n) →
    ∃ v, x = u + v * 2 ^ (7 * i) ∧ v < 2 ^ (7 * f + 1) ∧ (0 < i → 0 < v) ∧ n = i + (putAux f v).length ∧ putAux f v <+: b
  | [], i, f, u, x, n, hf, hb, h => by simp [takeAux] at h
  | y :: r, i, f, u, x, n, hf, hb, h => by
    have hy : y < 256 := hb y (by simp)
    unfold takeAux at h
    by_cases h1 : i = 9 ∧ 1 < y
    · rw [if_pos h1] at h; cases h
    · rw [if_neg h1] at h
      by_cases h2 : 128 ≤ y
      · rw [if_pos h2] at h
        have hi : i ≠ 9 := by omega
        obtain ⟨f, rfl⟩ : ∃ g, f = g + 1 := ⟨f - 1, by omega⟩
        obtain ⟨v, h3, h4, h5, h6, h7⟩ := take_is r (i + 1) f _ x n (by omega) (fun z hz => hb z (by simp [hz])) h
        have h5' := h5 (by omega)
        have hv128 : (y - 128 + 128 * v) / 128 = v := by omega
        have hm128 : (y - 128 + 128 * v) % 128 = y - 128 := by omega
        refine ⟨y - 128 + 128 * v, ?_, ?_, fun _ => by omega, ?_, ?_⟩
        · rw [h3, pow7, Nat.add_mul, ← Nat.add_assoc]
          have e1 : y % 128 = y - 128 := by omega
          rw [e1, Nat.mul_comm 128 v, Nat.mul_assoc]
        · rw [show 7 * (f + 1) + 1 = 7 * f + 1 + 7 by omega, Nat.pow_add]
          have : 2 ^ 7 = 128 := rfl
          have h8 : v + 1 ≤ 2 ^ (7 * f + 1) := h4
          have := Nat.mul_le_mul_right 128 h8
          omega
        · unfold putAux
          rw [if_pos (by omega), hv128, List.length_cons, h6]; omega
        · unfold putAux
          rw [if_pos (by omega), hv128, hm128, show y - 128 + 128 = y by omega]
          exact List.cons_prefix_cons.2 ⟨rfl, h7⟩
      · rw [if_neg h2] at h
        by_cases h3 : y = 0 ∧ 0 < i
        · rw [if_pos h3] at h; cases h
        · rw [if_neg h3] at h
          obtain ⟨rfl, rfl⟩ := Prod.mk.inj (Option.some.inj h)
          have hp : putAux f y = [y] := by
            cases f with
            | zero => rfl
            | succ f => unfold putAux; rw [if_neg h2]
          have h9 : y < 2 ^ (7 * f + 1) := by
            cases f with
            | zero => simp; omega
            | succ f =>
              have : 2 ^ 8 ≤ 2 ^ (7 * (f + 1) + 1) := Nat.pow_le_pow_right (by omega) (by omega)
              omega
          refine ⟨y, by rw [Nat.mod_eq_of_lt (by omega)], h9, fun _ => by omega, by rw [hp]; rfl, ?_⟩
          rw [hp]
          exact ⟨r, rfl⟩
theorem takeNum_is {b : List Nat} (hb : ∀ y ∈ b, y < 256) {v n : Nat} (h : takeNum b = some (v, n)) : v < 18446744073709551616 ∧ n = (putNum v).length ∧ putNum v <+: b := by
  obtain ⟨v', h1, h2, _, h3, h4⟩ := take_is b 0 9 0 v n rfl hb h
  have : v = v' := by simpa using h1
  subst this
  exact ⟨by simpa using h2, by simpa [putNum] using h3, h4⟩
/-- Cut off it is none. -/
theorem takeNum_cut {v : Nat} (h : v < 18446744073709551616) (k : Nat) (hk : k < (putNum v).length) : takeNum ((putNum v).take k) = none := by
  cases e : takeNum ((putNum v).take k) with
  | none => rfl
  | some p =>
    obtain ⟨x, n⟩ := p
    obtain ⟨h1, h2, h3⟩ := takeNum_is (fun y hy => putNum_lt h y (List.mem_of_mem_take hy)) e
    have h4 : putNum x <+: putNum v := h3.trans (List.take_prefix _ _)
    obtain ⟨r, hr⟩ := h4
    have h5 := takeNum_put h1 r
    have h6 := takeNum_put h []
    rw [hr] at h5
    rw [List.append_nil, h5] at h6
    obtain ⟨rfl, _⟩ := Prod.mk.inj (Option.some.inj h6)
    have := h3.length_le
    rw [List.length_take] at this
    omega

def zig (v : Int) : Nat := if v < 0 then (-2 * v - 1).toNat else (2 * v).toNat
def zag (u : Nat) : Int := if u % 2 = 1 then -((u / 2 : Nat) : Int) - 1 else ((u / 2 : Nat) : Int)
theorem zag_zig (v : Int) : zag (zig v) = v := by
  unfold zag zig
  split <;> split <;> omega
theorem zig_zag (u : Nat) : zig (zag u) = u := by
  unfold zag zig
  split <;> split <;> omega
theorem zig_lt (v : Int) (h0 : -9223372036854775808 ≤ v) (h1 : v ≤ 9223372036854775807) : zig v < 18446744073709551616 := by
  unfold zig; split <;> omega
theorem zag_in (u : Nat) (h : u < 18446744073709551616) : -9223372036854775808 ≤ zag u ∧ zag u ≤ 9223372036854775807 := by
  unfold zag; split <;> omega
end Go.Proofs.YtfcedbhmbcbiaaaGreatDoor

/- Exclusive or with all bits, and with none. -/

namespace Go.Proofs.YtfcedbhmbcbiaaaGreatDoor
open Go.RowKit
set_option linter.unusedVariables false

theorem nat_xor_ones (a : Nat) (h : a < 2 ^ 64) : a ^^^ (2 ^ 64 - 1) = 2 ^ 64 - (a + 1) := by
  refine Nat.eq_of_testBit_eq fun i => ?_
  rw [Nat.testBit_xor, Nat.testBit_two_pow_sub_one, Nat.testBit_two_pow_sub_succ h]
  by_cases hi : i < 64
  · simp [hi]
  · have : a.testBit i = false := Nat.testBit_lt_two_pow (Nat.lt_of_lt_of_le h (Nat.pow_le_pow_right (by omega) (by omega)))
    simp [hi, this]
theorem zig_val (v : Int) (h0 : -9223372036854775808 ≤ v) (h1 : v ≤ 9223372036854775807) :
    bits BinOp.xor IntKind.u64 (IntKind.u64.wrap (IntKind.u64.wrap v * 2)) (IntKind.u64.wrap (v / 9223372036854775808)) = ((zig v : Nat) : Int) := by
  unfold zig
  by_cases hv : v < 0
  · rw [if_pos hv, PlainAid.shr63_neg hv h0, PlainAid.u64_neg hv (by omega)]
    obtain ⟨a, ha⟩ : ∃ a : Nat, (a : Int) = 2 * v + 18446744073709551616 := ⟨(2 * v + 18446744073709551616).toNat, by omega⟩
    have e1 : IntKind.u64.wrap ((v + 18446744073709551616) * 2) = (a : Int) := by rw [IntKind.wrap_u64]; omega
    have e2 : IntKind.u64.wrap (-1) = ((2 ^ 64 - 1 : Nat) : Int) := by rw [IntKind.wrap_u64]; rfl
    rw [e1, e2, bits_xor_u64_nat a (2 ^ 64 - 1) (by omega) (by decide), nat_xor_ones a (by omega)]
    omega
  · rw [if_neg hv, PlainAid.shr63_nonneg (by omega) h1, PlainAid.u64_nonneg (n := v) (by omega) (by omega), PlainAid.u64_nonneg (n := v * 2) (by omega) (by omega)]
    obtain ⟨a, rfl⟩ := Int.eq_ofNat_of_zero_le (show 0 ≤ v by omega)
    have e1 : (a : Int) * 2 = ((a * 2 : Nat) : Int) := by simp
    have e2 : IntKind.u64.wrap 0 = ((0 : Nat) : Int) := by rw [IntKind.wrap_u64]; rfl
    rw [e1, e2, bits_xor_u64_nat _ 0 (by omega) (by decide), Nat.xor_zero]
    omega
theorem xor_i64_neg (a : Nat) (h : a < 9223372036854775808) : bits .xor .i64 (a : Int) (-1) = -(a : Int) - 1 := by
  show IntKind.i64.wrap ((BitVec.ofInt 64 (a : Int) ^^^ BitVec.ofInt 64 (-1)).toNat : Int) = _
  have e : BitVec.ofInt 64 (-1) = BitVec.allOnes 64 := by decide
  rw [e, BitVec.xor_allOnes, BitVec.toNat_not, BitVec.ofInt_natCast, BitVec.toNat_ofNat, Nat.mod_eq_of_lt (by omega), IntKind.wrap_i64]
  omega
theorem xor_i64_zero (a : Nat) (h : a < 9223372036854775808) : bits .xor .i64 (a : Int) 0 = (a : Int) := by
  show IntKind.i64.wrap ((BitVec.ofInt 64 (a : Int) ^^^ BitVec.ofInt 64 0).toNat : Int) = _
  have e : BitVec.ofInt 64 0 = 0#64 := by decide
  rw [e, BitVec.xor_zero, BitVec.ofInt_natCast, BitVec.toNat_ofNat, Nat.mod_eq_of_lt (by omega), IntKind.wrap_i64]
  omega
theorem zag_val (u : Nat) (h1 : u < 18446744073709551616) : bits BinOp.xor IntKind.i64 ((u : Int) / 2) (wrap64 (-wrap64 (bits BinOp.and IntKind.u64 (u : Int) 1))) = zag u := by
  unfold zag
  rw [and_one_u64 _ (by omega) (by omega)]
  have e : ((u : Int) / 2) = ((u / 2 : Nat) : Int) := by simp
  rw [e]
  by_cases hu : u % 2 = 1
  · rw [if_pos hu]
    have e1 : wrap64 (-wrap64 ((u : Int) % 2)) = -1 := by unfold wrap64; omega
    rw [e1, xor_i64_neg _ (by omega)]
  · rw [if_neg hu]
    have e1 : wrap64 (-wrap64 ((u : Int) % 2)) = 0 := by unfold wrap64; omega
    rw [e1, xor_i64_zero _ (by omega)]
end Go.Proofs.YtfcedbhmbcbiaaaGreatDoor

/- Plain mathematics, no program: numbers laid one behind the other, so many bits each ('cat'), and cut again ('chop'); how many bits a number has ('wid'). -/
namespace Go.Proofs.YtfcedbhmbcbiaaaGreatDoor
set_option linter.unusedVariables false

def cat (w : Nat) : List Nat → Nat
  | [] => 0
  | v :: l => v + 2 ^ w * cat w l
def chop (w N : Nat) : Nat → List Nat
  | 0 => []
  | n + 1 => N % 2 ^ w :: chop w (N / 2 ^ w) n

theorem chop_length (w : Nat) : ∀ (n N : Nat), (chop w N n).length = n
  | 0, _ => rfl
  | n + 1, N => by simp [chop, chop_length w n]
theorem pow_split (w i : Nat) : 2 ^ (w * (i + 1)) = 2 ^ w * 2 ^ (w * i) := by rw [Nat.mul_succ, Nat.add_comm, Nat.pow_add]
theorem chop_get (w : Nat) : ∀ (n N i : Nat) (h : i < (chop w N n).length), (chop w N n)[i] = N / 2 ^ (w * i) % 2 ^ w
  | 0, _, _, h => by simp [chop] at h
  | n + 1, N, 0, _ => by simp [chop]
  | n + 1, N, i + 1, h => by
    simp only [chop, List.getElem_cons_succ]
    rw [chop_get w n, pow_split, Nat.div_div_eq_div_mul]
theorem chop_lt (w : Nat) : ∀ (n N : Nat), ∀ x ∈ chop w N n, x < 2 ^ w
  | 0, _, x, h => by simp [chop] at h
  | n + 1, N, x, h => by
    simp only [chop, List.mem_cons] at h
    rcases h with rfl | h
    · exact Nat.mod_lt _ (Nat.two_pow_pos w)
    · exact chop_lt w n _ x h
theorem cat_chop (w : Nat) : ∀ (n N : Nat), cat w (chop w N n) = N % 2 ^ (w * n)
  | 0, N => by simp [chop, cat, Nat.mod_one]
  | n + 1, N => by
    simp only [chop, cat]
    rw [cat_chop w n, pow_split, Nat.mod_mul]
theorem chop_cat (w : Nat) : ∀ l : List Nat, (∀ x ∈ l, x < 2 ^ w) → chop w (cat w l) l.length = l
  | [], _ => rfl
  | v :: l, h => by
    have hv : v < 2 ^ w := h v (by simp)
    simp only [List.length_cons, chop, cat]
    rw [Nat.add_mul_mod_self_left, Nat.mod_eq_of_lt hv, Nat.add_mul_div_left _ _ (Nat.two_pow_pos w), Nat.div_eq_of_lt hv, Nat.zero_add, chop_cat w l fun x hx => h x (by simp [hx])]
theorem cat_lt (w : Nat) : ∀ l : List Nat, (∀ x ∈ l, x < 2 ^ w) → cat w l < 2 ^ (w * l.length)
  | [], _ => by simp [cat]
  | v :: l, h => by
    have hv : v < 2 ^ w := h v (by simp)
    have ih := cat_lt w l fun x hx => h x (by simp [hx])
    simp only [cat, List.length_cons]
    rw [pow_split]
    calc v + 2 ^ w * cat w l < 2 ^ w + 2 ^ w * cat w l := by omega
      _ = 2 ^ w * (cat w l + 1) := by rw [Nat.mul_succ, Nat.add_comm]
      _ ≤ 2 ^ w * 2 ^ (w * l.length) := Nat.mul_le_mul_left _ ih
theorem cat_append (w : Nat) : ∀ a b : List Nat, cat w (a ++ b) = cat w a + 2 ^ (w * a.length) * cat w b
  | [], b => by simp [cat]
  | v :: a, b => by
    simp only [List.cons_append, cat, List.length_cons]
    rw [cat_append w a b, pow_split, Nat.mul_add, Nat.mul_assoc, Nat.add_assoc]
theorem cat_get (w : Nat) (l : List Nat) (h : ∀ x ∈ l, x < 2 ^ w) (i : Nat) (hi : i < l.length) : l[i] = cat w l / 2 ^ (w * i) % 2 ^ w := by
  have e := chop_cat w l h
  have := chop_get w l.length (cat w l) i (by rw [chop_length]; exact hi)
  rw [← this]
  congr 1
  exact e.symm
theorem cat_zeros (w n : Nat) : cat w (List.replicate n 0) = 0 := by
  induction n with
  | zero => rfl
  | succ n ih => simp [List.replicate_succ, cat, ih]
theorem chop_zero (w n : Nat) : chop w 0 n = List.replicate n 0 := by
  induction n with
  | zero => rfl
  | succ n ih => simp [List.replicate_succ, chop, ih]
theorem chop_append (w N m n : Nat) : chop w N (m + n) = chop w N m ++ chop w (N / 2 ^ (w * m)) n := by
  induction m generalizing N with
  | zero => simp [chop]
  | succ m ih =>
    rw [Nat.succ_add]
    simp only [chop, List.cons_append]
    rw [ih, pow_split, Nat.div_div_eq_div_mul]
theorem chop_set (w : Nat) (M n i x : Nat) (hM : M < 2 ^ (w * (i + 1))) (hx : x < 2 ^ w) :
    (chop w M n).set i x = chop w (M % 2 ^ (w * i) + x * 2 ^ (w * i)) n := by
  have hp := Nat.two_pow_pos (w * i)
  have hr : M % 2 ^ (w * i) < 2 ^ (w * i) := Nat.mod_lt _ hp
  refine List.ext_getElem (by simp [chop_length]) fun j h1 h2 => ?_
  rw [List.getElem_set, chop_get]
  rcases Nat.lt_trichotomy j i with hj | rfl | hj
  · rw [if_neg (by omega), chop_get]
    refine Nat.eq_of_testBit_eq fun b => ?_
    simp only [Nat.testBit_mod_two_pow, Nat.testBit_div_two_pow]
    by_cases hb : b < w
    · simp only [hb, decide_true, Bool.true_and]
      have hlt : b + w * j < w * i := by
        have : w * (j + 1) ≤ w * i := Nat.mul_le_mul_left _ (by omega)
        rw [Nat.mul_succ] at this; omega
      have e := Nat.testBit_two_pow_mul_add x hr (b + w * j)
      rw [Nat.mul_comm, Nat.add_comm] at e
      rw [e, if_pos hlt, Nat.testBit_mod_two_pow]
      simp [hlt]
    · simp [hb]
  · rw [if_pos rfl, chop_get, Nat.add_mul_div_right _ _ hp, Nat.div_eq_of_lt hr, Nat.zero_add, Nat.mod_eq_of_lt hx]
  · rw [if_neg (by omega), chop_get]
    have hle : 2 ^ (w * (i + 1)) ≤ 2 ^ (w * j) := Nat.pow_le_pow_right (by omega) (Nat.mul_le_mul_left _ (by omega))
    have h3 : M % 2 ^ (w * i) + x * 2 ^ (w * i) < 2 ^ (w * (i + 1)) := by
      rw [pow_split]
      calc M % 2 ^ (w * i) + x * 2 ^ (w * i) < 2 ^ (w * i) + x * 2 ^ (w * i) := by omega
        _ = (x + 1) * 2 ^ (w * i) := by rw [Nat.succ_mul, Nat.add_comm]
        _ ≤ 2 ^ w * 2 ^ (w * i) := Nat.mul_le_mul_right _ hx
    rw [Nat.div_eq_of_lt (by omega), Nat.div_eq_of_lt (by omega)]

/-- How many bits a number has. -/
def wid (v : Nat) : Nat := if v = 0 then 0 else v.log2 + 1
theorem wid_le (v k : Nat) : wid v ≤ k ↔ v < 2 ^ k := by
  unfold wid
  split
  · subst_vars; simp [Nat.two_pow_pos]
  · rename_i h
    rw [← Nat.log2_lt h]; omega
theorem wid_eq (v k : Nat) (h1 : v < 2 ^ k) (h2 : k = 0 ∨ 2 ^ (k - 1) ≤ v) : wid v = k := by
  have a := (wid_le v k).2 h1
  rcases h2 with rfl | h2
  · omega
  · rcases Nat.lt_or_ge (wid v) k with hlt | hge
    · have := (wid_le v (k - 1)).1 (by omega); omega
    · omega
theorem wid_zero : wid 0 = 0 := rfl
theorem wid_pos {v : Nat} (h : 0 < v) : 0 < wid v := by unfold wid; rw [if_neg (by omega)]; omega
theorem wid_shift (v k : Nat) (h : 2 ^ k ≤ v) : wid v = wid (v / 2 ^ k) + k := by
  have hp := Nat.two_pow_pos k
  have h1 : k < wid v := by
    rcases Nat.lt_or_ge k (wid v) with h1 | h1
    · exact h1
    · have := (wid_le v k).1 h1; omega
  refine Nat.le_antisymm ?_ ?_
  · rw [wid_le, Nat.pow_add]
    have := (wid_le (v / 2 ^ k) _).1 (Nat.le_refl _)
    exact (Nat.div_lt_iff_lt_mul hp).1 this
  · have h2 : wid (v / 2 ^ k) ≤ wid v - k := by
      rw [wid_le, Nat.div_lt_iff_lt_mul hp, ← Nat.pow_add]
      have := (wid_le v _).1 (Nat.le_refl _)
      rwa [Nat.sub_add_cancel (by omega)]
    omega
theorem wid_half (x : Nat) (h : 0 < x) : wid x = wid (x / 2) + 1 := by
  by_cases h1 : x = 1
  · subst h1; rfl
  · have := wid_shift x 1 (by omega)
    rwa [Nat.pow_one] at this
/-- How many bits the greatest of them has. -/
def widL (l : List Nat) : Nat := l.foldl (fun a v => max a (wid v)) 0
theorem foldl_max (l : List Nat) (a : Nat) (k : Nat) : l.foldl (fun a v => max a (wid v)) a ≤ k ↔ a ≤ k ∧ ∀ v ∈ l, wid v ≤ k := by
  induction l generalizing a with
  | nil => simp
  | cons v l ih => simp only [List.foldl_cons, ih, List.mem_cons, forall_eq_or_imp, Nat.max_le, and_assoc]
theorem widL_le (l : List Nat) (k : Nat) : widL l ≤ k ↔ ∀ v ∈ l, v < 2 ^ k := by
  unfold widL; rw [foldl_max]; simp [wid_le]
theorem widL_take (l : List Nat) (k : Nat) (h : k < l.length) : widL (l.take (k + 1)) = max (widL (l.take k)) (wid l[k]) := by
  unfold widL
  rw [List.take_succ_eq_append_getElem h, List.foldl_append]
  rfl
theorem or_add (A B m : Nat) (hA : A % 2 ^ m = 0) (hB : B < 2 ^ m) : A ||| B = A + B := by
  have e : A = (A / 2 ^ m) <<< m := by
    rw [Nat.shiftLeft_eq]
    have := Nat.div_add_mod A (2 ^ m)
    rw [hA, Nat.add_zero, Nat.mul_comm] at this
    exact this.symm
  rw [e]
  exact (Nat.shiftLeft_add_eq_or_of_lt hB _).symm
end Go.Proofs.YtfcedbhmbcbiaaaGreatDoor
