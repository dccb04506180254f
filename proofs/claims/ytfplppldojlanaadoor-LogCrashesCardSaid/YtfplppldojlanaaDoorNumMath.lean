
import Derived.Laws.BitsAllLaws
import Derived.Laws.BitsLemmas
import Derived.Laws.Bits64
import Derived.PlainAid
import Derived.WalkSmall
/- Plain mathematics of numbers of few bytes: seven bits a byte, the lowest first. -/
namespace Go.Proofs.YtfplppldojlanaaDoor
set_option linter.unusedVariables false

def putAux : Nat → Nat → List Nat
  | 0, v => [v]
  | f + 1, v => if 128 ≤ v then (v % 128 + 128) :: putAux f (v / 128) else [v]
/-- v in as few bytes as may be. -/
def putNum (v : Nat) : List Nat := putAux 9 v

/-- The number that bytes begin with, i of them behind us, v of them so far. -/
def takeAux : Nat → Nat → List Nat → Option (Nat × Nat)
  | _, _, [] => none
  | i, v, x :: r =>
    if i = 9 ∧ 1 < x then none
    else if 128 ≤ x then takeAux (i + 1) (v + x % 128 * 2 ^ (7 * i)) r
    else if x = 0 ∧ 0 < i then none
    else some (v + x % 128 * 2 ^ (7 * i), i + 1)
def takeNum (b : List Nat) : Option (Nat × Nat) := takeAux 0 0 b

theorem putAux_pos : ∀ f v, 0 < (putAux f v).length
  | 0, v => by simp [putAux]
  | f + 1, v => by unfold putAux; split <;> simp
theorem putAux_le : ∀ f v, (putAux f v).length ≤ f + 1
  | 0, v => by simp [putAux]
  | f + 1, v => by
    unfold putAux
    split
    · have := putAux_le f (v / 128); simp; omega
    · simp
theorem putNum_pos (v : Nat) : 0 < (putNum v).length := putAux_pos 9 v
theorem putNum_le (v : Nat) : (putNum v).length ≤ 10 := putAux_le 9 v
theorem putAux_mono : ∀ f v w, w ≤ v → (putAux f w).length ≤ (putAux f v).length
  | 0, v, w, _ => by simp [putAux]
  | f + 1, v, w, h => by
    unfold putAux
    by_cases h1 : 128 ≤ w
    · rw [if_pos h1, if_pos (by omega)]
      have := putAux_mono f (v / 128) (w / 128) (Nat.div_le_div_right h)
      simpa using this
    · rw [if_neg h1]
      split
      · simp
      · simp
theorem putNum_mono {v w : Nat} (h : w ≤ v) : (putNum w).length ≤ (putNum v).length := putAux_mono 9 v w h
theorem putAux_lt : ∀ f v, v < 2 ^ (7 * f + 1) → ∀ x ∈ putAux f v, x < 256
  | 0, v, h, x, hx => by
    simp [putAux] at hx
    subst hx
    simp at h; omega
  | f + 1, v, h, x, hx => by
    unfold putAux at hx
    split at hx
    · rcases List.mem_cons.1 hx with rfl | hx
      · omega
      · refine putAux_lt f (v / 128) ?_ x hx
        rw [Nat.div_lt_iff_lt_mul (by omega)]
        rw [show 7 * (f + 1) + 1 = 7 * f + 1 + 7 by omega, Nat.pow_add] at h
        exact h
    · simp at hx; omega
theorem putNum_lt {v : Nat} (h : v < 18446744073709551616) : ∀ x ∈ putNum v, x < 256 := putAux_lt 9 v (by simpa using h)

theorem pow7 (i : Nat) : 2 ^ (7 * (i + 1)) = 128 * 2 ^ (7 * i) := by rw [Nat.mul_succ, Nat.pow_add, Nat.mul_comm]
/-- What was put comes back, whatever stands behind. -/
theorem take_put : ∀ (f i u v : Nat) (r : List Nat), i + f = 9 → v < 2 ^ (7 * f + 1) → (0 < i → 0 < v) →
    takeAux i u (putAux f v ++ r) = some (u + v * 2 ^ (7 * i), i + (putAux f v).length)
  | 0, i, u, v, r, hf, hv, h0 => by
    have hi : i = 9 := by omega
    subst hi
    have hv2 : v < 2 := by simpa using hv
    have h0' := h0 (by omega)
    have hv1 : v = 1 := by omega
    subst hv1
    simp [putAux, takeAux]
  | f + 1, i, u, v, r, hf, hv, h0 => by
    unfold putAux
    by_cases h1 : 128 ≤ v
    · rw [if_pos h1, List.cons_append]
      unfold takeAux
      rw [if_neg (by omega), if_pos (by omega)]
      have hd : v / 128 < 2 ^ (7 * f + 1) := by
        rw [Nat.div_lt_iff_lt_mul (by omega)]
        rw [show 7 * (f + 1) + 1 = 7 * f + 1 + 7 by omega, Nat.pow_add] at hv
        exact hv
      rw [take_put f (i + 1) _ (v / 128) r (by omega) hd (fun _ => by omega)]
      have e : (v % 128 + 128) % 128 * 2 ^ (7 * i) + v / 128 * 2 ^ (7 * (i + 1)) = v * 2 ^ (7 * i) := by
        rw [Nat.add_mod_right, Nat.mod_mod, pow7, ← Nat.mul_assoc, ← Nat.add_mul]
        congr 1; omega
      rw [Nat.add_assoc, e, List.length_cons]
      congr 2; omega
    · rw [if_neg h1]
      show takeAux i u (v :: r) = _
      unfold takeAux
      rw [if_neg (by omega), if_neg h1, if_neg (by omega), Nat.mod_eq_of_lt (by omega)]
      rfl
theorem takeNum_put {v : Nat} (h : v < 18446744073709551616) (r : List Nat) : takeNum (putNum v ++ r) = some (v, (putNum v).length) := by
  have := take_put 9 0 0 v r rfl (by simpa using h) (fun h => absurd h (by omega))
  simpa [takeNum, putNum] using this
/-- Bytes that tell a number begin with what the number is put as. -/
theorem take_is : ∀ (b : List Nat) (i f u x n : Nat), i + f = 9 → (∀ y ∈ b, y < 256) → takeAux i u b = some (x, n) →
    ∃ v, x = u + v * 2 ^ (7 * i) ∧ v < 2 ^ (7 * f + 1) ∧ (0 < i → 0 < v) ∧ n = i + (putAux f v).length ∧ putAux f v <+: b
  | [], i, f, u, x, n, hf, hb, h => by simp [takeAux] at h
  | y :: r, i, f, u, x, n, hf, hb, h => by
    have hy : y < 256 := hb y (by simp)
    unfold takeAux at h
    by_cases h1 : i = 9 ∧ 1 < y
    · rw [if_pos h1] at h; cases h
    · rw [if_neg h1] at h
      by_cases h2 : 128 ≤ y
      · rw [if_pos h2] at h
        have hi : i ≠ 9 := by omega
        obtain ⟨f, rfl⟩ : ∃ g, f = g + 1 := ⟨f - 1, by omega⟩
        obtain ⟨v, h3, h4, h5, h6, h7⟩ := take_is r (i + 1) f _ x n (by omega) (fun z hz => hb z (by simp [hz])) h
        have h5' := h5 (by omega)
        have hv128 : (y - 128 + 128 * v) / 128 = v := by omega
        have hm128 : (y - 128 + 128 * v) % 128 = y - 128 := by omega
        refine ⟨y - 128 + 128 * v, ?_, ?_, fun _ => by omega, ?_, ?_⟩
        · rw [h3, pow7, Nat.add_mul, ← Nat.add_assoc]
          have e1 : y % 128 = y - 128 := by omega
          rw [e1, Nat.mul_comm 128 v, Nat.mul_assoc]
        · rw [show 7 * (f + 1) + 1 = 7 * f + 1 + 7 by omega, Nat.pow_add]
          have : 2 ^ 7 = 128 := rfl
          have h8 : v + 1 ≤ 2 ^ (7 * f + 1) := h4
          have := Nat.mul_le_mul_right 128 h8
          omega
        · unfold putAux
          rw [if_pos (by omega), hv128, List.length_cons, h6]; omega
        · unfold putAux
          rw [if_pos (by omega), hv128, hm128, show y - 128 + 128 = y by omega]
          exact List.cons_prefix_cons.2 ⟨rfl, h7⟩
      · rw [if_neg h2] at h
        by_cases h3 : y = 0 ∧ 0 < i
        · rw [if_pos h3] at h; cases h
        · rw [if_neg h3] at h
          obtain ⟨rfl, rfl⟩ := Prod.mk.inj (Option.some.inj h)
          have hp : putAux f y = [y] := by
            cases f with
            | zero => rfl
            | succ f => unfold putAux; rw [if_neg h2]
          have h9 : y < 2 ^ (7 * f + 1) := by
            cases f with
            | zero => simp; omega
            | succ f =>
              have : 2 ^ 8 ≤ 2 ^ (7 * (f + 1) + 1) := Nat.pow_le_pow_right (by omega) (by omega)
              omega
          refine ⟨y, by rw [Nat.mod_eq_of_lt (by omega)], h9, fun _ => by omega, by rw [hp]; rfl, ?_⟩
          rw [hp]
          exact ⟨r, rfl⟩
theorem takeNum_is {b : List Nat} (hb : ∀ y ∈ b, y < 256) {v n : Nat} (h : takeNum b = some (v, n)) : v < 18446744073709551616 ∧ n = (putNum v).length ∧ putNum v <+: b := by
  obtain ⟨v', h1, h2, _, h3, h4⟩ := take_is b 0 9 0 v n rfl hb h
  have : v = v' := by simpa using h1
  subst this
  exact ⟨by simpa using h2, by simpa [putNum] using h3, h4⟩
/-- Cut off it is none. -/
theorem takeNum_cut {v : Nat} (h : v < 18446744073709551616) (k : Nat) (hk : k < (putNum v).length) : takeNum ((putNum v).take k) = none := by
  cases e : takeNum ((putNum v).take k) with
  | none => rfl
  | some p =>
    obtain ⟨x, n⟩ := p
    obtain ⟨h1, h2, h3⟩ := takeNum_is (fun y hy => putNum_lt h y (List.mem_of_mem_take hy)) e
    have h4 : putNum x <+: putNum v := h3.trans (List.take_prefix _ _)
    obtain ⟨r, hr⟩ := h4
    have h5 := takeNum_put h1 r
    have h6 := takeNum_put h []
    rw [hr] at h5
    rw [List.append_nil, h5] at h6
    obtain ⟨rfl, _⟩ := Prod.mk.inj (Option.some.inj h6)
    have := h3.length_le
    rw [List.length_take] at this
    omega

def zig (v : Int) : Nat := if v < 0 then (-2 * v - 1).toNat else (2 * v).toNat
def zag (u : Nat) : Int := if u % 2 = 1 then -((u / 2 : Nat) : Int) - 1 else ((u / 2 : Nat) : Int)
theorem zag_zig (v : Int) : zag (zig v) = v := by
  unfold zag zig
  split <;> split <;> omega
theorem zig_zag (u : Nat) : zig (zag u) = u := by
  unfold zag zig
  split <;> split <;> omega
theorem zig_lt (v : Int) (h0 : -9223372036854775808 ≤ v) (h1 : v ≤ 9223372036854775807) : zig v < 18446744073709551616 := by
  unfold zig; split <;> omega
theorem zag_in (u : Nat) (h : u < 18446744073709551616) : -9223372036854775808 ≤ zag u ∧ zag u ≤ 9223372036854775807 := by
  unfold zag; split <;> omega
end Go.Proofs.YtfplppldojlanaaDoor

/- Exclusive or with all bits, and with none. -/

namespace Go.Proofs.YtfplppldojlanaaDoor
open Go.RowKit
set_option linter.unusedVariables false

theorem nat_xor_ones (a : Nat) (h : a < 2 ^ 64) : a ^^^ (2 ^ 64 - 1) = 2 ^ 64 - (a + 1) := by
  refine Nat.eq_of_testBit_eq fun i => ?_
  rw [Nat.testBit_xor, Nat.testBit_two_pow_sub_one, Nat.testBit_two_pow_sub_succ h]
  by_cases hi : i < 64
  · simp [hi]
  · have : a.testBit i = false := Nat.testBit_lt_two_pow (Nat.lt_of_lt_of_le h (Nat.pow_le_pow_right (by omega) (by omega)))
    simp [hi, this]
theorem zig_val (v : Int) (h0 : -9223372036854775808 ≤ v) (h1 : v ≤ 9223372036854775807) :
    bits BinOp.xor IntKind.u64 (IntKind.u64.wrap (IntKind.u64.wrap v * 2)) (IntKind.u64.wrap (v / 9223372036854775808)) = ((zig v : Nat) : Int) := by
  unfold zig
  by_cases hv : v < 0
  · rw [if_pos hv, PlainAid.shr63_neg hv h0, PlainAid.u64_neg hv (by omega)]
    obtain ⟨a, ha⟩ : ∃ a : Nat, (a : Int) = 2 * v + 18446744073709551616 := ⟨(2 * v + 18446744073709551616).toNat, by omega⟩
    have e1 : IntKind.u64.wrap ((v + 18446744073709551616) * 2) = (a : Int) := by rw [IntKind.wrap_u64]; omega
    have e2 : IntKind.u64.wrap (-1) = ((2 ^ 64 - 1 : Nat) : Int) := by rw [IntKind.wrap_u64]; rfl
    rw [e1, e2, bits_xor_u64_nat a (2 ^ 64 - 1) (by omega) (by decide), nat_xor_ones a (by omega)]
    omega
  · rw [if_neg hv, PlainAid.shr63_nonneg (by omega) h1, PlainAid.u64_nonneg (n := v) (by omega) (by omega), PlainAid.u64_nonneg (n := v * 2) (by omega) (by omega)]
    obtain ⟨a, rfl⟩ := Int.eq_ofNat_of_zero_le (show 0 ≤ v by omega)
    have e1 : (a : Int) * 2 = ((a * 2 : Nat) : Int) := by simp
    have e2 : IntKind.u64.wrap 0 = ((0 : Nat) : Int) := by rw [IntKind.wrap_u64]; rfl
    rw [e1, e2, bits_xor_u64_nat _ 0 (by omega) (by decide), Nat.xor_zero]
    omega
theorem xor_i64_neg (a : Nat) (h : a < 9223372036854775808) : bits .xor .i64 (a : Int) (-1) = -(a : Int) - 1 := by
  show IntKind.i64.wrap ((BitVec.ofInt 64 (a : Int) ^^^ BitVec.ofInt 64 (-1)).toNat : Int) = _
  have e : BitVec.ofInt 64 (-1) = BitVec.allOnes 64 := by decide
  rw [e, BitVec.xor_allOnes, BitVec.toNat_not, BitVec.ofInt_natCast, BitVec.toNat_ofNat, Nat.mod_eq_of_lt (by omega), IntKind.wrap_i64]
  omega
theorem xor_i64_zero (a : Nat) (h : a < 9223372036854775808) : bits .xor .i64 (a : Int) 0 = (a : Int) := by
  show IntKind.i64.wrap ((BitVec.ofInt 64 (a : Int) ^^^ BitVec.ofInt 64 0).toNat : Int) = _
  have e : BitVec.ofInt 64 0 = 0#64 := by decide
  rw [e, BitVec.xor_zero, BitVec.ofInt_natCast, BitVec.toNat_ofNat, Nat.mod_eq_of_lt (by omega), IntKind.wrap_i64]
  omega
theorem zag_val (u : Nat) (h1 : u < 18446744073709551616) : bits BinOp.xor IntKind.i64 ((u : Int) / 2) (wrap64 (-wrap64 (bits BinOp.and IntKind.u64 (u : Int) 1))) = zag u := by
  unfold zag
  rw [and_one_u64 _ (by omega) (by omega)]
  have e : ((u : Int) / 2) = ((u / 2 : Nat) : Int) := by simp
  rw [e]
  by_cases hu : u % 2 = 1
  · rw [if_pos hu]
    have e1 : wrap64 (-wrap64 ((u : Int) % 2)) = -1 := by unfold wrap64; omega
    rw [e1, xor_i64_neg _ (by omega)]
  · rw [if_neg hu]
    have e1 : wrap64 (-wrap64 ((u : Int) % 2)) = 0 := by unfold wrap64; omega
    rw [e1, xor_i64_zero _ (by omega)]
end Go.Proofs.YtfplppldojlanaaDoor

/- Plain mathematics, no program: numbers laid one behind the other, so many bits each ('cat'), and cut again ('chop'); how many bits a number has ('wid'). -/
namespace Go.Proofs.YtfplppldojlanaaDoor
set_option linter.unusedVariables false

def cat (w : Nat) : List Nat → Nat
  | [] => 0
  | v :: l => v + 2 ^ w * cat w l
def chop (w N : Nat) : Nat → List Nat
  | 0 => []
  | n + 1 => N % 2 ^ w :: chop w (N / 2 ^ w) n

theorem chop_length (w : Nat) : ∀ (n N : Nat), (chop w N n).length = n
  | 0, _ => rfl
  | n + 1, N => by simp [chop, chop_length w n]
theorem pow_split (w i : Nat) : 2 ^ (w * (i + 1)) = 2 ^ w * 2 ^ (w * i) := by rw [Nat.mul_succ, Nat.add_comm, Nat.pow_add]
theorem chop_get (w : Nat) : ∀ (n N i : Nat) (h : i < (chop w N n).length), (chop w N n)[i] = N / 2 ^ (w * i) % 2 ^ w
  | 0, _, _, h => by simp [chop] at h
  | n + 1, N, 0, _ => by simp [chop]
  | n + 1, N, i + 1, h => by
    simp only [chop, List.getElem_cons_succ]
    rw [chop_get w n, pow_split, Nat.div_div_eq_div_mul]
theorem chop_lt (w : Nat) : ∀ (n N : Nat), ∀ x ∈ chop w N n, x < 2 ^ w
  | 0, _, x, h => by simp [chop] at h
  | n + 1, N, x, h => by
    simp only [chop, List.mem_cons] at h
    rcases h with rfl | h
    · exact Nat.mod_lt _ (Nat.two_pow_pos w)
    · exact chop_lt w n _ x h
theorem cat_chop (w : Nat) : ∀ (n N : Nat), cat w (chop w N n) = N % 2 ^ (w * n)
  | 0, N => by simp [chop, cat, Nat.mod_one]
  | n + 1, N => by
    simp only [chop, cat]
    rw [cat_chop w n, pow_split, Nat.mod_mul]
theorem chop_cat (w : Nat) : ∀ l : List Nat, (∀ x ∈ l, x < 2 ^ w) → chop w (cat w l) l.length = l
  | [], _ => rfl
  | v :: l, h => by
    have hv : v < 2 ^ w := h v (by simp)
    simp only [List.length_cons, chop, cat]
    rw [Nat.add_mul_mod_self_left, Nat.mod_eq_of_lt hv, Nat.add_mul_div_left _ _ (Nat.two_pow_pos w), Nat.div_eq_of_lt hv, Nat.zero_add, chop_cat w l fun x hx => h x (by simp [hx])]
theorem cat_lt (w : Nat) : ∀ l : List Nat, (∀ x ∈ l, x < 2 ^ w) → cat w l < 2 ^ (w * l.length)
  | [], _ => by simp [cat]
  | v :: l, h => by
    have hv : v < 2 ^ w := h v (by simp)
    have ih := cat_lt w l fun x hx => h x (by simp [hx])
    simp only [cat, List.length_cons]
    rw [pow_split]
    calc v + 2 ^ w * cat w l < 2 ^ w + 2 ^ w * cat w l := by omega
      _ = 2 ^ w * (cat w l + 1) := by rw [Nat.mul_succ, Nat.add_comm]
      _ ≤ 2 ^ w * 2 ^ (w * l.length) := Nat.mul_le_mul_left _ ih
theorem cat_append (w : Nat) : ∀ a b : List Nat, cat w (a ++ b) = cat w a + 2 ^ (w * a.length) * cat w b
  | [], b => by simp [cat]
  | v :: a, b => by
    simp only [List.cons_append, cat, List.length_cons]
    rw [cat_append w a b, pow_split, Nat.mul_add, Nat.mul_assoc, Nat.add_assoc]
theorem cat_get (w : Nat) (l : List Nat) (h : ∀ x ∈ l, x < 2 ^ w) (i : Nat) (hi : i < l.length) : l[i] = cat w l / 2 ^ (w * i) % 2 ^ w := by
  have e := chop_cat w l h
  have := chop_get w l.length (cat w l) i (by rw [chop_length]; exact hi)
  rw [← this]
  congr 1
  exact e.symm
theorem cat_zeros (w n : Nat) : cat w (List.replicate n 0) = 0 := by
  induction n with
  | zero => rfl
  | succ n ih => simp [List.replicate_succ, cat, ih]
theorem chop_zero (w n : Nat) : chop w 0 n = List.replicate n 0 := by
  induction n with
  | zero => rfl
  | succ n ih => simp [List.replicate_succ, chop, ih]
theorem chop_append (w N m n : Nat) : chop w N (m + n) = chop w N m ++ chop w (N / 2 ^ (w * m)) n := by
  induction m generalizing N with
  | zero => simp [chop]
  | succ m ih =>
    rw [Nat.succ_add]
    simp only [chop, List.cons_append]
    rw [ih, pow_split, Nat.div_div_eq_div_mul]
theorem chop_set (w : Nat) (M n i x : Nat) (hM : M < 2 ^ (w * (i + 1))) (hx : x < 2 ^ w) :
    (chop w M n).set i x = chop w (M % 2 ^ (w * i) + x * 2 ^ (w * i)) n := by
  have hp := Nat.two_pow_pos (w * i)
  have hr : M % 2 ^ (w * i) < 2 ^ (w * i) := Nat.mod_lt _ hp
  refine List.ext_getElem (by simp [chop_length]) fun j h1 h2 => ?_
  rw [List.getElem_set, chop_get]
  rcases Nat.lt_trichotomy j i with hj | rfl | hj
  · rw [if_neg (by omega), chop_get]
    refine Nat.eq_of_testBit_eq fun b => ?_
    simp only [Nat.testBit_mod_two_pow, Nat.testBit_div_two_pow]
    by_cases hb : b < w
    · simp only [hb, decide_true, Bool.true_and]
      have hlt : b + w * j < w * i := by
        have : w * (j + 1) ≤ w * i := Nat.mul_le_mul_left _ (by omega)
        rw [Nat.mul_succ] at this; omega
      have e := Nat.testBit_two_pow_mul_add x hr (b + w * j)
      rw [Nat.mul_comm, Nat.add_comm] at e
      rw [e, if_pos hlt, Nat.testBit_mod_two_pow]
      simp [hlt]
    · simp [hb]
  · rw [if_pos rfl, chop_get, Nat.add_mul_div_right _ _ hp, Nat.div_eq_of_lt hr, Nat.zero_add, Nat.mod_eq_of_lt hx]
  · rw [if_neg (by omega), chop_get]
    have hle : 2 ^ (w * (i + 1)) ≤ 2 ^ (w * j) := Nat.pow_le_pow_right (by omega) (Nat.mul_le_mul_left _ (by omega))
    have h3 : M % 2 ^ (w * i) + x * 2 ^ (w * i) < 2 ^ (w * (i + 1)) := by
      rw [pow_split]
      calc M % 2 ^ (w * i) + x * 2 ^ (w * i) < 2 ^ (w * i) + x * 2 ^ (w * i) := by omega
        _ = (x + 1) * 2 ^ (w * i) := by rw [Nat.succ_mul, Nat.add_comm]
        _ ≤ 2 ^ w * 2 ^ (w * i) := Nat.mul_le_mul_right _ hx
    rw [Nat.div_eq_of_lt (by omega), Nat.div_eq_of_lt (by omega)]

/-- How many bits a number has. -/
def wid (v : Nat) : Nat := if v = 0 then 0 else v.log2 + 1
theorem wid_le (v k : Nat) : wid v ≤ k ↔ v < 2 ^ k := by
  unfold wid
  split
  · subst_vars; simp [Nat.two_pow_pos]
  · rename_i h
    rw [← Nat.log2_lt h]; omega
theorem wid_eq (v k : Nat) (h1 : v < 2 ^ k) (h2 : k = 0 ∨ 2 ^ (k - 1) ≤ v) : wid v = k := by
  have a := (wid_le v k).2 h1
  rcases h2 with rfl | h2
  · omega
  · rcases Nat.lt_or_ge (wid v) k with hlt | hge
    · have := (wid_le v (k - 1)).1 (by omega); omega
    · omega
theorem wid_zero : wid 0 = 0 := rfl
theorem wid_pos {v : Nat} (h : 0 < v) : 0 < wid v := by unfold wid; rw [if_neg (by omega)]; omega
theorem wid_shift (v k : Nat) (h : 2 ^ k ≤ v) : wid v = wid (v / 2 ^ k) + k := by
  have hp := Nat.two_pow_pos k
  have h1 : k < wid v := by
    rcases Nat.lt_or_ge k (wid v) with h1 | h1
    · exact h1
    · have := (wid_le v k).1 h1; omega
  refine Nat.le_antisymm ?_ ?_
  · rw [wid_le, Nat.pow_add]
    have := (wid_le (v / 2 ^ k) _).1 (Nat.le_refl _)
    exact (Nat.div_lt_iff_lt_mul hp).1 this
  · have h2 : wid (v / 2 ^ k) ≤ wid v - k := by
      rw [wid_le, Nat.div_lt_iff_lt_mul hp, ← Nat.pow_add]
      have := (wid_le v _).1 (Nat.le_refl _)
      rwa [Nat.sub_add_cancel (by omega)]
    omega
theorem wid_half (x : Nat) (h : 0 < x) : wid x = wid (x / 2) + 1 := by
  by_cases h1 : x = 1
  · subst h1; rfl
  · have := wid_shift x 1 (by omega)
    rwa [Nat.pow_one] at this
/-- How many bits the greatest of them has. -/
def widL (l : List Nat) : Nat := l.foldl (fun a v => max a (wid v)) 0
theorem foldl_max (l : List Nat) (a : Nat) (k : Nat) : l.foldl (fun a v => max a (wid v)) a ≤ k ↔ a ≤ k ∧ ∀ v ∈ l, wid v ≤ k := by
  induction l generalizing a with
  | nil => simp
  | cons v l ih => simp only [List.foldl_cons, ih, List.mem_cons, forall_eq_or_imp, Nat.max_le, and_assoc]
theorem widL_le (l : List Nat) (k : Nat) : widL l ≤ k ↔ ∀ v ∈ l, v < 2 ^ k := by
  unfold widL; rw [foldl_max]; simp [wid_le]
theorem widL_take (l : List Nat) (k : Nat) (h : k < l.length) : widL (l.take (k + 1)) = max (widL (l.take k)) (wid l[k]) := by
  unfold widL
  rw [List.take_succ_eq_append_getElem h, List.foldl_append]
  rfl
theorem or_add (A B m : Nat) (hA : A % 2 ^ m = 0) (hB : B < 2 ^ m) : A ||| B = A + B := by
  have e : A = (A / 2 ^ m) <<< m := by
    rw [Nat.shiftLeft_eq]
    have := Nat.div_add_mod A (2 ^ m)
    rw [hA, Nat.add_zero, Nat.mul_comm] at this
    exact this.symm
  rw [e]
  exact (Nat.shiftLeft_add_eq_or_of_lt hB _).symm
end Go.Proofs.YtfplppldojlanaaDoor

/- Plain mathematics of bits that are laid one behind the other. -/

namespace Go.Proofs.YtfplppldojlanaaDoor
set_option linter.unusedVariables false

theorem cat_drop (w q : Nat) (l : List Nat) (h : ∀ x ∈ l, x < 2 ^ w) (hq : q ≤ l.length) : cat w (l.drop q) = cat w l / 2 ^ (w * q) := by
  have e := cat_append w (l.take q) (l.drop q)
  rw [List.take_append_drop] at e
  have hl : (l.take q).length = q := by simp [hq]
  have hlt := cat_lt w (l.take q) fun x hx => h x (List.mem_of_mem_take hx)
  rw [hl] at e hlt
  rw [e, Nat.add_mul_div_left _ _ (Nat.two_pow_pos _), Nat.div_eq_of_lt hlt, Nat.zero_add]
theorem cat_take (w m : Nat) (l : List Nat) (h : ∀ x ∈ l, x < 2 ^ w) : cat w (l.take m) = cat w l % 2 ^ (w * m) := by
  rcases Nat.lt_or_ge l.length m with hm | hm
  · rw [List.take_of_length_le (by omega), Nat.mod_eq_of_lt]
    exact Nat.lt_of_lt_of_le (cat_lt w l h) (Nat.pow_le_pow_right (by omega) (Nat.mul_le_mul_left _ (by omega)))
  · have e := cat_append w (l.take m) (l.drop m)
    rw [List.take_append_drop] at e
    have hl : (l.take m).length = m := by simp [hm]
    have hlt := cat_lt w (l.take m) fun x hx => h x (List.mem_of_mem_take hx)
    rw [hl] at e hlt
    rw [e, Nat.add_mul_mod_self_left, Nat.mod_eq_of_lt hlt]
theorem cat_cut (w q m : Nat) (l : List Nat) (h : ∀ x ∈ l, x < 2 ^ w) (hq : q ≤ l.length) : cat w ((l.drop q).take m) = cat w l / 2 ^ (w * q) % 2 ^ (w * m) := by
  rw [cat_take w m _ fun x hx => h x (List.mem_of_mem_drop hx), cat_drop w q l h hq]

theorem pickA (N q s k : Nat) (h : s + k ≤ 64) : N / 2 ^ (8 * q) % 2 ^ 64 / 2 ^ s % 2 ^ k = N / 2 ^ (8 * q + s) % 2 ^ k := by
  refine Nat.eq_of_testBit_eq fun i => ?_
  simp only [Nat.testBit_mod_two_pow, Nat.testBit_div_two_pow]
  by_cases hi : i < k
  · have : i + s < 64 := by omega
    simp only [hi, this, decide_true, Bool.true_and]
    congr 1; omega
  · simp [hi]
theorem pickB (N q s k : Nat) (h : 64 < s + k) (hs : s < 8) (hk : k ≤ 64) :
    ((N / 2 ^ (8 * q) % 2 ^ 64 / 2 ^ s) ||| (N / 2 ^ (8 * (q + 8)) % 2 ^ 8 * 2 ^ (64 - s) % 2 ^ 64)) % 2 ^ k = N / 2 ^ (8 * q + s) % 2 ^ k := by
  refine Nat.eq_of_testBit_eq fun i => ?_
  simp only [Nat.testBit_mod_two_pow, Nat.testBit_div_two_pow, Nat.testBit_or, Nat.testBit_mul_two_pow]
  by_cases hi : i < k
  · simp only [hi, decide_true, Bool.true_and]
    have h64 : i < 64 := by omega
    by_cases h1 : i + s < 64
    · have h2 : ¬ 64 - s ≤ i := by omega
      simp only [h1, h2, h64, decide_true, decide_false, Bool.true_and, Bool.false_and, Bool.or_false]
      congr 1; omega
    · have h2 : 64 - s ≤ i := by omega
      have h3 : i - (64 - s) < 8 := by omega
      simp only [h1, h2, h3, h64, decide_true, decide_false, Bool.true_and, Bool.false_and, Bool.false_or]
      congr 1; omega
  · simp [hi]
theorem ones_shift (k : Nat) (hk : k ≤ 64) : (2 ^ 64 - 1) / 2 ^ (64 - k) = 2 ^ k - 1 := by
  refine Nat.eq_of_testBit_eq fun i => ?_
  simp only [Nat.testBit_div_two_pow, Nat.testBit_two_pow_sub_one]
  by_cases hi : i < k
  · have : i + (64 - k) < 64 := by omega
    simp [hi, this]
  · have : ¬ i + (64 - k) < 64 := by omega
    simp [hi, this]
theorem bit_sum (M v a i : Nat) (hM : M < 2 ^ a) : (M + v * 2 ^ a).testBit i = if i < a then M.testBit i else v.testBit (i - a) := by
  have := Nat.testBit_two_pow_mul_add v hM i
  rwa [Nat.mul_comm, Nat.add_comm] at this
theorem layOr (M v q s : Nat) (hs : s < 8) (hM : M < 2 ^ (8 * q + s)) :
    (M / 2 ^ (8 * q) % 2 ^ 8) ||| (v * 2 ^ s % 2 ^ 64 % 2 ^ 8) = (M + v * 2 ^ (8 * q + s)) / 2 ^ (8 * q) % 2 ^ 8 := by
  refine Nat.eq_of_testBit_eq fun i => ?_
  simp only [Nat.testBit_or, Nat.testBit_mod_two_pow, Nat.testBit_div_two_pow, Nat.testBit_mul_two_pow, bit_sum _ _ _ _ hM]
  by_cases hi : i < 8
  · have h64 : i < 64 := by omega
    simp only [hi, h64, decide_true, Bool.true_and]
    by_cases h1 : i < s
    · have h2 : ¬ s ≤ i := by omega
      rw [if_pos (by omega)]
      simp [h2]
    · have h2 : s ≤ i := by omega
      rw [if_neg (by omega)]
      have h3 : M.testBit (i + 8 * q) = false := Nat.testBit_lt_two_pow (Nat.lt_of_lt_of_le hM (Nat.pow_le_pow_right (by omega) (by omega)))
      simp only [h3, h2, decide_true, Bool.true_and, Bool.false_or]
      congr 1; omega
  · simp [hi]
theorem layRest (M v q s : Nat) (hs : s < 8) (hM : M < 2 ^ (8 * q + s)) : v / 2 ^ (8 - s) = (M + v * 2 ^ (8 * q + s)) / 2 ^ (8 * (q + 1)) := by
  refine Nat.eq_of_testBit_eq fun i => ?_
  simp only [Nat.testBit_div_two_pow, bit_sum _ _ _ _ hM]
  rw [if_neg (by omega)]
  congr 1; omega
theorem mod_next (T k : Nat) : T % 2 ^ (8 * k) + T / 2 ^ (8 * k) % 2 ^ 8 * 2 ^ (8 * k) = T % 2 ^ (8 * (k + 1)) := by
  rw [Nat.mul_succ, Nat.pow_add, Nat.mod_mul, Nat.mul_comm (2 ^ (8 * k))]
theorem laySet (M v q s n : Nat) (hs : s < 8) (hM : M < 2 ^ (8 * q + s)) :
    (chop 8 M n).set q ((M + v * 2 ^ (8 * q + s)) / 2 ^ (8 * q) % 2 ^ 8) = chop 8 ((M + v * 2 ^ (8 * q + s)) % 2 ^ (8 * (q + 1))) n := by
  rw [chop_set 8 M n q _ (Nat.lt_of_lt_of_le hM (Nat.pow_le_pow_right (by omega) (by omega))) (Nat.mod_lt _ (by decide)), ← mod_next]
  congr 2
  rw [Nat.pow_add, Nat.mul_left_comm, Nat.add_mul_mod_self_left]
theorem layNext (T k n : Nat) : (chop 8 (T % 2 ^ (8 * k)) n).set k (T / 2 ^ (8 * k) % 2 ^ 8) = chop 8 (T % 2 ^ (8 * (k + 1))) n := by
  have h : T % 2 ^ (8 * k) < 2 ^ (8 * k) := Nat.mod_lt _ (Nat.two_pow_pos _)
  rw [chop_set 8 _ n k _ (Nat.lt_of_lt_of_le h (Nat.pow_le_pow_right (by omega) (by omega))) (Nat.mod_lt _ (by decide)), ← mod_next, Nat.mod_mod]
theorem div_next (T k : Nat) : T / 2 ^ (8 * k) / 256 = T / 2 ^ (8 * (k + 1)) := by
  rw [Nat.div_div_eq_div_mul, show 8 * (k + 1) = 8 * k + 8 from rfl, Nat.pow_add]
theorem cat_snoc (w j : Nat) (l : List Nat) (h : j < l.length) : cat w (l.take (j + 1)) = cat w (l.take j) + l[j] * 2 ^ (j * w) := by
  rw [List.take_succ_eq_append_getElem h, cat_append, List.length_take_of_le (Nat.le_of_lt h)]
  simp only [cat, Nat.mul_zero, Nat.add_zero]
  rw [Nat.mul_comm, Nat.mul_comm w j]
theorem cat_take_lt (w j : Nat) (l : List Nat) (hl : ∀ x ∈ l, x < 2 ^ w) (h : j ≤ l.length) : cat w (l.take j) < 2 ^ (j * w) := by
  have := cat_lt w (l.take j) fun x hx => hl x (List.mem_of_mem_take hx)
  rwa [List.length_take_of_le h, Nat.mul_comm] at this
theorem cat_take_end (w j n : Nat) (l : List Nat) (hl : ∀ x ∈ l, x < 2 ^ w) (h : j ≤ l.length) (hn : n = (l.length * w + 7) / 8) : cat w (l.take j) < 2 ^ (8 * n) :=
  Nat.lt_of_lt_of_le (cat_take_lt w j l hl h) (Nat.pow_le_pow_right (by omega) (by
    have : j * w ≤ l.length * w := Nat.mul_le_mul_right _ h
    omega))
/-- What bits.Take takes. -/
def TakeOK (b : List Nat) (n k : Int) : Prop := ∃ n' k' : Nat, n = n' ∧ k = k' ∧ n' ≤ 1000 ∧ k' ≤ 64 ∧ b.length = (n' * k' + 7) / 8 ∧ cat 8 b < 2 ^ (n' * k')
theorem ended_iff (b : List Nat) (at_ : Nat) (h : ∀ x ∈ b, x < 256) (hl : b.length = (at_ + 7) / 8) :
    (at_ % 8 == 0 || b.getD (at_ / 8) 0 / 2 ^ (at_ % 8) == 0) = decide (cat 8 b < 2 ^ at_) := by
  have hlt := cat_lt 8 b h
  by_cases h8 : at_ % 8 = 0
  · have e : 8 * b.length = at_ := by omega
    rw [e] at hlt
    simp [h8, hlt]
  · have hq : at_ / 8 < b.length := by omega
    have e : b.take (at_ / 8 + 1) = b := List.take_of_length_le (by omega)
    have hs := cat_snoc 8 (at_ / 8) b hq
    have ht := cat_take_lt 8 (at_ / 8) b h (by omega)
    rw [e] at hs
    rw [List.getD_eq_getElem?_getD, List.getElem?_eq_getElem hq, Option.getD_some, show (at_ % 8 == 0) = false by simp [h8], Bool.false_or, Bool.eq_iff_iff]
    simp only [beq_iff_eq, decide_eq_true_eq]
    rw [Nat.div_eq_zero_iff_lt (Nat.two_pow_pos _), hs]
    have hp : 2 ^ at_ = 2 ^ (at_ % 8) * 2 ^ (at_ / 8 * 8) := by rw [← Nat.pow_add]; congr 1; omega
    rw [hp]
    constructor
    · intro hx
      calc cat 8 (b.take (at_ / 8)) + b[at_ / 8] * 2 ^ (at_ / 8 * 8) < 2 ^ (at_ / 8 * 8) + b[at_ / 8] * 2 ^ (at_ / 8 * 8) := by omega
        _ = (b[at_ / 8] + 1) * 2 ^ (at_ / 8 * 8) := by rw [Nat.succ_mul, Nat.add_comm]
        _ ≤ 2 ^ (at_ % 8) * 2 ^ (at_ / 8 * 8) := Nat.mul_le_mul_right _ hx
    · intro hx
      exact Nat.lt_of_mul_lt_mul_right (Nat.lt_of_le_of_lt (Nat.le_add_left _ _) hx)
theorem set_fill (L : List Nat) (j n : Nat) (hL : L.length = n) (hj : j < n) (x : Nat) (hx : x = L[j]) :
    (L.take j ++ List.replicate (n - j) 0).set j x = L.take (j + 1) ++ List.replicate (n - (j + 1)) 0 := by
  subst hx
  rw [List.set_append_right _ _ (by simp; omega), List.length_take_of_le (by omega), Nat.sub_self, show n - j = (n - (j + 1)) + 1 by omega, List.replicate_succ, List.set_cons_zero, List.take_succ_eq_append_getElem (by omega), List.append_assoc]
  rfl
theorem notOK {b : List Nat} {zn zk : Int} (n k : Nat) (hn : zn = n) (hk : zk = k) (h : ¬ (n ≤ 1000 ∧ k ≤ 64 ∧ b.length = (n * k + 7) / 8 ∧ cat 8 b < 2 ^ (n * k))) : ¬ TakeOK b zn zk := by
  rintro ⟨n', k', h1, h2, h3⟩
  have e1 : n' = n := by omega
  have e2 : k' = k := by omega
  subst e1 e2
  exact h h3
theorem notOK_arg {b : List Nat} {zn zk : Int} (h : zn < 0 ∨ 1000 < zn ∨ zk < 0 ∨ 64 < zk) : ¬ TakeOK b zn zk := by
  rintro ⟨n', k', h1, h2, h3, h4, _⟩
  omega
theorem back_bytes (k m : Nat) (l : List Nat) (hw : ∀ x ∈ l, x < 2 ^ k) (hm : m = (l.length * k + 7) / 8) : cat 8 (chop 8 (cat k l) m) = cat k l ∧ cat k l < 2 ^ (l.length * k) ∧ chop k (cat k l) l.length = l := by
  have h1 := cat_lt k l hw
  rw [Nat.mul_comm] at h1
  refine ⟨?_, h1, chop_cat k l hw⟩
  rw [cat_chop, Nat.mod_eq_of_lt]
  exact Nat.lt_of_lt_of_le h1 (Nat.pow_le_pow_right (by omega) (by omega))
theorem wid_le64 {v : Nat} (hv : v < 18446744073709551616) : wid v ≤ 64 := (wid_le v 64).2 (by simpa using hv)
theorem widL_le64 (l : List Nat) (h : ∀ x ∈ l, x < 18446744073709551616) : widL l ≤ 64 := (widL_le l 64).2 (by simpa using h)
theorem cast_shr (x s : Nat) : (x : Int) / 2 ^ s = ((x / 2 ^ s : Nat) : Int) := by simp
theorem shr_lt (x s : Nat) (hx : x < 18446744073709551616) : x / 2 ^ s < 18446744073709551616 := Nat.lt_of_le_of_lt (Nat.div_le_self _ _) hx
end Go.Proofs.YtfplppldojlanaaDoor

/- Plain mathematics of numbers of few bytes as the reference reads them. -/

namespace Go.Proofs.YtfplppldojlanaaDoor
set_option linter.unusedVariables false

/-- The number that these bytes are, seven bits a byte, the lowest first. -/
def low7 : List Nat → Nat
  | [] => 0
  | x :: r => x % 128 + 128 * low7 r
/-- The first byte below 128 is the n-th. -/
def LowAt (b : List Nat) (n : Nat) : Prop := 1 ≤ n ∧ (∃ x, b[n - 1]? = some x ∧ x < 128) ∧ ∀ j, j + 1 < n → ∃ x, b[j]? = some x ∧ 128 ≤ x

theorem LowAt.uniq {b : List Nat} {n m : Nat} (h : LowAt b n) (k : LowAt b m) : n = m := by
  obtain ⟨h1, ⟨x, hx, hx1⟩, h3⟩ := h
  obtain ⟨k1, ⟨y, hy, hy1⟩, k3⟩ := k
  rcases Nat.lt_trichotomy n m with hlt | heq | hlt
  · obtain ⟨z, hz, hz1⟩ := k3 (n - 1) (by omega)
    rw [hx] at hz; injection hz with hz; omega
  · exact heq
  · obtain ⟨z, hz, hz1⟩ := h3 (m - 1) (by omega)
    rw [hy] at hz; injection hz with hz; omega
theorem low7_put : ∀ f v, v < 2 ^ (7 * f + 1) → low7 (putAux f v) = v
  | 0, v, h => by
    have : v < 2 := by simpa using h
    simp [putAux, low7]; omega
  | f + 1, v, h => by
    unfold putAux
    split
    · have hd : v / 128 < 2 ^ (7 * f + 1) := by
        rw [Nat.div_lt_iff_lt_mul (by omega)]
        rw [show 7 * (f + 1) + 1 = 7 * f + 1 + 7 by omega, Nat.pow_add] at h
        exact h
      simp only [low7, low7_put f _ hd]
      omega
    · simp only [low7]; omega
theorem lowAt_put : ∀ f v (r : List Nat), v < 2 ^ (7 * f + 1) → LowAt (putAux f v ++ r) (putAux f v).length
  | 0, v, r, h => by
    have : v < 2 := by simpa using h
    exact ⟨by simp [putAux], ⟨v, by simp [putAux], by omega⟩, fun j hj => by simp [putAux] at hj⟩
  | f + 1, v, r, h => by
    unfold putAux
    split
    · have hd : v / 128 < 2 ^ (7 * f + 1) := by
        rw [Nat.div_lt_iff_lt_mul (by omega)]
        rw [show 7 * (f + 1) + 1 = 7 * f + 1 + 7 by omega, Nat.pow_add] at h
        exact h
      obtain ⟨h1, ⟨x, hx, hx1⟩, h3⟩ := lowAt_put f _ r hd
      refine ⟨by simp, ⟨x, ?_, hx1⟩, fun j hj => ?_⟩
      · rw [List.length_cons, Nat.add_sub_cancel, List.cons_append]
        obtain ⟨k, hk⟩ : ∃ k, (putAux f (v / 128)).length = k + 1 := ⟨_, (Nat.sub_add_cancel h1).symm⟩
        rw [hk] at hx ⊢
        simpa using hx
      · cases j with
        | zero => exact ⟨_, by simp; rfl, by omega⟩
        | succ j =>
          obtain ⟨y, hy, hy1⟩ := h3 j (by simp at hj; omega)
          exact ⟨y, by simpa using hy, hy1⟩
    · exact ⟨by simp, ⟨v, by simp, by omega⟩, fun j hj => by simp at hj⟩
theorem takeNum_low {b : List Nat} (hb : ∀ y ∈ b, y < 256) {v n : Nat} (h : takeNum b = some (v, n)) : LowAt b n ∧ n ≤ 10 ∧ low7 (b.take n) = v ∧ b.take n = putNum v ∧ v < 18446744073709551616 := by
  obtain ⟨h1, h2, r, hr⟩ := takeNum_is hb h
  have h1' : v < 2 ^ (7 * 9 + 1) := by simpa using h1
  have ht : b.take n = putNum v := by rw [← hr, h2]; simp
  refine ⟨?_, by rw [h2]; exact putNum_le v, by rw [ht]; exact low7_put 9 v h1', ht, h1⟩
  rw [← hr, h2]
  exact lowAt_put 9 v r h1'
/-- No byte below 128 among the first ten: no number. -/
theorem takeNum_high {b : List Nat} (hb : ∀ y ∈ b, y < 256) (k : Nat) (hk : k = 10 ∨ k = b.length) (h : ∀ j, j < k → ∃ x, b[j]? = some x ∧ 128 ≤ x) : takeNum b = none := by
  cases e : takeNum b with
  | none => rfl
  | some p =>
    obtain ⟨v, n⟩ := p
    obtain ⟨⟨h1, ⟨x, hx, hx1⟩, _⟩, h10, _⟩ := takeNum_low hb e
    have hlt := (List.getElem?_eq_some_iff.1 hx).1
    obtain ⟨y, hy, hy1⟩ := h (n - 1) (by omega)
    rw [hx] at hy; injection hy with hy; omega
theorem takeNum_yes {b : List Nat} {n v : Nat} (hv : v < 18446744073709551616) (h : b.take n = putNum v) : takeNum b = some (v, (putNum v).length) := by
  rw [← List.take_append_drop n b, h]; exact takeNum_put hv _
theorem takeNum_no {b : List Nat} (hb : ∀ y ∈ b, y < 256) {n v : Nat} (hl : LowAt b n) (hv : v = low7 (b.take n) % 18446744073709551616) (h : b.take n ≠ putNum v) : takeNum b = none := by
  cases e : takeNum b with
  | none => rfl
  | some p =>
    obtain ⟨u, m⟩ := p
    obtain ⟨h1, h10, h3, h4, h5⟩ := takeNum_low hb e
    obtain rfl := hl.uniq h1
    rw [h3, Nat.mod_eq_of_lt h5] at hv
    subst hv
    exact absurd h4 h
theorem low7_drop (l : List Nat) (i : Nat) (h : i < l.length) : low7 (l.drop i) = l[i] % 128 + 128 * low7 (l.drop (i + 1)) := by
  rw [List.drop_eq_getElem_cons h]; rfl
theorem low7_step (a x : Nat) : (a % 18446744073709551616 * 128 + x % 128) % 18446744073709551616 = (x % 128 + 128 * a) % 18446744073709551616 := by
  omega
end Go.Proofs.YtfplppldojlanaaDoor

/- Plain mathematics of the document's own way with bits: one bit at a time. -/

namespace Go.Proofs.YtfplppldojlanaaDoor
set_option linter.unusedVariables false

theorem mod_bit (x i : Nat) : x % 2 ^ (i + 1) = x % 2 ^ i + x / 2 ^ i % 2 * 2 ^ i := by
  rw [Nat.pow_succ, Nat.mod_mul, Nat.mul_comm (2 ^ i)]
theorem sum_lt (M x p i : Nat) (hM : M < 2 ^ p) : M + x % 2 ^ i * 2 ^ p < 2 ^ (p + i) := by
  have h : x % 2 ^ i < 2 ^ i := Nat.mod_lt _ (Nat.two_pow_pos i)
  calc M + x % 2 ^ i * 2 ^ p < 2 ^ p + x % 2 ^ i * 2 ^ p := by omega
    _ = (x % 2 ^ i + 1) * 2 ^ p := by rw [Nat.succ_mul, Nat.add_comm]
    _ ≤ 2 ^ i * 2 ^ p := Nat.mul_le_mul_right _ h
    _ = 2 ^ (p + i) := by rw [← Nat.pow_add, Nat.add_comm]
theorem refSum (M x p i : Nat) : M + x % 2 ^ (i + 1) * 2 ^ p = (M + x % 2 ^ i * 2 ^ p) + x / 2 ^ i % 2 * 2 ^ (p + i) := by
  rw [mod_bit, Nat.add_mul, Nat.add_assoc, Nat.mul_assoc, ← Nat.pow_add, Nat.add_comm i p]
theorem refByte (N b q s : Nat) : (N / 2 ^ (8 * q) % 2 ^ 8 + b * 2 ^ s) % 256 = (N + b * 2 ^ (8 * q + s)) / 2 ^ (8 * q) % 2 ^ 8 := by
  have e : b * 2 ^ (8 * q + s) = 2 ^ (8 * q) * (b * 2 ^ s) := by rw [Nat.pow_add, Nat.mul_left_comm]
  rw [e, Nat.add_mul_div_left _ _ (Nat.two_pow_pos _), show (256 : Nat) = 2 ^ 8 from rfl, Nat.mod_add_mod]
theorem refStep (M x p i m y : Nat) (hM : M < 2 ^ p) (hy : y = (M + x % 2 ^ i * 2 ^ p) / 2 ^ (8 * ((p + i) / 8)) % 2 ^ 8) :
    (chop 8 (M + x % 2 ^ i * 2 ^ p) m).set ((p + i) / 8) ((y + x / 2 ^ i % 2 * 2 ^ ((p + i) % 8)) % 256) = chop 8 (M + x % 2 ^ (i + 1) * 2 ^ p) m := by
  have hat : 8 * ((p + i) / 8) + (p + i) % 8 = p + i := by omega
  have hN := sum_lt M x p i hM
  have hS := refSum M x p i
  rw [← hat] at hN
  have h1 := laySet (M + x % 2 ^ i * 2 ^ p) (x / 2 ^ i % 2) ((p + i) / 8) ((p + i) % 8) m (by omega) hN
  rw [hy, refByte, h1, hat, ← hS]
  congr 1
  refine Nat.mod_eq_of_lt (Nat.lt_of_lt_of_le (sum_lt M x p (i + 1) hM) (Nat.pow_le_pow_right (by omega) (by omega)))
theorem refBit1 (N q s : Nat) (h : s < 8) : N / 2 ^ (8 * q) % 2 ^ 8 / 2 ^ s % 2 ^ 1 = N / 2 ^ (8 * q + s) % 2 ^ 1 := by
  refine Nat.eq_of_testBit_eq fun i => ?_
  simp only [Nat.testBit_mod_two_pow, Nat.testBit_div_two_pow]
  by_cases hi : i < 1
  · have : i + s < 8 := by omega
    simp only [hi, this, decide_true, Bool.true_and]
    congr 1; omega
  · simp [hi]
theorem refBit (N q s : Nat) (h : s < 8) : N / 2 ^ (8 * q) % 2 ^ 8 / 2 ^ s % 2 = N / 2 ^ (8 * q + s) % 2 := refBit1 N q s h
theorem refTakeStep (N p t k : Nat) (ht : t < k) : 2 * (N / 2 ^ (p + (t + 1)) % 2 ^ (k - (t + 1))) + N / 2 ^ (p + t) % 2 = N / 2 ^ (p + t) % 2 ^ (k - t) := by
  have e1 : 2 ^ (k - t) = 2 * 2 ^ (k - (t + 1)) := by
    rw [show k - t = (k - (t + 1)) + 1 by omega, Nat.pow_succ, Nat.mul_comm]
  have e2 : N / 2 ^ (p + (t + 1)) = N / 2 ^ (p + t) / 2 := by
    rw [Nat.div_div_eq_div_mul, ← Nat.add_assoc, Nat.pow_succ]
  rw [e1, e2, Nat.mod_mul, Nat.add_comm]
theorem pow_le64 (k t : Nat) (hk : k ≤ 64) : 2 ^ (k - (t + 1)) ≤ 9223372036854775808 := by
  have : 2 ^ (k - (t + 1)) ≤ 2 ^ 63 := Nat.pow_le_pow_right (by omega) (by omega)
  simpa using this
theorem set_same (L : List Nat) (i n : Nat) (hL : L.length = n) (hi : i < n) : (L.take i ++ List.replicate (n - i) 0).set i 0 = L.take i ++ List.replicate (n - i) 0 := by
  rw [List.set_append_right _ _ (by simp; omega), List.length_take_of_le (by omega), Nat.sub_self, show n - i = (n - (i + 1)) + 1 by omega, List.replicate_succ, List.set_cons_zero]
theorem chop_mod (w N m n : Nat) (h : m ≤ n) : chop w (N % 2 ^ (w * n)) m = chop w N m := by
  refine List.ext_getElem (by simp [chop_length]) fun j h1 h2 => ?_
  rw [chop_length] at h1
  rw [chop_get, chop_get]
  refine Nat.eq_of_testBit_eq fun i => ?_
  simp only [Nat.testBit_mod_two_pow, Nat.testBit_div_two_pow]
  by_cases hi : i < w
  · have : i + w * j < w * n := by
      have : w * (j + 1) ≤ w * n := Nat.mul_le_mul_left _ (by omega)
      rw [Nat.mul_succ] at this; omega
    simp [hi, this]
  · simp [hi]
/-- What was taken, put again: just the bytes that were handed in, or not. -/
theorem again_iff (b : List Nat) (n k m : Nat) (h : ∀ x ∈ b, x < 256) (hl : b.length = (n * k + 7) / 8) (hm : m = b.length) : chop 8 (cat k (chop k (cat 8 b) n)) m = b ↔ cat 8 b < 2 ^ (n * k) := by
  rw [cat_chop, Nat.mul_comm k n]
  constructor
  · intro e
    have h1 := congrArg (cat 8) e
    rw [cat_chop] at h1
    have h2 : cat 8 b % 2 ^ (n * k) < 2 ^ (n * k) := Nat.mod_lt _ (Nat.two_pow_pos _)
    have h3 := Nat.mod_le (cat 8 b % 2 ^ (n * k)) (2 ^ (8 * m))
    omega
  · intro e
    rw [Nat.mod_eq_of_lt e, hm]
    exact chop_cat 8 b h
end Go.Proofs.YtfplppldojlanaaDoor
