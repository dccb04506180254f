/- Which value bytes begin with: plain mathematics. -/
import Derived.Test.YtbmlipandjbbbaaDoorHighT
import Derived.Test.YtbmlipandjbbbaaDoorValPut
namespace Go.Proofs.YtbmlipandjbbbaaDoor
open Go.RowKit
set_option linter.unusedVariables false

/-- A number of so many bytes, with its sign. -/
def sgn (w x : Nat) : Int := if w = 0 then 0 else if x < 2 ^ (8 * w - 1) then (x : Int) else (x : Int) - 2 ^ (8 * w)
/-- What b begins with: type, number, bytes, how many. -/
def readV : List Nat → Option (Nat × Int × List Nat × Nat)
  | [] => none
  | t :: r => if t = 4 then (match r with | [] => none | m :: q => if m ≤ q.length then some (4, 0, q.take m, m + 2) else none)
    else if r.length < widthV t then none else some (t, sgn (widthV t) (numH (r.take (widthV t))), [], 1 + widthV t)
theorem readV_nil : readV [] = none := rfl
theorem readV_4nil : readV [4] = none := rfl
theorem readV_4 (m : Nat) (q : List Nat) : readV (4 :: m :: q) = if m ≤ q.length then some (4, 0, q.take m, m + 2) else none := rfl
theorem readV_n (t : Nat) (r : List Nat) (h : t ≠ 4) : readV (t :: r) = if r.length < widthV t then none else some (t, sgn (widthV t) (numH (r.take (widthV t))), [], 1 + widthV t) := by
  show (if t = 4 then _ else _) = _
  rw [if_neg h]
def takeV (b : List Nat) : Option (Nat × Int × List Nat × Nat) :=
  match readV b with
  | none => none
  | some (t, i, s, n) => if (t = 0 ∨ t = 1 ∨ t = 2 ∨ t = 3 ∧ 0 ≤ i ∧ i ≤ 1 ∨ t = 4 ∧ s.length ≤ 20) then some (t, i, s, n) else none

theorem numH_lt' (l : List Nat) (h : ∀ x ∈ l, x < 256) (n : Nat) (hn : l.length = n) : numH l < 2 ^ (8 * n) := by
  have := numH_lt l h l.length (Nat.le_refl _)
  rwa [List.take_length, hn] at this
theorem sgn_2 (x : Nat) (h : x < 65536) : -32768 ≤ sgn 2 x ∧ sgn 2 x ≤ 32767 := by
  unfold sgn; rw [if_neg (by decide)]; split <;> omega
theorem sgn_8 (x : Nat) (h : x < 18446744073709551616) : -9223372036854775808 ≤ sgn 8 x ∧ sgn 8 x ≤ 9223372036854775807 := by
  unfold sgn; rw [if_neg (by decide)]; split <;> omega
theorem sgn_1 (x : Nat) (h : x < 256) : -128 ≤ sgn 1 x ∧ sgn 1 x ≤ 127 := by
  unfold sgn; rw [if_neg (by decide)]; split <;> omega
theorem sgn_0 (x : Nat) : sgn 0 x = 0 := rfl

theorem numH_go (l : List Nat) (a : Nat) : l.foldl (fun a x => a * 256 + x) a = a * 2 ^ (8 * l.length) + numH l := by
  induction l generalizing a with
  | nil => simp [numH]
  | cons x r ih =>
    rw [List.foldl_cons, ih]
    have h2 : numH (x :: r) = r.foldl (fun a x => a * 256 + x) (0 * 256 + x) := rfl
    rw [h2, ih, List.length_cons, show 8 * (r.length + 1) = 8 * r.length + 8 by omega, Nat.pow_add, Nat.add_mul, Nat.zero_mul, Nat.zero_add, Nat.mul_assoc, show (256 : Nat) = 2 ^ 8 from rfl, Nat.mul_comm (2 ^ 8), Nat.add_assoc]
theorem numH_cons (x : Nat) (r : List Nat) : numH (x :: r) = x * 2 ^ (8 * r.length) + numH r := by
  have h := numH_go r (0 * 256 + x)
  rw [show 0 * 256 + x = x by omega] at h
  rw [← h]
  show r.foldl _ (0 * 256 + x) = _
  rw [show 0 * 256 + x = x by omega]
theorem numH_top (v : Nat) : ∀ n, numH (topB v n) = v % 2 ^ (8 * n)
  | 0 => by simp [topB, numH, Nat.mod_one]
  | n + 1 => by
    have ih := numH_top v n
    rw [topB, numH_cons, topB_length, ih, show 8 * (n + 1) = 8 * n + 8 by omega, Nat.pow_add]
    have := Nat.mod_mul (x := v) (a := 2 ^ (8 * n)) (b := 2 ^ 8)
    rw [this, Nat.mul_comm, Nat.add_comm]
theorem sgn_top (t i : Int) (h : MayV t i 0) (h4 : t ≠ 4) (h0 : -9223372036854775808 ≤ i) (h1 : i ≤ 9223372036854775807) : sgn (widthV t) (numH (topB (i % 18446744073709551616).toNat (widthV t))) = i := by
  rw [numH_top]
  unfold MayV at h
  rcases h with ⟨rfl, rfl, _⟩ | ⟨rfl, h2, h3, _⟩ | ⟨rfl, _⟩ | ⟨rfl, h2, h3, _⟩ | ⟨h, _⟩
  · rfl
  · show sgn 2 ((i % 18446744073709551616).toNat % 2 ^ (8 * 2)) = i
    unfold sgn; rw [if_neg (by decide)]; split <;> omega
  · show sgn 8 ((i % 18446744073709551616).toNat % 2 ^ (8 * 8)) = i
    unfold sgn; rw [if_neg (by decide)]; split <;> omega
  · show sgn 1 ((i % 18446744073709551616).toNat % 2 ^ (8 * 1)) = i
    unfold sgn; rw [if_neg (by decide)]; split <;> omega
  · exact absurd h h4
theorem mayV_cases {t i : Int} {n : Nat} (h : MayV t i n) : (t = 4 ∧ i = 0 ∧ n ≤ 20) ∨ (t ≠ 4 ∧ n = 0 ∧ 0 ≤ t ∧ t ≤ 3 ∧ MayV t i 0) := by
  unfold MayV at *; omega
theorem widthV_le (t : Int) : widthV t ≤ 8 := by unfold widthV; repeat (first | omega | split)
/-- What was put is taken, whatever stands behind. -/
theorem takeV_put (t i : Int) (s : ByteArray) (r : List Nat) (h : MayV t i s.size) (h0 : -9223372036854775808 ≤ i) (h1 : i ≤ 9223372036854775807) : takeV (putB t i s ++ r) = some (t.toNat, i, nums s, (putB t i s).length) := by
  rcases mayV_cases h with ⟨rfl, rfl, hn⟩ | ⟨h4, hn, ht0, ht3, hm⟩
  · have e : putB 4 0 s ++ r = 4 :: s.size :: (nums s ++ r) := by unfold putB; rw [if_pos rfl]; rfl
    have el : (putB 4 0 s).length = s.size + 2 := by unfold putB; rw [if_pos rfl, List.length_cons, List.length_cons, nums_length]
    have hr : readV (4 :: s.size :: (nums s ++ r)) = some (4, 0, nums s, s.size + 2) := by
      rw [readV_4, if_pos (by rw [List.length_append, nums_length]; omega), List.take_left' (nums_length s)]
    unfold takeV
    rw [e, hr, el]
    simp only
    rw [if_pos (by simp [nums_length, hn])]
    rfl
  · obtain ⟨tn, rfl⟩ : ∃ tn : Nat, t = (tn : Int) := ⟨t.toNat, by omega⟩
    have hs : nums s = [] := List.eq_nil_of_length_eq_zero (by rw [nums_length]; exact hn)
    have e : putB tn i s = tn :: topB (i % 18446744073709551616).toNat (widthV tn) := by unfold putB; rw [if_neg h4]; rfl
    have el : (putB tn i s).length = 1 + widthV tn := by rw [e, List.length_cons, topB_length]; omega
    have hr : readV (putB tn i s ++ r) = some (tn, i, [], 1 + widthV tn) := by
      rw [e, List.cons_append, readV_n _ _ (by omega), if_neg (by rw [List.length_append, topB_length]; omega), List.take_left' (topB_length _ _), sgn_top tn i hm h4 h0 h1]
    unfold takeV
    rw [hr, hs, el]
    simp only
    rw [if_pos (by unfold MayV at hm; omega)]
    rfl
/-- What is cut off is none. -/
theorem takeV_cut (t i : Int) (s : ByteArray) (k : Nat) (h : MayV t i s.size) (hk : k < (putB t i s).length) : takeV ((putB t i s).take k) = none := by
  have hr : readV ((putB t i s).take k) = none := by
    rcases mayV_cases h with ⟨rfl, rfl, hn⟩ | ⟨h4, hn, ht0, ht3, hm⟩
    · have e : putB 4 0 s = 4 :: s.size :: nums s := by unfold putB; rw [if_pos rfl]; rfl
      rw [e] at hk ⊢
      rw [List.length_cons, List.length_cons, nums_length] at hk
      match k, hk with
      | 0, _ => rfl
      | 1, _ => rfl
      | k + 2, hk =>
        rw [List.take_succ_cons, List.take_succ_cons, readV_4, if_neg (by rw [List.length_take]; omega)]
    · obtain ⟨tn, rfl⟩ : ∃ tn : Nat, t = (tn : Int) := ⟨t.toNat, by omega⟩
      have e : putB tn i s = tn :: topB (i % 18446744073709551616).toNat (widthV tn) := by unfold putB; rw [if_neg h4]; rfl
      rw [e] at hk ⊢
      rw [List.length_cons, topB_length] at hk
      match k, hk with
      | 0, _ => rfl
      | k + 1, hk =>
        rw [List.take_succ_cons, readV_n _ _ (by omega), if_pos (by rw [List.length_take, topB_length]; omega)]
  unfold takeV; rw [hr]
end Go.Proofs.YtbmlipandjbbbaaDoor
