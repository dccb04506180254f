/- How bytes, and values, stand: plain mathematics. -/
import Derived.Test.YtfcedbhmbcbiaaaGreatDoorBase
import Derived.Lib.Bytealg
namespace Go.Proofs.YtfcedbhmbcbiaaaGreatDoor
open Go.RowKit
set_option linter.unusedVariables false

abbrev cmpS (a b : List UInt8) : Int := Lib.compareBytes a b
theorem cmpS_nil_cons (b : UInt8) (bs : List UInt8) : cmpS [] (b :: bs) = -1 := rfl
theorem cmpS_cons_nil (b : UInt8) (bs : List UInt8) : cmpS (b :: bs) [] = 1 := rfl
theorem cmpS_cons (a b : UInt8) (us bs : List UInt8) : cmpS (a :: us) (b :: bs) = if a.toNat < b.toNat then -1 else if b.toNat < a.toNat then 1 else cmpS us bs := by
  show (if a < b then _ else if b < a then _ else _) = _
  simp only [UInt8.lt_iff_toNat_lt]
theorem cmpS_in : ∀ a b : List UInt8, cmpS a b = -1 ∨ cmpS a b = 0 ∨ cmpS a b = 1
  | [], [] => .inr (.inl rfl)
  | [], _ :: _ => .inl rfl
  | _ :: _, [] => .inr (.inr rfl)
  | a :: us, b :: bs => by
    rw [cmpS_cons]
    split
    · exact .inl rfl
    · split
      · exact .inr (.inr rfl)
      · exact cmpS_in us bs
theorem cmpS_self : ∀ a : List UInt8, cmpS a a = 0
  | [] => rfl
  | a :: us => by rw [cmpS_cons, if_neg (by omega), if_neg (by omega)]; exact cmpS_self us
theorem cmpS_turn : ∀ a b : List UInt8, cmpS b a = - cmpS a b
  | [], [] => rfl
  | [], _ :: _ => rfl
  | _ :: _, [] => rfl
  | a :: us, b :: bs => by
    rw [cmpS_cons, cmpS_cons]
    have ih := cmpS_turn us bs
    by_cases h : a.toNat < b.toNat
    · simp [h, show ¬ b.toNat < a.toNat by omega]
    · by_cases h' : b.toNat < a.toNat
      · simp [h, h']
      · simp [h, h', ih]
theorem cmpS_zero : ∀ a b : List UInt8, cmpS a b = 0 → a = b
  | [], [] => fun _ => rfl
  | [], _ :: _ => fun h => by cases h
  | _ :: _, [] => fun h => by cases h
  | a :: us, b :: bs => by
    rw [cmpS_cons]
    intro h
    split at h
    · cases h
    · split at h
      · cases h
      · rw [cmpS_zero us bs h, UInt8.toNat_inj.1 (show a.toNat = b.toNat by omega)]
theorem cmpS_trans : ∀ a b c : List UInt8, cmpS a b ≤ 0 → cmpS b c ≤ 0 → cmpS a c ≤ 0 ∧ (cmpS a b < 0 ∨ cmpS b c < 0 → cmpS a c < 0)
  | [], b, [] => fun h1 h2 => by
    cases b with
    | nil => exact ⟨Int.le_refl _, fun h => by rcases h with h | h <;> exact absurd h (by decide)⟩
    | cons x xs => exact absurd h2 (by rw [cmpS_cons_nil]; decide)
  | [], b, c :: cs => fun _ _ => ⟨by rw [cmpS_nil_cons]; decide, fun _ => by rw [cmpS_nil_cons]; decide⟩
  | a :: us, [], c => fun h1 _ => absurd h1 (by rw [cmpS_cons_nil]; decide)
  | a :: us, b :: bs, [] => fun _ h2 => absurd h2 (by rw [cmpS_cons_nil]; decide)
  | a :: us, b :: bs, c :: cs => fun h1 h2 => by
    have ih := cmpS_trans us bs cs
    rw [cmpS_cons] at h1 h2 ⊢
    rw [cmpS_cons a b, cmpS_cons b c]
    by_cases hab : a.toNat < b.toNat
    · by_cases hbc : b.toNat < c.toNat
      · rw [if_pos (show a.toNat < c.toNat by omega)]; exact ⟨by decide, fun _ => by decide⟩
      · rw [if_neg hbc] at h2
        by_cases hcb : c.toNat < b.toNat
        · rw [if_pos hcb] at h2; exact absurd h2 (by decide)
        · rw [if_pos (show a.toNat < c.toNat by omega)]; exact ⟨by decide, fun _ => by decide⟩
    · rw [if_neg hab] at h1 ⊢
      by_cases hba : b.toNat < a.toNat
      · rw [if_pos hba] at h1; exact absurd h1 (by decide)
      · rw [if_neg hba] at h1 ⊢
        by_cases hbc : b.toNat < c.toNat
        · rw [if_pos (show a.toNat < c.toNat by omega)]; exact ⟨by decide, fun _ => by decide⟩
        · rw [if_neg hbc] at h2 ⊢
          by_cases hcb : c.toNat < b.toNat
          · rw [if_pos hcb] at h2; exact absurd h2 (by decide)
          · rw [if_neg hcb] at h2 ⊢
            rw [if_neg (show ¬ a.toNat < c.toNat by omega), if_neg (show ¬ c.toNat < a.toNat by omega)]
            exact ih h1 h2
theorem less_iff : ∀ a b : List UInt8, Op.bytesLess a b = decide (cmpS a b < 0)
  | [], [] => rfl
  | [], _ :: _ => rfl
  | _ :: _, [] => rfl
  | a :: us, b :: bs => by
    rw [cmpS_cons]
    unfold Op.bytesLess
    rw [less_iff us bs, Bool.eq_iff_iff]
    simp only [Bool.or_eq_true, Bool.and_eq_true, decide_eq_true_eq, beq_iff_eq, UInt8.lt_iff_toNat_lt, ← UInt8.toNat_inj]
    by_cases h : a.toNat < b.toNat
    · rw [if_pos h]; simp [h]
    · rw [if_neg h]
      by_cases h' : b.toNat < a.toNat
      · rw [if_pos h']; constructor
        · rintro (h | ⟨h, _⟩) <;> omega
        · intro h; omega
      · rw [if_neg h']; constructor
        · rintro (h | ⟨_, h⟩)
          · omega
          · exact h
        · intro h; exact .inr ⟨by omega, h⟩

/-- -1, 0, 1. -/
def cmpI (a b : Int) : Int := if a < b then -1 else if b < a then 1 else 0
theorem cmpI_lt {a b : Int} (h : a < b) : cmpI a b = -1 := if_pos h
theorem cmpI_gt {a b : Int} (h : b < a) : cmpI a b = 1 := by unfold cmpI; rw [if_neg (by omega), if_pos h]
theorem cmpI_eq {a b : Int} (h : a = b) : cmpI a b = 0 := by unfold cmpI; rw [if_neg (by omega), if_neg (by omega)]
theorem cmpI_in (a b : Int) : (a < b ∧ cmpI a b = -1) ∨ (a = b ∧ cmpI a b = 0) ∨ (b < a ∧ cmpI a b = 1) := by
  rcases Int.lt_trichotomy a b with h | h | h
  · exact .inl ⟨h, cmpI_lt h⟩
  · exact .inr (.inl ⟨h, cmpI_eq h⟩)
  · exact .inr (.inr ⟨h, cmpI_gt h⟩)

def rankV (t : Int) : Int := if t = 0 then 0 else if t = 4 then 2 else 1
theorem rankV_in (t : Int) : (t = 0 ∧ rankV t = 0) ∨ (t = 4 ∧ rankV t = 2) ∨ (t ≠ 0 ∧ t ≠ 4 ∧ rankV t = 1) := by
  unfold rankV
  by_cases h0 : t = 0
  · exact .inl ⟨h0, if_pos h0⟩
  · by_cases h4 : t = 4
    · exact .inr (.inl ⟨h4, by rw [if_neg h0, if_pos h4]⟩)
    · exact .inr (.inr ⟨h0, h4, by rw [if_neg h0, if_neg h4]⟩)

/-- How two values stand. -/
def cmpV (t i : Int) (s : ByteArray) (t' i' : Int) (s' : ByteArray) : Int :=
  if rankV t ≠ rankV t' then cmpI (rankV t) (rankV t') else if rankV t = 0 then 0 else if rankV t = 2 then cmpS s.data.toList s'.data.toList else cmpI i i'
theorem cmpV_far {t i : Int} {s : ByteArray} {t' i' : Int} {s' : ByteArray} (h : rankV t ≠ rankV t') : cmpV t i s t' i' s' = cmpI (rankV t) (rankV t') := if_pos h
theorem cmpV_near {t i : Int} {s : ByteArray} {t' i' : Int} {s' : ByteArray} (h : rankV t = rankV t') : cmpV t i s t' i' s' = if rankV t = 0 then 0 else if rankV t = 2 then cmpS s.data.toList s'.data.toList else cmpI i i' := if_neg (fun k => k h)
theorem cmpV_in (t i : Int) (s : ByteArray) (t' i' : Int) (s' : ByteArray) : cmpV t i s t' i' s' = -1 ∨ cmpV t i s t' i' s' = 0 ∨ cmpV t i s t' i' s' = 1 := by
  unfold cmpV
  split
  · rcases cmpI_in (rankV t) (rankV t') with h | h | h
    · exact .inl h.2
    · exact .inr (.inl h.2)
    · exact .inr (.inr h.2)
  · split
    · exact .inr (.inl rfl)
    · split
      · exact cmpS_in _ _
      · rcases cmpI_in i i' with h | h | h
        · exact .inl h.2
        · exact .inr (.inl h.2)
        · exact .inr (.inr h.2)
theorem cmpI_turn (a b : Int) : cmpI b a = - cmpI a b := by
  rcases cmpI_in a b with h | h | h <;> rcases cmpI_in b a with k | k | k <;> omega
theorem cmpV_turn (t i : Int) (s : ByteArray) (t' i' : Int) (s' : ByteArray) : cmpV t' i' s' t i s = - cmpV t i s t' i' s' := by
  by_cases h : rankV t = rankV t'
  · rw [cmpV_near h, cmpV_near h.symm, ← h]
    split
    · rfl
    · split
      · exact cmpS_turn _ _
      · exact cmpI_turn _ _
  · rw [cmpV_far h, cmpV_far (Ne.symm h)]; exact cmpI_turn _ _
theorem cmpV_self (t i : Int) (s : ByteArray) : cmpV t i s t i s = 0 := by
  rw [cmpV_near rfl]
  split
  · rfl
  · split
    · exact cmpS_self _
    · exact cmpI_eq rfl
theorem cmpV_trans (t i : Int) (s : ByteArray) (t' i' : Int) (s' : ByteArray) (u j : Int) (r : ByteArray) (h1 : cmpV t i s t' i' s' ≤ 0) (h2 : cmpV t' i' s' u j r ≤ 0) :
    cmpV t i s u j r ≤ 0 ∧ (cmpV t i s t' i' s' < 0 ∨ cmpV t' i' s' u j r < 0 → cmpV t i s u j r < 0) := by
  by_cases hab : rankV t = rankV t'
  · by_cases hbc : rankV t' = rankV u
    · have hac := hab.trans hbc
      rw [cmpV_near hab] at h1 ⊢
      rw [cmpV_near hbc, ← hab] at h2 ⊢
      rw [cmpV_near hac]
      by_cases h0 : rankV t = 0
      · simp [h0]
      · by_cases h5 : rankV t = 2
        · rw [if_neg h0, if_pos h5] at h1 h2 ⊢
          rw [if_neg h0, if_pos h5]
          rw [if_neg h0, if_pos h5]
          exact cmpS_trans _ _ _ h1 h2
        · rw [if_neg h0, if_neg h5] at h1 h2 ⊢
          rw [if_neg h0, if_neg h5]
          rw [if_neg h0, if_neg h5]
          rcases cmpI_in i i' with h | h | h <;> rcases cmpI_in i' j with k | k | k <;> rcases cmpI_in i j with l | l | l <;> omega
    · have hac : rankV t ≠ rankV u := by rw [hab]; exact hbc
      rw [cmpV_far hbc] at h2 ⊢
      rw [cmpV_far hac, hab]
      exact ⟨h2, fun _ => by rcases cmpI_in (rankV t') (rankV u) with h | h | h <;> omega⟩
  · rw [cmpV_far hab] at h1 ⊢
    have hlt : rankV t < rankV t' := by rcases cmpI_in (rankV t) (rankV t') with h | h | h <;> omega
    by_cases hbc : rankV t' = rankV u
    · have hac : rankV t ≠ rankV u := by rw [← hbc]; exact hab
      rw [cmpV_far hac, ← hbc, cmpI_lt hlt]
      exact ⟨by decide, fun _ => by decide⟩
    · rw [cmpV_far hbc] at h2
      have hlt2 : rankV t' < rankV u := by rcases cmpI_in (rankV t') (rankV u) with h | h | h <;> omega
      rw [cmpV_far (by omega), cmpI_lt (show rankV t < rankV u by omega)]
      exact ⟨by decide, fun _ => by decide⟩
end Go.Proofs.YtfcedbhmbcbiaaaGreatDoor
