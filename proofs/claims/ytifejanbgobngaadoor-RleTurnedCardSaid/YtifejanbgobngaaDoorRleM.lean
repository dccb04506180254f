/- Plain mathematics of columns by runs. -/
import Derived.Test.YtifejanbgobngaaDoorPlainMath
namespace Go.Proofs.YtifejanbgobngaaDoor
open Go.RowKit
set_option linter.unusedVariables false

theorem fl_drop : ∀ (l : List Val3) (k : Nat), fl (l.drop k) = (fl l).drop (k * 3)
  | [], k => by simp [fl]
  | x :: r, 0 => by simp
  | x :: r, k + 1 => by
    have ih := fl_drop r k
    rw [show (k + 1) * 3 = k * 3 + 1 + 1 + 1 by omega]
    show fl (r.drop k) = ([_, _, _] ++ fl r).drop _
    rw [ih]; rfl
/-- How many of the first ones are x. -/
def runX (x : Val3) : List Val3 → Nat
  | [] => 0
  | y :: r => if y = x then runX x r + 1 else 0
theorem runX_le (x : Val3) : ∀ l, runX x l ≤ l.length
  | [] => Nat.le_refl _
  | y :: r => by
    unfold runX
    split
    · have := runX_le x r; simp; omega
    · exact Nat.zero_le _
theorem runX_split (x : Val3) : ∀ l, l = List.replicate (runX x l) x ++ l.drop (runX x l)
  | [] => rfl
  | y :: r => by
    unfold runX
    by_cases h : y = x
    · rw [if_pos h, List.replicate_succ, List.drop_succ_cons, List.cons_append, ← runX_split x r, h]
    · rw [if_neg h]; rfl
theorem runX_head (x : Val3) : ∀ l : List Val3, (l.drop (runX x l)).head? ≠ some x
  | [] => by simp [runX]
  | y :: r => by
    unfold runX
    by_cases h : y = x
    · rw [if_pos h, List.drop_succ_cons]; exact runX_head x r
    · rw [if_neg h]; simpa using h
theorem runX_rep (x : Val3) (l : List Val3) (hl : l.head? ≠ some x) : ∀ n, runX x (List.replicate n x ++ l) = n
  | 0 => by
    cases l with
    | nil => rfl
    | cons y r =>
      show runX x (y :: r) = 0
      unfold runX
      rw [if_neg]
      intro h; exact hl (by rw [h]; rfl)
  | n + 1 => by
    rw [List.replicate_succ, List.cons_append]
    unfold runX
    rw [if_pos rfl, runX_rep x l hl n]
theorem runX_step {x : Val3} {l : List Val3} {k : Nat} (hk : k ≤ runX x l) (h : k < l.length) : (l[k] = x ↔ k < runX x l) := by
  induction l generalizing k with
  | nil => simp at h
  | cons y r ih =>
    unfold runX at hk ⊢
    cases k with
    | zero =>
      by_cases hy : y = x
      · rw [if_pos hy]; simp [hy]
      · rw [if_neg hy]; simp [hy]
    | succ k =>
      by_cases hy : y = x
      · rw [if_pos hy] at hk ⊢
        have := ih (k := k) (by omega) (by simpa using h)
        simp only [List.getElem_cons_succ]
        rw [this]; omega
      · rw [if_neg hy] at hk; omega

def rleF : Nat → List Val3 → List Nat
  | 0, _ => []
  | _ + 1, [] => []
  | f + 1, x :: r => putNum (runX x r + 1) ++ (oneB x.1 x.2.1 x.2.2 ++ rleF f (r.drop (runX x r)))
theorem rleF_fuel : ∀ (f g : Nat) (l : List Val3), l.length ≤ f → l.length ≤ g → rleF f l = rleF g l
  | 0, 0, _, _, _ => rfl
  | 0, g + 1, [], _, _ => rfl
  | 0, _, _ :: _, h, _ => by simp at h
  | f + 1, 0, [], _, _ => rfl
  | _, 0, _ :: _, _, h => by simp at h
  | f + 1, g + 1, [], _, _ => rfl
  | f + 1, g + 1, x :: r, h1, h2 => by
    rw [List.length_cons] at h1 h2
    unfold rleF
    rw [rleF_fuel f g (r.drop (runX x r)) (by rw [List.length_drop]; omega) (by rw [List.length_drop]; omega)]
/-- The bytes of a list, run by run. -/
def rleB (l : List Val3) : List Nat := rleF l.length l
theorem rleB_nil : rleB [] = [] := rfl
theorem rleB_cons (x : Val3) (r : List Val3) : rleB (x :: r) = putNum (runX x r + 1) ++ (oneB x.1 x.2.1 x.2.2 ++ rleB (r.drop (runX x r))) := by
  show rleF (r.length + 1) (x :: r) = _
  unfold rleF
  rw [rleF_fuel r.length (r.drop (runX x r)).length _ (by rw [List.length_drop]; omega) (Nat.le_refl _)]
  rfl
theorem rleB_rep (x : Val3) (u : Nat) (hu : 1 ≤ u) (l : List Val3) (hl : l.head? ≠ some x) : rleB (List.replicate u x ++ l) = putNum u ++ (oneB x.1 x.2.1 x.2.2 ++ rleB l) := by
  obtain ⟨n, rfl⟩ : ∃ n, u = n + 1 := ⟨u - 1, by omega⟩
  rw [List.replicate_succ, List.cons_append, rleB_cons, runX_rep x l hl n]
  congr 3
  rw [List.drop_append_of_le_length (by simp)]
  simp
theorem rleB_pos (x : Val3) (r : List Val3) : rleB (x :: r) ≠ [] := by
  rw [rleB_cons]
  intro h
  have := putNum_pos (runX x r + 1)
  rw [(List.append_eq_nil_iff.1 h).1] at this
  simp at this
theorem rle_drop {x : Val3} {r : List Val3} {t : Int} (h : OkL t (x :: r)) : OkL t (r.drop (runX x r)) := fun y hy => h y (List.mem_cons_of_mem _ (List.mem_of_mem_drop hy))
theorem rleF_props {t : Int} : ∀ (f : Nat) (l : List Val3), l.length ≤ f → OkL t l → (rleB l).length ≤ l.length * 31
  | 0, [], _, _ => by simp [rleB_nil]
  | 0, _ :: _, h, _ => by simp at h
  | f + 1, [], _, _ => by simp [rleB_nil]
  | f + 1, x :: r, h, ho => by
    rw [List.length_cons] at h
    have ih := rleF_props f (r.drop (runX x r)) (by rw [List.length_drop]; omega) (rle_drop ho)
    have h1 := putNum_le (runX x r + 1)
    have h2 := oneB_le (ho x (List.mem_cons_self ..)).2
    rw [rleB_cons, List.length_append, List.length_append, List.length_cons]
    rw [List.length_drop] at ih
    omega
theorem rleB_le {t : Int} {l : List Val3} (ho : OkL t l) : (rleB l).length ≤ l.length * 31 := rleF_props l.length l (Nat.le_refl _) ho
theorem rleF_lt {t : Int} : ∀ (f : Nat) (l : List Val3), l.length ≤ f → l.length < 1000000 → OkL t l → All64 l → ∀ y ∈ rleB l, y < 256
  | _, [], _, _, _, _ => fun y hy => by simp [rleB_nil] at hy
  | 0, _ :: _, h, _, _, _ => by simp at h
  | f + 1, x :: r, h, hm, ho, h64 => fun y hy => by
    rw [List.length_cons] at h hm
    have hr := runX_le x r
    rw [rleB_cons] at hy
    rcases List.mem_append.1 hy with hy | hy
    · exact putNum_lt (by omega) y hy
    · rcases List.mem_append.1 hy with hy | hy
      · exact oneB_lt (ho x (List.mem_cons_self ..)).2 (h64 x (List.mem_cons_self ..)) y hy
      · exact rleF_lt f (r.drop (runX x r)) (by rw [List.length_drop]; omega) (by rw [List.length_drop]; omega) (rle_drop ho) (fun z hz => h64 z (List.mem_cons_of_mem _ (List.mem_of_mem_drop hz))) y hy
theorem rleB_lt {t : Int} {l : List Val3} (hm : l.length < 1000000) (ho : OkL t l) (h64 : All64 l) : ∀ y ∈ rleB l, y < 256 := rleF_lt l.length l (Nat.le_refl _) hm ho h64

/-- Runs, so many values, the first of another value than the last one. -/
def readR (t : Int) : Nat → Nat → Option Val3 → List Nat → Option (List Val3)
  | _, m, _, [] => if m = 0 then some [] else none
  | 0, _, _, _ :: _ => none
  | f + 1, m, last, c :: b => match takeNum (c :: b) with
    | some (u, k) => if 1 ≤ u ∧ u ≤ m then (match takeC t ((c :: b).drop k) with
        | some (i, s, j) => if last = some (t, i, bstr s) then none else (readR t f (m - u) (some (t, i, bstr s)) ((c :: b).drop (k + j))).map fun l => List.replicate u (t, i, bstr s) ++ l
        | none => none) else none
    | none => none
theorem readR_is {t : Int} (ht : 1 ≤ t ∧ t ≤ 4) : ∀ (f m : Nat) (last : Option Val3) (b : List Nat), (∀ x ∈ b, x < 256) → ∀ l, readR t f m last b = some l → OkL t l ∧ All64 l ∧ l.length = m ∧ rleB l = b ∧ (∀ x, l.head? = some x → last ≠ some x)
  | f, m, last, [], _, l, h => by
    have h' : (if m = 0 then some [] else none) = some l := by cases f <;> exact h
    split at h'
    · cases h'; exact ⟨(fun x hx => by cases hx), (fun x hx => by cases hx), by simp [*], rfl, fun x hx => by cases hx⟩
    · cases h'
  | 0, m, last, _ :: _, _, l, h => by cases h
  | f + 1, m, last, c :: b, hb, l, h => by
    unfold readR at h
    split at h
    · rename_i u k hT
      split at h
      · rename_i hu
        split at h
        · rename_i i s j hC
          split at h
          · cases h
          · rename_i hlast
            cases hr : readR t f (m - u) (some (t, i, bstr s)) ((c :: b).drop (k + j)) with
            | none => rw [hr] at h; cases h
            | some l' =>
              rw [hr] at h
              cases h
              have hb' : ∀ x ∈ (c :: b).drop k, x < 256 := fun x hx => hb x (List.mem_of_mem_drop hx)
              obtain ⟨h1, h2, h3⟩ := takeNum_is hb hT
              obtain ⟨h4, h5⟩ := takeC_is ht hb' hC
              obtain ⟨h6, h7⟩ := takeC_read hC
              obtain ⟨_, _, h8, h9⟩ := readC_lt hb' h6
              obtain ⟨g1, g2, g3, g4, g5⟩ := readR_is ht f _ _ _ (fun x hx => hb x (List.mem_of_mem_drop hx)) l' hr
              have hhead : l'.head? ≠ some (t, i, bstr s) := fun e => g5 _ e rfl
              refine ⟨?_, ?_, by rw [List.length_append, List.length_replicate, g3]; omega, ?_, ?_⟩
              · intro x hx
                rcases List.mem_append.1 hx with hx | hx
                · rw [(List.mem_replicate.1 hx).2]; exact ⟨rfl, by rw [bstr_size]; exact h7⟩
                · exact g1 x hx
              · intro x hx
                rcases List.mem_append.1 hx with hx | hx
                · rw [(List.mem_replicate.1 hx).2]; exact h8
                · exact g2 x hx
              · rw [rleB_rep _ u hu.1 l' hhead, g4]
                show putNum u ++ (oneB t i (bstr s) ++ _) = _
                rw [← h5, ← List.drop_drop, List.take_append_drop, (List.prefix_iff_eq_take.1 h3), ← h2, List.take_append_drop]
              · intro x hx
                obtain ⟨v, rfl⟩ : ∃ v, u = v + 1 := ⟨u - 1, by omega⟩
                change some (t, i, bstr s) = some x at hx
                cases hx
                exact hlast
        · cases h
      · cases h
    · cases h
theorem readR_put {t : Int} (ht : 1 ≤ t ∧ t ≤ 4) : ∀ (f : Nat) (l : List Val3) (last : Option Val3), l.length < 1000000 → OkL t l → All64 l → (∀ x, l.head? = some x → last ≠ some x) → (rleB l).length ≤ f → readR t f l.length last (rleB l) = some l
  | f, [], last, _, _, _, _, _ => by rw [rleB_nil]; cases f <;> rfl
  | 0, x :: r, _, _, _, _, _, hf => absurd (List.eq_nil_of_length_eq_zero (Nat.le_zero.1 hf)) (rleB_pos x r)
  | f + 1, x :: r, last, hm, ho, h64, hh, hf => by
    obtain ⟨t', i, s⟩ := x
    obtain ⟨rfl, hmay⟩ := ho _ (List.mem_cons_self ..)
    have hr := runX_le (t', i, s) r
    obtain ⟨n, hn⟩ : ∃ n, n = runX (t', i, s) r := ⟨_, rfl⟩
    have hi := h64 _ (List.mem_cons_self ..)
    have hput := putNum_pos (n + 1)
    rw [List.length_cons] at hm ⊢
    rw [rleB_cons] at hf ⊢
    rw [← hn] at hr hf ⊢
    have ih := readR_put ht f (r.drop n) (some (t', i, s)) (by rw [List.length_drop]; omega) (fun y hy => ho y (List.mem_cons_of_mem _ (List.mem_of_mem_drop hy))) (fun y hy => h64 y (List.mem_cons_of_mem _ (List.mem_of_mem_drop hy)))
      (fun y hy e => by cases e; rw [hn] at hy; exact runX_head _ r hy) (by rw [List.length_append, List.length_append] at hf; omega)
    cases hP : putNum (n + 1) ++ (oneB t' i s ++ rleB (r.drop n)) with
    | nil => rw [(List.append_eq_nil_iff.1 hP).1] at hput; simp at hput
    | cons c b =>
      unfold readR
      rw [← hP, takeNum_put (by omega)]
      simp only
      rw [if_pos (by omega), List.drop_left, takeC_put ht hmay hi]
      simp only
      rw [bstr_nums, if_neg (hh _ rfl), ← List.drop_drop, List.drop_left, List.drop_left, show r.length + 1 - (n + 1) = (r.drop n).length by rw [List.length_drop]; omega, ih]
      show some (List.replicate (n + 1) (t', i, s) ++ r.drop n) = _
      rw [List.replicate_succ, List.cons_append]
      congr 2
      rw [hn]; exact (runX_split _ r).symm
theorem readR_prefix {t : Int} (ht : 1 ≤ t ∧ t ≤ 4) : ∀ (f g m : Nat) (last : Option Val3) (b c : List Nat) (l q : List Val3), (∀ x ∈ b ++ c, x < 256) → readR t f m last b = some l → readR t g m last (b ++ c) = some q → c = []
  | f, g, m, last, [], [], _, _, _, _, _ => rfl
  | f, g, m, last, [], c :: d, l, q, _, h1, h2 => by
    have h' : (if m = 0 then some [] else none) = some l := by cases f <;> exact h1
    split at h'
    · rename_i h0
      subst h0
      cases g with
      | zero => cases h2
      | succ g =>
        rw [List.nil_append] at h2
        unfold readR at h2
        split at h2
        · rename_i u k _
          rw [if_neg (by omega)] at h2; cases h2
        · cases h2
    · cases h'
  | 0, g, m, last, _ :: _, c, _, _, _, h, _ => by cases h
  | f + 1, 0, m, last, _ :: _, c, _, _, _, _, h => by cases h
  | f + 1, g + 1, m, last, x :: b, c, l, q, hb, h1, h2 => by
    have hb1 : ∀ y ∈ x :: b, y < 256 := fun y hy => hb y (List.mem_append_left _ hy)
    unfold readR at h1
    split at h1
    · rename_i u k hT
      obtain ⟨e1, e2, e3⟩ := takeNum_is hb1 hT
      split at h1
      · rename_i hu
        split at h1
        · rename_i i s j hC
          have hb2 : ∀ y ∈ (x :: b).drop k, y < 256 := fun y hy => hb1 y (List.mem_of_mem_drop hy)
          obtain ⟨e4, e5⟩ := takeC_is ht hb2 hC
          obtain ⟨e6, e7⟩ := takeC_read hC
          obtain ⟨_, e10, e8, e9⟩ := readC_lt hb2 e6
          split at h1
          · cases h1
          · rename_i hlast
            have hk : k ≤ (x :: b).length := by rw [e2]; exact e3.length_le
            have hj : k + j ≤ (x :: b).length := by rw [List.length_drop] at e10; omega
            have hT2 : takeNum ((x :: b) ++ c) = some (u, k) := by
              have : (x :: b) ++ c = putNum u ++ ((x :: b).drop k ++ c) := by
                rw [← List.append_assoc]
                congr 1
                have h3 := List.prefix_iff_eq_take.1 e3
                rw [← e2] at h3
                rw [h3, List.take_append_drop]
              rw [this, takeNum_put e1, e2]
            have hC2 : takeC t (((x :: b) ++ c).drop k) = some (i, s, j) := by
              rw [List.drop_append_of_le_length hk]
              have : (x :: b).drop k ++ c = oneB t i (bstr s) ++ (((x :: b).drop k).drop j ++ c) := by
                rw [← List.append_assoc, ← e5, List.take_append_drop]
              rw [this, takeC_put ht (by rw [bstr_size]; exact e7) e8, nums_bstr e9, e4]
            rw [List.cons_append] at h2
            unfold readR at h2
            rw [← List.cons_append, hT2] at h2
            simp only at h2
            rw [if_pos hu, hC2] at h2
            simp only at h2
            rw [if_neg hlast, List.drop_append_of_le_length hj] at h2
            cases hr1 : readR t f (m - u) (some (t, i, bstr s)) ((x :: b).drop (k + j)) with
            | none => rw [hr1] at h1; cases h1
            | some l' =>
              cases hr2 : readR t g (m - u) (some (t, i, bstr s)) ((x :: b).drop (k + j) ++ c) with
              | none => rw [hr2] at h2; cases h2
              | some q' => exact readR_prefix ht f g _ _ _ c l' q' (fun y hy => by
                  rcases List.mem_append.1 hy with hy | hy
                  · exact hb y (List.mem_append_left _ (List.mem_of_mem_drop hy))
                  · exact hb y (List.mem_append_right _ hy)) hr1 hr2
        · cases h1
      · cases h1
    · cases h1

instance okLDec (t : Int) (l : List Val3) : Decidable (OkL t l) := by unfold OkL; infer_instance
def putL (t : Int) (l : List Val3) : Option (List Nat) := if (1 ≤ t ∧ t ≤ 4) ∧ OkL t l then some (rleB l) else none
def takeL (t n : Int) (b : List Nat) : Option (List Val3) := if (1 ≤ t ∧ t ≤ 4) ∧ 0 ≤ n ∧ n ≤ 1000 then readR t b.length n.toNat none b else none
theorem putL_some {t : Int} {l : List Val3} (ht : 1 ≤ t ∧ t ≤ 4) (ho : OkL t l) : ∃ b, putL t l = some b := ⟨rleB l, by unfold putL; rw [if_pos ⟨ht, ho⟩]⟩
theorem putL_is {t : Int} {l : List Val3} {b : List Nat} (h : putL t l = some b) : (1 ≤ t ∧ t ≤ 4) ∧ OkL t l ∧ b = rleB l := by
  unfold putL at h
  split at h
  · rename_i hc; cases h; exact ⟨hc.1, hc.2, rfl⟩
  · cases h
theorem putL_le {t : Int} {l : List Val3} {b : List Nat} (ho : OkL t l) (h : putL t l = some b) : b.length ≤ l.length * 31 := by
  obtain ⟨_, _, rfl⟩ := putL_is h; exact rleB_le ho
theorem putL_lt {t : Int} {l : List Val3} {b : List Nat} (hm : l.length ≤ 1000) (ho : OkL t l) (h64 : All64 l) (h : putL t l = some b) : ∀ x ∈ b, x < 256 := by
  obtain ⟨_, _, rfl⟩ := putL_is h; exact rleB_lt (by omega) ho h64
theorem takeL_put {t : Int} (ht : 1 ≤ t ∧ t ≤ 4) {l : List Val3} (ho : OkL t l) (h64 : All64 l) (hl : l.length ≤ 1000) {b : List Nat} (h : putL t l = some b) : takeL t l.length b = some l := by
  obtain ⟨_, _, rfl⟩ := putL_is h
  unfold takeL
  rw [if_pos ⟨ht, by omega, by omega⟩]
  exact readR_put ht _ l none (by omega) ho h64 (fun x _ e => by cases e) (Nat.le_refl _)
theorem takeL_none {t : Int} (ht : 1 ≤ t ∧ t ≤ 4) {l : List Val3} (hl : l.length ≤ 1000) (ho : OkL t l) (h64 : All64 l) {b c d : List Nat} (h256 : ∀ x ∈ b ++ c, x < 256) (hc : c ≠ []) (h : (putL t l = some b ∧ d = b ++ c) ∨ (putL t l = some (b ++ c) ∧ d = b)) : takeL t l.length d = none := by
  unfold takeL
  split
  · rw [show ((l.length : Nat) : Int).toNat = l.length from rfl]
    cases hd : readR t d.length l.length none d with
    | none => rfl
    | some m =>
      exfalso
      have hp := readR_put ht (rleB l).length l none (by omega) ho h64 (fun x _ e => by cases e) (Nat.le_refl _)
      rcases h with ⟨h, rfl⟩ | ⟨h, rfl⟩
      · obtain ⟨_, _, rfl⟩ := putL_is h
        exact hc (readR_prefix ht _ _ _ _ _ _ l m h256 hp hd)
      · obtain ⟨_, _, he⟩ := putL_is h
        rw [← he] at hp
        exact hc (readR_prefix ht _ _ _ _ _ _ m l h256 hd hp)
  · rfl
theorem takeL_more {t : Int} (ht : 1 ≤ t ∧ t ≤ 4) {l : List Val3} (hl : l.length ≤ 1000) (ho : OkL t l) (h64 : All64 l) {b : List Nat} (h : putL t l = some b) {x : Nat} (hx : x < 256) : takeL t l.length (b ++ [x]) = none :=
  takeL_none ht hl ho h64 (b := b) (c := [x]) (fun y hy => by
    rcases List.mem_append.1 hy with hy | hy
    · exact putL_lt hl ho h64 h y hy
    · rw [List.mem_singleton] at hy; omega) (by simp) (.inl ⟨h, rfl⟩)
theorem takeL_cut {t : Int} (ht : 1 ≤ t ∧ t ≤ 4) {l : List Val3} (hl : l.length ≤ 1000) (ho : OkL t l) (h64 : All64 l) {b : List Nat} (h : putL t l = some b) {q : Nat} (hq : q < b.length) : takeL t l.length (b.take q) = none :=
  takeL_none ht hl ho h64 (b := b.take q) (c := b.drop q) (fun y hy => by rw [List.take_append_drop] at hy; exact putL_lt hl ho h64 h y hy) (fun e => by have := congrArg List.length e; rw [List.length_drop] at this; simp at this; omega) (.inr ⟨by rw [List.take_append_drop]; exact h, rfl⟩)
end Go.Proofs.YtifejanbgobngaaDoor
