/- Sets of places: rising lists, and what the laws of package batch ask of them. -/
import Derived.Lib.SlicesCompact
namespace Go.Proofs.YtlfmmhbaphnifaaRRRRGreatDoor
open Go Go.Lib
set_option linter.unusedVariables false

abbrev SInc (l : List Int) : Prop := l.Pairwise (· < ·)
/-- A list rising, each once. -/
def rsg (l : List Int) : List Int := Lib.compact (l.mergeSort fun x y => decide (x ≤ y))

theorem sinc_unique : ∀ {a b : List Int}, SInc a → SInc b → (∀ x, x ∈ a ↔ x ∈ b) → a = b
  | [], [], _, _, _ => rfl
  | [], y :: b, _, _, h => by have := (h y).2 (by simp); simp at this
  | x :: a, [], _, _, h => by have := (h x).1 (by simp); simp at this
  | x :: a, y :: b, ha, hb, h => by
    obtain ⟨ha1, ha2⟩ := List.pairwise_cons.1 ha
    obtain ⟨hb1, hb2⟩ := List.pairwise_cons.1 hb
    have hxy : x = y := by
      have h1 := (h x).1 (by simp)
      have h2 := (h y).2 (by simp)
      rcases List.mem_cons.1 h1 with h1 | h1
      · exact h1
      · rcases List.mem_cons.1 h2 with h2 | h2
        · exact h2.symm
        · have := ha1 _ h2; have := hb1 _ h1; omega
    subst hxy
    congr 1
    refine sinc_unique ha2 hb2 fun z => ⟨fun hz => ?_, fun hz => ?_⟩
    · rcases List.mem_cons.1 ((h z).1 (List.mem_cons_of_mem _ hz)) with h1 | h1
      · have := ha1 _ hz; omega
      · exact h1
    · rcases List.mem_cons.1 ((h z).2 (List.mem_cons_of_mem _ hz)) with h1 | h1
      · have := hb1 _ hz; omega
      · exact h1

theorem compact_mem (l : List Int) (hs : l.Pairwise (· ≤ ·)) : SInc (Lib.compact l) ∧ ∀ x, x ∈ Lib.compact l ↔ x ∈ l := by
  have key : ∀ m, m ≤ l.length → SInc (Lib.compactUpTo l.toArray m) ∧ (∀ x, x ∈ Lib.compactUpTo l.toArray m ↔ x ∈ l.take m) := by
    intro m
    induction m with
    | zero => intro _; simp [Lib.compactUpTo]
    | succ m ih =>
      intro hm
      obtain ⟨h1, h2⟩ := ih (by omega)
      rw [Lib.compactUpTo_succ]
      have hml : m < l.length := by omega
      have hg : l.toArray[m]! = l[m] := by rw [getElem!_pos l.toArray m (by simpa using hml)]; simp
      have ht : l.take (m + 1) = l.take m ++ [l[m]] := by rw [List.take_succ_eq_append_getElem hml]
      rw [ht, hg]
      have hle : ∀ x ∈ l.take m, x ≤ l[m] := by
        intro x hx
        obtain ⟨i, hi, rfl⟩ := List.mem_iff_getElem.1 hx
        rw [List.length_take] at hi
        rw [List.getElem_take]
        exact List.pairwise_iff_getElem.1 hs i m (by omega) hml (by omega)
      by_cases hk : Lib.keeps l.toArray m = true
      · rw [if_pos hk]
        refine ⟨List.pairwise_append.2 ⟨h1, List.pairwise_singleton _ _, fun x hx y hy => ?_⟩, fun x => by rw [List.mem_append, List.mem_append, h2]⟩
        rw [List.mem_singleton] at hy
        subst hy
        have hx' := (h2 x).1 hx
        have h3 := hle x hx'
        rcases Int.lt_or_eq_of_le h3 with h4 | h4
        · exact h4
        · exfalso
          unfold Lib.keeps at hk
          rw [decide_eq_true_eq] at hk
          rcases hk with hk | hk
          · subst hk; simp at hx'
          · apply hk
            have hm0 : 0 < m := by
              rcases Nat.eq_zero_or_pos m with h | h
              · subst h; simp at hx'
              · exact h
            have hg2 : l.toArray[m - 1]! = l[m - 1] := by rw [getElem!_pos l.toArray (m - 1) (by simp; omega)]; simp
            rw [hg, hg2]
            obtain ⟨i, hi, rfl⟩ := List.mem_iff_getElem.1 hx'
            rw [List.length_take] at hi
            rw [List.getElem_take] at h4
            have a1 : l[m - 1] ≤ l[m] := List.pairwise_iff_getElem.1 hs (m - 1) m (by omega) hml (by omega)
            have a2 : l[i] ≤ l[m - 1] := by
              rcases Nat.lt_or_ge i (m - 1) with h | h
              · exact List.pairwise_iff_getElem.1 hs i (m - 1) (by omega) (by omega) h
              · obtain rfl : i = m - 1 := by omega
                exact Int.le_refl _
            omega
      · rw [if_neg hk, List.append_nil]
        refine ⟨h1, fun x => ?_⟩
        rw [h2]
        constructor
        · intro h; exact List.mem_append_left _ h
        · intro h
          rcases List.mem_append.1 h with h | h
          · exact h
          · rw [List.mem_singleton] at h
            subst h
            unfold Lib.keeps at hk
            rw [decide_eq_true_eq] at hk
            obtain ⟨k1, k2⟩ := not_or.1 hk
            have k3 : l.toArray[m]! = l.toArray[m - 1]! := Classical.not_not.1 k2
            have hg2 : l.toArray[m - 1]! = l[m - 1] := by rw [getElem!_pos l.toArray (m - 1) (by simp; omega)]; simp
            rw [hg, hg2] at k3
            rw [k3]
            rw [List.mem_take_iff_getElem]
            exact ⟨m - 1, by omega, rfl⟩
  have h := key l.length (Nat.le_refl _)
  rw [List.take_length] at h
  exact h
theorem sorted_ms (l : List Int) : (l.mergeSort fun x y => decide (x ≤ y)).Pairwise (· ≤ ·) := by
  have h := List.pairwise_mergeSort (le := fun (x y : Int) => decide (x ≤ y)) (fun a b c h1 h2 => by simp at *; omega) (fun a b => by simp; omega) l
  exact h.imp fun {a b} h => by simpa using h
theorem rsg_inc (l : List Int) : SInc (rsg l) := (compact_mem _ (sorted_ms l)).1
theorem rsg_mem (l : List Int) (x : Int) : x ∈ rsg l ↔ x ∈ l := by
  unfold rsg
  rw [(compact_mem _ (sorted_ms l)).2, List.mem_mergeSort]
theorem rsg_of {l : List Int} (h : SInc l) : rsg l = l := sinc_unique (rsg_inc l) h (rsg_mem l)
theorem rsg_len (l : List Int) : (rsg l).length ≤ l.length := by
  have h : ∀ (zs : List Int), (Lib.compact zs).length ≤ zs.length := fun zs => by
    unfold Lib.compact Lib.compactUpTo
    rw [List.length_map]
    refine Nat.le_trans (List.length_filter_le _ _) (by simp)
  have := h (l.mergeSort fun x y => decide (x ≤ y))
  rwa [List.length_mergeSort] at this
theorem sinc_le {l : List Int} (h : SInc l) : l.Pairwise (· ≤ ·) := h.imp fun h => Int.le_of_lt h

/-- The places from 0 to n - 1. -/
def upto (n : Nat) : List Int := (List.range n).map fun (i : Nat) => (i : Int)
theorem upto_mem (n : Nat) (x : Int) : x ∈ upto n ↔ 0 ≤ x ∧ x < n := by
  unfold upto
  rw [List.mem_map]
  constructor
  · rintro ⟨i, hi, rfl⟩; rw [List.mem_range] at hi; omega
  · rintro ⟨h1, h2⟩; exact ⟨x.toNat, by rw [List.mem_range]; omega, by omega⟩
theorem upto_inc (n : Nat) : SInc (upto n) := by
  unfold upto
  rw [SInc, List.pairwise_map]
  exact (List.pairwise_lt_range (n := n)).imp fun h => by omega
theorem upto_succ (n : Nat) : upto (n + 1) = upto n ++ [(n : Int)] := by unfold upto; rw [List.range_succ, List.map_append]; rfl
theorem upto_len (n : Nat) : (upto n).length = n := by simp [upto]
def meetL (a b : List Int) : List Int := (rsg a).filter fun i => decide (i ∈ rsg b)
def joinL (a b : List Int) : List Int := rsg (a ++ b)
def restL (a : List Int) (n : Nat) : List Int := (upto n).filter fun i => !decide (i ∈ rsg a)
theorem meet_inc (a b : List Int) : SInc (meetL a b) := (rsg_inc a).filter _
theorem meet_mem (a b : List Int) (x : Int) : x ∈ meetL a b ↔ x ∈ a ∧ x ∈ b := by simp [meetL, rsg_mem]
theorem join_inc (a b : List Int) : SInc (joinL a b) := rsg_inc _
theorem join_mem (a b : List Int) (x : Int) : x ∈ joinL a b ↔ x ∈ a ∨ x ∈ b := by simp [joinL, rsg_mem]
theorem rest_inc (a : List Int) (n : Nat) : SInc (restL a n) := (upto_inc n).filter _
theorem rest_mem (a : List Int) (n : Nat) (x : Int) : x ∈ restL a n ↔ (0 ≤ x ∧ x < n) ∧ x ∉ a := by simp [restL, rsg_mem, upto_mem]
theorem meet_len (a b : List Int) : (meetL a b).length ≤ a.length := Nat.le_trans (List.length_filter_le _ _) (rsg_len a)
theorem join_len (a b : List Int) : (joinL a b).length ≤ a.length + b.length := by have := rsg_len (a ++ b); rwa [List.length_append] at this
theorem rest_len (a : List Int) (n : Nat) : (restL a n).length ≤ n := Nat.le_trans (List.length_filter_le _ _) (by rw [upto_len]; exact Nat.le_refl _)

/-- The places of the set bits. -/
def selL (l : List Bool) (k : Nat) : List Int := (upto k).filter fun i => l.getD i.toNat false
theorem selL_succ (l : List Bool) (k : Nat) : selL l (k + 1) = selL l k ++ (if l.getD k false then [(k : Int)] else []) := by
  unfold selL
  rw [upto_succ, List.filter_append]
  congr 1
  by_cases h : l.getD k false = true
  · rw [if_pos h, List.filter_cons_of_pos (by simpa using h)]; rfl
  · rw [if_neg h, List.filter_cons_of_neg (by simpa using h)]; rfl
theorem selL_inc (l : List Bool) (k : Nat) : SInc (selL l k) := (upto_inc k).filter _
theorem selL_lt (l : List Bool) (k : Nat) (x : Int) (h : x ∈ selL l k) : 0 ≤ x ∧ x < k := by
  unfold selL at h; rw [List.mem_filter, upto_mem] at h; exact h.1
theorem selL_len (l : List Bool) (k : Nat) : (selL l k).length ≤ k := Nat.le_trans (List.length_filter_le _ _) (by rw [upto_len]; exact Nat.le_refl _)

/-- What BatchLaws asks. -/
theorem laws12 (x y : List Int) (n : Nat) (hx : SInc x) (hy : SInc y) (bx : ∀ z ∈ x, 0 ≤ z ∧ z < n) (by_ : ∀ z ∈ y, 0 ≤ z ∧ z < n) :
    restL (joinL x y) n = meetL (restL x n) (restL y n) ∧ restL (meetL x y) n = joinL (restL x n) (restL y n) ∧ restL (restL x n) n = x ∧ meetL x (restL x n) = [] ∧ (joinL x (restL x n)).length = n := by
  refine ⟨sinc_unique (rest_inc _ _) (meet_inc _ _) fun z => ?_, sinc_unique (rest_inc _ _) (join_inc _ _) fun z => ?_, sinc_unique (rest_inc _ _) hx fun z => ?_, ?_, ?_⟩
  · rw [rest_mem, join_mem, meet_mem, rest_mem, rest_mem, not_or]
    constructor
    · rintro ⟨h1, h2, h3⟩; exact ⟨⟨h1, h2⟩, h1, h3⟩
    · rintro ⟨⟨h1, h2⟩, _, h3⟩; exact ⟨h1, h2, h3⟩
  · rw [rest_mem, join_mem, meet_mem, rest_mem, rest_mem]
    by_cases a : z ∈ x <;> by_cases b : z ∈ y <;> simp [a, b]
  · rw [rest_mem, rest_mem]
    constructor
    · rintro ⟨h1, h2⟩
      by_cases a : z ∈ x
      · exact a
      · exact absurd ⟨h1, a⟩ h2
    · intro h; exact ⟨bx z h, fun h2 => h2.2 h⟩
  · rw [List.eq_nil_iff_forall_not_mem]
    intro z hz
    rw [meet_mem, rest_mem] at hz
    exact hz.2.2 hz.1
  · have : joinL x (restL x n) = upto n := sinc_unique (join_inc _ _) (upto_inc n) fun z => by
      rw [join_mem, rest_mem, upto_mem]
      constructor
      · rintro (h | h)
        · exact bx z h
        · exact h.1
      · intro h
        by_cases a : z ∈ x
        · exact .inl a
        · exact .inr ⟨h, a⟩
    rw [this, upto_len]

/-- The document's sets. -/
def meetR (a b : List Int) : List Int := a.filter fun i => decide (i ∈ b)
def restR (a : List Int) (n : Nat) : List Int := (upto n).filter fun i => !decide (i ∈ a)
/-- So many of the front are less. -/
def cutAt (l : List Int) (v : Int) : Nat := (l.takeWhile fun x => decide (x < v)).length
def insR (a : List Int) (l : List Int) (v : Int) : List Int := if v ∈ a then l else l.take (cutAt l v) ++ [v] ++ l.drop (cutAt l v)
def joinR (a b : List Int) : List Int := b.foldl (insR a) a
theorem meetR_eq {a b : List Int} (ha : SInc a) : meetL a b = meetR a b := sinc_unique (meet_inc _ _) (ha.filter _) fun z => by
  rw [meet_mem]; simp [meetR]
theorem restR_eq (a : List Int) (n : Nat) : restL a n = restR a n := by
  unfold restL restR
  congr 1; funext i; simp [rsg_mem]
theorem cutAt_take (l : List Int) (v : Int) : l.take (cutAt l v) = l.takeWhile fun x => decide (x < v) := by
  unfold cutAt
  exact (List.prefix_iff_eq_take.1 (List.takeWhile_prefix _)).symm
theorem cutAt_drop (l : List Int) (v : Int) : l.drop (cutAt l v) = l.dropWhile fun x => decide (x < v) := by
  have h := List.takeWhile_append_dropWhile (p := fun x => decide (x < v)) (l := l)
  have h2 := List.take_append_drop (cutAt l v) l
  rw [cutAt_take] at h2
  exact List.append_cancel_left (h2.trans h.symm)
theorem ins_inc {l : List Int} {v : Int} (hl : SInc l) (hv : v ∉ l) : SInc (l.take (cutAt l v) ++ [v] ++ l.drop (cutAt l v)) ∧ ∀ z, z ∈ l.take (cutAt l v) ++ [v] ++ l.drop (cutAt l v) ↔ z ∈ l ∨ z = v := by
  have hmem : ∀ z, z ∈ l.take (cutAt l v) ++ [v] ++ l.drop (cutAt l v) ↔ z ∈ l ∨ z = v := fun z => by
    conv => rhs; rw [← List.take_append_drop (cutAt l v) l]
    simp only [List.mem_append, List.mem_singleton]
    constructor
    · rintro ((h | h) | h)
      · exact .inl (.inl h)
      · exact .inr h
      · exact .inl (.inr h)
    · rintro ((h | h) | h)
      · exact .inl (.inl h)
      · exact .inr h
      · exact .inl (.inr h)
  refine ⟨?_, hmem⟩
  have hp : SInc (l.take (cutAt l v) ++ l.drop (cutAt l v)) := by rw [List.take_append_drop]; exact hl
  obtain ⟨p1, p2, p3⟩ := List.pairwise_append.1 hp
  have h1 : ∀ z ∈ l.take (cutAt l v), z < v := fun z hz => by
    rw [cutAt_take] at hz
    have h := List.all_takeWhile (p := fun x => decide (x < v)) (l := l)
    rw [List.all_eq_true] at h
    simpa using h z hz
  have h2 : ∀ z ∈ l.drop (cutAt l v), v < z := by
    intro z hz
    rw [cutAt_drop] at hz p2
    have hne : z ≠ v := fun e => hv (e ▸ (List.dropWhile_suffix _).mem hz)
    cases hd : l.dropWhile fun x => decide (x < v) with
    | nil => rw [hd] at hz; cases hz
    | cons y r =>
      have hy : ¬ y < v := by
        have := List.head_dropWhile_not (fun x => decide (x < v)) (l := l) (by rw [hd]; simp)
        simp only [hd, List.head_cons] at this
        simpa using this
      rw [hd] at hz p2
      rcases List.mem_cons.1 hz with rfl | hz
      · omega
      · have := (List.pairwise_cons.1 p2).1 z hz
        omega
  rw [List.append_assoc]
  refine List.pairwise_append.2 ⟨p1, List.pairwise_cons.2 ⟨h2, p2⟩, fun x hx y hy => ?_⟩
  rcases List.mem_cons.1 hy with rfl | hy
  · exact h1 x hx
  · exact p3 x hx y hy
theorem joinR_eq {a b : List Int} (ha : SInc a) (hb : SInc b) : joinL a b = joinR a b := by
  have key : ∀ (r : List Int) (l : List Int), SInc r → SInc l → (∀ x, x ∈ l → x ∈ a ∨ x ∉ r) → (∀ x ∈ a, x ∈ l) → SInc (r.foldl (insR a) l) ∧ ∀ z, z ∈ r.foldl (insR a) l ↔ z ∈ l ∨ z ∈ r := by
    intro r
    induction r with
    | nil => intro l _ hl _ _; exact ⟨hl, fun z => by simp⟩
    | cons v r ih =>
      intro l hr hl hd ha2
      obtain ⟨hr1, hr2⟩ := List.pairwise_cons.1 hr
      rw [List.foldl_cons]
      by_cases hva : v ∈ a
      · have e : insR a l v = l := by unfold insR; rw [if_pos hva]
        rw [e]
        obtain ⟨i1, i2⟩ := ih l hr2 hl (fun x hx => (hd x hx).imp id fun h h2 => h (List.mem_cons_of_mem _ h2)) ha2
        refine ⟨i1, fun z => ?_⟩
        rw [i2, List.mem_cons]
        constructor
        · rintro (h | h)
          · exact .inl h
          · exact .inr (.inr h)
        · rintro (h | rfl | h)
          · exact .inl h
          · exact .inl (ha2 _ hva)
          · exact .inr h
      · have e : insR a l v = l.take (cutAt l v) ++ [v] ++ l.drop (cutAt l v) := by unfold insR; rw [if_neg hva]
        have hvl : v ∉ l := fun h => by
          rcases hd v h with h | h
          · exact hva h
          · exact h (List.mem_cons_self ..)
        obtain ⟨n1, n2⟩ := ins_inc hl hvl
        rw [e]
        obtain ⟨i1, i2⟩ := ih _ hr2 n1 (fun x hx => by
          rcases (n2 x).1 hx with hx | rfl
          · exact (hd x hx).imp id fun h h2 => h (List.mem_cons_of_mem _ h2)
          · exact .inr fun h => by have := hr1 _ h; omega) (fun x hx => (n2 x).2 (.inl (ha2 x hx)))
        refine ⟨i1, fun z => ?_⟩
        rw [i2, n2, List.mem_cons, or_assoc]
  obtain ⟨k1, k2⟩ := key b a hb ha (fun x hx => .inl hx) (fun x hx => hx)
  exact sinc_unique (join_inc _ _) k1 fun z => by rw [join_mem]; exact (k2 z).symm
end Go.Proofs.YtlfmmhbaphnifaaRRRRGreatDoor
