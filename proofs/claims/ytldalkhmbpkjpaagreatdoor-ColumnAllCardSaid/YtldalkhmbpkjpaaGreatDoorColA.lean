
import Derived.Test.YtldalkhmbpkjpaaGreatDoorPlainMath
import Derived.Test.YtldalkhmbpkjpaaGreatDoorPlainB
import Derived.Test.YtldalkhmbpkjpaaGreatDoorNullsD
import Derived.Test.YtldalkhmbpkjpaaGreatDoorRefL
import Derived.Test.YtldalkhmbpkjpaaGreatDoorCell
import Derived.Test.YtldalkhmbpkjpaaGreatDoorRleD
import Derived.Test.YtldalkhmbpkjpaaGreatDoorDictD
import Derived.Test.YtldalkhmbpkjpaaGreatDoorPackD
/- Plain mathematics of columns. -/

namespace Go.Proofs.YtldalkhmbpkjpaaGreatDoor
open Go.RowKit
set_option linter.unusedVariables false

/-- The encoding that is used. -/
def usedC (enc t : Int) : Option Int :=
  if (1 ≤ t ∧ t ≤ 4) ∧ 1 ≤ enc ∧ enc ≤ 5 then
    some (if enc = 5 then (if t = 1 ∨ t = 2 then 5 else if t = 4 then 3 else 4) else if enc = 4 then (if t = 4 then 3 else 4) else enc)
  else none
/-- An encoding serves a type. -/
def Serves (u t : Int) : Prop := (1 ≤ t ∧ t ≤ 4) ∧ 1 ≤ u ∧ u ≤ 5 ∧ (u = 4 → t ≠ 4) ∧ (u = 5 → t = 1 ∨ t = 2)
theorem usedC_serves {enc t u : Int} (h : usedC enc t = some u) : Serves u t := by
  unfold usedC at h
  unfold Serves
  split at h
  · injection h with h
    repeat' split at h
    all_goals omega
  · cases h
theorem serves_used {u t : Int} (h : Serves u t) : usedC u t = some u := by
  unfold Serves at h
  unfold usedC
  rw [if_pos (by omega)]
  congr 1
  repeat' split
  all_goals omega
def putE (u t : Int) (l : List Val3) : Option (List Nat) := if u = 2 then putL t l else if u = 3 then putT t l else if u = 4 then putK t l else if u = 5 then putD t l else putP t l
def takeE (u t n : Int) (b : List Nat) : Option (List Val3) := if u = 2 then takeL t n b else if u = 3 then takeT t n b else if u = 4 then takeK t n b else if u = 5 then takeD t n b else takeP t n b
theorem putE_some {u t : Int} {l : List Val3} (h : Serves u t) (ho : OkL t l) : ∃ b, putE u t l = some b := by
  unfold Serves at h
  unfold putE
  split
  · exact putL_some h.1 ho
  · split
    · exact putT_some h.1 ho
    · split
      · exact putK_some (by unfold KT; omega) ho
      · split
        · exact putD_some (by omega) ho
        · exact putP_some h.1 ho
theorem putE_ok {u t : Int} {l : List Val3} {b : List Nat} (h : putE u t l = some b) : OkL t l := by
  unfold putE at h
  repeat' split at h
  · exact (putL_is h).2.1
  · exact (putT_is h).2.1
  · exact (putK_is h).2.1
  · exact (putD_is h).2.1
  · exact (putP_is h).2.1
theorem putE_lt {u t : Int} {l : List Val3} {b : List Nat} (hl : l.length ≤ 1000) (h64 : All64 l) (h : putE u t l = some b) : ∀ x ∈ b, x < 256 := by
  have ho := putE_ok h
  unfold putE at h
  repeat' split at h
  · exact putL_lt hl ho h64 h
  · exact putT_lt hl h64 h
  · exact putK_lt h64 h
  · exact putD_lt h
  · exact putP_lt ho h64 h
theorem putE_le {u t : Int} {l : List Val3} {b : List Nat} (hl : l.length ≤ 1000) (h64 : All64 l) (h : putE u t l = some b) : b.length ≤ l.length * 31 + 10 := by
  have ho := putE_ok h
  unfold putE at h
  repeat' split at h
  · have := putL_le ho h; omega
  · have := putT_le hl h; omega
  · have := putK_le h64 h; omega
  · have := putD_le h; omega
  · have := putP_le ho h; omega
theorem takeE_put {u t : Int} {l : List Val3} (h64 : All64 l) (hl : l.length ≤ 1000) {b : List Nat} (hs : 1 ≤ t ∧ t ≤ 4) (h : putE u t l = some b) : takeE u t l.length b = some l := by
  have ho := putE_ok h
  unfold putE at h
  unfold takeE
  repeat' split at h
  · rw [if_pos (by assumption)]; exact takeL_put hs ho h64 hl h
  · rw [if_neg (by assumption), if_pos (by assumption)]; exact takeT_put h64 hl h
  · rw [if_neg (by assumption), if_neg (by assumption), if_pos (by assumption)]; exact takeK_put h64 hl h
  · rw [if_neg (by assumption), if_neg (by assumption), if_neg (by assumption), if_pos (by assumption)]; exact takeD_put h64 hl h
  · rw [if_neg (by assumption), if_neg (by assumption), if_neg (by assumption), if_neg (by assumption)]; exact takeP_put hs ho h64 hl h
theorem takeL_is {t n : Int} {b : List Nat} (h256 : ∀ x ∈ b, x < 256) {l : List Val3} (h : takeL t n b = some l) : putL t l = some b ∧ All64 l ∧ (l.length : Int) = n ∧ n ≤ 1000 := by
  unfold takeL at h
  split at h
  · rename_i hc
    obtain ⟨h1, h2, h3, h4, _⟩ := readR_is hc.1 _ _ _ _ h256 _ h
    exact ⟨by unfold putL; rw [if_pos ⟨hc.1, h1⟩, h4], h2, by omega, by omega⟩
  · cases h
theorem takeP_is {t n : Int} {b : List Nat} (h256 : ∀ x ∈ b, x < 256) {l : List Val3} (h : takeP t n b = some l) : putP t l = some b ∧ All64 l ∧ (l.length : Int) = n ∧ n ≤ 1000 := by
  unfold takeP at h
  split at h
  · rename_i hc
    obtain ⟨h1, h2, h3, h4⟩ := readP_is hc.1 _ _ h256 _ h
    exact ⟨by unfold putP; rw [if_pos ⟨hc.1, h1⟩, h4], h2, by omega, by omega⟩
  · cases h
theorem takeE_is {u t n : Int} {b : List Nat} (h256 : ∀ x ∈ b, x < 256) {l : List Val3} (h : takeE u t n b = some l) : putE u t l = some b ∧ All64 l ∧ (l.length : Int) = n ∧ n ≤ 1000 := by
  unfold takeE at h
  unfold putE
  repeat' split at h
  · rw [if_pos (by assumption)]; exact takeL_is h256 h
  · rw [if_neg (by assumption), if_pos (by assumption)]; exact takeT_is h256 h
  · rw [if_neg (by assumption), if_neg (by assumption), if_pos (by assumption)]; exact takeK_is h
  · rw [if_neg (by assumption), if_neg (by assumption), if_neg (by assumption), if_pos (by assumption)]; exact takeD_is h256 h
  · rw [if_neg (by assumption), if_neg (by assumption), if_neg (by assumption), if_neg (by assumption)]; exact takeP_is h256 h

instance (t vt i : Int) (n : Nat) : Decidable (FitsV t vt i n) := by unfold FitsV; infer_instance
/-- Which fit a column; which are nothing; the others. -/
def FitL (t : Int) (l : List Val3) : Prop := ∀ v ∈ l, FitsV t v.1 v.2.1 v.2.2.size
instance (t : Int) (l : List Val3) : Decidable (FitL t l) := by unfold FitL; infer_instance
def noneL (l : List Val3) : List Bool := l.map fun v => v.1 == 0
def someL (l : List Val3) : List Val3 := l.filter fun v => v.1 != 0
theorem noneL_len (l : List Val3) : (noneL l).length = l.length := List.length_map _
theorem someL_len (l : List Val3) : (someL l).length ≤ l.length := List.length_filter_le _ _
theorem someL_count : ∀ l : List Val3, (someL l).length = l.length - (noneL l).count true
  | [] => rfl
  | v :: r => by
    have ih := someL_count r
    have hc : (noneL r).count true ≤ r.length := by rw [← noneL_len r]; exact List.count_le_length
    unfold someL noneL at *
    by_cases h : v.1 = 0
    · rw [List.filter_cons_of_neg (by simp [h]), List.map_cons, show (v.1 == 0) = true by simp [h], List.count_cons_self, List.length_cons]
      omega
    · rw [List.filter_cons_of_pos (by simp [h]), List.map_cons, show (v.1 == 0) = false by simp [h], List.count_cons_of_ne (by decide), List.length_cons, List.length_cons]
      omega
theorem someL_ok {t : Int} {l : List Val3} (h : FitL t l) : OkL t (someL l) := by
  intro v hv
  obtain ⟨h1, h2⟩ := List.mem_filter.1 hv
  obtain ⟨_, _, h3, h4⟩ := h v h1
  have : v.1 ≠ 0 := by simpa using h2
  exact ⟨by omega, h4⟩
theorem someL_64 {l : List Val3} (h : All64 l) : All64 (someL l) := fun v hv => h v (List.mem_filter.1 hv).1
/-- Nothing laid between the others where it was. -/
def mixL : List Bool → List Val3 → List Val3
  | [], _ => []
  | true :: r, s => (0, 0, ⟨#[]⟩) :: mixL r s
  | false :: r, s => s.headD (0, 0, ⟨#[]⟩) :: mixL r s.tail
theorem mixL_len : ∀ (n : List Bool) (s : List Val3), (mixL n s).length = n.length
  | [], _ => rfl
  | true :: r, s => by unfold mixL; rw [List.length_cons, mixL_len r s, List.length_cons]
  | false :: r, s => by unfold mixL; rw [List.length_cons, mixL_len r _, List.length_cons]
theorem none_is {v : Val3} (h0 : v.1 = 0) (hm : MayV v.1 v.2.1 v.2.2.size) : v = (0, 0, ⟨#[]⟩) := by
  obtain ⟨a, b, c⟩ := v
  dsimp only at h0 hm
  subst h0
  have h1 : b = 0 := by unfold MayV at hm; omega
  have h2 : c.size = 0 := by unfold MayV at hm; omega
  rw [h1, byte_nil h2]
theorem mixL_apart {t : Int} : ∀ {l : List Val3}, FitL t l → mixL (noneL l) (someL l) = l
  | [], _ => rfl
  | v :: r, h => by
    have ih := mixL_apart (t := t) (l := r) (fun x hx => h x (List.mem_cons_of_mem _ hx))
    obtain ⟨_, _, h3, h4⟩ := h v (List.mem_cons_self ..)
    unfold noneL someL at *
    by_cases h0 : v.1 = 0
    · rw [List.filter_cons_of_neg (by simp [h0]), List.map_cons, show (v.1 == 0) = true by simp [h0]]
      unfold mixL
      rw [ih, ← none_is h0 h4]
    · rw [List.filter_cons_of_pos (by simp [h0]), List.map_cons, show (v.1 == 0) = false by simp [h0]]
      unfold mixL
      rw [List.headD_cons, List.tail_cons, ih]
theorem mixL_parts {t : Int} (ht : 1 ≤ t ∧ t ≤ 4) : ∀ (n : List Bool) (s : List Val3), OkL t s → s.length + n.count true = n.length → FitL t (mixL n s) ∧ noneL (mixL n s) = n ∧ someL (mixL n s) = s
  | [], s, _, h => by
    have : s = [] := List.eq_nil_of_length_eq_zero (by simpa using h)
    subst this
    exact ⟨(fun x hx => by cases hx), rfl, rfl⟩
  | true :: r, s, ok, h => by
    rw [List.count_cons_self, List.length_cons] at h
    obtain ⟨h1, h2, h3⟩ := mixL_parts ht r s ok (by omega)
    unfold mixL
    refine ⟨fun x hx => ?_, ?_, ?_⟩
    · rcases List.mem_cons.1 hx with rfl | hx
      · exact ⟨ht.1, ht.2, .inl rfl, by unfold MayV; left; decide⟩
      · exact h1 x hx
    · unfold noneL at *; rw [List.map_cons, h2]; rfl
    · unfold someL at *; rw [List.filter_cons_of_neg (by simp), h3]
  | false :: r, [], ok, h => by
    rw [List.count_cons_of_ne (by decide), List.length_cons] at h
    have := List.count_le_length (a := true) (l := r)
    simp at h
    omega
  | false :: r, v :: s, ok, h => by
    rw [List.count_cons_of_ne (by decide), List.length_cons, List.length_cons] at h
    obtain ⟨hv, hm⟩ := ok v (List.mem_cons_self ..)
    obtain ⟨h1, h2, h3⟩ := mixL_parts ht r s (fun x hx => ok x (List.mem_cons_of_mem _ hx)) (by omega)
    unfold mixL
    rw [List.headD_cons, List.tail_cons]
    have hne : v.1 ≠ 0 := by omega
    refine ⟨fun x hx => ?_, ?_, ?_⟩
    · rcases List.mem_cons.1 hx with rfl | hx
      · exact ⟨ht.1, ht.2, .inr hv, hm⟩
      · exact h1 x hx
    · unfold noneL at *; rw [List.map_cons, h2, show (v.1 == 0) = false by simp [hne]]
    · unfold someL at *; rw [List.filter_cons_of_pos (by simp [hne]), h3]
theorem mixL_64 : ∀ (n : List Bool) (s : List Val3), All64 s → All64 (mixL n s)
  | [], _, _ => fun x hx => by cases hx
  | true :: r, s, h => fun x hx => by
    unfold mixL at hx
    rcases List.mem_cons.1 hx with rfl | hx
    · unfold In64; exact ⟨by decide, by decide⟩
    · exact mixL_64 r s h x hx
  | false :: r, [], h => fun x hx => by
    unfold mixL at hx
    rcases List.mem_cons.1 hx with rfl | hx
    · unfold In64; exact ⟨by decide, by decide⟩
    · exact mixL_64 r _ (fun y hy => by cases hy) x hx
  | false :: r, v :: s, h => fun x hx => by
    unfold mixL at hx
    rcases List.mem_cons.1 hx with rfl | hx
    · exact h _ (List.mem_cons_self ..)
    · exact mixL_64 r s (fun y hy => h y (List.mem_cons_of_mem _ hy)) x hx

/-- The bytes of a column. -/
def headC (u : Int) (l : List Val3) : List Nat := u.toNat :: (if (someL l).length < l.length then 1 :: packN (noneL l) else [0])
def putC (enc t : Int) (l : List Val3) : Option (List Nat) :=
  match usedC enc t with
  | none => none
  | some u => if FitL t l then (putE u t (someL l)).map fun c => headC u l ++ c else none
/-- Which are nothing, and what stands behind. -/
def readN (n : Nat) (b : List Nat) : Option (List Bool × List Nat) :=
  match b with
  | [] => none
  | f :: r => if f = 0 then some (List.replicate n false, r) else if f = 1 then
      (match takeN (r.take ((n + 7) / 8)) n with
        | none => none
        | some x => if x.count true = 0 then none else some (x, r.drop ((n + 7) / 8)))
    else none
def readC10 (t : Int) (n : Nat) (b : List Nat) : Option (List Val3 × Int) :=
  match b with
  | e :: r => if usedC e t = some (e : Int) then
      (match readN n r with
        | none => none
        | some (x, c) => (takeE e t ((n - x.count true : Nat) : Int) c).map fun s => (mixL x s, (e : Int)))
    else none
  | [] => none
/-- The values and the encoding of bytes. -/
def takeC10 (t n : Int) (b : List Nat) : Option (List Val3 × Int) := if (1 ≤ t ∧ t ≤ 4) ∧ 0 ≤ n ∧ n ≤ 1000 then readC10 t n.toNat b else none
theorem takeN_pack {b : List Nat} {n : Nat} (h256 : ∀ x ∈ b, x < 256) {x : List Bool} (h : takeN b n = some x) : x.length = n ∧ packN x = b ∧ b.length = (n + 7) / 8 := by
  unfold takeN at h
  split at h
  · rename_i hc
    obtain ⟨_, _, h3, h4⟩ := hc
    rw [show ((n : Nat) : Int).toNat = n from rfl] at h h3 h4
    injection h with h
    subst h
    have hn : nbits (bitsL b n) = chop 1 (cat 8 b) n := by
      unfold nbits bitsL
      rw [List.map_map]
      conv => rhs; rw [← List.map_id (chop 1 (cat 8 b) n)]
      refine List.map_congr_left fun y hy => ?_
      have := chop_lt 1 _ _ y hy
      obtain rfl | rfl : y = 0 ∨ y = 1 := by omega
      all_goals rfl
    refine ⟨bitsL_length b n, ?_, h3⟩
    unfold packN
    rw [hn, bitsL_length]
    exact (again_iff b n 1 ((n + 7) / 8) h256 (by rw [Nat.mul_one]; exact h3) h3.symm).2 (by rw [Nat.mul_one]; exact h4)
  · cases h
theorem noneL_rep {l : List Val3} (h : ¬ (someL l).length < l.length) : noneL l = List.replicate l.length false ∧ (noneL l).count true = 0 := by
  have h1 := someL_count l
  have h2 : (noneL l).count true ≤ l.length := by rw [← noneL_len l]; exact List.count_le_length
  have h3 : (noneL l).count true = 0 := by omega
  refine ⟨?_, h3⟩
  rw [← noneL_len l]
  refine List.eq_replicate_of_mem fun x hx => ?_
  cases x
  · rfl
  · have := List.count_pos_iff.2 hx
    omega
theorem putC_is {enc t : Int} {l : List Val3} {b : List Nat} (h : putC enc t l = some b) : ∃ u c, usedC enc t = some u ∧ Serves u t ∧ FitL t l ∧ putE u t (someL l) = some c ∧ b = headC u l ++ c := by
  unfold putC at h
  split at h
  · cases h
  · rename_i u hu
    split at h
    · rename_i hf
      cases hc : putE u t (someL l) with
      | none => rw [hc] at h; cases h
      | some c =>
        rw [hc] at h
        injection h with h
        exact ⟨u, c, hu, usedC_serves hu, hf, hc, h.symm⟩
    · cases h
theorem putC_some {enc t u : Int} {l : List Val3} (hu : usedC enc t = some u) (hf : FitL t l) : ∃ c, putE u t (someL l) = some c ∧ putC enc t l = some (headC u l ++ c) := by
  obtain ⟨c, hc⟩ := putE_some (usedC_serves hu) (someL_ok hf)
  refine ⟨c, hc, ?_⟩
  unfold putC
  rw [hu]
  simp only
  rw [if_pos hf, hc]
  rfl
theorem putC_no {enc t : Int} {l : List Val3} (h : ¬ FitL t l) : putC enc t l = none := by
  unfold putC
  split
  · rfl
  · rw [if_neg h]
theorem putC_not {enc t : Int} {l : List Val3} (h : usedC enc t = none) : putC enc t l = none := by unfold putC; rw [h]
theorem headC_lt {u : Int} (hu : 1 ≤ u ∧ u ≤ 5) (l : List Val3) : ∀ x ∈ headC u l, x < 256 := by
  intro x hx
  unfold headC at hx
  rcases List.mem_cons.1 hx with rfl | hx
  · omega
  · split at hx
    · rcases List.mem_cons.1 hx with rfl | hx
      · omega
      · exact packN_lt _ x hx
    · rw [List.mem_singleton] at hx; omega
theorem headC_len (u : Int) (l : List Val3) : 2 ≤ (headC u l).length ∧ (headC u l).length ≤ 2 + (l.length + 7) / 8 := by
  unfold headC
  rw [List.length_cons]
  split
  · rw [List.length_cons, packN_length, noneL_len]; omega
  · simp
theorem putC_lt {enc t : Int} {l : List Val3} {b : List Nat} (hl : l.length ≤ 1000) (h64 : All64 l) (h : putC enc t l = some b) : ∀ x ∈ b, x < 256 := by
  obtain ⟨u, c, hu, hs, hf, hc, rfl⟩ := putC_is h
  intro x hx
  have := someL_len l
  rcases List.mem_append.1 hx with hx | hx
  · exact headC_lt ⟨hs.2.1, hs.2.2.1⟩ l x hx
  · exact putE_lt (by omega) (someL_64 h64) hc x hx
theorem putC_le {enc t : Int} {l : List Val3} {b : List Nat} (hl : l.length ≤ 1000) (h64 : All64 l) (h : putC enc t l = some b) : 2 ≤ b.length ∧ b.length ≤ l.length * 32 + 13 := by
  obtain ⟨u, c, hu, hs, hf, hc, rfl⟩ := putC_is h
  have h1 := someL_len l
  have h2 := headC_len u l
  have h3 := putE_le (by omega) (someL_64 h64) hc
  rw [List.length_append]
  omega
theorem readC10_put {enc t u : Int} {l : List Val3} {c : List Nat} (hu : usedC enc t = some u) (hf : FitL t l) (h64 : All64 l) (hl : l.length ≤ 1000) (hc : putE u t (someL l) = some c) : readC10 t l.length (headC u l ++ c) = some (l, u) := by
  have hs := usedC_serves hu
  have hs2 : 1 ≤ u ∧ u ≤ 5 := ⟨hs.2.1, hs.2.2.1⟩
  have hcast : ((u.toNat : Nat) : Int) = u := by omega
  have hmx := mixL_apart hf
  have hsl := someL_len l
  have hcnt := someL_count l
  have hcl : (noneL l).count true ≤ l.length := by rw [← noneL_len l]; exact List.count_le_length
  have htk := takeE_put (someL_64 h64) (by omega) hs.1 hc
  unfold headC readC10
  rw [List.cons_append]
  simp only
  rw [hcast, if_pos (serves_used hs)]
  by_cases hlt : (someL l).length < l.length
  · rw [if_pos hlt]
    unfold readN
    rw [List.cons_append]
    simp only
    have hp : (packN (noneL l)).length = (l.length + 7) / 8 := by rw [packN_length, noneL_len]
    rw [if_neg (by decide), if_pos trivial, List.take_left' hp, List.drop_left' hp]
    have h1 := takeN_put (noneL l) (by rw [noneL_len]; exact hl)
    rw [noneL_len] at h1
    rw [h1]
    simp only
    rw [if_neg (by omega)]
    simp only
    rw [show l.length - (noneL l).count true = (someL l).length by omega, htk]
    show some (mixL (noneL l) (someL l), u) = _
    rw [hmx]
  · rw [if_neg hlt]
    obtain ⟨h1, h2⟩ := noneL_rep hlt
    unfold readN
    simp only [List.cons_append, List.nil_append]
    rw [if_pos trivial]
    simp only
    rw [← h1, h2, show l.length - 0 = (someL l).length by omega, htk]
    show some (mixL (noneL l) (someL l), u) = _
    rw [hmx]
theorem takeC10_put {enc t u : Int} {l : List Val3} {b : List Nat} (hu : usedC enc t = some u) (h64 : All64 l) (hl : l.length ≤ 1000) (h : putC enc t l = some b) : takeC10 t l.length b = some (l, u) := by
  obtain ⟨u', c, hu', hs, hf, hc, rfl⟩ := putC_is h
  rw [hu] at hu'
  injection hu' with e
  subst e
  unfold takeC10
  rw [if_pos ⟨hs.1, by omega, by omega⟩, show ((l.length : Nat) : Int).toNat = l.length from rfl, readC10_put hu hf h64 hl hc]
theorem readN_is {n : Nat} {b : List Nat} (h256 : ∀ x ∈ b, x < 256) {x : List Bool} {c : List Nat} (h : readN n b = some (x, c)) : x.length = n ∧ b = (if 0 < x.count true then 1 :: packN x else [0]) ++ c := by
  unfold readN at h
  split at h
  · cases h
  · rename_i f r
    have hr256 : ∀ y ∈ r, y < 256 := fun y hy => h256 y (List.mem_cons_of_mem _ hy)
    split at h
    · rename_i hf
      cases h
      subst hf
      rw [show (List.replicate n false).count true = 0 from List.count_eq_zero.2 (by simp), if_neg (by omega)]
      exact ⟨List.length_replicate, rfl⟩
    · split at h
      · rename_i hf
        subst hf
        split at h
        · cases h
        · rename_i y hy
          split at h
          · cases h
          · rename_i h0
            cases h
            obtain ⟨h1, h2, _⟩ := takeN_pack (fun z hz => hr256 z (List.mem_of_mem_take hz)) hy
            refine ⟨h1, ?_⟩
            rw [if_pos (by omega), h2, List.cons_append, List.take_append_drop]
      · cases h
theorem readC10_is {t : Int} (ht : 1 ≤ t ∧ t ≤ 4) {n : Nat} {b : List Nat} (h256 : ∀ x ∈ b, x < 256) {l : List Val3} {e : Int} (h : readC10 t n b = some (l, e)) : usedC e t = some e ∧ putC e t l = some b ∧ All64 l ∧ l.length = n := by
  unfold readC10 at h
  split at h
  · rename_i e0 r
    have hr256 : ∀ y ∈ r, y < 256 := fun y hy => h256 y (List.mem_cons_of_mem _ hy)
    split at h
    · rename_i hu
      split at h
      · cases h
      · rename_i x c hr
        obtain ⟨h1, h2⟩ := readN_is hr256 hr
        have hc256 : ∀ y ∈ c, y < 256 := fun y hy => hr256 y (by rw [h2]; exact List.mem_append_right _ hy)
        cases hT : takeE e0 t ((n - x.count true : Nat) : Int) c with
        | none => rw [hT] at h; cases h
        | some s =>
          rw [hT] at h
          cases h
          obtain ⟨g1, g2, g3, _⟩ := takeE_is hc256 hT
          have hcl : x.count true ≤ n := by rw [← h1]; exact List.count_le_length
          obtain ⟨m1, m2, m3⟩ := mixL_parts ht x s (putE_ok g1) (by omega)
          have hml := mixL_len x s
          refine ⟨hu, ?_, mixL_64 x s g2, by omega⟩
          unfold putC
          rw [hu]
          simp only
          rw [if_pos m1, m3, g1]
          show some (headC e0 (mixL x s) ++ c) = some (e0 :: r)
          unfold headC
          rw [m3, m2, hml, h1, h2]
          congr 1
          rw [List.cons_append]
          congr 2
          by_cases h0 : 0 < x.count true
          · rw [if_pos h0, if_pos (by omega)]
          · rw [if_neg h0, if_neg (by omega)]
    · cases h
  · cases h
theorem takeC10_is {t n : Int} {b : List Nat} (h256 : ∀ x ∈ b, x < 256) {l : List Val3} {e : Int} (h : takeC10 t n b = some (l, e)) : usedC e t = some e ∧ putC e t l = some b ∧ All64 l ∧ (l.length : Int) = n ∧ n ≤ 1000 ∧ (1 ≤ t ∧ t ≤ 4) := by
  unfold takeC10 at h
  split at h
  · rename_i hc
    obtain ⟨h1, h2, h3, h4⟩ := readC10_is hc.1 h256 h
    exact ⟨h1, h2, h3, by omega, by omega, hc.1⟩
  · cases h
theorem takeE_none {u t : Int} (hs : 1 ≤ t ∧ t ≤ 4) {l : List Val3} (hl : l.length ≤ 1000) (h64 : All64 l) {b c d : List Nat} (h256 : ∀ x ∈ b ++ c, x < 256) (hc : c ≠ []) (h : putE u t l = some b ∧ d = b ++ c) : takeE u t l.length d = none := by
  obtain ⟨h, hd⟩ := h
  have ho := putE_ok h
  unfold putE at h
  unfold takeE
  repeat' split at h
  · rw [if_pos (by assumption)]; exact takeL_none hs hl ho h64 h256 hc (.inl ⟨h, hd⟩)
  · rw [if_neg (by assumption), if_pos (by assumption)]; exact takeT_none hl h64 h256 hc (.inl ⟨h, hd⟩)
  · rw [if_neg (by assumption), if_neg (by assumption), if_pos (by assumption)]; exact takeK_none h64 hc (.inl ⟨h, hd⟩)
  · rw [if_neg (by assumption), if_neg (by assumption), if_neg (by assumption), if_pos (by assumption)]; exact takeD_none h64 h256 hc (.inl ⟨h, hd⟩)
  · rw [if_neg (by assumption), if_neg (by assumption), if_neg (by assumption), if_neg (by assumption)]; exact takeP_none hs ho h64 h256 hc (.inl ⟨h, hd⟩)
/-- Of bytes that are a column, no more bytes are one of as many values. -/
theorem readC10_prefix {t : Int} (ht : 1 ≤ t ∧ t ≤ 4) {n : Nat} (hn : n ≤ 1000) {a c : List Nat} (h256 : ∀ x ∈ a ++ c, x < 256) {p q : List Val3 × Int} (h1 : readC10 t n a = some p) (h2 : readC10 t n (a ++ c) = some q) : c = [] := by
  refine Classical.byContradiction fun hc => ?_
  unfold readC10 at h1
  split at h1
  · rename_i e r
    rw [List.cons_append] at h2
    unfold readC10 at h2
    simp only at h2
    have hr256 : ∀ y ∈ r ++ c, y < 256 := fun y hy => h256 y (by rw [List.cons_append]; exact List.mem_cons_of_mem _ hy)
    split at h1
    · rename_i hu
      rw [if_pos hu] at h2
      cases hr : readN n r with
      | none => rw [hr] at h1; cases h1
      | some xc =>
        obtain ⟨x, k⟩ := xc
        rw [hr] at h1
        have hr2 : readN n (r ++ c) = some (x, k ++ c) := by
          unfold readN at hr ⊢
          split at hr
          · cases hr
          · rename_i f r'
            rw [List.cons_append]
            simp only
            split at hr
            · rename_i hf
              cases hr
              rw [if_pos hf]
            · rename_i hf
              split at hr
              · rename_i hf1
                rw [if_neg hf, if_pos hf1]
                split at hr
                · cases hr
                · rename_i y hy
                  split at hr
                  · cases hr
                  · rename_i h0
                    cases hr
                    obtain ⟨_, _, hlen⟩ := takeN_pack (fun z hz => hr256 z (by rw [List.cons_append]; exact List.mem_cons_of_mem _ (List.mem_append_left _ (List.mem_of_mem_take hz)))) hy
                    rw [List.length_take] at hlen
                    have hle : (n + 7) / 8 ≤ r'.length := by omega
                    rw [List.take_append_of_le_length hle, hy]
                    simp only
                    rw [if_neg h0, List.drop_append_of_le_length hle]
              · cases hr
        rw [hr2] at h2
        simp only at h1 h2
        cases hT : takeE e t ((n - x.count true : Nat) : Int) k with
        | none => rw [hT] at h1; cases h1
        | some s =>
          have hk256 : ∀ y ∈ k ++ c, y < 256 := by
            obtain ⟨_, hb⟩ := readN_is hr256 hr2
            exact fun y hy => hr256 y (by rw [hb]; exact List.mem_append_right _ hy)
          obtain ⟨g1, g2, g3, _⟩ := takeE_is (fun y hy => hk256 y (List.mem_append_left _ hy)) hT
          have := takeE_none ht (by omega) g2 hk256 hc ⟨g1, rfl⟩
          rw [g3] at this
          rw [this] at h2
          cases h2
    · cases h1
  · cases h1
theorem takeC10_none {enc t : Int} {l : List Val3} (h64 : All64 l) (hl : l.length ≤ 1000) {b c d : List Nat} (h256 : ∀ x ∈ b ++ c, x < 256) (hc : c ≠ []) (h : (putC enc t l = some b ∧ d = b ++ c) ∨ (putC enc t l = some (b ++ c) ∧ d = b)) : takeC10 t l.length d = none := by
  cases hd : takeC10 t l.length d with
  | none => rfl
  | some p =>
    exfalso
    have key : ∀ b', putC enc t l = some b' → ∃ p, readC10 t l.length b' = some p ∧ (1 ≤ t ∧ t ≤ 4) := fun b' hb => by
      obtain ⟨u, c', hu, hs, hf, hc', rfl⟩ := putC_is hb
      exact ⟨_, readC10_put hu hf h64 hl hc', hs.1⟩
    unfold takeC10 at hd
    split at hd
    · rw [show ((l.length : Nat) : Int).toNat = l.length from rfl] at hd
      rcases h with ⟨h, rfl⟩ | ⟨h, rfl⟩
      · obtain ⟨p', hp, ht⟩ := key _ h
        exact hc (readC10_prefix ht hl h256 hp hd)
      · obtain ⟨p', hp, ht⟩ := key _ h
        exact hc (readC10_prefix ht hl h256 hd hp)
    · cases hd
theorem takeC10_more {enc t : Int} {l : List Val3} (h64 : All64 l) (hl : l.length ≤ 1000) {b : List Nat} (h : putC enc t l = some b) {x : Nat} (hx : x < 256) : takeC10 t l.length (b ++ [x]) = none :=
  takeC10_none h64 hl (b := b) (c := [x]) (fun y hy => by
    rcases List.mem_append.1 hy with hy | hy
    · exact putC_lt hl h64 h y hy
    · rw [List.mem_singleton] at hy; omega) (by simp) (.inl ⟨h, rfl⟩)
theorem takeC10_cut {enc t : Int} {l : List Val3} (h64 : All64 l) (hl : l.length ≤ 1000) {b : List Nat} (h : putC enc t l = some b) {q : Nat} (hq : q < b.length) : takeC10 t l.length (b.take q) = none :=
  takeC10_none h64 hl (b := b.take q) (c := b.drop q) (fun y hy => by rw [List.take_append_drop] at hy; exact putC_lt hl h64 h y hy) (fun e => by have := congrArg List.length e; rw [List.length_drop] at this; simp at this; omega) (.inr ⟨by rw [List.take_append_drop]; exact h, rfl⟩)
end Go.Proofs.YtldalkhmbpkjpaaGreatDoor

/- The walk of value.Fits. -/

namespace Go.Proofs.YtldalkhmbpkjpaaGreatDoor
open Go.RowKit
set_option linter.unusedVariables false

set_option maxRecDepth 100000 in
theorem fits_any (t vt i : Int) (s : ByteArray) (a0 a2 a3 a4 : Addr) (w : World) (hs : Sents w w.heap.size a0 a2 a3 a4) :
    Calls Tryz.prog 49 #[.int .i64 t, .agg #[.int .i64 vt, .int .i64 i, .string s]] w (SaysP (FitsV t vt i s.size) w) := by
  obtain ⟨w1, hw1⟩ : ∃ w1 : World, w.alloc (.cells #[.int .i64 vt, .int .i64 i, .string s] 26) = w1 := ⟨_, rfl⟩
  have b1 : Below w.heap.size w w1 := hw1 ▸ (Below.refl _ _).alloc (Nat.le_refl _) _
  have HC := Lib.hid (may_any vt i s a0 a2 a3 a4 w1 ((hs.below b1).more b1.size))
  have HB := Lib.hid b1
  have HB' := Lib.hid (show Below w.heap.size w (w.alloc (.cells #[.int .i64 vt, .int .i64 i, .string s] 26)) from (Below.refl _ _).alloc (Nat.le_refl _) _)
  have HW := Lib.hid hw1
  clear hs hw1 b1
  by_cases h1 : 1 ≤ t ∧ t ≤ 4
  · obtain ⟨h1, h2⟩ := h1
    by_cases h3 : vt = 0 ∨ vt = t
    · by_cases h4 : vt = 0
      · subst h4
        have HF := Lib.hid (show MayV 0 i s.size → FitsV t 0 i s.size from fun h => ⟨h1, h2, .inl rfl, h⟩)
        go_enter Tryz.func49, Tryz.ntmps49
        go_wp2_with fail
        rw [HW.out]
        refine HC.out.mono ?_
        rintro e w2 ⟨r, hr, rfl, b2⟩
        have HB2 := Lib.hid (HB.out.trans (b2.mono HB.out.size))
        have HR := Lib.hid hr
        clear b2 hr
        go_wp2_with fail
        go_ret
        exact ⟨r, ⟨fun h => HF.out (HR.out.1 h), fun h => HR.out.2 h.2.2.2⟩, rfl, HB2.out⟩
      · have ht : vt = t := by omega
        subst ht
        have HF := Lib.hid (show MayV vt i s.size → FitsV vt vt i s.size from fun h => ⟨h1, h2, .inr rfl, h⟩)
        have h5 : (vt == 0) = false := by simp [h4]
        clear h3 h4
        go_enter Tryz.func49, Tryz.ntmps49
        go_wp2_with fail
        rw [HW.out]
        refine HC.out.mono ?_
        rintro e w2 ⟨r, hr, rfl, b2⟩
        have HB2 := Lib.hid (HB.out.trans (b2.mono HB.out.size))
        have HR := Lib.hid hr
        clear b2 hr
        go_wp2_with fail
        go_ret
        exact ⟨r, ⟨fun h => HF.out (HR.out.1 h), fun h => HR.out.2 h.2.2.2⟩, rfl, HB2.out⟩
    · have h4 : (vt == 0) = false := by simp; omega
      have h5 : (vt == t) = false := by simp; omega
      have HN := Lib.hid (show ¬ FitsV t vt i s.size from fun h => h3 h.2.2.1)
      clear h3
      go_enter Tryz.func49, Tryz.ntmps49
      go_wp2_with fail
      go_ret
      exact SaysP.no HN.out HB'.out
  · go_enter Tryz.func49, Tryz.ntmps49
    have hn : ¬ FitsV t vt i s.size := fun h => h1 ⟨h.1, h.2.1⟩
    have HN := Lib.hid hn
    clear hn
    by_cases h2 : t < 1
    · go_wp2_with fail
      go_ret
      exact SaysP.no HN.out HB'.out
    · have h3 : 4 < t := by omega
      go_wp2_with fail
      go_ret
      exact SaysP.no HN.out HB'.out
end Go.Proofs.YtldalkhmbpkjpaaGreatDoor

/- Walks of package column: Used, encode, decode, apart. -/

namespace Go.Proofs.YtldalkhmbpkjpaaGreatDoor
open Go.RowKit
set_option linter.unusedVariables false

/-- The sentinels, two of them told apart. -/
structure S10 (w : World) : Prop where
  s6 : S6 w
  two : ∃ aB aS, Sn w aB aS
theorem S10.later {w w' : World} (h : S10 w) (l : Later w w') : S10 w' := ⟨h.s6.later l, h.two.elim fun aB h => h.elim fun aS h => ⟨aB, aS, h.later l⟩⟩

set_option maxRecDepth 100000 in
theorem colUsed_yes (enc t u : Int) (w : World) (h : usedC enc t = some u) : Calls Tryz.prog 5 #[.int .i64 enc, .int .i64 t] w fun e w' => e = .returned (.tuple #[.int .i64 u, .bool true]) ∧ w = w' := by
  have hc : (1 ≤ t ∧ t ≤ 4) ∧ 1 ≤ enc ∧ enc ≤ 5 := by
    unfold usedC at h
    split at h
    · assumption
    · cases h
  have HT := Lib.hid (type_yes t w hc.1)
  obtain ⟨ht, he⟩ := hc
  have he5 : enc = 1 ∨ enc = 2 ∨ enc = 3 ∨ enc = 4 ∨ enc = 5 := by omega
  have ht4 : t = 1 ∨ t = 2 ∨ t = 3 ∨ t = 4 := by omega
  clear ht he
  rcases he5 with rfl | rfl | rfl | rfl | rfl
  all_goals rcases ht4 with rfl | rfl | rfl | rfl
  all_goals simp [usedC] at h
  all_goals subst h
  all_goals go_enter Tryz.func5, Tryz.ntmps5
  all_goals go_wp2_with (go_at_call 15; refine HT.out.mono ?_; rintro e w' ⟨rfl, rfl⟩)
  all_goals go_ret2
  all_goals exact ⟨rfl, rfl⟩
set_option maxRecDepth 100000 in
theorem colUsed_no (enc t : Int) (w : World) (hs : S6 w) (h : usedC enc t = none) : Calls Tryz.prog 5 #[.int .i64 enc, .int .i64 t] w fun e w' => e = .returned (.tuple #[.int .i64 0, .bool false]) ∧ Later w w' := by
  have hif : Tryz.prog.isIface 40 = true := by kernel_rfl
  have hc : ¬ ((1 ≤ t ∧ t ≤ 4) ∧ 1 ≤ enc ∧ enc ≤ 5) := by
    unfold usedC at h
    split at h
    · cases h
    · assumption
  clear h
  by_cases h1 : enc < 1
  · clear hc hs
    go_enter Tryz.func5, Tryz.ntmps5
    go_wp2_with fail
    go_ret2
    exact ⟨rfl, Later.refl _⟩
  · by_cases h5 : 5 < enc
    · clear hc hs
      go_enter Tryz.func5, Tryz.ntmps5
      go_wp2_with fail
      go_ret2
      exact ⟨rfl, Later.refl _⟩
    · have HT := Lib.hid (type_no t w (by omega) hs.type)
      clear hc hs
      go_enter Tryz.func5, Tryz.ntmps5
      go_wp2_with fail
      refine HT.out.mono ?_
      rintro e w1 ⟨v, rfl, ⟨p, rfl⟩, l1⟩
      have heq := run_eql_iface_nil (P := Tryz.prog) (w := w1) 40 hif 82 (.pointer (some p))
      go_wp2_with fail
      go_ret2
      exact ⟨rfl, l1⟩

theorem putPost_copy {o : Option (List Nat)} {w w1 : World} {e : Ending} (h : PutsB o w e w1) : ∃ (B : Option Addr) (n cb : Nat) (ok : Bool), e = .returned (.tuple #[.slice B n cb, .bool ok]) ∧ PutsB o w (.returned (.tuple #[.slice B n cb, .bool ok])) w1 := by
  have h0 := h
  rcases h with ⟨⟨ho, rfl⟩ | ⟨b, B, cb, ho, rfl, _, _, _, _⟩, _⟩
  · exact ⟨none, 0, 0, false, rfl, h0⟩
  · exact ⟨B, b.length, cb, true, rfl, h0⟩
theorem putPost_copyV {o : Option (List Val3)} {w w1 : World} {e : Ending} (h : TakesV o w e w1) : ∃ (B : Option Addr) (n cb : Nat) (ok : Bool), e = .returned (.tuple #[.slice B n cb, .bool ok]) ∧ TakesV o w (.returned (.tuple #[.slice B n cb, .bool ok])) w1 := by
  have h0 := h
  rcases h with ⟨⟨ho, rfl⟩ | ⟨b, B, cb, ho, rfl, _⟩, _⟩
  · exact ⟨none, 0, 0, false, rfl, h0⟩
  · exact ⟨B, b.length, cb, true, rfl, h0⟩

set_option maxRecDepth 100000 in
theorem colEncode_any (u t : Int) (A : Option Addr) (n c : Nat) (l : List Val3) (w : World) (hn : n = l.length) (hs : S6 w) (hu : 1 ≤ u ∧ u ≤ 5) (hl : l.length ≤ 1000) (hr : Has w A (fl l)) (h64 : All64 l) (hnc : l.length ≤ c) (hc : c ≤ 9223372036854775807) :
    Calls Tryz.prog 30 #[.int .i64 u, .int .i64 t, .slice A n c] w (PutsB (putE u t l) w) := by
  subst hn
  have HC : ∃ K, K = putE u t l := ⟨_, rfl⟩
  obtain ⟨K, hK⟩ := HC
  rw [← hK]
  have hu5 : u = 1 ∨ u = 2 ∨ u = 3 ∨ u = 4 ∨ u = 5 := by omega
  clear hu
  rcases hu5 with rfl | rfl | rfl | rfl | rfl
  · have HP := Lib.hid (show Calls Tryz.prog 55 #[.int .i64 t, .slice A l.length c] w (PutsB K w) by rw [hK]; exact plainPut_any t A c l w hs (by omega) hr h64)
    clear hK hs hr h64
    go_enter Tryz.func30, Tryz.ntmps30
    go_wp2_with fail
    refine HP.out.mono ?_
    intro e w1 h
    obtain ⟨B, nb, cb, ok, rfl, h⟩ := putPost_copy h
    have H := Lib.hid h
    clear h
    go_wp2_with fail
    go_ret2
    exact H.out
  · have HP := Lib.hid (show Calls Tryz.prog 51 #[.int .i64 t, .slice A l.length c] w (PutsB K w) by rw [hK]; exact rlePut_any t A c l w hs (by omega) hr h64 hnc hc)
    clear hK hs hr h64
    go_enter Tryz.func30, Tryz.ntmps30
    go_wp2_with fail
    refine HP.out.mono ?_
    intro e w1 h
    obtain ⟨B, nb, cb, ok, rfl, h⟩ := putPost_copy h
    have H := Lib.hid h
    clear h
    go_wp2_with fail
    go_ret2
    exact H.out
  · have HP := Lib.hid (show Calls Tryz.prog 52 #[.int .i64 t, .slice A l.length c] w (PutsB K w) by rw [hK]; exact dictPut_any t A c l w hs (by omega) hr h64)
    clear hK hs hr h64
    go_enter Tryz.func30, Tryz.ntmps30
    go_wp2_with fail
    refine HP.out.mono ?_
    intro e w1 h
    obtain ⟨B, nb, cb, ok, rfl, h⟩ := putPost_copy h
    have H := Lib.hid h
    clear h
    go_wp2_with fail
    go_ret2
    exact H.out
  · have HP := Lib.hid (show Calls Tryz.prog 53 #[.int .i64 t, .slice A l.length c] w (PutsB K w) by rw [hK]; exact packPut_any t A c l w hs (by omega) hr h64)
    clear hK hs hr h64
    go_enter Tryz.func30, Tryz.ntmps30
    go_wp2_with fail
    refine HP.out.mono ?_
    intro e w1 h
    obtain ⟨B, nb, cb, ok, rfl, h⟩ := putPost_copy h
    have H := Lib.hid h
    clear h
    go_wp2_with fail
    go_ret2
    exact H.out
  · have HP := Lib.hid (show Calls Tryz.prog 54 #[.int .i64 t, .slice A l.length c] w (PutsB K w) by rw [hK]; exact deltaPut_any t A c l w hs (by omega) hr h64)
    clear hK hs hr h64
    go_enter Tryz.func30, Tryz.ntmps30
    go_wp2_with fail
    refine HP.out.mono ?_
    intro e w1 h
    obtain ⟨B, nb, cb, ok, rfl, h⟩ := putPost_copy h
    have H := Lib.hid h
    clear h
    go_wp2_with fail
    go_ret2
    exact H.out

set_option maxRecDepth 100000 in
theorem colDecode_any (u t n : Int) (A : Option Addr) (m c : Nat) (b : List Nat) (w : World) (hm : m = b.length) (hs : S6 w) (hu : 1 ≤ u ∧ u ≤ 5) (hr : Has w A (ints .u8 b)) (h256 : ∀ x ∈ b, x < 256) (hb : b.length ≤ 1000000) (hbc : b.length ≤ c) (hc : c ≤ 9223372036854775807) :
    Calls Tryz.prog 44 #[.int .i64 u, .int .i64 t, .int .i64 n, .slice A m c] w (TakesV (takeE u t n b) w) := by
  subst hm
  have HC : ∃ K, K = takeE u t n b := ⟨_, rfl⟩
  obtain ⟨K, hK⟩ := HC
  rw [← hK]
  have hu5 : u = 1 ∨ u = 2 ∨ u = 3 ∨ u = 4 ∨ u = 5 := by omega
  clear hu
  rcases hu5 with rfl | rfl | rfl | rfl | rfl
  · have HP := Lib.hid (show Calls Tryz.prog 64 #[.int .i64 t, .int .i64 n, .slice A b.length c] w (TakesV K w) by rw [hK]; exact plainTake_c t n A c b w hs hr h256 hb hbc hc)
    clear hK hs hr h256
    go_enter Tryz.func44, Tryz.ntmps44
    go_wp2_with fail
    refine HP.out.mono ?_
    intro e w1 h
    obtain ⟨B, nb, cb, ok, rfl, h⟩ := putPost_copyV h
    have H := Lib.hid h
    clear h
    go_wp2_with fail
    go_ret2
    exact H.out
  · have HP := Lib.hid (show Calls Tryz.prog 60 #[.int .i64 t, .int .i64 n, .slice A b.length c] w (TakesV K w) by rw [hK]; exact rleTake_c t n A c b w hs hr h256 hb hbc hc)
    clear hK hs hr h256
    go_enter Tryz.func44, Tryz.ntmps44
    go_wp2_with fail
    refine HP.out.mono ?_
    intro e w1 h
    obtain ⟨B, nb, cb, ok, rfl, h⟩ := putPost_copyV h
    have H := Lib.hid h
    clear h
    go_wp2_with fail
    go_ret2
    exact H.out
  · have HP := Lib.hid (show Calls Tryz.prog 61 #[.int .i64 t, .int .i64 n, .slice A b.length c] w (TakesV K w) by rw [hK]; exact dictTake_c t n A c b w hs hr h256 hb hbc hc)
    clear hK hs hr h256
    go_enter Tryz.func44, Tryz.ntmps44
    go_wp2_with fail
    refine HP.out.mono ?_
    intro e w1 h
    obtain ⟨B, nb, cb, ok, rfl, h⟩ := putPost_copyV h
    have H := Lib.hid h
    clear h
    go_wp2_with fail
    go_ret2
    exact H.out
  · have HP := Lib.hid (show Calls Tryz.prog 62 #[.int .i64 t, .int .i64 n, .slice A b.length c] w (TakesV K w) by rw [hK]; exact packTake_c t n A c b w hs hr h256 hb hbc hc)
    clear hK hs hr h256
    go_enter Tryz.func44, Tryz.ntmps44
    go_wp2_with fail
    refine HP.out.mono ?_
    intro e w1 h
    obtain ⟨B, nb, cb, ok, rfl, h⟩ := putPost_copyV h
    have H := Lib.hid h
    clear h
    go_wp2_with fail
    go_ret2
    exact H.out
  · have HP := Lib.hid (show Calls Tryz.prog 63 #[.int .i64 t, .int .i64 n, .slice A b.length c] w (TakesV K w) by rw [hK]; exact deltaTake_c t n A c b w hs hr h256 hb hbc hc)
    clear hK hs hr h256
    go_enter Tryz.func44, Tryz.ntmps44
    go_wp2_with fail
    refine HP.out.mono ?_
    intro e w1 h
    obtain ⟨B, nb, cb, ok, rfl, h⟩ := putPost_copyV h
    have H := Lib.hid h
    clear h
    go_wp2_with fail
    go_ret2
    exact H.out
end Go.Proofs.YtldalkhmbpkjpaaGreatDoor
