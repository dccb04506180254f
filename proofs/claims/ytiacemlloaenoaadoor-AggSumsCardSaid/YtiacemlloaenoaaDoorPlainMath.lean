
import Derived.Test.YtiacemlloaenoaaDoorValA
import Derived.Stop.IfaceNil
import Derived.Test.YtiacemlloaenoaaDoorBase
import Derived.Test.YtiacemlloaenoaaDoorNumMath
import Derived.Lib.AppendStr
import Derived.Laws.BitsLemmas
import Derived.Lib.Bytealg
import Derived.Deep.SlicePairs
import Derived.ChangeArms
/- value.May, in a seat that reaches neither value.width nor value.Fits (there: XValB, which has it too; never import both). -/

namespace Go.Proofs.YtiacemlloaenoaaDoor
open Go.RowKit
set_option linter.unusedVariables false

/-- A call that says whether p, and leaves what was there. -/
def SaysP (p : Prop) (w : World) (e : Ending) (w' : World) : Prop := ∃ r : Bool, (r = true ↔ p) ∧ e = .returned (.bool r) ∧ Below w.heap.size w w'
theorem SaysP.yes {p : Prop} {w w' : World} (h : p) (hb : Below w.heap.size w w') : SaysP p w (.returned (.bool true)) w' := ⟨true, by simp [h], rfl, hb⟩
theorem SaysP.no {p : Prop} {w w' : World} (h : ¬ p) (hb : Below w.heap.size w w') : SaysP p w (.returned (.bool false)) w' := ⟨false, by simp [h], rfl, hb⟩

end Go.Proofs.YtiacemlloaenoaaDoor

/- Slices of api.Value: three cells an element. -/

namespace Go.Proofs.YtiacemlloaenoaaDoor
open Go.RowKit
set_option linter.unusedVariables false

/-- A value: its type, its number, its text. -/
abbrev Val3 := Int × Int × ByteArray
def fl (l : List Val3) : List Value := l.flatMap fun x => [.int .i64 x.1, .int .i64 x.2.1, .string x.2.2]
theorem fl_append (a b : List Val3) : fl (a ++ b) = fl a ++ fl b := List.flatMap_append
theorem fl_length : ∀ l : List Val3, (fl l).length = l.length * 3
  | [] => rfl
  | x :: r => by
    have := fl_length r
    show ([_, _, _] ++ fl r).length = _
    rw [List.length_append, this, List.length_cons]
    simp; omega
theorem fl_get : ∀ (l : List Val3) (k : Nat) (h : k < l.length), (fl l)[k * 3]? = some (.int .i64 l[k].1) ∧ (fl l)[k * 3 + 1]? = some (.int .i64 l[k].2.1) ∧ (fl l)[k * 3 + 2]? = some (.string l[k].2.2)
  | x :: r, 0, _ => ⟨rfl, rfl, rfl⟩
  | x :: r, k + 1, h => by
    have ih := fl_get r k (by simpa using h)
    rw [show (k + 1) * 3 = k * 3 + 3 by omega, show k * 3 + 3 + 1 = k * 3 + 1 + 3 by omega, show k * 3 + 3 + 2 = k * 3 + 2 + 3 by omega]
    exact ih
theorem fl_take : ∀ (l : List Val3) (k : Nat), fl (l.take k) = (fl l).take (k * 3)
  | [], k => by simp [fl]
  | x :: r, 0 => by simp [fl]
  | x :: r, k + 1 => by
    have ih := fl_take r k
    rw [show (k + 1) * 3 = k * 3 + 1 + 1 + 1 by omega]
    show [_, _, _] ++ fl (r.take k) = _
    rw [ih]; rfl
theorem fl_drop : ∀ (l : List Val3) (k : Nat), fl (l.drop k) = (fl l).drop (k * 3)
  | [], k => by simp [fl]
  | x :: r, 0 => by simp
  | x :: r, k + 1 => by
    have ih := fl_drop r k
    rw [show (k + 1) * 3 = k * 3 + 1 + 1 + 1 by omega]
    show fl (r.drop k) = ([_, _, _] ++ fl r).drop _
    rw [ih]; rfl
theorem fl_one (l : List Val3) : ∀ u ∈ fl l, u.oneCell' = true := by
  intro u hu
  obtain ⟨x, _, hx⟩ := List.mem_flatMap.1 hu
  simp only [List.mem_cons, List.not_mem_nil, or_false] at hx
  rcases hx with rfl | rfl | rfl <;> rfl
/-- The element k of a slice of values, in memory. -/
theorem Has.val3 {w : World} {A : Option Addr} {l : List Val3} (h : Has w A (fl l)) (k : Nat) (hk : k < l.length) :
    ∃ b off, A = some ⟨b, off, none⟩ ∧ w.cell? ⟨b, off + k * 3, none⟩ = some (.int .i64 l[k].1) ∧ w.cell? ⟨b, off + k * 3 + 1, none⟩ = some (.int .i64 l[k].2.1) ∧ w.cell? ⟨b, off + k * 3 + 2, none⟩ = some (.string l[k].2.2) := by
  rcases h with h | ⟨b, off, hA, _, hc⟩
  · have h1 := fl_length l
    rw [h] at h1
    simp at h1
    omega
  · obtain ⟨h0, h1, h2⟩ := fl_get l k hk
    exact ⟨b, off, hA, hc _ _ h0, hc _ _ h1, hc _ _ h2⟩
end Go.Proofs.YtiacemlloaenoaaDoor

/- Plain mathematics of columns, one value behind the other. -/

namespace Go.Proofs.YtiacemlloaenoaaDoor
open Go.RowKit
set_option linter.unusedVariables false

/-- A string's bytes. -/
def nums (s : ByteArray) : List Nat := s.data.toList.map UInt8.toNat
theorem nums_length (s : ByteArray) : (nums s).length = s.size := by unfold nums; rw [List.length_map, Array.length_toList]; rfl
theorem nums_lt (s : ByteArray) : ∀ x ∈ nums s, x < 256 := by
  intro x hx
  obtain ⟨b, _, rfl⟩ := List.mem_map.1 hx
  exact b.toNat_lt
theorem strCells_nums (s : ByteArray) : Lib.strCells s = ints .u8 (nums s) := by
  unfold Lib.strCells ints nums; rw [List.map_map]; rfl
theorem bstr_nums (s : ByteArray) : bstr (nums s) = s := by
  have h : (bstr (nums s)).data = s.data := by
    apply Array.ext'
    rw [bstr_toList]
    unfold nums
    rw [List.map_map]
    conv => rhs; rw [← List.map_id s.data.toList]
    exact List.map_congr_left fun x _ => by simp
  cases s; cases hb : bstr (nums _); simp_all
theorem nums_bstr {l : List Nat} (h : ∀ x ∈ l, x < 256) : nums (bstr l) = l := by
  unfold nums
  rw [bstr_toList, List.map_map]
  conv => rhs; rw [← List.map_id l]
  refine List.map_congr_left fun x hx => ?_
  simp [Nat.mod_eq_of_lt (h x hx)]
theorem bstr_size (l : List Nat) : (bstr l).size = l.length := by
  show (bstr l).data.size = _
  rw [← Array.length_toList, bstr_toList, List.length_map]

/-- A value's bytes in a column. -/
def oneB (t i : Int) (s : ByteArray) : List Nat := if t = 4 then s.size :: nums s else if t = 3 then [i.toNat] else putNum (zig i)
def plainB (l : List Val3) : List Nat := l.flatMap fun x => oneB x.1 x.2.1 x.2.2
theorem plainB_cons (x : Val3) (l : List Val3) : plainB (x :: l) = oneB x.1 x.2.1 x.2.2 ++ plainB l := rfl
theorem plainB_append (a b : List Val3) : plainB (a ++ b) = plainB a ++ plainB b := List.flatMap_append
/-- A list of values of type t. -/
def OkL (t : Int) (l : List Val3) : Prop := ∀ x ∈ l, x.1 = t ∧ MayV x.1 x.2.1 x.2.2.size
/-- A value that memory can hold. -/
def In64 (i : Int) : Prop := -9223372036854775808 ≤ i ∧ i ≤ 9223372036854775807

theorem oneB_pos (t i : Int) (s : ByteArray) : 0 < (oneB t i s).length := by
  unfold oneB
  split
  · simp
  · split
    · simp
    · exact putNum_pos _
theorem oneB_le {t i : Int} {s : ByteArray} (hm : MayV t i s.size) : (oneB t i s).length ≤ 21 := by
  unfold oneB
  split
  · rw [List.length_cons, nums_length]
    unfold MayV at hm
    omega
  · split
    · simp
    · have := putNum_le (zig i); omega
theorem plainB_le {t : Int} : ∀ {l : List Val3}, OkL t l → (plainB l).length ≤ l.length * 21
  | [], _ => by simp [plainB]
  | x :: r, h => by
    rw [plainB_cons, List.length_append, List.length_cons]
    have h1 := oneB_le (h x (by simp)).2
    have h2 := plainB_le (l := r) fun y hy => h y (List.mem_cons_of_mem _ hy)
    omega
theorem oneB_lt {t i : Int} {s : ByteArray} (hm : MayV t i s.size) (h64 : In64 i) : ∀ x ∈ oneB t i s, x < 256 := by
  unfold oneB
  split
  · intro x hx
    rcases List.mem_cons.1 hx with rfl | hx
    · unfold MayV at hm; omega
    · exact nums_lt s x hx
  · split
    · intro x hx
      rw [List.mem_singleton] at hx
      subst hx
      unfold MayV at hm; omega
    · exact putNum_lt (zig_lt i h64.1 h64.2)
def All64 (l : List Val3) : Prop := ∀ x ∈ l, In64 x.2.1
theorem plainB_lt {t : Int} {l : List Val3} (h : OkL t l) (h64 : All64 l) : ∀ x ∈ plainB l, x < 256 := by
  intro x hx
  obtain ⟨v, hv, hx⟩ := List.mem_flatMap.1 hx
  exact oneB_lt (h v hv).2 (h64 v hv) x hx

/-- What bytes begin with, read as a value of type t: its number, its text's bytes, how many bytes. -/
def readC (t : Int) (b : List Nat) : Option (Int × List Nat × Nat) :=
  if t = 1 ∨ t = 2 then (match takeNum b with | some (u, n) => some (zag u, [], n) | none => none)
  else match b with
    | [] => none
    | x :: r => if t = 3 then some ((x : Int), [], 1) else if x ≤ r.length then some (0, r.take x, 1 + x) else none
instance (t i : Int) (n : Nat) : Decidable (MayV t i n) := by unfold MayV; infer_instance
def takeC (t : Int) (b : List Nat) : Option (Int × List Nat × Nat) :=
  match readC t b with
  | some (i, s, n) => if MayV t i s.length then some (i, s, n) else none
  | none => none
theorem readC_lt {t : Int} {b : List Nat} (hb : ∀ x ∈ b, x < 256) {i : Int} {s : List Nat} {n : Nat} (h : readC t b = some (i, s, n)) : 1 ≤ n ∧ n ≤ b.length ∧ In64 i ∧ ∀ x ∈ s, x < 256 := by
  unfold readC at h
  split at h
  · split at h
    · rename_i u m hT
      cases h
      obtain ⟨h1, h2, h3⟩ := takeNum_is hb hT
      refine ⟨by rw [h2]; exact putNum_pos _, by rw [h2]; exact h3.length_le, zag_in u h1, (fun x hx => by cases hx)⟩
    · cases h
  · match b, hb, h with
    | x :: r, hb, h =>
      have hx := hb x (by simp)
      simp only at h
      split at h
      · cases h; exact ⟨by omega, by simp, by unfold In64; omega, (fun x hx => by cases hx)⟩
      · split at h
        · cases h
          refine ⟨by omega, by rw [List.length_cons]; omega, by unfold In64; omega, fun y hy => hb y (List.mem_cons_of_mem _ (List.mem_of_mem_take hy))⟩
        · cases h
theorem takeC_read {t : Int} {b : List Nat} {i : Int} {s : List Nat} {n : Nat} (h : takeC t b = some (i, s, n)) : readC t b = some (i, s, n) ∧ MayV t i s.length := by
  unfold takeC at h
  split at h
  · rename_i i' s' n' hr
    split at h
    · rename_i hm
      cases h; exact ⟨hr, hm⟩
    · cases h
  · cases h
/-- What is taken is put as just those bytes. -/
theorem takeC_is {t : Int} (ht : 1 ≤ t ∧ t ≤ 4) {b : List Nat} (hb : ∀ x ∈ b, x < 256) {i : Int} {s : List Nat} {n : Nat} (h : takeC t b = some (i, s, n)) : n = (oneB t i (bstr s)).length ∧ b.take n = oneB t i (bstr s) := by
  obtain ⟨h, hm⟩ := takeC_read h
  have hl := readC_lt hb h
  unfold readC at h
  unfold oneB
  split at h
  · rename_i h12
    rw [if_neg (by omega), if_neg (by omega)]
    split at h
    · rename_i u m hT
      cases h
      obtain ⟨h1, h2, h3⟩ := takeNum_is hb hT
      rw [zig_zag]
      exact ⟨h2, by rw [h2]; exact (List.prefix_iff_eq_take.1 h3).symm⟩
    · cases h
  · rename_i h12
    match b, hb, h, hl with
    | x :: r, hb, h, hl =>
      simp only at h
      by_cases h3 : t = 3
      · rw [if_pos h3] at h
        cases h
        rw [if_neg (by omega), if_pos h3]
        simp
      · rw [if_neg h3] at h
        rw [if_pos (by omega)]
        split at h
        · rename_i hx
          cases h
          have hsz : (bstr (r.take x)).size = x := by rw [bstr_size, List.length_take]; omega
          rw [hsz, nums_bstr hl.2.2.2, Nat.add_comm 1 x, List.take_succ_cons]
          refine ⟨?_, rfl⟩
          rw [List.length_cons, List.length_take]; omega
        · cases h
/-- What was put is taken, whatever stands behind. -/
theorem takeC_put {t i : Int} {s : ByteArray} (ht : 1 ≤ t ∧ t ≤ 4) (hm : MayV t i s.size) (h64 : In64 i) (r : List Nat) : takeC t (oneB t i s ++ r) = some (i, nums s, (oneB t i s).length) := by
  have key : readC t (oneB t i s ++ r) = some (i, nums s, (oneB t i s).length) := by
    unfold readC oneB
    by_cases h12 : t = 1 ∨ t = 2
    · rw [if_pos h12, if_neg (by omega), if_neg (by omega), takeNum_put (zig_lt i h64.1 h64.2)]
      simp only
      rw [zag_zig]
      have : nums s = [] := List.eq_nil_of_length_eq_zero (by rw [nums_length]; unfold MayV at hm; omega)
      rw [this]
    · rw [if_neg h12]
      by_cases h3 : t = 3
      · rw [if_neg (by omega), if_pos h3]
        simp only [List.cons_append, List.nil_append, if_pos h3]
        have : nums s = [] := List.eq_nil_of_length_eq_zero (by rw [nums_length]; unfold MayV at hm; omega)
        rw [this, show ((i.toNat : Nat) : Int) = i by unfold MayV at hm; omega]
        rfl
      · rw [if_pos (by omega)]
        simp only [List.cons_append, if_neg h3]
        have hi : i = 0 := by unfold MayV at hm; omega
        rw [if_pos (by rw [List.length_append, nums_length]; omega), hi, List.length_cons, nums_length, Nat.add_comm 1]
        congr 2
        rw [List.take_append_of_le_length (by rw [nums_length]; omega), List.take_of_length_le (by rw [nums_length]; omega)]
  unfold takeC
  rw [key]
  simp only
  rw [if_pos (by rw [nums_length]; exact hm)]

/-- So many values. -/
def readP (t : Int) : Nat → List Nat → Option (List Val3)
  | 0, [] => some []
  | 0, _ :: _ => none
  | n + 1, b => match takeC t b with
    | some (i, s, k) => (readP t n (b.drop k)).map fun l => (t, i, bstr s) :: l
    | none => none
theorem readP_is {t : Int} (ht : 1 ≤ t ∧ t ≤ 4) : ∀ (n : Nat) (b : List Nat), (∀ x ∈ b, x < 256) → ∀ l, readP t n b = some l → OkL t l ∧ All64 l ∧ l.length = n ∧ plainB l = b
  | 0, [], _, l, h => by cases h; exact ⟨(fun x hx => by cases hx), (fun x hx => by cases hx), rfl, rfl⟩
  | 0, _ :: _, _, l, h => by cases h
  | n + 1, b, hb, l, h => by
    unfold readP at h
    split at h
    · rename_i i s k hT
      obtain ⟨h1, h2⟩ := takeC_is ht hb hT
      obtain ⟨h3, h4⟩ := takeC_read hT
      obtain ⟨_, h5, h6, h7⟩ := readC_lt hb h3
      cases hr : readP t n (b.drop k) with
      | none => rw [hr] at h; cases h
      | some l' =>
        rw [hr] at h
        cases h
        obtain ⟨g1, g2, g3, g4⟩ := readP_is ht n (b.drop k) (fun x hx => hb x (List.mem_of_mem_drop hx)) l' hr
        refine ⟨?_, ?_, by rw [List.length_cons, g3], ?_⟩
        · intro x hx
          rcases List.mem_cons.1 hx with rfl | hx
          · exact ⟨rfl, by rw [bstr_size]; exact h4⟩
          · exact g1 x hx
        · intro x hx
          rcases List.mem_cons.1 hx with rfl | hx
          · exact h6
          · exact g2 x hx
        · rw [plainB_cons, g4]
          show oneB t i (bstr s) ++ b.drop k = b
          rw [← h2, List.take_append_drop]
    · cases h
theorem readP_put {t : Int} (ht : 1 ≤ t ∧ t ≤ 4) : ∀ (l : List Val3), OkL t l → All64 l → readP t l.length (plainB l) = some l
  | [], _, _ => rfl
  | x :: r, h, h64 => by
    obtain ⟨t', i, s⟩ := x
    obtain ⟨rfl, hm⟩ := h _ (List.mem_cons_self ..)
    have ih := readP_put ht r (fun y hy => h y (List.mem_cons_of_mem _ hy)) (fun y hy => h64 y (List.mem_cons_of_mem _ hy))
    rw [List.length_cons, plainB_cons]
    unfold readP
    rw [takeC_put ht hm (h64 _ (List.mem_cons_self ..))]
    simp only
    rw [List.drop_left, ih, bstr_nums]
    rfl
/-- Just one list has these bytes. -/
theorem readP_iff {t : Int} (ht : 1 ≤ t ∧ t ≤ 4) {n : Nat} {b : List Nat} (hb : ∀ x ∈ b, x < 256) {l : List Val3} : readP t n b = some l ↔ OkL t l ∧ All64 l ∧ l.length = n ∧ plainB l = b := by
  constructor
  · exact readP_is ht n b hb l
  · rintro ⟨h1, h2, rfl, rfl⟩
    exact readP_put ht l h1 h2
/-- Bytes behind, or cut off: none. -/
theorem readP_prefix {t : Int} (ht : 1 ≤ t ∧ t ≤ 4) : ∀ (n : Nat) (b c : List Nat) (l m : List Val3), (∀ x ∈ b ++ c, x < 256) → readP t n b = some l → readP t n (b ++ c) = some m → c = []
  | 0, [], [], _, _, _, _, _ => rfl
  | 0, [], _ :: _, _, _, _, _, h => by cases h
  | 0, _ :: _, _, _, _, _, h, _ => by cases h
  | n + 1, b, c, l, m, hb, h1, h2 => by
    obtain ⟨o1, a1, n1, p1⟩ := readP_is ht _ _ (fun x hx => hb x (List.mem_append_left _ hx)) _ h1
    match l, n1 with
    | x :: l', n1 =>
      obtain ⟨t', i, s⟩ := x
      obtain ⟨rfl, hm⟩ := o1 _ (List.mem_cons_self ..)
      have hi := a1 _ (List.mem_cons_self ..)
      rw [plainB_cons] at p1
      unfold readP at h1 h2
      rw [← p1] at h1 h2
      rw [List.append_assoc] at h2
      rw [takeC_put ht hm hi] at h1 h2
      simp only [List.drop_left] at h1 h2
      cases g1 : readP t' n (plainB l') with
      | none => rw [g1] at h1; cases h1
      | some q =>
        cases g2 : readP t' n (plainB l' ++ c) with
        | none => rw [g2] at h2; cases h2
        | some r =>
          refine readP_prefix ht n (plainB l') c q r (fun x hx => hb x ?_) g1 g2
          rw [← p1, List.append_assoc]
          exact List.mem_append_right _ hx
end Go.Proofs.YtiacemlloaenoaaDoor

/- Plain mathematics of columns by runs. -/

namespace Go.Proofs.YtiacemlloaenoaaDoor
open Go.RowKit
set_option linter.unusedVariables false

/-- How many of the first ones are x. -/
def runX (x : Val3) : List Val3 → Nat
  | [] => 0
  | y :: r => if y = x then runX x r + 1 else 0
theorem runX_le (x : Val3) : ∀ l, runX x l ≤ l.length
  | [] => Nat.le_refl _
  | y :: r => by
    unfold runX
    split
    · have := runX_le x r; simp; omega
    · exact Nat.zero_le _
theorem runX_split (x : Val3) : ∀ l, l = List.replicate (runX x l) x ++ l.drop (runX x l)
  | [] => rfl
  | y :: r => by
    unfold runX
    by_cases h : y = x
    · rw [if_pos h, List.replicate_succ, List.drop_succ_cons, List.cons_append, ← runX_split x r, h]
    · rw [if_neg h]; rfl
theorem runX_head (x : Val3) : ∀ l : List Val3, (l.drop (runX x l)).head? ≠ some x
  | [] => by simp [runX]
  | y :: r => by
    unfold runX
    by_cases h : y = x
    · rw [if_pos h, List.drop_succ_cons]; exact runX_head x r
    · rw [if_neg h]; simpa using h
theorem runX_rep (x : Val3) (l : List Val3) (hl : l.head? ≠ some x) : ∀ n, runX x (List.replicate n x ++ l) = n
  | 0 => by
    cases l with
    | nil => rfl
    | cons y r =>
      show runX x (y :: r) = 0
      unfold runX
      rw [if_neg]
      intro h; exact hl (by rw [h]; rfl)
  | n + 1 => by
    rw [List.replicate_succ, List.cons_append]
    unfold runX
    rw [if_pos rfl, runX_rep x l hl n]
theorem runX_step {x : Val3} {l : List Val3} {k : Nat} (hk : k ≤ runX x l) (h : k < l.length) : (l[k] = x ↔ k < runX x l) := by
  induction l generalizing k with
  | nil => simp at h
  | cons y r ih =>
    unfold runX at hk ⊢
    cases k with
    | zero =>
      by_cases hy : y = x
      · rw [if_pos hy]; simp [hy]
      · rw [if_neg hy]; simp [hy]
    | succ k =>
      by_cases hy : y = x
      · rw [if_pos hy] at hk ⊢
        have := ih (k := k) (by omega) (by simpa using h)
        simp only [List.getElem_cons_succ]
        rw [this]; omega
      · rw [if_neg hy] at hk; omega

def rleF : Nat → List Val3 → List Nat
  | 0, _ => []
  | _ + 1, [] => []
  | f + 1, x :: r => putNum (runX x r + 1) ++ (oneB x.1 x.2.1 x.2.2 ++ rleF f (r.drop (runX x r)))
theorem rleF_fuel : ∀ (f g : Nat) (l : List Val3), l.length ≤ f → l.length ≤ g → rleF f l = rleF g l
  | 0, 0, _, _, _ => rfl
  | 0, g + 1, [], _, _ => rfl
  | 0, _, _ :: _, h, _ => by simp at h
  | f + 1, 0, [], _, _ => rfl
  | _, 0, _ :: _, _, h => by simp at h
  | f + 1, g + 1, [], _, _ => rfl
  | f + 1, g + 1, x :: r, h1, h2 => by
    rw [List.length_cons] at h1 h2
    unfold rleF
    rw [rleF_fuel f g (r.drop (runX x r)) (by rw [List.length_drop]; omega) (by rw [List.length_drop]; omega)]
/-- The bytes of a list, run by run. -/
def rleB (l : List Val3) : List Nat := rleF l.length l
theorem rleB_nil : rleB [] = [] := rfl
theorem rleB_cons (x : Val3) (r : List Val3) : rleB (x :: r) = putNum (runX x r + 1) ++ (oneB x.1 x.2.1 x.2.2 ++ rleB (r.drop (runX x r))) := by
  show rleF (r.length + 1) (x :: r) = _
  unfold rleF
  rw [rleF_fuel r.length (r.drop (runX x r)).length _ (by rw [List.length_drop]; omega) (Nat.le_refl _)]
  rfl
theorem rleB_rep (x : Val3) (u : Nat) (hu : 1 ≤ u) (l : List Val3) (hl : l.head? ≠ some x) : rleB (List.replicate u x ++ l) = putNum u ++ (oneB x.1 x.2.1 x.2.2 ++ rleB l) := by
  obtain ⟨n, rfl⟩ : ∃ n, u = n + 1 := ⟨u - 1, by omega⟩
  rw [List.replicate_succ, List.cons_append, rleB_cons, runX_rep x l hl n]
  congr 3
  rw [List.drop_append_of_le_length (by simp)]
  simp
theorem rleB_pos (x : Val3) (r : List Val3) : rleB (x :: r) ≠ [] := by
  rw [rleB_cons]
  intro h
  have := putNum_pos (runX x r + 1)
  rw [(List.append_eq_nil_iff.1 h).1] at this
  simp at this
theorem rle_drop {x : Val3} {r : List Val3} {t : Int} (h : OkL t (x :: r)) : OkL t (r.drop (runX x r)) := fun y hy => h y (List.mem_cons_of_mem _ (List.mem_of_mem_drop hy))
theorem rleF_props {t : Int} : ∀ (f : Nat) (l : List Val3), l.length ≤ f → OkL t l → (rleB l).length ≤ l.length * 31
  | 0, [], _, _ => by simp [rleB_nil]
  | 0, _ :: _, h, _ => by simp at h
  | f + 1, [], _, _ => by simp [rleB_nil]
  | f + 1, x :: r, h, ho => by
    rw [List.length_cons] at h
    have ih := rleF_props f (r.drop (runX x r)) (by rw [List.length_drop]; omega) (rle_drop ho)
    have h1 := putNum_le (runX x r + 1)
    have h2 := oneB_le (ho x (List.mem_cons_self ..)).2
    rw [rleB_cons, List.length_append, List.length_append, List.length_cons]
    rw [List.length_drop] at ih
    omega
theorem rleB_le {t : Int} {l : List Val3} (ho : OkL t l) : (rleB l).length ≤ l.length * 31 := rleF_props l.length l (Nat.le_refl _) ho
theorem rleF_lt {t : Int} : ∀ (f : Nat) (l : List Val3), l.length ≤ f → l.length < 1000000 → OkL t l → All64 l → ∀ y ∈ rleB l, y < 256
  | _, [], _, _, _, _ => fun y hy => by simp [rleB_nil] at hy
  | 0, _ :: _, h, _, _, _ => by simp at h
  | f + 1, x :: r, h, hm, ho, h64 => fun y hy => by
    rw [List.length_cons] at h hm
    have hr := runX_le x r
    rw [rleB_cons] at hy
    rcases List.mem_append.1 hy with hy | hy
    · exact putNum_lt (by omega) y hy
    · rcases List.mem_append.1 hy with hy | hy
      · exact oneB_lt (ho x (List.mem_cons_self ..)).2 (h64 x (List.mem_cons_self ..)) y hy
      · exact rleF_lt f (r.drop (runX x r)) (by rw [List.length_drop]; omega) (by rw [List.length_drop]; omega) (rle_drop ho) (fun z hz => h64 z (List.mem_cons_of_mem _ (List.mem_of_mem_drop hz))) y hy
theorem rleB_lt {t : Int} {l : List Val3} (hm : l.length < 1000000) (ho : OkL t l) (h64 : All64 l) : ∀ y ∈ rleB l, y < 256 := rleF_lt l.length l (Nat.le_refl _) hm ho h64

/-- Runs, so many values, the first of another value than the last one. -/
def readR (t : Int) : Nat → Nat → Option Val3 → List Nat → Option (List Val3)
  | _, m, _, [] => if m = 0 then some [] else none
  | 0, _, _, _ :: _ => none
  | f + 1, m, last, c :: b => match takeNum (c :: b) with
    | some (u, k) => if 1 ≤ u ∧ u ≤ m then (match takeC t ((c :: b).drop k) with
        | some (i, s, j) => if last = some (t, i, bstr s) then none else (readR t f (m - u) (some (t, i, bstr s)) ((c :: b).drop (k + j))).map fun l => List.replicate u (t, i, bstr s) ++ l
        | none => none) else none
    | none => none
theorem readR_is {t : Int} (ht : 1 ≤ t ∧ t ≤ 4) : ∀ (f m : Nat) (last : Option Val3) (b : List Nat), (∀ x ∈ b, x < 256) → ∀ l, readR t f m last b = some l → OkL t l ∧ All64 l ∧ l.length = m ∧ rleB l = b ∧ (∀ x, l.head? = some x → last ≠ some x)
  | f, m, last, [], _, l, h => by
    have h' : (if m = 0 then some [] else none) = some l := by cases f <;> exact h
    split at h'
    · cases h'; exact ⟨(fun x hx => by cases hx), (fun x hx => by cases hx), by simp [*], rfl, fun x hx => by cases hx⟩
    · cases h'
  | 0, m, last, _ :: _, _, l, h => by cases h
  | f + 1, m, last, c :: b, hb, l, h => by
    unfold readR at h
    split at h
    · rename_i u k hT
      split at h
      · rename_i hu
        split at h
        · rename_i i s j hC
          split at h
          · cases h
          · rename_i hlast
            cases hr : readR t f (m - u) (some (t, i, bstr s)) ((c :: b).drop (k + j)) with
            | none => rw [hr] at h; cases h
            | some l' =>
              rw [hr] at h
              cases h
              have hb' : ∀ x ∈ (c :: b).drop k, x < 256 := fun x hx => hb x (List.mem_of_mem_drop hx)
              obtain ⟨h1, h2, h3⟩ := takeNum_is hb hT
              obtain ⟨h4, h5⟩ := takeC_is ht hb' hC
              obtain ⟨h6, h7⟩ := takeC_read hC
              obtain ⟨_, _, h8, h9⟩ := readC_lt hb' h6
              obtain ⟨g1, g2, g3, g4, g5⟩ := readR_is ht f _ _ _ (fun x hx => hb x (List.mem_of_mem_drop hx)) l' hr
              have hhead : l'.head? ≠ some (t, i, bstr s) := fun e => g5 _ e rfl
              refine ⟨?_, ?_, by rw [List.length_append, List.length_replicate, g3]; omega, ?_, ?_⟩
              · intro x hx
                rcases List.mem_append.1 hx with hx | hx
                · rw [(List.mem_replicate.1 hx).2]; exact ⟨rfl, by rw [bstr_size]; exact h7⟩
                · exact g1 x hx
              · intro x hx
                rcases List.mem_append.1 hx with hx | hx
                · rw [(List.mem_replicate.1 hx).2]; exact h8
                · exact g2 x hx
              · rw [rleB_rep _ u hu.1 l' hhead, g4]
                show putNum u ++ (oneB t i (bstr s) ++ _) = _
                rw [← h5, ← List.drop_drop, List.take_append_drop, (List.prefix_iff_eq_take.1 h3), ← h2, List.take_append_drop]
              · intro x hx
                obtain ⟨v, rfl⟩ : ∃ v, u = v + 1 := ⟨u - 1, by omega⟩
                change some (t, i, bstr s) = some x at hx
                cases hx
                exact hlast
        · cases h
      · cases h
    · cases h
theorem readR_put {t : Int} (ht : 1 ≤ t ∧ t ≤ 4) : ∀ (f : Nat) (l : List Val3) (last : Option Val3), l.length < 1000000 → OkL t l → All64 l → (∀ x, l.head? = some x → last ≠ some x) → (rleB l).length ≤ f → readR t f l.length last (rleB l) = some l
  | f, [], last, _, _, _, _, _ => by rw [rleB_nil]; cases f <;> rfl
  | 0, x :: r, _, _, _, _, _, hf => absurd (List.eq_nil_of_length_eq_zero (Nat.le_zero.1 hf)) (rleB_pos x r)
  | f + 1, x :: r, last, hm, ho, h64, hh, hf => by
    obtain ⟨t', i, s⟩ := x
    obtain ⟨rfl, hmay⟩ := ho _ (List.mem_cons_self ..)
    have hr := runX_le (t', i, s) r
    obtain ⟨n, hn⟩ : ∃ n, n = runX (t', i, s) r := ⟨_, rfl⟩
    have hi := h64 _ (List.mem_cons_self ..)
    have hput := putNum_pos (n + 1)
    rw [List.length_cons] at hm ⊢
    rw [rleB_cons] at hf ⊢
    rw [← hn] at hr hf ⊢
    have ih := readR_put ht f (r.drop n) (some (t', i, s)) (by rw [List.length_drop]; omega) (fun y hy => ho y (List.mem_cons_of_mem _ (List.mem_of_mem_drop hy))) (fun y hy => h64 y (List.mem_cons_of_mem _ (List.mem_of_mem_drop hy)))
      (fun y hy e => by cases e; rw [hn] at hy; exact runX_head _ r hy) (by rw [List.length_append, List.length_append] at hf; omega)
    cases hP : putNum (n + 1) ++ (oneB t' i s ++ rleB (r.drop n)) with
    | nil => rw [(List.append_eq_nil_iff.1 hP).1] at hput; simp at hput
    | cons c b =>
      unfold readR
      rw [← hP, takeNum_put (by omega)]
      simp only
      rw [if_pos (by omega), List.drop_left, takeC_put ht hmay hi]
      simp only
      rw [bstr_nums, if_neg (hh _ rfl), ← List.drop_drop, List.drop_left, List.drop_left, show r.length + 1 - (n + 1) = (r.drop n).length by rw [List.length_drop]; omega, ih]
      show some (List.replicate (n + 1) (t', i, s) ++ r.drop n) = _
      rw [List.replicate_succ, List.cons_append]
      congr 2
      rw [hn]; exact (runX_split _ r).symm
theorem readR_prefix {t : Int} (ht : 1 ≤ t ∧ t ≤ 4) : ∀ (f g m : Nat) (last : Option Val3) (b c : List Nat) (l q : List Val3), (∀ x ∈ b ++ c, x < 256) → readR t f m last b = some l → readR t g m last (b ++ c) = some q → c = []
  | f, g, m, last, [], [], _, _, _, _, _ => rfl
  | f, g, m, last, [], c :: d, l, q, _, h1, h2 => by
    have h' : (if m = 0 then some [] else none) = some l := by cases f <;> exact h1
    split at h'
    · rename_i h0
      subst h0
      cases g with
      | zero => cases h2
      | succ g =>
        rw [List.nil_append] at h2
        unfold readR at h2
        split at h2
        · rename_i u k _
          rw [if_neg (by omega)] at h2; cases h2
        · cases h2
    · cases h'
  | 0, g, m, last, _ :: _, c, _, _, _, h, _ => by cases h
  | f + 1, 0, m, last, _ :: _, c, _, _, _, _, h => by cases h
  | f + 1, g + 1, m, last, x :: b, c, l, q, hb, h1, h2 => by
    have hb1 : ∀ y ∈ x :: b, y < 256 := fun y hy => hb y (List.mem_append_left _ hy)
    unfold readR at h1
    split at h1
    · rename_i u k hT
      obtain ⟨e1, e2, e3⟩ := takeNum_is hb1 hT
      split at h1
      · rename_i hu
        split at h1
        · rename_i i s j hC
          have hb2 : ∀ y ∈ (x :: b).drop k, y < 256 := fun y hy => hb1 y (List.mem_of_mem_drop hy)
          obtain ⟨e4, e5⟩ := takeC_is ht hb2 hC
          obtain ⟨e6, e7⟩ := takeC_read hC
          obtain ⟨_, e10, e8, e9⟩ := readC_lt hb2 e6
          split at h1
          · cases h1
          · rename_i hlast
            have hk : k ≤ (x :: b).length := by rw [e2]; exact e3.length_le
            have hj : k + j ≤ (x :: b).length := by rw [List.length_drop] at e10; omega
            have hT2 : takeNum ((x :: b) ++ c) = some (u, k) := by
              have : (x :: b) ++ c = putNum u ++ ((x :: b).drop k ++ c) := by
                rw [← List.append_assoc]
                congr 1
                have h3 := List.prefix_iff_eq_take.1 e3
                rw [← e2] at h3
                rw [h3, List.take_append_drop]
              rw [this, takeNum_put e1, e2]
            have hC2 : takeC t (((x :: b) ++ c).drop k) = some (i, s, j) := by
              rw [List.drop_append_of_le_length hk]
              have : (x :: b).drop k ++ c = oneB t i (bstr s) ++ (((x :: b).drop k).drop j ++ c) := by
                rw [← List.append_assoc, ← e5, List.take_append_drop]
              rw [this, takeC_put ht (by rw [bstr_size]; exact e7) e8, nums_bstr e9, e4]
            rw [List.cons_append] at h2
            unfold readR at h2
            rw [← List.cons_append, hT2] at h2
            simp only at h2
            rw [if_pos hu, hC2] at h2
            simp only at h2
            rw [if_neg hlast, List.drop_append_of_le_length hj] at h2
            cases hr1 : readR t f (m - u) (some (t, i, bstr s)) ((x :: b).drop (k + j)) with
            | none => rw [hr1] at h1; cases h1
            | some l' =>
              cases hr2 : readR t g (m - u) (some (t, i, bstr s)) ((x :: b).drop (k + j) ++ c) with
              | none => rw [hr2] at h2; cases h2
              | some q' => exact readR_prefix ht f g _ _ _ c l' q' (fun y hy => by
                  rcases List.mem_append.1 hy with hy | hy
                  · exact hb y (List.mem_append_left _ (List.mem_of_mem_drop hy))
                  · exact hb y (List.mem_append_right _ hy)) hr1 hr2
        · cases h1
      · cases h1
    · cases h1

instance okLDec (t : Int) (l : List Val3) : Decidable (OkL t l) := by unfold OkL; infer_instance
def putL (t : Int) (l : List Val3) : Option (List Nat) := if (1 ≤ t ∧ t ≤ 4) ∧ OkL t l then some (rleB l) else none
def takeL (t n : Int) (b : List Nat) : Option (List Val3) := if (1 ≤ t ∧ t ≤ 4) ∧ 0 ≤ n ∧ n ≤ 1000 then readR t b.length n.toNat none b else none
theorem putL_some {t : Int} {l : List Val3} (ht : 1 ≤ t ∧ t ≤ 4) (ho : OkL t l) : ∃ b, putL t l = some b := ⟨rleB l, by unfold putL; rw [if_pos ⟨ht, ho⟩]⟩
theorem putL_is {t : Int} {l : List Val3} {b : List Nat} (h : putL t l = some b) : (1 ≤ t ∧ t ≤ 4) ∧ OkL t l ∧ b = rleB l := by
  unfold putL at h
  split at h
  · rename_i hc; cases h; exact ⟨hc.1, hc.2, rfl⟩
  · cases h
theorem putL_le {t : Int} {l : List Val3} {b : List Nat} (ho : OkL t l) (h : putL t l = some b) : b.length ≤ l.length * 31 := by
  obtain ⟨_, _, rfl⟩ := putL_is h; exact rleB_le ho
theorem putL_lt {t : Int} {l : List Val3} {b : List Nat} (hm : l.length ≤ 1000) (ho : OkL t l) (h64 : All64 l) (h : putL t l = some b) : ∀ x ∈ b, x < 256 := by
  obtain ⟨_, _, rfl⟩ := putL_is h; exact rleB_lt (by omega) ho h64
theorem takeL_put {t : Int} (ht : 1 ≤ t ∧ t ≤ 4) {l : List Val3} (ho : OkL t l) (h64 : All64 l) (hl : l.length ≤ 1000) {b : List Nat} (h : putL t l = some b) : takeL t l.length b = some l := by
  obtain ⟨_, _, rfl⟩ := putL_is h
  unfold takeL
  rw [if_pos ⟨ht, by omega, by omega⟩]
  exact readR_put ht _ l none (by omega) ho h64 (fun x _ e => by cases e) (Nat.le_refl _)
theorem takeL_none {t : Int} (ht : 1 ≤ t ∧ t ≤ 4) {l : List Val3} (hl : l.length ≤ 1000) (ho : OkL t l) (h64 : All64 l) {b c d : List Nat} (h256 : ∀ x ∈ b ++ c, x < 256) (hc : c ≠ []) (h : (putL t l = some b ∧ d = b ++ c) ∨ (putL t l = some (b ++ c) ∧ d = b)) : takeL t l.length d = none := by
  unfold takeL
  split
  · rw [show ((l.length : Nat) : Int).toNat = l.length from rfl]
    cases hd : readR t d.length l.length none d with
    | none => rfl
    | some m =>
      exfalso
      have hp := readR_put ht (rleB l).length l none (by omega) ho h64 (fun x _ e => by cases e) (Nat.le_refl _)
      rcases h with ⟨h, rfl⟩ | ⟨h, rfl⟩
      · obtain ⟨_, _, rfl⟩ := putL_is h
        exact hc (readR_prefix ht _ _ _ _ _ _ l m h256 hp hd)
      · obtain ⟨_, _, he⟩ := putL_is h
        rw [← he] at hp
        exact hc (readR_prefix ht _ _ _ _ _ _ m l h256 hd hp)
  · rfl
theorem takeL_more {t : Int} (ht : 1 ≤ t ∧ t ≤ 4) {l : List Val3} (hl : l.length ≤ 1000) (ho : OkL t l) (h64 : All64 l) {b : List Nat} (h : putL t l = some b) {x : Nat} (hx : x < 256) : takeL t l.length (b ++ [x]) = none :=
  takeL_none ht hl ho h64 (b := b) (c := [x]) (fun y hy => by
    rcases List.mem_append.1 hy with hy | hy
    · exact putL_lt hl ho h64 h y hy
    · rw [List.mem_singleton] at hy; omega) (by simp) (.inl ⟨h, rfl⟩)
theorem takeL_cut {t : Int} (ht : 1 ≤ t ∧ t ≤ 4) {l : List Val3} (hl : l.length ≤ 1000) (ho : OkL t l) (h64 : All64 l) {b : List Nat} (h : putL t l = some b) {q : Nat} (hq : q < b.length) : takeL t l.length (b.take q) = none :=
  takeL_none ht hl ho h64 (b := b.take q) (c := b.drop q) (fun y hy => by rw [List.take_append_drop] at hy; exact putL_lt hl ho h64 h y hy) (fun e => by have := congrArg List.length e; rw [List.length_drop] at this; simp at this; omega) (.inr ⟨by rw [List.take_append_drop]; exact h, rfl⟩)
end Go.Proofs.YtiacemlloaenoaaDoor

/- Plain mathematics of columns by steps. -/

namespace Go.Proofs.YtiacemlloaenoaaDoor
open Go.RowKit
set_option linter.unusedVariables false

/-- A number as one of 64 bits. -/
def w64 (x : Int) : Int := IntKind.i64.wrap x
theorem w64_in (x : Int) : In64 (w64 x) := by unfold In64 w64; rw [IntKind.wrap_i64]; omega
theorem w64_of {x : Int} (h : In64 x) : w64 x = x := by unfold In64 at h; unfold w64; rw [IntKind.wrap_i64]; omega
theorem w64_back {p i : Int} (h : In64 i) : w64 (p + w64 (i - p)) = i := by
  unfold In64 at h; unfold w64; rw [IntKind.wrap_i64, IntKind.wrap_i64]; omega
theorem w64_forth {p z : Int} (h : In64 z) : w64 (w64 (p + z) - p) = z := by
  unfold In64 at h; unfold w64; rw [IntKind.wrap_i64, IntKind.wrap_i64]; omega
theorem zig_w64_lt (x : Int) : zig (w64 x) < 18446744073709551616 := zig_lt _ (w64_in x).1 (w64_in x).2

/-- The bytes of numbers, p the one ahead of them. -/
def stepsB : Int → List Val3 → List Nat
  | _, [] => []
  | p, x :: r => putNum (zig (w64 (x.2.1 - p))) ++ stepsB x.2.1 r
/-- The last number, p the one ahead of all. -/
def lastI : Int → List Val3 → Int
  | p, [] => p
  | _, x :: r => lastI x.2.1 r
theorem stepsB_append : ∀ (p : Int) (a b : List Val3), stepsB p (a ++ b) = stepsB p a ++ stepsB (lastI p a) b
  | p, [], b => rfl
  | p, x :: r, b => by
    show putNum _ ++ stepsB x.2.1 (r ++ b) = _
    rw [stepsB_append x.2.1 r b, ← List.append_assoc]; rfl
theorem lastI_append : ∀ (p : Int) (a b : List Val3), lastI p (a ++ b) = lastI (lastI p a) b
  | p, [], b => rfl
  | p, x :: r, b => lastI_append x.2.1 r b
theorem stepsB_snoc (p : Int) (a : List Val3) (x : Val3) : stepsB p (a ++ [x]) = stepsB p a ++ putNum (zig (w64 (x.2.1 - lastI p a))) := by
  rw [stepsB_append]
  show _ ++ (putNum _ ++ []) = _
  rw [List.append_nil]
theorem lastI_snoc (p : Int) (a : List Val3) (x : Val3) : lastI p (a ++ [x]) = x.2.1 := by rw [lastI_append]; rfl
theorem stepsB_le : ∀ (p : Int) (l : List Val3), (stepsB p l).length ≤ l.length * 10
  | p, [] => by simp [stepsB]
  | p, x :: r => by
    have h1 := putNum_le (zig (w64 (x.2.1 - p)))
    have h2 := stepsB_le x.2.1 r
    show (putNum _ ++ stepsB x.2.1 r).length ≤ _
    rw [List.length_append, List.length_cons]; omega
theorem stepsB_lt : ∀ (p : Int) (l : List Val3), ∀ y ∈ stepsB p l, y < 256
  | p, [], y, h => by cases h
  | p, x :: r, y, h => by
    rcases List.mem_append.1 (show y ∈ putNum _ ++ stepsB x.2.1 r from h) with h | h
    · exact putNum_lt (zig_w64_lt _) y h
    · exact stepsB_lt x.2.1 r y h
theorem nat_pos {p : Int} {l : List Val3} (h : l ≠ []) : 0 < (stepsB p l).length := by
  match l, h with
  | x :: r, _ =>
    show 0 < (putNum _ ++ stepsB x.2.1 r).length
    rw [List.length_append]
    have := putNum_pos (zig (w64 (x.2.1 - p)))
    omega

/-- So many values, p the number ahead of them. -/
def readD (t : Int) : Nat → Int → List Nat → Option (List Val3)
  | 0, _, [] => some []
  | 0, _, _ :: _ => none
  | n + 1, p, b => match takeNum b with
    | some (u, k) => if MayV t (w64 (p + zag u)) 0 then (readD t n (w64 (p + zag u)) (b.drop k)).map fun l => (t, w64 (p + zag u), ⟨#[]⟩) :: l else none
    | none => none
theorem readD_none {t : Int} {n : Nat} {p : Int} {b : List Nat} (h : takeNum b = none) : readD t (n + 1) p b = none := by unfold readD; rw [h]
theorem readD_not {t : Int} {n : Nat} {p : Int} {b : List Nat} {u k : Nat} (h : takeNum b = some (u, k)) (hm : ¬ MayV t (w64 (p + zag u)) 0) : readD t (n + 1) p b = none := by
  unfold readD; rw [h]; simp only; rw [if_neg hm]
theorem readD_some {t : Int} {n : Nat} {p : Int} {b : List Nat} {u k : Nat} (h : takeNum b = some (u, k)) (hm : MayV t (w64 (p + zag u)) 0) : readD t (n + 1) p b = (readD t n (w64 (p + zag u)) (b.drop k)).map fun l => (t, w64 (p + zag u), ⟨#[]⟩) :: l := by
  conv => lhs; unfold readD
  rw [h]; simp only; rw [if_pos hm]
/-- So many values, as far as it goes, and what stands behind. -/
def readE (t : Int) : Nat → Int → List Nat → Option (List Val3 × List Nat)
  | 0, _, b => some ([], b)
  | n + 1, p, b => match takeNum b with
    | some (u, k) => (readE t n (w64 (p + zag u)) (b.drop k)).map fun q => ((t, w64 (p + zag u), ⟨#[]⟩) :: q.1, q.2)
    | none => none
theorem readE_none {t : Int} {n : Nat} {p : Int} {b : List Nat} (h : takeNum b = none) : readE t (n + 1) p b = none := by unfold readE; rw [h]
theorem readE_some {t : Int} {n : Nat} {p : Int} {b : List Nat} {u k : Nat} (h : takeNum b = some (u, k)) : readE t (n + 1) p b = (readE t n (w64 (p + zag u)) (b.drop k)).map fun q => ((t, w64 (p + zag u), ⟨#[]⟩) :: q.1, q.2) := by
  conv => lhs; unfold readE
  rw [h]
theorem readE_step {o : Option (List Val3 × List Nat)} (d : List Val3) (x : Val3) : (o.map fun p => (x :: p.1, p.2)).map (fun p => (d ++ p.1, p.2)) = o.map fun p => ((d ++ [x]) ++ p.1, p.2) := by
  cases o with
  | none => rfl
  | some l => simp
theorem readE_is {t : Int} : ∀ (n : Nat) (p : Int) (b : List Nat), (∀ x ∈ b, x < 256) → ∀ l r, readE t n p b = some (l, r) → (∀ x ∈ l, x.1 = t ∧ x.2.2 = ⟨#[]⟩) ∧ All64 l ∧ l.length = n ∧ stepsB p l ++ r = b
  | 0, p, b, _, l, r, h => by cases h; exact ⟨(fun x hx => by cases hx), (fun x hx => by cases hx), rfl, rfl⟩
  | n + 1, p, b, hb, l, r, h => by
    cases hT : takeNum b with
    | none => rw [readE_none hT] at h; cases h
    | some uk =>
      obtain ⟨u, k⟩ := uk
      rw [readE_some hT] at h
      obtain ⟨h1, h2, h3⟩ := takeNum_is hb hT
      cases hr : readE t n (w64 (p + zag u)) (b.drop k) with
      | none => rw [hr] at h; cases h
      | some q =>
        obtain ⟨l', r'⟩ := q
        rw [hr] at h
        cases h
        obtain ⟨g1, g2, g3, g4⟩ := readE_is n _ _ (fun x hx => hb x (List.mem_of_mem_drop hx)) l' r' hr
        refine ⟨?_, ?_, by rw [List.length_cons, g3], ?_⟩
        · intro x hx
          rcases List.mem_cons.1 hx with rfl | hx
          · exact ⟨rfl, rfl⟩
          · exact g1 x hx
        · intro x hx
          rcases List.mem_cons.1 hx with rfl | hx
          · exact w64_in _
          · exact g2 x hx
        · show (putNum (zig (w64 (w64 (p + zag u) - p))) ++ stepsB (w64 (p + zag u)) l') ++ r' = b
          rw [w64_forth (zag_in u h1), zig_zag, List.append_assoc, g4, (List.prefix_iff_eq_take.1 h3), ← h2, List.take_append_drop]
theorem mayV_nil {t i : Int} (ht : t = 1 ∨ t = 2) {n : Nat} (h : MayV t i n) : n = 0 := by unfold MayV at h; omega
/-- What is read whole is what is read as far as it goes, where it may be. -/
theorem readD_readE {t : Int} : ∀ (n : Nat) (p : Int) (b : List Nat) (l : List Val3), readD t n p b = some l ↔ (readE t n p b = some (l, []) ∧ OkL t l)
  | 0, p, [], l => by
    constructor
    · intro h; cases h; exact ⟨rfl, fun x hx => by cases hx⟩
    · rintro ⟨h, _⟩; cases h; rfl
  | 0, p, _ :: _, l => by
    constructor
    · intro h; cases h
    · rintro ⟨h, _⟩; cases h
  | n + 1, p, b, l => by
    cases hT : takeNum b with
    | none => rw [readD_none hT, readE_none hT]; simp
    | some uk =>
      obtain ⟨u, k⟩ := uk
      rw [readE_some hT]
      by_cases hm : MayV t (w64 (p + zag u)) 0
      · rw [readD_some hT hm]
        constructor
        · intro h
          cases hr : readD t n (w64 (p + zag u)) (b.drop k) with
          | none => rw [hr] at h; cases h
          | some l' =>
            rw [hr] at h; cases h
            obtain ⟨h1, h2⟩ := (readD_readE n _ _ l').1 hr
            rw [h1]
            refine ⟨rfl, fun x hx => ?_⟩
            rcases List.mem_cons.1 hx with rfl | hx
            · exact ⟨rfl, hm⟩
            · exact h2 x hx
        · rintro ⟨h, ok⟩
          cases hr : readE t n (w64 (p + zag u)) (b.drop k) with
          | none => rw [hr] at h; cases h
          | some q =>
            obtain ⟨l', r⟩ := q
            rw [hr] at h; cases h
            rw [(readD_readE n _ _ l').2 ⟨hr, fun x hx => ok x (List.mem_cons_of_mem _ hx)⟩]
            rfl
      · rw [readD_not hT hm]
        constructor
        · intro h; cases h
        · rintro ⟨h, ok⟩
          cases hr : readE t n (w64 (p + zag u)) (b.drop k) with
          | none => rw [hr] at h; cases h
          | some q =>
            obtain ⟨l', r⟩ := q
            rw [hr] at h; cases h
            exact absurd (ok _ (List.mem_cons_self ..)).2 hm
theorem readD_is {t : Int} {n : Nat} {p : Int} {b : List Nat} (hb : ∀ x ∈ b, x < 256) {l : List Val3} (h : readD t n p b = some l) : OkL t l ∧ All64 l ∧ l.length = n ∧ stepsB p l = b := by
  obtain ⟨h1, h2⟩ := (readD_readE n p b l).1 h
  obtain ⟨_, h3, h4, h5⟩ := readE_is n p b hb l [] h1
  exact ⟨h2, h3, h4, by rw [← h5, List.append_nil]⟩
theorem byte_nil {s : ByteArray} (h : s.size = 0) : s = ⟨#[]⟩ := by
  cases s with
  | mk d =>
    have : d = #[] := Array.eq_empty_of_size_eq_zero h
    rw [this]
theorem readE_put {t : Int} (ht : t = 1 ∨ t = 2) : ∀ (p : Int) (l : List Val3) (r : List Nat), OkL t l → All64 l → readE t l.length p (stepsB p l ++ r) = some (l, r)
  | p, [], r, _, _ => rfl
  | p, x :: l, r, ok, h64 => by
    obtain ⟨t', i, s⟩ := x
    obtain ⟨rfl, hm⟩ := ok _ (List.mem_cons_self ..)
    have hs := byte_nil (mayV_nil ht hm)
    have hi := h64 _ (List.mem_cons_self ..)
    subst hs
    have ih := readE_put ht i l r (fun y hy => ok y (List.mem_cons_of_mem _ hy)) (fun y hy => h64 y (List.mem_cons_of_mem _ hy))
    have hT : takeNum (stepsB p ((t', i, ⟨#[]⟩) :: l) ++ r) = some (zig (w64 (i - p)), (putNum (zig (w64 (i - p)))).length) := by
      show takeNum ((putNum (zig (w64 (i - p))) ++ stepsB i l) ++ r) = _
      rw [List.append_assoc]
      exact takeNum_put (zig_w64_lt _) _
    rw [List.length_cons, readE_some hT]
    have e : (stepsB p ((t', i, ⟨#[]⟩) :: l) ++ r).drop (putNum (zig (w64 (i - p)))).length = stepsB i l ++ r := by
      show ((putNum (zig (w64 (i - p))) ++ stepsB i l) ++ r).drop _ = _
      rw [List.append_assoc, List.drop_left]
    rw [e, zag_zig, w64_back hi, ih]
    rfl
theorem readD_put {t : Int} (ht : t = 1 ∨ t = 2) (p : Int) (l : List Val3) (ok : OkL t l) (h64 : All64 l) : readD t l.length p (stepsB p l) = some l := by
  refine (readD_readE _ _ _ _).2 ⟨?_, ok⟩
  have := readE_put ht p l [] ok h64
  rwa [List.append_nil] at this
instance okL_dec (t : Int) (l : List Val3) : Decidable (OkL t l) := by unfold OkL; infer_instance
/-- The bytes of a list of type t, by steps; and the values of bytes. -/
def putD (t : Int) (l : List Val3) : Option (List Nat) := if (t = 1 ∨ t = 2) ∧ OkL t l then some (stepsB 0 l) else none
def takeD (t n : Int) (b : List Nat) : Option (List Val3) := if (t = 1 ∨ t = 2) ∧ 0 ≤ n ∧ n ≤ 1000 then readD t n.toNat 0 b else none
theorem putD_some {t : Int} {l : List Val3} (ht : t = 1 ∨ t = 2) (ho : OkL t l) : ∃ b, putD t l = some b := ⟨stepsB 0 l, by unfold putD; rw [if_pos ⟨ht, ho⟩]⟩
theorem putD_is {t : Int} {l : List Val3} {b : List Nat} (h : putD t l = some b) : (t = 1 ∨ t = 2) ∧ OkL t l ∧ b = stepsB 0 l := by
  unfold putD at h
  split at h
  · rename_i hc; cases h; exact ⟨hc.1, hc.2, rfl⟩
  · cases h
theorem putD_no {t : Int} {l : List Val3} (ht : ¬ (t = 1 ∨ t = 2)) : putD t l = none := by unfold putD; rw [if_neg fun h => ht h.1]
theorem putD_lt {t : Int} {l : List Val3} {b : List Nat} (h : putD t l = some b) : ∀ x ∈ b, x < 256 := by
  obtain ⟨_, _, rfl⟩ := putD_is h; exact stepsB_lt 0 l
theorem putD_le {t : Int} {l : List Val3} {b : List Nat} (h : putD t l = some b) : b.length ≤ l.length * 10 := by
  obtain ⟨_, _, rfl⟩ := putD_is h; exact stepsB_le 0 l
theorem takeD_put {t : Int} {l : List Val3} (h64 : All64 l) (hl : l.length ≤ 1000) {b : List Nat} (h : putD t l = some b) : takeD t l.length b = some l := by
  obtain ⟨ht, ho, rfl⟩ := putD_is h
  unfold takeD
  rw [if_pos ⟨ht, by omega, by omega⟩]
  exact readD_put ht 0 l ho h64
theorem takeD_is {t n : Int} {b : List Nat} (h256 : ∀ x ∈ b, x < 256) {l : List Val3} (h : takeD t n b = some l) : putD t l = some b ∧ All64 l ∧ (l.length : Int) = n ∧ n ≤ 1000 := by
  unfold takeD at h
  split at h
  · rename_i hc
    obtain ⟨h1, h2, h3, h4⟩ := readD_is h256 h
    refine ⟨?_, h2, by omega, hc.2.2⟩
    unfold putD
    rw [if_pos ⟨hc.1, h1⟩, h4]
  · cases h
theorem takeD_len {t n : Int} {b : List Nat} {l : List Val3} (h256 : ∀ x ∈ b, x < 256) (h : takeD t n b = some l) : l.length ≤ 1000 := by
  obtain ⟨_, _, h1, h2⟩ := takeD_is h256 h; omega
/-- Two lists of as many values, the bytes of the one the first bytes of the other's: the same. -/
theorem stepsB_prefix {t : Int} (ht : t = 1 ∨ t = 2) {l m : List Val3} (ol : OkL t l) (om : OkL t m) (al : All64 l) (am : All64 m) (hlm : l.length = m.length) {c : List Nat} (h : stepsB 0 m = stepsB 0 l ++ c) : c = [] := by
  have h1 := readE_put ht 0 l c ol al
  have h2 := readE_put ht 0 m [] om am
  rw [List.append_nil, h, ← hlm, h1] at h2
  cases h2; rfl
theorem takeD_none {t : Int} {l : List Val3} (h64 : All64 l) {b c d : List Nat} (h256 : ∀ x ∈ b ++ c, x < 256) (hc : c ≠ []) (h : (putD t l = some b ∧ d = b ++ c) ∨ (putD t l = some (b ++ c) ∧ d = b)) : takeD t l.length d = none := by
  cases hd : takeD t l.length d with
  | none => rfl
  | some m =>
    exfalso
    have hd256 : ∀ x ∈ d, x < 256 := by
      rcases h with ⟨_, rfl⟩ | ⟨_, rfl⟩
      · exact h256
      · exact fun x hx => h256 x (List.mem_append_left _ hx)
    obtain ⟨h1, h2, h3, _⟩ := takeD_is hd256 hd
    obtain ⟨ht, om, e1⟩ := putD_is h1
    rcases h with ⟨h, rfl⟩ | ⟨h, rfl⟩
    · obtain ⟨_, ol, e2⟩ := putD_is h
      exact hc (stepsB_prefix ht ol om h64 h2 (by omega) (by rw [← e1, ← e2]))
    · obtain ⟨_, ol, e2⟩ := putD_is h
      exact hc (stepsB_prefix ht om ol h2 h64 (by omega) (by rw [← e1, ← e2]))
theorem takeD_more {t : Int} {l : List Val3} (h64 : All64 l) {b : List Nat} (h : putD t l = some b) {x : Nat} (hx : x < 256) : takeD t l.length (b ++ [x]) = none :=
  takeD_none h64 (b := b) (c := [x]) (fun y hy => by
    rcases List.mem_append.1 hy with hy | hy
    · exact putD_lt h y hy
    · rw [List.mem_singleton] at hy; omega) (by simp) (.inl ⟨h, rfl⟩)
theorem takeD_cut {t : Int} {l : List Val3} (h64 : All64 l) {b : List Nat} (h : putD t l = some b) {q : Nat} (hq : q < b.length) : takeD t l.length (b.take q) = none :=
  takeD_none h64 (b := b.take q) (c := b.drop q) (fun y hy => by rw [List.take_append_drop] at hy; exact putD_lt h y hy) (fun e => by have := congrArg List.length e; rw [List.length_drop] at this; simp at this; omega) (.inr ⟨by rw [List.take_append_drop]; exact h, rfl⟩)
end Go.Proofs.YtiacemlloaenoaaDoor

/- Plain mathematics of columns of few bits. -/

namespace Go.Proofs.YtiacemlloaenoaaDoor
open Go.RowKit
set_option linter.unusedVariables false

/-- The bytes of numbers of k bits each, and the numbers of bytes. -/
def putBits (l : List Nat) (k : Nat) : List Nat := chop 8 (cat k l) ((l.length * k + 7) / 8)
def takeBits (b : List Nat) (n k : Nat) : Option (List Nat) := if n ≤ 1000 ∧ k ≤ 64 ∧ b.length = (n * k + 7) / 8 ∧ cat 8 b < 2 ^ (n * k) then some (chop k (cat 8 b) n) else none
theorem putBits_len (l : List Nat) (k : Nat) : (putBits l k).length = (l.length * k + 7) / 8 := chop_length _ _ _
theorem putBits_lt (l : List Nat) (k : Nat) : ∀ x ∈ putBits l k, x < 256 := fun x hx => by have := chop_lt 8 _ _ x hx; simpa using this
theorem takeBits_put (l : List Nat) (k : Nat) (hl : l.length ≤ 1000) (hk : k ≤ 64) (hw : widL l ≤ k) : takeBits (putBits l k) l.length k = some l := by
  obtain ⟨h1, h2, h3⟩ := back_bytes k _ l ((widL_le l k).1 hw) rfl
  unfold takeBits
  rw [if_pos ⟨hl, hk, putBits_len l k, by unfold putBits; rw [h1]; exact h2⟩]
  unfold putBits
  rw [h1, h3]
theorem takeBits_len {b : List Nat} {n k : Nat} {l : List Nat} (h : takeBits b n k = some l) : l.length = n ∧ n ≤ 1000 ∧ k ≤ 64 := by
  unfold takeBits at h
  split at h
  · rename_i hc; cases h; exact ⟨chop_length _ _ _, hc.1, hc.2.1⟩
  · cases h
theorem takeBits_lt {b : List Nat} {n k : Nat} {l : List Nat} (h : takeBits b n k = some l) : ∀ x ∈ l, x < 18446744073709551616 := by
  have hk := (takeBits_len h).2.2
  unfold takeBits at h
  split at h
  · cases h
    intro x hx
    have h1 := chop_lt k _ _ x hx
    have h2 : 2 ^ k ≤ 2 ^ 64 := Nat.pow_le_pow_right (by omega) hk
    have : (2 : Nat) ^ 64 = 18446744073709551616 := by decide
    omega
  · cases h

/-- The least number, m the one ahead of them. -/
def lowF (m : Int) (l : List Val3) : Int := l.foldl (fun m v => min m v.2.1) m
def lowI (l : List Val3) : Int := match l with
  | [] => 0
  | x :: r => lowF x.2.1 (x :: r)
theorem lowF_snoc (m : Int) (l : List Val3) (x : Val3) : lowF m (l ++ [x]) = min (lowF m l) x.2.1 := by unfold lowF; rw [List.foldl_append]; rfl
theorem lowF_le : ∀ (l : List Val3) (m : Int), lowF m l ≤ m ∧ ∀ v ∈ l, lowF m l ≤ v.2.1
  | [], m => ⟨Int.le_refl _, fun v hv => by cases hv⟩
  | x :: r, m => by
    obtain ⟨h1, h2⟩ := lowF_le r (min m x.2.1)
    have e : lowF m (x :: r) = lowF (min m x.2.1) r := rfl
    rw [e]
    refine ⟨by omega, fun v hv => ?_⟩
    rcases List.mem_cons.1 hv with rfl | hv
    · omega
    · exact h2 v hv
theorem lowF_in : ∀ (l : List Val3) (m : Int), In64 m → All64 l → In64 (lowF m l)
  | [], m, h, _ => h
  | x :: r, m, h, hl => by
    have hx := hl x (by simp)
    refine lowF_in r (min m x.2.1) ?_ (fun y hy => hl y (List.mem_cons_of_mem _ hy))
    unfold In64 at *
    omega
theorem lowI_in {l : List Val3} (h : All64 l) : In64 (lowI l) := by
  match l, h with
  | [], _ => unfold In64; exact ⟨by decide, by decide⟩
  | x :: r, h => exact lowF_in _ _ (h x (by simp)) h
theorem lowI_le {l : List Val3} : ∀ v ∈ l, lowI l ≤ v.2.1 := by
  match l with
  | [] => intro v hv; cases hv
  | x :: r => exact (lowF_le (x :: r) x.2.1).2
/-- How much each is above m. -/
def aboveL (m : Int) (l : List Val3) : List Nat := l.map fun v => (v.2.1 - m).toNat
theorem aboveL_len (m : Int) (l : List Val3) : (aboveL m l).length = l.length := List.length_map _
theorem aboveL_lt {m : Int} {l : List Val3} (hm : In64 m) (h64 : All64 l) : ∀ x ∈ aboveL m l, x < 18446744073709551616 := by
  intro x hx
  obtain ⟨v, hv, rfl⟩ := List.mem_map.1 hx
  have := h64 v hv
  unfold In64 at *
  omega
theorem aboveL_take (m : Int) (l : List Val3) (k : Nat) : aboveL m (l.take k) = (aboveL m l).take k := by unfold aboveL; rw [List.map_take]
def widA (l : List Val3) : Nat := widL (aboveL (lowI l) l)
theorem widA_le {l : List Val3} (h64 : All64 l) : widA l ≤ 64 := widL_le64 _ (aboveL_lt (lowI_in h64) h64)
def packB (l : List Val3) : List Nat := if l = [] then [] else putNum (zig (lowI l)) ++ (widA l :: putBits (aboveL (lowI l) l) (widA l))
/-- The values of numbers above m. -/
def unpackV (t m : Int) (l : List Nat) : List Val3 := l.map fun (a : Nat) => (t, w64 (m + (a : Int)), ⟨#[]⟩)
def readK (t : Int) (n : Nat) (b : List Nat) : Option (List Val3) :=
  if n = 0 then some [] else
    match takeNum b with
    | none => none
    | some (u, k) => match b.drop k with
      | [] => none
      | w :: r => (takeBits r n w).map (unpackV t (zag u))
abbrev KT (t : Int) : Prop := t = 1 ∨ t = 2 ∨ t = 3
def putK (t : Int) (l : List Val3) : Option (List Nat) := if KT t ∧ OkL t l then some (packB l) else none
def takeK (t n : Int) (b : List Nat) : Option (List Val3) :=
  if (1 ≤ t ∧ t ≤ 4) ∧ 0 ≤ n ∧ n ≤ 1000 then
    match readK t n.toNat b with
    | none => none
    | some l => if putK t l = some b then some l else none
  else none
theorem putK_some {t : Int} {l : List Val3} (ht : KT t) (ho : OkL t l) : ∃ b, putK t l = some b := ⟨packB l, by unfold putK; rw [if_pos ⟨ht, ho⟩]⟩
theorem putK_is {t : Int} {l : List Val3} {b : List Nat} (h : putK t l = some b) : KT t ∧ OkL t l ∧ b = packB l := by
  unfold putK at h
  split at h
  · rename_i hc; cases h; exact ⟨hc.1, hc.2, rfl⟩
  · cases h
theorem putK_no {t : Int} {l : List Val3} (ht : ¬ KT t) : putK t l = none := by unfold putK; rw [if_neg fun h => ht h.1]
theorem packB_lt {l : List Val3} (h64 : All64 l) : ∀ x ∈ packB l, x < 256 := by
  unfold packB
  split
  · intro x hx; cases hx
  · intro x hx
    rcases List.mem_append.1 hx with hx | hx
    · have := lowI_in h64
      exact putNum_lt (zig_lt _ this.1 this.2) x hx
    · rcases List.mem_cons.1 hx with rfl | hx
      · have := widA_le h64; omega
      · exact putBits_lt _ _ x hx
theorem putK_lt {t : Int} {l : List Val3} {b : List Nat} (h64 : All64 l) (h : putK t l = some b) : ∀ x ∈ b, x < 256 := by
  obtain ⟨_, _, rfl⟩ := putK_is h; exact packB_lt h64
theorem packB_le {l : List Val3} (h64 : All64 l) : (packB l).length ≤ l.length * 21 := by
  unfold packB
  split
  · simp
  · rename_i hne
    have h0 : 0 < l.length := List.length_pos_iff.2 hne
    have h1 := putNum_le (zig (lowI l))
    have h2 := widA_le h64
    have h3 : l.length * widA l ≤ l.length * 64 := Nat.mul_le_mul_left _ h2
    rw [List.length_append, List.length_cons, putBits_len, aboveL_len]
    omega
theorem putK_le {t : Int} {l : List Val3} {b : List Nat} (h64 : All64 l) (h : putK t l = some b) : b.length ≤ l.length * 21 := by
  obtain ⟨_, _, rfl⟩ := putK_is h; exact packB_le h64
theorem unpack_above {t : Int} (ht : KT t) {l : List Val3} (ho : OkL t l) (h64 : All64 l) : unpackV t (lowI l) (aboveL (lowI l) l) = l := by
  unfold unpackV aboveL
  rw [List.map_map]
  conv => rhs; rw [← List.map_id l]
  refine List.map_congr_left fun v hv => ?_
  obtain ⟨t', i, s⟩ := v
  obtain ⟨h1, hm⟩ := ho _ hv
  have hle := lowI_le _ hv
  have hi := h64 _ hv
  dsimp only at h1 hm hle hi
  subst h1
  have hs : s = ⟨#[]⟩ := byte_nil (by unfold MayV at hm; omega)
  subst hs
  show (t', w64 (lowI l + ((i - lowI l).toNat : Int)), _) = _
  rw [show lowI l + ((i - lowI l).toNat : Int) = i by omega, w64_of hi]
  rfl
theorem readK_put {t : Int} (ht : KT t) {l : List Val3} (ho : OkL t l) (h64 : All64 l) (hl : l.length ≤ 1000) : readK t l.length (packB l) = some l := by
  unfold readK packB
  by_cases h0 : l = []
  · subst h0; rfl
  · have hp : 0 < l.length := List.length_pos_iff.2 h0
    have hlow := lowI_in h64
    rw [if_neg (by omega), if_neg h0, takeNum_put (zig_lt _ hlow.1 hlow.2)]
    simp only [List.drop_left]
    have hb := takeBits_put (aboveL (lowI l) l) (widA l) (by rw [aboveL_len]; exact hl) (widA_le h64) (Nat.le_refl _)
    rw [aboveL_len] at hb
    rw [hb, zag_zig]
    show some (unpackV t (lowI l) (aboveL (lowI l) l)) = some l
    rw [unpack_above ht ho h64]
theorem readK_is {t : Int} {n : Nat} {b : List Nat} {l : List Val3} (h : readK t n b = some l) : l.length = n ∧ All64 l := by
  unfold readK at h
  split at h
  · cases h; rename_i h0; exact ⟨h0.symm, fun x hx => by cases hx⟩
  · split at h
    · cases h
    · split at h
      · cases h
      · rename_i u k _ _ w r _
        cases hT : takeBits r n w with
        | none => rw [hT] at h; cases h
        | some q =>
          rw [hT] at h; cases h
          refine ⟨by unfold unpackV; rw [List.length_map]; exact (takeBits_len hT).1, fun x hx => ?_⟩
          obtain ⟨a, _, rfl⟩ := List.mem_map.1 hx
          exact w64_in _
theorem takeK_put {t : Int} {l : List Val3} (h64 : All64 l) (hl : l.length ≤ 1000) {b : List Nat} (h : putK t l = some b) : takeK t l.length b = some l := by
  obtain ⟨ht, ho, rfl⟩ := putK_is h
  unfold takeK
  rw [if_pos ⟨by unfold KT at ht; omega, by omega, by omega⟩, show ((l.length : Nat) : Int).toNat = l.length from rfl, readK_put ht ho h64 hl]
  simp only
  rw [if_pos h]
theorem takeK_is {t n : Int} {b : List Nat} {l : List Val3} (h : takeK t n b = some l) : putK t l = some b ∧ All64 l ∧ (l.length : Int) = n ∧ n ≤ 1000 := by
  unfold takeK at h
  split at h
  · rename_i hc
    split at h
    · cases h
    · rename_i l' hr
      split at h
      · rename_i hp
        cases h
        obtain ⟨h1, h2⟩ := readK_is hr
        exact ⟨hp, h2, by omega, hc.2.2⟩
      · cases h
  · cases h
theorem takeK_len {t n : Int} {b : List Nat} {l : List Val3} (h256 : ∀ x ∈ b, x < 256) (h : takeK t n b = some l) : l.length ≤ 1000 := by
  obtain ⟨_, _, h1, h2⟩ := takeK_is h; omega
theorem packB_prefix {l m : List Val3} (al : All64 l) (am : All64 m) (hlm : l.length = m.length) {c : List Nat} (h : packB m = packB l ++ c) : c = [] := by
  by_cases h0 : l = []
  · subst h0
    have : m = [] := List.eq_nil_of_length_eq_zero hlm.symm
    subst this
    simpa [packB] using h.symm
  · have h1 : m ≠ [] := fun e => h0 (List.eq_nil_of_length_eq_zero (by rw [hlm, e]; rfl))
    unfold packB at h
    rw [if_neg h0, if_neg h1, List.append_assoc] at h
    have hl := lowI_in al
    have hm := lowI_in am
    have e1 := takeNum_put (zig_lt _ hm.1 hm.2) (widA m :: putBits (aboveL (lowI m) m) (widA m))
    have e2 := takeNum_put (zig_lt _ hl.1 hl.2) ((widA l :: putBits (aboveL (lowI l) l) (widA l)) ++ c)
    rw [h, e2] at e1
    have e3 : zig (lowI l) = zig (lowI m) := by injection e1 with e; injection e
    rw [e3] at h
    have h := List.append_cancel_left h
    rw [List.cons_append] at h
    injection h with hw hx
    have := congrArg List.length hx
    rw [List.length_append, putBits_len, putBits_len, aboveL_len, aboveL_len, hw, hlm] at this
    exact List.eq_nil_of_length_eq_zero (by omega)
theorem takeK_none {t : Int} {l : List Val3} (h64 : All64 l) {b c d : List Nat} (hc : c ≠ []) (h : (putK t l = some b ∧ d = b ++ c) ∨ (putK t l = some (b ++ c) ∧ d = b)) : takeK t l.length d = none := by
  cases hd : takeK t l.length d with
  | none => rfl
  | some m =>
    exfalso
    obtain ⟨h1, h2, h3, _⟩ := takeK_is hd
    obtain ⟨ht, om, e1⟩ := putK_is h1
    rcases h with ⟨h, rfl⟩ | ⟨h, rfl⟩
    · obtain ⟨_, ol, e2⟩ := putK_is h
      exact hc (packB_prefix h64 h2 (by omega) (by rw [← e1, ← e2]))
    · obtain ⟨_, ol, e2⟩ := putK_is h
      exact hc (packB_prefix h2 h64 (by omega) (by rw [← e1, ← e2]))
theorem takeK_more {t : Int} {l : List Val3} (h64 : All64 l) {b : List Nat} (h : putK t l = some b) {x : Nat} (hx : x < 256) : takeK t l.length (b ++ [x]) = none :=
  takeK_none h64 (b := b) (c := [x]) (by simp) (.inl ⟨h, rfl⟩)
theorem takeK_cut {t : Int} {l : List Val3} (h64 : All64 l) {b : List Nat} (h : putK t l = some b) {q : Nat} (hq : q < b.length) : takeK t l.length (b.take q) = none :=
  takeK_none h64 (b := b.take q) (c := b.drop q) (fun e => by have := congrArg List.length e; rw [List.length_drop] at this; simp at this; omega) (.inr ⟨by rw [List.take_append_drop]; exact h, rfl⟩)
end Go.Proofs.YtiacemlloaenoaaDoor

/- Plain mathematics: bytes read as far as they go. -/

namespace Go.Proofs.YtiacemlloaenoaaDoor
open Go.RowKit
set_option linter.unusedVariables false

/-- So many values, and what stands behind. -/
def readQ (t : Int) : Nat → List Nat → Option (List Val3 × List Nat)
  | 0, b => some ([], b)
  | n + 1, b => match takeC t b with
    | some (i, s, k) => (readQ t n (b.drop k)).map fun p => ((t, i, bstr s) :: p.1, p.2)
    | none => none
theorem readQ_none {t : Int} {n : Nat} {b : List Nat} (h : takeC t b = none) : readQ t (n + 1) b = none := by unfold readQ; rw [h]
theorem readQ_some {t : Int} {n : Nat} {b : List Nat} {i : Int} {s : List Nat} {k : Nat} (h : takeC t b = some (i, s, k)) : readQ t (n + 1) b = (readQ t n (b.drop k)).map fun p => ((t, i, bstr s) :: p.1, p.2) := by
  conv => lhs; unfold readQ
  rw [h]
theorem readQ_step {o : Option (List Val3 × List Nat)} (d : List Val3) (x : Val3) : (o.map fun p => (x :: p.1, p.2)).map (fun p => (d ++ p.1, p.2)) = o.map fun p => ((d ++ [x]) ++ p.1, p.2) := by
  cases o with
  | none => rfl
  | some l => simp
theorem readP_readQ {t : Int} : ∀ (n : Nat) (b : List Nat), readP t n b = (match readQ t n b with | some (l, []) => some l | _ => none)
  | 0, [] => rfl
  | 0, _ :: _ => rfl
  | n + 1, b => by
    unfold readP readQ
    cases hT : takeC t b with
    | none => rfl
    | some p =>
      obtain ⟨i, s, k⟩ := p
      simp only
      rw [readP_readQ n (b.drop k)]
      cases readQ t n (b.drop k) with
      | none => rfl
      | some q =>
        obtain ⟨l, r⟩ := q
        cases r <;> rfl
theorem readQ_is {t : Int} (ht : 1 ≤ t ∧ t ≤ 4) : ∀ (n : Nat) (b : List Nat), (∀ x ∈ b, x < 256) → ∀ l r, readQ t n b = some (l, r) → OkL t l ∧ All64 l ∧ l.length = n ∧ plainB l ++ r = b
  | 0, b, _, l, r, h => by cases h; exact ⟨(fun x hx => by cases hx), (fun x hx => by cases hx), rfl, rfl⟩
  | n + 1, b, hb, l, r, h => by
    unfold readQ at h
    split at h
    · rename_i i s k hT
      obtain ⟨h1, h2⟩ := takeC_is ht hb hT
      obtain ⟨h3, h4⟩ := takeC_read hT
      obtain ⟨_, h5, h6, h7⟩ := readC_lt hb h3
      cases hr : readQ t n (b.drop k) with
      | none => rw [hr] at h; cases h
      | some q =>
        obtain ⟨l', r'⟩ := q
        rw [hr] at h
        cases h
        obtain ⟨g1, g2, g3, g4⟩ := readQ_is ht n (b.drop k) (fun x hx => hb x (List.mem_of_mem_drop hx)) l' r' hr
        refine ⟨?_, ?_, by rw [List.length_cons, g3], ?_⟩
        · intro x hx
          rcases List.mem_cons.1 hx with rfl | hx
          · exact ⟨rfl, by rw [bstr_size]; exact h4⟩
          · exact g1 x hx
        · intro x hx
          rcases List.mem_cons.1 hx with rfl | hx
          · exact h6
          · exact g2 x hx
        · rw [plainB_cons, List.append_assoc, g4]
          show oneB t i (bstr s) ++ b.drop k = b
          rw [← h2, List.take_append_drop]
    · cases h
end Go.Proofs.YtiacemlloaenoaaDoor

/- How bytes, and values, stand: plain mathematics. -/

namespace Go.Proofs.YtiacemlloaenoaaDoor
open Go.RowKit
set_option linter.unusedVariables false

abbrev cmpS (a b : List UInt8) : Int := Lib.compareBytes a b
theorem cmpS_nil_cons (b : UInt8) (bs : List UInt8) : cmpS [] (b :: bs) = -1 := rfl
theorem cmpS_cons_nil (b : UInt8) (bs : List UInt8) : cmpS (b :: bs) [] = 1 := rfl
theorem cmpS_cons (a b : UInt8) (us bs : List UInt8) : cmpS (a :: us) (b :: bs) = if a.toNat < b.toNat then -1 else if b.toNat < a.toNat then 1 else cmpS us bs := by
  show (if a < b then _ else if b < a then _ else _) = _
  simp only [UInt8.lt_iff_toNat_lt]
theorem cmpS_in : ∀ a b : List UInt8, cmpS a b = -1 ∨ cmpS a b = 0 ∨ cmpS a b = 1
  | [], [] => .inr (.inl rfl)
  | [], _ :: _ => .inl rfl
  | _ :: _, [] => .inr (.inr rfl)
  | a :: us, b :: bs => by
    rw [cmpS_cons]
    split
    · exact .inl rfl
    · split
      · exact .inr (.inr rfl)
      · exact cmpS_in us bs
theorem cmpS_self : ∀ a : List UInt8, cmpS a a = 0
  | [] => rfl
  | a :: us => by rw [cmpS_cons, if_neg (by omega), if_neg (by omega)]; exact cmpS_self us
theorem cmpS_turn : ∀ a b : List UInt8, cmpS b a = - cmpS a b
  | [], [] => rfl
  | [], _ :: _ => rfl
  | _ :: _, [] => rfl
  | a :: us, b :: bs => by
    rw [cmpS_cons, cmpS_cons]
    have ih := cmpS_turn us bs
    by_cases h : a.toNat < b.toNat
    · simp [h, show ¬ b.toNat < a.toNat by omega]
    · by_cases h' : b.toNat < a.toNat
      · simp [h, h']
      · simp [h, h', ih]
theorem cmpS_zero : ∀ a b : List UInt8, cmpS a b = 0 → a = b
  | [], [] => fun _ => rfl
  | [], _ :: _ => fun h => by cases h
  | _ :: _, [] => fun h => by cases h
  | a :: us, b :: bs => by
    rw [cmpS_cons]
    intro h
    split at h
    · cases h
    · split at h
      · cases h
      · rw [cmpS_zero us bs h, UInt8.toNat_inj.1 (show a.toNat = b.toNat by omega)]
theorem cmpS_trans : ∀ a b c : List UInt8, cmpS a b ≤ 0 → cmpS b c ≤ 0 → cmpS a c ≤ 0 ∧ (cmpS a b < 0 ∨ cmpS b c < 0 → cmpS a c < 0)
  | [], b, [] => fun h1 h2 => by
    cases b with
    | nil => exact ⟨Int.le_refl _, fun h => by rcases h with h | h <;> exact absurd h (by decide)⟩
    | cons x xs => exact absurd h2 (by rw [cmpS_cons_nil]; decide)
  | [], b, c :: cs => fun _ _ => ⟨by rw [cmpS_nil_cons]; decide, fun _ => by rw [cmpS_nil_cons]; decide⟩
  | a :: us, [], c => fun h1 _ => absurd h1 (by rw [cmpS_cons_nil]; decide)
  | a :: us, b :: bs, [] => fun _ h2 => absurd h2 (by rw [cmpS_cons_nil]; decide)
  | a :: us, b :: bs, c :: cs => fun h1 h2 => by
    have ih := cmpS_trans us bs cs
    rw [cmpS_cons] at h1 h2 ⊢
    rw [cmpS_cons a b, cmpS_cons b c]
    by_cases hab : a.toNat < b.toNat
    · by_cases hbc : b.toNat < c.toNat
      · rw [if_pos (show a.toNat < c.toNat by omega)]; exact ⟨by decide, fun _ => by decide⟩
      · rw [if_neg hbc] at h2
        by_cases hcb : c.toNat < b.toNat
        · rw [if_pos hcb] at h2; exact absurd h2 (by decide)
        · rw [if_pos (show a.toNat < c.toNat by omega)]; exact ⟨by decide, fun _ => by decide⟩
    · rw [if_neg hab] at h1 ⊢
      by_cases hba : b.toNat < a.toNat
      · rw [if_pos hba] at h1; exact absurd h1 (by decide)
      · rw [if_neg hba] at h1 ⊢
        by_cases hbc : b.toNat < c.toNat
        · rw [if_pos (show a.toNat < c.toNat by omega)]; exact ⟨by decide, fun _ => by decide⟩
        · rw [if_neg hbc] at h2 ⊢
          by_cases hcb : c.toNat < b.toNat
          · rw [if_pos hcb] at h2; exact absurd h2 (by decide)
          · rw [if_neg hcb] at h2 ⊢
            rw [if_neg (show ¬ a.toNat < c.toNat by omega), if_neg (show ¬ c.toNat < a.toNat by omega)]
            exact ih h1 h2
theorem less_iff : ∀ a b : List UInt8, Op.bytesLess a b = decide (cmpS a b < 0)
  | [], [] => rfl
  | [], _ :: _ => rfl
  | _ :: _, [] => rfl
  | a :: us, b :: bs => by
    rw [cmpS_cons]
    unfold Op.bytesLess
    rw [less_iff us bs, Bool.eq_iff_iff]
    simp only [Bool.or_eq_true, Bool.and_eq_true, decide_eq_true_eq, beq_iff_eq, UInt8.lt_iff_toNat_lt, ← UInt8.toNat_inj]
    by_cases h : a.toNat < b.toNat
    · rw [if_pos h]; simp [h]
    · rw [if_neg h]
      by_cases h' : b.toNat < a.toNat
      · rw [if_pos h']; constructor
        · rintro (h | ⟨h, _⟩) <;> omega
        · intro h; omega
      · rw [if_neg h']; constructor
        · rintro (h | ⟨_, h⟩)
          · omega
          · exact h
        · intro h; exact .inr ⟨by omega, h⟩

/-- -1, 0, 1. -/
def cmpI (a b : Int) : Int := if a < b then -1 else if b < a then 1 else 0
theorem cmpI_lt {a b : Int} (h : a < b) : cmpI a b = -1 := if_pos h
theorem cmpI_gt {a b : Int} (h : b < a) : cmpI a b = 1 := by unfold cmpI; rw [if_neg (by omega), if_pos h]
theorem cmpI_eq {a b : Int} (h : a = b) : cmpI a b = 0 := by unfold cmpI; rw [if_neg (by omega), if_neg (by omega)]
theorem cmpI_in (a b : Int) : (a < b ∧ cmpI a b = -1) ∨ (a = b ∧ cmpI a b = 0) ∨ (b < a ∧ cmpI a b = 1) := by
  rcases Int.lt_trichotomy a b with h | h | h
  · exact .inl ⟨h, cmpI_lt h⟩
  · exact .inr (.inl ⟨h, cmpI_eq h⟩)
  · exact .inr (.inr ⟨h, cmpI_gt h⟩)

def rankV (t : Int) : Int := if t = 0 then 0 else if t = 4 then 2 else 1
theorem rankV_in (t : Int) : (t = 0 ∧ rankV t = 0) ∨ (t = 4 ∧ rankV t = 2) ∨ (t ≠ 0 ∧ t ≠ 4 ∧ rankV t = 1) := by
  unfold rankV
  by_cases h0 : t = 0
  · exact .inl ⟨h0, if_pos h0⟩
  · by_cases h4 : t = 4
    · exact .inr (.inl ⟨h4, by rw [if_neg h0, if_pos h4]⟩)
    · exact .inr (.inr ⟨h0, h4, by rw [if_neg h0, if_neg h4]⟩)

/-- How two values stand. -/
def cmpV (t i : Int) (s : ByteArray) (t' i' : Int) (s' : ByteArray) : Int :=
  if rankV t ≠ rankV t' then cmpI (rankV t) (rankV t') else if rankV t = 0 then 0 else if rankV t = 2 then cmpS s.data.toList s'.data.toList else cmpI i i'
theorem cmpV_far {t i : Int} {s : ByteArray} {t' i' : Int} {s' : ByteArray} (h : rankV t ≠ rankV t') : cmpV t i s t' i' s' = cmpI (rankV t) (rankV t') := if_pos h
theorem cmpV_near {t i : Int} {s : ByteArray} {t' i' : Int} {s' : ByteArray} (h : rankV t = rankV t') : cmpV t i s t' i' s' = if rankV t = 0 then 0 else if rankV t = 2 then cmpS s.data.toList s'.data.toList else cmpI i i' := if_neg (fun k => k h)
theorem cmpV_in (t i : Int) (s : ByteArray) (t' i' : Int) (s' : ByteArray) : cmpV t i s t' i' s' = -1 ∨ cmpV t i s t' i' s' = 0 ∨ cmpV t i s t' i' s' = 1 := by
  unfold cmpV
  split
  · rcases cmpI_in (rankV t) (rankV t') with h | h | h
    · exact .inl h.2
    · exact .inr (.inl h.2)
    · exact .inr (.inr h.2)
  · split
    · exact .inr (.inl rfl)
    · split
      · exact cmpS_in _ _
      · rcases cmpI_in i i' with h | h | h
        · exact .inl h.2
        · exact .inr (.inl h.2)
        · exact .inr (.inr h.2)
theorem cmpI_turn (a b : Int) : cmpI b a = - cmpI a b := by
  rcases cmpI_in a b with h | h | h <;> rcases cmpI_in b a with k | k | k <;> omega
theorem cmpV_turn (t i : Int) (s : ByteArray) (t' i' : Int) (s' : ByteArray) : cmpV t' i' s' t i s = - cmpV t i s t' i' s' := by
  by_cases h : rankV t = rankV t'
  · rw [cmpV_near h, cmpV_near h.symm, ← h]
    split
    · rfl
    · split
      · exact cmpS_turn _ _
      · exact cmpI_turn _ _
  · rw [cmpV_far h, cmpV_far (Ne.symm h)]; exact cmpI_turn _ _
theorem cmpV_self (t i : Int) (s : ByteArray) : cmpV t i s t i s = 0 := by
  rw [cmpV_near rfl]
  split
  · rfl
  · split
    · exact cmpS_self _
    · exact cmpI_eq rfl
theorem cmpV_trans (t i : Int) (s : ByteArray) (t' i' : Int) (s' : ByteArray) (u j : Int) (r : ByteArray) (h1 : cmpV t i s t' i' s' ≤ 0) (h2 : cmpV t' i' s' u j r ≤ 0) :
    cmpV t i s u j r ≤ 0 ∧ (cmpV t i s t' i' s' < 0 ∨ cmpV t' i' s' u j r < 0 → cmpV t i s u j r < 0) := by
  by_cases hab : rankV t = rankV t'
  · by_cases hbc : rankV t' = rankV u
    · have hac := hab.trans hbc
      rw [cmpV_near hab] at h1 ⊢
      rw [cmpV_near hbc, ← hab] at h2 ⊢
      rw [cmpV_near hac]
      by_cases h0 : rankV t = 0
      · simp [h0]
      · by_cases h5 : rankV t = 2
        · rw [if_neg h0, if_pos h5] at h1 h2 ⊢
          rw [if_neg h0, if_pos h5]
          rw [if_neg h0, if_pos h5]
          exact cmpS_trans _ _ _ h1 h2
        · rw [if_neg h0, if_neg h5] at h1 h2 ⊢
          rw [if_neg h0, if_neg h5]
          rw [if_neg h0, if_neg h5]
          rcases cmpI_in i i' with h | h | h <;> rcases cmpI_in i' j with k | k | k <;> rcases cmpI_in i j with l | l | l <;> omega
    · have hac : rankV t ≠ rankV u := by rw [hab]; exact hbc
      rw [cmpV_far hbc] at h2 ⊢
      rw [cmpV_far hac, hab]
      exact ⟨h2, fun _ => by rcases cmpI_in (rankV t') (rankV u) with h | h | h <;> omega⟩
  · rw [cmpV_far hab] at h1 ⊢
    have hlt : rankV t < rankV t' := by rcases cmpI_in (rankV t) (rankV t') with h | h | h <;> omega
    by_cases hbc : rankV t' = rankV u
    · have hac : rankV t ≠ rankV u := by rw [← hbc]; exact hab
      rw [cmpV_far hac, ← hbc, cmpI_lt hlt]
      exact ⟨by decide, fun _ => by decide⟩
    · rw [cmpV_far hbc] at h2
      have hlt2 : rankV t' < rankV u := by rcases cmpI_in (rankV t') (rankV u) with h | h | h <;> omega
      rw [cmpV_far (by omega), cmpI_lt (show rankV t < rankV u by omega)]
      exact ⟨by decide, fun _ => by decide⟩
end Go.Proofs.YtiacemlloaenoaaDoor

/- How values of one type stand. -/

namespace Go.Proofs.YtiacemlloaenoaaDoor
open Go.RowKit
set_option linter.unusedVariables false

theorem cmpV_ok {t : Int} (ht : 1 ≤ t ∧ t ≤ 4) {i i' : Int} {s s' : ByteArray} (h : MayV t i s.size) (h' : MayV t i' s'.size) : cmpV t i s t i' s' = 0 ↔ (i, s) = (i', s') := by
  rw [cmpV_near rfl]
  have hr := rankV_in t
  by_cases h4 : t = 4
  · have h2 : rankV t = 2 := by omega
    rw [if_neg (by omega), if_pos h2]
    have e1 : i = 0 := by unfold MayV at h; omega
    have e2 : i' = 0 := by unfold MayV at h'; omega
    subst e1 e2
    constructor
    · intro e
      have := cmpS_zero _ _ e
      have hs : s = s' := by
        cases s; cases s'
        congr 1
        exact Array.ext' this
      rw [hs]
    · intro e
      cases e
      exact cmpS_self _
  · have h1 : rankV t = 1 := by omega
    rw [if_neg (by omega), if_neg (by omega)]
    have z1 : s.size = 0 := by unfold MayV at h; omega
    have z2 : s'.size = 0 := by unfold MayV at h'; omega
    have hs : s = s' := by
      cases s with | mk d => cases s' with | mk d' =>
        have e1 : d = #[] := by simpa [ByteArray.size] using z1
        have e2 : d' = #[] := by simpa [ByteArray.size] using z2
        rw [e1, e2]
    subst hs
    rcases cmpI_in i i' with h | h | h
    · rw [h.2]; simp; omega
    · rw [h.2]; simp [h.1]
    · rw [h.2]; simp; omega
end Go.Proofs.YtiacemlloaenoaaDoor

/- Plain mathematics of columns by a list of their values. -/

namespace Go.Proofs.YtiacemlloaenoaaDoor
open Go.RowKit
set_option linter.unusedVariables false

/-- How two values stand. -/
def cmp3 (x y : Val3) : Int := cmpV x.1 x.2.1 x.2.2 y.1 y.2.1 y.2.2
theorem cmp3_turn (x y : Val3) : cmp3 y x = - cmp3 x y := cmpV_turn _ _ _ _ _ _
theorem cmp3_self (x : Val3) : cmp3 x x = 0 := cmpV_self _ _ _
theorem cmp3_lt_trans {x y z : Val3} (h1 : cmp3 x y < 0) (h2 : cmp3 y z < 0) : cmp3 x z < 0 :=
  (cmpV_trans _ _ _ _ _ _ _ _ _ (show cmp3 x y ≤ 0 by omega) (show cmp3 y z ≤ 0 by omega)).2 (.inl h1)
theorem cmp3_zero {t : Int} (ht : 1 ≤ t ∧ t ≤ 4) {x y : Val3} (hx : x.1 = t ∧ MayV x.1 x.2.1 x.2.2.size) (hy : y.1 = t ∧ MayV y.1 y.2.1 y.2.2.size) : cmp3 x y = 0 ↔ x = y := by
  obtain ⟨t1, i1, s1⟩ := x
  obtain ⟨t2, i2, s2⟩ := y
  obtain ⟨e1, m1⟩ := hx
  obtain ⟨e2, m2⟩ := hy
  dsimp only at e1 e2 m1 m2
  subst e1
  subst e2
  unfold cmp3
  rw [cmpV_ok ht m1 m2]
  constructor
  · intro h; cases h; rfl
  · intro h; cases h; rfl

/-- A value laid into a rising list, where it is not there yet. -/
def insV (x : Val3) : List Val3 → List Val3
  | [] => [x]
  | y :: r => if cmp3 y x < 0 then y :: insV x r else if cmp3 y x = 0 then y :: r else x :: y :: r
def wordsF (d : List Val3) (l : List Val3) : List Val3 := l.foldl (fun d x => insV x d) d
/-- The unlike values, rising. -/
def wordsOf (l : List Val3) : List Val3 := wordsF [] l
theorem wordsF_snoc (d l : List Val3) (x : Val3) : wordsF d (l ++ [x]) = insV x (wordsF d l) := by unfold wordsF; rw [List.foldl_append]; rfl
def Asc (d : List Val3) : Prop := d.Pairwise fun x y => cmp3 x y < 0
theorem insV_mem {t : Int} (ht : 1 ≤ t ∧ t ≤ 4) {x : Val3} (hx : x.1 = t ∧ MayV x.1 x.2.1 x.2.2.size) : ∀ {d : List Val3}, OkL t d → ∀ z, z ∈ insV x d ↔ (z = x ∨ z ∈ d)
  | [], _, z => by unfold insV; simp
  | y :: r, ok, z => by
    unfold insV
    split
    · rw [List.mem_cons, insV_mem ht hx (fun q hq => ok q (List.mem_cons_of_mem _ hq)) z, List.mem_cons]
      constructor
      · rintro (h | h | h)
        · exact .inr (.inl h)
        · exact .inl h
        · exact .inr (.inr h)
      · rintro (h | h | h)
        · exact .inr (.inl h)
        · exact .inl h
        · exact .inr (.inr h)
    · split
      · rename_i h0
        have e : y = x := (cmp3_zero ht (ok y (List.mem_cons_self ..)) hx).1 h0
        subst e
        rw [List.mem_cons]
        constructor
        · exact .inr
        · rintro (h | h)
          · exact .inl h
          · exact h
      · rw [List.mem_cons]
theorem insV_ok {t : Int} (ht : 1 ≤ t ∧ t ≤ 4) {x : Val3} (hx : x.1 = t ∧ MayV x.1 x.2.1 x.2.2.size) {d : List Val3} (ok : OkL t d) : OkL t (insV x d) := by
  intro z hz
  rcases (insV_mem ht hx ok z).1 hz with rfl | h
  · exact hx
  · exact ok z h
theorem insV_asc {t : Int} (ht : 1 ≤ t ∧ t ≤ 4) {x : Val3} (hx : x.1 = t ∧ MayV x.1 x.2.1 x.2.2.size) : ∀ {d : List Val3}, OkL t d → Asc d → Asc (insV x d)
  | [], _, _ => by unfold insV Asc; simp
  | y :: r, ok, ha => by
    obtain ⟨h1, h2⟩ := List.pairwise_cons.1 ha
    have okr : OkL t r := fun q hq => ok q (List.mem_cons_of_mem _ hq)
    unfold insV
    split
    · rename_i hlt
      refine List.pairwise_cons.2 ⟨fun z hz => ?_, insV_asc ht hx okr h2⟩
      rcases (insV_mem ht hx okr z).1 hz with rfl | h
      · exact hlt
      · exact h1 z h
    · split
      · exact ha
      · rename_i hn hz
        have hxy : cmp3 x y < 0 := by have := cmp3_turn y x; omega
        refine List.pairwise_cons.2 ⟨fun z hz => ?_, ha⟩
        rcases List.mem_cons.1 hz with rfl | h
        · exact hxy
        · exact cmp3_lt_trans hxy (h1 z h)
theorem wordsF_facts {t : Int} (ht : 1 ≤ t ∧ t ≤ 4) : ∀ (l d : List Val3), OkL t l → OkL t d → Asc d → Asc (wordsF d l) ∧ OkL t (wordsF d l) ∧ ∀ z, z ∈ wordsF d l ↔ (z ∈ d ∨ z ∈ l)
  | [], d, _, od, ad => ⟨ad, od, fun z => by show z ∈ d ↔ _; simp⟩
  | x :: r, d, ol, od, ad => by
    have hx := ol x (List.mem_cons_self ..)
    have hr : OkL t r := fun q hq => ol q (List.mem_cons_of_mem _ hq)
    obtain ⟨h1, h2, h3⟩ := wordsF_facts ht r (insV x d) hr (insV_ok ht hx od) (insV_asc ht hx od ad)
    refine ⟨h1, h2, fun z => ?_⟩
    show z ∈ wordsF (insV x d) r ↔ _
    rw [h3 z, insV_mem ht hx od z, List.mem_cons]
    constructor
    · rintro ((h | h) | h)
      · exact .inr (.inl h)
      · exact .inl h
      · exact .inr (.inr h)
    · rintro (h | h | h)
      · exact .inl (.inr h)
      · exact .inl (.inl h)
      · exact .inr h
theorem words_asc {t : Int} (ht : 1 ≤ t ∧ t ≤ 4) {l : List Val3} (ol : OkL t l) : Asc (wordsOf l) := (wordsF_facts ht l [] ol (fun x hx => by cases hx) List.Pairwise.nil).1
theorem words_ok {t : Int} (ht : 1 ≤ t ∧ t ≤ 4) {l : List Val3} (ol : OkL t l) : OkL t (wordsOf l) := (wordsF_facts ht l [] ol (fun x hx => by cases hx) List.Pairwise.nil).2.1
theorem words_mem {t : Int} (ht : 1 ≤ t ∧ t ≤ 4) {l : List Val3} (ol : OkL t l) (z : Val3) : z ∈ wordsOf l ↔ z ∈ l := by
  have := (wordsF_facts ht l [] ol (fun x hx => by cases hx) List.Pairwise.nil).2.2 z
  unfold wordsOf
  simpa using this
theorem insV_len (x : Val3) : ∀ d, (insV x d).length ≤ d.length + 1
  | [] => by simp [insV]
  | y :: r => by
    unfold insV
    have := insV_len x r
    split
    · simp; omega
    · split <;> simp
theorem wordsF_len : ∀ (l d : List Val3), (wordsF d l).length ≤ d.length + l.length
  | [], d => by show d.length ≤ _; simp
  | x :: r, d => by
    have h1 := wordsF_len r (insV x d)
    have h2 := insV_len x d
    show (wordsF (insV x d) r).length ≤ _
    rw [List.length_cons]; omega
theorem words_len (l : List Val3) : (wordsOf l).length ≤ l.length := by have := wordsF_len l []; simpa [wordsOf] using this
theorem words_pos {t : Int} (ht : 1 ≤ t ∧ t ≤ 4) {l : List Val3} (ol : OkL t l) (h : 0 < l.length) : 0 < (wordsOf l).length := by
  match l, h with
  | x :: r, _ =>
    have := (words_mem ht ol x).2 (List.mem_cons_self ..)
    exact List.length_pos_of_mem this
/-- Just one rising list has these values. -/
theorem asc_unique : ∀ {d e : List Val3}, Asc d → Asc e → (∀ z, z ∈ d ↔ z ∈ e) → d = e
  | [], [], _, _, _ => rfl
  | [], y :: r, _, _, h => by have := (h y).2 (List.mem_cons_self ..); cases this
  | x :: r, [], _, _, h => by have := (h x).1 (List.mem_cons_self ..); cases this
  | x :: r, y :: q, hd, he, h => by
    obtain ⟨d1, d2⟩ := List.pairwise_cons.1 hd
    obtain ⟨e1, e2⟩ := List.pairwise_cons.1 he
    have hxy : x = y := by
      rcases List.mem_cons.1 ((h x).1 (List.mem_cons_self ..)) with h1 | h1
      · exact h1
      · rcases List.mem_cons.1 ((h y).2 (List.mem_cons_self ..)) with h2 | h2
        · exact h2.symm
        · have a := e1 x h1
          have b := d1 y h2
          have := cmp3_turn x y
          omega
    subst hxy
    have : r = q := asc_unique d2 e2 fun z => by
      constructor
      · intro hz
        rcases List.mem_cons.1 ((h z).1 (List.mem_cons_of_mem _ hz)) with h1 | h1
        · subst h1; have := d1 z hz; rw [cmp3_self] at this; omega
        · exact h1
      · intro hz
        rcases List.mem_cons.1 ((h z).2 (List.mem_cons_of_mem _ hz)) with h1 | h1
        · subst h1; have := e1 z hz; rw [cmp3_self] at this; omega
        · exact h1
    rw [this]

/-- A value's place among rising ones. -/
def placeOf (d : List Val3) (v : Val3) : Nat := d.countP fun y => decide (cmp3 y v < 0)
theorem placeOf_get : ∀ {d : List Val3}, Asc d → ∀ (k : Nat) (h : k < d.length), placeOf d d[k] = k
  | x :: r, ha, 0, _ => by
    obtain ⟨h1, h2⟩ := List.pairwise_cons.1 ha
    unfold placeOf
    rw [List.getElem_cons_zero, List.countP_cons_of_neg (by rw [cmp3_self]; decide)]
    rw [List.countP_eq_zero]
    intro z hz
    have a := h1 z hz
    have := cmp3_turn x z
    simp only [decide_eq_true_eq]
    omega
  | x :: r, ha, k + 1, h => by
    obtain ⟨h1, h2⟩ := List.pairwise_cons.1 ha
    have ih := placeOf_get h2 k (by simpa using h)
    unfold placeOf at ih ⊢
    rw [List.getElem_cons_succ, List.countP_cons_of_pos (by
      have := h1 _ (List.getElem_mem (by simpa using h : k < r.length))
      simpa using this), ih]
theorem placeOf_mem {d : List Val3} (ha : Asc d) {v : Val3} (hv : v ∈ d) : ∃ h : placeOf d v < d.length, d[placeOf d v] = v := by
  obtain ⟨k, hk, rfl⟩ := List.getElem_of_mem hv
  have e := placeOf_get ha k hk
  refine ⟨by rw [e]; exact hk, ?_⟩
  congr 1
def places (d l : List Val3) : List Nat := l.map (placeOf d)
theorem places_len (d l : List Val3) : (places d l).length = l.length := List.length_map _
/-- How many bits a place among n has. -/
def widD (n : Nat) : Nat := if n = 0 then 0 else wid (n - 1)
theorem widD_le {n : Nat} (h : n ≤ 1000000) : widD n ≤ 64 := by
  unfold widD
  split
  · omega
  · exact wid_le64 (by omega)
theorem places_wid {t : Int} (ht : 1 ≤ t ∧ t ≤ 4) {l : List Val3} (ol : OkL t l) : widL (places (wordsOf l) l) ≤ widD (wordsOf l).length := by
  rw [widL_le]
  intro x hx
  obtain ⟨v, hv, rfl⟩ := List.mem_map.1 hx
  obtain ⟨h, _⟩ := placeOf_mem (words_asc ht ol) ((words_mem ht ol v).2 hv)
  unfold widD
  rw [if_neg (by omega)]
  exact (wid_le _ _).1 (Nat.le_trans (by
    rw [wid_le]
    have h2 := (wid_le ((wordsOf l).length - 1) _).1 (Nat.le_refl (wid ((wordsOf l).length - 1)))
    omega) (Nat.le_refl _))
def dictB (l : List Val3) : List Nat := putNum (wordsOf l).length ++ (plainB (wordsOf l) ++ putBits (places (wordsOf l) l) (widD (wordsOf l).length))
def readT (t : Int) (n : Nat) (b : List Nat) : Option (List Val3) :=
  match takeNum b with
  | none => none
  | some (u, k) => if u ≤ n then
      match readQ t u (b.drop k) with
      | none => none
      | some (d, r) => match takeBits r n (widD d.length) with
        | none => none
        | some ps => if ∀ p ∈ ps, p < d.length then some (ps.map fun p => d.getD p (0, 0, ⟨#[]⟩)) else none
    else none
def putT (t : Int) (l : List Val3) : Option (List Nat) := if (1 ≤ t ∧ t ≤ 4) ∧ OkL t l then some (dictB l) else none
def takeT (t n : Int) (b : List Nat) : Option (List Val3) :=
  if (1 ≤ t ∧ t ≤ 4) ∧ 0 ≤ n ∧ n ≤ 1000 then
    match readT t n.toNat b with
    | none => none
    | some l => if putT t l = some b then some l else none
  else none
theorem putT_some {t : Int} {l : List Val3} (ht : 1 ≤ t ∧ t ≤ 4) (ho : OkL t l) : ∃ b, putT t l = some b := ⟨dictB l, by unfold putT; rw [if_pos ⟨ht, ho⟩]⟩
theorem putT_is {t : Int} {l : List Val3} {b : List Nat} (h : putT t l = some b) : (1 ≤ t ∧ t ≤ 4) ∧ OkL t l ∧ b = dictB l := by
  unfold putT at h
  split at h
  · rename_i hc; cases h; exact ⟨hc.1, hc.2, rfl⟩
  · cases h
theorem words_64 {t : Int} (ht : 1 ≤ t ∧ t ≤ 4) {l : List Val3} (ol : OkL t l) (h64 : All64 l) : All64 (wordsOf l) := fun x hx => h64 x ((words_mem ht ol x).1 hx)
theorem dictB_lt {t : Int} (ht : 1 ≤ t ∧ t ≤ 4) {l : List Val3} (ol : OkL t l) (h64 : All64 l) (hl : l.length ≤ 1000) : ∀ x ∈ dictB l, x < 256 := by
  intro x hx
  have hw := words_len l
  rcases List.mem_append.1 hx with hx | hx
  · exact putNum_lt (by omega) x hx
  · rcases List.mem_append.1 hx with hx | hx
    · exact plainB_lt (words_ok ht ol) (words_64 ht ol h64) x hx
    · exact putBits_lt _ _ x hx
theorem putT_lt {t : Int} {l : List Val3} {b : List Nat} (hl : l.length ≤ 1000) (h64 : All64 l) (h : putT t l = some b) : ∀ x ∈ b, x < 256 := by
  obtain ⟨h1, h2, rfl⟩ := putT_is h; exact dictB_lt h1 h2 h64 hl
theorem putT_le {t : Int} {l : List Val3} {b : List Nat} (hl : l.length ≤ 1000) (h : putT t l = some b) : b.length ≤ l.length * 30 + 10 := by
  obtain ⟨h1, h2, rfl⟩ := putT_is h
  have hw := words_len l
  have a1 := putNum_le (wordsOf l).length
  have a2 := plainB_le (words_ok h1 h2)
  have a3 := widD_le (n := (wordsOf l).length) (by omega)
  have a4 : l.length * widD (wordsOf l).length ≤ l.length * 64 := Nat.mul_le_mul_left _ a3
  unfold dictB
  rw [List.length_append, List.length_append, putBits_len, places_len]
  omega
theorem readQ_put {t : Int} (ht : 1 ≤ t ∧ t ≤ 4) : ∀ (l : List Val3) (r : List Nat), OkL t l → All64 l → readQ t l.length (plainB l ++ r) = some (l, r)
  | [], r, _, _ => rfl
  | x :: q, r, h, h64 => by
    obtain ⟨t', i, s⟩ := x
    obtain ⟨rfl, hm⟩ := h _ (List.mem_cons_self ..)
    have ih := readQ_put ht q r (fun y hy => h y (List.mem_cons_of_mem _ hy)) (fun y hy => h64 y (List.mem_cons_of_mem _ hy))
    rw [List.length_cons, plainB_cons, List.append_assoc, readQ_some (takeC_put ht hm (h64 _ (List.mem_cons_self ..)) _), List.drop_left, ih, bstr_nums]
    rfl
theorem places_back {t : Int} (ht : 1 ≤ t ∧ t ≤ 4) {l : List Val3} (ol : OkL t l) : (∀ p ∈ places (wordsOf l) l, p < (wordsOf l).length) ∧ ((places (wordsOf l) l).map fun p => (wordsOf l).getD p (0, 0, ⟨#[]⟩)) = l := by
  have key := fun v (hv : v ∈ l) => placeOf_mem (words_asc ht ol) ((words_mem ht ol v).2 hv)
  constructor
  · intro p hp
    obtain ⟨v, hv, rfl⟩ := List.mem_map.1 hp
    exact (key v hv).1
  · unfold places
    rw [List.map_map]
    conv => rhs; rw [← List.map_id l]
    refine List.map_congr_left fun v hv => ?_
    obtain ⟨h1, h2⟩ := key v hv
    show (wordsOf l).getD (placeOf (wordsOf l) v) _ = v
    rw [List.getD_eq_getElem?_getD, List.getElem?_eq_getElem h1, h2]
    rfl
theorem readT_put {t : Int} (ht : 1 ≤ t ∧ t ≤ 4) {l : List Val3} (ol : OkL t l) (h64 : All64 l) (hl : l.length ≤ 1000) : readT t l.length (dictB l) = some l := by
  have hw := words_len l
  have hb := takeBits_put (places (wordsOf l) l) (widD (wordsOf l).length) (by rw [places_len]; exact hl) (widD_le (by omega)) (places_wid ht ol)
  rw [places_len] at hb
  obtain ⟨p1, p2⟩ := places_back ht ol
  unfold readT dictB
  rw [takeNum_put (by omega)]
  simp only [List.drop_left]
  rw [if_pos hw, readQ_put ht _ _ (words_ok ht ol) (words_64 ht ol h64)]
  simp only
  rw [hb]
  simp only
  rw [if_pos p1, p2]
theorem readT_is {t : Int} (ht : 1 ≤ t ∧ t ≤ 4) {n : Nat} {b : List Nat} (h256 : ∀ x ∈ b, x < 256) {l : List Val3} (h : readT t n b = some l) : l.length = n ∧ All64 l ∧ n ≤ 1000 := by
  unfold readT at h
  split at h
  · cases h
  · rename_i u k hT
    split at h
    · split at h
      · cases h
      · rename_i d r hq
        split at h
        · cases h
        · rename_i ps hb
          split at h
          · rename_i hp
            cases h
            obtain ⟨h1, h2, h3⟩ := takeBits_len hb
            obtain ⟨_, g2, _, _⟩ := readQ_is ht _ _ (fun x hx => h256 x (List.mem_of_mem_drop hx)) _ _ hq
            refine ⟨by rw [List.length_map, h1], fun x hx => ?_, h2⟩
            obtain ⟨p, hp', rfl⟩ := List.mem_map.1 hx
            have := hp p hp'
            rw [List.getD_eq_getElem?_getD, List.getElem?_eq_getElem this]
            exact g2 _ (List.getElem_mem this)
          · cases h
    · cases h
theorem takeT_put {t : Int} {l : List Val3} (h64 : All64 l) (hl : l.length ≤ 1000) {b : List Nat} (h : putT t l = some b) : takeT t l.length b = some l := by
  obtain ⟨ht, ho, rfl⟩ := putT_is h
  unfold takeT
  rw [if_pos ⟨ht, by omega, by omega⟩, show ((l.length : Nat) : Int).toNat = l.length from rfl, readT_put ht ho h64 hl]
  simp only
  rw [if_pos h]
theorem takeT_read {t n : Int} {b : List Nat} {l : List Val3} (h : takeT t n b = some l) : readT t n.toNat b = some l ∧ putT t l = some b ∧ (1 ≤ t ∧ t ≤ 4) ∧ 0 ≤ n ∧ n ≤ 1000 := by
  unfold takeT at h
  split at h
  · rename_i hc
    split at h
    · cases h
    · rename_i l' hr
      split at h
      · rename_i hp
        cases h; exact ⟨hr, hp, hc⟩
      · cases h
  · cases h
theorem takeT_is {t n : Int} {b : List Nat} (h256 : ∀ x ∈ b, x < 256) {l : List Val3} (h : takeT t n b = some l) : putT t l = some b ∧ All64 l ∧ (l.length : Int) = n ∧ n ≤ 1000 := by
  obtain ⟨h1, h2, h3, h4, h5⟩ := takeT_read h
  obtain ⟨g1, g2, g3⟩ := readT_is h3 h256 h1
  exact ⟨h2, g2, by omega, h5⟩
theorem takeT_len {t n : Int} {b : List Nat} {l : List Val3} (h256 : ∀ x ∈ b, x < 256) (h : takeT t n b = some l) : l.length ≤ 1000 := by
  obtain ⟨_, _, h1, h2⟩ := takeT_is h256 h; omega
theorem dictB_prefix {t : Int} (ht : 1 ≤ t ∧ t ≤ 4) {l m : List Val3} (ol : OkL t l) (om : OkL t m) (al : All64 l) (am : All64 m) (hl : l.length ≤ 1000) (hlm : l.length = m.length) {c : List Nat} (h : dictB m = dictB l ++ c) : c = [] := by
  have w1 := words_len l
  have w2 := words_len m
  unfold dictB at h
  rw [List.append_assoc] at h
  have e1 := takeNum_put (v := (wordsOf m).length) (by omega) (plainB (wordsOf m) ++ putBits (places (wordsOf m) m) (widD (wordsOf m).length))
  have e2 := takeNum_put (v := (wordsOf l).length) (by omega) ((plainB (wordsOf l) ++ putBits (places (wordsOf l) l) (widD (wordsOf l).length)) ++ c)
  rw [h, e2] at e1
  have e3 : (wordsOf l).length = (wordsOf m).length := by injection e1 with e; injection e
  rw [e3] at h
  have h := List.append_cancel_left h
  have q1 := readQ_put ht (wordsOf m) (putBits (places (wordsOf m) m) (widD (wordsOf m).length)) (words_ok ht om) (words_64 ht om am)
  have q2 := readQ_put ht (wordsOf l) (putBits (places (wordsOf l) l) (widD (wordsOf m).length) ++ c) (words_ok ht ol) (words_64 ht ol al)
  rw [e3] at q2
  rw [h, List.append_assoc, q2] at q1
  injection q1 with q1
  injection q1 with _ q1
  have := congrArg List.length q1
  rw [List.length_append, putBits_len, putBits_len, places_len, places_len, hlm] at this
  exact List.eq_nil_of_length_eq_zero (by omega)
theorem takeT_none {t : Int} {l : List Val3} (hl : l.length ≤ 1000) (h64 : All64 l) {b c d : List Nat} (h256 : ∀ x ∈ b ++ c, x < 256) (hc : c ≠ []) (h : (putT t l = some b ∧ d = b ++ c) ∨ (putT t l = some (b ++ c) ∧ d = b)) : takeT t l.length d = none := by
  cases hd : takeT t l.length d with
  | none => rfl
  | some m =>
    exfalso
    have hd256 : ∀ x ∈ d, x < 256 := by
      rcases h with ⟨_, rfl⟩ | ⟨_, rfl⟩
      · exact h256
      · exact fun x hx => h256 x (List.mem_append_left _ hx)
    obtain ⟨h1, h2, h3, _⟩ := takeT_is hd256 hd
    obtain ⟨ht, om, e1⟩ := putT_is h1
    rcases h with ⟨h, rfl⟩ | ⟨h, rfl⟩
    · obtain ⟨_, ol, e2⟩ := putT_is h
      exact hc (dictB_prefix ht ol om h64 h2 hl (by omega) (by rw [← e1, ← e2]))
    · obtain ⟨_, ol, e2⟩ := putT_is h
      exact hc (dictB_prefix ht om ol h2 h64 (by omega) (by omega) (by rw [← e1, ← e2]))
theorem takeT_more {t : Int} {l : List Val3} (hl : l.length ≤ 1000) (h64 : All64 l) {b : List Nat} (h : putT t l = some b) {x : Nat} (hx : x < 256) : takeT t l.length (b ++ [x]) = none :=
  takeT_none hl h64 (b := b) (c := [x]) (fun y hy => by
    rcases List.mem_append.1 hy with hy | hy
    · exact putT_lt hl h64 h y hy
    · rw [List.mem_singleton] at hy; omega) (by simp) (.inl ⟨h, rfl⟩)
theorem takeT_cut {t : Int} {l : List Val3} (hl : l.length ≤ 1000) (h64 : All64 l) {b : List Nat} (h : putT t l = some b) {q : Nat} (hq : q < b.length) : takeT t l.length (b.take q) = none :=
  takeT_none hl h64 (b := b.take q) (c := b.drop q) (fun y hy => by rw [List.take_append_drop] at hy; exact putT_lt hl h64 h y hy) (fun e => by have := congrArg List.length e; rw [List.length_drop] at this; simp at this; omega) (.inr ⟨by rw [List.take_append_drop]; exact h, rfl⟩)
end Go.Proofs.YtiacemlloaenoaaDoor

/- Slices of values that came in. -/

namespace Go.Proofs.YtiacemlloaenoaaDoor
open Go.RowKit
set_option linter.unusedVariables false

/-- A slice of values that came in. -/
def IsVals (w : World) (a : Option Addr) (len cap : Nat) (l : List Val3) : Prop :=
  l.length = len ∧ Has w a (fl l) ∧ All64 l ∧ (a = none → cap = 0) ∧ len ≤ cap ∧ cap ≤ maxLen
theorem fl_has {w : World} {b off : Nat} : ∀ (m : Nat) (q : Nat → Val3), (∀ i, i < m → w.cell? ⟨b, off + i * 3, none⟩ = some (.int .i64 (q i).1) ∧ w.cell? ⟨b, off + i * 3 + 1, none⟩ = some (.int .i64 (q i).2.1) ∧ w.cell? ⟨b, off + i * 3 + 2, none⟩ = some (.string (q i).2.2)) →
    ∀ k v, (fl ((List.range m).map q))[k]? = some v → w.cell? ⟨b, off + k, none⟩ = some v := by
  intro m q h k v hv
  have hk : k < m * 3 := by
    have := (List.getElem?_eq_some_iff.1 hv).1
    rw [fl_length, List.length_map, List.length_range] at this
    exact this
  have hi : k / 3 < m := by omega
  have hq : ((List.range m).map q)[k / 3]'(by simpa using hi) = q (k / 3) := by simp
  obtain ⟨g0, g1, g2⟩ := fl_get ((List.range m).map q) (k / 3) (by simpa using hi)
  rw [hq] at g0 g1 g2
  obtain ⟨c0, c1, c2⟩ := h (k / 3) hi
  obtain h3 | h3 | h3 : k = k / 3 * 3 ∨ k = k / 3 * 3 + 1 ∨ k = k / 3 * 3 + 2 := by omega
  · rw [h3] at hv ⊢
    rw [g0] at hv; rw [← hv]; exact c0
  · rw [h3] at hv ⊢
    rw [g1] at hv; rw [← hv, ← Nat.add_assoc]; exact c1
  · rw [h3] at hv ⊢
    rw [g2] at hv; rw [← hv, ← Nat.add_assoc]; exact c2
theorem open_vals {P : Program} {H : Type} {enc : TypeId × Value → H} {w : World} {t e : TypeId} {f0 f1 f2 : Field} {fuel : Nat} {a : Option Addr} {len cap : Nat} {x : DataW H × List MemPlace} (ht : P.underlying t = some (.slice e)) (he : P.underlying e = some (.struct #[f0, f1, f2])) (ce : P.cellsOf e = 3)
    (o0 : f0.offset = 0) (o1 : f1.offset = 1) (o2 : f2.offset = 2) (c0 : P.cellsOf f0.type = 1) (c1 : P.cellsOf f1.type = 1) (c2 : P.cellsOf f2.type = 1)
    (u0 : P.underlying f0.type = some (.int .i64)) (u1 : P.underlying f1.type = some (.int .i64)) (u2 : P.underlying f2.type = some .string)
    (h : DataW.trod enc P w 0 (fun _ => true) true fuel t (Value.slice a len cap).cells.toList = some x) : ∃ l, IsVals w a len cap l := by
  rcases Deep.open_slice ht h with ⟨hcs, _⟩ | ⟨a', len', cap', m, n, D, Pl, hcs, _, hl, hm, hmm, _, hx⟩
  · simp [Value.cells] at hcs
    obtain ⟨rfl, rfl, rfl⟩ := hcs
    exact ⟨[], rfl, .inl rfl, (fun x hx => by cases hx), fun _ => rfl, Nat.le_refl _, by decide⟩
  · simp [Value.cells] at hcs
    obtain ⟨rfl, rfl, rfl⟩ := hcs
    simp only [if_true] at hmm
    subst hmm
    have each : ∀ i, i < m → ∃ q : Val3, w.cell? (a'.add (i * 3)) = some (.int .i64 q.1) ∧ w.cell? (a'.add (i * 3 + 1)) = some (.int .i64 q.2.1) ∧ w.cell? (a'.add (i * 3 + 2)) = some (.string q.2.2) ∧ In64 q.2.1 := by
      intro i hi
      obtain ⟨cs', h1, h2⟩ := hx i hi
      rw [ce] at h1
      obtain ⟨_, hlen, hcell⟩ := World.cells?_some h1
      obtain ⟨xs, k, hk, hxy, _, hxl, hf⟩ := DataW.trod_struct he h2
      match xs, hxl, cs', hlen with
      | [y0, y1, y2], _, [v0, v1, v2], _ =>
        have g0 := hf 0 f0 rfl
        have g1 := hf 1 f1 rfl
        have g2 := hf 2 f2 rfl
        simp [o0, o1, o2, c0, c1, c2] at g0 g1 g2
        obtain ⟨z0, hz0, _, hw0⟩ := DataW.trod_int u0 g0
        obtain ⟨z1, hz1, _, hw1⟩ := DataW.trod_int u1 g1
        obtain ⟨z2, hz2, _, _⟩ := DataW.trod_string u2 g2
        have e0 := hcell 0 (by omega)
        have e1 := hcell 1 (by omega)
        have e2 := hcell 2 (by omega)
        rw [Deep.add_add] at e0 e1 e2
        have v0e : v0 = .int .i64 z0 := by simpa using hz0
        have v1e : v1 = .int .i64 z1 := by simpa using hz1
        have v2e : v2 = .string z2 := by simpa using hz2
        refine ⟨(z0, z1, z2), ?_, ?_, ?_, wf_i64 z1 hw1⟩
        · simpa [v0e] using e0
        · simpa [v1e] using e1
        · simpa [v2e] using e2
    obtain ⟨q, hq⟩ := Deep.choose_lt each
    refine ⟨(List.range len).map q, by simp, ?_, ?_, (fun h => by cases h), hl, hm⟩
    · by_cases h0 : len = 0
      · subst h0; exact .inl rfl
      · obtain ⟨b, off, spot⟩ := a'
        have hspot : spot = none := by simpa [Addr.add] using World.cell?_spot (hq 0 (by omega)).1
        subst hspot
        refine .inr ⟨b, off, rfl, block_lt_of_cell (hq 0 (by omega)).1, ?_⟩
        refine fl_has len q fun i hi => ?_
        obtain ⟨q0, q1, q2, _⟩ := hq i (by omega)
        rw [add_plain] at q0 q1 q2
        exact ⟨q0, by rw [Nat.add_assoc]; exact q1, by rw [Nat.add_assoc]; exact q2⟩
    · intro x hx
      obtain ⟨i, hi, rfl⟩ := List.mem_map.1 hx
      exact (hq i (by have := List.mem_range.1 hi; omega)).2.2.2
end Go.Proofs.YtiacemlloaenoaaDoor
