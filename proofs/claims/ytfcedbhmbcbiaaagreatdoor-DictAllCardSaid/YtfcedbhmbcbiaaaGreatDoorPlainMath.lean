
import Derived.Test.YtfcedbhmbcbiaaaGreatDoorValA
import Derived.Stop.IfaceNil
import Derived.Test.YtfcedbhmbcbiaaaGreatDoorBase
import Derived.Test.YtfcedbhmbcbiaaaGreatDoorNumMath
import Derived.Lib.AppendStr
/- value.May, in a seat that reaches neither value.width nor value.Fits (there: XValB, which has it too; never import both). -/

namespace Go.Proofs.YtfcedbhmbcbiaaaGreatDoor
open Go.RowKit
set_option linter.unusedVariables false

/-- A call that says whether p, and leaves what was there. -/
def SaysP (p : Prop) (w : World) (e : Ending) (w' : World) : Prop := ∃ r : Bool, (r = true ↔ p) ∧ e = .returned (.bool r) ∧ Below w.heap.size w w'
theorem SaysP.yes {p : Prop} {w w' : World} (h : p) (hb : Below w.heap.size w w') : SaysP p w (.returned (.bool true)) w' := ⟨true, by simp [h], rfl, hb⟩
theorem SaysP.no {p : Prop} {w w' : World} (h : ¬ p) (hb : Below w.heap.size w w') : SaysP p w (.returned (.bool false)) w' := ⟨false, by simp [h], rfl, hb⟩

set_option maxRecDepth 100000 in
theorem may_any (t i : Int) (s : ByteArray) (a0 a2 a3 a4 : Addr) (w : World) (hs : Sents w w.heap.size a0 a2 a3 a4) :
    Calls Tryz.prog 54 #[.agg #[.int .i64 t, .int .i64 i, .string s]] w (SaysP (MayV t i s.size) w) := by
  obtain ⟨w1, hw1⟩ : ∃ w1 : World, w.alloc (.cells #[.int .i64 t, .int .i64 i, .string s] 26) = w1 := ⟨_, rfl⟩
  have b1 : Below w.heap.size w w1 := hw1 ▸ (Below.refl _ _).alloc (Nat.le_refl _) _
  have HC := Lib.hid (check_any t i s a0 a2 a3 a4 w1 ((hs.below b1).more b1.size))
  have HB := Lib.hid b1
  have HW := Lib.hid hw1
  clear hs hw1 b1
  go_enter Tryz.func54, Tryz.ntmps54
  go_wp2_with fail
  rw [HW.out]
  refine HC.out.mono ?_
  rintro e w2 ⟨h, b2⟩
  have HB2 := Lib.hid (HB.out.trans (b2.mono HB.out.size))
  clear b2
  rcases h with ⟨hm, rfl⟩ | ⟨hm, p, rfl⟩
  · have HM := Lib.hid hm
    clear hm
    go_wp2_with fail
    go_ret
    exact SaysP.yes HM.out HB2.out
  · have HM := Lib.hid hm
    have hif : Tryz.prog.isIface 47 = true := by kernel_rfl
    have heq := run_eql_iface_nil (P := Tryz.prog) (w := w2) 47 hif 96 (.pointer (some p))
    clear hm
    go_wp2_with fail
    go_ret
    exact SaysP.no HM.out HB2.out
end Go.Proofs.YtfcedbhmbcbiaaaGreatDoor

/- Slices of api.Value: three cells an element. -/

namespace Go.Proofs.YtfcedbhmbcbiaaaGreatDoor
open Go.RowKit
set_option linter.unusedVariables false

/-- A value: its type, its number, its text. -/
abbrev Val3 := Int × Int × ByteArray
def fl (l : List Val3) : List Value := l.flatMap fun x => [.int .i64 x.1, .int .i64 x.2.1, .string x.2.2]
theorem fl_append (a b : List Val3) : fl (a ++ b) = fl a ++ fl b := List.flatMap_append
theorem fl_length : ∀ l : List Val3, (fl l).length = l.length * 3
  | [] => rfl
  | x :: r => by
    have := fl_length r
    show ([_, _, _] ++ fl r).length = _
    rw [List.length_append, this, List.length_cons]
    simp; omega
theorem fl_get : ∀ (l : List Val3) (k : Nat) (h : k < l.length), (fl l)[k * 3]? = some (.int .i64 l[k].1) ∧ (fl l)[k * 3 + 1]? = some (.int .i64 l[k].2.1) ∧ (fl l)[k * 3 + 2]? = some (.string l[k].2.2)
  | x :: r, 0, _ => ⟨rfl, rfl, rfl⟩
  | x :: r, k + 1, h => by
    have ih := fl_get r k (by simpa using h)
    rw [show (k + 1) * 3 = k * 3 + 3 by omega, show k * 3 + 3 + 1 = k * 3 + 1 + 3 by omega, show k * 3 + 3 + 2 = k * 3 + 2 + 3 by omega]
    exact ih
theorem fl_take : ∀ (l : List Val3) (k : Nat), fl (l.take k) = (fl l).take (k * 3)
  | [], k => by simp [fl]
  | x :: r, 0 => by simp [fl]
  | x :: r, k + 1 => by
    have ih := fl_take r k
    rw [show (k + 1) * 3 = k * 3 + 1 + 1 + 1 by omega]
    show [_, _, _] ++ fl (r.take k) = _
    rw [ih]; rfl
theorem fl_one (l : List Val3) : ∀ u ∈ fl l, u.oneCell' = true := by
  intro u hu
  obtain ⟨x, _, hx⟩ := List.mem_flatMap.1 hu
  simp only [List.mem_cons, List.not_mem_nil, or_false] at hx
  rcases hx with rfl | rfl | rfl <;> rfl
/-- The element k of a slice of values, in memory. -/
theorem Has.val3 {w : World} {A : Option Addr} {l : List Val3} (h : Has w A (fl l)) (k : Nat) (hk : k < l.length) :
    ∃ b off, A = some ⟨b, off, none⟩ ∧ w.cell? ⟨b, off + k * 3, none⟩ = some (.int .i64 l[k].1) ∧ w.cell? ⟨b, off + k * 3 + 1, none⟩ = some (.int .i64 l[k].2.1) ∧ w.cell? ⟨b, off + k * 3 + 2, none⟩ = some (.string l[k].2.2) := by
  rcases h with h | ⟨b, off, hA, _, hc⟩
  · have h1 := fl_length l
    rw [h] at h1
    simp at h1
    omega
  · obtain ⟨h0, h1, h2⟩ := fl_get l k hk
    exact ⟨b, off, hA, hc _ _ h0, hc _ _ h1, hc _ _ h2⟩
end Go.Proofs.YtfcedbhmbcbiaaaGreatDoor

/- Plain mathematics of columns, one value behind the other. -/

namespace Go.Proofs.YtfcedbhmbcbiaaaGreatDoor
open Go.RowKit
set_option linter.unusedVariables false

/-- A string's bytes. -/
def nums (s : ByteArray) : List Nat := s.data.toList.map UInt8.toNat
theorem nums_length (s : ByteArray) : (nums s).length = s.size := by unfold nums; rw [List.length_map, Array.length_toList]; rfl
theorem nums_lt (s : ByteArray) : ∀ x ∈ nums s, x < 256 := by
  intro x hx
  obtain ⟨b, _, rfl⟩ := List.mem_map.1 hx
  exact b.toNat_lt
theorem strCells_nums (s : ByteArray) : Lib.strCells s = ints .u8 (nums s) := by
  unfold Lib.strCells ints nums; rw [List.map_map]; rfl
theorem bstr_nums (s : ByteArray) : bstr (nums s) = s := by
  have h : (bstr (nums s)).data = s.data := by
    apply Array.ext'
    rw [bstr_toList]
    unfold nums
    rw [List.map_map]
    conv => rhs; rw [← List.map_id s.data.toList]
    exact List.map_congr_left fun x _ => by simp
  cases s; cases hb : bstr (nums _); simp_all
theorem nums_bstr {l : List Nat} (h : ∀ x ∈ l, x < 256) : nums (bstr l) = l := by
  unfold nums
  rw [bstr_toList, List.map_map]
  conv => rhs; rw [← List.map_id l]
  refine List.map_congr_left fun x hx => ?_
  simp [Nat.mod_eq_of_lt (h x hx)]
theorem bstr_size (l : List Nat) : (bstr l).size = l.length := by
  show (bstr l).data.size = _
  rw [← Array.length_toList, bstr_toList, List.length_map]

/-- A value's bytes in a column. -/
def oneB (t i : Int) (s : ByteArray) : List Nat := if t = 4 then s.size :: nums s else if t = 3 then [i.toNat] else putNum (zig i)
def plainB (l : List Val3) : List Nat := l.flatMap fun x => oneB x.1 x.2.1 x.2.2
theorem plainB_cons (x : Val3) (l : List Val3) : plainB (x :: l) = oneB x.1 x.2.1 x.2.2 ++ plainB l := rfl
theorem plainB_append (a b : List Val3) : plainB (a ++ b) = plainB a ++ plainB b := List.flatMap_append
/-- A list of values of type t. -/
def OkL (t : Int) (l : List Val3) : Prop := ∀ x ∈ l, x.1 = t ∧ MayV x.1 x.2.1 x.2.2.size
/-- A value that memory can hold. -/
def In64 (i : Int) : Prop := -9223372036854775808 ≤ i ∧ i ≤ 9223372036854775807

theorem oneB_pos (t i : Int) (s : ByteArray) : 0 < (oneB t i s).length := by
  unfold oneB
  split
  · simp
  · split
    · simp
    · exact putNum_pos _
theorem oneB_le {t i : Int} {s : ByteArray} (hm : MayV t i s.size) : (oneB t i s).length ≤ 21 := by
  unfold oneB
  split
  · rw [List.length_cons, nums_length]
    unfold MayV at hm
    omega
  · split
    · simp
    · have := putNum_le (zig i); omega
theorem plainB_le {t : Int} : ∀ {l : List Val3}, OkL t l → (plainB l).length ≤ l.length * 21
  | [], _ => by simp [plainB]
  | x :: r, h => by
    rw [plainB_cons, List.length_append, List.length_cons]
    have h1 := oneB_le (h x (by simp)).2
    have h2 := plainB_le (l := r) fun y hy => h y (List.mem_cons_of_mem _ hy)
    omega
theorem oneB_lt {t i : Int} {s : ByteArray} (hm : MayV t i s.size) (h64 : In64 i) : ∀ x ∈ oneB t i s, x < 256 := by
  unfold oneB
  split
  · intro x hx
    rcases List.mem_cons.1 hx with rfl | hx
    · unfold MayV at hm; omega
    · exact nums_lt s x hx
  · split
    · intro x hx
      rw [List.mem_singleton] at hx
      subst hx
      unfold MayV at hm; omega
    · exact putNum_lt (zig_lt i h64.1 h64.2)
def All64 (l : List Val3) : Prop := ∀ x ∈ l, In64 x.2.1
theorem plainB_lt {t : Int} {l : List Val3} (h : OkL t l) (h64 : All64 l) : ∀ x ∈ plainB l, x < 256 := by
  intro x hx
  obtain ⟨v, hv, hx⟩ := List.mem_flatMap.1 hx
  exact oneB_lt (h v hv).2 (h64 v hv) x hx

/-- What bytes begin with, read as a value of type t: its number, its text's bytes, how many bytes. -/
def readC (t : Int) (b : List Nat) : Option (Int × List Nat × Nat) :=
  if t = 1 ∨ t = 2 then (match takeNum b with | some (u, n) => some (zag u, [], n) | none => none)
  else match b with
    | [] => none
    | x :: r => if t = 3 then some ((x : Int), [], 1) else if x ≤ r.length then some (0, r.take x, 1 + x) else none
instance (t i : Int) (n : Nat) : Decidable (MayV t i n) := by unfold MayV; infer_instance
def takeC (t : Int) (b : List Nat) : Option (Int × List Nat × Nat) :=
  match readC t b with
  | some (i, s, n) => if MayV t i s.length then some (i, s, n) else none
  | none => none
theorem readC_lt {t : Int} {b : List Nat} (hb : ∀ x ∈ b, x < 256) {i : Int} {s : List Nat} {n : Nat} (h : readC t b = some (i, s, n)) : 1 ≤ n ∧ n ≤ b.length ∧ In64 i ∧ ∀ x ∈ s, x < 256 := by
  unfold readC at h
  split at h
  · split at h
    · rename_i u m hT
      cases h
      obtain ⟨h1, h2, h3⟩ := takeNum_is hb hT
      refine ⟨by rw [h2]; exact putNum_pos _, by rw [h2]; exact h3.length_le, zag_in u h1, (fun x hx => by cases hx)⟩
    · cases h
  · match b, hb, h with
    | x :: r, hb, h =>
      have hx := hb x (by simp)
      simp only at h
      split at h
      · cases h; exact ⟨by omega, by simp, by unfold In64; omega, (fun x hx => by cases hx)⟩
      · split at h
        · cases h
          refine ⟨by omega, by rw [List.length_cons]; omega, by unfold In64; omega, fun y hy => hb y (List.mem_cons_of_mem _ (List.mem_of_mem_take hy))⟩
        · cases h
theorem takeC_read {t : Int} {b : List Nat} {i : Int} {s : List Nat} {n : Nat} (h : takeC t b = some (i, s, n)) : readC t b = some (i, s, n) ∧ MayV t i s.length := by
  unfold takeC at h
  split at h
  · rename_i i' s' n' hr
    split at h
    · rename_i hm
      cases h; exact ⟨hr, hm⟩
    · cases h
  · cases h
/-- What is taken is put as just those bytes. -/
theorem takeC_is {t : Int} (ht : 1 ≤ t ∧ t ≤ 4) {b : List Nat} (hb : ∀ x ∈ b, x < 256) {i : Int} {s : List Nat} {n : Nat} (h : takeC t b = some (i, s, n)) : n = (oneB t i (bstr s)).length ∧ b.take n = oneB t i (bstr s) := by
  obtain ⟨h, hm⟩ := takeC_read h
  have hl := readC_lt hb h
  unfold readC at h
  unfold oneB
  split at h
  · rename_i h12
    rw [if_neg (by omega), if_neg (by omega)]
    split at h
    · rename_i u m hT
      cases h
      obtain ⟨h1, h2, h3⟩ := takeNum_is hb hT
      rw [zig_zag]
      exact ⟨h2, by rw [h2]; exact (List.prefix_iff_eq_take.1 h3).symm⟩
    · cases h
  · rename_i h12
    match b, hb, h, hl with
    | x :: r, hb, h, hl =>
      simp only at h
      by_cases h3 : t = 3
      · rw [if_pos h3] at h
        cases h
        rw [if_neg (by omega), if_pos h3]
        simp
      · rw [if_neg h3] at h
        rw [if_pos (by omega)]
        split at h
        · rename_i hx
          cases h
          have hsz : (bstr (r.take x)).size = x := by rw [bstr_size, List.length_take]; omega
          rw [hsz, nums_bstr hl.2.2.2, Nat.add_comm 1 x, List.take_succ_cons]
          refine ⟨?_, rfl⟩
          rw [List.length_cons, List.length_take]; omega
        · cases h
/-- What was put is taken, whatever stands behind. -/
theorem takeC_put {t i : Int} {s : ByteArray} (ht : 1 ≤ t ∧ t ≤ 4) (hm : MayV t i s.size) (h64 : In64 i) (r : List Nat) : takeC t (oneB t i s ++ r) = some (i, nums s, (oneB t i s).length) := by
  have key : readC t (oneB t i s ++ r) = some (i, nums s, (oneB t i s).length) := by
    unfold readC oneB
    by_cases h12 : t = 1 ∨ t = 2
    · rw [if_pos h12, if_neg (by omega), if_neg (by omega), takeNum_put (zig_lt i h64.1 h64.2)]
      simp only
      rw [zag_zig]
      have : nums s = [] := List.eq_nil_of_length_eq_zero (by rw [nums_length]; unfold MayV at hm; omega)
      rw [this]
    · rw [if_neg h12]
      by_cases h3 : t = 3
      · rw [if_neg (by omega), if_pos h3]
        simp only [List.cons_append, List.nil_append, if_pos h3]
        have : nums s = [] := List.eq_nil_of_length_eq_zero (by rw [nums_length]; unfold MayV at hm; omega)
        rw [this, show ((i.toNat : Nat) : Int) = i by unfold MayV at hm; omega]
        rfl
      · rw [if_pos (by omega)]
        simp only [List.cons_append, if_neg h3]
        have hi : i = 0 := by unfold MayV at hm; omega
        rw [if_pos (by rw [List.length_append, nums_length]; omega), hi, List.length_cons, nums_length, Nat.add_comm 1]
        congr 2
        rw [List.take_append_of_le_length (by rw [nums_length]; omega), List.take_of_length_le (by rw [nums_length]; omega)]
  unfold takeC
  rw [key]
  simp only
  rw [if_pos (by rw [nums_length]; exact hm)]

/-- So many values. -/
def readP (t : Int) : Nat → List Nat → Option (List Val3)
  | 0, [] => some []
  | 0, _ :: _ => none
  | n + 1, b => match takeC t b with
    | some (i, s, k) => (readP t n (b.drop k)).map fun l => (t, i, bstr s) :: l
    | none => none
theorem readP_is {t : Int} (ht : 1 ≤ t ∧ t ≤ 4) : ∀ (n : Nat) (b : List Nat), (∀ x ∈ b, x < 256) → ∀ l, readP t n b = some l → OkL t l ∧ All64 l ∧ l.length = n ∧ plainB l = b
  | 0, [], _, l, h => by cases h; exact ⟨(fun x hx => by cases hx), (fun x hx => by cases hx), rfl, rfl⟩
  | 0, _ :: _, _, l, h => by cases h
  | n + 1, b, hb, l, h => by
    unfold readP at h
    split at h
    · rename_i i s k hT
      obtain ⟨h1, h2⟩ := takeC_is ht hb hT
      obtain ⟨h3, h4⟩ := takeC_read hT
      obtain ⟨_, h5, h6, h7⟩ := readC_lt hb h3
      cases hr : readP t n (b.drop k) with
      | none => rw [hr] at h; cases h
      | some l' =>
        rw [hr] at h
        cases h
        obtain ⟨g1, g2, g3, g4⟩ := readP_is ht n (b.drop k) (fun x hx => hb x (List.mem_of_mem_drop hx)) l' hr
        refine ⟨?_, ?_, by rw [List.length_cons, g3], ?_⟩
        · intro x hx
          rcases List.mem_cons.1 hx with rfl | hx
          · exact ⟨rfl, by rw [bstr_size]; exact h4⟩
          · exact g1 x hx
        · intro x hx
          rcases List.mem_cons.1 hx with rfl | hx
          · exact h6
          · exact g2 x hx
        · rw [plainB_cons, g4]
          show oneB t i (bstr s) ++ b.drop k = b
          rw [← h2, List.take_append_drop]
    · cases h
theorem readP_put {t : Int} (ht : 1 ≤ t ∧ t ≤ 4) : ∀ (l : List Val3), OkL t l → All64 l → readP t l.length (plainB l) = some l
  | [], _, _ => rfl
  | x :: r, h, h64 => by
    obtain ⟨t', i, s⟩ := x
    obtain ⟨rfl, hm⟩ := h _ (List.mem_cons_self ..)
    have ih := readP_put ht r (fun y hy => h y (List.mem_cons_of_mem _ hy)) (fun y hy => h64 y (List.mem_cons_of_mem _ hy))
    rw [List.length_cons, plainB_cons]
    unfold readP
    rw [takeC_put ht hm (h64 _ (List.mem_cons_self ..))]
    simp only
    rw [List.drop_left, ih, bstr_nums]
    rfl
/-- Just one list has these bytes. -/
theorem readP_iff {t : Int} (ht : 1 ≤ t ∧ t ≤ 4) {n : Nat} {b : List Nat} (hb : ∀ x ∈ b, x < 256) {l : List Val3} : readP t n b = some l ↔ OkL t l ∧ All64 l ∧ l.length = n ∧ plainB l = b := by
  constructor
  · exact readP_is ht n b hb l
  · rintro ⟨h1, h2, rfl, rfl⟩
    exact readP_put ht l h1 h2
/-- Bytes behind, or cut off: none. -/
theorem readP_prefix {t : Int} (ht : 1 ≤ t ∧ t ≤ 4) : ∀ (n : Nat) (b c : List Nat) (l m : List Val3), (∀ x ∈ b ++ c, x < 256) → readP t n b = some l → readP t n (b ++ c) = some m → c = []
  | 0, [], [], _, _, _, _, _ => rfl
  | 0, [], _ :: _, _, _, _, _, h => by cases h
  | 0, _ :: _, _, _, _, _, h, _ => by cases h
  | n + 1, b, c, l, m, hb, h1, h2 => by
    obtain ⟨o1, a1, n1, p1⟩ := readP_is ht _ _ (fun x hx => hb x (List.mem_append_left _ hx)) _ h1
    match l, n1 with
    | x :: l', n1 =>
      obtain ⟨t', i, s⟩ := x
      obtain ⟨rfl, hm⟩ := o1 _ (List.mem_cons_self ..)
      have hi := a1 _ (List.mem_cons_self ..)
      rw [plainB_cons] at p1
      unfold readP at h1 h2
      rw [← p1] at h1 h2
      rw [List.append_assoc] at h2
      rw [takeC_put ht hm hi] at h1 h2
      simp only [List.drop_left] at h1 h2
      cases g1 : readP t' n (plainB l') with
      | none => rw [g1] at h1; cases h1
      | some q =>
        cases g2 : readP t' n (plainB l' ++ c) with
        | none => rw [g2] at h2; cases h2
        | some r =>
          refine readP_prefix ht n (plainB l') c q r (fun x hx => hb x ?_) g1 g2
          rw [← p1, List.append_assoc]
          exact List.mem_append_right _ hx
end Go.Proofs.YtfcedbhmbcbiaaaGreatDoor
