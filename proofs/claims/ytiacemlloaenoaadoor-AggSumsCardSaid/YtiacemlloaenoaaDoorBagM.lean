/- How rows stand, exactly; bags; what Columns and Pick make: mathematics. -/
import Derived.Test.YtiacemlloaenoaaDoorPlainMath
import Derived.Test.YtiacemlloaenoaaDoorBatR
namespace Go.Proofs.YtiacemlloaenoaaDoor
open Go.RowKit
set_option linter.unusedVariables false

/-- A comparison of which 0 is the same. -/
structure CmpX {α : Type} (c : α → α → Int) : Prop where
  turn : ∀ x y, c y x = - c x y
  zero : ∀ x y, c x y = 0 → x = y
  trans : ∀ x y z, c x y ≤ 0 → c y z ≤ 0 → c x z ≤ 0
section
variable {α β : Type} {c : α → α → Int} {d : β → β → Int}
theorem CmpX.self (h : CmpX c) (x : α) : c x x = 0 := by have := h.turn x x; omega
theorem CmpX.strict (h : CmpX c) {x y z : α} (h1 : c x y < 0) (h2 : c y z ≤ 0) : c x z < 0 := by
  have h3 := h.trans x y z (by omega) h2
  rcases Int.lt_or_eq_of_le h3 with h4 | h4
  · exact h4
  · have := h.zero _ _ h4
    subst this
    have := h.turn x y
    omega
theorem CmpX.strict2 (h : CmpX c) {x y z : α} (h1 : c x y ≤ 0) (h2 : c y z < 0) : c x z < 0 := by
  have h3 := h.trans x y z h1 (by omega)
  rcases Int.lt_or_eq_of_le h3 with h4 | h4
  · exact h4
  · have := h.zero _ _ h4
    subst this
    have := h.turn x y
    omega
def lexC (c : α → α → Int) (d : β → β → Int) (x y : α × β) : Int := if c x.1 y.1 ≠ 0 then c x.1 y.1 else d x.2 y.2
theorem CmpX.lex (h : CmpX c) (k : CmpX d) : CmpX (lexC c d) where
  turn x y := by
    unfold lexC
    have := h.turn x.1 y.1
    by_cases e : c x.1 y.1 = 0
    · rw [if_neg (by omega), if_neg (by omega)]; exact k.turn _ _
    · rw [if_pos (by omega), if_pos (by omega)]; exact this
  zero x y := by
    unfold lexC
    intro e
    by_cases e1 : c x.1 y.1 = 0
    · rw [if_neg (by omega)] at e
      exact Prod.ext (h.zero _ _ e1) (k.zero _ _ e)
    · rw [if_pos (by omega)] at e; exact absurd e e1
  trans x y z := by
    unfold lexC
    intro h1 h2
    by_cases e1 : c x.1 y.1 = 0
    · by_cases e2 : c y.1 z.1 = 0
      · have a := h.zero _ _ e1
        have b := h.zero _ _ e2
        rw [if_neg (by omega)] at h1 h2
        rw [a, b, h.self, if_neg (by omega)]
        exact k.trans _ _ _ h1 h2
      · rw [if_pos (by omega)] at h2
        have := h.strict2 (show c x.1 y.1 ≤ 0 by omega) (show c y.1 z.1 < 0 by omega)
        rw [if_pos (by omega)]; omega
    · rw [if_pos (by omega)] at h1
      have h3 : c y.1 z.1 ≤ 0 := by
        by_cases e2 : c y.1 z.1 = 0
        · omega
        · rw [if_pos (by omega)] at h2; exact h2
      have := h.strict (show c x.1 y.1 < 0 by omega) h3
      rw [if_pos (by omega)]; omega
def listC (c : α → α → Int) : List α → List α → Int
  | [], [] => 0
  | [], _ :: _ => -1
  | _ :: _, [] => 1
  | x :: a, y :: b => if c x y ≠ 0 then c x y else listC c a b
theorem listC_turn (h : CmpX c) : ∀ a b, listC c b a = - listC c a b
  | [], [] => rfl
  | [], _ :: _ => rfl
  | _ :: _, [] => rfl
  | x :: a, y :: b => by
    unfold listC
    have := h.turn x y
    by_cases e : c x y = 0
    · rw [if_neg (by omega), if_neg (by omega)]; exact listC_turn h a b
    · rw [if_pos (by omega), if_pos (by omega)]; exact this
theorem listC_zero (h : CmpX c) : ∀ a b, listC c a b = 0 → a = b
  | [], [] => fun _ => rfl
  | [], _ :: _ => fun h => by cases h
  | _ :: _, [] => fun h => by cases h
  | x :: a, y :: b => by
    unfold listC
    intro e
    by_cases e1 : c x y = 0
    · rw [if_neg (by omega)] at e
      rw [h.zero _ _ e1, listC_zero h a b e]
    · rw [if_pos (by omega)] at e; exact absurd e e1
theorem listC_trans (h : CmpX c) : ∀ a b z, listC c a b ≤ 0 → listC c b z ≤ 0 → listC c a z ≤ 0
  | [], _, [] => fun _ _ => by unfold listC; omega
  | [], _, _ :: _ => fun _ _ => by unfold listC; omega
  | _ :: _, [], _ => fun h1 _ => by unfold listC at h1; omega
  | _ :: _, _ :: _, [] => fun _ h2 => by unfold listC at h2; omega
  | x :: a, y :: b, z :: r => by
    unfold listC
    intro h1 h2
    by_cases e1 : c x y = 0
    · by_cases e2 : c y z = 0
      · have ea := h.zero _ _ e1
        have eb := h.zero _ _ e2
        rw [if_neg (by omega)] at h1 h2
        rw [ea, eb, h.self, if_neg (by omega)]
        exact listC_trans h a b r h1 h2
      · rw [if_pos (by omega)] at h2
        have := h.strict2 (show c x y ≤ 0 by omega) (show c y z < 0 by omega)
        rw [if_pos (by omega)]; omega
    · rw [if_pos (by omega)] at h1
      have h3 : c y z ≤ 0 := by
        by_cases e2 : c y z = 0
        · omega
        · rw [if_pos (by omega)] at h2; exact h2
      have := h.strict (show c x y < 0 by omega) h3
      rw [if_pos (by omega)]; omega
theorem CmpX.list (h : CmpX c) : CmpX (listC c) := ⟨listC_turn h, listC_zero h, listC_trans h⟩
/-- What is sorted is told by what it is made of. -/
theorem sorted_unique (h : CmpX c) {a b : List α} (ha : a.Pairwise fun x y => c x y ≤ 0) (hb : b.Pairwise fun x y => c x y ≤ 0) (hp : a.Perm b) : a = b :=
  hp.eq_of_pairwise (fun x y _ _ h1 h2 => h.zero x y (by have := h.turn x y; omega)) ha hb
end
theorem cmpI_X : CmpX cmpI where
  turn := cmpI_turn
  zero x y h := by rcases cmpI_in x y with k | k | k <;> omega
  trans x y z h1 h2 := by rcases cmpI_in x y with h | h | h <;> rcases cmpI_in y z with k | k | k <;> rcases cmpI_in x z with l | l | l <;> omega
def cmpB (x y : ByteArray) : Int := cmpS x.data.toList y.data.toList
theorem cmpB_X : CmpX cmpB where
  turn x y := cmpS_turn _ _
  zero x y h := by
    have h1 := cmpS_zero _ _ h
    cases x; cases y
    congr 1
    exact Array.ext' h1
  trans x y z h1 h2 := (cmpS_trans _ _ _ h1 h2).1
/-- How two values stand, exactly. -/
def exV (x y : Val3) : Int := if cmpI x.1 y.1 ≠ 0 then cmpI x.1 y.1 else if cmpI x.2.1 y.2.1 ≠ 0 then cmpI x.2.1 y.2.1 else cmpS x.2.2.data.toList y.2.2.data.toList
theorem exV_X : CmpX exV := cmpI_X.lex (cmpI_X.lex cmpB_X)
def exR : List Val3 → List Val3 → Int := listC exV
theorem exR_X : CmpX exR := exV_X.list
theorem exV_in (x y : Val3) : -1 ≤ exV x y ∧ exV x y ≤ 1 := by
  unfold exV
  split
  · rcases cmpI_in x.1 y.1 with h | h | h <;> omega
  · split
    · rcases cmpI_in x.2.1 y.2.1 with h | h | h <;> omega
    · rcases cmpS_in x.2.2.data.toList y.2.2.data.toList with h | h | h <;> omega

/-- A column of rows; all columns. -/
def colK (L : List (List Val3)) (c : Nat) : List Val3 := L.map fun r => r.getD c (0, 0, ⟨#[]⟩)
def colsT (L : List (List Val3)) (W : Nat) : List (List Val3) := (List.range W).map (colK L)
theorem colK_len (L : List (List Val3)) (c : Nat) : (colK L c).length = L.length := List.length_map _
theorem colsT_len (L : List (List Val3)) (W : Nat) : (colsT L W).length = W := by simp [colsT]
theorem colsT_get (L : List (List Val3)) (W c : Nat) (h : c < W) : (colsT L W)[c]'(by rw [colsT_len]; exact h) = colK L c := by simp [colsT]
theorem colK_succ (L : List (List Val3)) (c i : Nat) (h : i < L.length) : colK (L.take (i + 1)) c = colK (L.take i) c ++ [L[i].getD c (0, 0, ⟨#[]⟩)] := by
  unfold colK
  rw [List.take_succ_eq_append_getElem h, List.map_append]; rfl
theorem colsT_height (L : List (List Val3)) (W : Nat) (hW : 1 ≤ W) : heightC (colsT L W) = L.length := by
  have key : ∀ (r : List (List Val3)) (n : Nat), (∀ x ∈ r, x.length = n) → r.foldl (fun n x => min n x.length) n = n := by
    intro r
    induction r with
    | nil => intro n _; rfl
    | cons x r ih =>
      intro n h
      rw [List.foldl_cons, h x (List.mem_cons_self ..), Nat.min_self]
      exact ih n fun y hy => h y (List.mem_cons_of_mem _ hy)
  have hl : ∀ x ∈ colsT L W, x.length = L.length := fun x hx => by
    obtain ⟨c, _, rfl⟩ := List.mem_map.1 hx
    exact colK_len _ _
  have hne : (colsT L W).length = W := colsT_len L W
  cases hc : colsT L W with
  | nil => rw [hc] at hne; simp at hne; omega
  | cons x r =>
    rw [hc] at hl
    show r.foldl (fun n x => min n x.length) x.length = L.length
    rw [hl x (List.mem_cons_self ..)]
    exact key r _ fun y hy => hl y (List.mem_cons_of_mem _ hy)
theorem rows_cols (L : List (List Val3)) (W : Nat) (hW : 1 ≤ W) (hr : ∀ r ∈ L, r.length = W) : rowsC (colsT L W) = L := by
  unfold rowsC
  rw [colsT_height L W hW]
  refine List.ext_getElem (by simp) fun i h1 h2 => ?_
  rw [List.getElem_map, List.getElem_range]
  unfold rowAt
  have hri := hr _ (List.getElem_mem h2)
  refine List.ext_getElem (by rw [List.length_map, colsT_len, hri]) fun c h3 h4 => ?_
  rw [List.getElem_map, colsT_get L W c (by omega)]
  unfold colK
  rw [List.getD_eq_getElem?_getD, List.getElem?_map, List.getElem?_eq_getElem h2, Option.map_some, Option.getD_some, List.getD_eq_getElem?_getD, List.getElem?_eq_getElem h4, Option.getD_some]

/-- Of a column the values at places. -/
def pick1 (c : List Val3) (sel : List Int) : List Val3 := sel.filterMap fun i => if 0 ≤ i then c[i.toNat]? else none
theorem pick1_snoc (c : List Val3) (s : List Int) (i : Int) : pick1 c (s ++ [i]) = pick1 c s ++ (if 0 ≤ i then c[i.toNat]? else none).toList := by
  unfold pick1
  rw [List.filterMap_append]
  rw [List.filterMap_cons]
  cases h : (if 0 ≤ i then c[i.toNat]? else none) <;> rfl
theorem pick1_len (c : List Val3) (s : List Int) : (pick1 c s).length ≤ s.length := List.length_filterMap_le _ _
def pickC (cols : List (List Val3)) (sel : List Int) : List (List Val3) := cols.map fun c => pick1 c sel
theorem pick1_all (c : List Val3) (k : Nat) (hk : k ≤ c.length) : pick1 c ((List.range k).map fun (i : Nat) => (i : Int)) = c.take k := by
  induction k with
  | zero => rfl
  | succ k ih =>
    rw [List.range_succ, List.map_append, List.map_singleton, pick1_snoc, ih (by omega), if_pos (by omega), List.take_succ_eq_append_getElem (by omega), Int.toNat_natCast, List.getElem?_eq_getElem (by omega)]
    rfl

/-- What is taken of a list, and what is not. -/
def pkY {α : Type} : List Bool → List α → List α
  | u :: us, x :: b => if u then x :: pkY us b else pkY us b
  | _, _ => []
def pkN {α : Type} : List Bool → List α → List α
  | u :: us, x :: b => if u then pkN us b else x :: pkN us b
  | _, _ => []
section
variable {α : Type}
theorem pk_perm : ∀ (us : List Bool) (b : List α), us.length = b.length → (pkY us b ++ pkN us b).Perm b
  | [], [], _ => .refl _
  | u :: us, x :: b, h => by
    have ih := pk_perm us b (by simpa using h)
    cases u with
    | true => exact ih.cons x
    | false => exact List.perm_middle.trans (ih.cons x)
theorem pkY_set : ∀ (us : List Bool) (b : List α) (k : Nat) (hk : k < us.length) (hb : k < b.length), us[k] = false → (pkY (us.set k true) b).Perm (b[k] :: pkY us b)
  | u :: us, x :: b, 0, _, _, h => by
    have : u = false := h
    subst this
    exact .refl _
  | u :: us, x :: b, k + 1, hk, hb, h => by
    have ih := pkY_set us b k (by simpa using hk) (by simpa using hb) (by simpa using h)
    cases u with
    | true => exact (ih.cons x).trans (.swap _ _ _)
    | false => exact ih
theorem pkN_get : ∀ (us : List Bool) (b : List α) (x : α), us.length = b.length → x ∈ pkN us b → ∃ k, ∃ (hk : k < us.length) (hb : k < b.length), us[k] = false ∧ b[k] = x
  | u :: us, y :: b, x, h, hx => by
    cases u with
    | true =>
      obtain ⟨k, hk, hb, h1, h2⟩ := pkN_get us b x (by simpa using h) hx
      exact ⟨k + 1, by simpa using hk, by simpa using hb, h1, h2⟩
    | false =>
      rcases List.mem_cons.1 hx with rfl | hx
      · exact ⟨0, by simp, by simp, rfl, rfl⟩
      · obtain ⟨k, hk, hb, h1, h2⟩ := pkN_get us b x (by simpa using h) hx
        exact ⟨k + 1, by simpa using hk, by simpa using hb, h1, h2⟩
  | [], [], _, _, hx => by cases hx
theorem pkY_new : ∀ (b : List α), pkY (List.replicate b.length false) b = []
  | [] => rfl
  | x :: b => by rw [List.length_cons, List.replicate_succ]; exact pkY_new b
/-- All of the one is taken of the other. -/
theorem pk_end {a b : List α} {us : List Bool} (hu : us.length = b.length) (hl : a.length = b.length) (hp : a.Perm (pkY us b)) : a.Perm b := by
  have h := pk_perm us b hu
  have h1 := h.length_eq
  rw [List.length_append] at h1
  have h2 := hp.length_eq
  have h3 : pkN us b = [] := List.eq_nil_of_length_eq_zero (by omega)
  rw [h3, List.append_nil] at h
  exact hp.trans h
/-- One that is not among what is left. -/
theorem pk_none {a b : List α} {us : List Bool} {i : Nat} (hi : i < a.length) (hu : us.length = b.length) (hp : (a.take i).Perm (pkY us b)) (hn : ∀ k (hk : k < us.length) (hb : k < b.length), us[k] = false → b[k] ≠ a[i]) : ¬ a.Perm b := by
  intro h
  have h1 : (pkY us b ++ a.drop i).Perm (pkY us b ++ pkN us b) := by
    refine ((hp.symm.append_right _).trans ?_).trans (pk_perm us b hu).symm
    rw [List.take_append_drop]; exact h
  have h2 := (List.perm_append_left_iff _).1 h1
  have h3 : a[i] ∈ pkN us b := h2.mem_iff.1 (by rw [List.drop_eq_getElem_cons hi]; exact List.mem_cons_self ..)
  obtain ⟨k, hk, hb, h4, h5⟩ := pkN_get us b _ hu h3
  exact hn k hk hb h4 h5
theorem pk_more {a b : List α} {us : List Bool} {i k : Nat} (hi : i < a.length) (hk : k < us.length) (hb : k < b.length) (hf : us[k] = false) (he : b[k] = a[i]) (hp : (a.take i).Perm (pkY us b)) : (a.take (i + 1)).Perm (pkY (us.set k true) b) := by
  rw [List.take_succ_eq_append_getElem hi]
  refine (List.perm_append_comm.trans ?_).trans (pkY_set us b k hk hb hf).symm
  rw [he]
  exact hp.cons _
end
end Go.Proofs.YtiacemlloaenoaaDoor
