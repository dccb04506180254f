/- Plain mathematics of columns by a list of their values. -/
import Derived.Test.YtfcedbhmbcbiaaaGreatDoorPackM
import Derived.Test.YtfcedbhmbcbiaaaGreatDoorOrdM
import Derived.Test.YtfcedbhmbcbiaaaGreatDoorReadQ
namespace Go.Proofs.YtfcedbhmbcbiaaaGreatDoor
open Go.RowKit
set_option linter.unusedVariables false

/-- How two values stand. -/
def cmp3 (x y : Val3) : Int := cmpV x.1 x.2.1 x.2.2 y.1 y.2.1 y.2.2
theorem cmp3_turn (x y : Val3) : cmp3 y x = - cmp3 x y := cmpV_turn _ _ _ _ _ _
theorem cmp3_self (x : Val3) : cmp3 x x = 0 := cmpV_self _ _ _
theorem cmp3_lt_trans {x y z : Val3} (h1 : cmp3 x y < 0) (h2 : cmp3 y z < 0) : cmp3 x z < 0 :=
  (cmpV_trans _ _ _ _ _ _ _ _ _ (show cmp3 x y ≤ 0 by omega) (show cmp3 y z ≤ 0 by omega)).2 (.inl h1)
theorem cmp3_zero {t : Int} (ht : 1 ≤ t ∧ t ≤ 4) {x y : Val3} (hx : x.1 = t ∧ MayV x.1 x.2.1 x.2.2.size) (hy : y.1 = t ∧ MayV y.1 y.2.1 y.2.2.size) : cmp3 x y = 0 ↔ x = y := by
  obtain ⟨t1, i1, s1⟩ := x
  obtain ⟨t2, i2, s2⟩ := y
  obtain ⟨e1, m1⟩ := hx
  obtain ⟨e2, m2⟩ := hy
  dsimp only at e1 e2 m1 m2
  subst e1
  subst e2
  unfold cmp3
  rw [cmpV_ok ht m1 m2]
  constructor
  · intro h; cases h; rfl
  · intro h; cases h; rfl

/-- A value laid into a rising list, where it is not there yet. -/
def insV (x : Val3) : List Val3 → List Val3
  | [] => [x]
  | y :: r => if cmp3 y x < 0 then y :: insV x r else if cmp3 y x = 0 then y :: r else x :: y :: r
def wordsF (d : List Val3) (l : List Val3) : List Val3 := l.foldl (fun d x => insV x d) d
/-- The unlike values, rising. -/
def wordsOf (l : List Val3) : List Val3 := wordsF [] l
theorem wordsF_snoc (d l : List Val3) (x : Val3) : wordsF d (l ++ [x]) = insV x (wordsF d l) := by unfold wordsF; rw [List.foldl_append]; rfl
def Asc (d : List Val3) : Prop := d.Pairwise fun x y => cmp3 x y < 0
theorem insV_mem {t : Int} (ht : 1 ≤ t ∧ t ≤ 4) {x : Val3} (hx : x.1 = t ∧ MayV x.1 x.2.1 x.2.2.size) : ∀ {d : List Val3}, OkL t d → ∀ z, z ∈ insV x d ↔ (z = x ∨ z ∈ d)
  | [], _, z => by unfold insV; simp
  | y :: r, ok, z => by
    unfold insV
    split
    · rw [List.mem_cons, insV_mem ht hx (fun q hq => ok q (List.mem_cons_of_mem _ hq)) z, List.mem_cons]
      constructor
      · rintro (h | h | h)
        · exact .inr (.inl h)
        · exact .inl h
        · exact .inr (.inr h)
      · rintro (h | h | h)
        · exact .inr (.inl h)
        · exact .inl h
        · exact .inr (.inr h)
    · split
      · rename_i h0
        have e : y = x := (cmp3_zero ht (ok y (List.mem_cons_self ..)) hx).1 h0
        subst e
        rw [List.mem_cons]
        constructor
        · exact .inr
        · rintro (h | h)
          · exact .inl h
          · exact h
      · rw [List.mem_cons]
theorem insV_ok {t : Int} (ht : 1 ≤ t ∧ t ≤ 4) {x : Val3} (hx : x.1 = t ∧ MayV x.1 x.2.1 x.2.2.size) {d : List Val3} (ok : OkL t d) : OkL t (insV x d) := by
  intro z hz
  rcases (insV_mem ht hx ok z).1 hz with rfl | h
  · exact hx
  · exact ok z h
theorem insV_asc {t : Int} (ht : 1 ≤ t ∧ t ≤ 4) {x : Val3} (hx : x.1 = t ∧ MayV x.1 x.2.1 x.2.2.size) : ∀ {d : List Val3}, OkL t d → Asc d → Asc (insV x d)
  | [], _, _ => by unfold insV Asc; simp
  | y :: r, ok, ha => by
    obtain ⟨h1, h2⟩ := List.pairwise_cons.1 ha
    have okr : OkL t r := fun q hq => ok q (List.mem_cons_of_mem _ hq)
    unfold insV
    split
    · rename_i hlt
      refine List.pairwise_cons.2 ⟨fun z hz => ?_, insV_asc ht hx okr h2⟩
      rcases (insV_mem ht hx okr z).1 hz with rfl | h
      · exact hlt
      · exact h1 z h
    · split
      · exact ha
      · rename_i hn hz
        have hxy : cmp3 x y < 0 := by have := cmp3_turn y x; omega
        refine List.pairwise_cons.2 ⟨fun z hz => ?_, ha⟩
        rcases List.mem_cons.1 hz with rfl | h
        · exact hxy
        · exact cmp3_lt_trans hxy (h1 z h)
theorem wordsF_facts {t : Int} (ht : 1 ≤ t ∧ t ≤ 4) : ∀ (l d : List Val3), OkL t l → OkL t d → Asc d → Asc (wordsF d l) ∧ OkL t (wordsF d l) ∧ ∀ z, z ∈ wordsF d l ↔ (z ∈ d ∨ z ∈ l)
  | [], d, _, od, ad => ⟨ad, od, fun z => by show z ∈ d ↔ _; simp⟩
  | x :: r, d, ol, od, ad => by
    have hx := ol x (List.mem_cons_self ..)
    have hr : OkL t r := fun q hq => ol q (List.mem_cons_of_mem _ hq)
    obtain ⟨h1, h2, h3⟩ := wordsF_facts ht r (insV x d) hr (insV_ok ht hx od) (insV_asc ht hx od ad)
    refine ⟨h1, h2, fun z => ?_⟩
    show z ∈ wordsF (insV x d) r ↔ _
    rw [h3 z, insV_mem ht hx od z, List.mem_cons]
    constructor
    · rintro ((h | h) | h)
      · exact .inr (.inl h)
      · exact .inl h
      · exact .inr (.inr h)
    · rintro (h | h | h)
      · exact .inl (.inr h)
      · exact .inl (.inl h)
      · exact .inr h
theorem words_asc {t : Int} (ht : 1 ≤ t ∧ t ≤ 4) {l : List Val3} (ol : OkL t l) : Asc (wordsOf l) := (wordsF_facts ht l [] ol (fun x hx => by cases hx) List.Pairwise.nil).1
theorem words_ok {t : Int} (ht : 1 ≤ t ∧ t ≤ 4) {l : List Val3} (ol : OkL t l) : OkL t (wordsOf l) := (wordsF_facts ht l [] ol (fun x hx => by cases hx) List.Pairwise.nil).2.1
theorem words_mem {t : Int} (ht : 1 ≤ t ∧ t ≤ 4) {l : List Val3} (ol : OkL t l) (z : Val3) : z ∈ wordsOf l ↔ z ∈ l := by
  have := (wordsF_facts ht l [] ol (fun x hx => by cases hx) List.Pairwise.nil).2.2 z
  unfold wordsOf
  simpa using this
theorem insV_len (x : Val3) : ∀ d, (insV x d).length ≤ d.length + 1
  | [] => by simp [insV]
  | y :: r => by
    unfold insV
    have := insV_len x r
    split
    · simp; omega
    · split <;> simp
theorem wordsF_len : ∀ (l d : List Val3), (wordsF d l).length ≤ d.length + l.length
  | [], d => by show d.length ≤ _; simp
  | x :: r, d => by
    have h1 := wordsF_len r (insV x d)
    have h2 := insV_len x d
    show (wordsF (insV x d) r).length ≤ _
    rw [List.length_cons]; omega
theorem words_len (l : List Val3) : (wordsOf l).length ≤ l.length := by have := wordsF_len l []; simpa [wordsOf] using this
theorem words_pos {t : Int} (ht : 1 ≤ t ∧ t ≤ 4) {l : List Val3} (ol : OkL t l) (h : 0 < l.length) : 0 < (wordsOf l).length := by
  match l, h with
  | x :: r, _ =>
    have := (words_mem ht ol x).2 (List.mem_cons_self ..)
    exact List.length_pos_of_mem this
/-- Just one rising list has these values. -/
theorem asc_unique : ∀ {d e : List Val3}, Asc d → Asc e → (∀ z, z ∈ d ↔ z ∈ e) → d = e
  | [], [], _, _, _ => rfl
  | [], y :: r, _, _, h => by have := (h y).2 (List.mem_cons_self ..); cases this
  | x :: r, [], _, _, h => by have := (h x).1 (List.mem_cons_self ..); cases this
  | x :: r, y :: q, hd, he, h => by
    obtain ⟨d1, d2⟩ := List.pairwise_cons.1 hd
    obtain ⟨e1, e2⟩ := List.pairwise_cons.1 he
    have hxy : x = y := by
      rcases List.mem_cons.1 ((h x).1 (List.mem_cons_self ..)) with h1 | h1
      · exact h1
      · rcases List.mem_cons.1 ((h y).2 (List.mem_cons_self ..)) with h2 | h2
        · exact h2.symm
        · have a := e1 x h1
          have b := d1 y h2
          have := cmp3_turn x y
          omega
    subst hxy
    have : r = q := asc_unique d2 e2 fun z => by
      constructor
      · intro hz
        rcases List.mem_cons.1 ((h z).1 (List.mem_cons_of_mem _ hz)) with h1 | h1
        · subst h1; have := d1 z hz; rw [cmp3_self] at this; omega
        · exact h1
      · intro hz
        rcases List.mem_cons.1 ((h z).2 (List.mem_cons_of_mem _ hz)) with h1 | h1
        · subst h1; have := e1 z hz; rw [cmp3_self] at this; omega
        · exact h1
    rw [this]

/-- A value's place among rising ones. -/
def placeOf (d : List Val3) (v : Val3) : Nat := d.countP fun y => decide (cmp3 y v < 0)
theorem placeOf_get : ∀ {d : List Val3}, Asc d → ∀ (k : Nat) (h : k < d.length), placeOf d d[k] = k
  | x :: r, ha, 0, _ => by
    obtain ⟨h1, h2⟩ := List.pairwise_cons.1 ha
    unfold placeOf
    rw [List.getElem_cons_zero, List.countP_cons_of_neg (by rw [cmp3_self]; decide)]
    rw [List.countP_eq_zero]
    intro z hz
    have a := h1 z hz
    have := cmp3_turn x z
    simp only [decide_eq_true_eq]
    omega
  | x :: r, ha, k + 1, h => by
    obtain ⟨h1, h2⟩ := List.pairwise_cons.1 ha
    have ih := placeOf_get h2 k (by simpa using h)
    unfold placeOf at ih ⊢
    rw [List.getElem_cons_succ, List.countP_cons_of_pos (by
      have := h1 _ (List.getElem_mem (by simpa using h : k < r.length))
      simpa using this), ih]
theorem placeOf_mem {d : List Val3} (ha : Asc d) {v : Val3} (hv : v ∈ d) : ∃ h : placeOf d v < d.length, d[placeOf d v] = v := by
  obtain ⟨k, hk, rfl⟩ := List.getElem_of_mem hv
  have e := placeOf_get ha k hk
  refine ⟨by rw [e]; exact hk, ?_⟩
  congr 1
def places (d l : List Val3) : List Nat := l.map (placeOf d)
theorem places_len (d l : List Val3) : (places d l).length = l.length := List.length_map _
/-- How many bits a place among n has. -/
def widD (n : Nat) : Nat := if n = 0 then 0 else wid (n - 1)
theorem widD_le {n : Nat} (h : n ≤ 1000000) : widD n ≤ 64 := by
  unfold widD
  split
  · omega
  · exact wid_le64 (by omega)
theorem places_wid {t : Int} (ht : 1 ≤ t ∧ t ≤ 4) {l : List Val3} (ol : OkL t l) : widL (places (wordsOf l) l) ≤ widD (wordsOf l).length := by
  rw [widL_le]
  intro x hx
  obtain ⟨v, hv, rfl⟩ := List.mem_map.1 hx
  obtain ⟨h, _⟩ := placeOf_mem (words_asc ht ol) ((words_mem ht ol v).2 hv)
  unfold widD
  rw [if_neg (by omega)]
  exact (wid_le _ _).1 (Nat.le_trans (by
    rw [wid_le]
    have h2 := (wid_le ((wordsOf l).length - 1) _).1 (Nat.le_refl (wid ((wordsOf l).length - 1)))
    omega) (Nat.le_refl _))
def dictB (l : List Val3) : List Nat := putNum (wordsOf l).length ++ (plainB (wordsOf l) ++ putBits (places (wordsOf l) l) (widD (wordsOf l).length))
def readT (t : Int) (n : Nat) (b : List Nat) : Option (List Val3) :=
  match takeNum b with
  | none => none
  | some (u, k) => if u ≤ n then
      match readQ t u (b.drop k) with
      | none => none
      | some (d, r) => match takeBits r n (widD d.length) with
        | none => none
        | some ps => if ∀ p ∈ ps, p < d.length then some (ps.map fun p => d.getD p (0, 0, ⟨#[]⟩)) else none
    else none
def putT (t : Int) (l : List Val3) : Option (List Nat) := if (1 ≤ t ∧ t ≤ 4) ∧ OkL t l then some (dictB l) else none
def takeT (t n : Int) (b : List Nat) : Option (List Val3) :=
  if (1 ≤ t ∧ t ≤ 4) ∧ 0 ≤ n ∧ n ≤ 1000 then
    match readT t n.toNat b with
    | none => none
    | some l => if putT t l = some b then some l else none
  else none
theorem putT_some {t : Int} {l : List Val3} (ht : 1 ≤ t ∧ t ≤ 4) (ho : OkL t l) : ∃ b, putT t l = some b := ⟨dictB l, by unfold putT; rw [if_pos ⟨ht, ho⟩]⟩
theorem putT_is {t : Int} {l : List Val3} {b : List Nat} (h : putT t l = some b) : (1 ≤ t ∧ t ≤ 4) ∧ OkL t l ∧ b = dictB l := by
  unfold putT at h
  split at h
  · rename_i hc; cases h; exact ⟨hc.1, hc.2, rfl⟩
  · cases h
theorem words_64 {t : Int} (ht : 1 ≤ t ∧ t ≤ 4) {l : List Val3} (ol : OkL t l) (h64 : All64 l) : All64 (wordsOf l) := fun x hx => h64 x ((words_mem ht ol x).1 hx)
theorem dictB_lt {t : Int} (ht : 1 ≤ t ∧ t ≤ 4) {l : List Val3} (ol : OkL t l) (h64 : All64 l) (hl : l.length ≤ 1000) : ∀ x ∈ dictB l, x < 256 := by
  intro x hx
  have hw := words_len l
  rcases List.mem_append.1 hx with hx | hx
  · exact putNum_lt (by omega) x hx
  · rcases List.mem_append.1 hx with hx | hx
    · exact plainB_lt (words_ok ht ol) (words_64 ht ol h64) x hx
    · exact putBits_lt _ _ x hx
theorem putT_lt {t : Int} {l : List Val3} {b : List Nat} (hl : l.length ≤ 1000) (h64 : All64 l) (h : putT t l = some b) : ∀ x ∈ b, x < 256 := by
  obtain ⟨h1, h2, rfl⟩ := putT_is h; exact dictB_lt h1 h2 h64 hl
theorem putT_le {t : Int} {l : List Val3} {b : List Nat} (hl : l.length ≤ 1000) (h : putT t l = some b) : b.length ≤ l.length * 30 + 10 := by
  obtain ⟨h1, h2, rfl⟩ := putT_is h
  have hw := words_len l
  have a1 := putNum_le (wordsOf l).length
  have a2 := plainB_le (words_ok h1 h2)
  have a3 := widD_le (n := (wordsOf l).length) (by omega)
  have a4 : l.length * widD (wordsOf l).length ≤ l.length * 64 := Nat.mul_le_mul_left _ a3
  unfold dictB
  rw [List.length_append, List.length_append, putBits_len, places_len]
  omega
theorem readQ_put {t : Int} (ht : 1 ≤ t ∧ t ≤ 4) : ∀ (l : List Val3) (r : List Nat), OkL t l → All64 l → readQ t l.length (plainB l ++ r) = some (l, r)
  | [], r, _, _ => rfl
  | x :: q, r, h, h64 => by
    obtain ⟨t', i, s⟩ := x
    obtain ⟨rfl, hm⟩ := h _ (List.mem_cons_self ..)
    have ih := readQ_put ht q r (fun y hy => h y (List.mem_cons_of_mem _ hy)) (fun y hy => h64 y (List.mem_cons_of_mem _ hy))
    rw [List.length_cons, plainB_cons, List.append_assoc, readQ_some (takeC_put ht hm (h64 _ (List.mem_cons_self ..)) _), List.drop_left, ih, bstr_nums]
    rfl
theorem places_back {t : Int} (ht : 1 ≤ t ∧ t ≤ 4) {l : List Val3} (ol : OkL t l) : (∀ p ∈ places (wordsOf l) l, p < (wordsOf l).length) ∧ ((places (wordsOf l) l).map fun p => (wordsOf l).getD p (0, 0, ⟨#[]⟩)) = l := by
  have key := fun v (hv : v ∈ l) => placeOf_mem (words_asc ht ol) ((words_mem ht ol v).2 hv)
  constructor
  · intro p hp
    obtain ⟨v, hv, rfl⟩ := List.mem_map.1 hp
    exact (key v hv).1
  · unfold places
    rw [List.map_map]
    conv => rhs; rw [← List.map_id l]
    refine List.map_congr_left fun v hv => ?_
    obtain ⟨h1, h2⟩ := key v hv
    show (wordsOf l).getD (placeOf (wordsOf l) v) _ = v
    rw [List.getD_eq_getElem?_getD, List.getElem?_eq_getElem h1, h2]
    rfl
theorem readT_put {t : Int} (ht : 1 ≤ t ∧ t ≤ 4) {l : List Val3} (ol : OkL t l) (h64 : All64 l) (hl : l.length ≤ 1000) : readT t l.length (dictB l) = some l := by
  have hw := words_len l
  have hb := takeBits_put (places (wordsOf l) l) (widD (wordsOf l).length) (by rw [places_len]; exact hl) (widD_le (by omega)) (places_wid ht ol)
  rw [places_len] at hb
  obtain ⟨p1, p2⟩ := places_back ht ol
  unfold readT dictB
  rw [takeNum_put (by omega)]
  simp only [List.drop_left]
  rw [if_pos hw, readQ_put ht _ _ (words_ok ht ol) (words_64 ht ol h64)]
  simp only
  rw [hb]
  simp only
  rw [if_pos p1, p2]
theorem readT_is {t : Int} (ht : 1 ≤ t ∧ t ≤ 4) {n : Nat} {b : List Nat} (h256 : ∀ x ∈ b, x < 256) {l : List Val3} (h : readT t n b = some l) : l.length = n ∧ All64 l ∧ n ≤ 1000 := by
  unfold readT at h
  split at h
  · cases h
  · rename_i u k hT
    split at h
    · split at h
      · cases h
      · rename_i d r hq
        split at h
        · cases h
        · rename_i ps hb
          split at h
          · rename_i hp
            cases h
            obtain ⟨h1, h2, h3⟩ := takeBits_len hb
            obtain ⟨_, g2, _, _⟩ := readQ_is ht _ _ (fun x hx => h256 x (List.mem_of_mem_drop hx)) _ _ hq
            refine ⟨by rw [List.length_map, h1], fun x hx => ?_, h2⟩
            obtain ⟨p, hp', rfl⟩ := List.mem_map.1 hx
            have := hp p hp'
            rw [List.getD_eq_getElem?_getD, List.getElem?_eq_getElem this]
            exact g2 _ (List.getElem_mem this)
          · cases h
    · cases h
theorem takeT_put {t : Int} {l : List Val3} (h64 : All64 l) (hl : l.length ≤ 1000) {b : List Nat} (h : putT t l = some b) : takeT t l.length b = some l := by
  obtain ⟨ht, ho, rfl⟩ := putT_is h
  unfold takeT
  rw [if_pos ⟨ht, by omega, by omega⟩, show ((l.length : Nat) : Int).toNat = l.length from rfl, readT_put ht ho h64 hl]
  simp only
  rw [if_pos h]
theorem takeT_read {t n : Int} {b : List Nat} {l : List Val3} (h : takeT t n b = some l) : readT t n.toNat b = some l ∧ putT t l = some b ∧ (1 ≤ t ∧ t ≤ 4) ∧ 0 ≤ n ∧ n ≤ 1000 := by
  unfold takeT at h
  split at h
  · rename_i hc
    split at h
    · cases h
    · rename_i l' hr
      split at h
      · rename_i hp
        cases h; exact ⟨hr, hp, hc⟩
      · cases h
  · cases h
theorem takeT_is {t n : Int} {b : List Nat} (h256 : ∀ x ∈ b, x < 256) {l : List Val3} (h : takeT t n b = some l) : putT t l = some b ∧ All64 l ∧ (l.length : Int) = n ∧ n ≤ 1000 := by
  obtain ⟨h1, h2, h3, h4, h5⟩ := takeT_read h
  obtain ⟨g1, g2, g3⟩ := readT_is h3 h256 h1
  exact ⟨h2, g2, by omega, h5⟩
theorem takeT_len {t n : Int} {b : List Nat} {l : List Val3} (h256 : ∀ x ∈ b, x < 256) (h : takeT t n b = some l) : l.length ≤ 1000 := by
  obtain ⟨_, _, h1, h2⟩ := takeT_is h256 h; omega
theorem dictB_prefix {t : Int} (ht : 1 ≤ t ∧ t ≤ 4) {l m : List Val3} (ol : OkL t l) (om : OkL t m) (al : All64 l) (am : All64 m) (hl : l.length ≤ 1000) (hlm : l.length = m.length) {c : List Nat} (h : dictB m = dictB l ++ c) : c = [] := by
  have w1 := words_len l
  have w2 := words_len m
  unfold dictB at h
  rw [List.append_assoc] at h
  have e1 := takeNum_put (v := (wordsOf m).length) (by omega) (plainB (wordsOf m) ++ putBits (places (wordsOf m) m) (widD (wordsOf m).length))
  have e2 := takeNum_put (v := (wordsOf l).length) (by omega) ((plainB (wordsOf l) ++ putBits (places (wordsOf l) l) (widD (wordsOf l).length)) ++ c)
  rw [h, e2] at e1
  have e3 : (wordsOf l).length = (wordsOf m).length := by injection e1 with e; injection e
  rw [e3] at h
  have h := List.append_cancel_left h
  have q1 := readQ_put ht (wordsOf m) (putBits (places (wordsOf m) m) (widD (wordsOf m).length)) (words_ok ht om) (words_64 ht om am)
  have q2 := readQ_put ht (wordsOf l) (putBits (places (wordsOf l) l) (widD (wordsOf m).length) ++ c) (words_ok ht ol) (words_64 ht ol al)
  rw [e3] at q2
  rw [h, List.append_assoc, q2] at q1
  injection q1 with q1
  injection q1 with _ q1
  have := congrArg List.length q1
  rw [List.length_append, putBits_len, putBits_len, places_len, places_len, hlm] at this
  exact List.eq_nil_of_length_eq_zero (by omega)
theorem takeT_none {t : Int} {l : List Val3} (hl : l.length ≤ 1000) (h64 : All64 l) {b c d : List Nat} (h256 : ∀ x ∈ b ++ c, x < 256) (hc : c ≠ []) (h : (putT t l = some b ∧ d = b ++ c) ∨ (putT t l = some (b ++ c) ∧ d = b)) : takeT t l.length d = none := by
  cases hd : takeT t l.length d with
  | none => rfl
  | some m =>
    exfalso
    have hd256 : ∀ x ∈ d, x < 256 := by
      rcases h with ⟨_, rfl⟩ | ⟨_, rfl⟩
      · exact h256
      · exact fun x hx => h256 x (List.mem_append_left _ hx)
    obtain ⟨h1, h2, h3, _⟩ := takeT_is hd256 hd
    obtain ⟨ht, om, e1⟩ := putT_is h1
    rcases h with ⟨h, rfl⟩ | ⟨h, rfl⟩
    · obtain ⟨_, ol, e2⟩ := putT_is h
      exact hc (dictB_prefix ht ol om h64 h2 hl (by omega) (by rw [← e1, ← e2]))
    · obtain ⟨_, ol, e2⟩ := putT_is h
      exact hc (dictB_prefix ht om ol h2 h64 (by omega) (by omega) (by rw [← e1, ← e2]))
theorem takeT_more {t : Int} {l : List Val3} (hl : l.length ≤ 1000) (h64 : All64 l) {b : List Nat} (h : putT t l = some b) {x : Nat} (hx : x < 256) : takeT t l.length (b ++ [x]) = none :=
  takeT_none hl h64 (b := b) (c := [x]) (fun y hy => by
    rcases List.mem_append.1 hy with hy | hy
    · exact putT_lt hl h64 h y hy
    · rw [List.mem_singleton] at hy; omega) (by simp) (.inl ⟨h, rfl⟩)
theorem takeT_cut {t : Int} {l : List Val3} (hl : l.length ≤ 1000) (h64 : All64 l) {b : List Nat} (h : putT t l = some b) {q : Nat} (hq : q < b.length) : takeT t l.length (b.take q) = none :=
  takeT_none hl h64 (b := b.take q) (c := b.drop q) (fun y hy => by rw [List.take_append_drop] at hy; exact putT_lt hl h64 h y hy) (fun e => by have := congrArg List.length e; rw [List.length_drop] at this; simp at this; omega) (.inr ⟨by rw [List.take_append_drop]; exact h, rfl⟩)
end Go.Proofs.YtfcedbhmbcbiaaaGreatDoor
