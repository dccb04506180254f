/- The sums of groups: mathematics of AggSums. -/
import Derived.Test.YtiacemlloaenoaaDoorAggY
namespace Go.Proofs.YtiacemlloaenoaaDoor
open Go.RowKit
set_option linter.unusedVariables false

/-- A column of small numbers and nothings. -/
def Sane (x : List Val3) : Prop := ∀ v ∈ x, v = z3 ∨ (v.1 = 2 ∧ -128 ≤ v.2.1 ∧ v.2.1 ≤ 127)
def NumV (v : Val3) : Prop := v.1 = 2 ∧ -128 ≤ v.2.1 ∧ v.2.1 ≤ 127
theorem pick_num {x : List Val3} (h : Sane x) (ps : List Nat) : ∀ v ∈ pickN x ps, NumV v := by
  intro v hv
  unfold pickN at hv
  rw [List.mem_filter] at hv
  obtain ⟨h1, h2⟩ := hv
  obtain ⟨p, _, rfl⟩ := List.mem_map.1 h1
  have h2 : (x.getD p z3).1 ≠ 0 := by simpa using h2
  rw [List.getD_eq_getElem?_getD] at h2 ⊢
  cases hx : x[p]? with
  | none => rw [hx] at h2; exact absurd rfl h2
  | some u =>
    rw [hx] at h2
    rcases h u (List.mem_of_getElem? hx) with rfl | h
    · exact absurd rfl h2
    · exact h
theorem pick_app (x : List Val3) (a b : List Nat) : pickN x (a ++ b) = pickN x a ++ pickN x b := by
  unfold pickN; rw [List.map_append, List.filter_append]
theorem pick_perm (x : List Val3) {a b : List Nat} (h : a.Perm b) : (pickN x a).Perm (pickN x b) := (h.map _).filter _
theorem sumI_perm {a b : List Val3} (h : a.Perm b) : sumI a = sumI b := by
  induction h with
  | nil => rfl
  | cons x _ ih => simp only [sumI]; omega
  | swap x y l => simp only [sumI]; omega
  | trans _ _ h1 h2 => exact h1.trans h2
/-- The least number of a list, and of 1000; the greatest, and of -1000. -/
def loI : List Val3 → Int
  | [] => 1000
  | x :: r => min x.2.1 (loI r)
def hiI : List Val3 → Int
  | [] => -1000
  | x :: r => max x.2.1 (hiI r)
theorem loI_le : ∀ l, loI l ≤ 1000
  | [] => by simp [loI]
  | x :: r => by have := loI_le r; simp only [loI]; omega
theorem hiI_le : ∀ l, -1000 ≤ hiI l
  | [] => by simp [hiI]
  | x :: r => by have := hiI_le r; simp only [hiI]; omega
theorem loI_app : ∀ a b, loI (a ++ b) = min (loI a) (loI b)
  | [], b => by have := loI_le b; simp only [List.nil_append, loI]; omega
  | x :: r, b => by have := loI_app r b; simp only [List.cons_append, loI]; omega
theorem hiI_app : ∀ a b, hiI (a ++ b) = max (hiI a) (hiI b)
  | [], b => by have := hiI_le b; simp only [List.nil_append, hiI]; omega
  | x :: r, b => by have := hiI_app r b; simp only [List.cons_append, hiI]; omega
theorem loI_perm {a b : List Val3} (h : a.Perm b) : loI a = loI b := by
  induction h with
  | nil => rfl
  | cons x _ ih => simp only [loI]; omega
  | swap x y l => simp only [loI]; omega
  | trans _ _ h1 h2 => exact h1.trans h2
theorem hiI_perm {a b : List Val3} (h : a.Perm b) : hiI a = hiI b := by
  induction h with
  | nil => rfl
  | cons x _ ih => simp only [hiI]; omega
  | swap x y l => simp only [hiI]; omega
  | trans _ _ h1 h2 => exact h1.trans h2
theorem cmp3_num {x a : Val3} (hx : x.1 = 2) (ha : a.1 = 2) : (cmp3 x a < 0 ↔ x.2.1 < a.2.1) ∧ (0 < cmp3 x a ↔ a.2.1 < x.2.1) := by
  obtain ⟨x1, x2, x3⟩ := x
  obtain ⟨a1, a2, a3⟩ := a
  dsimp only at hx ha
  subst hx ha
  unfold cmp3
  dsimp only
  rw [cmpV_near rfl, if_neg (by decide), if_neg (by decide)]
  unfold cmpI
  constructor <;> split <;> (try split) <;> omega
theorem least_is {l : List Val3} (h : ∀ v ∈ l, NumV v) : ∀ k, k ≤ l.length → (1 ≤ k → (leastN 1 l k).1 = 2 ∧ (leastN 1 l k).2.1 = loI (l.take k) ∧ (leastN (-1) l k).1 = 2 ∧ (leastN (-1) l k).2.1 = hiI (l.take k))
  | 0, _ => fun h => absurd h (by omega)
  | k + 1, hk => fun _ => by
    have hk' : k < l.length := hk
    obtain ⟨n1, n2, n3⟩ := h _ (List.getElem_mem hk')
    rw [leastN_succ _ _ _ hk', leastN_succ _ _ _ hk', List.take_succ_eq_append_getElem hk', loI_app, hiI_app]
    simp only [loI, hiI]
    unfold lstep
    by_cases h0 : k = 0
    · subst h0
      rw [if_pos (.inl rfl), if_pos (.inl rfl)]
      simp only [List.take_zero, loI, hiI]
      refine ⟨n1, by omega, n1, by omega⟩
    · obtain ⟨i1, i2, i3, i4⟩ := least_is h k (by omega) (by omega)
      obtain ⟨c1, _⟩ := cmp3_num n1 i1
      obtain ⟨_, c2⟩ := cmp3_num n1 i3
      rw [← i2, ← i4]
      have b1 := loI_le (l.take k)
      have b2 := hiI_le (l.take k)
      refine ⟨?_, ?_, ?_, ?_⟩
      · split <;> assumption
      · split
        · rename_i hc
          have := c1.1 (by omega)
          omega
        · rename_i hc
          have : ¬ l[k].2.1 < (leastN 1 l k).2.1 := fun h => hc (.inr (by have := c1.2 h; omega))
          omega
      · split <;> assumption
      · split
        · rename_i hc
          have := c2.1 (by omega)
          omega
        · rename_i hc
          have : ¬ (leastN (-1) l k).2.1 < l[k].2.1 := fun h => hc (.inr (by have := c2.2 h; omega))
          omega
theorem leastV_is {l : List Val3} (h : ∀ v ∈ l, NumV v) (hl : l ≠ []) : (leastV 1 l).1 = 2 ∧ (leastV 1 l).2.1 = loI l ∧ (leastV (-1) l).1 = 2 ∧ (leastV (-1) l).2.1 = hiI l := by
  have hp : 1 ≤ l.length := by
    cases l with
    | nil => exact absurd rfl hl
    | cons x r => simp
  have := least_is h l.length (Nat.le_refl _) hp
  rw [List.take_length] at this
  exact this
/-- What a group's five aggregates are. -/
def sumO (l : List Val3) : Val3 := if l = [] then z3 else (2, sumI l, ⟨#[]⟩)
def fiveV (x : List Val3) (ps : List Nat) : List Val3 := [(2, (ps.length : Int), ⟨#[]⟩), (2, ((pickN x ps).length : Int), ⟨#[]⟩), sumO (pickN x ps), leastV 1 (pickN x ps), leastV (-1) (pickN x ps)]
def aggs5 (m : Int) : List (Int × Int) := [(1, -1), (1, m), (2, m), (3, m), (4, m)]
theorem sumI_small {l : List Val3} (h : ∀ v ∈ l, NumV v) : -128 * (l.length : Int) ≤ sumI l ∧ sumI l ≤ 127 * (l.length : Int) := by
  induction l with
  | nil => simp [sumI]
  | cons x r ih =>
    have h1 := h x (by simp)
    have h2 := ih fun v hv => h v (by simp [hv])
    obtain ⟨_, h3, h4⟩ := h1
    simp only [sumI, List.length_cons]
    omega
theorem sumV_is {l : List Val3} (h : ∀ v ∈ l, NumV v) (hl : l.length ≤ 1000) : sumV l = .ok (sumO l) := by
  unfold sumV sumO
  split
  · rfl
  · rw [if_pos fun v hv => .inr (h v hv).1, if_pos]
    have := sumI_small h
    omega
theorem mapE_all {α β : Type} {f : α → Except Int β} {g : α → β} : ∀ {l : List α}, (∀ a ∈ l, f a = .ok (g a)) → mapE f l = .ok (l.map g) := by
  intro l h
  have : ∀ k, k ≤ l.length → mapE f (l.take k) = .ok ((l.take k).map g) := by
    intro k
    induction k with
    | zero => intro _; rfl
    | succ k ih =>
      intro hk
      have hk' : k < l.length := hk
      rw [mapE_ok hk' (ih (by omega)) (h _ (List.getElem_mem hk')), List.take_succ_eq_append_getElem hk', List.map_append]; rfl
  have := this l.length (Nat.le_refl _)
  rwa [List.take_length] at this
theorem five_is {cols : List (List Val3)} {x : List Val3} (m : Int) (hm : m = (cols.length : Int)) (h : Sane x) (bys : List Int) (ps : List Nat) (hp : ps.length ≤ 1000) :
    rowE (cols ++ [x]) bys (aggs5 m) ps = .ok (bys.map (fun c => cellAt (cols ++ [x]) c (ps.getD 0 0)) ++ fiveV x ps) := by
  have hg : (cols ++ [x]).getD cols.length [] = x := by
    rw [List.getD_eq_getElem?_getD, List.getElem?_append_right (Nat.le_refl _), Nat.sub_self]; rfl
  have hn := pick_num h ps
  have hl : (pickN x ps).length ≤ 1000 := Nat.le_trans (pickN_len x ps) hp
  refine rowE_ok ?_
  subst hm
  have h0 : ¬ ((cols.length : Nat) : Int) < 0 := by omega
  have e1 : ofA (cols ++ [x]) ps 1 (-1) = .ok (2, (ps.length : Int), ⟨#[]⟩) := by unfold ofA; rw [if_pos (by omega)]
  have eo : ∀ op, ofA (cols ++ [x]) ps op ((cols.length : Nat) : Int) = ofV (pickN x ps) op := by
    intro op; unfold ofA; rw [if_neg h0, Int.toNat_natCast, hg]
  have e2 : ofV (pickN x ps) 1 = .ok (2, ((pickN x ps).length : Int), ⟨#[]⟩) := by unfold ofV; rw [if_pos rfl]
  have e3 : ofV (pickN x ps) 2 = .ok (sumO (pickN x ps)) := by unfold ofV; rw [if_neg (by decide), if_pos rfl, sumV_is hn hl]
  have e4 : ofV (pickN x ps) 3 = .ok (leastV 1 (pickN x ps)) := by unfold ofV; rw [if_neg (by decide), if_neg (by decide), if_neg (by decide)]
  have e5 : ofV (pickN x ps) 4 = .ok (leastV (-1) (pickN x ps)) := by unfold ofV; rw [if_neg (by decide), if_neg (by decide), if_pos rfl]
  simp only [mapE, aggs5, List.foldl_cons, List.foldl_nil, stepE, e1, eo, e2, e3, e4, e5, fiveV, List.nil_append, List.cons_append]
theorem run_five {cols : List (List Val3)} {x : List Val3} (m : Int) (hm : m = (cols.length : Int)) (h : Sane x) (bys : List Int) (R : List (List Nat)) (hR : ∀ ps ∈ R, ps.length ≤ 1000) :
    runE (cols ++ [x]) bys (aggs5 m) R = .ok (R.map fun ps => bys.map (fun c => cellAt (cols ++ [x]) c (ps.getD 0 0)) ++ fiveV x ps) :=
  mapE_all fun ps hps => five_is m hm h bys ps (hR ps hps)
theorem addLast_flat (R : List (List Nat)) (h : R ≠ []) (p : Nat) : (addLast R p).flatten = R.flatten ++ [p] := by
  have e := List.dropLast_concat_getLast h
  rw [← e, addLast_app]
  simp
theorem runs_flat (cf : Nat → Nat → Int) (S : List Nat) : ∀ k, k ≤ S.length → (runsK cf S k).flatten = S.take k
  | 0, _ => rfl
  | k + 1, hk => by
    have hk' : k < S.length := hk
    have ih := runs_flat cf S k (by omega)
    rw [List.take_succ_eq_append_getElem hk', ← getD_at hk']
    by_cases h : k = 0 ∨ cf (S.getD (k - 1) 0) (S.getD k 0) ≠ 0
    · rw [runsK_new h, List.flatten_append, ih]; simp
    · rw [runsK_old h, addLast_flat, ih]
      intro e
      have := (runsK_len cf S k).2 (by omega)
      rw [e] at this
      simp at this
theorem groups_flat {cols : List (List Val3)} {bys : List Int} {N : Nat} {R : List (List Nat)} (h : GroupsOf cols bys N R) : R.flatten.Perm (List.range N) := by
  rcases h with ⟨_, rfl⟩ | ⟨_, S, hS, rfl⟩
  · simp
  · have hl : S.length = N := by rw [hS.1.length_eq]; simp
    rw [runs_flat _ _ _ (by omega), List.take_of_length_le (by omega)]
    exact hS.1
/-- The places of the first groups. -/
def qk (R : List (List Nat)) (k : Nat) : List Nat := (R.take k).flatten
theorem qk_succ (R : List (List Nat)) (k : Nat) (h : k < R.length) : qk R (k + 1) = qk R k ++ R[k] := by
  unfold qk
  rw [List.take_succ_eq_append_getElem h, List.flatten_append]; simp
theorem qk_len (R : List (List Nat)) (k : Nat) : (qk R k).length ≤ R.flatten.length := by
  have h : R.flatten = (R.take k).flatten ++ (R.drop k).flatten := by rw [← List.flatten_append, List.take_append_drop]
  unfold qk
  rw [h, List.length_append]; omega
theorem qk_all (R : List (List Nat)) : qk R R.length = R.flatten := by unfold qk; rw [List.take_length]
/-- What the sums are so far. -/
structure Sums (x : List Val3) (q : List Nat) (r s u lo hi : Int) : Prop where
  r : r = (q.length : Int)
  s : s = ((pickN x q).length : Int)
  u : u = sumI (pickN x q)
  lo : lo = loI (pickN x q)
  hi : hi = hiI (pickN x q)
theorem Sums.zero (x : List Val3) : Sums x [] 0 0 0 1000 (-1000) := ⟨rfl, rfl, rfl, rfl, rfl⟩
theorem sumO_i (l : List Val3) : (sumO l).2.1 = sumI l := by
  unfold sumO; split
  · rename_i h; subst h; rfl
  · rfl
theorem Sums.some_ {x : List Val3} {q : List Nat} {r s u lo hi : Int} (hx : Sane x) (h : Sums x q r s u lo hi) (ps : List Nat) (hp : (leastV 1 (pickN x ps)).1 ≠ 0) :
    Sums x (q ++ ps) (r + (ps.length : Int)) (s + ((pickN x ps).length : Int)) (u + (sumO (pickN x ps)).2.1) (min lo (leastV 1 (pickN x ps)).2.1) (max hi (leastV (-1) (pickN x ps)).2.1) := by
  have hne : pickN x ps ≠ [] := fun e => hp (by rw [e]; rfl)
  obtain ⟨_, h2, _, h4⟩ := leastV_is (pick_num hx ps) hne
  refine ⟨?_, ?_, ?_, ?_, ?_⟩
  · rw [h.r, List.length_append]; omega
  · rw [h.s, pick_app, List.length_append]; omega
  · rw [h.u, pick_app, sumI_append, sumO_i]
  · rw [h.lo, pick_app, loI_app, h2]
  · rw [h.hi, pick_app, hiI_app, h4]
theorem Sums.none_ {x : List Val3} {q : List Nat} {r s u lo hi : Int} (hx : Sane x) (h : Sums x q r s u lo hi) (ps : List Nat) (hp : (leastV 1 (pickN x ps)).1 = 0) :
    Sums x (q ++ ps) (r + (ps.length : Int)) (s + ((pickN x ps).length : Int)) (u + (sumO (pickN x ps)).2.1) lo hi := by
  have hne : pickN x ps = [] := by
    cases e : pickN x ps with
    | nil => rfl
    | cons a t =>
      have h1 := (leastV_is (pick_num hx ps) (by rw [e]; simp)).1
      rw [hp] at h1; cases h1
  refine ⟨?_, ?_, ?_, ?_, ?_⟩
  · rw [h.r, List.length_append]; omega
  · rw [h.s, pick_app, List.length_append]; omega
  · rw [h.u, pick_app, sumI_append, sumO_i]
  · rw [h.lo, pick_app, hne, List.append_nil]
  · rw [h.hi, pick_app, hne, List.append_nil]
theorem loI_low {l : List Val3} (h : ∀ v ∈ l, NumV v) : -128 ≤ loI l := by
  induction l with
  | nil => simp [loI]
  | cons x r ih =>
    have h1 := (h x (by simp)).2
    have h2 := ih fun v hv => h v (by simp [hv])
    simp only [loI]; omega
theorem hiI_high {l : List Val3} (h : ∀ v ∈ l, NumV v) : hiI l ≤ 127 := by
  induction l with
  | nil => simp [hiI]
  | cons x r ih =>
    have h1 := (h x (by simp)).2
    have h2 := ih fun v hv => h v (by simp [hv])
    simp only [hiI]; omega
theorem Sums.bound {x : List Val3} {q : List Nat} {r s u lo hi : Int} (hx : Sane x) (h : Sums x q r s u lo hi) (hq : q.length ≤ 20) :
    (0 ≤ r ∧ r ≤ 20) ∧ (0 ≤ s ∧ s ≤ 20) ∧ (-2560 ≤ u ∧ u ≤ 2540) ∧ (-128 ≤ lo ∧ lo ≤ 1000) ∧ (-1000 ≤ hi ∧ hi ≤ 127) := by
  have hl := pickN_len x q
  have hn := pick_num hx q
  have h1 := sumI_small hn
  have h2 := loI_low hn
  have h3 := loI_le (pickN x q)
  have h4 := hiI_high hn
  have h5 := hiI_le (pickN x q)
  obtain ⟨e1, e2, e3, e4, e5⟩ := h
  omega
/-- What one group adds is small. -/
theorem five_bound {x : List Val3} (hx : Sane x) (ps : List Nat) (hp : ps.length ≤ 20) :
    ((pickN x ps).length ≤ 20) ∧ (-2560 ≤ (sumO (pickN x ps)).2.1 ∧ (sumO (pickN x ps)).2.1 ≤ 2540) ∧
      ((leastV 1 (pickN x ps)).1 ≠ 0 → (-128 ≤ (leastV 1 (pickN x ps)).2.1 ∧ (leastV 1 (pickN x ps)).2.1 ≤ 127) ∧ (-128 ≤ (leastV (-1) (pickN x ps)).2.1 ∧ (leastV (-1) (pickN x ps)).2.1 ≤ 127)) := by
  have hl := pickN_len x ps
  have hn := pick_num hx ps
  have h1 := sumI_small hn
  refine ⟨by omega, by rw [sumO_i]; omega, fun hz => ?_⟩
  have hne : pickN x ps ≠ [] := fun e => hz (by rw [e]; rfl)
  obtain ⟨_, i2, _, i4⟩ := leastV_is hn hne
  have h2 := loI_low hn
  have h4 := hiI_high hn
  cases e : pickN x ps with
  | nil => exact absurd e hne
  | cons a t =>
    have ha := (hn a (by rw [e]; simp)).2
    rw [e] at i2 i4 h2 h4
    have b1 : loI (a :: t) ≤ a.2.1 := by simp only [loI]; omega
    have b2 : a.2.1 ≤ hiI (a :: t) := by simp only [hiI]; omega
    omega
/-- At the end the sums are the whole's. -/
theorem Sums.all {x : List Val3} {R : List (List Nat)} {r s u lo hi : Int} (hx : Sane x) (h : Sums x R.flatten r s u lo hi) (hR : R.flatten.Perm (List.range 20)) :
    r = 20 ∧ s = ((pickN x (List.range 20)).length : Int) ∧ u = (sumO (pickN x (List.range 20))).2.1 ∧ (s = 0 ∨ lo = (leastV 1 (pickN x (List.range 20))).2.1 ∧ hi = (leastV (-1) (pickN x (List.range 20))).2.1) := by
  have hp := pick_perm x hR
  refine ⟨by rw [h.r, hR.length_eq]; simp, by rw [h.s, hp.length_eq], by rw [h.u, sumI_perm hp, sumO_i], ?_⟩
  by_cases he : pickN x (List.range 20) = []
  · left; rw [h.s, hp.length_eq, he]; rfl
  · right
    obtain ⟨_, h2, _, h4⟩ := leastV_is (pick_num hx _) he
    exact ⟨by rw [h.lo, loI_perm hp, h2], by rw [h.hi, hiI_perm hp, h4]⟩
end Go.Proofs.YtiacemlloaenoaaDoor
