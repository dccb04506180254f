
import Derived.Test.YteiabachilpciaaDoorPlainMath
/- Mathematics of what a column can have: the least, the greatest, and how many are nothing. -/
namespace Go.Proofs.YteiabachilpciaaDoor
set_option linter.unusedVariables false

def none3 : Val3 := (0, 0, ⟨#[]⟩)
theorem cmp3_in (a b : Val3) : cmp3 a b = -1 ∨ cmp3 a b = 0 ∨ cmp3 a b = 1 := cmpV_in _ _ _ _ _ _
theorem cmp3_trans (a b c : Val3) (h1 : cmp3 a b ≤ 0) (h2 : cmp3 b c ≤ 0) : cmp3 a c ≤ 0 ∧ (cmp3 a b < 0 ∨ cmp3 b c < 0 → cmp3 a c < 0) := cmpV_trans _ _ _ _ _ _ _ _ _ h1 h2
theorem cmp3_alike {a b : Val3} (c : Val3) (h : cmp3 a b = 0) : cmp3 a c = cmp3 b c := by
  have h' : cmp3 b a = 0 := by rw [cmp3_turn a b, h]; rfl
  rcases cmp3_in a c with k | k | k <;> rcases cmp3_in b c with l | l | l <;> first | (rw [k, l]; done) | skip
  all_goals
    have t1 := cmp3_turn a c
    have t2 := cmp3_turn b c
    first
    | (have := cmp3_trans a b c (by omega) (by omega); omega)
    | (have := cmp3_trans b a c (by omega) (by omega); omega)
    | (have := cmp3_trans c b a (by omega) (by omega); omega)
    | (have := cmp3_trans c a b (by omega) (by omega); omega)

def lowZ (m x : Val3) : Val3 := if x.1 = 0 then m else if m.1 = 0 ∨ cmp3 x m < 0 then x else m
def topZ (m x : Val3) : Val3 := if x.1 = 0 then m else if m.1 = 0 ∨ 0 < cmp3 x m then x else m
def lowZs (m : Val3) (l : List Val3) : Val3 := l.foldl lowZ m
def topZs (m : Val3) (l : List Val3) : Val3 := l.foldl topZ m
def nullsZ (l : List Val3) : Nat := l.countP fun x => x.1 == 0
theorem lowZs_snoc (m : Val3) (l : List Val3) (x : Val3) : lowZs m (l ++ [x]) = lowZ (lowZs m l) x := by unfold lowZs; rw [List.foldl_append]; rfl
theorem topZs_snoc (m : Val3) (l : List Val3) (x : Val3) : topZs m (l ++ [x]) = topZ (topZs m l) x := by unfold topZs; rw [List.foldl_append]; rfl
theorem nullsZ_snoc (l : List Val3) (x : Val3) : nullsZ (l ++ [x]) = nullsZ l + (if x.1 = 0 then 1 else 0) := by
  unfold nullsZ
  rw [List.countP_append, List.countP_cons, List.countP_nil]
  by_cases h : x.1 = 0 <;> simp [h]
theorem nullsZ_le (l : List Val3) : nullsZ l ≤ l.length := List.countP_le_length
theorem nullsZ_append (a b : List Val3) : nullsZ (a ++ b) = nullsZ a + nullsZ b := List.countP_append

/-- What the least is. -/
theorem lowZs_is : ∀ (l : List Val3) (m : Val3), (lowZs m l = m ∨ lowZs m l ∈ l) ∧ ((lowZs m l).1 = 0 ↔ m.1 = 0 ∧ ∀ x ∈ l, x.1 = 0) ∧ (m.1 ≠ 0 → cmp3 (lowZs m l) m ≤ 0) ∧ (∀ x ∈ l, x.1 ≠ 0 → cmp3 (lowZs m l) x ≤ 0)
  | [], m => by
    refine ⟨.inl rfl, ⟨fun h => ⟨h, fun x hx => by cases hx⟩, fun h => h.1⟩, fun _ => ?_, fun x hx => by cases hx⟩
    show cmp3 m m ≤ 0
    rw [cmp3_self]; decide
  | y :: l, m => by
    obtain ⟨i1, i2, i3, i4⟩ := lowZs_is l (lowZ m y)
    have e : lowZs m (y :: l) = lowZs (lowZ m y) l := rfl
    rw [e]
    generalize lowZs (lowZ m y) l = r at i1 i2 i3 i4 ⊢
    by_cases hy : y.1 = 0
    · have ez : lowZ m y = m := if_pos hy
      rw [ez] at i1 i2 i3
      refine ⟨i1.imp id (List.mem_cons_of_mem _), ?_, i3, ?_⟩
      · rw [i2]
        exact ⟨fun h => ⟨h.1, fun x hx => (List.mem_cons.1 hx).elim (fun e => e ▸ hy) (h.2 x)⟩, fun h => ⟨h.1, fun x hx => h.2 x (List.mem_cons_of_mem _ hx)⟩⟩
      · intro x hx h0
        rcases List.mem_cons.1 hx with rfl | hx
        · exact absurd hy h0
        · exact i4 x hx h0
    · by_cases hm : m.1 = 0 ∨ cmp3 y m < 0
      · have ez : lowZ m y = y := by unfold lowZ; rw [if_neg hy, if_pos hm]
        rw [ez] at i1 i2 i3
        refine ⟨.inr (i1.elim (fun e => e ▸ List.mem_cons_self) (List.mem_cons_of_mem _)), ?_, ?_, ?_⟩
        · rw [i2]
          exact ⟨fun h => absurd h.1 hy, fun h => absurd (h.2 y List.mem_cons_self) hy⟩
        · intro h0
          have := i3 hy
          rcases hm with h | h
          · exact absurd h h0
          · exact (cmp3_trans r y m this (by omega)).1
        · intro x hx h0
          rcases List.mem_cons.1 hx with rfl | hx
          · exact i3 hy
          · exact i4 x hx h0
      · have ez : lowZ m y = m := by unfold lowZ; rw [if_neg hy, if_neg hm]
        rw [ez] at i1 i2 i3
        have hm0 : m.1 ≠ 0 := fun h => hm (.inl h)
        have hmy : ¬ cmp3 y m < 0 := fun h => hm (.inr h)
        refine ⟨i1.imp id (List.mem_cons_of_mem _), ?_, i3, ?_⟩
        · rw [i2]
          exact ⟨fun h => absurd h.1 hm0, fun h => absurd h.1 hm0⟩
        · intro x hx h0
          rcases List.mem_cons.1 hx with rfl | hx
          · refine (cmp3_trans r m x (i3 hm0) ?_).1
            have := cmp3_turn m x
            omega
          · exact i4 x hx h0
theorem topZs_is : ∀ (l : List Val3) (m : Val3), (topZs m l = m ∨ topZs m l ∈ l) ∧ ((topZs m l).1 = 0 ↔ m.1 = 0 ∧ ∀ x ∈ l, x.1 = 0) ∧ (m.1 ≠ 0 → cmp3 m (topZs m l) ≤ 0) ∧ (∀ x ∈ l, x.1 ≠ 0 → cmp3 x (topZs m l) ≤ 0)
  | [], m => by
    refine ⟨.inl rfl, ⟨fun h => ⟨h, fun x hx => by cases hx⟩, fun h => h.1⟩, fun _ => ?_, fun x hx => by cases hx⟩
    show cmp3 m m ≤ 0
    rw [cmp3_self]; decide
  | y :: l, m => by
    obtain ⟨i1, i2, i3, i4⟩ := topZs_is l (topZ m y)
    have e : topZs m (y :: l) = topZs (topZ m y) l := rfl
    rw [e]
    generalize topZs (topZ m y) l = r at i1 i2 i3 i4 ⊢
    by_cases hy : y.1 = 0
    · have ez : topZ m y = m := if_pos hy
      rw [ez] at i1 i2 i3
      refine ⟨i1.imp id (List.mem_cons_of_mem _), ?_, i3, ?_⟩
      · rw [i2]
        exact ⟨fun h => ⟨h.1, fun x hx => (List.mem_cons.1 hx).elim (fun e => e ▸ hy) (h.2 x)⟩, fun h => ⟨h.1, fun x hx => h.2 x (List.mem_cons_of_mem _ hx)⟩⟩
      · intro x hx h0
        rcases List.mem_cons.1 hx with rfl | hx
        · exact absurd hy h0
        · exact i4 x hx h0
    · by_cases hm : m.1 = 0 ∨ 0 < cmp3 y m
      · have ez : topZ m y = y := by unfold topZ; rw [if_neg hy, if_pos hm]
        rw [ez] at i1 i2 i3
        refine ⟨.inr (i1.elim (fun e => e ▸ List.mem_cons_self) (List.mem_cons_of_mem _)), ?_, ?_, ?_⟩
        · rw [i2]
          exact ⟨fun h => absurd h.1 hy, fun h => absurd (h.2 y List.mem_cons_self) hy⟩
        · intro h0
          have := i3 hy
          rcases hm with h | h
          · exact absurd h h0
          · have t := cmp3_turn y m
            exact (cmp3_trans m y r (by omega) this).1
        · intro x hx h0
          rcases List.mem_cons.1 hx with rfl | hx
          · exact i3 hy
          · exact i4 x hx h0
      · have ez : topZ m y = m := by unfold topZ; rw [if_neg hy, if_neg hm]
        rw [ez] at i1 i2 i3
        have hm0 : m.1 ≠ 0 := fun h => hm (.inl h)
        have hmy : ¬ 0 < cmp3 y m := fun h => hm (.inr h)
        refine ⟨i1.imp id (List.mem_cons_of_mem _), ?_, i3, ?_⟩
        · rw [i2]
          exact ⟨fun h => absurd h.1 hm0, fun h => absurd h.1 hm0⟩
        · intro x hx h0
          rcases List.mem_cons.1 hx with rfl | hx
          · exact (cmp3_trans x m r (by omega) (i3 hm0)).1
          · exact i4 x hx h0

/-- How the least and the greatest stand to the value of the test, as numbers. -/
def between (op lo hi : Int) : Bool :=
  if op = 1 then decide (lo ≤ 0) && decide (0 ≤ hi) else if op = 2 then decide (lo ≠ 0) || decide (hi ≠ 0) else if op = 3 then decide (lo < 0)
  else if op = 4 then decide (lo ≤ 0) else if op = 5 then decide (0 < hi) else if op = 6 then decide (0 ≤ hi) else false
def canZ (nl : Int) (mn mx : Val3) (n op : Int) (v : Val3) : Bool :=
  if op = 7 then decide (0 < nl) else if op = 8 then decide (nl < n) else if v.1 = 0 ∨ mn.1 = 0 then false else between op (cmp3 mn v) (cmp3 mx v)
/-- Does a value pass? -/
def passZ (x : Val3) (op : Int) (v : Val3) : Bool :=
  if op = 7 then decide (x.1 = 0) else if op = 8 then decide (x.1 ≠ 0) else if x.1 = 0 ∨ v.1 = 0 then false else between op (cmp3 x v) (cmp3 x v)
theorem canZ_one (x : Val3) (op : Int) (v : Val3) : canZ (nullsZ [x]) (lowZs none3 [x]) (topZs none3 [x]) 1 op v = passZ x op v := by
  have e1 : lowZs none3 [x] = if x.1 = 0 then none3 else x := by
    show lowZ none3 x = _
    unfold lowZ
    by_cases h : x.1 = 0
    · rw [if_pos h, if_pos h]
    · rw [if_neg h, if_neg h, if_pos (.inl rfl)]
  have e2 : topZs none3 [x] = if x.1 = 0 then none3 else x := by
    show topZ none3 x = _
    unfold topZ
    by_cases h : x.1 = 0
    · rw [if_pos h, if_pos h]
    · rw [if_neg h, if_neg h, if_pos (.inl rfl)]
  have e3 : nullsZ [x] = if x.1 = 0 then 1 else 0 := by
    simp [nullsZ, List.countP_cons]
  rw [e1, e2, e3]
  unfold canZ passZ
  by_cases h : x.1 = 0
  · simp only [h, if_true]
    have e0 : none3.1 = 0 := rfl
    simp [e0]
  · simp only [h, if_false]
    by_cases hv : v.1 = 0
    · simp [hv, h]
    · simp [hv, h]
theorem canZ_all {l : List Val3} {op : Int} {v : Val3} {x : Val3} (hx : x ∈ l) (hp : passZ x op v = true) : canZ (nullsZ l) (lowZs none3 l) (topZs none3 l) l.length op v = true := by
  obtain ⟨_, i2, _, i4⟩ := lowZs_is l none3
  obtain ⟨_, j2, _, j4⟩ := topZs_is l none3
  have hle := nullsZ_le l
  unfold passZ at hp
  unfold canZ
  by_cases h7 : op = 7
  · rw [if_pos h7] at hp ⊢
    have h0 : x.1 = 0 := by simpa using hp
    have : 0 < nullsZ l := List.countP_pos_iff.2 ⟨x, hx, by simp [h0]⟩
    simp; omega
  · rw [if_neg h7] at hp ⊢
    by_cases h8 : op = 8
    · rw [if_pos h8] at hp ⊢
      have h0 : x.1 ≠ 0 := by simpa using hp
      have : nullsZ l < l.length := by
        rcases Nat.lt_or_ge (nullsZ l) l.length with h | h
        · exact h
        · have he : nullsZ l = l.length := by omega
          have := (List.countP_eq_length (p := fun x : Val3 => x.1 == 0)).1 he x hx
          exact absurd (by simpa using this) h0
      simp; omega
    · rw [if_neg h8] at hp ⊢
      by_cases h0 : x.1 = 0 ∨ v.1 = 0
      · rw [if_pos h0] at hp; cases hp
      · rw [if_neg h0] at hp
        have hx0 : x.1 ≠ 0 := fun h => h0 (.inl h)
        have hv0 : v.1 ≠ 0 := fun h => h0 (.inr h)
        have hl0 : ¬ (v.1 = 0 ∨ (lowZs none3 l).1 = 0) := by
          rintro (h | h)
          · exact hv0 h
          · exact hx0 ((i2.1 h).2 x hx)
        rw [if_neg hl0]
        have a1 := i4 x hx hx0
        have a2 := j4 x hx hx0
        generalize lowZs none3 l = lo at a1 ⊢
        generalize topZs none3 l = hi at a2 ⊢
        have t1 := cmp3_turn lo x
        have t2 := cmp3_turn x hi
        have tv := cmp3_turn x v
        have tl := cmp3_turn lo v
        have th := cmp3_turn hi v
        have b1 : cmp3 x v ≤ 0 → cmp3 lo v ≤ 0 ∧ (cmp3 lo x < 0 ∨ cmp3 x v < 0 → cmp3 lo v < 0) := fun h => cmp3_trans lo x v a1 h
        have b2 : cmp3 v x ≤ 0 → cmp3 v hi ≤ 0 ∧ (cmp3 v x < 0 ∨ cmp3 x hi < 0 → cmp3 v hi < 0) := fun h => cmp3_trans v x hi h a2
        generalize cmp3 x v = c at hp b1 tv
        generalize cmp3 v x = c' at b2 tv
        generalize cmp3 lo v = p at b1 tl ⊢
        generalize cmp3 hi v = q at th ⊢
        generalize cmp3 v hi = q' at b2 th
        unfold between at hp ⊢
        repeat' split at hp
        all_goals first | (cases hp; done) | skip
        all_goals simp only [Bool.and_eq_true, Bool.or_eq_true, decide_eq_true_eq] at hp
        all_goals simp [*]
        all_goals omega

/-- Values of a type, or nothing. -/
def Kind3 (t : Int) (x : Val3) : Prop := (x.1 = 0 ∨ x.1 = t) ∧ MayV x.1 x.2.1 x.2.2.size
theorem kind3_zero {t : Int} {x : Val3} (h : Kind3 t x) (h0 : x.1 = 0) : x = none3 := by
  obtain ⟨a, i, s⟩ := x
  obtain ⟨_, hm⟩ := h
  simp only at h0 hm
  subst h0
  unfold MayV at hm
  have hi : i = 0 := by omega
  have hs : s.size = 0 := by omega
  rw [hi, byte_nil hs]; rfl
theorem kind3_same {t : Int} {x y : Val3} (ht : 1 ≤ t ∧ t ≤ 4) (hx : Kind3 t x) (hy : Kind3 t y) (h0 : x.1 ≠ 0) (h1 : y.1 ≠ 0) (hc : cmp3 x y = 0) : x = y := by
  obtain ⟨a, i, s⟩ := x
  obtain ⟨b, j, r⟩ := y
  obtain ⟨ka, ma⟩ := hx
  obtain ⟨kb, mb⟩ := hy
  simp only at h0 h1 ka kb ma mb
  have ha : a = t := ka.elim (fun h => absurd h h0) id
  have hb : b = t := kb.elim (fun h => absurd h h1) id
  subst ha hb
  unfold cmp3 at hc
  simp only at hc
  rw [cmpV_near rfl] at hc
  rcases rankV_in b with ⟨h, hr⟩ | ⟨h, hr⟩ | ⟨h, h', hr⟩
  · exact absurd h h0
  · rw [hr, if_neg (by decide), if_pos rfl] at hc
    have e := cmpS_zero _ _ hc
    have hi : i = 0 := by unfold MayV at ma; omega
    have hj : j = 0 := by unfold MayV at mb; omega
    have es : s = r := by
      cases s with | mk s => cases r with | mk r => exact congrArg ByteArray.mk (Array.ext' e)
    rw [hi, hj, es]
  · rw [hr, if_neg (by decide), if_neg (by decide)] at hc
    have hij : i = j := by rcases cmpI_in i j with k | k | k <;> omega
    have hs : s.size = 0 := by unfold MayV at ma; omega
    have hr' : r.size = 0 := by unfold MayV at mb; omega
    rw [hij, byte_nil hs, byte_nil hr']
/-- The least of all is the least of the ends of the parts. -/
theorem ends_low {t : Int} (ht : 1 ≤ t ∧ t ≤ 4) {a b : List Val3} (ha : ∀ x ∈ a ++ b, Kind3 t x) :
    lowZs none3 (a ++ b) = lowZs none3 [lowZs none3 a, topZs none3 a, lowZs none3 b, topZs none3 b] := by
  obtain ⟨la1, la2, _, la4⟩ := lowZs_is a none3
  obtain ⟨ta1, ta2, _, ta4⟩ := topZs_is a none3
  obtain ⟨lb1, lb2, _, lb4⟩ := lowZs_is b none3
  obtain ⟨tb1, tb2, _, tb4⟩ := topZs_is b none3
  obtain ⟨z1, z2, _, z4⟩ := lowZs_is (a ++ b) none3
  obtain ⟨e1, e2, _, e4⟩ := lowZs_is [lowZs none3 a, topZs none3 a, lowZs none3 b, topZs none3 b] none3
  generalize lowZs none3 a = la at *
  generalize topZs none3 a = ta at *
  generalize lowZs none3 b = lb at *
  generalize topZs none3 b = tb at *
  generalize lowZs none3 (a ++ b) = z at *
  generalize lowZs none3 [la, ta, lb, tb] = e at *
  have kn : Kind3 t none3 := ⟨.inl rfl, .inl ⟨rfl, rfl, rfl⟩⟩
  have inA : ∀ {x : Val3}, (x = none3 ∨ x ∈ a) → x = none3 ∨ x ∈ a ++ b := fun h => h.imp id (List.mem_append_left _)
  have inB : ∀ {x : Val3}, (x = none3 ∨ x ∈ b) → x = none3 ∨ x ∈ a ++ b := fun h => h.imp id (List.mem_append_right _)
  have kz : ∀ {x : Val3}, (x = none3 ∨ x ∈ a ++ b) → Kind3 t x := fun h => by
    rcases h with rfl | h
    · exact kn
    · exact ha _ h
  have he : e = none3 ∨ e ∈ a ++ b := by
    rcases e1 with h | h
    · exact .inl h
    · simp only [List.mem_cons, List.not_mem_nil, or_false] at h
      rcases h with rfl | rfl | rfl | rfl
      · exact inA la1
      · exact inA ta1
      · exact inB lb1
      · exact inB tb1
  by_cases hz : z.1 = 0
  · have h := (z2.1 hz).2
    have hez : e.1 = 0 := by
      rcases he with rfl | h'
      · rfl
      · exact h _ h'
    rw [kind3_zero (kz z1) hz, kind3_zero (kz he) hez]
  · have hzm : z ∈ a ++ b := z1.resolve_left fun h => hz (by rw [h]; rfl)
    have hee : e.1 ≠ 0 := fun h => by
      have h4 := (e2.1 h).2
      rcases List.mem_append.1 hzm with h' | h'
      · exact hz ((la2.1 (h4 la (by simp))).2 _ h')
      · exact hz ((lb2.1 (h4 lb (by simp))).2 _ h')
    have hem : e ∈ a ++ b := he.resolve_left fun h => hee (by rw [h]; rfl)
    have c1 := z4 e hem hee
    have c2 : cmp3 e z ≤ 0 := by
      rcases List.mem_append.1 hzm with h' | h'
      · have h0 : la.1 ≠ 0 := fun h => hz ((la2.1 h).2 _ h')
        exact (cmp3_trans e la z (e4 la (by simp) h0) (la4 z h' hz)).1
      · have h0 : lb.1 ≠ 0 := fun h => hz ((lb2.1 h).2 _ h')
        exact (cmp3_trans e lb z (e4 lb (by simp) h0) (lb4 z h' hz)).1
    have := cmp3_turn e z
    exact kind3_same ht (kz z1) (kz he) hz hee (by omega)
theorem ends_top {t : Int} (ht : 1 ≤ t ∧ t ≤ 4) {a b : List Val3} (ha : ∀ x ∈ a ++ b, Kind3 t x) :
    topZs none3 (a ++ b) = topZs none3 [lowZs none3 a, topZs none3 a, lowZs none3 b, topZs none3 b] := by
  obtain ⟨la1, la2, _, la4⟩ := lowZs_is a none3
  obtain ⟨ta1, ta2, _, ta4⟩ := topZs_is a none3
  obtain ⟨lb1, lb2, _, lb4⟩ := lowZs_is b none3
  obtain ⟨tb1, tb2, _, tb4⟩ := topZs_is b none3
  obtain ⟨z1, z2, _, z4⟩ := topZs_is (a ++ b) none3
  obtain ⟨e1, e2, _, e4⟩ := topZs_is [lowZs none3 a, topZs none3 a, lowZs none3 b, topZs none3 b] none3
  generalize lowZs none3 a = la at *
  generalize topZs none3 a = ta at *
  generalize lowZs none3 b = lb at *
  generalize topZs none3 b = tb at *
  generalize topZs none3 (a ++ b) = z at *
  generalize topZs none3 [la, ta, lb, tb] = e at *
  have kn : Kind3 t none3 := ⟨.inl rfl, .inl ⟨rfl, rfl, rfl⟩⟩
  have inA : ∀ {x : Val3}, (x = none3 ∨ x ∈ a) → x = none3 ∨ x ∈ a ++ b := fun h => h.imp id (List.mem_append_left _)
  have inB : ∀ {x : Val3}, (x = none3 ∨ x ∈ b) → x = none3 ∨ x ∈ a ++ b := fun h => h.imp id (List.mem_append_right _)
  have kz : ∀ {x : Val3}, (x = none3 ∨ x ∈ a ++ b) → Kind3 t x := fun h => by
    rcases h with rfl | h
    · exact kn
    · exact ha _ h
  have he : e = none3 ∨ e ∈ a ++ b := by
    rcases e1 with h | h
    · exact .inl h
    · simp only [List.mem_cons, List.not_mem_nil, or_false] at h
      rcases h with rfl | rfl | rfl | rfl
      · exact inA la1
      · exact inA ta1
      · exact inB lb1
      · exact inB tb1
  by_cases hz : z.1 = 0
  · have h := (z2.1 hz).2
    have hez : e.1 = 0 := by
      rcases he with rfl | h'
      · rfl
      · exact h _ h'
    rw [kind3_zero (kz z1) hz, kind3_zero (kz he) hez]
  · have hzm : z ∈ a ++ b := z1.resolve_left fun h => hz (by rw [h]; rfl)
    have hee : e.1 ≠ 0 := fun h => by
      have h4 := (e2.1 h).2
      rcases List.mem_append.1 hzm with h' | h'
      · exact hz ((ta2.1 (h4 ta (by simp))).2 _ h')
      · exact hz ((tb2.1 (h4 tb (by simp))).2 _ h')
    have hem : e ∈ a ++ b := he.resolve_left fun h => hee (by rw [h]; rfl)
    have c1 := z4 e hem hee
    have c2 : cmp3 z e ≤ 0 := by
      rcases List.mem_append.1 hzm with h' | h'
      · have h0 : ta.1 ≠ 0 := fun h => hz ((ta2.1 h).2 _ h')
        exact (cmp3_trans z ta e (ta4 z h' hz) (e4 ta (by simp) h0)).1
      · have h0 : tb.1 ≠ 0 := fun h => hz ((tb2.1 h).2 _ h')
        exact (cmp3_trans z tb e (tb4 z h' hz) (e4 tb (by simp) h0)).1
    have := cmp3_turn e z
    exact kind3_same ht (kz z1) (kz he) hz hee (by omega)
end Go.Proofs.YteiabachilpciaaDoor
