
import Derived.Test.YtkdpjocglfephaaDoorBase
import Derived.WalkKit
import Derived.Laws.OwnMore
import Derived.Laws.BytesArg
import Derived.Laws.Rows
import Derived.Deep.AppendLies
import Derived.Deep.Draws
import Derived.Test.YtkdpjocglfephaaDoorChecked
import Derived.Deep.OwnRows
import Derived.Lib.Hide
import Derived.Deep.Quiet
import Derived.Laws.AppendOwnNone
import Derived.Lib.Strings
import Derived.Outline
import Derived.WalkLawsBesides
import Derived.WalkSpells
import Derived.PlainAid
import Derived.Deep.QuietTactic
import Derived.BigQuiet
import Derived.RegionTactic
import Derived.BigRegion
import Derived.Handy
import Derived.Laws.BitsAllLaws
import Derived.Deep.RegionWith
import Derived.Lib.AppendStr
import Derived.Deep.RegionLaw
import Derived.Maps.AppendAt
import Derived.OpenShut
import Derived.WideShapes
import Derived.ChangeArms
import Derived.Deep.Slices
import Derived.Sort.Grow
import Derived.LaidEql
import Derived.Stop.Asserts
import Derived.RowKitTokens
import Derived.Laws.BitsLemmas
import Derived.Laws.Bits64
import Derived.WalkSmall
import Derived.Stop.IfaceNil
import Derived.Lib.Bytealg
import Derived.Deep.SlicePairs
import Derived.Shelf.Abstract
import Derived.Test.YtkdpjocglfephaaDoorShelf
import Derived.Deep.RegionHeld3


/- Mathematics of what a column can have: the least, the greatest, and how many are nothing. -/
namespace Go.Proofs.YtkdpjocglfephaaDoor
set_option linter.unusedVariables false

def none3 : Val3 := (0, 0, ⟨#[]⟩)
theorem cmp3_trans (a b c : Val3) (h1 : cmp3 a b ≤ 0) (h2 : cmp3 b c ≤ 0) : cmp3 a c ≤ 0 ∧ (cmp3 a b < 0 ∨ cmp3 b c < 0 → cmp3 a c < 0) := cmpV_trans _ _ _ _ _ _ _ _ _ h1 h2
def lowZ (m x : Val3) : Val3 := if x.1 = 0 then m else if m.1 = 0 ∨ cmp3 x m < 0 then x else m
def topZ (m x : Val3) : Val3 := if x.1 = 0 then m else if m.1 = 0 ∨ 0 < cmp3 x m then x else m
def lowZs (m : Val3) (l : List Val3) : Val3 := l.foldl lowZ m
def topZs (m : Val3) (l : List Val3) : Val3 := l.foldl topZ m
def nullsZ (l : List Val3) : Nat := l.countP fun x => x.1 == 0
theorem lowZs_snoc (m : Val3) (l : List Val3) (x : Val3) : lowZs m (l ++ [x]) = lowZ (lowZs m l) x := by unfold lowZs; rw [List.foldl_append]; rfl
theorem topZs_snoc (m : Val3) (l : List Val3) (x : Val3) : topZs m (l ++ [x]) = topZ (topZs m l) x := by unfold topZs; rw [List.foldl_append]; rfl
theorem nullsZ_snoc (l : List Val3) (x : Val3) : nullsZ (l ++ [x]) = nullsZ l + (if x.1 = 0 then 1 else 0) := by
  unfold nullsZ
  rw [List.countP_append, List.countP_cons, List.countP_nil]
  by_cases h : x.1 = 0 <;> simp [h]
theorem nullsZ_le (l : List Val3) : nullsZ l ≤ l.length := List.countP_le_length
/-- What the least is. -/
theorem lowZs_is : ∀ (l : List Val3) (m : Val3), (lowZs m l = m ∨ lowZs m l ∈ l) ∧ ((lowZs m l).1 = 0 ↔ m.1 = 0 ∧ ∀ x ∈ l, x.1 = 0) ∧ (m.1 ≠ 0 → cmp3 (lowZs m l) m ≤ 0) ∧ (∀ x ∈ l, x.1 ≠ 0 → cmp3 (lowZs m l) x ≤ 0)
  | [], m => by
    refine ⟨.inl rfl, ⟨fun h => ⟨h, fun x hx => by cases hx⟩, fun h => h.1⟩, fun _ => ?_, fun x hx => by cases hx⟩
    show cmp3 m m ≤ 0
    rw [cmp3_self]; decide
  | y :: l, m => by
    obtain ⟨i1, i2, i3, i4⟩ := lowZs_is l (lowZ m y)
    have e : lowZs m (y :: l) = lowZs (lowZ m y) l := rfl
    rw [e]
    generalize lowZs (lowZ m y) l = r at i1 i2 i3 i4 ⊢
    by_cases hy : y.1 = 0
    · have ez : lowZ m y = m := if_pos hy
      rw [ez] at i1 i2 i3
      refine ⟨i1.imp id (List.mem_cons_of_mem _), ?_, i3, ?_⟩
      · rw [i2]
        exact ⟨fun h => ⟨h.1, fun x hx => (List.mem_cons.1 hx).elim (fun e => e ▸ hy) (h.2 x)⟩, fun h => ⟨h.1, fun x hx => h.2 x (List.mem_cons_of_mem _ hx)⟩⟩
      · intro x hx h0
        rcases List.mem_cons.1 hx with rfl | hx
        · exact absurd hy h0
        · exact i4 x hx h0
    · by_cases hm : m.1 = 0 ∨ cmp3 y m < 0
      · have ez : lowZ m y = y := by unfold lowZ; rw [if_neg hy, if_pos hm]
        rw [ez] at i1 i2 i3
        refine ⟨.inr (i1.elim (fun e => e ▸ List.mem_cons_self) (List.mem_cons_of_mem _)), ?_, ?_, ?_⟩
        · rw [i2]
          exact ⟨fun h => absurd h.1 hy, fun h => absurd (h.2 y List.mem_cons_self) hy⟩
        · intro h0
          have := i3 hy
          rcases hm with h | h
          · exact absurd h h0
          · exact (cmp3_trans r y m this (by omega)).1
        · intro x hx h0
          rcases List.mem_cons.1 hx with rfl | hx
          · exact i3 hy
          · exact i4 x hx h0
      · have ez : lowZ m y = m := by unfold lowZ; rw [if_neg hy, if_neg hm]
        rw [ez] at i1 i2 i3
        have hm0 : m.1 ≠ 0 := fun h => hm (.inl h)
        have hmy : ¬ cmp3 y m < 0 := fun h => hm (.inr h)
        refine ⟨i1.imp id (List.mem_cons_of_mem _), ?_, i3, ?_⟩
        · rw [i2]
          exact ⟨fun h => absurd h.1 hm0, fun h => absurd h.1 hm0⟩
        · intro x hx h0
          rcases List.mem_cons.1 hx with rfl | hx
          · refine (cmp3_trans r m x (i3 hm0) ?_).1
            have := cmp3_turn m x
            omega
          · exact i4 x hx h0
theorem topZs_is : ∀ (l : List Val3) (m : Val3), (topZs m l = m ∨ topZs m l ∈ l) ∧ ((topZs m l).1 = 0 ↔ m.1 = 0 ∧ ∀ x ∈ l, x.1 = 0) ∧ (m.1 ≠ 0 → cmp3 m (topZs m l) ≤ 0) ∧ (∀ x ∈ l, x.1 ≠ 0 → cmp3 x (topZs m l) ≤ 0)
  | [], m => by
    refine ⟨.inl rfl, ⟨fun h => ⟨h, fun x hx => by cases hx⟩, fun h => h.1⟩, fun _ => ?_, fun x hx => by cases hx⟩
    show cmp3 m m ≤ 0
    rw [cmp3_self]; decide
  | y :: l, m => by
    obtain ⟨i1, i2, i3, i4⟩ := topZs_is l (topZ m y)
    have e : topZs m (y :: l) = topZs (topZ m y) l := rfl
    rw [e]
    generalize topZs (topZ m y) l = r at i1 i2 i3 i4 ⊢
    by_cases hy : y.1 = 0
    · have ez : topZ m y = m := if_pos hy
      rw [ez] at i1 i2 i3
      refine ⟨i1.imp id (List.mem_cons_of_mem _), ?_, i3, ?_⟩
      · rw [i2]
        exact ⟨fun h => ⟨h.1, fun x hx => (List.mem_cons.1 hx).elim (fun e => e ▸ hy) (h.2 x)⟩, fun h => ⟨h.1, fun x hx => h.2 x (List.mem_cons_of_mem _ hx)⟩⟩
      · intro x hx h0
        rcases List.mem_cons.1 hx with rfl | hx
        · exact absurd hy h0
        · exact i4 x hx h0
    · by_cases hm : m.1 = 0 ∨ 0 < cmp3 y m
      · have ez : topZ m y = y := by unfold topZ; rw [if_neg hy, if_pos hm]
        rw [ez] at i1 i2 i3
        refine ⟨.inr (i1.elim (fun e => e ▸ List.mem_cons_self) (List.mem_cons_of_mem _)), ?_, ?_, ?_⟩
        · rw [i2]
          exact ⟨fun h => absurd h.1 hy, fun h => absurd (h.2 y List.mem_cons_self) hy⟩
        · intro h0
          have := i3 hy
          rcases hm with h | h
          · exact absurd h h0
          · have t := cmp3_turn y m
            exact (cmp3_trans m y r (by omega) this).1
        · intro x hx h0
          rcases List.mem_cons.1 hx with rfl | hx
          · exact i3 hy
          · exact i4 x hx h0
      · have ez : topZ m y = m := by unfold topZ; rw [if_neg hy, if_neg hm]
        rw [ez] at i1 i2 i3
        have hm0 : m.1 ≠ 0 := fun h => hm (.inl h)
        have hmy : ¬ 0 < cmp3 y m := fun h => hm (.inr h)
        refine ⟨i1.imp id (List.mem_cons_of_mem _), ?_, i3, ?_⟩
        · rw [i2]
          exact ⟨fun h => absurd h.1 hm0, fun h => absurd h.1 hm0⟩
        · intro x hx h0
          rcases List.mem_cons.1 hx with rfl | hx
          · exact (cmp3_trans x m r (by omega) (i3 hm0)).1
          · exact i4 x hx h0

/-- How the least and the greatest stand to the value of the test, as numbers. -/
def between (op lo hi : Int) : Bool :=
  if op = 1 then decide (lo ≤ 0) && decide (0 ≤ hi) else if op = 2 then decide (lo ≠ 0) || decide (hi ≠ 0) else if op = 3 then decide (lo < 0)
  else if op = 4 then decide (lo ≤ 0) else if op = 5 then decide (0 < hi) else if op = 6 then decide (0 ≤ hi) else false
def canZ (nl : Int) (mn mx : Val3) (n op : Int) (v : Val3) : Bool :=
  if op = 7 then decide (0 < nl) else if op = 8 then decide (nl < n) else if v.1 = 0 ∨ mn.1 = 0 then false else between op (cmp3 mn v) (cmp3 mx v)
/-- Does a value pass? -/
def passZ (x : Val3) (op : Int) (v : Val3) : Bool :=
  if op = 7 then decide (x.1 = 0) else if op = 8 then decide (x.1 ≠ 0) else if x.1 = 0 ∨ v.1 = 0 then false else between op (cmp3 x v) (cmp3 x v)
theorem canZ_all {l : List Val3} {op : Int} {v : Val3} {x : Val3} (hx : x ∈ l) (hp : passZ x op v = true) : canZ (nullsZ l) (lowZs none3 l) (topZs none3 l) l.length op v = true := by
  obtain ⟨_, i2, _, i4⟩ := lowZs_is l none3
  obtain ⟨_, j2, _, j4⟩ := topZs_is l none3
  have hle := nullsZ_le l
  unfold passZ at hp
  unfold canZ
  by_cases h7 : op = 7
  · rw [if_pos h7] at hp ⊢
    have h0 : x.1 = 0 := by simpa using hp
    have : 0 < nullsZ l := List.countP_pos_iff.2 ⟨x, hx, by simp [h0]⟩
    simp; omega
  · rw [if_neg h7] at hp ⊢
    by_cases h8 : op = 8
    · rw [if_pos h8] at hp ⊢
      have h0 : x.1 ≠ 0 := by simpa using hp
      have : nullsZ l < l.length := by
        rcases Nat.lt_or_ge (nullsZ l) l.length with h | h
        · exact h
        · have he : nullsZ l = l.length := by omega
          have := (List.countP_eq_length (p := fun x : Val3 => x.1 == 0)).1 he x hx
          exact absurd (by simpa using this) h0
      simp; omega
    · rw [if_neg h8] at hp ⊢
      by_cases h0 : x.1 = 0 ∨ v.1 = 0
      · rw [if_pos h0] at hp; cases hp
      · rw [if_neg h0] at hp
        have hx0 : x.1 ≠ 0 := fun h => h0 (.inl h)
        have hv0 : v.1 ≠ 0 := fun h => h0 (.inr h)
        have hl0 : ¬ (v.1 = 0 ∨ (lowZs none3 l).1 = 0) := by
          rintro (h | h)
          · exact hv0 h
          · exact hx0 ((i2.1 h).2 x hx)
        rw [if_neg hl0]
        have a1 := i4 x hx hx0
        have a2 := j4 x hx hx0
        generalize lowZs none3 l = lo at a1 ⊢
        generalize topZs none3 l = hi at a2 ⊢
        have t1 := cmp3_turn lo x
        have t2 := cmp3_turn x hi
        have tv := cmp3_turn x v
        have tl := cmp3_turn lo v
        have th := cmp3_turn hi v
        have b1 : cmp3 x v ≤ 0 → cmp3 lo v ≤ 0 ∧ (cmp3 lo x < 0 ∨ cmp3 x v < 0 → cmp3 lo v < 0) := fun h => cmp3_trans lo x v a1 h
        have b2 : cmp3 v x ≤ 0 → cmp3 v hi ≤ 0 ∧ (cmp3 v x < 0 ∨ cmp3 x hi < 0 → cmp3 v hi < 0) := fun h => cmp3_trans v x hi h a2
        generalize cmp3 x v = c at hp b1 tv
        generalize cmp3 v x = c' at b2 tv
        generalize cmp3 lo v = p at b1 tl ⊢
        generalize cmp3 hi v = q at th ⊢
        generalize cmp3 v hi = q' at b2 th
        unfold between at hp ⊢
        repeat' split at hp
        all_goals first | (cases hp; done) | skip
        all_goals simp only [Bool.and_eq_true, Bool.or_eq_true, decide_eq_true_eq] at hp
        all_goals simp [*]
        all_goals omega

end Go.Proofs.YtkdpjocglfephaaDoor

/- Tests in memory; what they say (mathematics). -/


namespace Go.Proofs.YtkdpjocglfephaaDoor
open Go.RowKit
set_option linter.unusedVariables false

/-- A test: name, op, value, or, not. -/
structure Tst where
  nm : ByteArray
  op : Int
  v : Val3
  or_ : Bool
  not_ : Bool
instance : Inhabited Tst := ⟨⟨⟨#[]⟩, 0, (0, 0, ⟨#[]⟩), false, false⟩⟩
abbrev tcs (nm : ByteArray) (op vt vi : Int) (vs : ByteArray) (o n : Bool) : Array Value := #[.string nm, .int .i64 op, .int .i64 vt, .int .i64 vi, .string vs, .bool o, .bool n]
abbrev tagg (nm : ByteArray) (op vt vi : Int) (vs : ByteArray) (o n : Bool) : Value := .agg #[.string nm, .int .i64 op, .int .i64 vt, .int .i64 vi, .string vs, .bool o, .bool n]
def encT (t : Tst) : List Value := [.string t.nm, .int .i64 t.op, .int .i64 t.v.1, .int .i64 t.v.2.1, .string t.v.2.2, .bool t.or_, .bool t.not_]
def ft (l : List Tst) : List Value := l.flatMap encT
theorem ft_append (a b : List Tst) : ft (a ++ b) = ft a ++ ft b := List.flatMap_append
theorem ft_length : ∀ l : List Tst, (ft l).length = l.length * 7
  | [] => rfl
  | x :: r => by
    have := ft_length r
    show (encT x ++ ft r).length = _
    rw [List.length_append, this, List.length_cons]
    simp [encT]; omega
theorem ft_get : ∀ (l : List Tst) (k : Nat) (h : k < l.length) (i : Nat) (hi : i < 7), (ft l)[k * 7 + i]? = (encT l[k])[i]?
  | x :: r, 0, _, i, hi => by
    show (encT x ++ ft r)[0 * 7 + i]? = _
    rw [Nat.zero_mul, Nat.zero_add, List.getElem?_append_left (by simpa [encT] using hi)]; rfl
  | x :: r, k + 1, h, i, hi => by
    have ih := ft_get r k (by simpa using h) i hi
    show (encT x ++ ft r)[(k + 1) * 7 + i]? = _
    rw [List.getElem?_append_right (by simp [encT]; omega)]
    rw [show (k + 1) * 7 + i - (encT x).length = k * 7 + i by simp [encT]; omega]
    exact ih
theorem ft_one (l : List Tst) : ∀ u ∈ ft l, u.oneCell' = true := by
  intro u hu
  obtain ⟨x, _, hx⟩ := List.mem_flatMap.1 hu
  simp only [encT, List.mem_cons, List.not_mem_nil, or_false] at hx
  rcases hx with rfl | rfl | rfl | rfl | rfl | rfl | rfl <;> rfl
/-- A test's cells. -/
def TstAt (w : World) (b o : Nat) (t : Tst) : Prop :=
  CellIs w ⟨b, o, none⟩ (.string t.nm) ∧ CellIs w ⟨b, o + 1, none⟩ (.int .i64 t.op) ∧ CellIs w ⟨b, o + 2, none⟩ (.int .i64 t.v.1) ∧ CellIs w ⟨b, o + 3, none⟩ (.int .i64 t.v.2.1) ∧ CellIs w ⟨b, o + 4, none⟩ (.string t.v.2.2) ∧ CellIs w ⟨b, o + 5, none⟩ (.bool t.or_) ∧ CellIs w ⟨b, o + 6, none⟩ (.bool t.not_)
theorem TstAt.later {w w' : World} {b o : Nat} {t : Tst} (h : TstAt w b o t) (k : Later w w') : TstAt w' b o t :=
  ⟨h.1.later k, h.2.1.later k, h.2.2.1.later k, h.2.2.2.1.later k, h.2.2.2.2.1.later k, h.2.2.2.2.2.1.later k, h.2.2.2.2.2.2.later k⟩
theorem Has.tst {w : World} {A : Option Addr} {l : List Tst} (h : Has w A (ft l)) (k : Nat) (hk : k < l.length) : ∃ b off, A = some ⟨b, off, none⟩ ∧ TstAt w b (off + k * 7) l[k] := by
  rcases h with h | ⟨b, off, hA, _, hc⟩
  · have h1 := ft_length l
    rw [h] at h1
    simp at h1
    omega
  · refine ⟨b, off, hA, ?_, ?_, ?_, ?_, ?_, ?_, ?_⟩
    · exact hc (k * 7 + 0) _ (ft_get l k hk 0 (by decide))
    · have := hc (k * 7 + 1) _ (ft_get l k hk 1 (by decide)); rw [← Nat.add_assoc] at this; exact this
    · have := hc (k * 7 + 2) _ (ft_get l k hk 2 (by decide)); rw [← Nat.add_assoc] at this; exact this
    · have := hc (k * 7 + 3) _ (ft_get l k hk 3 (by decide)); rw [← Nat.add_assoc] at this; exact this
    · have := hc (k * 7 + 4) _ (ft_get l k hk 4 (by decide)); rw [← Nat.add_assoc] at this; exact this
    · have := hc (k * 7 + 5) _ (ft_get l k hk 5 (by decide)); rw [← Nat.add_assoc] at this; exact this
    · have := hc (k * 7 + 6) _ (ft_get l k hk 6 (by decide)); rw [← Nat.add_assoc] at this; exact this

def sureN (b : Bool) : Int := if b then 2 else 0
/-- What a test says of a value, but for Not. -/
def saysT (op : Int) (t v : Val3) : Int :=
  if op = 7 then sureN (decide (v.1 = 0)) else if op = 8 then sureN (!decide (v.1 = 0)) else if v.1 = 0 ∨ t.1 = 0 then 1 else sureN (between op (cmp3 v t) (cmp3 v t))
def oneT (cols : List Col3) (row : List Val3) (t : Tst) : Int :=
  let said := match (findC cols t.nm).bind (fun k => row[k]?) with | some v => saysT t.op t.v v | none => 1
  if t.not_ then 2 - said else said
def stepT (cols : List Col3) (row : List Val3) (s : Bool × Int × Int) (t : Tst) : Bool × Int × Int :=
  if s.1 && t.or_ then (true, max s.2.1 s.2.2, min 2 (oneT cols row t)) else (true, s.2.1, min s.2.2 (oneT cols row t))
def rowS (cols : List Col3) (row : List Val3) (l : List Tst) : Bool × Int × Int := l.foldl (stepT cols row) (false, 0, 2)
theorem rowS_snoc (cols : List Col3) (row : List Val3) (l : List Tst) (t : Tst) : rowS cols row (l ++ [t]) = stepT cols row (rowS cols row l) t := by unfold rowS; rw [List.foldl_append]; rfl
/-- What tests say of a row. -/
def rowT (cols : List Col3) (l : List Tst) (row : List Val3) : Int := max (rowS cols row l).2.1 (rowS cols row l).2.2
theorem sureN_in (b : Bool) : sureN b = 0 ∨ sureN b = 2 := by unfold sureN; cases b <;> simp
theorem saysT_in (op : Int) (t v : Val3) : 0 ≤ saysT op t v ∧ saysT op t v ≤ 2 := by
  unfold saysT
  split
  · rcases sureN_in (decide (v.1 = 0)) with h | h <;> omega
  · split
    · rcases sureN_in (!decide (v.1 = 0)) with h | h <;> omega
    · split
      · omega
      · rcases sureN_in (between op (cmp3 v t) (cmp3 v t)) with h | h <;> omega
theorem oneT_in (cols : List Col3) (row : List Val3) (t : Tst) : 0 ≤ oneT cols row t ∧ oneT cols row t ≤ 2 := by
  unfold oneT
  have : 0 ≤ (match (findC cols t.nm).bind (fun k => row[k]?) with | some v => saysT t.op t.v v | none => 1) ∧ (match (findC cols t.nm).bind (fun k => row[k]?) with | some v => saysT t.op t.v v | none => 1) ≤ 2 := by
    split
    · exact saysT_in _ _ _
    · omega
  dsimp only
  split <;> omega
theorem rowS_in (cols : List Col3) (row : List Val3) (l : List Tst) : (0 ≤ (rowS cols row l).2.1 ∧ (rowS cols row l).2.1 ≤ 2) ∧ 0 ≤ (rowS cols row l).2.2 ∧ (rowS cols row l).2.2 ≤ 2 := by
  have key : ∀ (r : List Tst) (s : Bool × Int × Int), (0 ≤ s.2.1 ∧ s.2.1 ≤ 2) ∧ 0 ≤ s.2.2 ∧ s.2.2 ≤ 2 → (0 ≤ (r.foldl (stepT cols row) s).2.1 ∧ (r.foldl (stepT cols row) s).2.1 ≤ 2) ∧ 0 ≤ (r.foldl (stepT cols row) s).2.2 ∧ (r.foldl (stepT cols row) s).2.2 ≤ 2 := by
    intro r
    induction r with
    | nil => intro s h; exact h
    | cons t r ih =>
      intro s h
      refine ih _ ?_
      have := oneT_in cols row t
      unfold stepT
      split <;> dsimp only <;> omega
  exact key l (false, 0, 2) (by decide)
end Go.Proofs.YtkdpjocglfephaaDoor

/- schema.Find: first, and its closure. -/


namespace Go.Proofs.YtkdpjocglfephaaDoor
open Go.RowKit
set_option linter.unusedVariables false

theorem str_beq (a b : ByteArray) : (a.toList == b.toList) = decide (a = b) := by
  by_cases h : a = b
  · subst h; simp
  · rw [bytes_ne h]; simp [h]

/-- The closure of Find: is it of that name? -/
theorem find1_any (x : Int) (s : ByteArray) (t : Int) (nm : ByteArray) (q : Addr) (w : World) (hc : w.cell? q = some (.string nm)) :
    Calls Tryd.prog 71 #[cagg x s t, .pointer (some q)] w fun e w' => e = .returned (.bool (decide (s = nm))) ∧ Later w w' := by
  have l1 : Later w (w.alloc (.cells #[.int .i64 x, .string s, .int .i64 t] 74)) := Later.new w _
  have hc1 := l1.cell hc
  have HE := Lib.hid (str_beq s nm)
  have HL := Lib.hid l1
  clear l1 hc
  go_enter Tryd.func71, Tryd.ntmps71
  go_wp2_with fail
  go_ret
  rw [HE.out]
  exact ⟨rfl, HL.out⟩

/-- A place, and whether there is one. -/
def FoundP (o : Option Nat) (w : World) (e : Ending) (w' : World) : Prop := e = .returned (.tuple #[.int .i64 ((o.getD 0 : Nat) : Int), .bool o.isSome]) ∧ Later w w'

set_option maxRecDepth 100000 in
set_option maxHeartbeats 1000000 in
theorem firstFind_any (A : Option Addr) (n c : Nat) (last : Int) (l : List Col3) (nm : ByteArray) (q : Addr) (w : World) (hn : n = l.length) (hl : n ≤ 100000) (hr : Has w A (fc l)) (hc : CellIs w q (.string nm)) :
    Calls Tryd.prog 70 #[.agg #[.slice A n c, .int .i64 last], .func (.func 71) #[] #[.pointer (some q)]] w (FoundP (findC l nm) w) := by
  have eg : ∀ args w, (callFunc 71 args).run Tryd.prog w = .ok (.enter 71 args) w := enters_of Tryd.func71 (by kernel_rfl) rfl
  have l1 : Later w (w.alloc (.cells #[.slice A n c, .int .i64 last] 33)) := Later.new w _
  have HL1 := Lib.hid l1
  have HN := Lib.hid hn
  clear l1 hn
  go_enter Tryd.func70, Tryd.ntmps70
  go_wp2_with fail
  go_loopw [11] (fun i wr => ∃ k : Nat, k ≤ n ∧ i = .int .i64 k ∧ (∀ j (hj : j < l.length), j < k → decide (l[j].2.1 = nm) = false) ∧ Later w wr) (fun i _ => n - (intOf i).toNat)
  case atStart => exact ⟨0, Nat.zero_le _, rfl, fun j hj h => absurd h (Nat.not_lt_zero _), HL1.out⟩
  case round =>
    obtain ⟨k, hk, rfl, hb, lat⟩ := hrel
    by_cases hlt : k < n
    · have hkl : k < l.length := by have := HN.out; omega
      obtain ⟨b, off, rfl, c0, c1, c2⟩ := (hr.later lat).col3 k hkl
      have HB := Lib.hid hb
      have HR := Lib.hid hr
      have HY := Lib.hid (fun (h : decide (l[k].2.1 = nm) = true) => show findC l nm = some k from firstAt hkl h hb)
      have HM := Lib.hid (fun (h : decide (l[k].2.1 = nm) = false) => show ∀ j (hj : j < l.length), j < k + 1 → decide (l[j].2.1 = nm) = false from fun j hj hjk => by
        rcases Nat.lt_or_ge j k with h1 | h1
        · exact hb j hj h1
        · obtain rfl : j = k := by omega
          exact h)
      generalize l[k].1 = x at c0 HY HM
      generalize l[k].2.1 = s at c1 HY HM
      generalize l[k].2.2 = t at c2 HY HM
      have l2 : Later w (wr.alloc (.cells #[.int .i64 x, .string s, .int .i64 t] 74)) := lat.alloc _
      have HC := Lib.hid (find1_any x s t nm q _ (hc.later l2).out)
      have HL2 := Lib.hid l2
      clear lat l2 hb hr hc
      go_wp2_with fail
      refine HC.out.mono ?_
      rintro e wX ⟨rfl, lX⟩
      have HLX := Lib.hid (HL2.out.trans lX)
      clear lX HC HL2
      by_cases he : s = nm
      · have hd : decide (s = nm) = true := by simpa using he
        have HF := Lib.hid (HY.out hd)
        clear he HY HM
        go_wp2_with fail
        go_ret2
        unfold FoundP
        rw [HF.out]
        exact ⟨rfl, HLX.out⟩
      · have hd : decide (s = nm) = false := by simpa using he
        have HF := Lib.hid (HM.out hd)
        clear he HY HM
        go_wp2_with fail
        go_roundw
        case rel => exact ⟨k + 1, hlt, by go_num, HF.out, HLX.out⟩
        case measure => simp [intOf]; omega
    · have HF := Lib.hid (show findC l nm = none from firstNo fun i hi => hb i hi (by have := HN.out; omega))
      clear hb
      go_wp2_with fail
      go_ret2
      unfold FoundP
      rw [HF.out]
      exact ⟨rfl, lat⟩

theorem find_any (A : Option Addr) (n c : Nat) (last : Int) (l : List Col3) (nm : ByteArray) (w : World) (hn : n = l.length) (hl : n ≤ 100000) (hr : Has w A (fc l)) :
    Calls Tryd.prog 51 #[.agg #[.slice A n c, .int .i64 last], .string nm] w (FoundP (findC l nm) w) := by
  have hmf : ∀ (fn : Fn) (first cap : Array Value) (w : World), (Instr.makeFunc fn first cap).run Tryd.prog w = .ok (.func fn first cap) w := fun _ _ _ _ => rfl
  obtain ⟨w1, hw1⟩ : ∃ x : World, (w.alloc (.cells #[.slice A n c, .int .i64 last] 33)).alloc (.cells #[.string nm] 9) = x := ⟨_, rfl⟩
  have l1 : Later w w1 := hw1 ▸ (Later.new w _).alloc _
  have b1 : CellIs w1 ⟨w.heap.size + 1, 0, none⟩ (.string nm) := hw1 ▸ CellIs.new _ _ _ _ _ _ (by simp) rfl
  have b0 : CellIs w1 ⟨w.heap.size, 0, none⟩ (.slice A n c) := hw1 ▸ (CellIs.new w _ _ _ _ _ rfl rfl).later (Later.new _ _)
  have b2 : CellIs w1 ⟨w.heap.size, 1, none⟩ (.int .i64 last) := hw1 ▸ (CellIs.new w _ _ _ _ _ rfl rfl).later (Later.new _ _)
  have HC := Lib.hid (firstFind_any A n c last l nm ⟨w.heap.size + 1, 0, none⟩ w1 hn hl (hr.later l1) b1)
  have HL := Lib.hid l1
  have HW := Lib.hid hw1
  clear l1 b1 hw1 hn hr
  have e0 := b0.out
  have e2 := b2.out
  clear b0 b2
  go_enter Tryd.func51, Tryd.ntmps51
  go_wp2_with fail
  rw [HW.out]
  refine HC.out.mono ?_
  rintro e w2 ⟨rfl, l2⟩
  have HL2 := Lib.hid (HL.out.trans l2)
  clear l2 HC
  go_wp2_with fail
  go_ret2
  exact ⟨rfl, HL2.out⟩
end Go.Proofs.YtkdpjocglfephaaDoor

/- value.Compare, in a seat without value.width (where XValB .. XValCmp do not serve; never beside them). -/




namespace Go.Proofs.YtkdpjocglfephaaDoor
open Go.RowKit
set_option linter.unusedVariables false

theorem rank_any (t i : Int) (s : ByteArray) (w : World) : Calls Tryd.prog 83 #[.agg #[.int .i64 t, .int .i64 i, .string s]] w fun e w' => e = .returned (.int .i64 (rankV t)) ∧ Grows w w' := by
  have HE1 := Lib.hid (fun o : Obj => Grows.new w o)
  go_enter Tryd.func83, Tryd.ntmps83
  go_wp2_with fail
  all_goals go_ret
  all_goals simp only [beq_iff_eq, beq_eq_false_iff_ne, ne_eq] at *
  all_goals exact ⟨ret_int (by simp [rankV, *]), HE1.out _⟩
theorem nan_int (a : Int) (w : World) : Calls Tryd.prog 89 #[.int .i64 a] w fun e w' => e = .returned (.bool false) ∧ w = w' := by
  have h : (a != a) = false := by simp
  go_enter Tryd.func89, Tryd.ntmps89
  go_wp2_with fail
  go_ret
  exact ⟨rfl, rfl⟩
theorem nan_int64 (a : Int) (w : World) : Calls Tryd.prog 91 #[.int .i64 a] w fun e w' => e = .returned (.bool false) ∧ w = w' := by
  have h : (a != a) = false := by simp
  go_enter Tryd.func91, Tryd.ntmps91
  go_wp2_with fail
  go_ret
  exact ⟨rfl, rfl⟩
theorem cmp_int (a b : Int) (w : World) : Calls Tryd.prog 84 #[.int .i64 a, .int .i64 b] w fun e w' => e = .returned (.int .i64 (cmpI a b)) ∧ w = w' := by
  go_enter Tryd.func84, Tryd.ntmps84
  go_wp2_with (go_at_call 89; refine (nan_int _ w).mono ?_; rintro e w' ⟨rfl, rfl⟩)
  all_goals go_ret
  all_goals exact ⟨ret_int (by unfold cmpI; split <;> (try split) <;> omega), rfl⟩
theorem cmp_int64 (a b : Int) (w : World) : Calls Tryd.prog 86 #[.int .i64 a, .int .i64 b] w fun e w' => e = .returned (.int .i64 (cmpI a b)) ∧ w = w' := by
  go_enter Tryd.func86, Tryd.ntmps86
  go_wp2_with (go_at_call 91; refine (nan_int64 _ w).mono ?_; rintro e w' ⟨rfl, rfl⟩)
  all_goals go_ret
  all_goals exact ⟨ret_int (by unfold cmpI; split <;> (try split) <;> omega), rfl⟩
theorem strings_cmp (a b : ByteArray) (w : World) : Calls Tryd.prog 85 #[.string a, .string b] w fun e w' => e = .returned (.int .i64 (cmpS a.data.toList b.data.toList)) ∧ w = w' :=
  (Tryd.strings_Compare a b w).mono fun e w' h => ⟨h.1, h.2.symm⟩
theorem rank_l (t i : Int) (s : ByteArray) (w : World) : Calls Tryd.prog 83 #[vagg t i s] w fun e w' => e = .returned (.int .i64 (rankV t)) ∧ Grows w w' := rank_any t i s w
/-- What a call tells that gives a number and leaves what was there; and one that has grown alone. -/
def TellsInt (v : Int) (w : World) (e : Ending) (w' : World) : Prop := e = .returned (.int .i64 v) ∧ Later w w'
def GrowsInt (v : Int) (w : World) (e : Ending) (w' : World) : Prop := e = .returned (.int .i64 v) ∧ Grows w w'

set_option maxRecDepth 100000 in
set_option maxHeartbeats 1000000 in
theorem valCmp_g (t i : Int) (s : ByteArray) (t' i' : Int) (s' : ByteArray) (w : World) :
    Calls Tryd.prog 74 #[vagg t i s, vagg t' i' s'] w (GrowsInt (cmpV t i s t' i' s') w) := by
  obtain ⟨w1, hw1⟩ : ∃ w1 : World, (w.alloc (.cells #[.int .i64 t, .int .i64 i, .string s] 26)).alloc (.cells #[.int .i64 t', .int .i64 i', .string s'] 26) = w1 := ⟨_, rfl⟩
  have L1 : Grows w w1 := hw1 ▸ ((Grows.refl w).alloc _).alloc _
  have A1 : Blk w1 w.heap.size #[.int .i64 t, .int .i64 i, .string s] 26 := hw1 ▸ (Blk.new w _ _ _ rfl).later (Later.new _ _)
  have B1 : Blk w1 (w.heap.size + 1) #[.int .i64 t', .int .i64 i', .string s'] 26 := hw1 ▸ Blk.new _ _ _ _ (by simp)
  have HW := Lib.hid hw1
  have HR1 := Lib.hid (rank_l t i s w1)
  clear hw1
  go_enter Tryd.func74, Tryd.ntmps74
  go_wp2_with fail
  rw [HW.out]
  refine HR1.out.mono ?_
  rintro e w2 ⟨rfl, l2⟩
  have A2 := A1.later l2.later
  have B2 := B1.later l2.later
  have L2 := L1.trans l2
  have hb0 := B2.cell 0 _ rfl
  have hb1 := B2.cell 1 _ rfl
  have hb2 := B2.cell 2 _ rfl
  clear HW HR1 A1 B1 L1 l2
  go_wp2_with fail
  refine (rank_l t' i' s' w2).mono ?_
  rintro e w3 ⟨rfl, l3⟩
  have A3 := A2.later l3.later
  have B3 := B2.later l3.later
  have L3 := L2.trans l3
  clear hb0 hb1 hb2 A2 B2 L2 l3
  go_wp2_with fail
  refine (cmp_int _ _ w3).mono ?_
  rintro e w' ⟨rfl, rfl⟩
  by_cases hrr : rankV t = rankV t'
  · have e0 : cmpI (rankV t) (rankV t') = 0 := cmpI_eq hrr
    rw [e0]
    have hin := rankV_in t
    have HV := Lib.hid (cmpV_near (i := i) (s := s) (i' := i') (s' := s') hrr)
    have hr4 : rankV 4 = 2 := by decide
    clear e0 hrr
    by_cases h0 : rankV t = 0
    · rw [h0]
      have HZ := Lib.hid (show cmpV t i s t' i' s' = 0 from by rw [HV.out, if_pos h0])
      clear hin h0 hr4
      go_wp2_with fail
      go_ret
      exact ⟨ret_int HZ.out.symm, L3⟩
    · by_cases h2 : rankV t = 2
      · rw [h2]
        have HZ := Lib.hid (show cmpV t i s t' i' s' = cmpS s.data.toList s'.data.toList from by rw [HV.out, if_neg h0, if_pos h2])
        have HR := Lib.hid (rank_l 4 0 ⟨#[]⟩ w3)
        have H4 := Lib.hid hr4
        clear hin h0 h2 hr4
        go_wp2_with fail
        refine HR.out.mono ?_
        rintro e w4 ⟨rfl, l4⟩
        rw [H4.out]
        have A4 := A3.later l4.later
        have B4 := B3.later l4.later
        have L4 := L3.trans l4
        have ha := A4.cell 2 _ rfl
        have hb := B4.cell 2 _ rfl
        clear A3 B3 L3 l4 HR
        go_wp2_with fail
        refine (strings_cmp _ _ w4).mono ?_
        rintro e w' ⟨rfl, rfl⟩
        clear ha hb
        go_wp2_with fail
        go_ret
        exact ⟨ret_int HZ.out.symm, L4⟩
      · have h1 : rankV t = 1 := by rcases hin with h | h | h <;> omega
        rw [h1]
        have HZ := Lib.hid (show cmpV t i s t' i' s' = cmpI i i' from by rw [HV.out, if_neg h0, if_neg h2])
        have HR := Lib.hid (rank_l 4 0 ⟨#[]⟩ w3)
        have H4 := Lib.hid hr4
        clear hin h0 h1 h2 hr4
        go_wp2_with fail
        refine HR.out.mono ?_
        rintro e w4 ⟨rfl, l4⟩
        rw [H4.out]
        have A4 := A3.later l4.later
        have B4 := B3.later l4.later
        have L4 := L3.trans l4
        have ha := A4.cell 1 _ rfl
        have hb := B4.cell 1 _ rfl
        clear A3 B3 L3 l4 HR
        go_wp2_with fail
        refine (cmp_int64 _ _ w4).mono ?_
        rintro e w' ⟨rfl, rfl⟩
        clear ha hb
        go_wp2_with fail
        go_ret
        exact ⟨ret_int HZ.out.symm, L4⟩
  · have HV := Lib.hid (cmpV_far (i := i) (s := s) (i' := i') (s' := s') hrr)
    obtain ⟨z, hz⟩ : ∃ z, z = cmpI (rankV t) (rankV t') := ⟨_, rfl⟩
    have hz0 : (z != 0) = true := by
      rw [hz]; rcases cmpI_in (rankV t) (rankV t') with h | h | h
      · rw [h.2]; rfl
      · exact absurd h.1 hrr
      · rw [h.2]; rfl
    have hz1 : (z == 0) = false := by simpa using hz0
    rw [← hz] at HV ⊢
    clear hz hrr
    go_wp2_with fail
    go_ret
    exact ⟨ret_int HV.out.symm, L3⟩
theorem valCmp_any (t i : Int) (s : ByteArray) (t' i' : Int) (s' : ByteArray) (w : World) :
    Calls Tryd.prog 74 #[vagg t i s, vagg t' i' s'] w (TellsInt (cmpV t i s t' i' s') w) := (valCmp_g t i s t' i' s' w).mono fun _ _ h => ⟨h.1, h.2.later⟩
end Go.Proofs.YtkdpjocglfephaaDoor

/- The walks of package zone: Of, Can, Same. -/




namespace Go.Proofs.YtkdpjocglfephaaDoor
open Go.RowKit
set_option linter.unusedVariables false

abbrev zc (n a1 a2 : Int) (a3 : ByteArray) (b1 b2 : Int) (b3 : ByteArray) : Array Value := #[.int .i64 n, .int .i64 a1, .int .i64 a2, .string a3, .int .i64 b1, .int .i64 b2, .string b3]
section
variable {w : World} {g : Nat} {t : TypeId} {n a1 a2 : Int} {a3 : ByteArray} {b1 b2 : Int} {b3 : ByteArray}
end
/-- The zone on its way: of the first k values. -/
def ZInv (l : List Val3) (w : World) (iv : Value) (wr : World) : Prop :=
  ∃ (k : Nat) (n a1 a2 : Int) (a3 : ByteArray) (b1 b2 : Int) (b3 : ByteArray), iv = .int .i64 k ∧ k ≤ l.length ∧ n = (nullsZ (l.take k) : Int) ∧ (a1, a2, a3) = lowZs none3 (l.take k) ∧ (b1, b2, b3) = topZs none3 (l.take k) ∧
    Blk wr (w.heap.size + 1) (zc n a1 a2 a3 b1 b2 b3) 50 ∧ Blk wr w.heap.size (zc 0 0 0 ⟨#[]⟩ 0 0 ⟨#[]⟩) 50 ∧ Later w wr
theorem ZInv.mk {l : List Val3} {w wr : World} (i : Int) (k : Nat) (n a1 a2 : Int) (a3 : ByteArray) (b1 b2 : Int) (b3 : ByteArray) (hi : i = (k : Int)) (hk : k ≤ l.length) (hn : n = (nullsZ (l.take k) : Int)) (ha : (a1, a2, a3) = lowZs none3 (l.take k)) (hb : (b1, b2, b3) = topZs none3 (l.take k))
    (B : Blk wr (w.heap.size + 1) (zc n a1 a2 a3 b1 b2 b3) 50) (R : Blk wr w.heap.size (zc 0 0 0 ⟨#[]⟩ 0 0 ⟨#[]⟩) 50) (L : Later w wr) : ZInv l w (.int .i64 i) wr := by
  subst hi
  exact ⟨k, n, a1, a2, a3, b1, b2, b3, rfl, hk, hn, ha, hb, B, R, L⟩
set_option maxRecDepth 100000 in
theorem between_any (op lo hi : Int) (w : World) (h1 : lo = -1 ∨ lo = 0 ∨ lo = 1) (h2 : hi = -1 ∨ hi = 0 ∨ hi = 1) :
    Calls Tryd.prog 75 #[.int .i64 op, .int .i64 lo, .int .i64 hi] w fun e w' => e = .returned (.bool (between op lo hi)) ∧ w = w' := by
  by_cases ho : op = 1 ∨ op = 2
  · rcases ho with rfl | rfl
    all_goals rcases h1 with rfl | rfl | rfl
    all_goals rcases h2 with rfl | rfl | rfl
    all_goals go_enter Tryd.func75, Tryd.ntmps75
    all_goals go_wp2_with fail
    all_goals go_ret
    all_goals exact ⟨rfl, rfl⟩
  · by_cases hp : op = 3 ∨ op = 4
    · clear ho
      rcases hp with rfl | rfl
      all_goals rcases h1 with rfl | rfl | rfl
      all_goals go_enter Tryd.func75, Tryd.ntmps75
      all_goals go_wp2_with fail
      all_goals go_ret
      all_goals exact ⟨rfl, rfl⟩
    · by_cases hq : op = 5 ∨ op = 6
      · clear ho hp
        rcases hq with rfl | rfl
        all_goals rcases h2 with rfl | rfl | rfl
        all_goals go_enter Tryd.func75, Tryd.ntmps75
        all_goals go_wp2_with fail
        all_goals go_ret
        all_goals exact ⟨rfl, rfl⟩
      · have e1 : (op == 1) = false := by rw [beq_eq_false_iff_ne]; omega
        have e2 : (op == 2) = false := by rw [beq_eq_false_iff_ne]; omega
        have e3 : (op == 3) = false := by rw [beq_eq_false_iff_ne]; omega
        have e4 : (op == 4) = false := by rw [beq_eq_false_iff_ne]; omega
        have e5 : (op == 5) = false := by rw [beq_eq_false_iff_ne]; omega
        have e6 : (op == 6) = false := by rw [beq_eq_false_iff_ne]; omega
        have hb : between op lo hi = false := by
          unfold between
          rw [if_neg (by omega), if_neg (by omega), if_neg (by omega), if_neg (by omega), if_neg (by omega), if_neg (by omega)]
        have HB := Lib.hid hb
        clear ho hp hq h1 h2 hb
        go_enter Tryd.func75, Tryd.ntmps75
        go_wp2_with fail
        go_ret
        rw [HB.out]
        exact ⟨rfl, rfl⟩

set_option maxRecDepth 100000 in
set_option maxHeartbeats 2000000 in
theorem zoneCan_c (nl n op a1 a2 : Int) (a3 : ByteArray) (b1 b2 : Int) (b3 : ByteArray) (v1 v2 : Int) (v3' : ByteArray) (w : World) :
    Calls Tryd.prog 55 #[.agg #[.int .i64 nl, .int .i64 a1, .int .i64 a2, .string a3, .int .i64 b1, .int .i64 b2, .string b3], .int .i64 n, .int .i64 op, .agg #[.int .i64 v1, .int .i64 v2, .string v3']] w fun e w' => e = .returned (.bool (canZ nl (a1, a2, a3) (b1, b2, b3) n op (v1, v2, v3'))) ∧ Later w w' := by
  obtain ⟨gz, hgz⟩ : ∃ g, w.heap.size = g := ⟨_, rfl⟩
  obtain ⟨w1, hw1⟩ : ∃ x : World, (w.alloc (.cells (zc nl a1 a2 a3 b1 b2 b3) 50)).alloc (.cells #[.int .i64 v1, .int .i64 v2, .string v3'] 26) = x := ⟨_, rfl⟩
  have BZ := (Blk.new w (zc nl a1 a2 a3 b1 b2 b3) 50 gz hgz.symm).later (Later.new _ (.cells #[.int .i64 v1, .int .i64 v2, .string v3'] 26))
  have BV := Blk.new (w.alloc (.cells (zc nl a1 a2 a3 b1 b2 b3) 50)) #[.int .i64 v1, .int .i64 v2, .string v3'] 26 (gz + 1) (by simp [hgz])
  have L1 := (Later.new w (.cells (zc nl a1 a2 a3 b1 b2 b3) 50)).alloc (.cells #[.int .i64 v1, .int .i64 v2, .string v3'] 26)
  rw [hw1] at BZ BV L1
  have HL1 := Lib.hid L1
  have HBZ := Lib.hid BZ
  have HBV := Lib.hid BV
  have z0 := BZ.cell 0 _ rfl
  have z1 := BZ.cell 1 _ rfl
  have x0 := BV.cell 0 _ rfl
  clear L1 BZ BV
  by_cases h7 : op = 7
  · subst h7
    have hc : canZ nl (a1, a2, a3) (b1, b2, b3) n 7 (v1, v2, v3') = decide (0 < nl) := rfl
    have HC := Lib.hid hc
    clear hc
    go_enter Tryd.func55, Tryd.ntmps55
    go_wp2_with fail
    go_ret
    rw [HC.out]
    exact ⟨rfl, HL1.out⟩
  · by_cases h8 : op = 8
    · subst h8
      have hc : canZ nl (a1, a2, a3) (b1, b2, b3) n 8 (v1, v2, v3') = decide (nl < n) := rfl
      have HC := Lib.hid hc
      clear hc h7
      go_enter Tryd.func55, Tryd.ntmps55
      go_wp2_with fail
      go_ret
      rw [HC.out]
      exact ⟨rfl, HL1.out⟩
    · have e7 : (op == 7) = false := by simpa using h7
      have e8 : (op == 8) = false := by simpa using h8
      have hc : canZ nl (a1, a2, a3) (b1, b2, b3) n op (v1, v2, v3') = if v1 = 0 ∨ a1 = 0 then false else between op (cmp3 (a1, a2, a3) (v1, v2, v3')) (cmp3 (b1, b2, b3) (v1, v2, v3')) := by
        unfold canZ; rw [if_neg h7, if_neg h8]
      by_cases hv : v1 = 0
      · rw [if_pos (.inl hv)] at hc
        subst hv
        have HC := Lib.hid hc
        clear hc h7 h8
        go_enter Tryd.func55, Tryd.ntmps55
        go_wp2_with fail
        go_ret
        rw [HC.out]
        exact ⟨rfl, HL1.out⟩
      · by_cases ha : a1 = 0
        · rw [if_pos (.inr ha)] at hc
          subst ha
          have e0 : (v1 == 0) = false := by simpa using hv
          have HC := Lib.hid hc
          clear hc h7 h8 hv
          go_enter Tryd.func55, Tryd.ntmps55
          go_wp2_with fail
          go_ret
          rw [HC.out]
          exact ⟨rfl, HL1.out⟩
        · rw [if_neg (by rintro (h | h); exact hv h; exact ha h)] at hc
          have e0 : (v1 == 0) = false := by simpa using hv
          have e1 : (a1 == 0) = false := by simpa using ha
          have i1 := cmpV_in a1 a2 a3 v1 v2 v3'
          have i2 := cmpV_in b1 b2 b3 v1 v2 v3'
          have HBT := Lib.hid (fun w' => between_any op (cmpV a1 a2 a3 v1 v2 v3') (cmpV b1 b2 b3 v1 v2 v3') w' i1 i2)
          have HC := Lib.hid hc
          have d0 := HBZ.out.drew
          have d1 := HBV.out.drew
          have lz := HL1.out.drew
          clear hc h7 h8 hv ha i1 i2
          go_enter Tryd.func55, Tryd.ntmps55
          go_wp2_with fail
          clear z0 z1 x0 hw1
          go_region_held3 (fun w' => w'.cell? ⟨gz, 1, none⟩ = some (.int .i64 a1) ∧ w'.cell? ⟨gz, 2, none⟩ = some (.int .i64 a2) ∧ w'.cell? ⟨gz, 3, none⟩ = some (.string a3) ∧ w'.cell? ⟨gz, 4, none⟩ = some (.int .i64 b1) ∧ w'.cell? ⟨gz, 5, none⟩ = some (.int .i64 b2) ∧ w'.cell? ⟨gz, 6, none⟩ = some (.string b3) ∧ w'.cell? ⟨gz + 1, 0, none⟩ = some (.int .i64 v1) ∧ w'.cell? ⟨gz + 1, 1, none⟩ = some (.int .i64 v2) ∧ w'.cell? ⟨gz + 1, 2, none⟩ = some (.string v3')) (exact ⟨d0.cell 1 _ rfl, d0.cell 2 _ rfl, d0.cell 3 _ rfl, d0.cell 4 _ rfl, d0.cell 5 _ rfl, d0.cell 6 _ rfl, d1.cell 0 _ rfl, d1.cell 1 _ rfl, d1.cell 2 _ rfl⟩) (first
            | (go_at_call 74; refine (valCmp_any _ _ _ _ _ _ _).mono ?_; rintro e wX ⟨rfl, lX⟩; have lz := lz.trans lX; have d0 := d0.later lX; have d1 := d1.later lX; clear lX)
            | (go_at_call 75; refine (HBT.out _).mono ?_; rintro e wX ⟨rfl, rfl⟩))
          all_goals go_wp2_with fail
          all_goals go_ret
          all_goals rw [HC.out]
          all_goals unfold cmp3
          all_goals exact ⟨rfl, lz⟩
end Go.Proofs.YtkdpjocglfephaaDoor

/- The walks of package pred: sure, holds, says, begins, one, Row. -/





namespace Go.Proofs.YtkdpjocglfephaaDoor
open Go.RowKit
set_option linter.unusedVariables false

theorem sure_any (b : Bool) (w : World) : Calls Tryd.prog 72 #[.bool b] w fun e w' => e = .returned (.int .i64 (sureN b)) ∧ w = w' := by
  cases b
  all_goals go_enter Tryd.func72, Tryd.ntmps72
  all_goals go_wp2_with fail
  all_goals go_ret
  all_goals exact ⟨rfl, rfl⟩

theorem holds_any (op c : Int) (w : World) (h1 : c = -1 ∨ c = 0 ∨ c = 1) :
    Calls Tryd.prog 73 #[.int .i64 op, .int .i64 c] w fun e w' => e = .returned (.bool (between op c c)) ∧ w = w' := by
  by_cases ho : op = 1 ∨ op = 2 ∨ op = 3 ∨ op = 4 ∨ op = 5 ∨ op = 6
  · rcases ho with rfl | rfl | rfl | rfl | rfl | rfl
    all_goals rcases h1 with rfl | rfl | rfl
    all_goals go_enter Tryd.func73, Tryd.ntmps73
    all_goals go_wp2_with fail
    all_goals go_ret
    all_goals exact ⟨rfl, rfl⟩
  · have e1 : (op == 1) = false := by rw [beq_eq_false_iff_ne]; omega
    have e2 : (op == 2) = false := by rw [beq_eq_false_iff_ne]; omega
    have e3 : (op == 3) = false := by rw [beq_eq_false_iff_ne]; omega
    have e4 : (op == 4) = false := by rw [beq_eq_false_iff_ne]; omega
    have e5 : (op == 5) = false := by rw [beq_eq_false_iff_ne]; omega
    have e6 : (op == 6) = false := by rw [beq_eq_false_iff_ne]; omega
    have hb : between op c c = false := by
      unfold between
      rw [if_neg (by omega), if_neg (by omega), if_neg (by omega), if_neg (by omega), if_neg (by omega), if_neg (by omega)]
    have HB := Lib.hid hb
    clear ho h1 hb
    go_enter Tryd.func73, Tryd.ntmps73
    go_wp2_with fail
    go_ret
    rw [HB.out]
    exact ⟨rfl, rfl⟩

set_option maxRecDepth 100000 in
set_option maxHeartbeats 2000000 in
theorem says_any (nm : ByteArray) (op vt vi : Int) (vs : ByteArray) (o n : Bool) (xt xi : Int) (xs : ByteArray) (w : World) :
    Calls Tryd.prog 54 #[tagg nm op vt vi vs o n, vagg xt xi xs] w fun e w' => e = .returned (.int .i64 (saysT op (vt, vi, vs) (xt, xi, xs))) ∧ Later w w' := by
  obtain ⟨gz, hgz⟩ : ∃ g, w.heap.size = g := ⟨_, rfl⟩
  obtain ⟨w1, hw1⟩ : ∃ x : World, (w.alloc (.cells (tcs nm op vt vi vs o n) 28)).alloc (.cells #[.int .i64 xt, .int .i64 xi, .string xs] 26) = x := ⟨_, rfl⟩
  have BZ := (Blk.new w (tcs nm op vt vi vs o n) 28 gz hgz.symm).later (Later.new _ (.cells #[.int .i64 xt, .int .i64 xi, .string xs] 26))
  have BV := Blk.new (w.alloc (.cells (tcs nm op vt vi vs o n) 28)) #[.int .i64 xt, .int .i64 xi, .string xs] 26 (gz + 1) (by simp [hgz])
  have L1 := (Later.new w (.cells (tcs nm op vt vi vs o n) 28)).alloc (.cells #[.int .i64 xt, .int .i64 xi, .string xs] 26)
  rw [hw1] at BZ BV L1
  have HL1 := Lib.hid L1
  have HBZ := Lib.hid BZ
  have HBV := Lib.hid BV
  have z1 := BZ.cell 1 _ rfl
  have z2 := BZ.cell 2 _ rfl
  have x0 := BV.cell 0 _ rfl
  clear L1 BZ BV
  by_cases h7 : op = 7
  · subst h7
    have HC := Lib.hid (show saysT 7 (vt, vi, vs) (xt, xi, xs) = sureN (xt == 0) from by unfold saysT; rw [if_pos rfl]; congr 1)
    go_enter Tryd.func54, Tryd.ntmps54
    go_wp2_with (go_at_call 72; refine (sure_any _ _).mono ?_; rintro e w' ⟨rfl, rfl⟩)
    all_goals go_ret
    all_goals rw [HC.out]
    all_goals exact ⟨rfl, HL1.out⟩
  · by_cases h8 : op = 8
    · subst h8
      have HC := Lib.hid (show saysT 8 (vt, vi, vs) (xt, xi, xs) = sureN (xt != 0) from by unfold saysT; rw [if_neg (by decide), if_pos rfl]; congr 1)
      clear h7
      go_enter Tryd.func54, Tryd.ntmps54
      go_wp2_with (go_at_call 72; refine (sure_any _ _).mono ?_; rintro e w' ⟨rfl, rfl⟩)
      all_goals go_ret
      all_goals rw [HC.out]
      all_goals exact ⟨rfl, HL1.out⟩
    · have e7 : (op == 7) = false := by simpa using h7
      have e8 : (op == 8) = false := by simpa using h8
      have hc : saysT op (vt, vi, vs) (xt, xi, xs) = if xt = 0 ∨ vt = 0 then 1 else sureN (between op (cmpV xt xi xs vt vi vs) (cmpV xt xi xs vt vi vs)) := by
        unfold saysT; rw [if_neg h7, if_neg h8]; rfl
      clear h7 h8
      by_cases hv : xt = 0
      · rw [if_pos (.inl hv)] at hc
        subst hv
        have HC := Lib.hid hc
        clear hc
        go_enter Tryd.func54, Tryd.ntmps54
        go_wp2_with fail
        go_ret
        rw [HC.out]
        exact ⟨rfl, HL1.out⟩
      · by_cases ha : vt = 0
        · rw [if_pos (.inr ha)] at hc
          subst ha
          have e0 : (xt == 0) = false := by simpa using hv
          have HC := Lib.hid hc
          clear hc hv
          go_enter Tryd.func54, Tryd.ntmps54
          go_wp2_with fail
          go_ret
          rw [HC.out]
          exact ⟨rfl, HL1.out⟩
        · rw [if_neg (by rintro (h | h); exact hv h; exact ha h)] at hc
          have e0 : (xt == 0) = false := by simpa using hv
          have e1 : (vt == 0) = false := by simpa using ha
          have i1 := cmpV_in xt xi xs vt vi vs
          have HBT := Lib.hid (fun w' => holds_any op (cmpV xt xi xs vt vi vs) w' i1)
          have HC := Lib.hid hc
          have d0 := HBZ.out.drew
          have d1 := HBV.out.drew
          have lz := HL1.out.drew
          clear hc hv ha i1
          go_enter Tryd.func54, Tryd.ntmps54
          go_wp2_with fail
          clear z1 z2 x0 hw1
          go_region_held3 (fun w' => w'.cell? ⟨gz, 1, none⟩ = some (.int .i64 op) ∧ w'.cell? ⟨gz, 2, none⟩ = some (.int .i64 vt) ∧ w'.cell? ⟨gz, 3, none⟩ = some (.int .i64 vi) ∧ w'.cell? ⟨gz, 4, none⟩ = some (.string vs) ∧ w'.cell? ⟨gz + 1, 0, none⟩ = some (.int .i64 xt) ∧ w'.cell? ⟨gz + 1, 1, none⟩ = some (.int .i64 xi) ∧ w'.cell? ⟨gz + 1, 2, none⟩ = some (.string xs)) (exact ⟨d0.cell 1 _ rfl, d0.cell 2 _ rfl, d0.cell 3 _ rfl, d0.cell 4 _ rfl, d1.cell 0 _ rfl, d1.cell 1 _ rfl, d1.cell 2 _ rfl⟩) (first
            | (go_at_call 74; refine (valCmp_any _ _ _ _ _ _ _).mono ?_; rintro e wX ⟨rfl, lX⟩; have lz := lz.trans lX; have d0 := d0.later lX; have d1 := d1.later lX; clear lX)
            | (go_at_call 73; refine (HBT.out _).mono ?_; rintro e wX ⟨rfl, rfl⟩)
            | (go_at_call 72; refine (sure_any _ _).mono ?_; rintro e wX ⟨rfl, rfl⟩))
          all_goals go_wp2_with fail
          all_goals go_ret
          all_goals rw [HC.out]
          all_goals exact ⟨rfl, lz⟩

theorem begins_any (T : Option Addr) (n c i : Nat) (l : List Tst) (w : World) (hn : n = l.length) (hl : n ≤ 100000) (hi : i < n) (hr : Has w T (ft l)) :
    Calls Tryd.prog 33 #[.slice T n c, .int .i64 i] w fun e w' => e = .returned (.bool (decide (0 < i) && (l.getD i default).or_)) ∧ w = w' := by
  have hil : i < l.length := by omega
  obtain ⟨b, off, rfl, hT⟩ := hr.tst i hil
  have c5 := hT.2.2.2.2.2.1.out
  have HD := Lib.hid (show l.getD i default = l[i] by rw [List.getD_eq_getElem?_getD, List.getElem?_eq_getElem hil]; rfl)
  have HV := Lib.hid (show ∀ b, l[i].or_ = b → (decide (0 < i) && (l.getD i default).or_) = (decide (0 < i) && b) from fun b h => by rw [HD.out, h])
  obtain ⟨o, ho⟩ : ∃ o, l[i].or_ = o := ⟨_, rfl⟩
  have HO := Lib.hid (HV.out o ho)
  rw [ho] at c5
  rw [HO.out]
  clear HD HV HO ho hT hr
  by_cases h0 : i = 0
  · subst h0
    go_enter Tryd.func33, Tryd.ntmps33
    go_wp2_with fail
    go_ret
    exact ⟨by simp, rfl⟩
  · have hd : (0 : Int) < (i : Int) := by omega
    have hd2 : decide (0 < i) = true := by simp; omega
    rw [hd2]
    clear hd2 h0
    go_enter Tryd.func33, Tryd.ntmps33
    go_wp2_with fail
    all_goals go_ret
    all_goals exact ⟨rfl, rfl⟩

set_option maxRecDepth 100000 in
set_option maxHeartbeats 2000000 in
theorem one_any (A : Option Addr) (n c : Nat) (last : Int) (cols : List Col3) (t : Tst) (R : Option Addr) (rn rc : Nat) (row : List Val3) (w : World) (hn : n = cols.length) (hl : n ≤ 100000) (hr : Has w A (fc cols)) (hrn : rn = row.length) (hrl : rn ≤ 100000) (hrow : Has w R (fl row)) :
    Calls Tryd.prog 34 #[.agg #[.slice A n c, .int .i64 last], tagg t.nm t.op t.v.1 t.v.2.1 t.v.2.2 t.or_ t.not_, .slice R rn rc] w fun e w' => e = .returned (.int .i64 (oneT cols row t)) ∧ Later w w' := by
  obtain ⟨gz, hgz⟩ : ∃ g, w.heap.size = g := ⟨_, rfl⟩
  obtain ⟨nm, op, ⟨vt, vi, vs⟩, o, nt⟩ := t
  obtain ⟨w1, hw1⟩ : ∃ x : World, (w.alloc (.cells #[.slice A n c, .int .i64 last] 33)).alloc (.cells (tcs nm op vt vi vs o nt) 28) = x := ⟨_, rfl⟩
  have BS := (Blk.new w #[.slice A n c, .int .i64 last] 33 gz hgz.symm).later (Later.new _ (.cells (tcs nm op vt vi vs o nt) 28))
  have BT := Blk.new (w.alloc (.cells #[.slice A n c, .int .i64 last] 33)) (tcs nm op vt vi vs o nt) 28 (gz + 1) (by simp [hgz])
  have L1 := (Later.new w (.cells #[.slice A n c, .int .i64 last] 33)).alloc (.cells (tcs nm op vt vi vs o nt) 28)
  rw [hw1] at BS BT L1
  have HF := Lib.hid (find_any A n c last cols nm w1 hn hl (hr.later L1))
  have hone : oneT cols row ⟨nm, op, (vt, vi, vs), o, nt⟩ = (if nt then 2 - (match (findC cols nm).bind (fun k => row[k]?) with | some v => saysT op (vt, vi, vs) v | none => 1) else (match (findC cols nm).bind (fun k => row[k]?) with | some v => saysT op (vt, vi, vs) v | none => 1)) := rfl
  have HRN := Lib.hid hrn
  have HROW := Lib.hid (hrow.later L1)
  have HL1 := Lib.hid L1
  have HBT := Lib.hid BT
  have s0 := BS.cell 0 _ rfl
  have s1 := BS.cell 1 _ rfl
  have t0 := BT.cell 0 _ rfl
  clear L1 BS BT hr hn hrow hrn
  dsimp only
  cases hfc : findC cols nm with
  | none =>
    rw [hfc] at HF hone
    have HO := Lib.hid hone
    have t6 := HBT.out.cell 6 _ rfl
    clear hone hfc
    go_enter Tryd.func34, Tryd.ntmps34
    go_wp2_with fail
    refine HF.out.mono ?_
    rintro e w2 ⟨rfl, l2⟩
    have t6 := (HBT.out.later l2).cell 6 _ rfl
    have HL2 := Lib.hid (HL1.out.trans l2)
    clear l2 s0 s1 t0 hw1 HF
    cases nt with
    | true =>
      go_wp2_with fail
      go_ret
      rw [HO.out]
      exact ⟨rfl, HL2.out⟩
    | false =>
      go_wp2_with fail
      go_ret
      rw [HO.out]
      exact ⟨rfl, HL2.out⟩
  | some k =>
    rw [hfc] at HF hone
    by_cases hk : k < row.length
    · have hrk : row[k]? = some row[k] := List.getElem?_eq_getElem hk
      simp only [Option.bind_some, hrk] at hone
      obtain ⟨b, off, rfl, c0, c1, c2⟩ := HROW.out.val3 k hk
      have hkr : (k : Int) < (rn : Int) := by have := HRN.out; omega
      have hkr2 : k < rn := by have := HRN.out; omega
      obtain ⟨x, hx⟩ : ∃ x, row[k] = x := ⟨_, rfl⟩
      rw [hx] at c0 c1 c2 hone
      obtain ⟨xt, xi, xs⟩ := x
      dsimp only at c0 c1 c2
      have k0 : CellIs w1 ⟨b, off + k * 3, none⟩ (.int .i64 xt) := c0
      have k1 : CellIs w1 ⟨b, off + k * 3 + 1, none⟩ (.int .i64 xi) := c1
      have k2 : CellIs w1 ⟨b, off + k * 3 + 2, none⟩ (.string xs) := c2
      have HO := Lib.hid hone
      clear hone hfc hx hrk hk c0 c1 c2
      go_enter Tryd.func34, Tryd.ntmps34
      go_wp2_with fail
      refine HF.out.mono ?_
      rintro e w2 ⟨rfl, l2⟩
      have k0 := (k0.later l2).drew
      have k1 := (k1.later l2).drew
      have k2 := (k2.later l2).drew
      have bt := (HBT.out.later l2).drew
      have lz := (HL1.out.trans l2).drew
      clear l2 s0 s1 t0 hw1 HF
      simp only [Option.getD_some, Option.isSome_some]
      go_wp2_with fail
      go_region_held3 (fun w' => w'.cell? ⟨gz + 1, 0, none⟩ = some (.string nm) ∧ w'.cell? ⟨gz + 1, 1, none⟩ = some (.int .i64 op) ∧ w'.cell? ⟨gz + 1, 2, none⟩ = some (.int .i64 vt) ∧ w'.cell? ⟨gz + 1, 3, none⟩ = some (.int .i64 vi) ∧ w'.cell? ⟨gz + 1, 4, none⟩ = some (.string vs) ∧ w'.cell? ⟨gz + 1, 5, none⟩ = some (.bool o) ∧ w'.cell? ⟨gz + 1, 6, none⟩ = some (.bool nt) ∧ w'.cell? ⟨b, off + k * 3, none⟩ = some (.int .i64 xt) ∧ w'.cell? ⟨b, off + k * 3 + 1, none⟩ = some (.int .i64 xi) ∧ w'.cell? ⟨b, off + k * 3 + 2, none⟩ = some (.string xs)) (exact ⟨bt.cell 0 _ rfl, bt.cell 1 _ rfl, bt.cell 2 _ rfl, bt.cell 3 _ rfl, bt.cell 4 _ rfl, bt.cell 5 _ rfl, bt.cell 6 _ rfl, k0.out, k1.out, k2.out⟩) (first | (go_at_call 54; refine (says_any _ _ _ _ _ _ _ _ _ _ _).mono ?_; rintro e wX ⟨rfl, lX⟩; have lz := lz.trans lX; have bt := bt.later lX; have k0 := k0.later lX; have k1 := k1.later lX; have k2 := k2.later lX; clear lX))
      have t6 := bt.cell 6 _ rfl
      have hs2 := saysT_in op (vt, vi, vs) (xt, xi, xs)
      clear k0 k1 k2
      cases nt with
      | true =>
        go_wp2_with fail
        go_ret
        rw [HO.out]
        exact ⟨rfl, lz⟩
      | false =>
        go_wp2_with fail
        go_ret
        rw [HO.out]
        exact ⟨rfl, lz⟩
    · have hrk : row[k]? = none := List.getElem?_eq_none (by omega)
      simp only [Option.bind_some, hrk] at hone
      have hkr : ¬ (k : Int) < (rn : Int) := by have := HRN.out; omega
      have hkr2 : ¬ k < rn := by have := HRN.out; omega
      have HO := Lib.hid hone
      clear hone hfc hrk hk
      go_enter Tryd.func34, Tryd.ntmps34
      go_wp2_with fail
      refine HF.out.mono ?_
      rintro e w2 ⟨rfl, l2⟩
      have t6 := (HBT.out.later l2).cell 6 _ rfl
      have HL2 := Lib.hid (HL1.out.trans l2)
      clear l2 s0 s1 t0 hw1 HF
      simp only [Option.getD_some, Option.isSome_some]
      cases nt with
      | true =>
        go_wp2_with fail
        go_ret
        rw [HO.out]
        exact ⟨rfl, HL2.out⟩
      | false =>
        go_wp2_with fail
        go_ret
        rw [HO.out]
        exact ⟨rfl, HL2.out⟩

/-- Where pred.Row's loop stands. -/
def RwI (cols : List Col3) (row : List Val3) (l : List Tst) (w : World) (av gv iv : Value) (wr : World) : Prop :=
  ∃ (k : Nat) (a g : Int), av = .int .i64 a ∧ gv = .int .i64 g ∧ iv = .int .i64 k ∧ k ≤ l.length ∧ rowS cols row (l.take k) = (decide (0 < k), a, g) ∧ Later w wr
theorem RwI.mk {cols : List Col3} {row : List Val3} {l : List Tst} {w wr : World} (i : Int) (k : Nat) (a g : Int) (hi : i = (k : Int)) (hk : k ≤ l.length) (h : rowS cols row (l.take k) = (decide (0 < k), a, g)) (L : Later w wr) : RwI cols row l w (.int .i64 a) (.int .i64 g) (.int .i64 i) wr := by
  subst hi; exact ⟨k, a, g, rfl, rfl, rfl, hk, h, L⟩
theorem rowS_step {cols : List Col3} {row : List Val3} {l : List Tst} {k : Nat} (hk : k < l.length) {a g : Int} (h : rowS cols row (l.take k) = (decide (0 < k), a, g)) :
    rowS cols row (l.take (k + 1)) = if decide (0 < k) && l[k].or_ then (true, max a g, min 2 (oneT cols row l[k])) else (true, a, min g (oneT cols row l[k])) := by
  rw [List.take_succ_eq_append_getElem hk, rowS_snoc, h]; rfl

set_option maxRecDepth 100000 in
set_option maxHeartbeats 2000000 in
theorem predRow_any (A : Option Addr) (n c : Nat) (last : Int) (cols : List Col3) (T : Option Addr) (tn tc : Nat) (l : List Tst) (R : Option Addr) (rn rc : Nat) (row : List Val3) (w : World) (hn : n = cols.length) (hl : n ≤ 100000) (hr : Has w A (fc cols)) (htn : tn = l.length) (htl : tn ≤ 100000) (hT : Has w T (ft l)) (hrn : rn = row.length) (hrl : rn ≤ 100000) (hrow : Has w R (fl row)) :
    Calls Tryd.prog 15 #[.agg #[.slice A n c, .int .i64 last], .slice T tn tc, .slice R rn rc] w fun e w' => e = .returned (.int .i64 (rowT cols l row)) ∧ Later w w' := by
  obtain ⟨gz, hgz⟩ : ∃ g, w.heap.size = g := ⟨_, rfl⟩
  obtain ⟨w1, hw1⟩ : ∃ x : World, w.alloc (.cells #[.slice A n c, .int .i64 last] 33) = x := ⟨_, rfl⟩
  have BS := Blk.new w #[.slice A n c, .int .i64 last] 33 gz hgz.symm
  have L1 := Later.new w (.cells #[.slice A n c, .int .i64 last] 33)
  rw [hw1] at BS L1
  have HI0 := Lib.hid (RwI.mk (cols := cols) (row := row) (l := l) (w := w) 0 0 0 2 rfl (Nat.zero_le _) rfl L1)
  have HTN := Lib.hid htn
  have HRN := Lib.hid hrn
  have HN := Lib.hid hn
  have HBS := Lib.hid BS
  have HL1 := Lib.hid L1
  have HR := Lib.hid hr
  have HT := Lib.hid hT
  have HROW := Lib.hid hrow
  clear BS htn hrn hn hr hT hrow
  go_enter Tryd.func15, Tryd.ntmps15
  go_wp2_with fail
  clear hw1 hgz
  go_loopw [7, 8, 13] (fun av gv iv wr => RwI cols row l w av gv iv wr ∧ Later w1 wr) (fun _ _ i _ => tn - (intOf i).toNat)
  case atStart => exact ⟨HI0.out, Later.refl _⟩
  case round =>
    obtain ⟨⟨k, a, g, rfl, rfl, rfl, hk, hst, lat⟩, lat1⟩ := hrel
    have HLAT := Lib.hid lat
    have HLAT1 := Lib.hid lat1
    have hin := rowS_in cols row (l.take k)
    rw [hst] at hin
    dsimp only at hin
    obtain ⟨⟨ha0, ha2⟩, hg0, hg2⟩ := hin
    by_cases hlt : k < tn
    · have hkl : k < l.length := by have := HTN.out; omega
      have HST := Lib.hid (rowS_step hkl hst)
      obtain ⟨tb, toff, hTA, hta⟩ := (HT.out.later lat).tst k hkl
      subst hTA
      have hso := oneT_in cols row l[k]
      have HB := Lib.hid (fun w' (h : Has w' (some ⟨tb, toff, none⟩) (ft l)) => begins_any (some ⟨tb, toff, none⟩) tn tc k l w' HTN.out htl hlt h)
      rw [show l.getD k default = l[k] by rw [List.getD_eq_getElem?_getD, List.getElem?_eq_getElem hkl]; rfl] at HB
      have HONE := Lib.hid (fun w' (h1 : Has w' A (fc cols)) (h2 : Has w' R (fl row)) => one_any A n c last cols l[k] R rn rc row w' HN.out hl h1 HRN.out hrl h2)
      obtain ⟨t, ht⟩ : ∃ t, l[k] = t := ⟨_, rfl⟩
      rw [ht] at hta HST HB HONE hso
      obtain ⟨nm, op, ⟨vt, vi, vs⟩, o, nt⟩ := t
      obtain ⟨q, hq⟩ : ∃ q, oneT cols row ⟨nm, op, (vt, vi, vs), o, nt⟩ = q := ⟨_, rfl⟩
      rw [hq] at HONE HST hso
      dsimp only at HB HONE HST
      obtain ⟨e0, e1, e2, e3, e4, e5, e6⟩ := hta
      dsimp only at e0 e1 e2 e3 e4 e5 e6
      have e0 := e0.out
      have e1 := e1.out
      have e2 := e2.out
      have e3 := e3.out
      have e4 := e4.out
      have e5 := e5.out
      have e6 := e6.out
      obtain ⟨gt, hgt⟩ : ∃ g, wr.heap.size = g := ⟨_, rfl⟩
      obtain ⟨w2, hw2⟩ : ∃ x : World, wr.alloc (.cells (tcs nm op vt vi vs o nt) 28) = x := ⟨_, rfl⟩
      have BT := Blk.new wr (tcs nm op vt vi vs o nt) 28 gt hgt.symm
      have l2 := Later.new wr (.cells (tcs nm op vt vi vs o nt) 28)
      rw [hw2] at BT l2
      have HL2 := Lib.hid l2
      have HBT := Lib.hid BT
      have HBB := Lib.hid (HB.out w2 (HT.out.later (lat.trans l2)))
      have HOO := Lib.hid (HONE.out w2 (HR.out.later (lat.trans l2)) (HROW.out.later (lat.trans l2)))
      clear BT l2 HB HONE hq ht hst lat lat1
      go_wp2_with fail
      clear hw2
      refine HBB.out.mono ?_
      rintro e wX ⟨rfl, rfl⟩
      have s0 := ((HBS.out.later HLAT1.out).later HL2.out).cell 0 _ rfl
      have s1 := ((HBS.out.later HLAT1.out).later HL2.out).cell 1 _ rfl
      have b0 := HBT.out.cell 0 _ rfl
      have b1 := HBT.out.cell 1 _ rfl
      have b2 := HBT.out.cell 2 _ rfl
      have b3 := HBT.out.cell 3 _ rfl
      have b4 := HBT.out.cell 4 _ rfl
      have b5 := HBT.out.cell 5 _ rfl
      have b6 := HBT.out.cell 6 _ rfl
      clear HBB e0 e1 e2 e3 e4 e5 e6
      obtain ⟨bb, hbb⟩ : ∃ b, (decide (0 < k) && o) = b := ⟨_, rfl⟩
      rw [hbb] at HST ⊢
      clear hbb
      cases bb with
      | true =>
        go_wp2_with (go_at_call 34; refine HOO.out.mono ?_; rintro e wY ⟨rfl, lY⟩; have HLY := Lib.hid ((HLAT.out.trans HL2.out).trans lY); have HLY1 := Lib.hid ((HLAT1.out.trans HL2.out).trans lY); clear lY s0 s1 b0 b1 b2 b3 b4 b5 b6)
        all_goals go_wp2_with fail
        all_goals go_roundw
        all_goals first
          | exact ⟨RwI.mk _ (k + 1) _ _ (by omega) hkl (by rw [HST.out]; simp) HLY.out, HLY1.out⟩
          | (simp [intOf]; omega)
      | false =>
        go_wp2_with (go_at_call 34; refine HOO.out.mono ?_; rintro e wY ⟨rfl, lY⟩; have HLY := Lib.hid ((HLAT.out.trans HL2.out).trans lY); have HLY1 := Lib.hid ((HLAT1.out.trans HL2.out).trans lY); clear lY s0 s1 b0 b1 b2 b3 b4 b5 b6)
        all_goals go_wp2_with fail
        all_goals go_roundw
        all_goals first
          | exact ⟨RwI.mk _ (k + 1) _ _ (by omega) hkl (by rw [HST.out]; simp) HLY.out, HLY1.out⟩
          | (simp [intOf]; omega)
    · have HE := Lib.hid (show rowT cols l row = max a g from by
        have : k = l.length := by have := HTN.out; omega
        subst this
        rw [List.take_length] at hst
        unfold rowT; rw [hst])
      clear hst
      go_wp2_with fail
      go_ret
      rw [HE.out]
      exact ⟨rfl, lat⟩
end Go.Proofs.YtkdpjocglfephaaDoor
