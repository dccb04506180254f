/- Tests in memory; what they say (mathematics). -/
import Derived.Test.YteiabachilpciaaDoorRowsM
import Derived.Test.YteiabachilpciaaDoorZoneM
namespace Go.Proofs.YteiabachilpciaaDoor
open Go.RowKit
set_option linter.unusedVariables false

/-- A test: name, op, value, or, not. -/
structure Tst where
  nm : ByteArray
  op : Int
  v : Val3
  or_ : Bool
  not_ : Bool
instance : Inhabited Tst := ⟨⟨⟨#[]⟩, 0, (0, 0, ⟨#[]⟩), false, false⟩⟩
abbrev tcs (nm : ByteArray) (op vt vi : Int) (vs : ByteArray) (o n : Bool) : Array Value := #[.string nm, .int .i64 op, .int .i64 vt, .int .i64 vi, .string vs, .bool o, .bool n]
abbrev tagg (nm : ByteArray) (op vt vi : Int) (vs : ByteArray) (o n : Bool) : Value := .agg #[.string nm, .int .i64 op, .int .i64 vt, .int .i64 vi, .string vs, .bool o, .bool n]
def encT (t : Tst) : List Value := [.string t.nm, .int .i64 t.op, .int .i64 t.v.1, .int .i64 t.v.2.1, .string t.v.2.2, .bool t.or_, .bool t.not_]
def ft (l : List Tst) : List Value := l.flatMap encT
theorem ft_append (a b : List Tst) : ft (a ++ b) = ft a ++ ft b := List.flatMap_append
theorem ft_length : ∀ l : List Tst, (ft l).length = l.length * 7
  | [] => rfl
  | x :: r => by
    have := ft_length r
    show (encT x ++ ft r).length = _
    rw [List.length_append, this, List.length_cons]
    simp [encT]; omega
theorem ft_get : ∀ (l : List Tst) (k : Nat) (h : k < l.length) (i : Nat) (hi : i < 7), (ft l)[k * 7 + i]? = (encT l[k])[i]?
  | x :: r, 0, _, i, hi => by
    show (encT x ++ ft r)[0 * 7 + i]? = _
    rw [Nat.zero_mul, Nat.zero_add, List.getElem?_append_left (by simpa [encT] using hi)]; rfl
  | x :: r, k + 1, h, i, hi => by
    have ih := ft_get r k (by simpa using h) i hi
    show (encT x ++ ft r)[(k + 1) * 7 + i]? = _
    rw [List.getElem?_append_right (by simp [encT]; omega)]
    rw [show (k + 1) * 7 + i - (encT x).length = k * 7 + i by simp [encT]; omega]
    exact ih
theorem ft_one (l : List Tst) : ∀ u ∈ ft l, u.oneCell' = true := by
  intro u hu
  obtain ⟨x, _, hx⟩ := List.mem_flatMap.1 hu
  simp only [encT, List.mem_cons, List.not_mem_nil, or_false] at hx
  rcases hx with rfl | rfl | rfl | rfl | rfl | rfl | rfl <;> rfl
/-- A test's cells. -/
def TstAt (w : World) (b o : Nat) (t : Tst) : Prop :=
  CellIs w ⟨b, o, none⟩ (.string t.nm) ∧ CellIs w ⟨b, o + 1, none⟩ (.int .i64 t.op) ∧ CellIs w ⟨b, o + 2, none⟩ (.int .i64 t.v.1) ∧ CellIs w ⟨b, o + 3, none⟩ (.int .i64 t.v.2.1) ∧ CellIs w ⟨b, o + 4, none⟩ (.string t.v.2.2) ∧ CellIs w ⟨b, o + 5, none⟩ (.bool t.or_) ∧ CellIs w ⟨b, o + 6, none⟩ (.bool t.not_)
theorem TstAt.later {w w' : World} {b o : Nat} {t : Tst} (h : TstAt w b o t) (k : Later w w') : TstAt w' b o t :=
  ⟨h.1.later k, h.2.1.later k, h.2.2.1.later k, h.2.2.2.1.later k, h.2.2.2.2.1.later k, h.2.2.2.2.2.1.later k, h.2.2.2.2.2.2.later k⟩
theorem Has.tst {w : World} {A : Option Addr} {l : List Tst} (h : Has w A (ft l)) (k : Nat) (hk : k < l.length) : ∃ b off, A = some ⟨b, off, none⟩ ∧ TstAt w b (off + k * 7) l[k] := by
  rcases h with h | ⟨b, off, hA, _, hc⟩
  · have h1 := ft_length l
    rw [h] at h1
    simp at h1
    omega
  · refine ⟨b, off, hA, ?_, ?_, ?_, ?_, ?_, ?_, ?_⟩
    · exact hc (k * 7 + 0) _ (ft_get l k hk 0 (by decide))
    · have := hc (k * 7 + 1) _ (ft_get l k hk 1 (by decide)); rw [← Nat.add_assoc] at this; exact this
    · have := hc (k * 7 + 2) _ (ft_get l k hk 2 (by decide)); rw [← Nat.add_assoc] at this; exact this
    · have := hc (k * 7 + 3) _ (ft_get l k hk 3 (by decide)); rw [← Nat.add_assoc] at this; exact this
    · have := hc (k * 7 + 4) _ (ft_get l k hk 4 (by decide)); rw [← Nat.add_assoc] at this; exact this
    · have := hc (k * 7 + 5) _ (ft_get l k hk 5 (by decide)); rw [← Nat.add_assoc] at this; exact this
    · have := hc (k * 7 + 6) _ (ft_get l k hk 6 (by decide)); rw [← Nat.add_assoc] at this; exact this

def sureN (b : Bool) : Int := if b then 2 else 0
/-- What a test says of a value, but for Not. -/
def saysT (op : Int) (t v : Val3) : Int :=
  if op = 7 then sureN (decide (v.1 = 0)) else if op = 8 then sureN (!decide (v.1 = 0)) else if v.1 = 0 ∨ t.1 = 0 then 1 else sureN (between op (cmp3 v t) (cmp3 v t))
def oneT (cols : List Col3) (row : List Val3) (t : Tst) : Int :=
  let said := match (findC cols t.nm).bind (fun k => row[k]?) with | some v => saysT t.op t.v v | none => 1
  if t.not_ then 2 - said else said
def stepT (cols : List Col3) (row : List Val3) (s : Bool × Int × Int) (t : Tst) : Bool × Int × Int :=
  if s.1 && t.or_ then (true, max s.2.1 s.2.2, min 2 (oneT cols row t)) else (true, s.2.1, min s.2.2 (oneT cols row t))
def rowS (cols : List Col3) (row : List Val3) (l : List Tst) : Bool × Int × Int := l.foldl (stepT cols row) (false, 0, 2)
theorem rowS_snoc (cols : List Col3) (row : List Val3) (l : List Tst) (t : Tst) : rowS cols row (l ++ [t]) = stepT cols row (rowS cols row l) t := by unfold rowS; rw [List.foldl_append]; rfl
theorem rowS_fst (cols : List Col3) (row : List Val3) (l : List Tst) : (rowS cols row l).1 = decide (0 < l.length) := by
  rcases List.eq_nil_or_concat l with rfl | ⟨r, t, rfl⟩
  · rfl
  · rw [List.concat_eq_append, rowS_snoc]
    unfold stepT
    split <;> simp
/-- What tests say of a row. -/
def rowT (cols : List Col3) (l : List Tst) (row : List Val3) : Int := max (rowS cols row l).2.1 (rowS cols row l).2.2
theorem sureN_in (b : Bool) : sureN b = 0 ∨ sureN b = 2 := by unfold sureN; cases b <;> simp
theorem saysT_in (op : Int) (t v : Val3) : 0 ≤ saysT op t v ∧ saysT op t v ≤ 2 := by
  unfold saysT
  split
  · rcases sureN_in (decide (v.1 = 0)) with h | h <;> omega
  · split
    · rcases sureN_in (!decide (v.1 = 0)) with h | h <;> omega
    · split
      · omega
      · rcases sureN_in (between op (cmp3 v t) (cmp3 v t)) with h | h <;> omega
theorem oneT_in (cols : List Col3) (row : List Val3) (t : Tst) : 0 ≤ oneT cols row t ∧ oneT cols row t ≤ 2 := by
  unfold oneT
  have : 0 ≤ (match (findC cols t.nm).bind (fun k => row[k]?) with | some v => saysT t.op t.v v | none => 1) ∧ (match (findC cols t.nm).bind (fun k => row[k]?) with | some v => saysT t.op t.v v | none => 1) ≤ 2 := by
    split
    · exact saysT_in _ _ _
    · omega
  dsimp only
  split <;> omega
theorem rowS_in (cols : List Col3) (row : List Val3) (l : List Tst) : (0 ≤ (rowS cols row l).2.1 ∧ (rowS cols row l).2.1 ≤ 2) ∧ 0 ≤ (rowS cols row l).2.2 ∧ (rowS cols row l).2.2 ≤ 2 := by
  have key : ∀ (r : List Tst) (s : Bool × Int × Int), (0 ≤ s.2.1 ∧ s.2.1 ≤ 2) ∧ 0 ≤ s.2.2 ∧ s.2.2 ≤ 2 → (0 ≤ (r.foldl (stepT cols row) s).2.1 ∧ (r.foldl (stepT cols row) s).2.1 ≤ 2) ∧ 0 ≤ (r.foldl (stepT cols row) s).2.2 ∧ (r.foldl (stepT cols row) s).2.2 ≤ 2 := by
    intro r
    induction r with
    | nil => intro s h; exact h
    | cons t r ih =>
      intro s h
      refine ih _ ?_
      have := oneT_in cols row t
      unfold stepT
      split <;> dsimp only <;> omega
  exact key l (false, 0, 2) (by decide)
end Go.Proofs.YteiabachilpciaaDoor
