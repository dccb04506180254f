
import Derived.Test.YtfplppldojlanaaDoorHigh
/- Mathematics of blocks that tell whether they are whole. -/
namespace Go.Proofs.YtfplppldojlanaaDoor
set_option linter.unusedVariables false

def nums8 (g s : Nat) : List Nat := topB g 4 ++ topB s 4
theorem nums8_len (g s : Nat) : (nums8 g s).length = 8 := by unfold nums8; rw [List.length_append, topB_length, topB_length]
theorem nums8_lt (g s : Nat) : ∀ x ∈ nums8 g s, x < 256 := by
  intro x hx
  rcases List.mem_append.1 hx with h | h
  · exact topB_lt _ _ x h
  · exact topB_lt _ _ x h
theorem topB4 (v : Nat) : topB v 4 = [v / 16777216 % 256, v / 65536 % 256, v / 256 % 256, v % 256] := by
  simp [topB]
theorem topB_inj {u v : Nat} (hu : u < 4294967296) (hv : v < 4294967296) (h : topB u 4 = topB v 4) : u = v := by
  rw [topB4, topB4] at h
  simp only [List.cons.injEq, and_true] at h
  omega
theorem nums8_inj {g s g' s' : Nat} (h1 : g < 4294967296) (h2 : s < 4294967296) (h3 : g' < 4294967296) (h4 : s' < 4294967296) (h : nums8 g s = nums8 g' s') : g = g' ∧ s = s' := by
  obtain ⟨a, b⟩ := List.append_inj h (by rw [topB_length, topB_length])
  exact ⟨topB_inj h1 h3 a, topB_inj h2 h4 b⟩
theorem nums8_zero : nums8 0 0 = List.replicate 8 0 := by simp [nums8, topB]

def tagHead (g s : Nat) (l : List Nat) : List Nat := nums8 g s ++ (l.length :: l)
def tagB (g s : Nat) (l : List Nat) : List Nat := tagHead g s l ++ (List.replicate (111 - l.length) 0 ++ nums8 g s)
theorem tagHead_len (g s : Nat) (l : List Nat) : (tagHead g s l).length = 9 + l.length := by
  unfold tagHead; rw [List.length_append, nums8_len, List.length_cons]; omega
theorem tagB_len {g s : Nat} {l : List Nat} (h : l.length ≤ 110) : (tagB g s l).length = 128 := by
  unfold tagB; rw [List.length_append, tagHead_len, List.length_append, List.length_replicate, nums8_len]; omega
theorem tagB_lt {g s : Nat} {l : List Nat} (h : l.length ≤ 110) (hl : ∀ x ∈ l, x < 256) : ∀ x ∈ tagB g s l, x < 256 := by
  intro x hx
  unfold tagB tagHead at hx
  simp only [List.mem_append, List.mem_cons] at hx
  rcases hx with (hx | rfl | hx) | hx | hx
  · exact nums8_lt _ _ x hx
  · omega
  · exact hl x hx
  · have := (List.mem_replicate.1 hx).2; omega
  · exact nums8_lt _ _ x hx
theorem tagB_at8 (g s : Nat) (l : List Nat) : (tagB g s l)[8]? = some l.length := by
  unfold tagB tagHead
  rw [List.append_assoc, List.getElem?_append_right (by rw [nums8_len]; exact Nat.le_refl _), nums8_len]
  rfl
theorem tagB_load (g s : Nat) (l : List Nat) : ((tagB g s l).drop 9).take l.length = l := by
  have e : tagB g s l = (nums8 g s ++ [l.length]) ++ (l ++ (List.replicate (111 - l.length) 0 ++ nums8 g s)) := by
    unfold tagB tagHead; simp
  rw [e, List.drop_left' (by rw [List.length_append, nums8_len]; rfl), List.take_left]
theorem tagB_tail {g s : Nat} {l : List Nat} (h : l.length ≤ 110) : (tagB g s l).drop 120 = nums8 g s := by
  unfold tagB
  rw [← List.append_assoc, List.drop_left' (by rw [List.length_append, tagHead_len, List.length_replicate]; omega)]

/-- The length that a block tells. -/
def at8 (b : List Nat) : Nat := b.getD 8 0
def loadT (b : List Nat) : List Nat := (b.drop 9).take (at8 b)
def putT20 (g s : Nat) (l : List Nat) : Option (List Nat) := if l.length ≤ 110 then some (tagB g s l) else none
def takeT20 (g s : Nat) (b : List Nat) : Option (List Nat) := if b.length = 128 ∧ at8 b ≤ 110 ∧ tagB g s (loadT b) = b then some (loadT b) else none
theorem at8_tag (g s : Nat) (l : List Nat) : at8 (tagB g s l) = l.length := by
  unfold at8; rw [List.getD_eq_getElem?_getD, tagB_at8]; rfl
theorem loadT_tag (g s : Nat) (l : List Nat) : loadT (tagB g s l) = l := by
  unfold loadT; rw [at8_tag, tagB_load]
theorem loadT_len {b : List Nat} (h : b.length = 128) (h8 : at8 b ≤ 110) : (loadT b).length = at8 b := by
  unfold loadT; rw [List.length_take, List.length_drop]; omega
theorem takeT20_iff {g s : Nat} {b l : List Nat} : takeT20 g s b = some l ↔ l.length ≤ 110 ∧ b = tagB g s l := by
  unfold takeT20
  constructor
  · intro h
    split at h
    · rename_i h3
      injection h with h
      have e := loadT_len h3.1 h3.2.1
      rw [h] at e h3
      exact ⟨by omega, h3.2.2.symm⟩
    · cases h
  · rintro ⟨h1, rfl⟩
    rw [at8_tag, loadT_tag, if_pos ⟨tagB_len h1, h1, rfl⟩]
theorem takeT20_put {g s : Nat} {l : List Nat} (h : l.length ≤ 110) : takeT20 g s (tagB g s l) = some l := takeT20_iff.2 ⟨h, rfl⟩
/-- A block of other numbers is none. -/
theorem takeT20_other {g s g' s' : Nat} {l : List Nat} (hne : nums8 g' s' ≠ nums8 g s) (h : l.length ≤ 110) : takeT20 g' s' (tagB g s l) = none := by
  cases e : takeT20 g' s' (tagB g s l) with
  | none => rfl
  | some z =>
    obtain ⟨h1, h2⟩ := takeT20_iff.1 e
    have := tagB_tail (g := g') (s := s') h1
    rw [← h2, tagB_tail h] at this
    exact absurd this.symm hne
/-- A block torn over another one, of other numbers at its end. -/
theorem takeT20_torn {g s : Nat} {a y : List Nat} (ha : a.length ≤ 110) (hy : y.length = 128) (hne : y.drop 120 ≠ nums8 g s) (k : Nat) (hk : k ≤ 128) :
    takeT20 g s ((tagB g s a).take k ++ y.drop k) = if (tagB g s a).take k ++ y.drop k = tagB g s a then some a else none := by
  split
  · rename_i h; rw [h]; exact takeT20_put ha
  · rename_i hno
    cases e : takeT20 g s ((tagB g s a).take k ++ y.drop k) with
    | none => rfl
    | some z =>
      exfalso
      obtain ⟨h1, h2⟩ := takeT20_iff.1 e
      have hx := tagB_len (g := g) (s := s) ha
      have tz := tagB_tail (g := g) (s := s) h1
      have tx := tagB_tail (g := g) (s := s) ha
      have hl : ((tagB g s a).take k).length = k := by rw [List.length_take]; omega
      by_cases h120 : k ≤ 120
      · apply hne
        rw [← tz, ← h2, List.drop_append, hl, List.drop_of_length_le (by omega : ((tagB g s a).take k).length ≤ 120), List.nil_append, List.drop_drop]
        congr 1
        omega
      · apply hno
        rw [h2, ← List.take_append_drop 120 (tagB g s z), ← List.take_append_drop 120 (tagB g s a), tz, tx]
        congr 1
        rw [← h2, List.take_append_of_le_length (by omega), List.take_take, Nat.min_eq_left (by omega)]
end Go.Proofs.YtfplppldojlanaaDoor
