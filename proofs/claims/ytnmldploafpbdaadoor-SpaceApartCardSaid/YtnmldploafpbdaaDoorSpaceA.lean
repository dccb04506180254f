/- The walks of package space. -/
import Derived.Test.YtnmldploafpbdaaDoorBase
import Derived.Test.YtnmldploafpbdaaDoorOwn
import Derived.BigQuiet
namespace Go.Proofs.YtnmldploafpbdaaDoor
open Go.RowKit
set_option linter.unusedVariables false

/-- Of n blocks: how many are taken. -/
def usedL (l : List Bool) : Nat := (l.filter id).length
theorem usedL_snoc (l : List Bool) (b : Bool) : usedL (l ++ [b]) = usedL l + (if b then 1 else 0) := by
  cases b <;> simp [usedL]
theorem usedL_le (l : List Bool) : usedL l ≤ l.length := List.length_filter_le _ _

/-- A space in memory: at p, from f on, l tells which blocks are taken; its row is g. -/
def Spc (w : World) (p : Nat) (f : Int) (l : List Bool) (g c : Nat) : Prop :=
  Blk w p #[.int .i64 f, .slice (some ⟨g, 0, none⟩) l.length c] 53 ∧ p ≠ g ∧ w.ownsRow 0 4 1 (.slice (some ⟨g, 0, none⟩) l.length c) l.length (bools l)
section
variable {w w' : World} {p g c : Nat} {f : Int} {l : List Bool}
theorem Spc.later (h : Spc w p f l g c) (k : Later w w') : Spc w' p f l g c := ⟨h.1.later k, h.2.1, own_later h.2.2 k⟩
theorem Spc.at0 (h : Spc w p f l g c) : w.cell? ⟨p, 0, none⟩ = some (.int .i64 f) := h.1.cell 0 _ rfl
theorem Spc.at1 (h : Spc w p f l g c) : w.cell? ⟨p, 1, none⟩ = some (.slice (some ⟨g, 0, none⟩) l.length c) := h.1.cell 1 _ rfl
theorem Spc.cell (h : Spc w p f l g c) (i : Nat) (hi : i < l.length) : w.cell? ⟨g, i, none⟩ = some (.bool l[i]) := by
  rw [h.2.2.cellAt i (by omega), bools_get _ _ hi]
theorem Spc.cap (h : Spc w p f l g c) : l.length ≤ c := own_cap h.2.2
theorem Spc.capmax (h : Spc w p f l g c) : c ≤ 9223372036854775807 := own_capmax h.2.2
/-- A block turned. -/
theorem Spc.turn (h : Spc w p f l g c) (i : Nat) (b : Bool) : Spc (w.setCell ⟨g, i, none⟩ (.bool b)) p f (l.set i b) g c := by
  refine ⟨?_, h.2.1, ?_⟩
  · rw [List.length_set]; exact h.1.far h.2.1 _
  · have h3 := (h.2.2.stored i (.bool b)).1
    rw [List.length_set, show bools (l.set i b) = (bools l).set i (.bool b) by simp [bools, List.map_set]]
    exact h3
end
abbrev sptr (p : Nat) : Value := .pointer (some ⟨p, 0, none⟩)
abbrev ext (a n : Int) : Value := .agg #[.int .i64 a, .int .i64 n]

set_option maxRecDepth 100000 in
set_option maxHeartbeats 1000000 in
theorem spaceRun_any (p : Nat) (f : Int) (l : List Bool) (g c : Nat) (k m : Nat) (w : World) (h : Spc w p f l g c) (hf : 0 ≤ f) (hf2 : f ≤ 1099511627776) (hk : k + m ≤ l.length) (hm : 1 ≤ m) (hl : l.length ≤ 4000) :
    Calls Tryd.prog 37 #[sptr p, ext (f + (k : Int)) m] w fun e w' => e = .returned (.slice (some ⟨g, k, none⟩) m (c - k)) ∧ Later w w' := by
  obtain ⟨a, ha⟩ : ∃ a, a = f + (k : Int) := ⟨_, rfl⟩
  rw [← ha]
  have e1 : IntKind.i64.wrap (a - f) = (k : Int) := by rw [IntWalk.i64_in _ ⟨by omega, by omega⟩]; omega
  obtain ⟨n, hn⟩ : ∃ n, n = l.length := ⟨_, rfl⟩
  have hc := h.cap
  have HL := Lib.hid (Later.new w (.cells #[.int .i64 a, .int .i64 m] 30))
  have BE := Blk.new w #[.int .i64 a, .int .i64 m] 30 w.heap.size rfl
  have h2 := h.later HL.out
  have a0 := h2.at0
  have a1 := h2.at1
  have b0 := BE.cell 0 _ rfl
  have b1 := BE.cell 1 _ rfl
  rw [← hn] at a1
  have hkc : ¬ c = k := by omega
  have j1 : (k : Int) ≤ (n : Int) := by omega
  have j2 : (n : Int) ≤ (c : Int) := by omega
  have j3 : (k : Int) ≤ (c : Int) := by omega
  have j4 : (c : Int) - (k : Int) = ((c - k : Nat) : Int) := by omega
  have j5 : (n : Int) - (k : Int) = ((n - k : Nat) : Int) := by omega
  have j6 : (m : Int) ≤ ((c - k : Nat) : Int) := by omega
  obtain ⟨w1, hw1⟩ : ∃ x, w.alloc (.cells #[.int .i64 a, .int .i64 m] 30) = x := ⟨_, rfl⟩
  rw [hw1] at a0 a1 b0 b1 HL
  obtain ⟨ge, hge⟩ : ∃ x, w.heap.size = x := ⟨_, rfl⟩
  rw [hge] at b0 b1
  clear h h2 BE ha hn
  go_enter Tryd.func37, Tryd.ntmps37
  go_wp2_with fail
  go_quiet (fail)
  go_wp2_with fail
  go_ret
  exact ⟨rfl, HL.out.drewN _⟩

set_option maxRecDepth 100000 in
set_option maxHeartbeats 1000000 in
theorem spaceUsed_any (p : Nat) (f : Int) (l : List Bool) (g c : Nat) (w : World) (h : Spc w p f l g c) (hl : l.length ≤ 4000) :
    Calls Tryd.prog 20 #[sptr p] w fun e w' => e = .returned (.int .i64 (usedL l)) ∧ w' = w := by
  have HS := Lib.hid h
  have hc := h.cap
  have a1 := h.at1
  obtain ⟨n, hn⟩ : ∃ n, n = l.length := ⟨_, rfl⟩
  rw [← hn] at a1 hc hl
  have HN := Lib.hid hn
  clear h hn
  go_enter Tryd.func20, Tryd.ntmps20
  go_wp2_with fail
  go_loopw [3, 13] (fun av iv wr => ∃ k : Nat, iv = .int .i64 k ∧ av = .int .i64 (usedL (l.take k)) ∧ k ≤ n ∧ wr = w) (fun _ i _ => n - (intOf i).toNat)
  case atStart => exact ⟨0, rfl, rfl, Nat.zero_le _, rfl⟩
  case round =>
    obtain ⟨k, rfl, rfl, hk, rfl⟩ := hrel
    by_cases hlt : k < n
    · have hcell := HS.out.cell k (by rw [← HN.out]; exact hlt)
      have hlt' := HN.out ▸ hlt
      have hu := usedL_snoc (l.take k) l[k]
      rw [← List.take_succ_eq_append_getElem hlt'] at hu
      have hub := usedL_le (l.take k)
      have hub2 : (l.take k).length ≤ k := by rw [List.length_take]; omega
      obtain ⟨u, hue⟩ : ∃ u, u = usedL (l.take k) := ⟨_, rfl⟩
      obtain ⟨b, hb⟩ : ∃ b, b = l[k] := ⟨_, rfl⟩
      rw [← hb] at hcell hu
      rw [← hue] at hu hub ⊢
      have HU := Lib.hid hu
      have hu4 : u ≤ 4000 := by omega
      clear hu hue hub hub2 hb
      cases b
      all_goals go_wp2_with fail
      · go_roundw
        case rel => exact ⟨k + 1, by go_num, by rw [HU.out]; rfl, by omega, trivial⟩
        case measure => simp [intOf]; omega
      · go_roundw
        case rel => exact ⟨k + 1, by go_num, by rw [HU.out]; go_num, by omega, trivial⟩
        case measure => simp [intOf]; omega
    · obtain rfl : k = n := by omega
      have hu : usedL (l.take k) = usedL l := by rw [HN.out, List.take_length]
      rw [hu]
      go_wp2_with fail
      go_ret
      exact ⟨rfl, rfl⟩

/-- Where b stands first in a list; else -1. -/
def idxB (b : Bool) (l : List Bool) : Int := match l.findIdx? (· == b) with
  | some i => (i : Int)
  | none => -1
theorem idxB_at {b : Bool} {l : List Bool} {k : Nat} (hk : k < l.length) (h : ∀ i, (hi : i < k) → l[i] ≠ b) (hb : l[k] = b) : idxB b l = (k : Int) := by
  have : l.findIdx? (· == b) = some k := by
    rw [List.findIdx?_eq_some_iff_getElem]
    exact ⟨hk, by simp [hb], fun j hj => by simpa using h j hj⟩
  unfold idxB; rw [this]
theorem idxB_none {b : Bool} {l : List Bool} (h : ∀ i, (hi : i < l.length) → l[i] ≠ b) : idxB b l = -1 := by
  have : l.findIdx? (· == b) = none := by
    rw [List.findIdx?_eq_none_iff]
    intro x hx
    obtain ⟨i, hi, rfl⟩ := List.getElem_of_mem hx
    simpa using h i hi
  unfold idxB; rw [this]

set_option maxRecDepth 100000 in
set_option maxHeartbeats 1000000 in
theorem slIndex_any (g k m c : Nat) (b : Bool) (l : List Bool) (w : World) (hm : m = l.length) (hl : m ≤ 4000) (h : ∀ i, (hi : i < l.length) → w.cell? ⟨g, k + i, none⟩ = some (.bool l[i])) :
    Calls Tryd.prog 45 #[.slice (some ⟨g, k, none⟩) m c, .bool b] w fun e w' => e = .returned (.int .i64 (idxB b l)) ∧ w' = w := by
  have HC := Lib.hid h
  have HM := Lib.hid hm
  clear h hm
  go_enter Tryd.func45, Tryd.ntmps45
  go_wp2_with fail
  go_loopw [8] (fun iv wr => ∃ j : Nat, iv = .int .i64 j ∧ j ≤ m ∧ (∀ i, (hi : i < j) → ∀ hl : i < l.length, l[i] ≠ b) ∧ wr = w) (fun i _ => m - (intOf i).toNat)
  case atStart => exact ⟨0, rfl, Nat.zero_le _, fun i hi => by omega, rfl⟩
  case round =>
    obtain ⟨j, rfl, hj, hb, rfl⟩ := hrel
    have HB := Lib.hid hb
    clear hb
    by_cases hlt : j < m
    · have hlt' : j < l.length := by rw [← HM.out]; exact hlt
      have hcell := HC.out j hlt'
      obtain ⟨x, hx⟩ : ∃ x, x = l[j] := ⟨_, rfl⟩
      rw [← hx] at hcell
      have HX := Lib.hid hx
      clear hx
      by_cases hxb : b = x
      · subst hxb
        go_wp2_with fail
        go_ret
        exact ⟨by rw [idxB_at hlt' (fun i hi => HB.out i hi (by omega)) HX.out.symm]; rfl, rfl⟩
      · have hbx : (b == x) = false := by simpa using hxb
        go_wp2_with fail
        go_roundw
        case rel =>
          refine ⟨j + 1, by go_num, by omega, ?_, trivial⟩
          intro i hi hl
          rcases Nat.lt_or_ge i j with h | h
          · exact HB.out i h hl
          · obtain rfl : i = j := by omega
            intro h
            exact hxb (by rw [HX.out, h])
        case measure => simp [intOf]; omega
    · obtain rfl : j = m := by omega
      go_wp2_with fail
      go_ret
      exact ⟨by rw [idxB_none (fun i hi => HB.out i (by rw [HM.out]; exact hi) hi)]; rfl, rfl⟩
end Go.Proofs.YtnmldploafpbdaaDoor
