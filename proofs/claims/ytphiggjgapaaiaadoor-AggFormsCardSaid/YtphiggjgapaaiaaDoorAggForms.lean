/- The walk of rabbetlaw24.AggForms. -/
import Derived.Test.YtphiggjgapaaiaaDoorAggY
import Derived.Test.YtphiggjgapaaiaaDoorLits
import Derived.Test.YtphiggjgapaaiaaDoorSameR
namespace Go.Proofs.YtphiggjgapaaiaaDoor
open Go.RowKit
set_option linter.unusedVariables false

abbrev colF0 : List Val3 := [n2 1, z3, n2 1, z3]
abbrev colF1 : List Val3 := [n2 5, n2 7, z3, z3]
abbrev aggF : List (Int × Int) := [(1, -1), (1, 1), (2, 1), (3, 1), (4, 1)]
abbrev rowF0 : List Val3 := [z3, n2 2, n2 1, n2 7, n2 7, n2 7]
abbrev rowF1 : List Val3 := [n2 1, n2 2, n2 1, n2 5, n2 5, n2 5]
theorem formS : IsS (cmpB [colF0, colF1] [0]) 4 [1, 3, 0, 2] := ⟨by decide, by decide⟩
theorem form_groups {R : List (List Nat)} (h : GroupsOf [colF0, colF1] [0] 4 R) : R = [[1, 3], [0, 2]] := by
  rcases h with ⟨h, _⟩ | ⟨_, S, hS, rfl⟩
  · cases h
  · rw [IsS.one (cmpB_turn [colF0, colF1] [0]) hS formS]; rfl
theorem form_run : runE [colF0, colF1] [0] aggF [[1, 3], [0, 2]] = .ok [rowF0, rowF1] := by rfl
theorem whole_any (v : Int) (w : World) : Calls Tryd.prog 14 #[.int .i64 v] w fun e w' => e = .returned (.agg #[.int .i64 2, .int .i64 v, .string ⟨#[]⟩]) ∧ w.alloc (.cells #[.int .i64 2, .int .i64 v, .string ⟨#[]⟩] 29) = w' := by
  go_enter Tryd.func14, Tryd.ntmps14
  go_wp2_with fail
  exact bodyPost_ret (v := .agg #[.int .i64 2, .int .i64 v, .string ⟨#[]⟩]) (by simp [results, Tryd.results14, go_sem]) rfl ⟨rfl, rfl⟩
def wO (v : Int) : Obj := .cells #[.int .i64 2, .int .i64 v, .string ⟨#[]⟩] 29
def litF (g : Nat) : List Obj := [wO 1, wO 1, .cells (fl colF0).toArray 29, wO 5, wO 7, .cells (fl colF1).toArray 29, .cells #[.slice (some ⟨g + 2, 0, none⟩) 4 4, .slice (some ⟨g + 5, 0, none⟩) 4 4] 30, .cells #[.int .i64 0] 3, .cells (fa aggF).toArray 48]
def litG (g : Nat) : List Obj := [wO 2, wO 1, wO 7, wO 7, wO 7, .cells (fl rowF0).toArray 29, wO 1, wO 2, wO 1, wO 5, wO 5, wO 5, .cells (fl rowF1).toArray 29, .cells #[.slice (some ⟨g + 5, 0, none⟩) 6 6, .slice (some ⟨g + 12, 0, none⟩) 6 6] 31]

set_option maxRecDepth 100000 in
set_option maxHeartbeats 4000000 in
theorem aggForms_any (a0 a1 a2 : Addr) (w : World) (hs : S24 w a0 a1 a2) : Calls Tryd.prog 6 #[] w fun e w' => e = .returned (.bool true) ∧ Later w w' := by
  have HB := Lib.hid (begun24_any a0 a1 a2 w hs)
  have HS := Lib.hid hs
  clear hs
  go_enter Tryd.func6, Tryd.ntmps6
  go_wp2_with fail
  refine HB.out.mono ?_
  rintro e wb ⟨rfl, lb⟩
  obtain ⟨g, hg⟩ : ∃ g, wb.heap.size = g := ⟨_, rfl⟩
  obtain ⟨w2, hw2⟩ : ∃ x, wLits wb (litF g) = x := ⟨_, rfl⟩
  have l2 : Later wb w2 := hw2 ▸ wLits_later _ _
  have b2 : Blk w2 (g + 2) (fl colF0).toArray 29 := hw2 ▸ wLits_blk hg 2 rfl
  have b5 : Blk w2 (g + 5) (fl colF1).toArray 29 := hw2 ▸ wLits_blk hg 5 rfl
  have b6 : Blk w2 (g + 6) #[.slice (some ⟨g + 2, 0, none⟩) 4 4, .slice (some ⟨g + 5, 0, none⟩) 4 4] 30 := hw2 ▸ wLits_blk hg 6 rfl
  have b7 : Blk w2 (g + 7) #[.int .i64 0] 3 := hw2 ▸ wLits_blk hg 7 rfl
  have b8 : Blk w2 (g + 8) (fa aggF).toArray 48 := hw2 ▸ wLits_blk hg 8 rfl
  have HRUN := Lib.hid (aggRun_any (some ⟨g + 6, 0, none⟩) (some ⟨g + 7, 0, none⟩) (some ⟨g + 8, 0, none⟩) 2 2 1 1 5 5 [⟨some ⟨g + 2, 0, none⟩, 4, colF0⟩, ⟨some ⟨g + 5, 0, none⟩, 4, colF1⟩] [0] aggF a0 a1 a2 w2 (HS.out.later (lb.trans l2)) rfl (by omega) rfl (by omega) rfl (by omega)
    ⟨b6.has, fun s hs => by
      simp only [List.mem_cons, List.not_mem_nil, or_false] at hs
      rcases hs with rfl | rfl
      · exact ⟨HasX.of b2.has, Nat.le_refl _, (by omega : (4 : Nat) ≤ 9223372036854775807), fun h => by cases h⟩
      · exact ⟨HasX.of b5.has, Nat.le_refl _, (by omega : (4 : Nat) ≤ 9223372036854775807), fun h => by cases h⟩⟩
    b7.has b8.has (fun s hs => by
      simp only [List.mem_cons, List.not_mem_nil, or_false] at hs
      rcases hs with rfl | rfl
      · exact (show (4 : Nat) ≤ 1000 by omega)
      · exact (show (4 : Nat) ≤ 1000 by omega)) (show (4 : Nat) ≤ 20 by omega) (fun s hs x hx => by
      simp only [List.mem_cons, List.not_mem_nil, or_false] at hs
      rcases hs with rfl | rfl
      · exact (show ∀ x ∈ colF0, -9223372036854775808 ≤ x.2.1 ∧ x.2.1 ≤ 9223372036854775807 by decide) x hx
      · exact (show ∀ x ∈ colF1, -9223372036854775808 ≤ x.2.1 ∧ x.2.1 ≤ 9223372036854775807 by decide) x hx))
  have HL2 := Lib.hid (lb.trans l2)
  have HG := Lib.hid hg
  rw [← hw2] at HRUN
  have HW2 := Lib.hid hw2
  have hwf : w2.heap.size = g + 9 := by rw [← hw2, wLits_size, hg]; rfl
  clear hw2 l2 lb b2 b5 b6 b7 b8 HB
  subst hg
  go_wp2_with (go_at_call 14; refine (whole_any _ _).mono ?_; rintro e w' ⟨rfl, rfl⟩)
  refine HRUN.out.mono ?_
  rintro e w3 (⟨hbad, _⟩ | ⟨_, R, hgo, (⟨RA, rc, rs, rfl, hrun, hat, _, _, l3⟩ | ⟨nn, hrun, _⟩)⟩)
  · exact absurd (show RunOk 2 [0] aggF from ⟨by decide, fun a ha => by
      simp only [List.mem_cons, List.not_mem_nil, or_false] at ha
      rcases ha with rfl | rfl | rfl | rfl | rfl <;> (unfold AggOk; decide)⟩) hbad
  rotate_left
  · have hR := form_groups (show GroupsOf [colF0, colF1] [0] 4 R from hgo)
    subst hR
    have h1 : runE [colF0, colF1] [0] aggF [[1, 3], [0, 2]] = .error nn := hrun
    rw [form_run] at h1
    cases h1
  · have hR := form_groups (show GroupsOf [colF0, colF1] [0] 4 R from hgo)
    subst hR
    have h1 : runE [colF0, colF1] [0] aggF [[1, 3], [0, 2]] = .ok (rs.map (·.l)) := hrun
    rw [form_run] at h1
    injection h1 with h1
    have hrl : rs.length = 2 := by
      have := congrArg List.length h1
      rw [List.length_map] at this
      exact this.symm
    rw [hrl]
    rw [HW2.out] at l3
    have HL3 := Lib.hid (HL2.out.trans l3)
    clear hgo hrun HRUN l3
    obtain ⟨g, hg⟩ : ∃ g, w3.heap.size = g := ⟨_, rfl⟩
    obtain ⟨w4, hw4⟩ : ∃ x, wLits w3 (litG g) = x := ⟨_, rfl⟩
    have l4 : Later w3 w4 := hw4 ▸ wLits_later _ _
    have b5 : Blk w4 (g + 5) (fl rowF0).toArray 29 := hw4 ▸ wLits_blk hg 5 rfl
    have b12 : Blk w4 (g + 12) (fl rowF1).toArray 29 := hw4 ▸ wLits_blk hg 12 rfl
    have b13 : Blk w4 (g + 13) #[.slice (some ⟨g + 5, 0, none⟩) 6 6, .slice (some ⟨g + 12, 0, none⟩) 6 6] 31 := hw4 ▸ wLits_blk hg 13 rfl
    have hl6 : ∀ s ∈ rs, s.l.length ≤ 1000 := fun s hs => by
      have h2 : s.l ∈ rs.map (·.l) := List.mem_map.2 ⟨s, hs, rfl⟩
      rw [← h1] at h2
      simp only [List.mem_cons, List.not_mem_nil, or_false] at h2
      rcases h2 with h2 | h2 <;> (rw [h2]; exact (show (6 : Nat) ≤ 1000 by omega))
    have HSM := Lib.hid (refSameRows_any RA (some ⟨g + 13, 0, none⟩) 2 2 rc 2 rs [⟨some ⟨g + 5, 0, none⟩, 6, rowF0⟩, ⟨some ⟨g + 12, 0, none⟩, 6, rowF1⟩] w4 hrl.symm rfl (by omega) (by omega) (hat.later l4)
      ⟨b13.has, fun s hs => by
        simp only [List.mem_cons, List.not_mem_nil, or_false] at hs
        rcases hs with rfl | rfl
        · exact ⟨HasX.of b5.has, Nat.le_refl _, (by omega : (6 : Nat) ≤ 9223372036854775807), fun h => by cases h⟩
        · exact ⟨HasX.of b12.has, Nat.le_refl _, (by omega : (6 : Nat) ≤ 9223372036854775807), fun h => by cases h⟩⟩ hl6 (fun s hs => by
        simp only [List.mem_cons, List.not_mem_nil, or_false] at hs
        rcases hs with rfl | rfl
        · exact (show (6 : Nat) ≤ 1000 by omega)
        · exact (show (6 : Nat) ≤ 1000 by omega)))
    have HYES := Lib.hid (show rs.map (·.l) = [rowF0, rowF1] from h1.symm)
    have HL4 := Lib.hid (HL3.out.trans l4)
    rw [← hw4] at HSM
    have HW4 := Lib.hid hw4
    clear hw4 l4 b5 b12 b13 hl6 h1 hrl hat
    subst hg
    go_wp2_with (go_at_call 14; refine (whole_any _ _).mono ?_; rintro e w' ⟨rfl, rfl⟩)
    refine HSM.out.mono ?_
    rintro e w5 ht
    obtain ⟨rfl, l5⟩ := ht.yes HYES.out
    rw [HW4.out] at l5
    have HL5 := Lib.hid (HL4.out.trans l5)
    clear ht l5 HSM
    go_wp2_with fail
    go_ret
    exact ⟨rfl, HL5.out⟩
end Go.Proofs.YtphiggjgapaaiaaDoor
