/- The walk of law 14's begun. -/
import Derived.Test.YtphiggjgapaaiaaPartB
namespace Go.Proofs.Ytphiggjgapaaiaa
open Go.RowKit
set_option linter.unusedVariables false

theorem of_4 (t i : Int) (w : World) : Calls Try.prog 9 #[vagg t i ⟨#[]⟩, .int .i64 4] w fun e w' => e = .returned (.int .i64 ((partV (t, i, ⟨#[]⟩) 4 : Nat) : Int)) ∧ Later w w' := of_any t i ⟨#[]⟩ 4 w (Nat.zero_le _) (by omega)
theorem of_1 (t i : Int) (w : World) : Calls Try.prog 9 #[vagg t i ⟨#[]⟩, .int .i64 1] w fun e w' => e = .returned (.int .i64 0) ∧ Later w w' := of_any t i ⟨#[]⟩ 1 w (Nat.zero_le _) (by omega)
theorem refPart_4 (w : World) : Calls Try.prog 10 #[vagg 0 0 ⟨#[]⟩, .int .i64 4] w fun e w' => e = .returned (.int .i64 ((partV (0, 0, ⟨#[]⟩) 4 : Nat) : Int)) ∧ Later w w' := refPart_none 0 ⟨#[]⟩ 4 w (by omega) (by omega)

theorem partV_17 : partV (1, 7, ⟨#[]⟩) 4 = partV (2, 7, ⟨#[]⟩) 4 := by
  unfold partV
  have e : speltV 1 7 ⟨#[]⟩ = speltV 2 7 ⟨#[]⟩ := by
    unfold speltV
    rw [if_neg (show ¬ (1 : Int) = 4 by omega), if_neg (show ¬ (1 : Int) = 0 by omega), if_neg (show ¬ (2 : Int) = 4 by omega), if_neg (show ¬ (2 : Int) = 0 by omega)]
  dsimp only
  rw [e]

set_option maxRecDepth 100000 in
set_option maxHeartbeats 2000000 in
theorem begun14_any (w : World) : Calls Try.prog 4 #[] w fun e w' => e = .returned (.bool true) ∧ Later w w' := by
  obtain ⟨h0, hh0⟩ : ∃ x, w.heap.size = x := ⟨_, rfl⟩
  obtain ⟨w1, hw1⟩ : ∃ x : World, w.alloc (.cells #[.int .i64 2, .int .i64 2, .string ⟨#[]⟩, .int .i64 0, .int .i64 0, .string ⟨#[]⟩] 40) = x := ⟨_, rfl⟩
  have l1 : Later w w1 := hw1 ▸ Later.new w _
  have hb1 : Blk w1 h0 #[.int .i64 2, .int .i64 2, .string ⟨#[]⟩, .int .i64 0, .int .i64 0, .string ⟨#[]⟩] 40 := hw1 ▸ Blk.new w _ _ _ hh0.symm
  have hs1 : w1.heap.size = h0 + 1 := by rw [← hw1, ← hh0]; simp
  obtain ⟨w2, hw2⟩ : ∃ x : World, w1.alloc (.cells #[.slice (some ⟨h0, 0, none⟩) 2 2] 41) = x := ⟨_, rfl⟩
  have l2 : Later w1 w2 := hw2 ▸ Later.new w1 _
  have hb2 : Blk w2 (h0 + 1) #[.slice (some ⟨h0, 0, none⟩) 2 2] 41 := hw2 ▸ Blk.new w1 _ _ _ hs1.symm
  have HL2 := Lib.hid (l1.trans l2)
  have HW := Lib.hid (show (w.alloc (.cells #[.int .i64 2, .int .i64 2, .string ⟨#[]⟩, .int .i64 0, .int .i64 0, .string ⟨#[]⟩] 40)).alloc (.cells #[.slice (some ⟨h0, 0, none⟩) 2 2] 41) = w2 by rw [hw1, hw2])
  have HA := Lib.hid (apart_any (some ⟨h0 + 1, 0, none⟩) 1 1 [⟨some ⟨h0, 0, none⟩, 2, [(2, 2, ⟨#[]⟩), (0, 0, ⟨#[]⟩)]⟩] 0 1 w2 rfl (by omega) ⟨hb2.has, fun s hs => by
    rw [List.mem_singleton] at hs
    subst hs
    exact ⟨HasX.of (hb1.later l2).has, Nat.le_refl _, (by omega : (2 : Nat) ≤ 9223372036854775807), fun h => by cases h⟩⟩ (fun s hs => by
    rw [List.mem_singleton] at hs
    subst hs
    refine ⟨by simp, fun x hx => ?_⟩
    rcases List.mem_cons.1 hx with rfl | hx
    · exact Nat.zero_le _
    · rw [List.mem_singleton] at hx; subst hx; exact Nat.zero_le _) (by omega) ⟨Nat.le_refl _, by omega⟩)
  have HF := Lib.hid (show ∀ ss : List SlG, PartT (partF (colsOf [⟨some ⟨h0, 0, none⟩, 2, [(2, 2, ⟨#[]⟩), (0, 0, ⟨#[]⟩)]⟩]) 0 1) 1 (heightC (colsOf [⟨some ⟨h0, 0, none⟩, 2, [(2, 2, ⟨#[]⟩), (0, 0, ⟨#[]⟩)]⟩])) ss → ss.length = 1 ∧ ∀ h : 0 < ss.length, ss[0].n = 2 from fun ss h => by
    refine ⟨h.1, fun hp => ?_⟩
    rw [(h.2 0 hp).2]
    have hz : ∀ i, partF (colsOf [⟨some ⟨h0, 0, none⟩, 2, [(2, 2, ⟨#[]⟩), (0, 0, ⟨#[]⟩)]⟩]) 0 1 i = 0 := fun i => by have := partF_lt (colsOf [⟨some ⟨h0, 0, none⟩, 2, [(2, 2, ⟨#[]⟩), (0, 0, ⟨#[]⟩)]⟩]) 0 1 i (Nat.le_refl _); omega
    have hh : heightC (colsOf [⟨some ⟨h0, 0, none⟩, 2, [(2, 2, ⟨#[]⟩), (0, 0, ⟨#[]⟩)]⟩]) = 2 := rfl
    rw [hh]
    unfold inPart
    simp [List.range_succ, hz])
  obtain ⟨p0, ho0, hr0⟩ : ∃ p0 : Nat, (∀ w, Calls Try.prog 9 #[vagg 0 0 ⟨#[]⟩, .int .i64 4] w fun e w' => e = .returned (.int .i64 (p0 : Int)) ∧ Later w w') ∧ ∀ w, Calls Try.prog 10 #[vagg 0 0 ⟨#[]⟩, .int .i64 4] w fun e w' => e = .returned (.int .i64 (p0 : Int)) ∧ Later w w' := ⟨_, of_4 0 0, refPart_4⟩
  obtain ⟨p1, ho1, ho2⟩ : ∃ p1 : Nat, (∀ w, Calls Try.prog 9 #[vagg 1 7 ⟨#[]⟩, .int .i64 4] w fun e w' => e = .returned (.int .i64 (p1 : Int)) ∧ Later w w') ∧ ∀ w, Calls Try.prog 9 #[vagg 2 7 ⟨#[]⟩, .int .i64 4] w fun e w' => e = .returned (.int .i64 (p1 : Int)) ∧ Later w w' :=
    ⟨partV (1, 7, ⟨#[]⟩) 4, of_4 1 7, fun w => by rw [partV_17]; exact of_4 2 7 w⟩
  have HO0 := Lib.hid ho0
  have HR0 := Lib.hid hr0
  have HO1 := Lib.hid ho1
  have HO2 := Lib.hid ho2
  clear ho0 hr0 ho1 ho2
  clear l1 hb1 hs1 hb2 l2 hw1 hw2
  go_enter Try.func4, Try.ntmps4
  go_wp2_with fail
  rw [HW.out]
  refine HA.out.mono ?_
  rintro e w3 ⟨ga, ss, rfl, hpt, htab, l3⟩
  obtain ⟨hl, hn⟩ := HF.out ss hpt
  have ck := htab.cell 0 (by omega)
  rw [hn (by omega)] at ck
  have hsl : 0 < ss.length := by omega
  generalize ss[0].a = sa at ck
  generalize ss[0].c = sc at ck
  have HLR := Lib.hid (HL2.out.trans l3)
  clear hpt htab l3 hl hn hsl HF HA HW HL2
  go_wp2_with fail
  refine (of_1 0 0 _).mono ?_
  rintro e w4 ⟨rfl, l4⟩
  replace ck := l4.cell ck
  replace HLR := Lib.hid (HLR.out.trans l4)
  clear l4
  go_wp2_with fail
  refine (HO0.out _).mono ?_
  rintro e w4 ⟨rfl, l4⟩
  replace ck := l4.cell ck
  replace HLR := Lib.hid (HLR.out.trans l4)
  clear l4
  go_wp2_with fail
  refine (HR0.out _).mono ?_
  rintro e w4 ⟨rfl, l4⟩
  replace ck := l4.cell ck
  replace HLR := Lib.hid (HLR.out.trans l4)
  clear l4
  go_wp2_with fail
  refine (HO1.out _).mono ?_
  rintro e w4 ⟨rfl, l4⟩
  replace ck := l4.cell ck
  replace HLR := Lib.hid (HLR.out.trans l4)
  clear l4
  go_wp2_with fail
  refine (HO2.out _).mono ?_
  rintro e w4 ⟨rfl, l4⟩
  replace ck := l4.cell ck
  replace HLR := Lib.hid (HLR.out.trans l4)
  clear l4
  go_wp2_with fail
  go_ret
  exact ⟨rfl, HLR.out⟩
end Go.Proofs.Ytphiggjgapaaiaa
