/- begun of law 23. -/
import Derived.Test.YteiabachilpciaaDoorPredC
import Derived.Test.YteiabachilpciaaDoorPredD
namespace Go.Proofs.YteiabachilpciaaDoor
open Go.RowKit
set_option linter.unusedVariables false

abbrev bA : ByteArray := ⟨#[97]⟩
def c23 : List Col3 := [(1, bA, 2)]
def t23 : List Tst := [⟨bA, 5, (2, 3, ⟨#[]⟩), false, false⟩]
def l23 : List Val3 := [(2, 5, ⟨#[]⟩), (0, 0, ⟨#[]⟩), (2, 3, ⟨#[]⟩)]
def r23 : List Val3 := [(2, 5, ⟨#[]⟩)]
def n23 : List Val3 := [(0, 0, ⟨#[]⟩)]
def z23 : List Zn := [⟨0, (2, 5, ⟨#[]⟩), (2, 5, ⟨#[]⟩)⟩]
def u23 : List Tst := [⟨⟨#[98]⟩, 7, (0, 0, ⟨#[]⟩), false, false⟩]
theorem m23_rows : passTo c23 t23 (rowsC [l23]) (rowsC [l23]).length = [0] := by decide +kernel
theorem m23_check : checkT c23 t23 = 0 := by decide +kernel
theorem m23_row : rowT c23 t23 r23 = 2 := by decide +kernel
theorem m23_nul : rowT c23 t23 n23 = 1 := by decide +kernel
theorem m23_can : predCan c23 1 z23 t23 = true := by decide +kernel
theorem m23_no : checkT c23 u23 = 3 := by decide +kernel

set_option maxRecDepth 100000 in
set_option maxHeartbeats 4000000 in
theorem begun23_any (w : World) (hg : ErrT w) (hs : S3 w) : Calls Tryd.prog 7 #[] w fun e w' => e = .returned (.bool true) ∧ Later w w' := by
  obtain ⟨g, hgz⟩ : ∃ g, w.heap.size = g := ⟨_, rfl⟩
  obtain ⟨w6, hw6⟩ : ∃ x : World, (((((w.alloc (.cells (fc c23).toArray 64)).alloc (.cells #[.slice (some ⟨g, 0, none⟩) 1 1, .int .i64 1] 33)).alloc (.cells (ft t23).toArray 28)).alloc (.cells (fl r23).toArray 26)).alloc (.cells (fl l23).toArray 26)).alloc (.cells #[.slice (some ⟨g + 1 + 1 + 1 + 1, 0, none⟩) 3 3] 52) = x := ⟨_, rfl⟩
  have l6 : Later w w6 := hw6 ▸ (((((Later.new w _).alloc _).alloc _).alloc _).alloc _).alloc _
  have C : Has w6 (some ⟨g, 0, none⟩) (fc c23) := hw6 ▸ (Blk.new w (fc c23).toArray 64 g hgz.symm).has.later (((((Later.new _ _).alloc _).alloc _).alloc _).alloc _)
  have B1 : Blk w6 (g + 1) #[.slice (some ⟨g, 0, none⟩) 1 1, .int .i64 1] 33 := hw6 ▸ (Blk.new _ _ 33 (g + 1) (by simp [hgz])).later ((((Later.new _ _).alloc _).alloc _).alloc _)
  have T : Has w6 (some ⟨g + 1 + 1, 0, none⟩) (ft t23) := hw6 ▸ (Blk.new _ (ft t23).toArray 28 (g + 1 + 1) (by simp [hgz])).has.later (((Later.new _ _).alloc _).alloc _)
  have V : Blk w6 (g + 1 + 1 + 1) #[.int .i64 2, .int .i64 5, .string ⟨#[]⟩] 26 := hw6 ▸ (Blk.new _ (fl r23).toArray 26 (g + 1 + 1 + 1) (by simp [hgz])).later ((Later.new _ _).alloc _)
  have Z : Has w6 (some ⟨g + 1 + 1 + 1 + 1, 0, none⟩) (fl l23) := hw6 ▸ (Blk.new _ (fl l23).toArray 26 (g + 1 + 1 + 1 + 1) (by simp [hgz])).has.later (Later.new _ _)
  have O : Has w6 (some ⟨g + 1 + 1 + 1 + 1 + 1, 0, none⟩) [.slice (some ⟨g + 1 + 1 + 1 + 1, 0, none⟩) 3 3] := hw6 ▸ (Blk.new _ #[.slice (some ⟨g + 1 + 1 + 1 + 1, 0, none⟩) 3 3] 52 (g + 1 + 1 + 1 + 1 + 1) (by simp [hgz])).has
  have RA : RowsAt w6 (some ⟨g + 1 + 1 + 1 + 1 + 1, 0, none⟩) [⟨some ⟨g + 1 + 1 + 1 + 1, 0, none⟩, 3, l23⟩] := ⟨O, fun s hs => by
    rw [List.mem_singleton] at hs; subst hs
    exact ⟨HasX.of Z, (show 3 ≤ 3 by decide), (show 3 ≤ 9223372036854775807 by decide), by intro h; cases h⟩⟩
  have HP := Lib.hid (predRows_any (some ⟨g, 0, none⟩) 1 1 1 c23 (some ⟨g + 1 + 1, 0, none⟩) 1 1 t23 (some ⟨g + 1 + 1 + 1 + 1 + 1, 0, none⟩) 1 1 _ w6 rfl (by decide) C rfl (by decide) T rfl (by decide) RA (by intro s hs; rw [List.mem_singleton] at hs; subst hs; show 3 ≤ 1000; decide))
  rw [show colsOf [⟨some ⟨g + 1 + 1 + 1 + 1, 0, none⟩, 3, l23⟩] = [l23] from rfl, m23_rows] at HP
  have HCK := Lib.hid (fun w' (l : Later w6 w') => predCheck2_any (some ⟨g, 0, none⟩) 1 1 1 c23 (some ⟨g + 1 + 1, 0, none⟩) 1 1 t23 w' (hg.later (l6.trans l)) (hs.later (l6.trans l)) rfl (by decide) (C.later l) rfl (by decide) (T.later l))
  rw [m23_check] at HCK
  have HCN := Lib.hid (fun w' (l : Later w6 w') => predCan_any (some ⟨g, 0, none⟩) 1 1 1 c23 (some ⟨g + 1 + 1, 0, none⟩) 1 1 t23 1 (some ⟨w'.heap.size, 0, none⟩) 1 1 z23 (w'.alloc (.cells (fz z23).toArray 50)) rfl (by decide) (C.later (l.alloc _)) rfl (by decide) (T.later (l.alloc _)) rfl (by decide) (Blk.new w' (fz z23).toArray 50 _ rfl).has)
  rw [m23_can] at HCN
  have HR1 := Lib.hid (fun w' (l : Later w6 w') => predRow_any (some ⟨g, 0, none⟩) 1 1 1 c23 (some ⟨g + 1 + 1, 0, none⟩) 1 1 t23 (some ⟨w'.heap.size, 0, none⟩) 1 1 r23 (w'.alloc (.cells (fl r23).toArray 26)) rfl (by decide) (C.later (l.alloc _)) rfl (by decide) (T.later (l.alloc _)) rfl (by decide) (Blk.new w' (fl r23).toArray 26 _ rfl).has)
  rw [m23_row] at HR1
  have HR2 := Lib.hid (fun w' (l : Later w6 w') => predRow_any (some ⟨g, 0, none⟩) 1 1 1 c23 (some ⟨g + 1 + 1, 0, none⟩) 1 1 t23 (some ⟨w'.heap.size, 0, none⟩) 1 1 n23 (w'.alloc (.cells (fl n23).toArray 26)) rfl (by decide) (C.later (l.alloc _)) rfl (by decide) (T.later (l.alloc _)) rfl (by decide) (Blk.new w' (fl n23).toArray 26 _ rfl).has)
  rw [m23_nul] at HR2
  have HCU := Lib.hid (fun w' (l : Later w6 w') => predCheck2_any (some ⟨g, 0, none⟩) 1 1 1 c23 (some ⟨w'.heap.size, 0, none⟩) 1 1 u23 (w'.alloc (.cells (ft u23).toArray 28)) (hg.later (l6.trans (l.alloc _))) (hs.later (l6.trans (l.alloc _))) rfl (by decide) (C.later (l.alloc _)) rfl (by decide) (Blk.new w' (ft u23).toArray 28 _ rfl).has)
  rw [m23_no] at HCU
  have HB1 := Lib.hid B1
  have HV := Lib.hid V
  have HL6 := Lib.hid l6
  have HW := Lib.hid hw6
  clear l6 C B1 T V Z O RA hw6 hg hs
  go_enter Tryd.func7, Tryd.ntmps7
  go_wp2_with fail
  change Calls _ _ _ ((((((w.alloc (.cells (fc c23).toArray 64)).alloc (.cells #[.slice (some ⟨g, 0, none⟩) 1 1, .int .i64 1] 33)).alloc (.cells (ft t23).toArray 28)).alloc (.cells (fl r23).toArray 26)).alloc (.cells (fl l23).toArray 26)).alloc (.cells #[.slice (some ⟨g + 1 + 1 + 1 + 1, 0, none⟩) 3 3] 52)) _
  rw [HW.out]
  clear HW hgz
  refine HP.out.mono ?_
  rintro e w7 ⟨A7, c7, rfl, h7, _, _, l7⟩
  have HL7 := Lib.hid l7
  obtain ⟨b7, o7, rfl, k7⟩ : ∃ b o, A7 = some ⟨b, o, none⟩ ∧ CellIs w7 ⟨b, o, none⟩ (.int .i64 0) := by
    rcases h7 with h7 | ⟨b, o, hA, _, hc⟩
    · cases h7
    · exact ⟨b, o, hA, hc 0 _ rfl⟩
  have s0 := (HB1.out.later l7).cell 0 _ rfl
  have s1 := (HB1.out.later l7).cell 1 _ rfl
  clear HP l7 h7
  go_wp2_with fail
  refine (HCK.out w7 HL7.out).mono ?_
  rintro e w8 ⟨rfl, l8⟩
  have HL8 := Lib.hid (HL7.out.trans l8)
  have k8 := k7.later l8
  have s0 := (HB1.out.later HL8.out).cell 0 _ rfl
  have s1 := (HB1.out.later HL8.out).cell 1 _ rfl
  have v0 := (HV.out.later HL8.out).cell 0 _ rfl
  have v1 := (HV.out.later HL8.out).cell 1 _ rfl
  have v2 := (HV.out.later HL8.out).cell 2 _ rfl
  clear l8 k7 HCK HL7
  go_wp2_with fail
  refine (HR1.out w8 HL8.out).mono ?_
  rintro e w9 ⟨rfl, l9⟩
  have HL9 := Lib.hid (HL8.out.trans ((Later.new w8 _).trans l9))
  have k9 := k8.later ((Later.new w8 _).trans l9)
  have s0 := (HB1.out.later HL9.out).cell 0 _ rfl
  have s1 := (HB1.out.later HL9.out).cell 1 _ rfl
  clear l9 k8 HR1 HL8 v0 v1 v2
  go_wp2_with fail
  refine (HR2.out w9 HL9.out).mono ?_
  rintro e w10 ⟨rfl, l10⟩
  have HL10 := Lib.hid (HL9.out.trans ((Later.new w9 _).trans l10))
  have k10 := (k9.later ((Later.new w9 _).trans l10)).out
  have s0 := (HB1.out.later HL10.out).cell 0 _ rfl
  have s1 := (HB1.out.later HL10.out).cell 1 _ rfl
  have v0 := (HV.out.later HL10.out).cell 0 _ rfl
  have v1 := (HV.out.later HL10.out).cell 1 _ rfl
  have v2 := (HV.out.later HL10.out).cell 2 _ rfl
  clear l10 k9 HR2 HL9
  go_wp2_with fail
  refine (HCN.out w10 HL10.out).mono ?_
  rintro e w11 ⟨rfl, l11⟩
  have HL11 := Lib.hid (HL10.out.trans ((Later.new w10 _).trans l11))
  have s0 := (HB1.out.later HL11.out).cell 0 _ rfl
  have s1 := (HB1.out.later HL11.out).cell 1 _ rfl
  clear l11 k10 HCN HL10 v0 v1 v2
  go_wp2_with fail
  refine (HCU.out w11 HL11.out).mono ?_
  rintro e w12 ⟨rfl, l12⟩
  have HL12 := Lib.hid (HL6.out.trans (HL11.out.trans ((Later.new w11 _).trans l12)))
  clear l12 HCU HL11
  go_wp2_with fail
  go_ret
  exact ⟨rfl, HL12.out⟩
end Go.Proofs.YteiabachilpciaaDoor
