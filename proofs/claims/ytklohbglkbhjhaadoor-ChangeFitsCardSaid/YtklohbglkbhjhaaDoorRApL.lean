
import Derived.Test.YtklohbglkbhjhaaDoorRApA
import Derived.Test.YtklohbglkbhjhaaDoorRowsM
import Derived.Test.YtklohbglkbhjhaaDoorBase
import Derived.Test.YtklohbglkbhjhaaDoorChgE
import Derived.Test.YtklohbglkbhjhaaDoorPlayV
import Derived.Test.YtklohbglkbhjhaaDoorPlayN
import Derived.Test.YtklohbglkbhjhaaDoorSchC
import Derived.Test.YtklohbglkbhjhaaDoorRefSch
import Derived.Test.YtklohbglkbhjhaaDoorPlayS
import Derived.Test.YtklohbglkbhjhaaDoorSchA
import Derived.WalkKit
import Derived.Laws.OwnMore
import Derived.Laws.BytesArg
import Derived.Laws.Rows
import Derived.Deep.AppendLies
import Derived.Deep.Draws
import Derived.Test.YtklohbglkbhjhaaDoorChecked
import Derived.Deep.OwnRows
import Derived.Lib.Hide
import Derived.Deep.Quiet
import Derived.Laws.AppendOwnNone
import Derived.Lib.Strings
import Derived.Outline
import Derived.WalkLawsBesides
import Derived.WalkSpells
import Derived.PlainAid
import Derived.Deep.QuietTactic
import Derived.BigQuiet
import Derived.RegionTactic
import Derived.BigRegion
import Derived.Handy
import Derived.Laws.BitsAllLaws
import Derived.Deep.RegionWith
import Derived.Lib.AppendStr
import Derived.Deep.RegionLaw
import Derived.Maps.AppendAt
import Derived.OpenShut
import Derived.WideShapes
import Derived.ChangeArms
import Derived.Deep.Slices
import Derived.Sort.Grow
import Derived.Lib.SliceRun
import Derived.Shelf.Spec.SlicesInsert
import Derived.Lib.Overlaps
import Derived.Lib.AppendZerosOnto
import Derived.OrdersHeld
import Derived.LaidEql
import Derived.Stop.Asserts
import Derived.RowKitTokens
import Derived.Stop.IfaceNil
import Derived.Laws.BitsLemmas
import Derived.Laws.Bits64
import Derived.WalkSmall
import Derived.Lib.Bytealg
import Derived.Deep.SlicePairs
import Derived.Deep.CutBlock
import Derived.Shelf.Abstract
import Derived.Lib.QuietBelow
import Derived.Deep.CutRange
import Derived.Deep.MidRow
/- The document's lay. (tools/gen_raplay.py) -/


namespace Go.Proofs.YtklohbglkbhjhaaDoor
open Go.RowKit
set_option linter.unusedVariables false

set_option maxRecDepth 100000 in
set_option maxHeartbeats 8000000 in
theorem refLay_any (W0 : World) (gt gm : Nat) (w : World) (s : St3) (c : Chg) (gv vc ge ec : Nat) (A0 : Option Addr) (vc0 : Nat) (hl : Later W0 w) (T : TB W0.heap.size gt gm w s gv vc ge ec) (hA : Has w A0 (fc s.1)) (hn6 : s.1.length ≤ 6) (hlen : s.2.2.enc.length = s.1.length) (hk : ¬ (1 ≤ c.kind ∧ c.kind ≤ 5)) :
    Calls Tryd.prog 45 #[.agg #[.slice A0 s.1.length vc0, .int .i64 s.2.1], .pointer (some ⟨gm, 0, none⟩), cagg9 c] w (RTurnP W0 gt gm (changeM s c)) := by
  obtain ⟨kind, col, name, typ, ⟨v0, v1, v2⟩, sep, num⟩ := c
  dsimp only at hk
  show Calls Tryd.prog 45 #[.agg #[.slice A0 s.1.length vc0, .int .i64 s.2.1], .pointer (some ⟨gm, 0, none⟩), .agg #[.int .i64 kind, .int .i64 col, .string name, .int .i64 typ, .int .i64 v0, .int .i64 v1, .string v2, .int .u8 sep, .int .i64 num]] w _
  obtain ⟨R, hR⟩ : ∃ x, changeM s ⟨kind, col, name, typ, (v0, v1, v2), sep, num⟩ = x := ⟨_, rfl⟩
  rw [hR]
  obtain ⟨q, hq⟩ : ∃ x, w.heap.size = x := ⟨_, rfl⟩
  obtain ⟨w1, hw1⟩ : ∃ x : World, (w.alloc (.cells #[.slice A0 s.1.length vc0, .int .i64 s.2.1] 24)).alloc (.cells #[.int .i64 kind, .int .i64 col, .string name, .int .i64 typ, .int .i64 v0, .int .i64 v1, .string v2, .int .u8 sep, .int .i64 num] 31) = x := ⟨_, rfl⟩
  have l1 : Later w w1 := hw1 ▸ (Later.new _ _).alloc _
  have HBS := Lib.hid (show Blk w1 q #[.slice A0 s.1.length vc0, .int .i64 s.2.1] 24 from hw1 ▸ (Blk.new w _ _ _ hq.symm).later (Later.new _ _))
  have HBC := Lib.hid (show Blk w1 (q + 1) #[.int .i64 kind, .int .i64 col, .string name, .int .i64 typ, .int .i64 v0, .int .i64 v1, .string v2, .int .u8 sep, .int .i64 num] 31 from hw1 ▸ Blk.new _ _ _ _ (by simp; omega))
  have HL1 := Lib.hid (hl.trans l1)
  have HT1 := Lib.hid (T.later l1)
  have HBI := Lib.hid (refByID_any A0 s.1.length vc0 s.2.1 s.1 col w1 rfl (by omega) (hA.later l1))
  have HLEN := Lib.hid hlen
  have HN6 := Lib.hid hn6
  have HHR := Lib.hid hR
  have hs0 := HBS.out.cell 0 _ rfl
  have hs1 := HBS.out.cell 1 _ rfl
  have hc0 := HBC.out.cell 0 _ rfl
  have hc1 := HBC.out.cell 1 _ rfl
  obtain ⟨fo, hfo⟩ : ∃ x, findI s.1 col = x := ⟨_, rfl⟩
  have HFO := Lib.hid hfo
  have HW1 := Lib.hid hw1
  have HQ := Lib.hid hq
  clear hw1 l1 T hA hl hlen hR hq hn6 hfo
  go_enter Tryd.func45, Tryd.ntmps45
  go_wp2_with fail
  rw [HW1.out, HQ.out]
  refine HBI.out.mono ?_
  rintro e w2 ⟨rfl, l2⟩
  rw [HFO.out]
  have HL2 := Lib.hid (HL1.out.trans l2)
  have HT2 := Lib.hid (HT1.out.later l2)
  have HB2 := Lib.hid (HBC.out.later l2)
  clear HBI l2 hs0 hs1 hc0 hc1 HBS HBC HL1 HT1
  have c0 : w2.cell? ⟨q + 1, 0, none⟩ = some (.int .i64 kind) := HB2.out.cell 0 _ rfl
  have c1 : w2.cell? ⟨q + 1, 1, none⟩ = some (.int .i64 col) := HB2.out.cell 1 _ rfl
  have c8 : w2.cell? ⟨q + 1, 8, none⟩ = some (.int .i64 num) := HB2.out.cell 8 _ rfl
  have m0 : w2.cell? ⟨gm, 0, none⟩ = some (.int .i64 s.2.2.sb) := HT2.out.bl.cell 0 _ rfl
  have m1 : w2.cell? ⟨gm, 1, none⟩ = some (.int .i64 s.2.2.pb) := HT2.out.bl.cell 1 _ rfl
  have m2 : w2.cell? ⟨gm, 2, none⟩ = some (.int .i64 s.2.2.parts) := HT2.out.bl.cell 2 _ rfl
  have m3 : w2.cell? ⟨gm, 3, none⟩ = some (.slice (some ⟨ge, 0, none⟩) s.2.2.enc.length ec) := HT2.out.bl.cell 3 _ rfl
  have f0 := HT2.out.bl.frozen 0
  have f1 := HT2.out.bl.frozen 1
  have f2 := HT2.out.bl.frozen 2
  by_cases k6 : kind = 6
  · subst k6
    have e6 : changeM s ⟨6, col, name, typ, (v0, v1, v2), sep, num⟩ = resortM s ⟨6, col, name, typ, (v0, v1, v2), sep, num⟩ := by unfold changeM; rw [if_neg (by show ¬ (6 : Int) = 1; omega), if_pos rfl]
    rcases hfs : fo with _ | k
    · simp only [Option.getD_none, Option.isSome_none]
      by_cases z : col = 0
      · have hz : (col != 0) = false := by simp [z]
        have HX := Lib.hid (show R = .ok (s.1, s.2.1, { s.2.2 with sb := col }) from HHR.out.symm.trans (e6.trans (if_neg fun h => h.1 z)))
        clear hfs z e6
        go_wp2_with fail
        go_ret
        exact RTurnP.yes HX.out (HT2.out.lay 0 _ { s.2.2 with sb := col } rfl rfl) (HL2.out.set_ HT2.out.hb.2 _)
      · have hz : (col != 0) = true := by simp [z]
        have HX := Lib.hid (show R = .error 3 from HHR.out.symm.trans (e6.trans (if_pos ⟨z, by show (findI s.1 col).isSome = false; rw [HFO.out, hfs]; rfl⟩)))
        go_wp2_with fail
        go_ret
        exact RTurnP.no 3 HX.out (by decide) HL2.out
    · simp only [Option.getD_some, Option.isSome_some]
      have HX := Lib.hid (show R = .ok (s.1, s.2.1, { s.2.2 with sb := col }) from HHR.out.symm.trans (e6.trans (if_neg fun h => by have h2 : (findI s.1 col).isSome = false := h.2; rw [HFO.out, hfs] at h2; cases h2)))
      clear hfs e6
      go_wp2_with fail
      go_ret
      exact RTurnP.yes HX.out (HT2.out.lay 0 _ { s.2.2 with sb := col } rfl rfl) (HL2.out.set_ HT2.out.hb.2 _)
  have z6 : (kind == 6) = false := by simp [k6]
  by_cases k8 : kind = 8
  · subst k8
    have HX := Lib.hid (show R = .ok s from HHR.out.symm.trans (by unfold changeM; rw [if_neg (by show ¬ (8 : Int) = 1; omega), if_neg (by show ¬ (8 : Int) = 6; omega), if_neg (by show ¬ (8 : Int) = 7; omega), if_pos rfl]))
    go_wp2_with fail
    go_ret
    exact RTurnP.yes HX.out HT2.out HL2.out
  have z8 : (kind == 8) = false := by simp [k8]
  by_cases k9 : kind = 9
  · subst k9
    rcases hfs : fo with _ | k
    · have HX := Lib.hid (show R = .error 3 from HHR.out.symm.trans (by unfold changeM; rw [if_neg (by show ¬ (9 : Int) = 1; omega), if_neg (by show ¬ (9 : Int) = 6; omega), if_neg (by show ¬ (9 : Int) = 7; omega), if_neg (by show ¬ (9 : Int) = 8; omega), if_pos (.inr (.inr (.inr (.inr rfl))))]; simp only [HFO.out, hfs]))
      simp only [Option.getD_none, Option.isSome_none]
      clear hfs
      go_wp2_with fail
      go_ret
      exact RTurnP.no 3 HX.out (by decide) HL2.out
    · have e9 : changeM s ⟨9, col, name, typ, (v0, v1, v2), sep, num⟩ = recodeM s ⟨9, col, name, typ, (v0, v1, v2), sep, num⟩ k := by unfold changeM; rw [if_neg (by show ¬ (9 : Int) = 1; omega), if_neg (by show ¬ (9 : Int) = 6; omega), if_neg (by show ¬ (9 : Int) = 7; omega), if_neg (by show ¬ (9 : Int) = 8; omega), if_pos (.inr (.inr (.inr (.inr rfl))))]; simp only [HFO.out, hfs]; rfl
      obtain ⟨hkl, -⟩ := findI_lt (HFO.out.trans hfs)
      have HKL := Lib.hid hkl
      simp only [Option.getD_some, Option.isSome_some]
      clear hfs hkl
      by_cases y : num < 1
      · have HX := Lib.hid (show R = .error 1 from HHR.out.symm.trans (e9.trans (if_pos (fun h => by have := h.1; exact absurd (show (1 : Int) ≤ num from this) (by omega)))))
        clear e9
        go_wp2_with fail
        go_ret
        exact RTurnP.no 1 HX.out (by decide) HL2.out
      by_cases y : 5 < num
      · have HX := Lib.hid (show R = .error 1 from HHR.out.symm.trans (e9.trans (if_pos (fun h => by have := h.2; exact absurd (show num ≤ (5 : Int) from this) (by omega)))))
        clear e9
        go_wp2_with fail
        go_ret
        exact RTurnP.no 1 HX.out (by decide) HL2.out
      have HX := Lib.hid (show R = .ok (s.1, s.2.1, { s.2.2 with enc := s.2.2.enc.set k num }) from HHR.out.symm.trans (e9.trans (if_neg fun h => h ⟨by show 1 ≤ num; omega, by show num ≤ 5; omega⟩)))
      have hkle : k < s.2.2.enc.length := by rw [HLEN.out]; exact HKL.out
      obtain ⟨⟨u0, hu0⟩, hf9⟩ := HT2.out.encCell k hkle
      have HKE := Lib.hid (Int.ofNat_lt.2 hkle : (k : Int) < (s.2.2.enc.length : Int))
      clear e9 hkle
      go_upto_region 20 with fail
      clear c0 c1 m0 m1 m2 c8 m3
      refine wp_region_Z (S := (fun W : World => W.cell? ⟨q + 1, 8, none⟩ = some (.int .i64 num) ∧ W.cell? ⟨gm, 3, none⟩ = some (.slice (some ⟨ge, 0, none⟩) s.2.2.enc.length ec))) 8 (by kernel_rfl) ?_
      obtain ⟨y0, hy0⟩ : ∃ x, (w2).drew = x := ⟨_, rfl⟩
      have ly0 : Later w2 y0 := hy0 ▸ (Later.refl w2).drew
      have hS : (fun W : World => W.cell? ⟨q + 1, 8, none⟩ = some (.int .i64 num) ∧ W.cell? ⟨gm, 3, none⟩ = some (.slice (some ⟨ge, 0, none⟩) s.2.2.enc.length ec)) y0 := ⟨(HB2.out.later ly0).cell 8 _ rfl, (HT2.out.later ly0).bl.cell 3 _ rfl⟩
      have HTY := Lib.hid (HT2.out.later ly0)
      have HLY := Lib.hid (HL2.out.trans ly0)
      rw [hy0]
      clear hy0
      refine wpAnyZ_take (i := 0) (oi := { dst := some 78, op := _, type := _, pos := _, after := _, guard := _ }) (v := ?_) rfl (by kernel_rfl) (by kernel_rfl) (by kernel_rfl) (by kernel_rfl) (fun _ _ _ h => h) (Or.inl ⟨by rfl, ?_⟩) hS ?_
      rotate_left
      focus ((intro w hSw; (try dsimp only at hSw); obtain ⟨d8, d3⟩ := hSw; go_simp); (try with_reducible rfl))
      (try simp only [Act.put, List.setIfInBounds_toArray, List.set_cons_zero, List.set_cons_succ])
      refine wpAnyZ_take (i := 1) (oi := { dst := some 79, op := _, type := _, pos := _, after := _, guard := _ }) (v := ?_) rfl (by kernel_rfl) (by kernel_rfl) (by kernel_rfl) (by kernel_rfl) (fun _ _ _ h => h) (Or.inl ⟨by rfl, ?_⟩) hS ?_
      rotate_left
      focus ((intro w hSw; (try dsimp only at hSw); obtain ⟨d8, d3⟩ := hSw; go_simp); (try with_reducible rfl))
      (try simp only [Act.put, List.setIfInBounds_toArray, List.set_cons_zero, List.set_cons_succ])
      refine wpAnyZ_take (i := 2) (oi := { dst := some 80, op := _, type := _, pos := _, after := _, guard := _ }) (v := ?_) rfl (by kernel_rfl) (by kernel_rfl) (by kernel_rfl) (by kernel_rfl) (fun _ _ _ h => h) (Or.inl ⟨by rfl, ?_⟩) hS ?_
      rotate_left
      focus ((intro w hSw; (try dsimp only at hSw); obtain ⟨d8, d3⟩ := hSw; go_simp); (try with_reducible rfl))
      (try simp only [Act.put, List.setIfInBounds_toArray, List.set_cons_zero, List.set_cons_succ])
      refine wpAnyZ_take (i := 3) (oi := { dst := some 81, op := _, type := _, pos := _, after := _, guard := _ }) (v := ?_) rfl (by kernel_rfl) (by kernel_rfl) (by kernel_rfl) (by kernel_rfl) (fun _ _ _ h => h) (Or.inl ⟨by rfl, ?_⟩) hS ?_
      rotate_left
      focus ((intro w hSw; (try dsimp only at hSw); obtain ⟨d8, d3⟩ := hSw; go_simp); (try with_reducible rfl))
      (try simp only [Act.put, List.setIfInBounds_toArray, List.set_cons_zero, List.set_cons_succ])
      refine wpAnyZ_take (i := 4) (oi := { dst := some 82, op := _, type := _, pos := _, after := _, guard := _ }) (v := ?_) rfl (by kernel_rfl) (by kernel_rfl) (by kernel_rfl) (by kernel_rfl) (fun _ _ _ h => h) (Or.inl ⟨by rfl, ?_⟩) hS ?_
      rotate_left
      focus ((intro w hSw; (try dsimp only at hSw); obtain ⟨d8, d3⟩ := hSw; go_simp); (try with_reducible rfl))
      (try simp only [Act.put, List.setIfInBounds_toArray, List.set_cons_zero, List.set_cons_succ])
      refine wpAnyZ_take (i := 5) (oi := { dst := some 83, op := _, type := _, pos := _, after := _, guard := _ }) (v := ?_) rfl (by kernel_rfl) (by kernel_rfl) (by kernel_rfl) (by kernel_rfl) (fun _ _ _ h => h) (Or.inl ⟨by rfl, ?_⟩) hS ?_
      rotate_left
      focus ((intro w hSw; (try dsimp only at hSw); obtain ⟨d8, d3⟩ := hSw; go_simp); (try with_reducible rfl))
      (try simp only [Act.put, List.setIfInBounds_toArray, List.set_cons_zero, List.set_cons_succ])
      refine wpAnyZ_take (i := 6) (oi := { dst := some 84, op := _, type := _, pos := _, after := _, guard := _ }) (v := ?_) rfl (by kernel_rfl) (by kernel_rfl) (by kernel_rfl) (by kernel_rfl) (fun _ _ _ h => h) (Or.inl ⟨by rfl, ?_⟩) hS ?_
      rotate_left
      focus ((intro w hSw; (try dsimp only at hSw); obtain ⟨d8, d3⟩ := hSw; go_simp); (try with_reducible rfl))
      (try simp only [Act.put, List.setIfInBounds_toArray, List.set_cons_zero, List.set_cons_succ])
      refine wpAnyZ_take (i := 7) (oi := { dst := some 85, op := _, type := _, pos := _, after := _, guard := _ }) (v := ?_) rfl (by kernel_rfl) (by kernel_rfl) (by kernel_rfl) (by kernel_rfl) (fun _ _ _ h => h) (Or.inl ⟨by rfl, ?_⟩) hS ?_
      rotate_left
      focus ((intro w hSw; (try dsimp only at hSw); have hke := HKE.out; go_simp); (try with_reducible rfl))
      (try simp only [Act.put, List.setIfInBounds_toArray, List.set_cons_zero, List.set_cons_succ])
      refine wpAnyZ_all (rs := [8]) (by kernel_rfl) (by simp) (fun i hi => ?_)
      simp only [List.mem_cons, List.not_mem_nil, or_false] at hi
      subst hi
      refine stepZl (o := { dst := none, op := _, type := _, pos := _, after := _, guard := _ }) rfl (fun K hK => ?_)
      obtain ⟨⟨u1, hu1⟩, hf1⟩ := HTY.out.encCell k (by rw [HLEN.out]; exact HKL.out)
      go_simp
      refine hK _ _ ?_
      clear hK hu1 hf1
      (try simp only [Act.put])
      refine wpAnyZ_done (by kernel_rfl) ?_ _
      go_wp2_with fail
      go_ret
      exact RTurnP.yes HX.out (HTY.out.encSet k num) (HLY.out.set_ HTY.out.elo _)
  have z9 : (kind == 9) = false := by simp [k9]
  by_cases k7 : kind = 7
  rotate_left
  · have z7 : (kind == 7) = false := by simp [k7]
    have HX := Lib.hid (show R = .error 1 from HHR.out.symm.trans (by unfold changeM; rw [if_neg (by show ¬ kind = 1; omega), if_neg (by show ¬ kind = 6; omega), if_neg (by show ¬ kind = 7; omega), if_neg (by show ¬ kind = 8; omega), if_neg (by show ¬ (kind = 2 ∨ kind = 3 ∨ kind = 4 ∨ kind = 5 ∨ kind = 9); omega)]))
    go_wp2_with fail
    go_ret
    exact RTurnP.no 1 HX.out (by decide) HL2.out
  subst k7
  clear z6 z8 z9 k6 k8 k9 hk
  have e7 : changeM s ⟨7, col, name, typ, (v0, v1, v2), sep, num⟩ = repartM s ⟨7, col, name, typ, (v0, v1, v2), sep, num⟩ := by unfold changeM; rw [if_neg (by show ¬ (7 : Int) = 1; omega), if_neg (by show ¬ (7 : Int) = 6; omega), if_pos rfl]
  by_cases y : num < 1
  · have HX := Lib.hid (show R = .error 1 from HHR.out.symm.trans (e7.trans (if_pos (.inl y))))
    go_wp2_with fail
    go_ret
    exact RTurnP.no 1 HX.out (by decide) HL2.out
  by_cases y : 4 < num
  · have HX := Lib.hid (show R = .error 1 from HHR.out.symm.trans (e7.trans (if_pos (.inr y))))
    go_wp2_with fail
    go_ret
    exact RTurnP.no 1 HX.out (by decide) HL2.out
  have e72 : repartM s ⟨7, col, name, typ, (v0, v1, v2), sep, num⟩ = if (findI s.1 col).isSome = false ∧ (col ≠ 0 ∨ num ≠ 1) then .error 3 else .ok (s.1, s.2.1, { s.2.2 with pb := col, parts := num }) := if_neg (by show ¬ (num < 1 ∨ 4 < num); omega)
  rw [e72] at e7
  clear e72
  rcases hfs : fo with _ | k
  · simp only [Option.getD_none, Option.isSome_none]
    have hno : (findI s.1 col).isSome = false := by rw [HFO.out, hfs]; rfl
    by_cases z : col = 0
    rotate_left
    · have hz : (col != 0) = true := by simp [z]
      have HX := Lib.hid (show R = .error 3 from HHR.out.symm.trans (e7.trans (if_pos ⟨hno, .inl z⟩)))
      go_wp2_with fail
      go_ret
      exact RTurnP.no 3 HX.out (by decide) HL2.out
    have hz : (col != 0) = false := by simp [z]
    by_cases y1 : num = 1
    rotate_left
    · have hz1 : (num != 1) = true := by simp [y1]
      have HX := Lib.hid (show R = .error 3 from HHR.out.symm.trans (e7.trans (if_pos ⟨hno, .inr y1⟩)))
      go_wp2_with fail
      go_ret
      exact RTurnP.no 3 HX.out (by decide) HL2.out
    have hz1 : (num != 1) = false := by simp [y1]
    have HX := Lib.hid (show R = .ok (s.1, s.2.1, { s.2.2 with pb := col, parts := num }) from HHR.out.symm.trans (e7.trans (if_neg fun h => h.2.elim (fun e => e z) (fun e => e y1))))
    clear e7 z y1 hfs
    go_upto_region 13 with fail
    clear c0 c1 c8 m0 m1 m2 m3 f0 f1 f2 hz hz1
    refine wp_region_K (S := (fun W : World => W.cell? ⟨q + 1, 1, none⟩ = some (.int .i64 col) ∧ W.cell? ⟨q + 1, 8, none⟩ = some (.int .i64 num))) (R := fun a b => a = b) (fun _ => rfl) (by kernel_rfl) ?_
    obtain ⟨y0, hy0⟩ : ∃ x, (w2).drew = x := ⟨_, rfl⟩
    have ly0 : Later w2 y0 := hy0 ▸ (Later.refl w2).drew
    have hS : (fun W : World => W.cell? ⟨q + 1, 1, none⟩ = some (.int .i64 col) ∧ W.cell? ⟨q + 1, 8, none⟩ = some (.int .i64 num)) y0 := ⟨(HB2.out.later ly0).cell 1 _ rfl, (HB2.out.later ly0).cell 8 _ rfl⟩
    have HTY := Lib.hid (HT2.out.later ly0)
    have HBY := Lib.hid (HB2.out.later ly0)
    have HLY := Lib.hid (HL2.out.trans ly0)
    rw [hy0]
    clear hy0
    refine wpAnyK_take (fun _ => rfl) (fun _ _ _ h k => h.trans k) (fun _ _ h k => k ▸ h) (i := 0) (oi := { dst := some 54, op := _, type := _, pos := _, after := _, guard := _ }) (v := ?_) rfl (by kernel_rfl) (by kernel_rfl) (by kernel_rfl) (fun _ _ _ h => h) (Or.inl (Or.inl ⟨by rfl, ?_⟩)) hS ?_
    rotate_left
    focus ((intro w hSw; (try dsimp only at hSw); obtain ⟨d1, d8⟩ := hSw; go_simp); (try with_reducible rfl))
    intro wq hwq
    subst hwq
    (try simp only [Act.put, List.setIfInBounds_toArray, List.set_cons_zero, List.set_cons_succ])
    refine wpAnyK_take (fun _ => rfl) (fun _ _ _ h k => h.trans k) (fun _ _ h k => k ▸ h) (i := 1) (oi := { dst := some 55, op := _, type := _, pos := _, after := _, guard := _ }) (v := ?_) rfl (by kernel_rfl) (by kernel_rfl) (by kernel_rfl) (fun _ _ _ h => h) (Or.inl (Or.inl ⟨by rfl, ?_⟩)) hS ?_
    rotate_left
    focus ((intro w hSw; (try dsimp only at hSw); obtain ⟨d1, d8⟩ := hSw; go_simp); (try with_reducible rfl))
    intro wq hwq
    subst hwq
    (try simp only [Act.put, List.setIfInBounds_toArray, List.set_cons_zero, List.set_cons_succ])
    refine wpAnyK_take (fun _ => rfl) (fun _ _ _ h k => h.trans k) (fun _ _ h k => k ▸ h) (i := 2) (oi := { dst := some 56, op := _, type := _, pos := _, after := _, guard := _ }) (v := ?_) rfl (by kernel_rfl) (by kernel_rfl) (by kernel_rfl) (fun _ _ _ h => h) (Or.inl (Or.inl ⟨by rfl, ?_⟩)) hS ?_
    rotate_left
    focus ((intro w hSw; (try dsimp only at hSw); obtain ⟨d1, d8⟩ := hSw; go_simp); (try with_reducible rfl))
    intro wq hwq
    subst hwq
    (try simp only [Act.put, List.setIfInBounds_toArray, List.set_cons_zero, List.set_cons_succ])
    refine wpAnyK_take (fun _ => rfl) (fun _ _ _ h k => h.trans k) (fun _ _ h k => k ▸ h) (i := 3) (oi := { dst := some 57, op := _, type := _, pos := _, after := _, guard := _ }) (v := ?_) rfl (by kernel_rfl) (by kernel_rfl) (by kernel_rfl) (fun _ _ _ h => h) (Or.inl (Or.inl ⟨by rfl, ?_⟩)) hS ?_
    rotate_left
    focus ((intro w hSw; (try dsimp only at hSw); obtain ⟨d1, d8⟩ := hSw; go_simp); (try with_reducible rfl))
    intro wq hwq
    subst hwq
    (try simp only [Act.put, List.setIfInBounds_toArray, List.set_cons_zero, List.set_cons_succ])
    refine wpAnyK_take (fun _ => rfl) (fun _ _ _ h k => h.trans k) (fun _ _ h k => k ▸ h) (i := 4) (oi := { dst := some 58, op := _, type := _, pos := _, after := _, guard := _ }) (v := ?_) rfl (by kernel_rfl) (by kernel_rfl) (by kernel_rfl) (fun _ _ _ h => h) (Or.inl (Or.inl ⟨by rfl, ?_⟩)) hS ?_
    rotate_left
    focus ((intro w hSw; (try dsimp only at hSw); obtain ⟨d1, d8⟩ := hSw; go_simp); (try with_reducible rfl))
    intro wq hwq
    subst hwq
    (try simp only [Act.put, List.setIfInBounds_toArray, List.set_cons_zero, List.set_cons_succ])
    refine wpAnyK_take (fun _ => rfl) (fun _ _ _ h k => h.trans k) (fun _ _ h k => k ▸ h) (i := 5) (oi := { dst := some 59, op := _, type := _, pos := _, after := _, guard := _ }) (v := ?_) rfl (by kernel_rfl) (by kernel_rfl) (by kernel_rfl) (fun _ _ _ h => h) (Or.inl (Or.inl ⟨by rfl, ?_⟩)) hS ?_
    rotate_left
    focus ((intro w hSw; (try dsimp only at hSw); obtain ⟨d1, d8⟩ := hSw; go_simp); (try with_reducible rfl))
    intro wq hwq
    subst hwq
    (try simp only [Act.put, List.setIfInBounds_toArray, List.set_cons_zero, List.set_cons_succ])
    refine wpAnyK_take (fun _ => rfl) (fun _ _ _ h k => h.trans k) (fun _ _ h k => k ▸ h) (i := 6) (oi := { dst := some 60, op := _, type := _, pos := _, after := _, guard := _ }) (v := ?_) rfl (by kernel_rfl) (by kernel_rfl) (by kernel_rfl) (fun _ _ _ h => h) (Or.inl (Or.inl ⟨by rfl, ?_⟩)) hS ?_
    rotate_left
    focus ((intro w hSw; (try dsimp only at hSw); obtain ⟨d1, d8⟩ := hSw; go_simp); (try with_reducible rfl))
    intro wq hwq
    subst hwq
    (try simp only [Act.put, List.setIfInBounds_toArray, List.set_cons_zero, List.set_cons_succ])
    refine wpAnyK_take (fun _ => rfl) (fun _ _ _ h k => h.trans k) (fun _ _ h k => k ▸ h) (i := 7) (oi := { dst := some 61, op := _, type := _, pos := _, after := _, guard := _ }) (v := ?_) rfl (by kernel_rfl) (by kernel_rfl) (by kernel_rfl) (fun _ _ _ h => h) (Or.inl (Or.inl ⟨by rfl, ?_⟩)) hS ?_
    rotate_left
    focus ((intro w hSw; (try dsimp only at hSw); obtain ⟨d1, d8⟩ := hSw; go_simp); (try with_reducible rfl))
    intro wq hwq
    subst hwq
    (try simp only [Act.put, List.setIfInBounds_toArray, List.set_cons_zero, List.set_cons_succ])
    refine wpAnyK_all (rs := [8]) (by kernel_rfl) (by simp) (fun i hi => ?_)
    simp only [List.mem_cons, List.not_mem_nil, or_false] at hi
    subst hi
    refine stepK (o := { dst := none, op := _, type := _, pos := _, after := _, guard := _ }) rfl (fun K hK => ?_)
    have t1 : y0.cell? ⟨gm, 1, none⟩ = some (.int .i64 s.2.2.pb) := HTY.out.bl.cell 1 _ rfl
    have t2 := HTY.out.bl.frozen 1
    go_simp
    have n1 : q + 1 ≠ gm := ne_typ HBY.out HTY.out.bl (by decide)
    have hb2 := HBY.out.far (p := ⟨gm, 1, none⟩) (by exact n1) (.int .i64 col)
    have hT2 := HTY.out.lay 1 (.int .i64 col) { s.2.2 with pb := col } rfl rfl
    have hL2 := lsetB gm 1 (.int .i64 col) HTY.out.hb.2 HLY.out
    refine hK _ _ ⟨hb2.cell 1 _ rfl, hb2.cell 8 _ rfl⟩ fun wq hwq => ?_
    obtain ⟨z1, hz1⟩ : ∃ x, y0.setCell ⟨gm, 1, none⟩ (.int .i64 col) = x := ⟨_, rfl⟩
    rw [hz1] at hb2 hT2 hL2
    have hz2 : z1 = wq := hz1.symm.trans hwq
    subst hz2
    replace hS : (fun W : World => W.cell? ⟨q + 1, 1, none⟩ = some (.int .i64 col) ∧ W.cell? ⟨q + 1, 8, none⟩ = some (.int .i64 num)) z1 := ⟨hb2.cell 1 _ rfl, hb2.cell 8 _ rfl⟩
    clear hK hwq hz1 t1 t2
    (try simp only [Act.put])
    refine wpAnyK_take (fun _ => rfl) (fun _ _ _ h k => h.trans k) (fun _ _ h k => k ▸ h) (i := 9) (oi := { dst := some 62, op := _, type := _, pos := _, after := _, guard := _ }) (v := ?_) rfl (by kernel_rfl) (by kernel_rfl) (by kernel_rfl) (fun _ _ _ h => h) (Or.inl (Or.inl ⟨by rfl, ?_⟩)) hS ?_
    rotate_left
    focus ((intro w hSw; (try dsimp only at hSw); skip; go_simp); (try with_reducible rfl))
    intro wq hwq
    subst hwq
    (try simp only [Act.put, List.setIfInBounds_toArray, List.set_cons_zero, List.set_cons_succ])
    refine wpAnyK_take (fun _ => rfl) (fun _ _ _ h k => h.trans k) (fun _ _ h k => k ▸ h) (i := 10) (oi := { dst := some 63, op := _, type := _, pos := _, after := _, guard := _ }) (v := ?_) rfl (by kernel_rfl) (by kernel_rfl) (by kernel_rfl) (fun _ _ _ h => h) (Or.inl (Or.inl ⟨by rfl, ?_⟩)) hS ?_
    rotate_left
    focus ((intro w hSw; (try dsimp only at hSw); skip; go_simp); (try with_reducible rfl))
    intro wq hwq
    subst hwq
    (try simp only [Act.put, List.setIfInBounds_toArray, List.set_cons_zero, List.set_cons_succ])
    refine wpAnyK_all (rs := [11]) (by kernel_rfl) (by simp) (fun i hi => ?_)
    simp only [List.mem_cons, List.not_mem_nil, or_false] at hi
    subst hi
    refine stepK (o := { dst := none, op := _, type := _, pos := _, after := _, guard := _ }) rfl (fun K hK => ?_)
    have t1 : z1.cell? ⟨gm, 2, none⟩ = some (.int .i64 s.2.2.parts) := hT2.bl.cell 2 _ rfl
    have t2 := hT2.bl.frozen 2
    go_simp
    have hb3 := hb2.far (p := ⟨gm, 2, none⟩) (by exact n1) (.int .i64 num)
    have hT3 := hT2.lay 2 (.int .i64 num) { s.2.2 with pb := col, parts := num } rfl rfl
    have hL3 := lsetB gm 2 (.int .i64 num) HTY.out.hb.2 hL2
    refine hK _ _ ⟨hb3.cell 1 _ rfl, hb3.cell 8 _ rfl⟩ fun wq hwq => ?_
    obtain ⟨z3, hz1⟩ : ∃ x, z1.setCell ⟨gm, 2, none⟩ (.int .i64 num) = x := ⟨_, rfl⟩
    rw [hz1] at hT3 hL3
    have hz2 : z3 = wq := hz1.symm.trans hwq
    subst hz2
    clear hK hwq hz1 t1 t2 hb3
    (try simp only [Act.put])
    refine wpAnyK_done (by kernel_rfl) ?_ _
    go_wp2_with fail
    go_ret
    exact RTurnP.yes HX.out hT3 hL3
  · simp only [Option.getD_some, Option.isSome_some]
    have HX := Lib.hid (show R = .ok (s.1, s.2.1, { s.2.2 with pb := col, parts := num }) from HHR.out.symm.trans (e7.trans (if_neg fun h => by have h2 := h.1; rw [HFO.out, hfs] at h2; cases h2)))
    clear e7 
    go_upto_region 13 with fail
    clear c0 c1 c8 m0 m1 m2 m3 f0 f1 f2 
    refine wp_region_K (S := (fun W : World => W.cell? ⟨q + 1, 1, none⟩ = some (.int .i64 col) ∧ W.cell? ⟨q + 1, 8, none⟩ = some (.int .i64 num))) (R := fun a b => a = b) (fun _ => rfl) (by kernel_rfl) ?_
    obtain ⟨y0, hy0⟩ : ∃ x, (w2).drew = x := ⟨_, rfl⟩
    have ly0 : Later w2 y0 := hy0 ▸ (Later.refl w2).drew
    have hS : (fun W : World => W.cell? ⟨q + 1, 1, none⟩ = some (.int .i64 col) ∧ W.cell? ⟨q + 1, 8, none⟩ = some (.int .i64 num)) y0 := ⟨(HB2.out.later ly0).cell 1 _ rfl, (HB2.out.later ly0).cell 8 _ rfl⟩
    have HTY := Lib.hid (HT2.out.later ly0)
    have HBY := Lib.hid (HB2.out.later ly0)
    have HLY := Lib.hid (HL2.out.trans ly0)
    rw [hy0]
    clear hy0
    refine wpAnyK_take (fun _ => rfl) (fun _ _ _ h k => h.trans k) (fun _ _ h k => k ▸ h) (i := 0) (oi := { dst := some 54, op := _, type := _, pos := _, after := _, guard := _ }) (v := ?_) rfl (by kernel_rfl) (by kernel_rfl) (by kernel_rfl) (fun _ _ _ h => h) (Or.inl (Or.inl ⟨by rfl, ?_⟩)) hS ?_
    rotate_left
    focus ((intro w hSw; (try dsimp only at hSw); obtain ⟨d1, d8⟩ := hSw; go_simp); (try with_reducible rfl))
    intro wq hwq
    subst hwq
    (try simp only [Act.put, List.setIfInBounds_toArray, List.set_cons_zero, List.set_cons_succ])
    refine wpAnyK_take (fun _ => rfl) (fun _ _ _ h k => h.trans k) (fun _ _ h k => k ▸ h) (i := 1) (oi := { dst := some 55, op := _, type := _, pos := _, after := _, guard := _ }) (v := ?_) rfl (by kernel_rfl) (by kernel_rfl) (by kernel_rfl) (fun _ _ _ h => h) (Or.inl (Or.inl ⟨by rfl, ?_⟩)) hS ?_
    rotate_left
    focus ((intro w hSw; (try dsimp only at hSw); obtain ⟨d1, d8⟩ := hSw; go_simp); (try with_reducible rfl))
    intro wq hwq
    subst hwq
    (try simp only [Act.put, List.setIfInBounds_toArray, List.set_cons_zero, List.set_cons_succ])
    refine wpAnyK_take (fun _ => rfl) (fun _ _ _ h k => h.trans k) (fun _ _ h k => k ▸ h) (i := 2) (oi := { dst := some 56, op := _, type := _, pos := _, after := _, guard := _ }) (v := ?_) rfl (by kernel_rfl) (by kernel_rfl) (by kernel_rfl) (fun _ _ _ h => h) (Or.inl (Or.inl ⟨by rfl, ?_⟩)) hS ?_
    rotate_left
    focus ((intro w hSw; (try dsimp only at hSw); obtain ⟨d1, d8⟩ := hSw; go_simp); (try with_reducible rfl))
    intro wq hwq
    subst hwq
    (try simp only [Act.put, List.setIfInBounds_toArray, List.set_cons_zero, List.set_cons_succ])
    refine wpAnyK_take (fun _ => rfl) (fun _ _ _ h k => h.trans k) (fun _ _ h k => k ▸ h) (i := 3) (oi := { dst := some 57, op := _, type := _, pos := _, after := _, guard := _ }) (v := ?_) rfl (by kernel_rfl) (by kernel_rfl) (by kernel_rfl) (fun _ _ _ h => h) (Or.inl (Or.inl ⟨by rfl, ?_⟩)) hS ?_
    rotate_left
    focus ((intro w hSw; (try dsimp only at hSw); obtain ⟨d1, d8⟩ := hSw; go_simp); (try with_reducible rfl))
    intro wq hwq
    subst hwq
    (try simp only [Act.put, List.setIfInBounds_toArray, List.set_cons_zero, List.set_cons_succ])
    refine wpAnyK_take (fun _ => rfl) (fun _ _ _ h k => h.trans k) (fun _ _ h k => k ▸ h) (i := 4) (oi := { dst := some 58, op := _, type := _, pos := _, after := _, guard := _ }) (v := ?_) rfl (by kernel_rfl) (by kernel_rfl) (by kernel_rfl) (fun _ _ _ h => h) (Or.inl (Or.inl ⟨by rfl, ?_⟩)) hS ?_
    rotate_left
    focus ((intro w hSw; (try dsimp only at hSw); obtain ⟨d1, d8⟩ := hSw; go_simp); (try with_reducible rfl))
    intro wq hwq
    subst hwq
    (try simp only [Act.put, List.setIfInBounds_toArray, List.set_cons_zero, List.set_cons_succ])
    refine wpAnyK_take (fun _ => rfl) (fun _ _ _ h k => h.trans k) (fun _ _ h k => k ▸ h) (i := 5) (oi := { dst := some 59, op := _, type := _, pos := _, after := _, guard := _ }) (v := ?_) rfl (by kernel_rfl) (by kernel_rfl) (by kernel_rfl) (fun _ _ _ h => h) (Or.inl (Or.inl ⟨by rfl, ?_⟩)) hS ?_
    rotate_left
    focus ((intro w hSw; (try dsimp only at hSw); obtain ⟨d1, d8⟩ := hSw; go_simp); (try with_reducible rfl))
    intro wq hwq
    subst hwq
    (try simp only [Act.put, List.setIfInBounds_toArray, List.set_cons_zero, List.set_cons_succ])
    refine wpAnyK_take (fun _ => rfl) (fun _ _ _ h k => h.trans k) (fun _ _ h k => k ▸ h) (i := 6) (oi := { dst := some 60, op := _, type := _, pos := _, after := _, guard := _ }) (v := ?_) rfl (by kernel_rfl) (by kernel_rfl) (by kernel_rfl) (fun _ _ _ h => h) (Or.inl (Or.inl ⟨by rfl, ?_⟩)) hS ?_
    rotate_left
    focus ((intro w hSw; (try dsimp only at hSw); obtain ⟨d1, d8⟩ := hSw; go_simp); (try with_reducible rfl))
    intro wq hwq
    subst hwq
    (try simp only [Act.put, List.setIfInBounds_toArray, List.set_cons_zero, List.set_cons_succ])
    refine wpAnyK_take (fun _ => rfl) (fun _ _ _ h k => h.trans k) (fun _ _ h k => k ▸ h) (i := 7) (oi := { dst := some 61, op := _, type := _, pos := _, after := _, guard := _ }) (v := ?_) rfl (by kernel_rfl) (by kernel_rfl) (by kernel_rfl) (fun _ _ _ h => h) (Or.inl (Or.inl ⟨by rfl, ?_⟩)) hS ?_
    rotate_left
    focus ((intro w hSw; (try dsimp only at hSw); obtain ⟨d1, d8⟩ := hSw; go_simp); (try with_reducible rfl))
    intro wq hwq
    subst hwq
    (try simp only [Act.put, List.setIfInBounds_toArray, List.set_cons_zero, List.set_cons_succ])
    refine wpAnyK_all (rs := [8]) (by kernel_rfl) (by simp) (fun i hi => ?_)
    simp only [List.mem_cons, List.not_mem_nil, or_false] at hi
    subst hi
    refine stepK (o := { dst := none, op := _, type := _, pos := _, after := _, guard := _ }) rfl (fun K hK => ?_)
    have t1 : y0.cell? ⟨gm, 1, none⟩ = some (.int .i64 s.2.2.pb) := HTY.out.bl.cell 1 _ rfl
    have t2 := HTY.out.bl.frozen 1
    go_simp
    have n1 : q + 1 ≠ gm := ne_typ HBY.out HTY.out.bl (by decide)
    have hb2 := HBY.out.far (p := ⟨gm, 1, none⟩) (by exact n1) (.int .i64 col)
    have hT2 := HTY.out.lay 1 (.int .i64 col) { s.2.2 with pb := col } rfl rfl
    have hL2 := lsetB gm 1 (.int .i64 col) HTY.out.hb.2 HLY.out
    refine hK _ _ ⟨hb2.cell 1 _ rfl, hb2.cell 8 _ rfl⟩ fun wq hwq => ?_
    obtain ⟨z1, hz1⟩ : ∃ x, y0.setCell ⟨gm, 1, none⟩ (.int .i64 col) = x := ⟨_, rfl⟩
    rw [hz1] at hb2 hT2 hL2
    have hz2 : z1 = wq := hz1.symm.trans hwq
    subst hz2
    replace hS : (fun W : World => W.cell? ⟨q + 1, 1, none⟩ = some (.int .i64 col) ∧ W.cell? ⟨q + 1, 8, none⟩ = some (.int .i64 num)) z1 := ⟨hb2.cell 1 _ rfl, hb2.cell 8 _ rfl⟩
    clear hK hwq hz1 t1 t2
    (try simp only [Act.put])
    refine wpAnyK_take (fun _ => rfl) (fun _ _ _ h k => h.trans k) (fun _ _ h k => k ▸ h) (i := 9) (oi := { dst := some 62, op := _, type := _, pos := _, after := _, guard := _ }) (v := ?_) rfl (by kernel_rfl) (by kernel_rfl) (by kernel_rfl) (fun _ _ _ h => h) (Or.inl (Or.inl ⟨by rfl, ?_⟩)) hS ?_
    rotate_left
    focus ((intro w hSw; (try dsimp only at hSw); skip; go_simp); (try with_reducible rfl))
    intro wq hwq
    subst hwq
    (try simp only [Act.put, List.setIfInBounds_toArray, List.set_cons_zero, List.set_cons_succ])
    refine wpAnyK_take (fun _ => rfl) (fun _ _ _ h k => h.trans k) (fun _ _ h k => k ▸ h) (i := 10) (oi := { dst := some 63, op := _, type := _, pos := _, after := _, guard := _ }) (v := ?_) rfl (by kernel_rfl) (by kernel_rfl) (by kernel_rfl) (fun _ _ _ h => h) (Or.inl (Or.inl ⟨by rfl, ?_⟩)) hS ?_
    rotate_left
    focus ((intro w hSw; (try dsimp only at hSw); skip; go_simp); (try with_reducible rfl))
    intro wq hwq
    subst hwq
    (try simp only [Act.put, List.setIfInBounds_toArray, List.set_cons_zero, List.set_cons_succ])
    refine wpAnyK_all (rs := [11]) (by kernel_rfl) (by simp) (fun i hi => ?_)
    simp only [List.mem_cons, List.not_mem_nil, or_false] at hi
    subst hi
    refine stepK (o := { dst := none, op := _, type := _, pos := _, after := _, guard := _ }) rfl (fun K hK => ?_)
    have t1 : z1.cell? ⟨gm, 2, none⟩ = some (.int .i64 s.2.2.parts) := hT2.bl.cell 2 _ rfl
    have t2 := hT2.bl.frozen 2
    go_simp
    have hb3 := hb2.far (p := ⟨gm, 2, none⟩) (by exact n1) (.int .i64 num)
    have hT3 := hT2.lay 2 (.int .i64 num) { s.2.2 with pb := col, parts := num } rfl rfl
    have hL3 := lsetB gm 2 (.int .i64 num) HTY.out.hb.2 hL2
    refine hK _ _ ⟨hb3.cell 1 _ rfl, hb3.cell 8 _ rfl⟩ fun wq hwq => ?_
    obtain ⟨z3, hz1⟩ : ∃ x, z1.setCell ⟨gm, 2, none⟩ (.int .i64 num) = x := ⟨_, rfl⟩
    rw [hz1] at hT3 hL3
    have hz2 : z3 = wq := hz1.symm.trans hwq
    subst hz2
    clear hK hwq hz1 t1 t2 hb3
    (try simp only [Act.put])
    refine wpAnyK_done (by kernel_rfl) ?_ _
    go_wp2_with fail
    go_ret
    exact RTurnP.yes HX.out hT3 hL3
end Go.Proofs.YtklohbglkbhjhaaDoor
