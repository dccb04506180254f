
import Derived.Test.YtklohbglkbhjhaaDoorRApA
import Derived.Test.YtklohbglkbhjhaaDoorRowsM
import Derived.Test.YtklohbglkbhjhaaDoorBase
import Derived.Test.YtklohbglkbhjhaaDoorChgE
import Derived.Test.YtklohbglkbhjhaaDoorPlayV
import Derived.Test.YtklohbglkbhjhaaDoorPlayN
import Derived.Test.YtklohbglkbhjhaaDoorSchC
import Derived.Test.YtklohbglkbhjhaaDoorRefSch
import Derived.Test.YtklohbglkbhjhaaDoorPlayS
import Derived.Test.YtklohbglkbhjhaaDoorSchA
import Derived.WalkKit
import Derived.Laws.OwnMore
import Derived.Laws.BytesArg
import Derived.Laws.Rows
import Derived.Deep.AppendLies
import Derived.Deep.Draws
import Derived.Test.YtklohbglkbhjhaaDoorChecked
import Derived.Deep.OwnRows
import Derived.Lib.Hide
import Derived.Deep.Quiet
import Derived.Laws.AppendOwnNone
import Derived.Lib.Strings
import Derived.Outline
import Derived.WalkLawsBesides
import Derived.WalkSpells
import Derived.PlainAid
import Derived.Deep.QuietTactic
import Derived.BigQuiet
import Derived.RegionTactic
import Derived.BigRegion
import Derived.Handy
import Derived.Laws.BitsAllLaws
import Derived.Deep.RegionWith
import Derived.Lib.AppendStr
import Derived.Deep.RegionLaw
import Derived.Maps.AppendAt
import Derived.OpenShut
import Derived.WideShapes
import Derived.ChangeArms
import Derived.Deep.Slices
import Derived.Sort.Grow
import Derived.Lib.SliceRun
import Derived.Shelf.Spec.SlicesInsert
import Derived.Lib.Overlaps
import Derived.Lib.AppendZerosOnto
import Derived.OrdersHeld
import Derived.LaidEql
import Derived.Stop.Asserts
import Derived.RowKitTokens
import Derived.Stop.IfaceNil
import Derived.Laws.BitsLemmas
import Derived.Laws.Bits64
import Derived.WalkSmall
import Derived.Lib.Bytealg
import Derived.Deep.SlicePairs
import Derived.Deep.CutBlock
import Derived.Shelf.Abstract
import Derived.Lib.QuietBelow
import Derived.Deep.CutRange
import Derived.Deep.MidRow
/- The document's add. (tools/gen_rapadd.py) -/



namespace Go.Proofs.YtklohbglkbhjhaaDoor
open Go.RowKit
set_option linter.unusedVariables false

set_option maxRecDepth 100000 in
set_option maxHeartbeats 8000000 in
theorem refAdd_any (W0 : World) (gt gm : Nat) (w : World) (s : St3) (c : Chg) (gv vc ge ec : Nat) (hl : Later W0 w) (T : TB W0.heap.size gt gm w s gv vc ge ec) (hn6 : 1 ≤ s.1.length ∧ s.1.length ≤ 6) (hlen : s.2.2.enc.length = s.1.length) (hlast : 0 ≤ s.2.1 ∧ s.2.1 ≤ 10000) (hnm : c.name.size ≤ 9223372036854775807) :
    Calls Tryd.prog 43 #[.pointer (some ⟨gt, 0, none⟩), .pointer (some ⟨gm, 0, none⟩), cagg9 c] w (RTurnP W0 gt gm (addM s c c.typ c.val s.1.length)) := by
  obtain ⟨kind, col, name, typ, ⟨v0, v1, v2⟩, sep, num⟩ := c
  dsimp only at hnm ⊢
  show Calls Tryd.prog 43 #[.pointer (some ⟨gt, 0, none⟩), .pointer (some ⟨gm, 0, none⟩), .agg #[.int .i64 kind, .int .i64 col, .string name, .int .i64 typ, .int .i64 v0, .int .i64 v1, .string v2, .int .u8 sep, .int .i64 num]] w _
  obtain ⟨R, hR⟩ : ∃ x, addM s ⟨kind, col, name, typ, (v0, v1, v2), sep, num⟩ typ (v0, v1, v2) s.1.length = x := ⟨_, rfl⟩
  rw [hR]
  have hAD : R = (if ¬ (NameL name ∧ TypL typ) then .error 1 else if (findC s.1 name).isSome = true then .error 9 else if ¬ FitsV typ (v0, v1, v2) then .error 4 else if 6 ≤ s.1.length ∨ 10000 ≤ s.2.1 then .error 6 else .ok (insA s.1 s.1.length (s.2.1 + 1, name, typ), s.2.1 + 1, { s.2.2 with enc := insA s.2.2.enc s.1.length 1 })) := hR.symm
  have HAD := Lib.hid hAD
  obtain ⟨q, hq⟩ : ∃ x, w.heap.size = x := ⟨_, rfl⟩
  obtain ⟨w1, hw1⟩ : ∃ x : World, w.alloc (.cells #[.int .i64 kind, .int .i64 col, .string name, .int .i64 typ, .int .i64 v0, .int .i64 v1, .string v2, .int .u8 sep, .int .i64 num] 31) = x := ⟨_, rfl⟩
  have l1 : Later w w1 := hw1 ▸ Later.new _ _
  have HBC := Lib.hid (show Blk w1 q #[.int .i64 kind, .int .i64 col, .string name, .int .i64 typ, .int .i64 v0, .int .i64 v1, .string v2, .int .u8 sep, .int .i64 num] 31 from hw1 ▸ Blk.new _ _ _ _ hq.symm)
  have HL1 := Lib.hid (hl.trans l1)
  have HT1 := Lib.hid (T.later l1)
  have HLEN := Lib.hid hlen
  have HN6 := Lib.hid hn6
  have HLA := Lib.hid hlast
  have HNM := Lib.hid hnm
  have HW1 := Lib.hid hw1
  have HQ := Lib.hid hq
  obtain ⟨fo, hfo⟩ : ∃ x, findC s.1 name = x := ⟨_, rfl⟩
  rw [hfo] at HAD
  have HFO := Lib.hid hfo
  clear hw1 l1 T hl hlen hR hq hn6 hlast hnm hAD hfo
  go_enter Tryd.func43, Tryd.ntmps43
  go_upto_region 1 with fail
  rw [HW1.out]
  try simp only [HQ.out]
  go_cut [7, 8] from 9 to 17 (fun av bv wx => av = .int .i64 ((fo.getD 0 : Nat) : Int) ∧ bv = .bool fo.isSome ∧ Later w1 wx)
  case first => as_aux_lemma =>
    refine wp_region_K (S := (fun W : World => Later w1 W)) (R := fun a b => a = b) (fun _ => rfl) (by kernel_rfl) ?_
    obtain ⟨y0, hy0⟩ : ∃ x, (w1).drew = x := ⟨_, rfl⟩
    have ly0 : Later w1 y0 := hy0 ▸ (Later.refl w1).drew
    have hS : (fun W : World => Later w1 W) y0 := ly0
    
    rw [hy0]
    clear hy0
    refine wpAnyK_take (fun _ => rfl) (fun _ _ _ h k => h.trans k) (fun _ _ h k => k ▸ h) (i := 0) (oi := { dst := some 10, op := _, type := _, pos := _, after := _, guard := _ }) (v := ?_) rfl (by kernel_rfl) (by kernel_rfl) (by kernel_rfl) (fun _ _ _ h => h) (Or.inl (Or.inl ⟨by rfl, ?_⟩)) hS ?_
    rotate_left
    focus ((intro w hSw; (try dsimp only at hSw); have t0 := (HT1.out.later hSw).bs.cell 0 _ rfl; have t1 := (HT1.out.later hSw).bs.cell 1 _ rfl; have k2 := (HBC.out.later hSw).cell 2 _ rfl; go_simp); (try with_reducible rfl))
    intro wq hwq
    subst hwq
    (try simp only [Act.put, List.setIfInBounds_toArray, List.set_cons_zero, List.set_cons_succ])
    refine wpAnyK_take (fun _ => rfl) (fun _ _ _ h k => h.trans k) (fun _ _ h k => k ▸ h) (i := 1) (oi := { dst := some 11, op := _, type := _, pos := _, after := _, guard := _ }) (v := ?_) rfl (by kernel_rfl) (by kernel_rfl) (by kernel_rfl) (fun _ _ _ h => h) (Or.inl (Or.inl ⟨by rfl, ?_⟩)) hS ?_
    rotate_left
    focus ((intro w hSw; (try dsimp only at hSw); have t0 := (HT1.out.later hSw).bs.cell 0 _ rfl; have t1 := (HT1.out.later hSw).bs.cell 1 _ rfl; have k2 := (HBC.out.later hSw).cell 2 _ rfl; go_simp); (try with_reducible rfl))
    intro wq hwq
    subst hwq
    (try simp only [Act.put, List.setIfInBounds_toArray, List.set_cons_zero, List.set_cons_succ])
    refine wpAnyK_take (fun _ => rfl) (fun _ _ _ h k => h.trans k) (fun _ _ h k => k ▸ h) (i := 2) (oi := { dst := some 12, op := _, type := _, pos := _, after := _, guard := _ }) (v := ?_) rfl (by kernel_rfl) (by kernel_rfl) (by kernel_rfl) (fun _ _ _ h => h) (Or.inl (Or.inl ⟨by rfl, ?_⟩)) hS ?_
    rotate_left
    focus ((intro w hSw; (try dsimp only at hSw); have t0 := (HT1.out.later hSw).bs.cell 0 _ rfl; have t1 := (HT1.out.later hSw).bs.cell 1 _ rfl; have k2 := (HBC.out.later hSw).cell 2 _ rfl; go_simp); (try with_reducible rfl))
    intro wq hwq
    subst hwq
    (try simp only [Act.put, List.setIfInBounds_toArray, List.set_cons_zero, List.set_cons_succ])
    refine wpAnyK_take (fun _ => rfl) (fun _ _ _ h k => h.trans k) (fun _ _ h k => k ▸ h) (i := 3) (oi := { dst := some 13, op := _, type := _, pos := _, after := _, guard := _ }) (v := ?_) rfl (by kernel_rfl) (by kernel_rfl) (by kernel_rfl) (fun _ _ _ h => h) (Or.inl (Or.inl ⟨by rfl, ?_⟩)) hS ?_
    rotate_left
    focus ((intro w hSw; (try dsimp only at hSw); have t0 := (HT1.out.later hSw).bs.cell 0 _ rfl; have t1 := (HT1.out.later hSw).bs.cell 1 _ rfl; have k2 := (HBC.out.later hSw).cell 2 _ rfl; go_simp); (try with_reducible rfl))
    intro wq hwq
    subst hwq
    (try simp only [Act.put, List.setIfInBounds_toArray, List.set_cons_zero, List.set_cons_succ])
    refine wpAnyK_take (fun _ => rfl) (fun _ _ _ h k => h.trans k) (fun _ _ h k => k ▸ h) (i := 4) (oi := { dst := some 14, op := _, type := _, pos := _, after := _, guard := _ }) (v := ?_) rfl (by kernel_rfl) (by kernel_rfl) (by kernel_rfl) (fun _ _ _ h => h) (Or.inl (Or.inl ⟨by rfl, ?_⟩)) hS ?_
    rotate_left
    focus ((intro w hSw; (try dsimp only at hSw); have t0 := (HT1.out.later hSw).bs.cell 0 _ rfl; have t1 := (HT1.out.later hSw).bs.cell 1 _ rfl; have k2 := (HBC.out.later hSw).cell 2 _ rfl; go_simp); (try with_reducible rfl))
    intro wq hwq
    subst hwq
    (try simp only [Act.put, List.setIfInBounds_toArray, List.set_cons_zero, List.set_cons_succ])
    refine wpAnyK_all (rs := [5]) (by kernel_rfl) (by simp) (fun i hi => ?_)
    simp only [List.mem_cons, List.not_mem_nil, or_false] at hi
    subst hi
    refine stepK (o := { dst := some 15, op := _, type := _, pos := _, after := _, guard := _ }) rfl (fun K hK => ?_)
    go_simp
    refine (refFind_any (some ⟨gv, 0, none⟩) s.1.length vc s.2.1 s.1 name y0 rfl (by have := HN6.out; omega) (HT1.out.later hS).has).mono ?_
    rintro e y1 ⟨rfl, hl2⟩
    rw [HFO.out]
    replace hS : (fun W : World => Later w1 W) y1 := Later.trans hS hl2
    refine hK _ _ hS fun wq hwq => ?_
    subst hwq
    clear hK hl2
    (try simp only [Act.put, List.setIfInBounds_toArray, List.set_cons_zero, List.set_cons_succ])
    refine wpAnyK_take (fun _ => rfl) (fun _ _ _ h k => h.trans k) (fun _ _ h k => k ▸ h) (i := 6) (oi := { dst := some 9, op := _, type := _, pos := _, after := _, guard := _ }) (v := ?_) rfl (by kernel_rfl) (by kernel_rfl) (by kernel_rfl) (fun _ _ _ h => h) (Or.inl (Or.inl ⟨by rfl, ?_⟩)) hS ?_
    rotate_left
    focus ((intro w hSw; (try dsimp only at hSw); skip; go_simp); (try with_reducible rfl))
    intro wq hwq
    subst hwq
    (try simp only [Act.put, List.setIfInBounds_toArray, List.set_cons_zero, List.set_cons_succ])
    refine wpAnyK_take (fun _ => rfl) (fun _ _ _ h k => h.trans k) (fun _ _ h k => k ▸ h) (i := 7) (oi := { dst := some 16, op := _, type := _, pos := _, after := _, guard := _ }) (v := ?_) rfl (by kernel_rfl) (by kernel_rfl) (by kernel_rfl) (fun _ _ _ h => h) (Or.inl (Or.inl ⟨by rfl, ?_⟩)) hS ?_
    rotate_left
    focus ((intro w hSw; (try dsimp only at hSw); skip; go_simp); (try with_reducible rfl))
    intro wq hwq
    subst hwq
    (try simp only [Act.put, List.setIfInBounds_toArray, List.set_cons_zero, List.set_cons_succ])
    refine wpAnyK_take (fun _ => rfl) (fun _ _ _ h k => h.trans k) (fun _ _ h k => k ▸ h) (i := 8) (oi := { dst := some 17, op := _, type := _, pos := _, after := _, guard := _ }) (v := ?_) rfl (by kernel_rfl) (by kernel_rfl) (by kernel_rfl) (fun _ _ _ h => h) (Or.inl (Or.inl ⟨by rfl, ?_⟩)) hS ?_
    rotate_left
    focus ((intro w hSw; (try dsimp only at hSw); skip; go_simp); (try with_reducible rfl))
    intro wq hwq
    subst hwq
    (try simp only [Act.put, List.setIfInBounds_toArray, List.set_cons_zero, List.set_cons_succ])
    refine wpAnyK_take (fun _ => rfl) (fun _ _ _ h k => h.trans k) (fun _ _ h k => k ▸ h) (i := 9) (oi := { dst := some 7, op := _, type := _, pos := _, after := _, guard := _ }) (v := ?_) rfl (by kernel_rfl) (by kernel_rfl) (by kernel_rfl) (fun _ _ _ h => h) (Or.inl (Or.inl ⟨by rfl, ?_⟩)) hS ?_
    rotate_left
    focus ((intro w hSw; (try dsimp only at hSw); skip; go_simp); (try with_reducible rfl))
    intro wq hwq
    subst hwq
    (try simp only [Act.put, List.setIfInBounds_toArray, List.set_cons_zero, List.set_cons_succ])
    refine wpAnyK_take (fun _ => rfl) (fun _ _ _ h k => h.trans k) (fun _ _ h k => k ▸ h) (i := 10) (oi := { dst := some 8, op := _, type := _, pos := _, after := _, guard := _ }) (v := ?_) rfl (by kernel_rfl) (by kernel_rfl) (by kernel_rfl) (fun _ _ _ h => h) (Or.inl (Or.inl ⟨by rfl, ?_⟩)) hS ?_
    rotate_left
    focus ((intro w hSw; (try dsimp only at hSw); skip; go_simp); (try with_reducible rfl))
    intro wq hwq
    subst hwq
    (try simp only [Act.put, List.setIfInBounds_toArray, List.set_cons_zero, List.set_cons_succ])
    refine wpAnyK_done (by kernel_rfl) ?_ _
    go_wp2_with fail
    go_meet
    exact ⟨rfl, rfl, hS⟩
  case rest =>
  obtain ⟨rfl, rfl, lx⟩ := hcut
  have HL2 := Lib.hid (HL1.out.trans lx)
  have HT2 := Lib.hid (HT1.out.later lx)
  have HB2 := Lib.hid (HBC.out.later lx)
  clear lx HL1 HT1 HBC HW1 HQ
  have HC1 := Lib.hid (refMayName_any name wc HNM.out)
  have k2 := HB2.out.cell 2 _ rfl
  by_cases h1 : NameL name
  rotate_left
  · have HX := Lib.hid (show R = .error 1 from HAD.out.trans (if_pos fun h => h1 h.1))
    have HH := Lib.hid h1
    clear h1
    go_wp2_with fail
    refine HC1.out.mono ?_
    rintro e w3 ht
    obtain ⟨rfl, l3⟩ := ht.no HH.out
    have HL3 := Lib.hid (HL2.out.trans l3)
    clear ht l3 HC1 k2
    go_wp2_with fail
    go_ret
    exact RTurnP.no 1 HX.out (by decide) HL3.out
  have HH1 := Lib.hid h1
  clear h1
  go_wp2_with fail
  refine HC1.out.mono ?_
  rintro e w3 ht
  obtain ⟨rfl, l3⟩ := ht.yes HH1.out
  have HL3 := Lib.hid (HL2.out.trans l3)
  have HT3 := Lib.hid (HT2.out.later l3)
  have HB3 := Lib.hid (HB2.out.later l3)
  clear ht l3 HC1 k2 HL2 HT2 HB2
  have k3 := HB3.out.cell 3 _ rfl
  have HC2 := Lib.hid (refIsType_any typ w3)
  by_cases h2 : TypL typ
  rotate_left
  · have HX := Lib.hid (show R = .error 1 from HAD.out.trans (if_pos fun h => h2 h.2))
    have HH := Lib.hid h2
    clear h2
    go_wp2_with fail
    refine HC2.out.mono ?_
    rintro e w4 ht
    obtain ⟨rfl, l4⟩ := ht.no HH.out
    have HL4 := Lib.hid (HL3.out.trans l4)
    clear ht l4 HC2 k3
    go_wp2_with fail
    go_ret
    exact RTurnP.no 1 HX.out (by decide) HL4.out
  have HA2 := Lib.hid (HAD.out.trans (if_neg fun h => h ⟨HH1.out, h2⟩))
  have HH2 := Lib.hid h2
  clear h2 HAD
  go_wp2_with fail
  refine HC2.out.mono ?_
  rintro e w4 ht
  obtain ⟨rfl, l4⟩ := ht.yes HH2.out
  have HL4 := Lib.hid (HL3.out.trans l4)
  have HT4 := Lib.hid (HT3.out.later l4)
  have HB4 := Lib.hid (HB3.out.later l4)
  clear ht l4 HC2 k3 HL3 HT3 HB3
  obtain ⟨fb, hfb⟩ : ∃ x, fo.isSome = x := ⟨_, rfl⟩
  rw [hfb] at HA2 ⊢
  clear hfb
  rcases fb with _ | _
  rotate_left
  · have HX := Lib.hid (show R = .error 9 from HA2.out.trans (if_pos rfl))
    go_wp2_with fail
    go_ret
    exact RTurnP.no 9 HX.out (by decide) HL4.out
  have HA3 := Lib.hid (HA2.out.trans (if_neg (fun h => by cases h)))
  clear HA2
  have k3 := HB4.out.cell 3 _ rfl
  have k4 := HB4.out.cell 4 _ rfl
  have k5 := HB4.out.cell 5 _ rfl
  have k6 := HB4.out.cell 6 _ rfl
  have HC3 := Lib.hid (refFits_c typ v0 v1 v2 w4)
  by_cases h3 : FitsV typ (v0, v1, v2)
  rotate_left
  · have HX := Lib.hid (show R = .error 4 from HA3.out.trans (if_pos h3))
    have HH := Lib.hid h3
    clear h3
    go_wp2_with fail
    refine HC3.out.mono ?_
    rintro e w5 ht
    obtain ⟨rfl, l5⟩ := ht.no HH.out
    have HL5 := Lib.hid (HL4.out.trans l5)
    clear ht l5 HC3 k3 k4 k5 k6
    go_wp2_with fail
    go_ret
    exact RTurnP.no 4 HX.out (by decide) HL5.out
  have HA4 := Lib.hid (HA3.out.trans (if_neg fun h => h h3))
  have HH3 := Lib.hid h3
  clear h3 HA3
  go_wp2_with fail
  refine HC3.out.mono ?_
  rintro e w5 ht
  obtain ⟨rfl, l5⟩ := ht.yes HH3.out
  have HL5 := Lib.hid (HL4.out.trans l5)
  have HT5 := Lib.hid (HT4.out.later l5)
  have HB5 := Lib.hid (HB4.out.later l5)
  clear ht l5 HC3 k3 k4 k5 k6 HL4 HT4 HB4
  have t0 := HT5.out.bs.cell 0 _ rfl
  have t1 := HT5.out.bs.cell 1 _ rfl
  have g1 := HT5.out.bs.frozen 1
  by_cases h4 : (6 : Int) ≤ (s.1.length : Int)
  · have HX := Lib.hid (show R = .error 6 from HA4.out.trans (if_pos (.inl (by omega))))
    go_wp2_with fail
    go_ret
    exact RTurnP.no 6 HX.out (by decide) HL5.out
  by_cases h5 : (10000 : Int) ≤ s.2.1
  · have HX := Lib.hid (show R = .error 6 from HA4.out.trans (if_pos (.inr h5)))
    go_wp2_with fail
    go_ret
    exact RTurnP.no 6 HX.out (by decide) HL5.out
  have HX := Lib.hid (show R = .ok (s.1 ++ [(s.2.1 + 1, name, typ)], s.2.1 + 1, { s.2.2 with enc := s.2.2.enc ++ [1] }) from HA4.out.trans ((if_neg (fun h => by omega)).trans (by
    have e1 : insA s.1 s.1.length (s.2.1 + 1, name, typ) = s.1 ++ [(s.2.1 + 1, name, typ)] := insA_end _ _
    have e2 : insA s.2.2.enc s.1.length 1 = s.2.2.enc ++ [1] := by rw [← HLEN.out]; exact insA_end _ _
    rw [e1, e2])))
  have hw9 : IntKind.i64.wrap (s.2.1 + 1) = s.2.1 + 1 := IntWalk.i64_in _ ⟨by have := HLA.out; omega, by have := HLA.out; omega⟩
  have HS6 := Lib.hid (show s.1.length ≤ 5 from by omega)
  go_upto_region 11 with fail
  obtain ⟨w6, hw6⟩ : ∃ x, w5.setCell ⟨gt, 1, none⟩ (.int .i64 (s.2.1 + 1)) = x := ⟨_, rfl⟩
  have HT6 := Lib.hid (hw6 ▸ HT5.out.last (s.2.1 + 1) : TB W0.heap.size gt gm w6 (s.1, s.2.1 + 1, s.2.2) gv vc ge ec)
  have HL6 := Lib.hid (hw6 ▸ lsetB gt 1 (.int .i64 (s.2.1 + 1)) HT5.out.hb.1 HL5.out : Later W0 w6)
  have HB6 := Lib.hid (hw6 ▸ HB5.out.far (p := ⟨gt, 1, none⟩) (ne_typ HB5.out HT5.out.bs (by decide)) _ : Blk w6 q #[.int .i64 kind, .int .i64 col, .string name, .int .i64 typ, .int .i64 v0, .int .i64 v1, .string v2, .int .u8 sep, .int .i64 num] 31)
  rw [hw6]
  clear hw6 HT5 HL5 HB5 t0 t1 g1 h4 h5 HA4 hw9 HLA
  go_cut [3] from 59 to 76 (fun pv wx => ∃ gv' vc', TB W0.heap.size gt gm wx (s.1 ++ [(s.2.1 + 1, name, typ)], s.2.1 + 1, s.2.2) gv' vc' ge ec ∧ Later W0 wx)
  case first => as_aux_lemma =>
    refine wp_region_Z (S := (fun W : World => W.cell? ⟨gt, 0, none⟩ = some (.slice (some ⟨gv, 0, none⟩) s.1.length vc) ∧ W.cell? ⟨gt, 1, none⟩ = some (.int .i64 (s.2.1 + 1)) ∧ W.cell? ⟨q, 2, none⟩ = some (.string name) ∧ W.cell? ⟨q, 3, none⟩ = some (.int .i64 typ))) 18 (by kernel_rfl) ?_
    obtain ⟨y0, hy0⟩ : ∃ x, (w6).drew = x := ⟨_, rfl⟩
    have ly0 : Later w6 y0 := hy0 ▸ (Later.refl w6).drew
    have hS : (fun W : World => W.cell? ⟨gt, 0, none⟩ = some (.slice (some ⟨gv, 0, none⟩) s.1.length vc) ∧ W.cell? ⟨gt, 1, none⟩ = some (.int .i64 (s.2.1 + 1)) ∧ W.cell? ⟨q, 2, none⟩ = some (.string name) ∧ W.cell? ⟨q, 3, none⟩ = some (.int .i64 typ)) y0 := ⟨(HT6.out.later ly0).bs.cell 0 _ rfl, (HT6.out.later ly0).bs.cell 1 _ rfl, (HB6.out.later ly0).cell 2 _ rfl, (HB6.out.later ly0).cell 3 _ rfl⟩
    have HTY := Lib.hid (HT6.out.later ly0)
    have HBY := Lib.hid (HB6.out.later ly0)
    have HLY := Lib.hid (HL6.out.trans ly0)
    rw [hy0]
    clear hy0
    refine wpAnyZ_take (i := 0) (oi := { dst := some 59, op := _, type := _, pos := _, after := _, guard := _ }) (v := ?_) rfl (by kernel_rfl) (by kernel_rfl) (by kernel_rfl) (by kernel_rfl) (fun _ _ _ h => h) (Or.inl ⟨by rfl, ?_⟩) hS ?_
    rotate_left
    focus ((intro w hSw; (try dsimp only at hSw); obtain ⟨d0, d1, d2, d3⟩ := hSw; go_simp); (try with_reducible rfl))
    (try simp only [Act.put, List.setIfInBounds_toArray, List.set_cons_zero, List.set_cons_succ])
    refine wpAnyZ_take (i := 1) (oi := { dst := some 60, op := _, type := _, pos := _, after := _, guard := _ }) (v := ?_) rfl (by kernel_rfl) (by kernel_rfl) (by kernel_rfl) (by kernel_rfl) (fun _ _ _ h => h) (Or.inl ⟨by rfl, ?_⟩) hS ?_
    rotate_left
    focus ((intro w hSw; (try dsimp only at hSw); obtain ⟨d0, d1, d2, d3⟩ := hSw; go_simp); (try with_reducible rfl))
    (try simp only [Act.put, List.setIfInBounds_toArray, List.set_cons_zero, List.set_cons_succ])
    refine wpAnyZ_take (i := 2) (oi := { dst := some 61, op := _, type := _, pos := _, after := _, guard := _ }) (v := ?_) rfl (by kernel_rfl) (by kernel_rfl) (by kernel_rfl) (by kernel_rfl) (fun _ _ _ h => h) (Or.inl ⟨by rfl, ?_⟩) hS ?_
    rotate_left
    focus ((intro w hSw; (try dsimp only at hSw); obtain ⟨d0, d1, d2, d3⟩ := hSw; go_simp); (try with_reducible rfl))
    (try simp only [Act.put, List.setIfInBounds_toArray, List.set_cons_zero, List.set_cons_succ])
    refine wpAnyZ_take (i := 3) (oi := { dst := some 62, op := _, type := _, pos := _, after := _, guard := _ }) (v := ?_) rfl (by kernel_rfl) (by kernel_rfl) (by kernel_rfl) (by kernel_rfl) (fun _ _ _ h => h) (Or.inl ⟨by rfl, ?_⟩) hS ?_
    rotate_left
    focus ((intro w hSw; (try dsimp only at hSw); obtain ⟨d0, d1, d2, d3⟩ := hSw; go_simp); (try with_reducible rfl))
    (try simp only [Act.put, List.setIfInBounds_toArray, List.set_cons_zero, List.set_cons_succ])
    refine wpAnyZ_take (i := 4) (oi := { dst := some 63, op := _, type := _, pos := _, after := _, guard := _ }) (v := ?_) rfl (by kernel_rfl) (by kernel_rfl) (by kernel_rfl) (by kernel_rfl) (fun _ _ _ h => h) (Or.inl ⟨by rfl, ?_⟩) hS ?_
    rotate_left
    focus ((intro w hSw; (try dsimp only at hSw); obtain ⟨d0, d1, d2, d3⟩ := hSw; go_simp); (try with_reducible rfl))
    (try simp only [Act.put, List.setIfInBounds_toArray, List.set_cons_zero, List.set_cons_succ])
    refine wpAnyZ_take (i := 5) (oi := { dst := some 64, op := _, type := _, pos := _, after := _, guard := _ }) (v := ?_) rfl (by kernel_rfl) (by kernel_rfl) (by kernel_rfl) (by kernel_rfl) (fun _ _ _ h => h) (Or.inl ⟨by rfl, ?_⟩) hS ?_
    rotate_left
    focus ((intro w hSw; (try dsimp only at hSw); obtain ⟨d0, d1, d2, d3⟩ := hSw; go_simp); (try with_reducible rfl))
    (try simp only [Act.put, List.setIfInBounds_toArray, List.set_cons_zero, List.set_cons_succ])
    refine wpAnyZ_take (i := 6) (oi := { dst := some 65, op := _, type := _, pos := _, after := _, guard := _ }) (v := ?_) rfl (by kernel_rfl) (by kernel_rfl) (by kernel_rfl) (by kernel_rfl) (fun _ _ _ h => h) (Or.inl ⟨by rfl, ?_⟩) hS ?_
    rotate_left
    focus ((intro w hSw; (try dsimp only at hSw); obtain ⟨d0, d1, d2, d3⟩ := hSw; go_simp); (try with_reducible rfl))
    (try simp only [Act.put, List.setIfInBounds_toArray, List.set_cons_zero, List.set_cons_succ])
    refine wpAnyZ_take (i := 7) (oi := { dst := some 66, op := _, type := _, pos := _, after := _, guard := _ }) (v := ?_) rfl (by kernel_rfl) (by kernel_rfl) (by kernel_rfl) (by kernel_rfl) (fun _ _ _ h => h) (Or.inl ⟨by rfl, ?_⟩) hS ?_
    rotate_left
    focus ((intro w hSw; (try dsimp only at hSw); obtain ⟨d0, d1, d2, d3⟩ := hSw; go_simp); (try with_reducible rfl))
    (try simp only [Act.put, List.setIfInBounds_toArray, List.set_cons_zero, List.set_cons_succ])
    refine wpAnyZ_take (i := 8) (oi := { dst := some 67, op := _, type := _, pos := _, after := _, guard := _ }) (v := ?_) rfl (by kernel_rfl) (by kernel_rfl) (by kernel_rfl) (by kernel_rfl) (fun _ _ _ h => h) (Or.inl ⟨by rfl, ?_⟩) hS ?_
    rotate_left
    focus ((intro w hSw; (try dsimp only at hSw); obtain ⟨d0, d1, d2, d3⟩ := hSw; go_simp); (try with_reducible rfl))
    (try simp only [Act.put, List.setIfInBounds_toArray, List.set_cons_zero, List.set_cons_succ])
    refine wpAnyZ_take (i := 9) (oi := { dst := some 68, op := _, type := _, pos := _, after := _, guard := _ }) (v := ?_) rfl (by kernel_rfl) (by kernel_rfl) (by kernel_rfl) (by kernel_rfl) (fun _ _ _ h => h) (Or.inl ⟨by rfl, ?_⟩) hS ?_
    rotate_left
    focus ((intro w hSw; (try dsimp only at hSw); obtain ⟨d0, d1, d2, d3⟩ := hSw; go_simp); (try with_reducible rfl))
    (try simp only [Act.put, List.setIfInBounds_toArray, List.set_cons_zero, List.set_cons_succ])
    refine wpAnyZ_take (i := 10) (oi := { dst := some 69, op := _, type := _, pos := _, after := _, guard := _ }) (v := ?_) rfl (by kernel_rfl) (by kernel_rfl) (by kernel_rfl) (by kernel_rfl) (fun _ _ _ h => h) (Or.inl ⟨by rfl, ?_⟩) hS ?_
    rotate_left
    focus ((intro w hSw; (try dsimp only at hSw); obtain ⟨d0, d1, d2, d3⟩ := hSw; go_simp); (try with_reducible rfl))
    (try simp only [Act.put, List.setIfInBounds_toArray, List.set_cons_zero, List.set_cons_succ])
    refine wpAnyZ_take (i := 11) (oi := { dst := some 70, op := _, type := _, pos := _, after := _, guard := _ }) (v := ?_) rfl (by kernel_rfl) (by kernel_rfl) (by kernel_rfl) (by kernel_rfl) (fun _ _ _ h => h) (Or.inl ⟨by rfl, ?_⟩) hS ?_
    rotate_left
    focus ((intro w hSw; (try dsimp only at hSw); obtain ⟨d0, d1, d2, d3⟩ := hSw; go_simp); (try with_reducible rfl))
    (try simp only [Act.put, List.setIfInBounds_toArray, List.set_cons_zero, List.set_cons_succ])
    refine wpAnyZ_take (i := 12) (oi := { dst := some 71, op := _, type := _, pos := _, after := _, guard := _ }) (v := ?_) rfl (by kernel_rfl) (by kernel_rfl) (by kernel_rfl) (by kernel_rfl) (fun _ _ _ h => h) (Or.inl ⟨by rfl, ?_⟩) hS ?_
    rotate_left
    focus ((intro w hSw; (try dsimp only at hSw); obtain ⟨d0, d1, d2, d3⟩ := hSw; go_simp); (try with_reducible rfl))
    (try simp only [Act.put, List.setIfInBounds_toArray, List.set_cons_zero, List.set_cons_succ])
    refine wpAnyZ_take (i := 13) (oi := { dst := some 72, op := _, type := _, pos := _, after := _, guard := _ }) (v := ?_) rfl (by kernel_rfl) (by kernel_rfl) (by kernel_rfl) (by kernel_rfl) (fun _ _ _ h => h) (Or.inl ⟨by rfl, ?_⟩) hS ?_
    rotate_left
    focus ((intro w hSw; (try dsimp only at hSw); obtain ⟨d0, d1, d2, d3⟩ := hSw; go_simp); (try with_reducible rfl))
    (try simp only [Act.put, List.setIfInBounds_toArray, List.set_cons_zero, List.set_cons_succ])
    refine wpAnyZ_all (rs := [14]) (by kernel_rfl) (by simp) (fun i hi => ?_)
    simp only [List.mem_cons, List.not_mem_nil, or_false] at hi
    subst hi
    refine stepZ (o := { dst := some 73, op := _, type := _, pos := _, after := _, guard := _ }) rfl (fun K hK => ?_)
    go_simp
    obtain ⟨gl, hgl⟩ : ∃ x, y0.heap.size = x := ⟨_, rfl⟩
    obtain ⟨wl, hwl⟩ : ∃ x, y0.alloc (.cells #[.int .i64 (s.2.1 + 1), .string name, .int .i64 typ] 59) = x := ⟨_, rfl⟩
    have ll : Later y0 wl := hwl ▸ Later.new _ _
    have hlit : Has wl (some ⟨gl, 0, none⟩) (fc [(s.2.1 + 1, name, typ)]) := hwl ▸ (Blk.new y0 (fc [(s.2.1 + 1, name, typ)]).toArray 59 gl hgl.symm).has
    try rw [hgl]
    rw [hwl]
    have HTL := Lib.hid (HTY.out.later ll)
    have HBL := Lib.hid (HBY.out.later ll)
    have HLL := Lib.hid (HLY.out.trans ll)
    replace hS : (fun W : World => W.cell? ⟨gt, 0, none⟩ = some (.slice (some ⟨gv, 0, none⟩) s.1.length vc) ∧ W.cell? ⟨gt, 1, none⟩ = some (.int .i64 (s.2.1 + 1)) ∧ W.cell? ⟨q, 2, none⟩ = some (.string name) ∧ W.cell? ⟨q, 3, none⟩ = some (.int .i64 typ)) wl := ⟨HTL.out.bs.cell 0 _ rfl, HTL.out.bs.cell 1 _ rfl, HBL.out.cell 2 _ rfl, HBL.out.cell 3 _ rfl⟩
    refine hK _ _ hS ?_
    clear hK hwl hgl ll
    (try simp only [Act.put, List.setIfInBounds_toArray, List.set_cons_zero, List.set_cons_succ])
    refine wpAnyZ_all (rs := [15]) (by kernel_rfl) (by simp) (fun i hi => ?_)
    simp only [List.mem_cons, List.not_mem_nil, or_false] at hi
    subst hi
    refine stepZ (o := { dst := some 74, op := _, type := _, pos := _, after := _, guard := _ }) rfl (fun K hK => ?_)
    refine step_append_x rfl (.tmp 63) (.tmp 73) 22 rfl W0.heap.size 59 _ 3 32 Tryd.underlying22 info_c rfl (by decide) (.slice (some ⟨gv, 0, none⟩) s.1.length vc) s.1.length (fc s.1) rfl HTL.out.ov gl 0 1 1 (fc [(s.2.1 + 1, name, typ)]) rfl hlit rfl (fc_one _) (by unfold maxLen; have := HS6.out; omega) (by have := HS6.out; omega) HLL.out.size ?_
    rintro A' c' wq ho hgr hbl _ _
    obtain ⟨gv', rfl⟩ := own_some ho (by omega)
    obtain ⟨cv, hcv⟩ := own_typ HTL.out.ov
    have n1 : gt ≠ gv := ne_typ HTL.out.bs hcv (by decide)
    have n2 : q ≠ gv := ne_typ HBL.out hcv (by decide)
    have hb1 : Blk wq gt #[.slice (some ⟨gv, 0, none⟩) s.1.length vc, .int .i64 (s.2.1 + 1)] 24 := (hgr.block gt HTL.out.bs.lt (fun e => by injection e with e; exact n1 e)).trans HTL.out.bs
    have hb2 : Blk wq q #[.int .i64 kind, .int .i64 col, .string name, .int .i64 typ, .int .i64 v0, .int .i64 v1, .string v2, .int .u8 sep, .int .i64 num] 31 := (hgr.block q HBL.out.lt (fun e => by injection e with e; exact n2 e)).trans HBL.out
    have hfc : fc s.1 ++ fc [(s.2.1 + 1, name, typ)] = fc (s.1 ++ [(s.2.1 + 1, name, typ)]) := (fc_append _ _).symm
    have hln : (s.1 ++ [(s.2.1 + 1, name, typ)]).length = s.1.length + 1 := by simp
    rw [hfc] at ho
    have HTC := Lib.hid (HTL.out.cols (gv' := gv') (vc' := c') (s.1 ++ [(s.2.1 + 1, name, typ)]) (by rw [hln]; exact ho) hgr hcv)
    rw [hln] at HTC
    have HLQ := Lib.hid (show Later W0 (wq.setCell ⟨gt, 0, none⟩ (.slice (some ⟨gv', 0, none⟩) (s.1.length + 1) c')) from lsetB gt 0 _ HTL.out.hb.1 (grow_later HLL.out hgr HTL.out.vlo))
    replace hS : (fun W : World => W.cell? ⟨gt, 0, none⟩ = some (.slice (some ⟨gv, 0, none⟩) s.1.length vc) ∧ W.cell? ⟨gt, 1, none⟩ = some (.int .i64 (s.2.1 + 1)) ∧ W.cell? ⟨q, 2, none⟩ = some (.string name) ∧ W.cell? ⟨q, 3, none⟩ = some (.int .i64 typ)) wq := ⟨hb1.cell 0 _ rfl, hb1.cell 1 _ rfl, hb2.cell 2 _ rfl, hb2.cell 3 _ rfl⟩
    have HFZ := Lib.hid (hb1.frozen 0)
    refine hK _ _ hS ?_
    clear hK ho hgr hbl hlit
    (try simp only [Act.put, List.setIfInBounds_toArray, List.set_cons_zero, List.set_cons_succ])
    refine wpAnyZ_all (rs := [16]) (by kernel_rfl) (by simp) (fun i hi => ?_)
    simp only [List.mem_cons, List.not_mem_nil, or_false] at hi
    subst hi
    refine stepZ (o := { dst := some 75, op := _, type := _, pos := _, after := _, guard := _ }) rfl (fun K hK => ?_)
    go_simp
    refine hK _ _ hS ?_
    clear hK 
    (try simp only [Act.put, List.setIfInBounds_toArray, List.set_cons_zero, List.set_cons_succ])
    refine wpAnyZ_take (i := 17) (oi := { dst := some 76, op := _, type := _, pos := _, after := _, guard := _ }) (v := ?_) rfl (by kernel_rfl) (by kernel_rfl) (by kernel_rfl) (by kernel_rfl) (fun _ _ _ h => h) (Or.inl ⟨by rfl, ?_⟩) hS ?_
    rotate_left
    focus ((intro w hSw; (try dsimp only at hSw); skip; go_simp); (try with_reducible rfl))
    (try simp only [Act.put, List.setIfInBounds_toArray, List.set_cons_zero, List.set_cons_succ])
    refine wpAnyZ_all (rs := [18]) (by kernel_rfl) (by simp) (fun i hi => ?_)
    simp only [List.mem_cons, List.not_mem_nil, or_false] at hi
    subst hi
    refine stepZl (o := { dst := none, op := _, type := _, pos := _, after := _, guard := _ }) rfl (fun K hK => ?_)
    have e0 := hS.1
    have f0 := HFZ.out
    go_simp
    refine hK _ _ ?_
    clear hK e0 f0
    (try simp only [Act.put])
    refine wpAnyZ_done (by kernel_rfl) ?_ _
    go_wp2_with fail
    go_meet
    exact ⟨gv', c', HTC.out, HLQ.out⟩
  case rest =>
  obtain ⟨gv', vc', hT, hL⟩ := hcut
  have HT7 := Lib.hid hT
  have HL7 := Lib.hid hL
  clear hT hL HT6 HL6 HB6
  have HLIT := Lib.hid (show Has (wc.alloc (.cells #[.int .i64 1] 3)) (some ⟨wc.heap.size, 0, none⟩) [.int .i64 1] from (Blk.new wc [.int .i64 1].toArray 3 _ rfl).has)
  have HTL := Lib.hid (HT7.out.later (Later.new wc (.cells #[.int .i64 1] 3)))
  have HLL := Lib.hid (HL7.out.trans (Later.new wc (.cells #[.int .i64 1] 3)))
  have m3 := HT7.out.bl.cell 3 _ rfl
  have m3' := HTL.out.bl.cell 3 _ rfl
  have hel : s.2.2.enc.length ≤ 6 := by have := HLEN.out; have := HN6.out; omega
  go_wp2_with (at_builtin; refine wpList_append_g _ rfl (.tmp 81) (.tmp 82) 25 rfl W0.heap.size 3 _ 1 8 Tryd.underlying25 info_e rfl (by decide) (.slice (some ⟨ge, 0, none⟩) s.2.2.enc.length ec) s.2.2.enc.length (ein s.2.2.enc) rfl HTL.out.oe (some ⟨wc.heap.size, 0, none⟩) 1 1 [.int .i64 1] rfl HLIT.out rfl (by intro h; cases h) (by simp [Value.oneCell']) (by unfold maxLen; omega) (by omega) HLL.out.size ?_; rintro A' c' wq ho hgr hbl _; obtain ⟨ge', rfl⟩ := own_some ho (by omega); obtain ⟨ce, hce⟩ := own_typ HTL.out.oe; have n1 : gm ≠ ge := ne_typ HTL.out.bl hce (by decide); have hb1 := (hgr.block gm HTL.out.bl.lt (fun e => by injection e with e; exact n1 e)).trans HTL.out.bl; have m4 := Blk.cell hb1 3 _ rfl; have f4 := Blk.frozen hb1 3; have hei : ein s.2.2.enc ++ [.int .i64 1] = ein (s.2.2.enc ++ [1]) := (by simp [ein]); have hln : (s.2.2.enc ++ [(1 : Int)]).length = s.2.2.enc.length + 1 := (by simp); rw [hei] at ho; have HTC := Lib.hid (HTL.out.encs (ge' := ge') (ec' := c') (s.2.2.enc ++ [1]) (by rw [hln]; exact ho) hgr hce); rw [hln] at HTC; have HLQ := Lib.hid (lsetB gm 3 (.slice (some ⟨ge', 0, none⟩) (s.2.2.enc.length + 1) c') HTL.out.hb.2 (grow_later HLL.out hgr HTL.out.elo)); clear ho hgr hbl hb1)
  go_ret
  exact RTurnP.yes HX.out HTC.out HLQ.out
end Go.Proofs.YtklohbglkbhjhaaDoor
