
import Derived.Test.YtklohbglkbhjhaaDoorRApA
import Derived.Test.YtklohbglkbhjhaaDoorSchC
import Derived.Test.YtklohbglkbhjhaaDoorRowsM
import Derived.Test.YtklohbglkbhjhaaDoorBase
import Derived.Test.YtklohbglkbhjhaaDoorChgE
import Derived.Test.YtklohbglkbhjhaaDoorSchA
import Derived.WalkKit
import Derived.Laws.OwnMore
import Derived.Laws.BytesArg
import Derived.Laws.Rows
import Derived.Deep.AppendLies
import Derived.Deep.Draws
import Derived.Test.YtklohbglkbhjhaaDoorChecked
import Derived.Deep.OwnRows
import Derived.Lib.Hide
import Derived.Deep.Quiet
import Derived.Laws.AppendOwnNone
import Derived.Lib.Strings
import Derived.Outline
import Derived.WalkLawsBesides
import Derived.WalkSpells
import Derived.PlainAid
import Derived.Deep.QuietTactic
import Derived.BigQuiet
import Derived.RegionTactic
import Derived.BigRegion
import Derived.Handy
import Derived.Laws.BitsAllLaws
import Derived.Deep.RegionWith
import Derived.Lib.AppendStr
import Derived.Deep.RegionLaw
import Derived.Maps.AppendAt
import Derived.OpenShut
import Derived.WideShapes
import Derived.ChangeArms
import Derived.Deep.Slices
import Derived.Sort.Grow
import Derived.Lib.SliceRun
import Derived.Shelf.Spec.SlicesInsert
import Derived.Lib.Overlaps
import Derived.Lib.AppendZerosOnto
import Derived.OrdersHeld
import Derived.LaidEql
import Derived.Stop.Asserts
import Derived.RowKitTokens
import Derived.Stop.IfaceNil
import Derived.Laws.BitsLemmas
import Derived.Laws.Bits64
import Derived.WalkSmall
import Derived.Lib.Bytealg
import Derived.Deep.SlicePairs
import Derived.Shelf.Abstract
import Derived.Lib.QuietBelow
import Derived.Deep.CutRange
import Derived.Deep.MidRow
/- The document's Fits of a row. (tools/gen_reffr.py) -/



namespace Go.Proofs.YtklohbglkbhjhaaDoor
open Go.RowKit
set_option linter.unusedVariables false

set_option maxRecDepth 100000 in
set_option maxHeartbeats 8000000 in
theorem refFitsR_any (V R : Option Addr) (vn vc rn rc : Nat) (last : Int) (xs : List Col3) (r : List Val3) (w : World) (hvn : vn = xs.length) (hrn : rn = r.length) (hl : vn ≤ 1000) (hl2 : rn ≤ 1000) (hV : Has w V (fc xs)) (hR : Has w R (fl r)) :
    Calls Tryd.prog 27 #[.agg #[.slice V vn vc, .int .i64 last], .slice R rn rc] w (TellsP (FitsL xs r) w) := by
  obtain ⟨q, hq⟩ : ∃ x, w.heap.size = x := ⟨_, rfl⟩
  obtain ⟨w1, hw1⟩ : ∃ x : World, w.alloc (.cells #[.slice V vn vc, .int .i64 last] 24) = x := ⟨_, rfl⟩
  have l1 : Later w w1 := hw1 ▸ Later.new w _
  have HB := Lib.hid (show Blk w1 q #[.slice V vn vc, .int .i64 last] 24 from hw1 ▸ Blk.new w _ _ _ hq.symm)
  have HL := Lib.hid l1
  have HV := Lib.hid (hV.later l1)
  have HR := Lib.hid (hR.later l1)
  have HVN := Lib.hid hvn
  have HRN := Lib.hid hrn
  have HW := Lib.hid hw1
  have HQ := Lib.hid hq
  have e0 := HB.out.cell 0 _ rfl
  clear l1 hV hR hvn hrn hw1 hq
  by_cases hne : rn = vn
  rotate_left
  · have hnn : ((rn : Int) != (vn : Int)) = true := by simp; omega
    have HX := Lib.hid (show ¬ FitsL xs r from fun h => hne (by rw [HRN.out, HVN.out]; exact h.1))
    go_enter Tryd.func27, Tryd.ntmps27
    go_wp2_with fail
    rw [HW.out]
    try simp only [HQ.out]
    go_wp2_with fail
    go_ret
    exact TellsP.f HX.out HL.out
  have hnn : ((rn : Int) != (vn : Int)) = false := by simp [hne]
  have HNE := Lib.hid hne
  clear hne
  go_enter Tryd.func27, Tryd.ntmps27
  go_wp2_with fail
  rw [HW.out]
  try simp only [HQ.out]
  clear HW HQ
  go_wp2_with fail
  clear e0 hnn
  go_loopw [5] (fun i wr => ∃ k : Nat, k ≤ rn ∧ i = .int .i64 k ∧ (∀ j (h : j < xs.length) (h' : j < r.length), j < k → FitsV xs[j].2.2 r[j]) ∧ Later w1 wr) (fun i _ => rn - (intOf i).toNat)
  case atStart => exact ⟨0, Nat.zero_le _, rfl, fun j h h' hj => absurd hj (Nat.not_lt_zero _), Later.refl _⟩
  case round =>
    obtain ⟨k, hk, rfl, hall, lat⟩ := hrel
    have HALL := Lib.hid hall
    have HLT := Lib.hid lat
    clear hall lat
    by_cases hlt : k < rn
    · have hkx : k < xs.length := by have := HVN.out; have := HNE.out; omega
      have hkr : k < r.length := by have := HRN.out; omega
      obtain ⟨vb, vo, rfl, c0, c1, c2⟩ := (HV.out.later HLT.out).col3 k hkx
      obtain ⟨b, off, rfl, u0, u1, u2⟩ := (HR.out.later HLT.out).val3 k hkr
      have HST := Lib.hid (fun (h : FitsV xs[k].2.2 r[k]) => show ∀ j (h : j < xs.length) (h' : j < r.length), j < k + 1 → FitsV xs[j].2.2 r[j] from fun j h1 h2 hj => by
        rcases Nat.lt_or_ge j k with h3 | h3
        · exact HALL.out j h1 h2 h3
        · obtain rfl : j = k := by omega
          exact h)
      have HNO := Lib.hid (fun (h : ¬ FitsV xs[k].2.2 r[k]) => show ¬ FitsL xs r from fun hf => h (hf.2 k hkx hkr))
      generalize xs[k].2.2 = ty at c2 HST HNO
      generalize r[k] = x at u0 u1 u2 HST HNO
      obtain ⟨x0, x1, x2⟩ := x
      dsimp only at u0 u1 u2
      have HC2 := Lib.hid (show CellIs wr ⟨vb, vo + k * 3 + 2, none⟩ (.int .i64 ty) from c2)
      have HU0 := Lib.hid (show CellIs wr ⟨b, off + k * 3, none⟩ (.int .i64 x0) from u0)
      have HU1 := Lib.hid (show CellIs wr ⟨b, off + k * 3 + 1, none⟩ (.int .i64 x1) from u1)
      have HU2 := Lib.hid (show CellIs wr ⟨b, off + k * 3 + 2, none⟩ (.string x2) from u2)
      have hkr2 : (k : Int) < (rn : Int) := by omega
      have HKV := Lib.hid (show (k : Int) < (vn : Int) from by have := HNE.out; omega)
      clear c0 c1 c2 u0 u1 u2 hkx hkr
      go_upto_region 6 with fail
      go_cut [29] from 18 to 28 (fun bv wx => ∃ bb : Bool, (bb = true ↔ ¬ FitsV ty (x0, x1, x2)) ∧ bv = .bool bb ∧ Later wr wx)
      case first => as_aux_lemma =>
        refine wp_region_K (S := (fun W : World => Later wr W)) (R := fun a b => a = b) (fun _ => rfl) (by kernel_rfl) ?_
        obtain ⟨y0, hy0⟩ : ∃ x, (wr).drew = x := ⟨_, rfl⟩
        have ly0 : Later wr y0 := hy0 ▸ (Later.refl wr).drew
        have hS : (fun W : World => Later wr W) y0 := ly0
        
        rw [hy0]
        clear hy0
        refine wpAnyK_take (fun _ => rfl) (fun _ _ _ h k => h.trans k) (fun _ _ h k => k ▸ h) (i := 0) (oi := { dst := some 18, op := _, type := _, pos := _, after := _, guard := _ }) (v := ?_) rfl (by kernel_rfl) (by kernel_rfl) (by kernel_rfl) (fun _ _ _ h => h) (Or.inl (Or.inl ⟨by rfl, ?_⟩)) hS ?_
        rotate_left
        focus ((intro w hSw; (try dsimp only at hSw); have e0 := (HB.out.later (HLT.out.trans hSw)).cell 0 _ rfl; have c2 := (HC2.out.later hSw).out; have u0 := (HU0.out.later hSw).out; have u1 := (HU1.out.later hSw).out; have u2 := (HU2.out.later hSw).out; have hkv := HKV.out; go_simp); (try with_reducible rfl))
        intro wq hwq
        subst hwq
        (try simp only [Act.put, List.setIfInBounds_toArray, List.set_cons_zero, List.set_cons_succ])
        refine wpAnyK_take (fun _ => rfl) (fun _ _ _ h k => h.trans k) (fun _ _ h k => k ▸ h) (i := 1) (oi := { dst := some 19, op := _, type := _, pos := _, after := _, guard := _ }) (v := ?_) rfl (by kernel_rfl) (by kernel_rfl) (by kernel_rfl) (fun _ _ _ h => h) (Or.inl (Or.inl ⟨by rfl, ?_⟩)) hS ?_
        rotate_left
        focus ((intro w hSw; (try dsimp only at hSw); have e0 := (HB.out.later (HLT.out.trans hSw)).cell 0 _ rfl; have c2 := (HC2.out.later hSw).out; have u0 := (HU0.out.later hSw).out; have u1 := (HU1.out.later hSw).out; have u2 := (HU2.out.later hSw).out; have hkv := HKV.out; go_simp); (try with_reducible rfl))
        intro wq hwq
        subst hwq
        (try simp only [Act.put, List.setIfInBounds_toArray, List.set_cons_zero, List.set_cons_succ])
        refine wpAnyK_take (fun _ => rfl) (fun _ _ _ h k => h.trans k) (fun _ _ h k => k ▸ h) (i := 2) (oi := { dst := some 20, op := _, type := _, pos := _, after := _, guard := _ }) (v := ?_) rfl (by kernel_rfl) (by kernel_rfl) (by kernel_rfl) (fun _ _ _ h => h) (Or.inl (Or.inl ⟨by rfl, ?_⟩)) hS ?_
        rotate_left
        focus ((intro w hSw; (try dsimp only at hSw); have e0 := (HB.out.later (HLT.out.trans hSw)).cell 0 _ rfl; have c2 := (HC2.out.later hSw).out; have u0 := (HU0.out.later hSw).out; have u1 := (HU1.out.later hSw).out; have u2 := (HU2.out.later hSw).out; have hkv := HKV.out; go_simp); (try with_reducible rfl))
        intro wq hwq
        subst hwq
        (try simp only [Act.put, List.setIfInBounds_toArray, List.set_cons_zero, List.set_cons_succ])
        refine wpAnyK_take (fun _ => rfl) (fun _ _ _ h k => h.trans k) (fun _ _ h k => k ▸ h) (i := 3) (oi := { dst := some 21, op := _, type := _, pos := _, after := _, guard := _ }) (v := ?_) rfl (by kernel_rfl) (by kernel_rfl) (by kernel_rfl) (fun _ _ _ h => h) (Or.inl (Or.inl ⟨by rfl, ?_⟩)) hS ?_
        rotate_left
        focus ((intro w hSw; (try dsimp only at hSw); have e0 := (HB.out.later (HLT.out.trans hSw)).cell 0 _ rfl; have c2 := (HC2.out.later hSw).out; have u0 := (HU0.out.later hSw).out; have u1 := (HU1.out.later hSw).out; have u2 := (HU2.out.later hSw).out; have hkv := HKV.out; go_simp); (try with_reducible rfl))
        intro wq hwq
        subst hwq
        (try simp only [Act.put, List.setIfInBounds_toArray, List.set_cons_zero, List.set_cons_succ])
        refine wpAnyK_take (fun _ => rfl) (fun _ _ _ h k => h.trans k) (fun _ _ h k => k ▸ h) (i := 4) (oi := { dst := some 22, op := _, type := _, pos := _, after := _, guard := _ }) (v := ?_) rfl (by kernel_rfl) (by kernel_rfl) (by kernel_rfl) (fun _ _ _ h => h) (Or.inl (Or.inl ⟨by rfl, ?_⟩)) hS ?_
        rotate_left
        focus ((intro w hSw; (try dsimp only at hSw); have e0 := (HB.out.later (HLT.out.trans hSw)).cell 0 _ rfl; have c2 := (HC2.out.later hSw).out; have u0 := (HU0.out.later hSw).out; have u1 := (HU1.out.later hSw).out; have u2 := (HU2.out.later hSw).out; have hkv := HKV.out; go_simp); (try with_reducible rfl))
        intro wq hwq
        subst hwq
        (try simp only [Act.put, List.setIfInBounds_toArray, List.set_cons_zero, List.set_cons_succ])
        refine wpAnyK_take (fun _ => rfl) (fun _ _ _ h k => h.trans k) (fun _ _ h k => k ▸ h) (i := 5) (oi := { dst := some 23, op := _, type := _, pos := _, after := _, guard := _ }) (v := ?_) rfl (by kernel_rfl) (by kernel_rfl) (by kernel_rfl) (fun _ _ _ h => h) (Or.inl (Or.inl ⟨by rfl, ?_⟩)) hS ?_
        rotate_left
        focus ((intro w hSw; (try dsimp only at hSw); have e0 := (HB.out.later (HLT.out.trans hSw)).cell 0 _ rfl; have c2 := (HC2.out.later hSw).out; have u0 := (HU0.out.later hSw).out; have u1 := (HU1.out.later hSw).out; have u2 := (HU2.out.later hSw).out; have hkv := HKV.out; go_simp); (try with_reducible rfl))
        intro wq hwq
        subst hwq
        (try simp only [Act.put, List.setIfInBounds_toArray, List.set_cons_zero, List.set_cons_succ])
        refine wpAnyK_take (fun _ => rfl) (fun _ _ _ h k => h.trans k) (fun _ _ h k => k ▸ h) (i := 6) (oi := { dst := some 24, op := _, type := _, pos := _, after := _, guard := _ }) (v := ?_) rfl (by kernel_rfl) (by kernel_rfl) (by kernel_rfl) (fun _ _ _ h => h) (Or.inl (Or.inl ⟨by rfl, ?_⟩)) hS ?_
        rotate_left
        focus ((intro w hSw; (try dsimp only at hSw); have e0 := (HB.out.later (HLT.out.trans hSw)).cell 0 _ rfl; have c2 := (HC2.out.later hSw).out; have u0 := (HU0.out.later hSw).out; have u1 := (HU1.out.later hSw).out; have u2 := (HU2.out.later hSw).out; have hkv := HKV.out; go_simp); (try with_reducible rfl))
        intro wq hwq
        subst hwq
        (try simp only [Act.put, List.setIfInBounds_toArray, List.set_cons_zero, List.set_cons_succ])
        refine wpAnyK_take (fun _ => rfl) (fun _ _ _ h k => h.trans k) (fun _ _ h k => k ▸ h) (i := 7) (oi := { dst := some 25, op := _, type := _, pos := _, after := _, guard := _ }) (v := ?_) rfl (by kernel_rfl) (by kernel_rfl) (by kernel_rfl) (fun _ _ _ h => h) (Or.inl (Or.inl ⟨by rfl, ?_⟩)) hS ?_
        rotate_left
        focus ((intro w hSw; (try dsimp only at hSw); have e0 := (HB.out.later (HLT.out.trans hSw)).cell 0 _ rfl; have c2 := (HC2.out.later hSw).out; have u0 := (HU0.out.later hSw).out; have u1 := (HU1.out.later hSw).out; have u2 := (HU2.out.later hSw).out; have hkv := HKV.out; go_simp); (try with_reducible rfl))
        intro wq hwq
        subst hwq
        (try simp only [Act.put, List.setIfInBounds_toArray, List.set_cons_zero, List.set_cons_succ])
        refine wpAnyK_take (fun _ => rfl) (fun _ _ _ h k => h.trans k) (fun _ _ h k => k ▸ h) (i := 8) (oi := { dst := some 26, op := _, type := _, pos := _, after := _, guard := _ }) (v := ?_) rfl (by kernel_rfl) (by kernel_rfl) (by kernel_rfl) (fun _ _ _ h => h) (Or.inl (Or.inl ⟨by rfl, ?_⟩)) hS ?_
        rotate_left
        focus ((intro w hSw; (try dsimp only at hSw); have e0 := (HB.out.later (HLT.out.trans hSw)).cell 0 _ rfl; have c2 := (HC2.out.later hSw).out; have u0 := (HU0.out.later hSw).out; have u1 := (HU1.out.later hSw).out; have u2 := (HU2.out.later hSw).out; have hkv := HKV.out; go_simp); (try with_reducible rfl))
        intro wq hwq
        subst hwq
        (try simp only [Act.put, List.setIfInBounds_toArray, List.set_cons_zero, List.set_cons_succ])
        refine wpAnyK_take (fun _ => rfl) (fun _ _ _ h k => h.trans k) (fun _ _ h k => k ▸ h) (i := 9) (oi := { dst := some 27, op := _, type := _, pos := _, after := _, guard := _ }) (v := ?_) rfl (by kernel_rfl) (by kernel_rfl) (by kernel_rfl) (fun _ _ _ h => h) (Or.inl (Or.inl ⟨by rfl, ?_⟩)) hS ?_
        rotate_left
        focus ((intro w hSw; (try dsimp only at hSw); have e0 := (HB.out.later (HLT.out.trans hSw)).cell 0 _ rfl; have c2 := (HC2.out.later hSw).out; have u0 := (HU0.out.later hSw).out; have u1 := (HU1.out.later hSw).out; have u2 := (HU2.out.later hSw).out; have hkv := HKV.out; go_simp); (try with_reducible rfl))
        intro wq hwq
        subst hwq
        (try simp only [Act.put, List.setIfInBounds_toArray, List.set_cons_zero, List.set_cons_succ])
        refine wpAnyK_all (rs := [10]) (by kernel_rfl) (by simp) (fun i hi => ?_)
        simp only [List.mem_cons, List.not_mem_nil, or_false] at hi
        subst hi
        refine stepK (o := { dst := some 28, op := _, type := _, pos := _, after := _, guard := _ }) rfl (fun K hK => ?_)
        go_simp
        refine (refFits_c ty x0 x1 x2 y0).mono ?_
        rintro e y1 ⟨bb, hbb, rfl, hl2⟩
        replace hS : (fun W : World => Later wr W) y1 := Later.trans hS hl2
        refine hK _ _ hS fun wq hwq => ?_
        subst hwq
        clear hK hl2
        (try simp only [Act.put, List.setIfInBounds_toArray, List.set_cons_zero, List.set_cons_succ])
        refine wpAnyK_take (fun _ => rfl) (fun _ _ _ h k => h.trans k) (fun _ _ h k => k ▸ h) (i := 11) (oi := { dst := some 29, op := _, type := _, pos := _, after := _, guard := _ }) (v := ?_) rfl (by kernel_rfl) (by kernel_rfl) (by kernel_rfl) (fun _ _ _ h => h) (Or.inl (Or.inl ⟨by rfl, ?_⟩)) hS ?_
        rotate_left
        focus ((intro w hSw; (try dsimp only at hSw); skip; go_simp); (try with_reducible rfl))
        intro wq hwq
        subst hwq
        (try simp only [Act.put, List.setIfInBounds_toArray, List.set_cons_zero, List.set_cons_succ])
        refine wpAnyK_done (by kernel_rfl) ?_ _
        go_wp2_with fail
        go_meet
        exact ⟨!bb, by cases bb <;> simp_all, rfl, hS⟩
      case rest =>
      obtain ⟨bb, hbb, rfl, lx⟩ := hcut
      have HLX := Lib.hid (HLT.out.trans lx)
      clear lx
      rcases bb with _ | _
      · have HX := Lib.hid (HST.out (Classical.byContradiction fun h => by have := hbb.2 h; cases this))
        go_wp2_with fail
        go_roundw
        case rel => exact ⟨k + 1, hlt, by go_num, HX.out, HLX.out⟩
        case measure => simp [intOf]; omega
      · have HX := Lib.hid (HNO.out (hbb.1 rfl))
        go_wp2_with fail
        go_ret
        exact TellsP.f HX.out (HL.out.trans HLX.out)
    · have hkr2 : ¬ (k : Int) < (rn : Int) := by omega
      have HX := Lib.hid (show FitsL xs r from ⟨by rw [← HRN.out, HNE.out, HVN.out], fun j h h' => HALL.out j h h' (by have := HRN.out; omega)⟩)
      go_wp2_with fail
      go_ret
      exact TellsP.t HX.out (HL.out.trans HLT.out)
end Go.Proofs.YtklohbglkbhjhaaDoor
