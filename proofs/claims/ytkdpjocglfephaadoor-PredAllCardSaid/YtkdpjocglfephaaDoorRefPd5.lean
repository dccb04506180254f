
import Derived.Test.YtkdpjocglfephaaDoorPredAM
import Derived.Test.YtkdpjocglfephaaDoorBase
import Derived.Test.YtkdpjocglfephaaDoorZoneM
import Derived.Test.YtkdpjocglfephaaDoorBatR
import Derived.Test.YtkdpjocglfephaaDoorPredB
import Derived.WalkKit
import Derived.LaidEql
import Derived.Stop.Asserts
import Derived.Stop.IfaceNil
import Derived.RowKitTokens
import Derived.Laws.OwnMore
import Derived.Laws.BytesArg
import Derived.Laws.Rows
import Derived.Deep.AppendLies
import Derived.Deep.Draws
import Derived.Test.YtkdpjocglfephaaDoorChecked
import Derived.Deep.OwnRows
import Derived.Lib.Hide
import Derived.Deep.Quiet
import Derived.Laws.AppendOwnNone
import Derived.Lib.Strings
import Derived.Outline
import Derived.WalkLawsBesides
import Derived.WalkSpells
import Derived.PlainAid
import Derived.Deep.QuietTactic
import Derived.BigQuiet
import Derived.RegionTactic
import Derived.BigRegion
import Derived.Handy
import Derived.Laws.BitsAllLaws
import Derived.Deep.RegionWith
import Derived.Lib.AppendStr
import Derived.Deep.RegionLaw
import Derived.Maps.AppendAt
import Derived.OpenShut
import Derived.WideShapes
import Derived.ChangeArms
import Derived.Deep.Slices
import Derived.Sort.Grow
import Derived.OrdersHeld
import Derived.Laws.BitsLemmas
import Derived.Laws.Bits64
import Derived.WalkSmall
import Derived.Lib.Bytealg
import Derived.Deep.SlicePairs
import Derived.Deep.RegionHeld3
import Derived.Test.YtkdpjocglfephaaDoorShelf
import Derived.Deep.CutBlock
import Derived.Deep.CutRange
import Derived.Shelf.Abstract
/- The document's CheckTests. (tools/gen_refpd3.py) -/

namespace Go.Proofs.YtkdpjocglfephaaDoor
open Go.RowKit
set_option linter.unusedVariables false

/-- Where the first loop stands. -/
def CkT (P : Tst → Prop) (l : List Tst) (w : World) (iv : Value) (wr : World) : Prop :=
  ∃ k : Nat, iv = .int .i64 k ∧ k ≤ l.length ∧ (∀ j (h : j < l.length), j < k → P l[j]) ∧ Later w wr
theorem CkT.mk {P : Tst → Prop} {l : List Tst} {w wr : World} (y : Int) (k : Nat) (hy : y = (k : Int)) (hk : k ≤ l.length) (h : ∀ j (h : j < l.length), j < k → P l[j]) (L : Later w wr) : CkT P l w (.int .i64 y) wr := by
  subst hy; exact ⟨k, rfl, hk, h, L⟩
/-- Where the second loop stands. -/
def C2I (cols : List Col3) (l : List Tst) (res : Int) (w : World) (iv : Value) (wr : World) : Prop :=
  ∃ k : Nat, iv = .int .i64 k ∧ k ≤ l.length ∧ check2 cols (l.drop k) = res ∧ Later w wr
theorem C2I.mk {cols : List Col3} {l : List Tst} {res : Int} {w wr : World} (y : Int) (k : Nat) (hy : y = (k : Int)) (hk : k ≤ l.length) (h : check2 cols (l.drop k) = res) (L : Later w wr) : C2I cols l res w (.int .i64 y) wr := by
  subst hy; exact ⟨k, rfl, hk, h, L⟩
theorem checkT_no {cols : List Col3} {l : List Tst} {k : Nat} (hk : k < l.length) (h : ¬ OkT l[k]) : checkT cols l = 1 := by
  unfold checkT
  split
  · rfl
  · rw [if_neg]
    intro ha
    rw [List.all_eq_true] at ha
    exact h (of_decide_eq_true (ha _ (List.getElem_mem hk)))
theorem checkT_all {cols : List Col3} {l : List Tst} (h8 : ¬ 8 < l.length) (h : ∀ j (h : j < l.length), OkT l[j]) : checkT cols l = check2 cols l := by
  unfold checkT
  rw [if_neg h8, if_pos]
  rw [List.all_eq_true]
  intro t ht
  obtain ⟨j, hj, rfl⟩ := List.mem_iff_getElem.1 ht
  exact decide_eq_true (h j hj)
theorem meetsT_eq (ty : Int) (t : Tst) (h : 1 ≤ t.op ∧ t.op ≤ 8) : (!meetsT ty t) = (!decide (t.v.1 = 0) && decide (t.op < 7) && (decide (t.v.1 = 4) != decide (ty = 4))) := by
  unfold meetsT
  have e : decide (t.op < 7) = (!decide (t.op = 7) && !decide (t.op = 8)) := by
    rw [Bool.eq_iff_iff]; simp; omega
  rw [e]
  cases decide (t.op = 7) <;> cases decide (t.op = 8) <;> cases decide (t.v.1 = 0) <;> cases decide (t.v.1 = 4) <;> cases decide (ty = 4) <;> rfl

set_option maxRecDepth 100000 in
set_option maxHeartbeats 4000000 in
theorem refCheckTests_any (A : Option Addr) (n c : Nat) (last : Int) (cols : List Col3) (T : Option Addr) (tn tc : Nat) (l : List Tst) (w : World) (hn : n = cols.length) (hl : n ≤ 100000) (hr : Has w A (fc cols)) (htn : tn = l.length) (htl : tn ≤ 100000) (hT : Has w T (ft l)) :
    Calls Tryd.prog 12 #[.agg #[.slice A n c, .int .i64 last], .slice T tn tc] w fun e w' => e = .returned (.int .i64 (checkT cols l)) ∧ Later w w' := by
  subst htn
  obtain ⟨gz, hgz⟩ : ∃ g, w.heap.size = g := ⟨_, rfl⟩
  obtain ⟨w1, hw1⟩ : ∃ x : World, w.alloc (.cells #[.slice A n c, .int .i64 last] 33) = x := ⟨_, rfl⟩
  have BS := Blk.new w #[.slice A n c, .int .i64 last] 33 gz hgz.symm
  have L1 := Later.new w (.cells #[.slice A n c, .int .i64 last] 33)
  rw [hw1] at BS L1
  obtain ⟨res, hres⟩ : ∃ r, checkT cols l = r := ⟨_, rfl⟩
  have HRES := Lib.hid hres
  have HI0 := Lib.hid (CkT.mk (P := OkT) (l := l) (w := w1) (wr := w1) 0 0 rfl (Nat.zero_le _) (fun j _ h => absurd h (Nat.not_lt_zero _)) (Later.refl _))
  rw [hres]
  have HN := Lib.hid hn
  have HBS := Lib.hid BS
  have HL1 := Lib.hid L1
  have HR := Lib.hid (hr.later L1)
  have HT := Lib.hid (hT.later L1)
  have HG := Lib.hid hgz
  have HW := Lib.hid hw1
  clear BS L1 hn hr hT hgz hres hw1
  go_enter Tryd.func12, Tryd.ntmps12
  by_cases h8 : 8 < l.length
  · have HX := Lib.hid (show res = 1 from by rw [← HRES.out]; unfold checkT; rw [if_pos h8])
    have hd : decide ((8 : Int) < (l.length : Int)) = true := by simp; omega
    have hw1 := HW.out
    clear h8
    go_wp2_with fail
    go_ret
    rw [HX.out]
    exact ⟨rfl, HL1.out⟩
  have hd : decide ((8 : Int) < (l.length : Int)) = false := by simp; omega
  have hw1 := HW.out
  go_wp2_with fail
  clear hw1 hd
  try rw [HG.out]
  go_loopw [5] (fun iv wr => CkT OkT l w1 iv wr) (fun i _ => l.length - (intOf i).toNat)
  case atStart => exact HI0.out
  case round =>
    obtain ⟨k, rfl, hk, hall, lat⟩ := hrel
    have HLW := Lib.hid lat
    have HALL := Lib.hid hall
    clear HI0 hall
    by_cases hlt : k < l.length
    · obtain ⟨tb, toff, hTA, hta⟩ := (HT.out.later lat).tst k hlt
      subst hTA
      have HNO := Lib.hid (fun (h : ¬ OkT l[k]) => show res = 1 from by rw [← HRES.out]; exact checkT_no hlt h)
      have HYE := Lib.hid (fun (h : OkT l[k]) => show ∀ j (h : j < l.length), j < k + 1 → OkT l[j] from fun j h1 h2 => by
        rcases Nat.lt_or_ge j k with h3 | h3
        · exact HALL.out j h1 h3
        · obtain rfl : j = k := by omega
          exact h)
      generalize l[k] = t at hta HNO HYE
      obtain ⟨nm, op, ⟨vt, vi, vs⟩, o, nt⟩ := t
      obtain ⟨e0, e1, e2, e3, e4, e5, e6⟩ := hta
      dsimp only at e1 e2 e3 e4
      have e1 := e1.out
      have e2 := e2.out
      have e3 := e3.out
      have e4 := e4.out
      have hkz : (k : Int) < (l.length : Int) := by omega
      clear e0 e5 e6 lat
      by_cases h1 : op < 1
      · have hd : decide (op < 1) = true := by simpa using h1
        have HX := Lib.hid (HNO.out (fun h => by have := h.1.1; dsimp only at this; omega))
        have HLZ := Lib.hid (HL1.out.trans HLW.out)
        clear h1
        go_wp2_with fail
        go_ret
        rw [HX.out]
        exact ⟨rfl, HLZ.out⟩
      · have hd : decide (op < 1) = false := by simpa using h1
        by_cases h2 : 8 < op
        · have hd2 : decide (8 < op) = true := by simpa using h2
          have HX := Lib.hid (HNO.out (fun h => by have := h.1.2; dsimp only at this; omega))
          have HLZ := Lib.hid (HL1.out.trans HLW.out)
          clear h1 h2
          go_wp2_with fail
          go_ret
          rw [HX.out]
          exact ⟨rfl, HLZ.out⟩
        · have hd2 : decide (8 < op) = false := by simpa using h2
          have HOP := Lib.hid (show 1 ≤ op ∧ op ≤ 8 from ⟨by omega, by omega⟩)
          have HMY := Lib.hid (V1.refMay_any vt vi vs wr)
          clear h1 h2
          go_wp2_with fail
          refine HMY.out.mono ?_
          rintro e w2 ⟨r, hr, rfl, l2⟩
          have HLX := Lib.hid (HLW.out.trans (Later.of l2))
          have HMR := Lib.hid hr
          clear l2 hr HMY e1 e2 e3 e4
          cases r with
          | true =>
            have HY := Lib.hid (HYE.out ⟨HOP.out, HMR.out.1 rfl⟩)
            go_wp2_with fail
            go_roundw
            case rel => exact CkT.mk _ (k + 1) (by omega) hlt HY.out HLX.out
            case measure => simp [intOf]; omega
          | false =>
            have HX := Lib.hid (HNO.out (fun h => by have := HMR.out.2 h.2; cases this))
            have HLZ := Lib.hid (HL1.out.trans HLX.out)
            go_wp2_with fail
            go_ret
            rw [HX.out]
            exact ⟨rfl, HLZ.out⟩
    · have HOK := Lib.hid (show ∀ j (h : j < l.length), OkT l[j] from fun j hj => HALL.out j hj (by omega))
      have HJ0 := Lib.hid (C2I.mk (cols := cols) (l := l) (res := res) (w := w1) (wr := wr) 0 0 rfl (Nat.zero_le _) (by rw [List.drop_zero, ← HRES.out, checkT_all h8 HOK.out]) lat)
      clear lat HALL HLW
      go_wp2_with fail
      go_loopw [6] (fun iv wr => C2I cols l res w1 iv wr) (fun i _ => l.length - (intOf i).toNat)
      case atStart => exact HJ0.out
      case round =>
        obtain ⟨k, rfl, hk, hst, lat⟩ := hrel
        have HLW := Lib.hid lat
        clear HJ0
        by_cases hlt : k < l.length
        · obtain ⟨tb, toff, hTA, hta⟩ := (HT.out.later lat).tst k hlt
          subst hTA
          have hop := (HOK.out k hlt).1
          rw [List.drop_eq_getElem_cons hlt] at hst
          have HFX := Lib.hid (fun (W : World) (lW : Later wr W) => show Calls Tryd.prog 30 #[.agg #[.slice A n c, .int .i64 last], .string l[k].nm] W (FoundP (findC cols l[k].nm) W) from refFindP_any A n c last cols l[k].nm W HN.out hl (HR.out.later (lat.trans lW)))
          generalize l[k] = t at hta hop hst HFX
          obtain ⟨nm, op, ⟨vt, vi, vs⟩, o, nt⟩ := t
          unfold check2 at hst
          dsimp only at hop hst HFX
          obtain ⟨fo, hfo⟩ : ∃ x, findC cols nm = x := ⟨_, rfl⟩
          rw [hfo] at hst HFX
          obtain ⟨fk, hfk⟩ : ∃ x, fo.getD 0 = x := ⟨_, rfl⟩
          obtain ⟨fb, hfb⟩ : ∃ x, fo.isSome = x := ⟨_, rfl⟩
          unfold FoundP at HFX
          rw [hfk, hfb] at HFX
          have HE := Lib.hid hta
          have HOP := Lib.hid hop
          have HST := Lib.hid hst
          have HFO := Lib.hid hfo
          have HFK := Lib.hid hfk
          have HFBB := Lib.hid hfb
          clear hta hop hst lat hfo hfk hfb
          obtain ⟨W9, hW9⟩ : ∃ x, x = wr := ⟨_, rfl⟩
          subst hW9
          have HFD := Lib.hid (fun W (h : Later W9 W) => HFX.out W h)
          have hkz : (k : Int) < (l.length : Int) := by omega
          go_upto_region 11 with fail
          go_cut [7, 8] from 47 to 56 (fun u1 u2 wx => u1 = .int .i64 (fk : Int) ∧ u2 = .bool fb ∧ Later W9 wx)
          case first => as_aux_lemma =>
            refine wp_region_K (S := fun W : World => Later W9 W) (R := Later) (fun _ => Later.refl _) (by kernel_rfl) ?_
            have hS : (fun W : World => Later W9 W) W9.drew := (Later.refl W9).drew
            refine wpAnyK_take Later.refl (fun _ _ _ h k => h.trans k) (fun _ _ h k => h.trans k) (i := 0) (oi := { dst := some 48, op := _, type := _, pos := _, after := _, guard := _ }) (v := ?_) rfl (by kernel_rfl) (by kernel_rfl) (by kernel_rfl) (fun _ _ _ h => h) (Or.inl (Or.inl ⟨by rfl, ?_⟩)) hS ?_
            rotate_left
            focus ((intro w hSw; (try dsimp only at hSw); have s0 := (HBS.out.later (HLW.out.trans hSw)).cell 0 _ rfl; have s1 := (HBS.out.later (HLW.out.trans hSw)).cell 1 _ rfl; go_simp); (try with_reducible rfl))
            intro wq hwq
            replace hS := hS.trans hwq
            (try simp only [Act.put, List.setIfInBounds_toArray, List.set_cons_zero, List.set_cons_succ])
            clear hwq
            refine wpAnyK_take Later.refl (fun _ _ _ h k => h.trans k) (fun _ _ h k => h.trans k) (i := 1) (oi := { dst := some 49, op := _, type := _, pos := _, after := _, guard := _ }) (v := ?_) rfl (by kernel_rfl) (by kernel_rfl) (by kernel_rfl) (fun _ _ _ h => h) (Or.inl (Or.inl ⟨by rfl, ?_⟩)) hS ?_
            rotate_left
            focus ((intro w hSw; (try dsimp only at hSw); skip; go_simp); (try with_reducible rfl))
            intro wq hwq
            replace hS := hS.trans hwq
            (try simp only [Act.put, List.setIfInBounds_toArray, List.set_cons_zero, List.set_cons_succ])
            clear hwq
            refine wpAnyK_take Later.refl (fun _ _ _ h k => h.trans k) (fun _ _ h k => h.trans k) (i := 2) (oi := { dst := some 50, op := _, type := _, pos := _, after := _, guard := _ }) (v := ?_) rfl (by kernel_rfl) (by kernel_rfl) (by kernel_rfl) (fun _ _ _ h => h) (Or.inl (Or.inl ⟨by rfl, ?_⟩)) hS ?_
            rotate_left
            focus ((intro w hSw; (try dsimp only at hSw); skip; go_simp); (try with_reducible rfl))
            intro wq hwq
            replace hS := hS.trans hwq
            (try simp only [Act.put, List.setIfInBounds_toArray, List.set_cons_zero, List.set_cons_succ])
            clear hwq
            refine wpAnyK_take Later.refl (fun _ _ _ h k => h.trans k) (fun _ _ h k => h.trans k) (i := 3) (oi := { dst := some 51, op := _, type := _, pos := _, after := _, guard := _ }) (v := ?_) rfl (by kernel_rfl) (by kernel_rfl) (by kernel_rfl) (fun _ _ _ h => h) (Or.inl (Or.inl ⟨by rfl, ?_⟩)) hS ?_
            rotate_left
            focus ((intro w hSw; (try dsimp only at hSw); skip; go_simp); (try with_reducible rfl))
            intro wq hwq
            replace hS := hS.trans hwq
            (try simp only [Act.put, List.setIfInBounds_toArray, List.set_cons_zero, List.set_cons_succ])
            clear hwq
            refine wpAnyK_take Later.refl (fun _ _ _ h k => h.trans k) (fun _ _ h k => h.trans k) (i := 4) (oi := { dst := some 52, op := _, type := _, pos := _, after := _, guard := _ }) (v := ?_) rfl (by kernel_rfl) (by kernel_rfl) (by kernel_rfl) (fun _ _ _ h => h) (Or.inl (Or.inl ⟨by rfl, ?_⟩)) hS ?_
            rotate_left
            focus ((intro w hSw; (try dsimp only at hSw); skip; go_simp); (try with_reducible rfl))
            intro wq hwq
            replace hS := hS.trans hwq
            (try simp only [Act.put, List.setIfInBounds_toArray, List.set_cons_zero, List.set_cons_succ])
            clear hwq
            refine wpAnyK_take Later.refl (fun _ _ _ h k => h.trans k) (fun _ _ h k => h.trans k) (i := 5) (oi := { dst := some 53, op := _, type := _, pos := _, after := _, guard := _ }) (v := ?_) rfl (by kernel_rfl) (by kernel_rfl) (by kernel_rfl) (fun _ _ _ h => h) (Or.inl (Or.inl ⟨by rfl, ?_⟩)) hS ?_
            rotate_left
            focus ((intro w hSw; (try dsimp only at hSw); have e0 := (HE.out.later hSw).1.out; have e1 := (HE.out.later hSw).2.1.out; have e2 := (HE.out.later hSw).2.2.1.out; have e3 := (HE.out.later hSw).2.2.2.1.out; have e4 := (HE.out.later hSw).2.2.2.2.1.out; have e5 := (HE.out.later hSw).2.2.2.2.2.1.out; have e6 := (HE.out.later hSw).2.2.2.2.2.2.out; dsimp only at e0 e1 e2 e3 e4 e5 e6; go_simp); (try with_reducible rfl))
            intro wq hwq
            replace hS := hS.trans hwq
            (try simp only [Act.put, List.setIfInBounds_toArray, List.set_cons_zero, List.set_cons_succ])
            clear hwq
            refine wpAnyK_take Later.refl (fun _ _ _ h k => h.trans k) (fun _ _ h k => h.trans k) (i := 6) (oi := { dst := some 54, op := _, type := _, pos := _, after := _, guard := _ }) (v := .tuple #[.int .i64 fk, .bool fb]) rfl (by kernel_rfl) (by kernel_rfl) (by kernel_rfl) (fun _ _ _ h => h) (Or.inr ⟨by rfl, 30, #[.agg #[.slice A n c, .int .i64 last], .string nm], fun W hW => ⟨?_, HFD.out W hW⟩⟩) hS ?_
            · first | rfl | (go_simp; done)
            intro wq hwq
            replace hS := hS.trans hwq
            (try simp only [Act.put, List.setIfInBounds_toArray, List.set_cons_zero, List.set_cons_succ])
            clear hwq
            refine wpAnyK_take Later.refl (fun _ _ _ h k => h.trans k) (fun _ _ h k => h.trans k) (i := 7) (oi := { dst := some 47, op := _, type := _, pos := _, after := _, guard := _ }) (v := ?_) rfl (by kernel_rfl) (by kernel_rfl) (by kernel_rfl) (fun _ _ _ h => h) (Or.inl (Or.inl ⟨by rfl, ?_⟩)) hS ?_
            rotate_left
            focus ((intro w hSw; (try dsimp only at hSw); skip; go_simp); (try with_reducible rfl))
            intro wq hwq
            replace hS := hS.trans hwq
            (try simp only [Act.put, List.setIfInBounds_toArray, List.set_cons_zero, List.set_cons_succ])
            clear hwq
            refine wpAnyK_take Later.refl (fun _ _ _ h k => h.trans k) (fun _ _ h k => h.trans k) (i := 8) (oi := { dst := some 55, op := _, type := _, pos := _, after := _, guard := _ }) (v := ?_) rfl (by kernel_rfl) (by kernel_rfl) (by kernel_rfl) (fun _ _ _ h => h) (Or.inl (Or.inl ⟨by rfl, ?_⟩)) hS ?_
            rotate_left
            focus ((intro w hSw; (try dsimp only at hSw); skip; go_simp); (try with_reducible rfl))
            intro wq hwq
            replace hS := hS.trans hwq
            (try simp only [Act.put, List.setIfInBounds_toArray, List.set_cons_zero, List.set_cons_succ])
            clear hwq
            refine wpAnyK_take Later.refl (fun _ _ _ h k => h.trans k) (fun _ _ h k => h.trans k) (i := 9) (oi := { dst := some 56, op := _, type := _, pos := _, after := _, guard := _ }) (v := ?_) rfl (by kernel_rfl) (by kernel_rfl) (by kernel_rfl) (fun _ _ _ h => h) (Or.inl (Or.inl ⟨by rfl, ?_⟩)) hS ?_
            rotate_left
            focus ((intro w hSw; (try dsimp only at hSw); skip; go_simp); (try with_reducible rfl))
            intro wq hwq
            replace hS := hS.trans hwq
            (try simp only [Act.put, List.setIfInBounds_toArray, List.set_cons_zero, List.set_cons_succ])
            clear hwq
            refine wpAnyK_take Later.refl (fun _ _ _ h k => h.trans k) (fun _ _ h k => h.trans k) (i := 10) (oi := { dst := some 7, op := _, type := _, pos := _, after := _, guard := _ }) (v := ?_) rfl (by kernel_rfl) (by kernel_rfl) (by kernel_rfl) (fun _ _ _ h => h) (Or.inl (Or.inl ⟨by rfl, ?_⟩)) hS ?_
            rotate_left
            focus ((intro w hSw; (try dsimp only at hSw); skip; go_simp); (try with_reducible rfl))
            intro wq hwq
            replace hS := hS.trans hwq
            (try simp only [Act.put, List.setIfInBounds_toArray, List.set_cons_zero, List.set_cons_succ])
            clear hwq
            refine wpAnyK_take Later.refl (fun _ _ _ h k => h.trans k) (fun _ _ h k => h.trans k) (i := 11) (oi := { dst := some 8, op := _, type := _, pos := _, after := _, guard := _ }) (v := ?_) rfl (by kernel_rfl) (by kernel_rfl) (by kernel_rfl) (fun _ _ _ h => h) (Or.inl (Or.inl ⟨by rfl, ?_⟩)) hS ?_
            rotate_left
            focus ((intro w hSw; (try dsimp only at hSw); skip; go_simp); (try with_reducible rfl))
            intro wq hwq
            replace hS := hS.trans hwq
            (try simp only [Act.put, List.setIfInBounds_toArray, List.set_cons_zero, List.set_cons_succ])
            clear hwq
            refine wpAnyK_done (by kernel_rfl) ?_ _
            have HS2 := Lib.hid hS
            clear hS
            go_wp2_with fail
            go_meet
            exact ⟨rfl, rfl, HS2.out⟩
          case rest =>
          obtain ⟨rfl, rfl, lx⟩ := hcut
          have HE := Lib.hid (HE.out.later lx)
          have HLX := Lib.hid (HLW.out.trans lx)
          clear lx HFD HFX HLW
          have hst := HST.out
          have hfk := HFK.out
          have hfb := HFBB.out
          rcases fo with _ | fo
          · have HX := Lib.hid (show (3 : Int) = res from hst)
            have hfb : fb = false := hfb.symm
            subst hfb
            have HLZ := Lib.hid (HL1.out.trans HLX.out)
            clear hst HST HFK HFBB hfk HE
            go_wp2_with fail
            go_ret
            rw [← HX.out]
            exact ⟨rfl, HLZ.out⟩
          · have hfb : fb = true := hfb.symm
            subst hfb
            have hfk : fk = fo := hfk.symm
            subst hfk
            dsimp only at hst
            have hfl : fk < cols.length := by
              have h := HFO.out
              unfold findC at h
              rw [List.findIdx?_eq_some_iff_getElem] at h
              exact h.1
            have hnl : (fk : Int) < (n : Int) := by have := HN.out; omega
            have hmq := meetsT_eq (cols.getD fk (0, ⟨#[]⟩, 0)).2.2 ⟨nm, op, (vt, vi, vs), o, nt⟩ HOP.out
            rw [List.getD_eq_getElem?_getD, List.getElem?_eq_getElem hfl] at hmq hst
            obtain ⟨cb, co, hCA, _, _, c2⟩ := (HR.out.later HLX.out).col3 fk hfl
            have HCA := Lib.hid hCA
            generalize cols[fk] = cc at hmq hst c2
            obtain ⟨ci, cs, ct⟩ := cc
            dsimp only [Option.getD_some] at hmq hst c2
            have hst2 : (meetsT ct ⟨nm, op, (vt, vi, vs), o, nt⟩ = true → check2 cols (l.drop (k + 1)) = res) ∧ (meetsT ct ⟨nm, op, (vt, vi, vs), o, nt⟩ = false → (4 : Int) = res) :=
              ⟨fun h => by rw [if_pos h] at hst; exact hst, fun h => by rw [if_neg (by rw [h]; decide)] at hst; exact hst⟩
            clear hst
            have hst := hst2
            clear hst2
            obtain ⟨mt, hmt⟩ : ∃ x, meetsT ct ⟨nm, op, (vt, vi, vs), o, nt⟩ = x := ⟨_, rfl⟩
            rw [hmt] at hmq hst
            have HMQ := Lib.hid hmq
            have HST2 := Lib.hid hst
            have HC2 := Lib.hid c2
            subst hCA
            clear HST HFK HFBB hst hfb hmq hmt c2 HCA
            obtain ⟨W9, hW9⟩ : ∃ x, x = wc := ⟨_, rfl⟩
            subst hW9
            have HLW := HLX
            clear HLX
            go_wp2_with fail
            go_upto_region 14 with fail
            go_cut [90] from 59 to 90 (fun v wx => v = .bool (!mt) ∧ Later W9 wx)
            case first => as_aux_lemma =>
              by_cases hv : vt = 0
              · have hd : (vt != 0) = false := by simp [hv]
                have hm : (!mt) = false := by rw [HMQ.out]; simp [hv]
                clear hv
                refine wp_region_K (S := fun W : World => Later W9 W) (R := Later) (fun _ => Later.refl _) (by kernel_rfl) ?_
                have hS : (fun W : World => Later W9 W) W9.drew := (Later.refl W9).drew
                refine wpAnyK_take Later.refl (fun _ _ _ h k => h.trans k) (fun _ _ h k => h.trans k) (i := 0) (oi := { dst := some 59, op := _, type := _, pos := _, after := _, guard := _ }) (v := ?_) rfl (by kernel_rfl) (by kernel_rfl) (by kernel_rfl) (fun _ _ _ h => h) (Or.inl (Or.inl ⟨by rfl, ?_⟩)) hS ?_
                rotate_left
                focus ((intro w hSw; (try dsimp only at hSw); skip; go_simp); (try with_reducible rfl))
                intro wq hwq
                replace hS := hS.trans hwq
                (try simp only [Act.put, List.setIfInBounds_toArray, List.set_cons_zero, List.set_cons_succ])
                clear hwq
                refine wpAnyK_take Later.refl (fun _ _ _ h k => h.trans k) (fun _ _ h k => h.trans k) (i := 1) (oi := { dst := some 60, op := _, type := _, pos := _, after := _, guard := _ }) (v := ?_) rfl (by kernel_rfl) (by kernel_rfl) (by kernel_rfl) (fun _ _ _ h => h) (Or.inl (Or.inl ⟨by rfl, ?_⟩)) hS ?_
                rotate_left
                focus ((intro w hSw; (try dsimp only at hSw); skip; go_simp); (try with_reducible rfl))
                intro wq hwq
                replace hS := hS.trans hwq
                (try simp only [Act.put, List.setIfInBounds_toArray, List.set_cons_zero, List.set_cons_succ])
                clear hwq
                refine wpAnyK_take Later.refl (fun _ _ _ h k => h.trans k) (fun _ _ h k => h.trans k) (i := 2) (oi := { dst := some 61, op := _, type := _, pos := _, after := _, guard := _ }) (v := ?_) rfl (by kernel_rfl) (by kernel_rfl) (by kernel_rfl) (fun _ _ _ h => h) (Or.inl (Or.inl ⟨by rfl, ?_⟩)) hS ?_
                rotate_left
                focus ((intro w hSw; (try dsimp only at hSw); skip; go_simp); (try with_reducible rfl))
                intro wq hwq
                replace hS := hS.trans hwq
                (try simp only [Act.put, List.setIfInBounds_toArray, List.set_cons_zero, List.set_cons_succ])
                clear hwq
                refine wpAnyK_take Later.refl (fun _ _ _ h k => h.trans k) (fun _ _ h k => h.trans k) (i := 3) (oi := { dst := some 62, op := _, type := _, pos := _, after := _, guard := _ }) (v := ?_) rfl (by kernel_rfl) (by kernel_rfl) (by kernel_rfl) (fun _ _ _ h => h) (Or.inl (Or.inl ⟨by rfl, ?_⟩)) hS ?_
                rotate_left
                focus ((intro w hSw; (try dsimp only at hSw); skip; go_simp); (try with_reducible rfl))
                intro wq hwq
                replace hS := hS.trans hwq
                (try simp only [Act.put, List.setIfInBounds_toArray, List.set_cons_zero, List.set_cons_succ])
                clear hwq
                refine wpAnyK_take Later.refl (fun _ _ _ h k => h.trans k) (fun _ _ h k => h.trans k) (i := 4) (oi := { dst := some 63, op := _, type := _, pos := _, after := _, guard := _ }) (v := ?_) rfl (by kernel_rfl) (by kernel_rfl) (by kernel_rfl) (fun _ _ _ h => h) (Or.inl (Or.inl ⟨by rfl, ?_⟩)) hS ?_
                rotate_left
                focus ((intro w hSw; (try dsimp only at hSw); skip; go_simp); (try with_reducible rfl))
                intro wq hwq
                replace hS := hS.trans hwq
                (try simp only [Act.put, List.setIfInBounds_toArray, List.set_cons_zero, List.set_cons_succ])
                clear hwq
                refine wpAnyK_take Later.refl (fun _ _ _ h k => h.trans k) (fun _ _ h k => h.trans k) (i := 5) (oi := { dst := some 64, op := _, type := _, pos := _, after := _, guard := _ }) (v := ?_) rfl (by kernel_rfl) (by kernel_rfl) (by kernel_rfl) (fun _ _ _ h => h) (Or.inl (Or.inl ⟨by rfl, ?_⟩)) hS ?_
                rotate_left
                focus ((intro w hSw; (try dsimp only at hSw); have e0 := (HE.out.later hSw).1.out; have e1 := (HE.out.later hSw).2.1.out; have e2 := (HE.out.later hSw).2.2.1.out; have e3 := (HE.out.later hSw).2.2.2.1.out; have e4 := (HE.out.later hSw).2.2.2.2.1.out; have e5 := (HE.out.later hSw).2.2.2.2.2.1.out; have e6 := (HE.out.later hSw).2.2.2.2.2.2.out; dsimp only at e0 e1 e2 e3 e4 e5 e6; go_simp); (try with_reducible rfl))
                intro wq hwq
                replace hS := hS.trans hwq
                (try simp only [Act.put, List.setIfInBounds_toArray, List.set_cons_zero, List.set_cons_succ])
                clear hwq
                refine wpAnyK_take Later.refl (fun _ _ _ h k => h.trans k) (fun _ _ h k => h.trans k) (i := 6) (oi := { dst := some 65, op := _, type := _, pos := _, after := _, guard := _ }) (v := ?_) rfl (by kernel_rfl) (by kernel_rfl) (by kernel_rfl) (fun _ _ _ h => h) (Or.inl (Or.inl ⟨by rfl, ?_⟩)) hS ?_
                rotate_left
                focus ((intro w hSw; (try dsimp only at hSw); skip; go_simp); (try with_reducible rfl))
                intro wq hwq
                replace hS := hS.trans hwq
                (try simp only [Act.put, List.setIfInBounds_toArray, List.set_cons_zero, List.set_cons_succ])
                clear hwq
                refine wpAnyK_take Later.refl (fun _ _ _ h k => h.trans k) (fun _ _ h k => h.trans k) (i := 7) (oi := { dst := some 66, op := _, type := _, pos := _, after := _, guard := _ }) (v := ?_) rfl (by kernel_rfl) (by kernel_rfl) (by kernel_rfl) (fun _ _ _ h => h) (Or.inl (Or.inl ⟨by rfl, ?_⟩)) hS ?_
                rotate_left
                focus ((intro w hSw; (try dsimp only at hSw); skip; go_simp); (try with_reducible rfl))
                intro wq hwq
                replace hS := hS.trans hwq
                (try simp only [Act.put, List.setIfInBounds_toArray, List.set_cons_zero, List.set_cons_succ])
                clear hwq
                refine wpAnyK_take Later.refl (fun _ _ _ h k => h.trans k) (fun _ _ h k => h.trans k) (i := 8) (oi := { dst := some 67, op := _, type := _, pos := _, after := _, guard := _ }) (v := undef) rfl (by kernel_rfl) (by kernel_rfl) (by kernel_rfl) (fun _ _ _ h => h) (Or.inl (Or.inr ⟨by rfl, rfl⟩)) hS ?_
                intro wq hwq
                replace hS := hS.trans hwq
                (try simp only [Act.put, List.setIfInBounds_toArray, List.set_cons_zero, List.set_cons_succ])
                clear hwq
                refine wpAnyK_take Later.refl (fun _ _ _ h k => h.trans k) (fun _ _ h k => h.trans k) (i := 9) (oi := { dst := some 68, op := _, type := _, pos := _, after := _, guard := _ }) (v := undef) rfl (by kernel_rfl) (by kernel_rfl) (by kernel_rfl) (fun _ _ _ h => h) (Or.inl (Or.inr ⟨by rfl, rfl⟩)) hS ?_
                intro wq hwq
                replace hS := hS.trans hwq
                (try simp only [Act.put, List.setIfInBounds_toArray, List.set_cons_zero, List.set_cons_succ])
                clear hwq
                refine wpAnyK_take Later.refl (fun _ _ _ h k => h.trans k) (fun _ _ h k => h.trans k) (i := 10) (oi := { dst := some 69, op := _, type := _, pos := _, after := _, guard := _ }) (v := undef) rfl (by kernel_rfl) (by kernel_rfl) (by kernel_rfl) (fun _ _ _ h => h) (Or.inl (Or.inr ⟨by rfl, rfl⟩)) hS ?_
                intro wq hwq
                replace hS := hS.trans hwq
                (try simp only [Act.put, List.setIfInBounds_toArray, List.set_cons_zero, List.set_cons_succ])
                clear hwq
                refine wpAnyK_take Later.refl (fun _ _ _ h k => h.trans k) (fun _ _ h k => h.trans k) (i := 11) (oi := { dst := some 70, op := _, type := _, pos := _, after := _, guard := _ }) (v := undef) rfl (by kernel_rfl) (by kernel_rfl) (by kernel_rfl) (fun _ _ _ h => h) (Or.inl (Or.inr ⟨by rfl, rfl⟩)) hS ?_
                intro wq hwq
                replace hS := hS.trans hwq
                (try simp only [Act.put, List.setIfInBounds_toArray, List.set_cons_zero, List.set_cons_succ])
                clear hwq
                refine wpAnyK_take Later.refl (fun _ _ _ h k => h.trans k) (fun _ _ h k => h.trans k) (i := 12) (oi := { dst := some 71, op := _, type := _, pos := _, after := _, guard := _ }) (v := undef) rfl (by kernel_rfl) (by kernel_rfl) (by kernel_rfl) (fun _ _ _ h => h) (Or.inl (Or.inr ⟨by rfl, rfl⟩)) hS ?_
                intro wq hwq
                replace hS := hS.trans hwq
                (try simp only [Act.put, List.setIfInBounds_toArray, List.set_cons_zero, List.set_cons_succ])
                clear hwq
                refine wpAnyK_take Later.refl (fun _ _ _ h k => h.trans k) (fun _ _ h k => h.trans k) (i := 13) (oi := { dst := some 72, op := _, type := _, pos := _, after := _, guard := _ }) (v := undef) rfl (by kernel_rfl) (by kernel_rfl) (by kernel_rfl) (fun _ _ _ h => h) (Or.inl (Or.inr ⟨by rfl, rfl⟩)) hS ?_
                intro wq hwq
                replace hS := hS.trans hwq
                (try simp only [Act.put, List.setIfInBounds_toArray, List.set_cons_zero, List.set_cons_succ])
                clear hwq
                refine wpAnyK_take Later.refl (fun _ _ _ h k => h.trans k) (fun _ _ h k => h.trans k) (i := 14) (oi := { dst := some 73, op := _, type := _, pos := _, after := _, guard := _ }) (v := ?_) rfl (by kernel_rfl) (by kernel_rfl) (by kernel_rfl) (fun _ _ _ h => h) (Or.inl (Or.inl ⟨by rfl, ?_⟩)) hS ?_
                rotate_left
                focus ((intro w hSw; (try dsimp only at hSw); skip; go_simp); (try with_reducible rfl))
                intro wq hwq
                replace hS := hS.trans hwq
                (try simp only [Act.put, List.setIfInBounds_toArray, List.set_cons_zero, List.set_cons_succ])
                clear hwq
                refine wpAnyK_take Later.refl (fun _ _ _ h k => h.trans k) (fun _ _ h k => h.trans k) (i := 15) (oi := { dst := some 74, op := _, type := _, pos := _, after := _, guard := _ }) (v := ?_) rfl (by kernel_rfl) (by kernel_rfl) (by kernel_rfl) (fun _ _ _ h => h) (Or.inl (Or.inl ⟨by rfl, ?_⟩)) hS ?_
                rotate_left
                focus ((intro w hSw; (try dsimp only at hSw); skip; go_simp); (try with_reducible rfl))
                intro wq hwq
                replace hS := hS.trans hwq
                (try simp only [Act.put, List.setIfInBounds_toArray, List.set_cons_zero, List.set_cons_succ])
                clear hwq
                refine wpAnyK_take Later.refl (fun _ _ _ h k => h.trans k) (fun _ _ h k => h.trans k) (i := 16) (oi := { dst := some 75, op := _, type := _, pos := _, after := _, guard := _ }) (v := undef) rfl (by kernel_rfl) (by kernel_rfl) (by kernel_rfl) (fun _ _ _ h => h) (Or.inl (Or.inr ⟨by rfl, rfl⟩)) hS ?_
                intro wq hwq
                replace hS := hS.trans hwq
                (try simp only [Act.put, List.setIfInBounds_toArray, List.set_cons_zero, List.set_cons_succ])
                clear hwq
                refine wpAnyK_take Later.refl (fun _ _ _ h k => h.trans k) (fun _ _ h k => h.trans k) (i := 17) (oi := { dst := some 76, op := _, type := _, pos := _, after := _, guard := _ }) (v := undef) rfl (by kernel_rfl) (by kernel_rfl) (by kernel_rfl) (fun _ _ _ h => h) (Or.inl (Or.inr ⟨by rfl, rfl⟩)) hS ?_
                intro wq hwq
                replace hS := hS.trans hwq
                (try simp only [Act.put, List.setIfInBounds_toArray, List.set_cons_zero, List.set_cons_succ])
                clear hwq
                refine wpAnyK_take Later.refl (fun _ _ _ h k => h.trans k) (fun _ _ h k => h.trans k) (i := 18) (oi := { dst := some 77, op := _, type := _, pos := _, after := _, guard := _ }) (v := undef) rfl (by kernel_rfl) (by kernel_rfl) (by kernel_rfl) (fun _ _ _ h => h) (Or.inl (Or.inr ⟨by rfl, rfl⟩)) hS ?_
                intro wq hwq
                replace hS := hS.trans hwq
                (try simp only [Act.put, List.setIfInBounds_toArray, List.set_cons_zero, List.set_cons_succ])
                clear hwq
                refine wpAnyK_take Later.refl (fun _ _ _ h k => h.trans k) (fun _ _ h k => h.trans k) (i := 19) (oi := { dst := some 78, op := _, type := _, pos := _, after := _, guard := _ }) (v := undef) rfl (by kernel_rfl) (by kernel_rfl) (by kernel_rfl) (fun _ _ _ h => h) (Or.inl (Or.inr ⟨by rfl, rfl⟩)) hS ?_
                intro wq hwq
                replace hS := hS.trans hwq
                (try simp only [Act.put, List.setIfInBounds_toArray, List.set_cons_zero, List.set_cons_succ])
                clear hwq
                refine wpAnyK_take Later.refl (fun _ _ _ h k => h.trans k) (fun _ _ h k => h.trans k) (i := 20) (oi := { dst := some 79, op := _, type := _, pos := _, after := _, guard := _ }) (v := undef) rfl (by kernel_rfl) (by kernel_rfl) (by kernel_rfl) (fun _ _ _ h => h) (Or.inl (Or.inr ⟨by rfl, rfl⟩)) hS ?_
                intro wq hwq
                replace hS := hS.trans hwq
                (try simp only [Act.put, List.setIfInBounds_toArray, List.set_cons_zero, List.set_cons_succ])
                clear hwq
                refine wpAnyK_take Later.refl (fun _ _ _ h k => h.trans k) (fun _ _ h k => h.trans k) (i := 21) (oi := { dst := some 80, op := _, type := _, pos := _, after := _, guard := _ }) (v := undef) rfl (by kernel_rfl) (by kernel_rfl) (by kernel_rfl) (fun _ _ _ h => h) (Or.inl (Or.inr ⟨by rfl, rfl⟩)) hS ?_
                intro wq hwq
                replace hS := hS.trans hwq
                (try simp only [Act.put, List.setIfInBounds_toArray, List.set_cons_zero, List.set_cons_succ])
                clear hwq
                refine wpAnyK_take Later.refl (fun _ _ _ h k => h.trans k) (fun _ _ h k => h.trans k) (i := 22) (oi := { dst := some 81, op := _, type := _, pos := _, after := _, guard := _ }) (v := undef) rfl (by kernel_rfl) (by kernel_rfl) (by kernel_rfl) (fun _ _ _ h => h) (Or.inl (Or.inr ⟨by rfl, rfl⟩)) hS ?_
                intro wq hwq
                replace hS := hS.trans hwq
                (try simp only [Act.put, List.setIfInBounds_toArray, List.set_cons_zero, List.set_cons_succ])
                clear hwq
                refine wpAnyK_take Later.refl (fun _ _ _ h k => h.trans k) (fun _ _ h k => h.trans k) (i := 23) (oi := { dst := some 82, op := _, type := _, pos := _, after := _, guard := _ }) (v := undef) rfl (by kernel_rfl) (by kernel_rfl) (by kernel_rfl) (fun _ _ _ h => h) (Or.inl (Or.inr ⟨by rfl, rfl⟩)) hS ?_
                intro wq hwq
                replace hS := hS.trans hwq
                (try simp only [Act.put, List.setIfInBounds_toArray, List.set_cons_zero, List.set_cons_succ])
                clear hwq
                refine wpAnyK_take Later.refl (fun _ _ _ h k => h.trans k) (fun _ _ h k => h.trans k) (i := 24) (oi := { dst := some 83, op := _, type := _, pos := _, after := _, guard := _ }) (v := undef) rfl (by kernel_rfl) (by kernel_rfl) (by kernel_rfl) (fun _ _ _ h => h) (Or.inl (Or.inr ⟨by rfl, rfl⟩)) hS ?_
                intro wq hwq
                replace hS := hS.trans hwq
                (try simp only [Act.put, List.setIfInBounds_toArray, List.set_cons_zero, List.set_cons_succ])
                clear hwq
                refine wpAnyK_take Later.refl (fun _ _ _ h k => h.trans k) (fun _ _ h k => h.trans k) (i := 25) (oi := { dst := some 84, op := _, type := _, pos := _, after := _, guard := _ }) (v := undef) rfl (by kernel_rfl) (by kernel_rfl) (by kernel_rfl) (fun _ _ _ h => h) (Or.inl (Or.inr ⟨by rfl, rfl⟩)) hS ?_
                intro wq hwq
                replace hS := hS.trans hwq
                (try simp only [Act.put, List.setIfInBounds_toArray, List.set_cons_zero, List.set_cons_succ])
                clear hwq
                refine wpAnyK_take Later.refl (fun _ _ _ h k => h.trans k) (fun _ _ h k => h.trans k) (i := 26) (oi := { dst := some 85, op := _, type := _, pos := _, after := _, guard := _ }) (v := undef) rfl (by kernel_rfl) (by kernel_rfl) (by kernel_rfl) (fun _ _ _ h => h) (Or.inl (Or.inr ⟨by rfl, rfl⟩)) hS ?_
                intro wq hwq
                replace hS := hS.trans hwq
                (try simp only [Act.put, List.setIfInBounds_toArray, List.set_cons_zero, List.set_cons_succ])
                clear hwq
                refine wpAnyK_take Later.refl (fun _ _ _ h k => h.trans k) (fun _ _ h k => h.trans k) (i := 27) (oi := { dst := some 86, op := _, type := _, pos := _, after := _, guard := _ }) (v := undef) rfl (by kernel_rfl) (by kernel_rfl) (by kernel_rfl) (fun _ _ _ h => h) (Or.inl (Or.inr ⟨by rfl, rfl⟩)) hS ?_
                intro wq hwq
                replace hS := hS.trans hwq
                (try simp only [Act.put, List.setIfInBounds_toArray, List.set_cons_zero, List.set_cons_succ])
                clear hwq
                refine wpAnyK_take Later.refl (fun _ _ _ h k => h.trans k) (fun _ _ h k => h.trans k) (i := 28) (oi := { dst := some 87, op := _, type := _, pos := _, after := _, guard := _ }) (v := undef) rfl (by kernel_rfl) (by kernel_rfl) (by kernel_rfl) (fun _ _ _ h => h) (Or.inl (Or.inr ⟨by rfl, rfl⟩)) hS ?_
                intro wq hwq
                replace hS := hS.trans hwq
                (try simp only [Act.put, List.setIfInBounds_toArray, List.set_cons_zero, List.set_cons_succ])
                clear hwq
                refine wpAnyK_take Later.refl (fun _ _ _ h k => h.trans k) (fun _ _ h k => h.trans k) (i := 29) (oi := { dst := some 88, op := _, type := _, pos := _, after := _, guard := _ }) (v := undef) rfl (by kernel_rfl) (by kernel_rfl) (by kernel_rfl) (fun _ _ _ h => h) (Or.inl (Or.inr ⟨by rfl, rfl⟩)) hS ?_
                intro wq hwq
                replace hS := hS.trans hwq
                (try simp only [Act.put, List.setIfInBounds_toArray, List.set_cons_zero, List.set_cons_succ])
                clear hwq
                refine wpAnyK_take Later.refl (fun _ _ _ h k => h.trans k) (fun _ _ h k => h.trans k) (i := 30) (oi := { dst := some 89, op := _, type := _, pos := _, after := _, guard := _ }) (v := undef) rfl (by kernel_rfl) (by kernel_rfl) (by kernel_rfl) (fun _ _ _ h => h) (Or.inl (Or.inr ⟨by rfl, rfl⟩)) hS ?_
                intro wq hwq
                replace hS := hS.trans hwq
                (try simp only [Act.put, List.setIfInBounds_toArray, List.set_cons_zero, List.set_cons_succ])
                clear hwq
                refine wpAnyK_take Later.refl (fun _ _ _ h k => h.trans k) (fun _ _ h k => h.trans k) (i := 31) (oi := { dst := some 90, op := _, type := _, pos := _, after := _, guard := _ }) (v := ?_) rfl (by kernel_rfl) (by kernel_rfl) (by kernel_rfl) (fun _ _ _ h => h) (Or.inl (Or.inl ⟨by rfl, ?_⟩)) hS ?_
                rotate_left
                focus ((intro w hSw; (try dsimp only at hSw); skip; go_simp); (try with_reducible rfl))
                intro wq hwq
                replace hS := hS.trans hwq
                (try simp only [Act.put, List.setIfInBounds_toArray, List.set_cons_zero, List.set_cons_succ])
                clear hwq
                refine wpAnyK_done (by kernel_rfl) ?_ _
                have HS2 := Lib.hid hS
                clear hS
                go_wp2_with fail
                go_meet
                exact ⟨by rw [hm], HS2.out⟩
              · have hd : (vt != 0) = true := by simp [hv]
                by_cases h7 : op < 7
                · have hd7 : decide (op < 7) = true := by simpa using h7
                  have hm : (!mt) = ((vt == 4) != (ct == 4)) := by rw [HMQ.out]; simp [hv, h7, beq_dec]
                  clear hv h7
                  refine wp_region_K (S := fun W : World => Later W9 W) (R := Later) (fun _ => Later.refl _) (by kernel_rfl) ?_
                  have hS : (fun W : World => Later W9 W) W9.drew := (Later.refl W9).drew
                  refine wpAnyK_take Later.refl (fun _ _ _ h k => h.trans k) (fun _ _ h k => h.trans k) (i := 0) (oi := { dst := some 59, op := _, type := _, pos := _, after := _, guard := _ }) (v := ?_) rfl (by kernel_rfl) (by kernel_rfl) (by kernel_rfl) (fun _ _ _ h => h) (Or.inl (Or.inl ⟨by rfl, ?_⟩)) hS ?_
                  rotate_left
                  focus ((intro w hSw; (try dsimp only at hSw); skip; go_simp); (try with_reducible rfl))
                  intro wq hwq
                  replace hS := hS.trans hwq
                  (try simp only [Act.put, List.setIfInBounds_toArray, List.set_cons_zero, List.set_cons_succ])
                  clear hwq
                  refine wpAnyK_take Later.refl (fun _ _ _ h k => h.trans k) (fun _ _ h k => h.trans k) (i := 1) (oi := { dst := some 60, op := _, type := _, pos := _, after := _, guard := _ }) (v := ?_) rfl (by kernel_rfl) (by kernel_rfl) (by kernel_rfl) (fun _ _ _ h => h) (Or.inl (Or.inl ⟨by rfl, ?_⟩)) hS ?_
                  rotate_left
                  focus ((intro w hSw; (try dsimp only at hSw); skip; go_simp); (try with_reducible rfl))
                  intro wq hwq
                  replace hS := hS.trans hwq
                  (try simp only [Act.put, List.setIfInBounds_toArray, List.set_cons_zero, List.set_cons_succ])
                  clear hwq
                  refine wpAnyK_take Later.refl (fun _ _ _ h k => h.trans k) (fun _ _ h k => h.trans k) (i := 2) (oi := { dst := some 61, op := _, type := _, pos := _, after := _, guard := _ }) (v := ?_) rfl (by kernel_rfl) (by kernel_rfl) (by kernel_rfl) (fun _ _ _ h => h) (Or.inl (Or.inl ⟨by rfl, ?_⟩)) hS ?_
                  rotate_left
                  focus ((intro w hSw; (try dsimp only at hSw); skip; go_simp); (try with_reducible rfl))
                  intro wq hwq
                  replace hS := hS.trans hwq
                  (try simp only [Act.put, List.setIfInBounds_toArray, List.set_cons_zero, List.set_cons_succ])
                  clear hwq
                  refine wpAnyK_take Later.refl (fun _ _ _ h k => h.trans k) (fun _ _ h k => h.trans k) (i := 3) (oi := { dst := some 62, op := _, type := _, pos := _, after := _, guard := _ }) (v := ?_) rfl (by kernel_rfl) (by kernel_rfl) (by kernel_rfl) (fun _ _ _ h => h) (Or.inl (Or.inl ⟨by rfl, ?_⟩)) hS ?_
                  rotate_left
                  focus ((intro w hSw; (try dsimp only at hSw); skip; go_simp); (try with_reducible rfl))
                  intro wq hwq
                  replace hS := hS.trans hwq
                  (try simp only [Act.put, List.setIfInBounds_toArray, List.set_cons_zero, List.set_cons_succ])
                  clear hwq
                  refine wpAnyK_take Later.refl (fun _ _ _ h k => h.trans k) (fun _ _ h k => h.trans k) (i := 4) (oi := { dst := some 63, op := _, type := _, pos := _, after := _, guard := _ }) (v := ?_) rfl (by kernel_rfl) (by kernel_rfl) (by kernel_rfl) (fun _ _ _ h => h) (Or.inl (Or.inl ⟨by rfl, ?_⟩)) hS ?_
                  rotate_left
                  focus ((intro w hSw; (try dsimp only at hSw); skip; go_simp); (try with_reducible rfl))
                  intro wq hwq
                  replace hS := hS.trans hwq
                  (try simp only [Act.put, List.setIfInBounds_toArray, List.set_cons_zero, List.set_cons_succ])
                  clear hwq
                  refine wpAnyK_take Later.refl (fun _ _ _ h k => h.trans k) (fun _ _ h k => h.trans k) (i := 5) (oi := { dst := some 64, op := _, type := _, pos := _, after := _, guard := _ }) (v := ?_) rfl (by kernel_rfl) (by kernel_rfl) (by kernel_rfl) (fun _ _ _ h => h) (Or.inl (Or.inl ⟨by rfl, ?_⟩)) hS ?_
                  rotate_left
                  focus ((intro w hSw; (try dsimp only at hSw); have e0 := (HE.out.later hSw).1.out; have e1 := (HE.out.later hSw).2.1.out; have e2 := (HE.out.later hSw).2.2.1.out; have e3 := (HE.out.later hSw).2.2.2.1.out; have e4 := (HE.out.later hSw).2.2.2.2.1.out; have e5 := (HE.out.later hSw).2.2.2.2.2.1.out; have e6 := (HE.out.later hSw).2.2.2.2.2.2.out; dsimp only at e0 e1 e2 e3 e4 e5 e6; go_simp); (try with_reducible rfl))
                  intro wq hwq
                  replace hS := hS.trans hwq
                  (try simp only [Act.put, List.setIfInBounds_toArray, List.set_cons_zero, List.set_cons_succ])
                  clear hwq
                  refine wpAnyK_take Later.refl (fun _ _ _ h k => h.trans k) (fun _ _ h k => h.trans k) (i := 6) (oi := { dst := some 65, op := _, type := _, pos := _, after := _, guard := _ }) (v := ?_) rfl (by kernel_rfl) (by kernel_rfl) (by kernel_rfl) (fun _ _ _ h => h) (Or.inl (Or.inl ⟨by rfl, ?_⟩)) hS ?_
                  rotate_left
                  focus ((intro w hSw; (try dsimp only at hSw); skip; go_simp); (try with_reducible rfl))
                  intro wq hwq
                  replace hS := hS.trans hwq
                  (try simp only [Act.put, List.setIfInBounds_toArray, List.set_cons_zero, List.set_cons_succ])
                  clear hwq
                  refine wpAnyK_take Later.refl (fun _ _ _ h k => h.trans k) (fun _ _ h k => h.trans k) (i := 7) (oi := { dst := some 66, op := _, type := _, pos := _, after := _, guard := _ }) (v := ?_) rfl (by kernel_rfl) (by kernel_rfl) (by kernel_rfl) (fun _ _ _ h => h) (Or.inl (Or.inl ⟨by rfl, ?_⟩)) hS ?_
                  rotate_left
                  focus ((intro w hSw; (try dsimp only at hSw); skip; go_simp); (try with_reducible rfl))
                  intro wq hwq
                  replace hS := hS.trans hwq
                  (try simp only [Act.put, List.setIfInBounds_toArray, List.set_cons_zero, List.set_cons_succ])
                  clear hwq
                  refine wpAnyK_take Later.refl (fun _ _ _ h k => h.trans k) (fun _ _ h k => h.trans k) (i := 8) (oi := { dst := some 67, op := _, type := _, pos := _, after := _, guard := _ }) (v := ?_) rfl (by kernel_rfl) (by kernel_rfl) (by kernel_rfl) (fun _ _ _ h => h) (Or.inl (Or.inl ⟨by rfl, ?_⟩)) hS ?_
                  rotate_left
                  focus ((intro w hSw; (try dsimp only at hSw); skip; go_simp); (try with_reducible rfl))
                  intro wq hwq
                  replace hS := hS.trans hwq
                  (try simp only [Act.put, List.setIfInBounds_toArray, List.set_cons_zero, List.set_cons_succ])
                  clear hwq
                  refine wpAnyK_take Later.refl (fun _ _ _ h k => h.trans k) (fun _ _ h k => h.trans k) (i := 9) (oi := { dst := some 68, op := _, type := _, pos := _, after := _, guard := _ }) (v := ?_) rfl (by kernel_rfl) (by kernel_rfl) (by kernel_rfl) (fun _ _ _ h => h) (Or.inl (Or.inl ⟨by rfl, ?_⟩)) hS ?_
                  rotate_left
                  focus ((intro w hSw; (try dsimp only at hSw); skip; go_simp); (try with_reducible rfl))
                  intro wq hwq
                  replace hS := hS.trans hwq
                  (try simp only [Act.put, List.setIfInBounds_toArray, List.set_cons_zero, List.set_cons_succ])
                  clear hwq
                  refine wpAnyK_take Later.refl (fun _ _ _ h k => h.trans k) (fun _ _ h k => h.trans k) (i := 10) (oi := { dst := some 69, op := _, type := _, pos := _, after := _, guard := _ }) (v := ?_) rfl (by kernel_rfl) (by kernel_rfl) (by kernel_rfl) (fun _ _ _ h => h) (Or.inl (Or.inl ⟨by rfl, ?_⟩)) hS ?_
                  rotate_left
                  focus ((intro w hSw; (try dsimp only at hSw); skip; go_simp); (try with_reducible rfl))
                  intro wq hwq
                  replace hS := hS.trans hwq
                  (try simp only [Act.put, List.setIfInBounds_toArray, List.set_cons_zero, List.set_cons_succ])
                  clear hwq
                  refine wpAnyK_take Later.refl (fun _ _ _ h k => h.trans k) (fun _ _ h k => h.trans k) (i := 11) (oi := { dst := some 70, op := _, type := _, pos := _, after := _, guard := _ }) (v := ?_) rfl (by kernel_rfl) (by kernel_rfl) (by kernel_rfl) (fun _ _ _ h => h) (Or.inl (Or.inl ⟨by rfl, ?_⟩)) hS ?_
                  rotate_left
                  focus ((intro w hSw; (try dsimp only at hSw); skip; go_simp); (try with_reducible rfl))
                  intro wq hwq
                  replace hS := hS.trans hwq
                  (try simp only [Act.put, List.setIfInBounds_toArray, List.set_cons_zero, List.set_cons_succ])
                  clear hwq
                  refine wpAnyK_take Later.refl (fun _ _ _ h k => h.trans k) (fun _ _ h k => h.trans k) (i := 12) (oi := { dst := some 71, op := _, type := _, pos := _, after := _, guard := _ }) (v := ?_) rfl (by kernel_rfl) (by kernel_rfl) (by kernel_rfl) (fun _ _ _ h => h) (Or.inl (Or.inl ⟨by rfl, ?_⟩)) hS ?_
                  rotate_left
                  focus ((intro w hSw; (try dsimp only at hSw); have e0 := (HE.out.later hSw).1.out; have e1 := (HE.out.later hSw).2.1.out; have e2 := (HE.out.later hSw).2.2.1.out; have e3 := (HE.out.later hSw).2.2.2.1.out; have e4 := (HE.out.later hSw).2.2.2.2.1.out; have e5 := (HE.out.later hSw).2.2.2.2.2.1.out; have e6 := (HE.out.later hSw).2.2.2.2.2.2.out; dsimp only at e0 e1 e2 e3 e4 e5 e6; go_simp); (try with_reducible rfl))
                  intro wq hwq
                  replace hS := hS.trans hwq
                  (try simp only [Act.put, List.setIfInBounds_toArray, List.set_cons_zero, List.set_cons_succ])
                  clear hwq
                  refine wpAnyK_take Later.refl (fun _ _ _ h k => h.trans k) (fun _ _ h k => h.trans k) (i := 13) (oi := { dst := some 72, op := _, type := _, pos := _, after := _, guard := _ }) (v := ?_) rfl (by kernel_rfl) (by kernel_rfl) (by kernel_rfl) (fun _ _ _ h => h) (Or.inl (Or.inl ⟨by rfl, ?_⟩)) hS ?_
                  rotate_left
                  focus ((intro w hSw; (try dsimp only at hSw); skip; go_simp); (try with_reducible rfl))
                  intro wq hwq
                  replace hS := hS.trans hwq
                  (try simp only [Act.put, List.setIfInBounds_toArray, List.set_cons_zero, List.set_cons_succ])
                  clear hwq
                  refine wpAnyK_take Later.refl (fun _ _ _ h k => h.trans k) (fun _ _ h k => h.trans k) (i := 14) (oi := { dst := some 73, op := _, type := _, pos := _, after := _, guard := _ }) (v := ?_) rfl (by kernel_rfl) (by kernel_rfl) (by kernel_rfl) (fun _ _ _ h => h) (Or.inl (Or.inl ⟨by rfl, ?_⟩)) hS ?_
                  rotate_left
                  focus ((intro w hSw; (try dsimp only at hSw); skip; go_simp); (try with_reducible rfl))
                  intro wq hwq
                  replace hS := hS.trans hwq
                  (try simp only [Act.put, List.setIfInBounds_toArray, List.set_cons_zero, List.set_cons_succ])
                  clear hwq
                  refine wpAnyK_take Later.refl (fun _ _ _ h k => h.trans k) (fun _ _ h k => h.trans k) (i := 15) (oi := { dst := some 74, op := _, type := _, pos := _, after := _, guard := _ }) (v := ?_) rfl (by kernel_rfl) (by kernel_rfl) (by kernel_rfl) (fun _ _ _ h => h) (Or.inl (Or.inl ⟨by rfl, ?_⟩)) hS ?_
                  rotate_left
                  focus ((intro w hSw; (try dsimp only at hSw); skip; go_simp); (try with_reducible rfl))
                  intro wq hwq
                  replace hS := hS.trans hwq
                  (try simp only [Act.put, List.setIfInBounds_toArray, List.set_cons_zero, List.set_cons_succ])
                  clear hwq
                  refine wpAnyK_take Later.refl (fun _ _ _ h k => h.trans k) (fun _ _ h k => h.trans k) (i := 16) (oi := { dst := some 75, op := _, type := _, pos := _, after := _, guard := _ }) (v := ?_) rfl (by kernel_rfl) (by kernel_rfl) (by kernel_rfl) (fun _ _ _ h => h) (Or.inl (Or.inl ⟨by rfl, ?_⟩)) hS ?_
                  rotate_left
                  focus ((intro w hSw; (try dsimp only at hSw); skip; go_simp); (try with_reducible rfl))
                  intro wq hwq
                  replace hS := hS.trans hwq
                  (try simp only [Act.put, List.setIfInBounds_toArray, List.set_cons_zero, List.set_cons_succ])
                  clear hwq
                  refine wpAnyK_take Later.refl (fun _ _ _ h k => h.trans k) (fun _ _ h k => h.trans k) (i := 17) (oi := { dst := some 76, op := _, type := _, pos := _, after := _, guard := _ }) (v := ?_) rfl (by kernel_rfl) (by kernel_rfl) (by kernel_rfl) (fun _ _ _ h => h) (Or.inl (Or.inl ⟨by rfl, ?_⟩)) hS ?_
                  rotate_left
                  focus ((intro w hSw; (try dsimp only at hSw); skip; go_simp); (try with_reducible rfl))
                  intro wq hwq
                  replace hS := hS.trans hwq
                  (try simp only [Act.put, List.setIfInBounds_toArray, List.set_cons_zero, List.set_cons_succ])
                  clear hwq
                  refine wpAnyK_take Later.refl (fun _ _ _ h k => h.trans k) (fun _ _ h k => h.trans k) (i := 18) (oi := { dst := some 77, op := _, type := _, pos := _, after := _, guard := _ }) (v := ?_) rfl (by kernel_rfl) (by kernel_rfl) (by kernel_rfl) (fun _ _ _ h => h) (Or.inl (Or.inl ⟨by rfl, ?_⟩)) hS ?_
                  rotate_left
                  focus ((intro w hSw; (try dsimp only at hSw); skip; go_simp); (try with_reducible rfl))
                  intro wq hwq
                  replace hS := hS.trans hwq
                  (try simp only [Act.put, List.setIfInBounds_toArray, List.set_cons_zero, List.set_cons_succ])
                  clear hwq
                  refine wpAnyK_take Later.refl (fun _ _ _ h k => h.trans k) (fun _ _ h k => h.trans k) (i := 19) (oi := { dst := some 78, op := _, type := _, pos := _, after := _, guard := _ }) (v := ?_) rfl (by kernel_rfl) (by kernel_rfl) (by kernel_rfl) (fun _ _ _ h => h) (Or.inl (Or.inl ⟨by rfl, ?_⟩)) hS ?_
                  rotate_left
                  focus ((intro w hSw; (try dsimp only at hSw); skip; go_simp); (try with_reducible rfl))
                  intro wq hwq
                  replace hS := hS.trans hwq
                  (try simp only [Act.put, List.setIfInBounds_toArray, List.set_cons_zero, List.set_cons_succ])
                  clear hwq
                  refine wpAnyK_take Later.refl (fun _ _ _ h k => h.trans k) (fun _ _ h k => h.trans k) (i := 20) (oi := { dst := some 79, op := _, type := _, pos := _, after := _, guard := _ }) (v := ?_) rfl (by kernel_rfl) (by kernel_rfl) (by kernel_rfl) (fun _ _ _ h => h) (Or.inl (Or.inl ⟨by rfl, ?_⟩)) hS ?_
                  rotate_left
                  focus ((intro w hSw; (try dsimp only at hSw); skip; go_simp); (try with_reducible rfl))
                  intro wq hwq
                  replace hS := hS.trans hwq
                  (try simp only [Act.put, List.setIfInBounds_toArray, List.set_cons_zero, List.set_cons_succ])
                  clear hwq
                  refine wpAnyK_take Later.refl (fun _ _ _ h k => h.trans k) (fun _ _ h k => h.trans k) (i := 21) (oi := { dst := some 80, op := _, type := _, pos := _, after := _, guard := _ }) (v := ?_) rfl (by kernel_rfl) (by kernel_rfl) (by kernel_rfl) (fun _ _ _ h => h) (Or.inl (Or.inl ⟨by rfl, ?_⟩)) hS ?_
                  rotate_left
                  focus ((intro w hSw; (try dsimp only at hSw); have e0 := (HE.out.later hSw).1.out; have e1 := (HE.out.later hSw).2.1.out; have e2 := (HE.out.later hSw).2.2.1.out; have e3 := (HE.out.later hSw).2.2.2.1.out; have e4 := (HE.out.later hSw).2.2.2.2.1.out; have e5 := (HE.out.later hSw).2.2.2.2.2.1.out; have e6 := (HE.out.later hSw).2.2.2.2.2.2.out; dsimp only at e0 e1 e2 e3 e4 e5 e6; go_simp); (try with_reducible rfl))
                  intro wq hwq
                  replace hS := hS.trans hwq
                  (try simp only [Act.put, List.setIfInBounds_toArray, List.set_cons_zero, List.set_cons_succ])
                  clear hwq
                  refine wpAnyK_take Later.refl (fun _ _ _ h k => h.trans k) (fun _ _ h k => h.trans k) (i := 22) (oi := { dst := some 81, op := _, type := _, pos := _, after := _, guard := _ }) (v := ?_) rfl (by kernel_rfl) (by kernel_rfl) (by kernel_rfl) (fun _ _ _ h => h) (Or.inl (Or.inl ⟨by rfl, ?_⟩)) hS ?_
                  rotate_left
                  focus ((intro w hSw; (try dsimp only at hSw); skip; go_simp); (try with_reducible rfl))
                  intro wq hwq
                  replace hS := hS.trans hwq
                  (try simp only [Act.put, List.setIfInBounds_toArray, List.set_cons_zero, List.set_cons_succ])
                  clear hwq
                  refine wpAnyK_take Later.refl (fun _ _ _ h k => h.trans k) (fun _ _ h k => h.trans k) (i := 23) (oi := { dst := some 82, op := _, type := _, pos := _, after := _, guard := _ }) (v := ?_) rfl (by kernel_rfl) (by kernel_rfl) (by kernel_rfl) (fun _ _ _ h => h) (Or.inl (Or.inl ⟨by rfl, ?_⟩)) hS ?_
                  rotate_left
                  focus ((intro w hSw; (try dsimp only at hSw); skip; go_simp); (try with_reducible rfl))
                  intro wq hwq
                  replace hS := hS.trans hwq
                  (try simp only [Act.put, List.setIfInBounds_toArray, List.set_cons_zero, List.set_cons_succ])
                  clear hwq
                  refine wpAnyK_take Later.refl (fun _ _ _ h k => h.trans k) (fun _ _ h k => h.trans k) (i := 24) (oi := { dst := some 83, op := _, type := _, pos := _, after := _, guard := _ }) (v := ?_) rfl (by kernel_rfl) (by kernel_rfl) (by kernel_rfl) (fun _ _ _ h => h) (Or.inl (Or.inl ⟨by rfl, ?_⟩)) hS ?_
                  rotate_left
                  focus ((intro w hSw; (try dsimp only at hSw); have s0 := (HBS.out.later (HLW.out.trans hSw)).cell 0 _ rfl; have s1 := (HBS.out.later (HLW.out.trans hSw)).cell 1 _ rfl; go_simp); (try with_reducible rfl))
                  intro wq hwq
                  replace hS := hS.trans hwq
                  (try simp only [Act.put, List.setIfInBounds_toArray, List.set_cons_zero, List.set_cons_succ])
                  clear hwq
                  refine wpAnyK_take Later.refl (fun _ _ _ h k => h.trans k) (fun _ _ h k => h.trans k) (i := 25) (oi := { dst := some 84, op := _, type := _, pos := _, after := _, guard := _ }) (v := ?_) rfl (by kernel_rfl) (by kernel_rfl) (by kernel_rfl) (fun _ _ _ h => h) (Or.inl (Or.inl ⟨by rfl, ?_⟩)) hS ?_
                  rotate_left
                  focus ((intro w hSw; (try dsimp only at hSw); skip; go_simp); (try with_reducible rfl))
                  intro wq hwq
                  replace hS := hS.trans hwq
                  (try simp only [Act.put, List.setIfInBounds_toArray, List.set_cons_zero, List.set_cons_succ])
                  clear hwq
                  refine wpAnyK_take Later.refl (fun _ _ _ h k => h.trans k) (fun _ _ h k => h.trans k) (i := 26) (oi := { dst := some 85, op := _, type := _, pos := _, after := _, guard := _ }) (v := ?_) rfl (by kernel_rfl) (by kernel_rfl) (by kernel_rfl) (fun _ _ _ h => h) (Or.inl (Or.inl ⟨by rfl, ?_⟩)) hS ?_
                  rotate_left
                  focus ((intro w hSw; (try dsimp only at hSw); skip; go_simp); (try with_reducible rfl))
                  intro wq hwq
                  replace hS := hS.trans hwq
                  (try simp only [Act.put, List.setIfInBounds_toArray, List.set_cons_zero, List.set_cons_succ])
                  clear hwq
                  refine wpAnyK_take Later.refl (fun _ _ _ h k => h.trans k) (fun _ _ h k => h.trans k) (i := 27) (oi := { dst := some 86, op := _, type := _, pos := _, after := _, guard := _ }) (v := ?_) rfl (by kernel_rfl) (by kernel_rfl) (by kernel_rfl) (fun _ _ _ h => h) (Or.inl (Or.inl ⟨by rfl, ?_⟩)) hS ?_
                  rotate_left
                  focus ((intro w hSw; (try dsimp only at hSw); skip; go_simp); (try with_reducible rfl))
                  intro wq hwq
                  replace hS := hS.trans hwq
                  (try simp only [Act.put, List.setIfInBounds_toArray, List.set_cons_zero, List.set_cons_succ])
                  clear hwq
                  refine wpAnyK_take Later.refl (fun _ _ _ h k => h.trans k) (fun _ _ h k => h.trans k) (i := 28) (oi := { dst := some 87, op := _, type := _, pos := _, after := _, guard := _ }) (v := ?_) rfl (by kernel_rfl) (by kernel_rfl) (by kernel_rfl) (fun _ _ _ h => h) (Or.inl (Or.inl ⟨by rfl, ?_⟩)) hS ?_
                  rotate_left
                  focus ((intro w hSw; (try dsimp only at hSw); have c2 := hSw.cell HC2.out; go_simp); (try with_reducible rfl))
                  intro wq hwq
                  replace hS := hS.trans hwq
                  (try simp only [Act.put, List.setIfInBounds_toArray, List.set_cons_zero, List.set_cons_succ])
                  clear hwq
                  refine wpAnyK_take Later.refl (fun _ _ _ h k => h.trans k) (fun _ _ h k => h.trans k) (i := 29) (oi := { dst := some 88, op := _, type := _, pos := _, after := _, guard := _ }) (v := ?_) rfl (by kernel_rfl) (by kernel_rfl) (by kernel_rfl) (fun _ _ _ h => h) (Or.inl (Or.inl ⟨by rfl, ?_⟩)) hS ?_
                  rotate_left
                  focus ((intro w hSw; (try dsimp only at hSw); skip; go_simp); (try with_reducible rfl))
                  intro wq hwq
                  replace hS := hS.trans hwq
                  (try simp only [Act.put, List.setIfInBounds_toArray, List.set_cons_zero, List.set_cons_succ])
                  clear hwq
                  refine wpAnyK_take Later.refl (fun _ _ _ h k => h.trans k) (fun _ _ h k => h.trans k) (i := 30) (oi := { dst := some 89, op := _, type := _, pos := _, after := _, guard := _ }) (v := ?_) rfl (by kernel_rfl) (by kernel_rfl) (by kernel_rfl) (fun _ _ _ h => h) (Or.inl (Or.inl ⟨by rfl, ?_⟩)) hS ?_
                  rotate_left
                  focus ((intro w hSw; (try dsimp only at hSw); skip; go_simp); (try with_reducible rfl))
                  intro wq hwq
                  replace hS := hS.trans hwq
                  (try simp only [Act.put, List.setIfInBounds_toArray, List.set_cons_zero, List.set_cons_succ])
                  clear hwq
                  refine wpAnyK_take Later.refl (fun _ _ _ h k => h.trans k) (fun _ _ h k => h.trans k) (i := 31) (oi := { dst := some 90, op := _, type := _, pos := _, after := _, guard := _ }) (v := ?_) rfl (by kernel_rfl) (by kernel_rfl) (by kernel_rfl) (fun _ _ _ h => h) (Or.inl (Or.inl ⟨by rfl, ?_⟩)) hS ?_
                  rotate_left
                  focus ((intro w hSw; (try dsimp only at hSw); skip; go_simp); (try with_reducible rfl))
                  intro wq hwq
                  replace hS := hS.trans hwq
                  (try simp only [Act.put, List.setIfInBounds_toArray, List.set_cons_zero, List.set_cons_succ])
                  clear hwq
                  refine wpAnyK_done (by kernel_rfl) ?_ _
                  have HS2 := Lib.hid hS
                  clear hS
                  go_wp2_with fail
                  go_meet
                  exact ⟨by rw [hm]; rfl, HS2.out⟩
                · have hd7 : decide (op < 7) = false := by simpa using h7
                  have hm : (!mt) = false := by rw [HMQ.out]; simp [hv, h7]
                  clear hv h7
                  refine wp_region_K (S := fun W : World => Later W9 W) (R := Later) (fun _ => Later.refl _) (by kernel_rfl) ?_
                  have hS : (fun W : World => Later W9 W) W9.drew := (Later.refl W9).drew
                  refine wpAnyK_take Later.refl (fun _ _ _ h k => h.trans k) (fun _ _ h k => h.trans k) (i := 0) (oi := { dst := some 59, op := _, type := _, pos := _, after := _, guard := _ }) (v := ?_) rfl (by kernel_rfl) (by kernel_rfl) (by kernel_rfl) (fun _ _ _ h => h) (Or.inl (Or.inl ⟨by rfl, ?_⟩)) hS ?_
                  rotate_left
                  focus ((intro w hSw; (try dsimp only at hSw); skip; go_simp); (try with_reducible rfl))
                  intro wq hwq
                  replace hS := hS.trans hwq
                  (try simp only [Act.put, List.setIfInBounds_toArray, List.set_cons_zero, List.set_cons_succ])
                  clear hwq
                  refine wpAnyK_take Later.refl (fun _ _ _ h k => h.trans k) (fun _ _ h k => h.trans k) (i := 1) (oi := { dst := some 60, op := _, type := _, pos := _, after := _, guard := _ }) (v := ?_) rfl (by kernel_rfl) (by kernel_rfl) (by kernel_rfl) (fun _ _ _ h => h) (Or.inl (Or.inl ⟨by rfl, ?_⟩)) hS ?_
                  rotate_left
                  focus ((intro w hSw; (try dsimp only at hSw); skip; go_simp); (try with_reducible rfl))
                  intro wq hwq
                  replace hS := hS.trans hwq
                  (try simp only [Act.put, List.setIfInBounds_toArray, List.set_cons_zero, List.set_cons_succ])
                  clear hwq
                  refine wpAnyK_take Later.refl (fun _ _ _ h k => h.trans k) (fun _ _ h k => h.trans k) (i := 2) (oi := { dst := some 61, op := _, type := _, pos := _, after := _, guard := _ }) (v := ?_) rfl (by kernel_rfl) (by kernel_rfl) (by kernel_rfl) (fun _ _ _ h => h) (Or.inl (Or.inl ⟨by rfl, ?_⟩)) hS ?_
                  rotate_left
                  focus ((intro w hSw; (try dsimp only at hSw); skip; go_simp); (try with_reducible rfl))
                  intro wq hwq
                  replace hS := hS.trans hwq
                  (try simp only [Act.put, List.setIfInBounds_toArray, List.set_cons_zero, List.set_cons_succ])
                  clear hwq
                  refine wpAnyK_take Later.refl (fun _ _ _ h k => h.trans k) (fun _ _ h k => h.trans k) (i := 3) (oi := { dst := some 62, op := _, type := _, pos := _, after := _, guard := _ }) (v := ?_) rfl (by kernel_rfl) (by kernel_rfl) (by kernel_rfl) (fun _ _ _ h => h) (Or.inl (Or.inl ⟨by rfl, ?_⟩)) hS ?_
                  rotate_left
                  focus ((intro w hSw; (try dsimp only at hSw); skip; go_simp); (try with_reducible rfl))
                  intro wq hwq
                  replace hS := hS.trans hwq
                  (try simp only [Act.put, List.setIfInBounds_toArray, List.set_cons_zero, List.set_cons_succ])
                  clear hwq
                  refine wpAnyK_take Later.refl (fun _ _ _ h k => h.trans k) (fun _ _ h k => h.trans k) (i := 4) (oi := { dst := some 63, op := _, type := _, pos := _, after := _, guard := _ }) (v := ?_) rfl (by kernel_rfl) (by kernel_rfl) (by kernel_rfl) (fun _ _ _ h => h) (Or.inl (Or.inl ⟨by rfl, ?_⟩)) hS ?_
                  rotate_left
                  focus ((intro w hSw; (try dsimp only at hSw); skip; go_simp); (try with_reducible rfl))
                  intro wq hwq
                  replace hS := hS.trans hwq
                  (try simp only [Act.put, List.setIfInBounds_toArray, List.set_cons_zero, List.set_cons_succ])
                  clear hwq
                  refine wpAnyK_take Later.refl (fun _ _ _ h k => h.trans k) (fun _ _ h k => h.trans k) (i := 5) (oi := { dst := some 64, op := _, type := _, pos := _, after := _, guard := _ }) (v := ?_) rfl (by kernel_rfl) (by kernel_rfl) (by kernel_rfl) (fun _ _ _ h => h) (Or.inl (Or.inl ⟨by rfl, ?_⟩)) hS ?_
                  rotate_left
                  focus ((intro w hSw; (try dsimp only at hSw); have e0 := (HE.out.later hSw).1.out; have e1 := (HE.out.later hSw).2.1.out; have e2 := (HE.out.later hSw).2.2.1.out; have e3 := (HE.out.later hSw).2.2.2.1.out; have e4 := (HE.out.later hSw).2.2.2.2.1.out; have e5 := (HE.out.later hSw).2.2.2.2.2.1.out; have e6 := (HE.out.later hSw).2.2.2.2.2.2.out; dsimp only at e0 e1 e2 e3 e4 e5 e6; go_simp); (try with_reducible rfl))
                  intro wq hwq
                  replace hS := hS.trans hwq
                  (try simp only [Act.put, List.setIfInBounds_toArray, List.set_cons_zero, List.set_cons_succ])
                  clear hwq
                  refine wpAnyK_take Later.refl (fun _ _ _ h k => h.trans k) (fun _ _ h k => h.trans k) (i := 6) (oi := { dst := some 65, op := _, type := _, pos := _, after := _, guard := _ }) (v := ?_) rfl (by kernel_rfl) (by kernel_rfl) (by kernel_rfl) (fun _ _ _ h => h) (Or.inl (Or.inl ⟨by rfl, ?_⟩)) hS ?_
                  rotate_left
                  focus ((intro w hSw; (try dsimp only at hSw); skip; go_simp); (try with_reducible rfl))
                  intro wq hwq
                  replace hS := hS.trans hwq
                  (try simp only [Act.put, List.setIfInBounds_toArray, List.set_cons_zero, List.set_cons_succ])
                  clear hwq
                  refine wpAnyK_take Later.refl (fun _ _ _ h k => h.trans k) (fun _ _ h k => h.trans k) (i := 7) (oi := { dst := some 66, op := _, type := _, pos := _, after := _, guard := _ }) (v := ?_) rfl (by kernel_rfl) (by kernel_rfl) (by kernel_rfl) (fun _ _ _ h => h) (Or.inl (Or.inl ⟨by rfl, ?_⟩)) hS ?_
                  rotate_left
                  focus ((intro w hSw; (try dsimp only at hSw); skip; go_simp); (try with_reducible rfl))
                  intro wq hwq
                  replace hS := hS.trans hwq
                  (try simp only [Act.put, List.setIfInBounds_toArray, List.set_cons_zero, List.set_cons_succ])
                  clear hwq
                  refine wpAnyK_take Later.refl (fun _ _ _ h k => h.trans k) (fun _ _ h k => h.trans k) (i := 8) (oi := { dst := some 67, op := _, type := _, pos := _, after := _, guard := _ }) (v := ?_) rfl (by kernel_rfl) (by kernel_rfl) (by kernel_rfl) (fun _ _ _ h => h) (Or.inl (Or.inl ⟨by rfl, ?_⟩)) hS ?_
                  rotate_left
                  focus ((intro w hSw; (try dsimp only at hSw); skip; go_simp); (try with_reducible rfl))
                  intro wq hwq
                  replace hS := hS.trans hwq
                  (try simp only [Act.put, List.setIfInBounds_toArray, List.set_cons_zero, List.set_cons_succ])
                  clear hwq
                  refine wpAnyK_take Later.refl (fun _ _ _ h k => h.trans k) (fun _ _ h k => h.trans k) (i := 9) (oi := { dst := some 68, op := _, type := _, pos := _, after := _, guard := _ }) (v := ?_) rfl (by kernel_rfl) (by kernel_rfl) (by kernel_rfl) (fun _ _ _ h => h) (Or.inl (Or.inl ⟨by rfl, ?_⟩)) hS ?_
                  rotate_left
                  focus ((intro w hSw; (try dsimp only at hSw); skip; go_simp); (try with_reducible rfl))
                  intro wq hwq
                  replace hS := hS.trans hwq
                  (try simp only [Act.put, List.setIfInBounds_toArray, List.set_cons_zero, List.set_cons_succ])
                  clear hwq
                  refine wpAnyK_take Later.refl (fun _ _ _ h k => h.trans k) (fun _ _ h k => h.trans k) (i := 10) (oi := { dst := some 69, op := _, type := _, pos := _, after := _, guard := _ }) (v := ?_) rfl (by kernel_rfl) (by kernel_rfl) (by kernel_rfl) (fun _ _ _ h => h) (Or.inl (Or.inl ⟨by rfl, ?_⟩)) hS ?_
                  rotate_left
                  focus ((intro w hSw; (try dsimp only at hSw); skip; go_simp); (try with_reducible rfl))
                  intro wq hwq
                  replace hS := hS.trans hwq
                  (try simp only [Act.put, List.setIfInBounds_toArray, List.set_cons_zero, List.set_cons_succ])
                  clear hwq
                  refine wpAnyK_take Later.refl (fun _ _ _ h k => h.trans k) (fun _ _ h k => h.trans k) (i := 11) (oi := { dst := some 70, op := _, type := _, pos := _, after := _, guard := _ }) (v := ?_) rfl (by kernel_rfl) (by kernel_rfl) (by kernel_rfl) (fun _ _ _ h => h) (Or.inl (Or.inl ⟨by rfl, ?_⟩)) hS ?_
                  rotate_left
                  focus ((intro w hSw; (try dsimp only at hSw); skip; go_simp); (try with_reducible rfl))
                  intro wq hwq
                  replace hS := hS.trans hwq
                  (try simp only [Act.put, List.setIfInBounds_toArray, List.set_cons_zero, List.set_cons_succ])
                  clear hwq
                  refine wpAnyK_take Later.refl (fun _ _ _ h k => h.trans k) (fun _ _ h k => h.trans k) (i := 12) (oi := { dst := some 71, op := _, type := _, pos := _, after := _, guard := _ }) (v := ?_) rfl (by kernel_rfl) (by kernel_rfl) (by kernel_rfl) (fun _ _ _ h => h) (Or.inl (Or.inl ⟨by rfl, ?_⟩)) hS ?_
                  rotate_left
                  focus ((intro w hSw; (try dsimp only at hSw); have e0 := (HE.out.later hSw).1.out; have e1 := (HE.out.later hSw).2.1.out; have e2 := (HE.out.later hSw).2.2.1.out; have e3 := (HE.out.later hSw).2.2.2.1.out; have e4 := (HE.out.later hSw).2.2.2.2.1.out; have e5 := (HE.out.later hSw).2.2.2.2.2.1.out; have e6 := (HE.out.later hSw).2.2.2.2.2.2.out; dsimp only at e0 e1 e2 e3 e4 e5 e6; go_simp); (try with_reducible rfl))
                  intro wq hwq
                  replace hS := hS.trans hwq
                  (try simp only [Act.put, List.setIfInBounds_toArray, List.set_cons_zero, List.set_cons_succ])
                  clear hwq
                  refine wpAnyK_take Later.refl (fun _ _ _ h k => h.trans k) (fun _ _ h k => h.trans k) (i := 13) (oi := { dst := some 72, op := _, type := _, pos := _, after := _, guard := _ }) (v := ?_) rfl (by kernel_rfl) (by kernel_rfl) (by kernel_rfl) (fun _ _ _ h => h) (Or.inl (Or.inl ⟨by rfl, ?_⟩)) hS ?_
                  rotate_left
                  focus ((intro w hSw; (try dsimp only at hSw); skip; go_simp); (try with_reducible rfl))
                  intro wq hwq
                  replace hS := hS.trans hwq
                  (try simp only [Act.put, List.setIfInBounds_toArray, List.set_cons_zero, List.set_cons_succ])
                  clear hwq
                  refine wpAnyK_take Later.refl (fun _ _ _ h k => h.trans k) (fun _ _ h k => h.trans k) (i := 14) (oi := { dst := some 73, op := _, type := _, pos := _, after := _, guard := _ }) (v := ?_) rfl (by kernel_rfl) (by kernel_rfl) (by kernel_rfl) (fun _ _ _ h => h) (Or.inl (Or.inl ⟨by rfl, ?_⟩)) hS ?_
                  rotate_left
                  focus ((intro w hSw; (try dsimp only at hSw); skip; go_simp); (try with_reducible rfl))
                  intro wq hwq
                  replace hS := hS.trans hwq
                  (try simp only [Act.put, List.setIfInBounds_toArray, List.set_cons_zero, List.set_cons_succ])
                  clear hwq
                  refine wpAnyK_take Later.refl (fun _ _ _ h k => h.trans k) (fun _ _ h k => h.trans k) (i := 15) (oi := { dst := some 74, op := _, type := _, pos := _, after := _, guard := _ }) (v := ?_) rfl (by kernel_rfl) (by kernel_rfl) (by kernel_rfl) (fun _ _ _ h => h) (Or.inl (Or.inl ⟨by rfl, ?_⟩)) hS ?_
                  rotate_left
                  focus ((intro w hSw; (try dsimp only at hSw); skip; go_simp); (try with_reducible rfl))
                  intro wq hwq
                  replace hS := hS.trans hwq
                  (try simp only [Act.put, List.setIfInBounds_toArray, List.set_cons_zero, List.set_cons_succ])
                  clear hwq
                  refine wpAnyK_take Later.refl (fun _ _ _ h k => h.trans k) (fun _ _ h k => h.trans k) (i := 16) (oi := { dst := some 75, op := _, type := _, pos := _, after := _, guard := _ }) (v := undef) rfl (by kernel_rfl) (by kernel_rfl) (by kernel_rfl) (fun _ _ _ h => h) (Or.inl (Or.inr ⟨by rfl, rfl⟩)) hS ?_
                  intro wq hwq
                  replace hS := hS.trans hwq
                  (try simp only [Act.put, List.setIfInBounds_toArray, List.set_cons_zero, List.set_cons_succ])
                  clear hwq
                  refine wpAnyK_take Later.refl (fun _ _ _ h k => h.trans k) (fun _ _ h k => h.trans k) (i := 17) (oi := { dst := some 76, op := _, type := _, pos := _, after := _, guard := _ }) (v := undef) rfl (by kernel_rfl) (by kernel_rfl) (by kernel_rfl) (fun _ _ _ h => h) (Or.inl (Or.inr ⟨by rfl, rfl⟩)) hS ?_
                  intro wq hwq
                  replace hS := hS.trans hwq
                  (try simp only [Act.put, List.setIfInBounds_toArray, List.set_cons_zero, List.set_cons_succ])
                  clear hwq
                  refine wpAnyK_take Later.refl (fun _ _ _ h k => h.trans k) (fun _ _ h k => h.trans k) (i := 18) (oi := { dst := some 77, op := _, type := _, pos := _, after := _, guard := _ }) (v := undef) rfl (by kernel_rfl) (by kernel_rfl) (by kernel_rfl) (fun _ _ _ h => h) (Or.inl (Or.inr ⟨by rfl, rfl⟩)) hS ?_
                  intro wq hwq
                  replace hS := hS.trans hwq
                  (try simp only [Act.put, List.setIfInBounds_toArray, List.set_cons_zero, List.set_cons_succ])
                  clear hwq
                  refine wpAnyK_take Later.refl (fun _ _ _ h k => h.trans k) (fun _ _ h k => h.trans k) (i := 19) (oi := { dst := some 78, op := _, type := _, pos := _, after := _, guard := _ }) (v := undef) rfl (by kernel_rfl) (by kernel_rfl) (by kernel_rfl) (fun _ _ _ h => h) (Or.inl (Or.inr ⟨by rfl, rfl⟩)) hS ?_
                  intro wq hwq
                  replace hS := hS.trans hwq
                  (try simp only [Act.put, List.setIfInBounds_toArray, List.set_cons_zero, List.set_cons_succ])
                  clear hwq
                  refine wpAnyK_take Later.refl (fun _ _ _ h k => h.trans k) (fun _ _ h k => h.trans k) (i := 20) (oi := { dst := some 79, op := _, type := _, pos := _, after := _, guard := _ }) (v := undef) rfl (by kernel_rfl) (by kernel_rfl) (by kernel_rfl) (fun _ _ _ h => h) (Or.inl (Or.inr ⟨by rfl, rfl⟩)) hS ?_
                  intro wq hwq
                  replace hS := hS.trans hwq
                  (try simp only [Act.put, List.setIfInBounds_toArray, List.set_cons_zero, List.set_cons_succ])
                  clear hwq
                  refine wpAnyK_take Later.refl (fun _ _ _ h k => h.trans k) (fun _ _ h k => h.trans k) (i := 21) (oi := { dst := some 80, op := _, type := _, pos := _, after := _, guard := _ }) (v := undef) rfl (by kernel_rfl) (by kernel_rfl) (by kernel_rfl) (fun _ _ _ h => h) (Or.inl (Or.inr ⟨by rfl, rfl⟩)) hS ?_
                  intro wq hwq
                  replace hS := hS.trans hwq
                  (try simp only [Act.put, List.setIfInBounds_toArray, List.set_cons_zero, List.set_cons_succ])
                  clear hwq
                  refine wpAnyK_take Later.refl (fun _ _ _ h k => h.trans k) (fun _ _ h k => h.trans k) (i := 22) (oi := { dst := some 81, op := _, type := _, pos := _, after := _, guard := _ }) (v := undef) rfl (by kernel_rfl) (by kernel_rfl) (by kernel_rfl) (fun _ _ _ h => h) (Or.inl (Or.inr ⟨by rfl, rfl⟩)) hS ?_
                  intro wq hwq
                  replace hS := hS.trans hwq
                  (try simp only [Act.put, List.setIfInBounds_toArray, List.set_cons_zero, List.set_cons_succ])
                  clear hwq
                  refine wpAnyK_take Later.refl (fun _ _ _ h k => h.trans k) (fun _ _ h k => h.trans k) (i := 23) (oi := { dst := some 82, op := _, type := _, pos := _, after := _, guard := _ }) (v := undef) rfl (by kernel_rfl) (by kernel_rfl) (by kernel_rfl) (fun _ _ _ h => h) (Or.inl (Or.inr ⟨by rfl, rfl⟩)) hS ?_
                  intro wq hwq
                  replace hS := hS.trans hwq
                  (try simp only [Act.put, List.setIfInBounds_toArray, List.set_cons_zero, List.set_cons_succ])
                  clear hwq
                  refine wpAnyK_take Later.refl (fun _ _ _ h k => h.trans k) (fun _ _ h k => h.trans k) (i := 24) (oi := { dst := some 83, op := _, type := _, pos := _, after := _, guard := _ }) (v := undef) rfl (by kernel_rfl) (by kernel_rfl) (by kernel_rfl) (fun _ _ _ h => h) (Or.inl (Or.inr ⟨by rfl, rfl⟩)) hS ?_
                  intro wq hwq
                  replace hS := hS.trans hwq
                  (try simp only [Act.put, List.setIfInBounds_toArray, List.set_cons_zero, List.set_cons_succ])
                  clear hwq
                  refine wpAnyK_take Later.refl (fun _ _ _ h k => h.trans k) (fun _ _ h k => h.trans k) (i := 25) (oi := { dst := some 84, op := _, type := _, pos := _, after := _, guard := _ }) (v := undef) rfl (by kernel_rfl) (by kernel_rfl) (by kernel_rfl) (fun _ _ _ h => h) (Or.inl (Or.inr ⟨by rfl, rfl⟩)) hS ?_
                  intro wq hwq
                  replace hS := hS.trans hwq
                  (try simp only [Act.put, List.setIfInBounds_toArray, List.set_cons_zero, List.set_cons_succ])
                  clear hwq
                  refine wpAnyK_take Later.refl (fun _ _ _ h k => h.trans k) (fun _ _ h k => h.trans k) (i := 26) (oi := { dst := some 85, op := _, type := _, pos := _, after := _, guard := _ }) (v := undef) rfl (by kernel_rfl) (by kernel_rfl) (by kernel_rfl) (fun _ _ _ h => h) (Or.inl (Or.inr ⟨by rfl, rfl⟩)) hS ?_
                  intro wq hwq
                  replace hS := hS.trans hwq
                  (try simp only [Act.put, List.setIfInBounds_toArray, List.set_cons_zero, List.set_cons_succ])
                  clear hwq
                  refine wpAnyK_take Later.refl (fun _ _ _ h k => h.trans k) (fun _ _ h k => h.trans k) (i := 27) (oi := { dst := some 86, op := _, type := _, pos := _, after := _, guard := _ }) (v := undef) rfl (by kernel_rfl) (by kernel_rfl) (by kernel_rfl) (fun _ _ _ h => h) (Or.inl (Or.inr ⟨by rfl, rfl⟩)) hS ?_
                  intro wq hwq
                  replace hS := hS.trans hwq
                  (try simp only [Act.put, List.setIfInBounds_toArray, List.set_cons_zero, List.set_cons_succ])
                  clear hwq
                  refine wpAnyK_take Later.refl (fun _ _ _ h k => h.trans k) (fun _ _ h k => h.trans k) (i := 28) (oi := { dst := some 87, op := _, type := _, pos := _, after := _, guard := _ }) (v := undef) rfl (by kernel_rfl) (by kernel_rfl) (by kernel_rfl) (fun _ _ _ h => h) (Or.inl (Or.inr ⟨by rfl, rfl⟩)) hS ?_
                  intro wq hwq
                  replace hS := hS.trans hwq
                  (try simp only [Act.put, List.setIfInBounds_toArray, List.set_cons_zero, List.set_cons_succ])
                  clear hwq
                  refine wpAnyK_take Later.refl (fun _ _ _ h k => h.trans k) (fun _ _ h k => h.trans k) (i := 29) (oi := { dst := some 88, op := _, type := _, pos := _, after := _, guard := _ }) (v := undef) rfl (by kernel_rfl) (by kernel_rfl) (by kernel_rfl) (fun _ _ _ h => h) (Or.inl (Or.inr ⟨by rfl, rfl⟩)) hS ?_
                  intro wq hwq
                  replace hS := hS.trans hwq
                  (try simp only [Act.put, List.setIfInBounds_toArray, List.set_cons_zero, List.set_cons_succ])
                  clear hwq
                  refine wpAnyK_take Later.refl (fun _ _ _ h k => h.trans k) (fun _ _ h k => h.trans k) (i := 30) (oi := { dst := some 89, op := _, type := _, pos := _, after := _, guard := _ }) (v := undef) rfl (by kernel_rfl) (by kernel_rfl) (by kernel_rfl) (fun _ _ _ h => h) (Or.inl (Or.inr ⟨by rfl, rfl⟩)) hS ?_
                  intro wq hwq
                  replace hS := hS.trans hwq
                  (try simp only [Act.put, List.setIfInBounds_toArray, List.set_cons_zero, List.set_cons_succ])
                  clear hwq
                  refine wpAnyK_take Later.refl (fun _ _ _ h k => h.trans k) (fun _ _ h k => h.trans k) (i := 31) (oi := { dst := some 90, op := _, type := _, pos := _, after := _, guard := _ }) (v := ?_) rfl (by kernel_rfl) (by kernel_rfl) (by kernel_rfl) (fun _ _ _ h => h) (Or.inl (Or.inl ⟨by rfl, ?_⟩)) hS ?_
                  rotate_left
                  focus ((intro w hSw; (try dsimp only at hSw); skip; go_simp); (try with_reducible rfl))
                  intro wq hwq
                  replace hS := hS.trans hwq
                  (try simp only [Act.put, List.setIfInBounds_toArray, List.set_cons_zero, List.set_cons_succ])
                  clear hwq
                  refine wpAnyK_done (by kernel_rfl) ?_ _
                  have HS2 := Lib.hid hS
                  clear hS
                  go_wp2_with fail
                  go_meet
                  exact ⟨by rw [hm], HS2.out⟩
            case rest =>
            obtain ⟨rfl, lx⟩ := hcut
            have HLY := Lib.hid (HLW.out.trans lx)
            have hst := HST2.out
            clear lx HE HMQ HC2 HST2 HLW
            cases mt with
            | true =>
              have HX := Lib.hid (show check2 cols (l.drop (k + 1)) = res from hst.1 rfl)
              clear hst
              go_wp2_with fail
              go_roundw
              case rel => exact C2I.mk _ (k + 1) (by omega) hlt HX.out HLY.out
              case measure => simp [intOf]; omega
            | false =>
              have HX := Lib.hid (show (4 : Int) = res from hst.2 rfl)
              have HLZ := Lib.hid (HL1.out.trans HLY.out)
              clear hst
              go_wp2_with fail
              go_ret
              rw [← HX.out]
              exact ⟨rfl, HLZ.out⟩
        · have HX := Lib.hid (show (0 : Int) = res from by
            rw [List.drop_eq_nil_of_le (by omega)] at hst
            exact hst)
          have HLZ := Lib.hid (HL1.out.trans lat)
          clear hst lat
          go_wp2_with fail
          go_ret
          rw [← HX.out]
          exact ⟨rfl, HLZ.out⟩
end Go.Proofs.YtkdpjocglfephaaDoor
