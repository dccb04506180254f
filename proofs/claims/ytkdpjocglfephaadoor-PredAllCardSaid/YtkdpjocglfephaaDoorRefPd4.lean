
import Derived.Test.YtkdpjocglfephaaDoorPredAM
import Derived.Test.YtkdpjocglfephaaDoorBase
import Derived.Test.YtkdpjocglfephaaDoorZoneM
import Derived.Test.YtkdpjocglfephaaDoorBatR
import Derived.Test.YtkdpjocglfephaaDoorPredB
import Derived.WalkKit
import Derived.LaidEql
import Derived.Stop.Asserts
import Derived.Stop.IfaceNil
import Derived.RowKitTokens
import Derived.Laws.OwnMore
import Derived.Laws.BytesArg
import Derived.Laws.Rows
import Derived.Deep.AppendLies
import Derived.Deep.Draws
import Derived.Test.YtkdpjocglfephaaDoorChecked
import Derived.Deep.OwnRows
import Derived.Lib.Hide
import Derived.Deep.Quiet
import Derived.Laws.AppendOwnNone
import Derived.Lib.Strings
import Derived.Outline
import Derived.WalkLawsBesides
import Derived.WalkSpells
import Derived.PlainAid
import Derived.Deep.QuietTactic
import Derived.BigQuiet
import Derived.RegionTactic
import Derived.BigRegion
import Derived.Handy
import Derived.Laws.BitsAllLaws
import Derived.Deep.RegionWith
import Derived.Lib.AppendStr
import Derived.Deep.RegionLaw
import Derived.Maps.AppendAt
import Derived.OpenShut
import Derived.WideShapes
import Derived.ChangeArms
import Derived.Deep.Slices
import Derived.Sort.Grow
import Derived.OrdersHeld
import Derived.Laws.BitsLemmas
import Derived.Laws.Bits64
import Derived.WalkSmall
import Derived.Lib.Bytealg
import Derived.Deep.SlicePairs
import Derived.Deep.RegionHeld3
import Derived.Test.YtkdpjocglfephaaDoorShelf
import Derived.Deep.CutBlock
import Derived.Deep.CutRange
import Derived.Shelf.Abstract
/- The document's Can of a segment. (tools/gen_refpd3.py) -/

namespace Go.Proofs.YtkdpjocglfephaaDoor
open Go.RowKit
set_option linter.unusedVariables false

theorem canT_at {cols : List Col3} {m : Int} {zs : List Zn} {t : Tst} {k : Nat} (h : findC cols t.nm = some k) (hk : k < zs.length) : canT cols m zs t = if t.not_ then true else canZ zs[k].n zs[k].a zs[k].b m t.op t.v := by
  unfold canT
  rw [h]
  simp [List.getElem?_eq_getElem hk]

set_option maxRecDepth 100000 in
set_option maxHeartbeats 4000000 in
theorem refPCan_any (A : Option Addr) (n c : Nat) (last : Int) (cols : List Col3) (T : Option Addr) (tn tc : Nat) (l : List Tst) (m : Int) (R : Option Addr) (rn rc : Nat) (zs : List Zn) (w : World) (hn : n = cols.length) (hl : n ≤ 100000) (hr : Has w A (fc cols)) (htn : tn = l.length) (htl : tn ≤ 100000) (hT : Has w T (ft l)) (hrn : rn = zs.length) (hrl : rn ≤ 100000) (hrow : Has w R (fz zs))
    (hok : ∀ t ∈ l, (1 ≤ t.op ∧ t.op ≤ 8) ∧ ∃ k, findC cols t.nm = some k ∧ k < zs.length) :
    Calls Tryd.prog 17 #[.agg #[.slice A n c, .int .i64 last], .slice T tn tc, .int .i64 m, .slice R rn rc] w fun e w' => e = .returned (.bool (predCan cols m zs l)) ∧ Later w w' := by
  subst htn
  obtain ⟨gz, hgz⟩ : ∃ g, w.heap.size = g := ⟨_, rfl⟩
  obtain ⟨w1, hw1⟩ : ∃ x : World, w.alloc (.cells #[.slice A n c, .int .i64 last] 33) = x := ⟨_, rfl⟩
  have BS := Blk.new w #[.slice A n c, .int .i64 last] 33 gz hgz.symm
  have L1 := Later.new w (.cells #[.slice A n c, .int .i64 last] 33)
  rw [hw1] at BS L1
  obtain ⟨res, hres⟩ : ∃ r, predCan cols m zs l = r := ⟨_, rfl⟩
  have HI0 := Lib.hid (CnI.mk (f := canT cols m zs) (l := l) (res := res) (w := w1) (wr := w1) 0 0 true rfl (Nat.zero_le _) hres (Later.refl _))
  rw [hres]
  have HRN := Lib.hid hrn
  have HN := Lib.hid hn
  have HBS := Lib.hid BS
  have HL1 := Lib.hid L1
  have HR := Lib.hid (hr.later L1)
  have HT := Lib.hid (hT.later L1)
  have HROW := Lib.hid (hrow.later L1)
  have HOK := Lib.hid hok
  have HG := Lib.hid hgz
  clear BS L1 hrn hn hr hT hrow hok hgz hres
  go_enter Tryd.func17, Tryd.ntmps17
  go_wp2_with fail
  clear hw1
  try rw [HG.out]
  go_loopw [9, 10] (fun gv iv wr => CnI (canT cols m zs) l res w1 gv iv wr) (fun _ i _ => l.length - (intOf i).toNat)
  case atStart => exact HI0.out
  case round =>
    obtain ⟨k, g, rfl, rfl, hk, hst, lat⟩ := hrel
    have HLW := Lib.hid lat
    clear HI0
    by_cases hlt : k < l.length
    · obtain ⟨tb, toff, hTA, hta⟩ := (HT.out.later lat).tst k hlt
      subst hTA
      obtain ⟨hop, fk, hfk, hfr⟩ := HOK.out _ (List.getElem_mem hlt)
      obtain ⟨zb, zo, hRA, hza⟩ := (HROW.out.later lat).zn fk hfr
      subst hRA
      have hnx := canGo_step hlt hst
      have hca := canT_at (m := m) hfk hfr
      have HFX := Lib.hid (show ∀ W, Later wr W → Calls Tryd.prog 30 #[.agg #[.slice A n c, .int .i64 last], .string l[k].nm] W (fun e w' => e = .returned (.tuple #[.int .i64 (fk : Int), .bool true]) ∧ Later W w') from fun W lW => by
        have h := refFindP_any A n c last cols l[k].nm W HN.out hl (HR.out.later (lat.trans lW))
        rw [hfk] at h
        exact h)
      have hfrz : (fk : Int) < (rn : Int) := by have := HRN.out; omega
      generalize l[k] = t at hta hop hfk hnx hca HFX
      generalize zs[fk] = z at hza hca
      obtain ⟨nm, op, ⟨vt, vi, vs⟩, o, nt⟩ := t
      obtain ⟨zn, ⟨a1, a2, a3⟩, ⟨b1, b2, b3⟩⟩ := z
      dsimp only at hop hfk hnx hca HFX
      obtain ⟨y, hy⟩ : ∃ y, canT cols m zs ⟨nm, op, (vt, vi, vs), o, nt⟩ = y := ⟨_, rfl⟩
      rw [hy] at hnx hca
      obtain ⟨bb, hbb⟩ : ∃ b, (decide (0 < k) && o) = b := ⟨_, rfl⟩
      rw [hbb] at hnx
      obtain ⟨fb, hfb⟩ : ∃ b, b = true := ⟨_, rfl⟩
      rw [← hfb] at HFX
      have HE := Lib.hid hta
      have HZ := Lib.hid hza
      have HBB := Lib.hid hbb
      have HNX0 := Lib.hid hnx
      have HY := Lib.hid (show (nt = true → y = true) ∧ (nt = false → y = canZ zn (a1, a2, a3) (b1, b2, b3) m op (vt, vi, vs)) from ⟨fun h => by rw [hca, h]; rfl, fun h => by rw [hca, h]; rfl⟩)
      have HOP := Lib.hid hop
      clear hta hza hbb hnx hca hop hy hfk hst lat hfb
      obtain ⟨W9, hW9⟩ : ∃ x, x = wr := ⟨_, rfl⟩
      subst hW9
      have hkz : (k : Int) < (l.length : Int) := by omega
      go_upto_region 5 with fail
      go_cut [27] from 19 to 27 (fun v wx => v = .bool bb ∧ W9 = wx)
      case first => as_aux_lemma =>
        have e5 := HE.out.2.2.2.2.2.1.out
        dsimp only at e5
        have hbb := HBB.out
        by_cases hk0 : k = 0
        · have hd : decide ((0 : Int) < (k : Int)) = false := by simp [hk0]
          have hd2 : decide (0 < k) = false := by simp [hk0]
          have hv : bb = false := by rw [← hbb, hk0]; rfl
          clear hbb hk0
          go_wp2_with fail
          go_meet
          exact ⟨by rw [hv], rfl⟩
        · have hd : decide ((0 : Int) < (k : Int)) = true := by simp; omega
          have hd2 : decide (0 < k) = true := by simp; omega
          have hv : bb = o := by rw [← hbb]; simp; omega
          clear hbb hk0
          go_wp2_with fail
          go_meet
          exact ⟨by rw [hv], rfl⟩
      case rest =>
      obtain ⟨rfl, rfl⟩ := hcut
      clear HBB
      rcases bb with _ | _
      · have HNX := Lib.hid (show canGo (canT cols m zs) (decide (k + 1 = 0)) (g && y) (l.drop (k + 1)) = res from HNX0.out)
        clear HNX0
        obtain ⟨g2, hg2⟩ : ∃ x, x = g := ⟨_, rfl⟩
        subst hg2
        have HFD := Lib.hid (fun W (h : Later W9 W) => HFX.out W h)
        go_upto_region 9 with fail
        go_cut [11, 12] from 29 to 38 (fun u1 u2 wx => u1 = .int .i64 (fk : Int) ∧ u2 = .bool fb ∧ Later W9 wx)
        case first => as_aux_lemma =>
          refine wp_region_K (S := fun W : World => Later W9 W) (R := Later) (fun _ => Later.refl _) (by kernel_rfl) ?_
          have hS : (fun W : World => Later W9 W) W9.drew := (Later.refl W9).drew
          refine wpAnyK_take Later.refl (fun _ _ _ h k => h.trans k) (fun _ _ h k => h.trans k) (i := 0) (oi := { dst := some 30, op := _, type := _, pos := _, after := _, guard := _ }) (v := ?_) rfl (by kernel_rfl) (by kernel_rfl) (by kernel_rfl) (fun _ _ _ h => h) (Or.inl (Or.inl ⟨by rfl, ?_⟩)) hS ?_
          rotate_left
          focus ((intro w hSw; (try dsimp only at hSw); have s0 := (HBS.out.later (HLW.out.trans hSw)).cell 0 _ rfl; have s1 := (HBS.out.later (HLW.out.trans hSw)).cell 1 _ rfl; go_simp); (try with_reducible rfl))
          intro wq hwq
          replace hS := hS.trans hwq
          (try simp only [Act.put, List.setIfInBounds_toArray, List.set_cons_zero, List.set_cons_succ])
          clear hwq
          refine wpAnyK_take Later.refl (fun _ _ _ h k => h.trans k) (fun _ _ h k => h.trans k) (i := 1) (oi := { dst := some 31, op := _, type := _, pos := _, after := _, guard := _ }) (v := ?_) rfl (by kernel_rfl) (by kernel_rfl) (by kernel_rfl) (fun _ _ _ h => h) (Or.inl (Or.inl ⟨by rfl, ?_⟩)) hS ?_
          rotate_left
          focus ((intro w hSw; (try dsimp only at hSw); skip; go_simp); (try with_reducible rfl))
          intro wq hwq
          replace hS := hS.trans hwq
          (try simp only [Act.put, List.setIfInBounds_toArray, List.set_cons_zero, List.set_cons_succ])
          clear hwq
          refine wpAnyK_take Later.refl (fun _ _ _ h k => h.trans k) (fun _ _ h k => h.trans k) (i := 2) (oi := { dst := some 32, op := _, type := _, pos := _, after := _, guard := _ }) (v := ?_) rfl (by kernel_rfl) (by kernel_rfl) (by kernel_rfl) (fun _ _ _ h => h) (Or.inl (Or.inl ⟨by rfl, ?_⟩)) hS ?_
          rotate_left
          focus ((intro w hSw; (try dsimp only at hSw); skip; go_simp); (try with_reducible rfl))
          intro wq hwq
          replace hS := hS.trans hwq
          (try simp only [Act.put, List.setIfInBounds_toArray, List.set_cons_zero, List.set_cons_succ])
          clear hwq
          refine wpAnyK_take Later.refl (fun _ _ _ h k => h.trans k) (fun _ _ h k => h.trans k) (i := 3) (oi := { dst := some 33, op := _, type := _, pos := _, after := _, guard := _ }) (v := ?_) rfl (by kernel_rfl) (by kernel_rfl) (by kernel_rfl) (fun _ _ _ h => h) (Or.inl (Or.inl ⟨by rfl, ?_⟩)) hS ?_
          rotate_left
          focus ((intro w hSw; (try dsimp only at hSw); skip; go_simp); (try with_reducible rfl))
          intro wq hwq
          replace hS := hS.trans hwq
          (try simp only [Act.put, List.setIfInBounds_toArray, List.set_cons_zero, List.set_cons_succ])
          clear hwq
          refine wpAnyK_take Later.refl (fun _ _ _ h k => h.trans k) (fun _ _ h k => h.trans k) (i := 4) (oi := { dst := some 34, op := _, type := _, pos := _, after := _, guard := _ }) (v := ?_) rfl (by kernel_rfl) (by kernel_rfl) (by kernel_rfl) (fun _ _ _ h => h) (Or.inl (Or.inl ⟨by rfl, ?_⟩)) hS ?_
          rotate_left
          focus ((intro w hSw; (try dsimp only at hSw); skip; go_simp); (try with_reducible rfl))
          intro wq hwq
          replace hS := hS.trans hwq
          (try simp only [Act.put, List.setIfInBounds_toArray, List.set_cons_zero, List.set_cons_succ])
          clear hwq
          refine wpAnyK_take Later.refl (fun _ _ _ h k => h.trans k) (fun _ _ h k => h.trans k) (i := 5) (oi := { dst := some 35, op := _, type := _, pos := _, after := _, guard := _ }) (v := ?_) rfl (by kernel_rfl) (by kernel_rfl) (by kernel_rfl) (fun _ _ _ h => h) (Or.inl (Or.inl ⟨by rfl, ?_⟩)) hS ?_
          rotate_left
          focus ((intro w hSw; (try dsimp only at hSw); have e0 := (HE.out.later hSw).1.out; have e1 := (HE.out.later hSw).2.1.out; have e2 := (HE.out.later hSw).2.2.1.out; have e3 := (HE.out.later hSw).2.2.2.1.out; have e4 := (HE.out.later hSw).2.2.2.2.1.out; have e5 := (HE.out.later hSw).2.2.2.2.2.1.out; have e6 := (HE.out.later hSw).2.2.2.2.2.2.out; dsimp only at e0 e1 e2 e3 e4 e5 e6; go_simp); (try with_reducible rfl))
          intro wq hwq
          replace hS := hS.trans hwq
          (try simp only [Act.put, List.setIfInBounds_toArray, List.set_cons_zero, List.set_cons_succ])
          clear hwq
          refine wpAnyK_take Later.refl (fun _ _ _ h k => h.trans k) (fun _ _ h k => h.trans k) (i := 6) (oi := { dst := some 36, op := _, type := _, pos := _, after := _, guard := _ }) (v := .tuple #[.int .i64 fk, .bool fb]) rfl (by kernel_rfl) (by kernel_rfl) (by kernel_rfl) (fun _ _ _ h => h) (Or.inr ⟨by rfl, 30, #[.agg #[.slice A n c, .int .i64 last], .string nm], fun W hW => ⟨?_, HFD.out W hW⟩⟩) hS ?_
          · first | rfl | (go_simp; done)
          intro wq hwq
          replace hS := hS.trans hwq
          (try simp only [Act.put, List.setIfInBounds_toArray, List.set_cons_zero, List.set_cons_succ])
          clear hwq
          refine wpAnyK_take Later.refl (fun _ _ _ h k => h.trans k) (fun _ _ h k => h.trans k) (i := 7) (oi := { dst := some 29, op := _, type := _, pos := _, after := _, guard := _ }) (v := ?_) rfl (by kernel_rfl) (by kernel_rfl) (by kernel_rfl) (fun _ _ _ h => h) (Or.inl (Or.inl ⟨by rfl, ?_⟩)) hS ?_
          rotate_left
          focus ((intro w hSw; (try dsimp only at hSw); skip; go_simp); (try with_reducible rfl))
          intro wq hwq
          replace hS := hS.trans hwq
          (try simp only [Act.put, List.setIfInBounds_toArray, List.set_cons_zero, List.set_cons_succ])
          clear hwq
          refine wpAnyK_take Later.refl (fun _ _ _ h k => h.trans k) (fun _ _ h k => h.trans k) (i := 8) (oi := { dst := some 37, op := _, type := _, pos := _, after := _, guard := _ }) (v := ?_) rfl (by kernel_rfl) (by kernel_rfl) (by kernel_rfl) (fun _ _ _ h => h) (Or.inl (Or.inl ⟨by rfl, ?_⟩)) hS ?_
          rotate_left
          focus ((intro w hSw; (try dsimp only at hSw); skip; go_simp); (try with_reducible rfl))
          intro wq hwq
          replace hS := hS.trans hwq
          (try simp only [Act.put, List.setIfInBounds_toArray, List.set_cons_zero, List.set_cons_succ])
          clear hwq
          refine wpAnyK_take Later.refl (fun _ _ _ h k => h.trans k) (fun _ _ h k => h.trans k) (i := 9) (oi := { dst := some 38, op := _, type := _, pos := _, after := _, guard := _ }) (v := ?_) rfl (by kernel_rfl) (by kernel_rfl) (by kernel_rfl) (fun _ _ _ h => h) (Or.inl (Or.inl ⟨by rfl, ?_⟩)) hS ?_
          rotate_left
          focus ((intro w hSw; (try dsimp only at hSw); skip; go_simp); (try with_reducible rfl))
          intro wq hwq
          replace hS := hS.trans hwq
          (try simp only [Act.put, List.setIfInBounds_toArray, List.set_cons_zero, List.set_cons_succ])
          clear hwq
          refine wpAnyK_take Later.refl (fun _ _ _ h k => h.trans k) (fun _ _ h k => h.trans k) (i := 10) (oi := { dst := some 11, op := _, type := _, pos := _, after := _, guard := _ }) (v := ?_) rfl (by kernel_rfl) (by kernel_rfl) (by kernel_rfl) (fun _ _ _ h => h) (Or.inl (Or.inl ⟨by rfl, ?_⟩)) hS ?_
          rotate_left
          focus ((intro w hSw; (try dsimp only at hSw); skip; go_simp); (try with_reducible rfl))
          intro wq hwq
          replace hS := hS.trans hwq
          (try simp only [Act.put, List.setIfInBounds_toArray, List.set_cons_zero, List.set_cons_succ])
          clear hwq
          refine wpAnyK_take Later.refl (fun _ _ _ h k => h.trans k) (fun _ _ h k => h.trans k) (i := 11) (oi := { dst := some 12, op := _, type := _, pos := _, after := _, guard := _ }) (v := ?_) rfl (by kernel_rfl) (by kernel_rfl) (by kernel_rfl) (fun _ _ _ h => h) (Or.inl (Or.inl ⟨by rfl, ?_⟩)) hS ?_
          rotate_left
          focus ((intro w hSw; (try dsimp only at hSw); skip; go_simp); (try with_reducible rfl))
          intro wq hwq
          replace hS := hS.trans hwq
          (try simp only [Act.put, List.setIfInBounds_toArray, List.set_cons_zero, List.set_cons_succ])
          clear hwq
          refine wpAnyK_done (by kernel_rfl) ?_ _
          have HS2 := Lib.hid hS
          clear hS
          go_wp2_with fail
          go_meet
          exact ⟨rfl, rfl, HS2.out⟩
        case rest =>
        obtain ⟨rfl, rfl, lx⟩ := hcut
        have HE := Lib.hid (HE.out.later lx)
        have HZ := Lib.hid (HZ.out.later lx)
        have HLX := Lib.hid (HLW.out.trans lx)
        clear lx HFD HFX HLW
        obtain ⟨W9, hW9⟩ : ∃ x, x = wc := ⟨_, rfl⟩
        subst hW9
        have HCZ := Lib.hid (fun (W : World) (h : Later W9 W) (hn : nt = false) => show Calls Tryd.prog 36 #[.agg #[.int .i64 zn, .int .i64 a1, .int .i64 a2, .string a3, .int .i64 b1, .int .i64 b2, .string b3], .int .i64 m, .int .i64 op, .agg #[.int .i64 vt, .int .i64 vi, .string vs]] W (fun e w' => e = .returned (.bool y) ∧ Later W w') from by
          rw [HY.out.2 hn]; exact refCanZ_any zn m op a1 a2 a3 b1 b2 b3 vt vi vs W HOP.out)
        go_upto_region 10 with fail
        go_cut [63] from 39 to 63 (fun v wx => v = .bool (!y) ∧ Later W9 wx)
        case first => as_aux_lemma =>
          cases nt with
          | true =>
            have hy := HY.out.1 rfl
            clear HCZ
            refine wp_region_K (S := fun W : World => Later W9 W) (R := Later) (fun _ => Later.refl _) (by kernel_rfl) ?_
            have hS : (fun W : World => Later W9 W) W9.drew := (Later.refl W9).drew
            refine wpAnyK_take Later.refl (fun _ _ _ h k => h.trans k) (fun _ _ h k => h.trans k) (i := 0) (oi := { dst := some 39, op := _, type := _, pos := _, after := _, guard := _ }) (v := ?_) rfl (by kernel_rfl) (by kernel_rfl) (by kernel_rfl) (fun _ _ _ h => h) (Or.inl (Or.inl ⟨by rfl, ?_⟩)) hS ?_
            rotate_left
            focus ((intro w hSw; (try dsimp only at hSw); skip; go_simp); (try with_reducible rfl))
            intro wq hwq
            replace hS := hS.trans hwq
            (try simp only [Act.put, List.setIfInBounds_toArray, List.set_cons_zero, List.set_cons_succ])
            clear hwq
            refine wpAnyK_take Later.refl (fun _ _ _ h k => h.trans k) (fun _ _ h k => h.trans k) (i := 1) (oi := { dst := some 40, op := _, type := _, pos := _, after := _, guard := _ }) (v := ?_) rfl (by kernel_rfl) (by kernel_rfl) (by kernel_rfl) (fun _ _ _ h => h) (Or.inl (Or.inl ⟨by rfl, ?_⟩)) hS ?_
            rotate_left
            focus ((intro w hSw; (try dsimp only at hSw); skip; go_simp); (try with_reducible rfl))
            intro wq hwq
            replace hS := hS.trans hwq
            (try simp only [Act.put, List.setIfInBounds_toArray, List.set_cons_zero, List.set_cons_succ])
            clear hwq
            refine wpAnyK_take Later.refl (fun _ _ _ h k => h.trans k) (fun _ _ h k => h.trans k) (i := 2) (oi := { dst := some 41, op := _, type := _, pos := _, after := _, guard := _ }) (v := ?_) rfl (by kernel_rfl) (by kernel_rfl) (by kernel_rfl) (fun _ _ _ h => h) (Or.inl (Or.inl ⟨by rfl, ?_⟩)) hS ?_
            rotate_left
            focus ((intro w hSw; (try dsimp only at hSw); skip; go_simp); (try with_reducible rfl))
            intro wq hwq
            replace hS := hS.trans hwq
            (try simp only [Act.put, List.setIfInBounds_toArray, List.set_cons_zero, List.set_cons_succ])
            clear hwq
            refine wpAnyK_take Later.refl (fun _ _ _ h k => h.trans k) (fun _ _ h k => h.trans k) (i := 3) (oi := { dst := some 42, op := _, type := _, pos := _, after := _, guard := _ }) (v := ?_) rfl (by kernel_rfl) (by kernel_rfl) (by kernel_rfl) (fun _ _ _ h => h) (Or.inl (Or.inl ⟨by rfl, ?_⟩)) hS ?_
            rotate_left
            focus ((intro w hSw; (try dsimp only at hSw); skip; go_simp); (try with_reducible rfl))
            intro wq hwq
            replace hS := hS.trans hwq
            (try simp only [Act.put, List.setIfInBounds_toArray, List.set_cons_zero, List.set_cons_succ])
            clear hwq
            refine wpAnyK_take Later.refl (fun _ _ _ h k => h.trans k) (fun _ _ h k => h.trans k) (i := 4) (oi := { dst := some 43, op := _, type := _, pos := _, after := _, guard := _ }) (v := ?_) rfl (by kernel_rfl) (by kernel_rfl) (by kernel_rfl) (fun _ _ _ h => h) (Or.inl (Or.inl ⟨by rfl, ?_⟩)) hS ?_
            rotate_left
            focus ((intro w hSw; (try dsimp only at hSw); have e0 := (HE.out.later hSw).1.out; have e1 := (HE.out.later hSw).2.1.out; have e2 := (HE.out.later hSw).2.2.1.out; have e3 := (HE.out.later hSw).2.2.2.1.out; have e4 := (HE.out.later hSw).2.2.2.2.1.out; have e5 := (HE.out.later hSw).2.2.2.2.2.1.out; have e6 := (HE.out.later hSw).2.2.2.2.2.2.out; dsimp only at e0 e1 e2 e3 e4 e5 e6; go_simp); (try with_reducible rfl))
            intro wq hwq
            replace hS := hS.trans hwq
            (try simp only [Act.put, List.setIfInBounds_toArray, List.set_cons_zero, List.set_cons_succ])
            clear hwq
            refine wpAnyK_take Later.refl (fun _ _ _ h k => h.trans k) (fun _ _ h k => h.trans k) (i := 5) (oi := { dst := some 44, op := _, type := _, pos := _, after := _, guard := _ }) (v := ?_) rfl (by kernel_rfl) (by kernel_rfl) (by kernel_rfl) (fun _ _ _ h => h) (Or.inl (Or.inl ⟨by rfl, ?_⟩)) hS ?_
            rotate_left
            focus ((intro w hSw; (try dsimp only at hSw); skip; go_simp); (try with_reducible rfl))
            intro wq hwq
            replace hS := hS.trans hwq
            (try simp only [Act.put, List.setIfInBounds_toArray, List.set_cons_zero, List.set_cons_succ])
            clear hwq
            refine wpAnyK_take Later.refl (fun _ _ _ h k => h.trans k) (fun _ _ h k => h.trans k) (i := 6) (oi := { dst := some 45, op := _, type := _, pos := _, after := _, guard := _ }) (v := ?_) rfl (by kernel_rfl) (by kernel_rfl) (by kernel_rfl) (fun _ _ _ h => h) (Or.inl (Or.inl ⟨by rfl, ?_⟩)) hS ?_
            rotate_left
            focus ((intro w hSw; (try dsimp only at hSw); skip; go_simp); (try with_reducible rfl))
            intro wq hwq
            replace hS := hS.trans hwq
            (try simp only [Act.put, List.setIfInBounds_toArray, List.set_cons_zero, List.set_cons_succ])
            clear hwq
            refine wpAnyK_take Later.refl (fun _ _ _ h k => h.trans k) (fun _ _ h k => h.trans k) (i := 7) (oi := { dst := some 46, op := _, type := _, pos := _, after := _, guard := _ }) (v := undef) rfl (by kernel_rfl) (by kernel_rfl) (by kernel_rfl) (fun _ _ _ h => h) (Or.inl (Or.inr ⟨by rfl, rfl⟩)) hS ?_
            intro wq hwq
            replace hS := hS.trans hwq
            (try simp only [Act.put, List.setIfInBounds_toArray, List.set_cons_zero, List.set_cons_succ])
            clear hwq
            refine wpAnyK_take Later.refl (fun _ _ _ h k => h.trans k) (fun _ _ h k => h.trans k) (i := 8) (oi := { dst := some 47, op := _, type := _, pos := _, after := _, guard := _ }) (v := undef) rfl (by kernel_rfl) (by kernel_rfl) (by kernel_rfl) (fun _ _ _ h => h) (Or.inl (Or.inr ⟨by rfl, rfl⟩)) hS ?_
            intro wq hwq
            replace hS := hS.trans hwq
            (try simp only [Act.put, List.setIfInBounds_toArray, List.set_cons_zero, List.set_cons_succ])
            clear hwq
            refine wpAnyK_take Later.refl (fun _ _ _ h k => h.trans k) (fun _ _ h k => h.trans k) (i := 9) (oi := { dst := some 48, op := _, type := _, pos := _, after := _, guard := _ }) (v := undef) rfl (by kernel_rfl) (by kernel_rfl) (by kernel_rfl) (fun _ _ _ h => h) (Or.inl (Or.inr ⟨by rfl, rfl⟩)) hS ?_
            intro wq hwq
            replace hS := hS.trans hwq
            (try simp only [Act.put, List.setIfInBounds_toArray, List.set_cons_zero, List.set_cons_succ])
            clear hwq
            refine wpAnyK_take Later.refl (fun _ _ _ h k => h.trans k) (fun _ _ h k => h.trans k) (i := 10) (oi := { dst := some 49, op := _, type := _, pos := _, after := _, guard := _ }) (v := undef) rfl (by kernel_rfl) (by kernel_rfl) (by kernel_rfl) (fun _ _ _ h => h) (Or.inl (Or.inr ⟨by rfl, rfl⟩)) hS ?_
            intro wq hwq
            replace hS := hS.trans hwq
            (try simp only [Act.put, List.setIfInBounds_toArray, List.set_cons_zero, List.set_cons_succ])
            clear hwq
            refine wpAnyK_take Later.refl (fun _ _ _ h k => h.trans k) (fun _ _ h k => h.trans k) (i := 11) (oi := { dst := some 50, op := _, type := _, pos := _, after := _, guard := _ }) (v := undef) rfl (by kernel_rfl) (by kernel_rfl) (by kernel_rfl) (fun _ _ _ h => h) (Or.inl (Or.inr ⟨by rfl, rfl⟩)) hS ?_
            intro wq hwq
            replace hS := hS.trans hwq
            (try simp only [Act.put, List.setIfInBounds_toArray, List.set_cons_zero, List.set_cons_succ])
            clear hwq
            refine wpAnyK_take Later.refl (fun _ _ _ h k => h.trans k) (fun _ _ h k => h.trans k) (i := 12) (oi := { dst := some 51, op := _, type := _, pos := _, after := _, guard := _ }) (v := undef) rfl (by kernel_rfl) (by kernel_rfl) (by kernel_rfl) (fun _ _ _ h => h) (Or.inl (Or.inr ⟨by rfl, rfl⟩)) hS ?_
            intro wq hwq
            replace hS := hS.trans hwq
            (try simp only [Act.put, List.setIfInBounds_toArray, List.set_cons_zero, List.set_cons_succ])
            clear hwq
            refine wpAnyK_take Later.refl (fun _ _ _ h k => h.trans k) (fun _ _ h k => h.trans k) (i := 13) (oi := { dst := some 52, op := _, type := _, pos := _, after := _, guard := _ }) (v := undef) rfl (by kernel_rfl) (by kernel_rfl) (by kernel_rfl) (fun _ _ _ h => h) (Or.inl (Or.inr ⟨by rfl, rfl⟩)) hS ?_
            intro wq hwq
            replace hS := hS.trans hwq
            (try simp only [Act.put, List.setIfInBounds_toArray, List.set_cons_zero, List.set_cons_succ])
            clear hwq
            refine wpAnyK_take Later.refl (fun _ _ _ h k => h.trans k) (fun _ _ h k => h.trans k) (i := 14) (oi := { dst := some 53, op := _, type := _, pos := _, after := _, guard := _ }) (v := undef) rfl (by kernel_rfl) (by kernel_rfl) (by kernel_rfl) (fun _ _ _ h => h) (Or.inl (Or.inr ⟨by rfl, rfl⟩)) hS ?_
            intro wq hwq
            replace hS := hS.trans hwq
            (try simp only [Act.put, List.setIfInBounds_toArray, List.set_cons_zero, List.set_cons_succ])
            clear hwq
            refine wpAnyK_take Later.refl (fun _ _ _ h k => h.trans k) (fun _ _ h k => h.trans k) (i := 15) (oi := { dst := some 54, op := _, type := _, pos := _, after := _, guard := _ }) (v := undef) rfl (by kernel_rfl) (by kernel_rfl) (by kernel_rfl) (fun _ _ _ h => h) (Or.inl (Or.inr ⟨by rfl, rfl⟩)) hS ?_
            intro wq hwq
            replace hS := hS.trans hwq
            (try simp only [Act.put, List.setIfInBounds_toArray, List.set_cons_zero, List.set_cons_succ])
            clear hwq
            refine wpAnyK_take Later.refl (fun _ _ _ h k => h.trans k) (fun _ _ h k => h.trans k) (i := 16) (oi := { dst := some 55, op := _, type := _, pos := _, after := _, guard := _ }) (v := undef) rfl (by kernel_rfl) (by kernel_rfl) (by kernel_rfl) (fun _ _ _ h => h) (Or.inl (Or.inr ⟨by rfl, rfl⟩)) hS ?_
            intro wq hwq
            replace hS := hS.trans hwq
            (try simp only [Act.put, List.setIfInBounds_toArray, List.set_cons_zero, List.set_cons_succ])
            clear hwq
            refine wpAnyK_take Later.refl (fun _ _ _ h k => h.trans k) (fun _ _ h k => h.trans k) (i := 17) (oi := { dst := some 56, op := _, type := _, pos := _, after := _, guard := _ }) (v := undef) rfl (by kernel_rfl) (by kernel_rfl) (by kernel_rfl) (fun _ _ _ h => h) (Or.inl (Or.inr ⟨by rfl, rfl⟩)) hS ?_
            intro wq hwq
            replace hS := hS.trans hwq
            (try simp only [Act.put, List.setIfInBounds_toArray, List.set_cons_zero, List.set_cons_succ])
            clear hwq
            refine wpAnyK_take Later.refl (fun _ _ _ h k => h.trans k) (fun _ _ h k => h.trans k) (i := 18) (oi := { dst := some 57, op := _, type := _, pos := _, after := _, guard := _ }) (v := undef) rfl (by kernel_rfl) (by kernel_rfl) (by kernel_rfl) (fun _ _ _ h => h) (Or.inl (Or.inr ⟨by rfl, rfl⟩)) hS ?_
            intro wq hwq
            replace hS := hS.trans hwq
            (try simp only [Act.put, List.setIfInBounds_toArray, List.set_cons_zero, List.set_cons_succ])
            clear hwq
            refine wpAnyK_take Later.refl (fun _ _ _ h k => h.trans k) (fun _ _ h k => h.trans k) (i := 19) (oi := { dst := some 58, op := _, type := _, pos := _, after := _, guard := _ }) (v := undef) rfl (by kernel_rfl) (by kernel_rfl) (by kernel_rfl) (fun _ _ _ h => h) (Or.inl (Or.inr ⟨by rfl, rfl⟩)) hS ?_
            intro wq hwq
            replace hS := hS.trans hwq
            (try simp only [Act.put, List.setIfInBounds_toArray, List.set_cons_zero, List.set_cons_succ])
            clear hwq
            refine wpAnyK_take Later.refl (fun _ _ _ h k => h.trans k) (fun _ _ h k => h.trans k) (i := 20) (oi := { dst := some 59, op := _, type := _, pos := _, after := _, guard := _ }) (v := undef) rfl (by kernel_rfl) (by kernel_rfl) (by kernel_rfl) (fun _ _ _ h => h) (Or.inl (Or.inr ⟨by rfl, rfl⟩)) hS ?_
            intro wq hwq
            replace hS := hS.trans hwq
            (try simp only [Act.put, List.setIfInBounds_toArray, List.set_cons_zero, List.set_cons_succ])
            clear hwq
            refine wpAnyK_take Later.refl (fun _ _ _ h k => h.trans k) (fun _ _ h k => h.trans k) (i := 21) (oi := { dst := some 60, op := _, type := _, pos := _, after := _, guard := _ }) (v := undef) rfl (by kernel_rfl) (by kernel_rfl) (by kernel_rfl) (fun _ _ _ h => h) (Or.inl (Or.inr ⟨by rfl, rfl⟩)) hS ?_
            intro wq hwq
            replace hS := hS.trans hwq
            (try simp only [Act.put, List.setIfInBounds_toArray, List.set_cons_zero, List.set_cons_succ])
            clear hwq
            refine wpAnyK_take Later.refl (fun _ _ _ h k => h.trans k) (fun _ _ h k => h.trans k) (i := 22) (oi := { dst := some 61, op := _, type := _, pos := _, after := _, guard := _ }) (v := undef) rfl (by kernel_rfl) (by kernel_rfl) (by kernel_rfl) (fun _ _ _ h => h) (Or.inl (Or.inr ⟨by rfl, rfl⟩)) hS ?_
            intro wq hwq
            replace hS := hS.trans hwq
            (try simp only [Act.put, List.setIfInBounds_toArray, List.set_cons_zero, List.set_cons_succ])
            clear hwq
            refine wpAnyK_take Later.refl (fun _ _ _ h k => h.trans k) (fun _ _ h k => h.trans k) (i := 23) (oi := { dst := some 62, op := _, type := _, pos := _, after := _, guard := _ }) (v := undef) rfl (by kernel_rfl) (by kernel_rfl) (by kernel_rfl) (fun _ _ _ h => h) (Or.inl (Or.inr ⟨by rfl, rfl⟩)) hS ?_
            intro wq hwq
            replace hS := hS.trans hwq
            (try simp only [Act.put, List.setIfInBounds_toArray, List.set_cons_zero, List.set_cons_succ])
            clear hwq
            refine wpAnyK_take Later.refl (fun _ _ _ h k => h.trans k) (fun _ _ h k => h.trans k) (i := 24) (oi := { dst := some 63, op := _, type := _, pos := _, after := _, guard := _ }) (v := ?_) rfl (by kernel_rfl) (by kernel_rfl) (by kernel_rfl) (fun _ _ _ h => h) (Or.inl (Or.inl ⟨by rfl, ?_⟩)) hS ?_
            rotate_left
            focus ((intro w hSw; (try dsimp only at hSw); skip; go_simp); (try with_reducible rfl))
            intro wq hwq
            replace hS := hS.trans hwq
            (try simp only [Act.put, List.setIfInBounds_toArray, List.set_cons_zero, List.set_cons_succ])
            clear hwq
            refine wpAnyK_done (by kernel_rfl) ?_ _
            have HS2 := Lib.hid hS
            clear hS
            go_wp2_with fail
            go_meet
            exact ⟨by rw [hy]; rfl, HS2.out⟩
          | false =>
            have HCZ := Lib.hid (fun (W : World) (h : Later W9 W) => HCZ.out W h rfl)
            refine wp_region_K (S := fun W : World => Later W9 W) (R := Later) (fun _ => Later.refl _) (by kernel_rfl) ?_
            have hS : (fun W : World => Later W9 W) W9.drew := (Later.refl W9).drew
            refine wpAnyK_take Later.refl (fun _ _ _ h k => h.trans k) (fun _ _ h k => h.trans k) (i := 0) (oi := { dst := some 39, op := _, type := _, pos := _, after := _, guard := _ }) (v := ?_) rfl (by kernel_rfl) (by kernel_rfl) (by kernel_rfl) (fun _ _ _ h => h) (Or.inl (Or.inl ⟨by rfl, ?_⟩)) hS ?_
            rotate_left
            focus ((intro w hSw; (try dsimp only at hSw); skip; go_simp); (try with_reducible rfl))
            intro wq hwq
            replace hS := hS.trans hwq
            (try simp only [Act.put, List.setIfInBounds_toArray, List.set_cons_zero, List.set_cons_succ])
            clear hwq
            refine wpAnyK_take Later.refl (fun _ _ _ h k => h.trans k) (fun _ _ h k => h.trans k) (i := 1) (oi := { dst := some 40, op := _, type := _, pos := _, after := _, guard := _ }) (v := ?_) rfl (by kernel_rfl) (by kernel_rfl) (by kernel_rfl) (fun _ _ _ h => h) (Or.inl (Or.inl ⟨by rfl, ?_⟩)) hS ?_
            rotate_left
            focus ((intro w hSw; (try dsimp only at hSw); skip; go_simp); (try with_reducible rfl))
            intro wq hwq
            replace hS := hS.trans hwq
            (try simp only [Act.put, List.setIfInBounds_toArray, List.set_cons_zero, List.set_cons_succ])
            clear hwq
            refine wpAnyK_take Later.refl (fun _ _ _ h k => h.trans k) (fun _ _ h k => h.trans k) (i := 2) (oi := { dst := some 41, op := _, type := _, pos := _, after := _, guard := _ }) (v := ?_) rfl (by kernel_rfl) (by kernel_rfl) (by kernel_rfl) (fun _ _ _ h => h) (Or.inl (Or.inl ⟨by rfl, ?_⟩)) hS ?_
            rotate_left
            focus ((intro w hSw; (try dsimp only at hSw); skip; go_simp); (try with_reducible rfl))
            intro wq hwq
            replace hS := hS.trans hwq
            (try simp only [Act.put, List.setIfInBounds_toArray, List.set_cons_zero, List.set_cons_succ])
            clear hwq
            refine wpAnyK_take Later.refl (fun _ _ _ h k => h.trans k) (fun _ _ h k => h.trans k) (i := 3) (oi := { dst := some 42, op := _, type := _, pos := _, after := _, guard := _ }) (v := ?_) rfl (by kernel_rfl) (by kernel_rfl) (by kernel_rfl) (fun _ _ _ h => h) (Or.inl (Or.inl ⟨by rfl, ?_⟩)) hS ?_
            rotate_left
            focus ((intro w hSw; (try dsimp only at hSw); skip; go_simp); (try with_reducible rfl))
            intro wq hwq
            replace hS := hS.trans hwq
            (try simp only [Act.put, List.setIfInBounds_toArray, List.set_cons_zero, List.set_cons_succ])
            clear hwq
            refine wpAnyK_take Later.refl (fun _ _ _ h k => h.trans k) (fun _ _ h k => h.trans k) (i := 4) (oi := { dst := some 43, op := _, type := _, pos := _, after := _, guard := _ }) (v := ?_) rfl (by kernel_rfl) (by kernel_rfl) (by kernel_rfl) (fun _ _ _ h => h) (Or.inl (Or.inl ⟨by rfl, ?_⟩)) hS ?_
            rotate_left
            focus ((intro w hSw; (try dsimp only at hSw); have e0 := (HE.out.later hSw).1.out; have e1 := (HE.out.later hSw).2.1.out; have e2 := (HE.out.later hSw).2.2.1.out; have e3 := (HE.out.later hSw).2.2.2.1.out; have e4 := (HE.out.later hSw).2.2.2.2.1.out; have e5 := (HE.out.later hSw).2.2.2.2.2.1.out; have e6 := (HE.out.later hSw).2.2.2.2.2.2.out; dsimp only at e0 e1 e2 e3 e4 e5 e6; go_simp); (try with_reducible rfl))
            intro wq hwq
            replace hS := hS.trans hwq
            (try simp only [Act.put, List.setIfInBounds_toArray, List.set_cons_zero, List.set_cons_succ])
            clear hwq
            refine wpAnyK_take Later.refl (fun _ _ _ h k => h.trans k) (fun _ _ h k => h.trans k) (i := 5) (oi := { dst := some 44, op := _, type := _, pos := _, after := _, guard := _ }) (v := ?_) rfl (by kernel_rfl) (by kernel_rfl) (by kernel_rfl) (fun _ _ _ h => h) (Or.inl (Or.inl ⟨by rfl, ?_⟩)) hS ?_
            rotate_left
            focus ((intro w hSw; (try dsimp only at hSw); skip; go_simp); (try with_reducible rfl))
            intro wq hwq
            replace hS := hS.trans hwq
            (try simp only [Act.put, List.setIfInBounds_toArray, List.set_cons_zero, List.set_cons_succ])
            clear hwq
            refine wpAnyK_take Later.refl (fun _ _ _ h k => h.trans k) (fun _ _ h k => h.trans k) (i := 6) (oi := { dst := some 45, op := _, type := _, pos := _, after := _, guard := _ }) (v := ?_) rfl (by kernel_rfl) (by kernel_rfl) (by kernel_rfl) (fun _ _ _ h => h) (Or.inl (Or.inl ⟨by rfl, ?_⟩)) hS ?_
            rotate_left
            focus ((intro w hSw; (try dsimp only at hSw); skip; go_simp); (try with_reducible rfl))
            intro wq hwq
            replace hS := hS.trans hwq
            (try simp only [Act.put, List.setIfInBounds_toArray, List.set_cons_zero, List.set_cons_succ])
            clear hwq
            refine wpAnyK_take Later.refl (fun _ _ _ h k => h.trans k) (fun _ _ h k => h.trans k) (i := 7) (oi := { dst := some 46, op := _, type := _, pos := _, after := _, guard := _ }) (v := ?_) rfl (by kernel_rfl) (by kernel_rfl) (by kernel_rfl) (fun _ _ _ h => h) (Or.inl (Or.inl ⟨by rfl, ?_⟩)) hS ?_
            rotate_left
            focus ((intro w hSw; (try dsimp only at hSw); skip; go_simp); (try with_reducible rfl))
            intro wq hwq
            replace hS := hS.trans hwq
            (try simp only [Act.put, List.setIfInBounds_toArray, List.set_cons_zero, List.set_cons_succ])
            clear hwq
            refine wpAnyK_take Later.refl (fun _ _ _ h k => h.trans k) (fun _ _ h k => h.trans k) (i := 8) (oi := { dst := some 47, op := _, type := _, pos := _, after := _, guard := _ }) (v := ?_) rfl (by kernel_rfl) (by kernel_rfl) (by kernel_rfl) (fun _ _ _ h => h) (Or.inl (Or.inl ⟨by rfl, ?_⟩)) hS ?_
            rotate_left
            focus ((intro w hSw; (try dsimp only at hSw); skip; go_simp); (try with_reducible rfl))
            intro wq hwq
            replace hS := hS.trans hwq
            (try simp only [Act.put, List.setIfInBounds_toArray, List.set_cons_zero, List.set_cons_succ])
            clear hwq
            refine wpAnyK_take Later.refl (fun _ _ _ h k => h.trans k) (fun _ _ h k => h.trans k) (i := 9) (oi := { dst := some 48, op := _, type := _, pos := _, after := _, guard := _ }) (v := ?_) rfl (by kernel_rfl) (by kernel_rfl) (by kernel_rfl) (fun _ _ _ h => h) (Or.inl (Or.inl ⟨by rfl, ?_⟩)) hS ?_
            rotate_left
            focus ((intro w hSw; (try dsimp only at hSw); skip; go_simp); (try with_reducible rfl))
            intro wq hwq
            replace hS := hS.trans hwq
            (try simp only [Act.put, List.setIfInBounds_toArray, List.set_cons_zero, List.set_cons_succ])
            clear hwq
            refine wpAnyK_take Later.refl (fun _ _ _ h k => h.trans k) (fun _ _ h k => h.trans k) (i := 10) (oi := { dst := some 49, op := _, type := _, pos := _, after := _, guard := _ }) (v := ?_) rfl (by kernel_rfl) (by kernel_rfl) (by kernel_rfl) (fun _ _ _ h => h) (Or.inl (Or.inl ⟨by rfl, ?_⟩)) hS ?_
            rotate_left
            focus ((intro w hSw; (try dsimp only at hSw); have q0 := (HZ.out.later hSw).1.out; have q1 := (HZ.out.later hSw).2.1.out; have q2 := (HZ.out.later hSw).2.2.1.out; have q3 := (HZ.out.later hSw).2.2.2.1.out; have q4 := (HZ.out.later hSw).2.2.2.2.1.out; have q5 := (HZ.out.later hSw).2.2.2.2.2.1.out; have q6 := (HZ.out.later hSw).2.2.2.2.2.2.out; dsimp only at q0 q1 q2 q3 q4 q5 q6; go_simp); (try with_reducible rfl))
            intro wq hwq
            replace hS := hS.trans hwq
            (try simp only [Act.put, List.setIfInBounds_toArray, List.set_cons_zero, List.set_cons_succ])
            clear hwq
            refine wpAnyK_take Later.refl (fun _ _ _ h k => h.trans k) (fun _ _ h k => h.trans k) (i := 11) (oi := { dst := some 50, op := _, type := _, pos := _, after := _, guard := _ }) (v := ?_) rfl (by kernel_rfl) (by kernel_rfl) (by kernel_rfl) (fun _ _ _ h => h) (Or.inl (Or.inl ⟨by rfl, ?_⟩)) hS ?_
            rotate_left
            focus ((intro w hSw; (try dsimp only at hSw); skip; go_simp); (try with_reducible rfl))
            intro wq hwq
            replace hS := hS.trans hwq
            (try simp only [Act.put, List.setIfInBounds_toArray, List.set_cons_zero, List.set_cons_succ])
            clear hwq
            refine wpAnyK_take Later.refl (fun _ _ _ h k => h.trans k) (fun _ _ h k => h.trans k) (i := 12) (oi := { dst := some 51, op := _, type := _, pos := _, after := _, guard := _ }) (v := ?_) rfl (by kernel_rfl) (by kernel_rfl) (by kernel_rfl) (fun _ _ _ h => h) (Or.inl (Or.inl ⟨by rfl, ?_⟩)) hS ?_
            rotate_left
            focus ((intro w hSw; (try dsimp only at hSw); skip; go_simp); (try with_reducible rfl))
            intro wq hwq
            replace hS := hS.trans hwq
            (try simp only [Act.put, List.setIfInBounds_toArray, List.set_cons_zero, List.set_cons_succ])
            clear hwq
            refine wpAnyK_take Later.refl (fun _ _ _ h k => h.trans k) (fun _ _ h k => h.trans k) (i := 13) (oi := { dst := some 52, op := _, type := _, pos := _, after := _, guard := _ }) (v := ?_) rfl (by kernel_rfl) (by kernel_rfl) (by kernel_rfl) (fun _ _ _ h => h) (Or.inl (Or.inl ⟨by rfl, ?_⟩)) hS ?_
            rotate_left
            focus ((intro w hSw; (try dsimp only at hSw); skip; go_simp); (try with_reducible rfl))
            intro wq hwq
            replace hS := hS.trans hwq
            (try simp only [Act.put, List.setIfInBounds_toArray, List.set_cons_zero, List.set_cons_succ])
            clear hwq
            refine wpAnyK_take Later.refl (fun _ _ _ h k => h.trans k) (fun _ _ h k => h.trans k) (i := 14) (oi := { dst := some 53, op := _, type := _, pos := _, after := _, guard := _ }) (v := ?_) rfl (by kernel_rfl) (by kernel_rfl) (by kernel_rfl) (fun _ _ _ h => h) (Or.inl (Or.inl ⟨by rfl, ?_⟩)) hS ?_
            rotate_left
            focus ((intro w hSw; (try dsimp only at hSw); skip; go_simp); (try with_reducible rfl))
            intro wq hwq
            replace hS := hS.trans hwq
            (try simp only [Act.put, List.setIfInBounds_toArray, List.set_cons_zero, List.set_cons_succ])
            clear hwq
            refine wpAnyK_take Later.refl (fun _ _ _ h k => h.trans k) (fun _ _ h k => h.trans k) (i := 15) (oi := { dst := some 54, op := _, type := _, pos := _, after := _, guard := _ }) (v := ?_) rfl (by kernel_rfl) (by kernel_rfl) (by kernel_rfl) (fun _ _ _ h => h) (Or.inl (Or.inl ⟨by rfl, ?_⟩)) hS ?_
            rotate_left
            focus ((intro w hSw; (try dsimp only at hSw); skip; go_simp); (try with_reducible rfl))
            intro wq hwq
            replace hS := hS.trans hwq
            (try simp only [Act.put, List.setIfInBounds_toArray, List.set_cons_zero, List.set_cons_succ])
            clear hwq
            refine wpAnyK_take Later.refl (fun _ _ _ h k => h.trans k) (fun _ _ h k => h.trans k) (i := 16) (oi := { dst := some 55, op := _, type := _, pos := _, after := _, guard := _ }) (v := ?_) rfl (by kernel_rfl) (by kernel_rfl) (by kernel_rfl) (fun _ _ _ h => h) (Or.inl (Or.inl ⟨by rfl, ?_⟩)) hS ?_
            rotate_left
            focus ((intro w hSw; (try dsimp only at hSw); have e0 := (HE.out.later hSw).1.out; have e1 := (HE.out.later hSw).2.1.out; have e2 := (HE.out.later hSw).2.2.1.out; have e3 := (HE.out.later hSw).2.2.2.1.out; have e4 := (HE.out.later hSw).2.2.2.2.1.out; have e5 := (HE.out.later hSw).2.2.2.2.2.1.out; have e6 := (HE.out.later hSw).2.2.2.2.2.2.out; dsimp only at e0 e1 e2 e3 e4 e5 e6; go_simp); (try with_reducible rfl))
            intro wq hwq
            replace hS := hS.trans hwq
            (try simp only [Act.put, List.setIfInBounds_toArray, List.set_cons_zero, List.set_cons_succ])
            clear hwq
            refine wpAnyK_take Later.refl (fun _ _ _ h k => h.trans k) (fun _ _ h k => h.trans k) (i := 17) (oi := { dst := some 56, op := _, type := _, pos := _, after := _, guard := _ }) (v := ?_) rfl (by kernel_rfl) (by kernel_rfl) (by kernel_rfl) (fun _ _ _ h => h) (Or.inl (Or.inl ⟨by rfl, ?_⟩)) hS ?_
            rotate_left
            focus ((intro w hSw; (try dsimp only at hSw); skip; go_simp); (try with_reducible rfl))
            intro wq hwq
            replace hS := hS.trans hwq
            (try simp only [Act.put, List.setIfInBounds_toArray, List.set_cons_zero, List.set_cons_succ])
            clear hwq
            refine wpAnyK_take Later.refl (fun _ _ _ h k => h.trans k) (fun _ _ h k => h.trans k) (i := 18) (oi := { dst := some 57, op := _, type := _, pos := _, after := _, guard := _ }) (v := ?_) rfl (by kernel_rfl) (by kernel_rfl) (by kernel_rfl) (fun _ _ _ h => h) (Or.inl (Or.inl ⟨by rfl, ?_⟩)) hS ?_
            rotate_left
            focus ((intro w hSw; (try dsimp only at hSw); skip; go_simp); (try with_reducible rfl))
            intro wq hwq
            replace hS := hS.trans hwq
            (try simp only [Act.put, List.setIfInBounds_toArray, List.set_cons_zero, List.set_cons_succ])
            clear hwq
            refine wpAnyK_take Later.refl (fun _ _ _ h k => h.trans k) (fun _ _ h k => h.trans k) (i := 19) (oi := { dst := some 58, op := _, type := _, pos := _, after := _, guard := _ }) (v := ?_) rfl (by kernel_rfl) (by kernel_rfl) (by kernel_rfl) (fun _ _ _ h => h) (Or.inl (Or.inl ⟨by rfl, ?_⟩)) hS ?_
            rotate_left
            focus ((intro w hSw; (try dsimp only at hSw); skip; go_simp); (try with_reducible rfl))
            intro wq hwq
            replace hS := hS.trans hwq
            (try simp only [Act.put, List.setIfInBounds_toArray, List.set_cons_zero, List.set_cons_succ])
            clear hwq
            refine wpAnyK_take Later.refl (fun _ _ _ h k => h.trans k) (fun _ _ h k => h.trans k) (i := 20) (oi := { dst := some 59, op := _, type := _, pos := _, after := _, guard := _ }) (v := ?_) rfl (by kernel_rfl) (by kernel_rfl) (by kernel_rfl) (fun _ _ _ h => h) (Or.inl (Or.inl ⟨by rfl, ?_⟩)) hS ?_
            rotate_left
            focus ((intro w hSw; (try dsimp only at hSw); skip; go_simp); (try with_reducible rfl))
            intro wq hwq
            replace hS := hS.trans hwq
            (try simp only [Act.put, List.setIfInBounds_toArray, List.set_cons_zero, List.set_cons_succ])
            clear hwq
            refine wpAnyK_take Later.refl (fun _ _ _ h k => h.trans k) (fun _ _ h k => h.trans k) (i := 21) (oi := { dst := some 60, op := _, type := _, pos := _, after := _, guard := _ }) (v := ?_) rfl (by kernel_rfl) (by kernel_rfl) (by kernel_rfl) (fun _ _ _ h => h) (Or.inl (Or.inl ⟨by rfl, ?_⟩)) hS ?_
            rotate_left
            focus ((intro w hSw; (try dsimp only at hSw); have e0 := (HE.out.later hSw).1.out; have e1 := (HE.out.later hSw).2.1.out; have e2 := (HE.out.later hSw).2.2.1.out; have e3 := (HE.out.later hSw).2.2.2.1.out; have e4 := (HE.out.later hSw).2.2.2.2.1.out; have e5 := (HE.out.later hSw).2.2.2.2.2.1.out; have e6 := (HE.out.later hSw).2.2.2.2.2.2.out; dsimp only at e0 e1 e2 e3 e4 e5 e6; go_simp); (try with_reducible rfl))
            intro wq hwq
            replace hS := hS.trans hwq
            (try simp only [Act.put, List.setIfInBounds_toArray, List.set_cons_zero, List.set_cons_succ])
            clear hwq
            refine wpAnyK_take Later.refl (fun _ _ _ h k => h.trans k) (fun _ _ h k => h.trans k) (i := 22) (oi := { dst := some 61, op := _, type := _, pos := _, after := _, guard := _ }) (v := .bool y) rfl (by kernel_rfl) (by kernel_rfl) (by kernel_rfl) (fun _ _ _ h => h) (Or.inr ⟨by rfl, 36, #[.agg #[.int .i64 zn, .int .i64 a1, .int .i64 a2, .string a3, .int .i64 b1, .int .i64 b2, .string b3], .int .i64 m, .int .i64 op, .agg #[.int .i64 vt, .int .i64 vi, .string vs]], fun W hW => ⟨?_, HCZ.out W hW⟩⟩) hS ?_
            · first | rfl | (go_simp; done)
            intro wq hwq
            replace hS := hS.trans hwq
            (try simp only [Act.put, List.setIfInBounds_toArray, List.set_cons_zero, List.set_cons_succ])
            clear hwq
            refine wpAnyK_take Later.refl (fun _ _ _ h k => h.trans k) (fun _ _ h k => h.trans k) (i := 23) (oi := { dst := some 62, op := _, type := _, pos := _, after := _, guard := _ }) (v := ?_) rfl (by kernel_rfl) (by kernel_rfl) (by kernel_rfl) (fun _ _ _ h => h) (Or.inl (Or.inl ⟨by rfl, ?_⟩)) hS ?_
            rotate_left
            focus ((intro w hSw; (try dsimp only at hSw); skip; go_simp); (try with_reducible rfl))
            intro wq hwq
            replace hS := hS.trans hwq
            (try simp only [Act.put, List.setIfInBounds_toArray, List.set_cons_zero, List.set_cons_succ])
            clear hwq
            refine wpAnyK_take Later.refl (fun _ _ _ h k => h.trans k) (fun _ _ h k => h.trans k) (i := 24) (oi := { dst := some 63, op := _, type := _, pos := _, after := _, guard := _ }) (v := ?_) rfl (by kernel_rfl) (by kernel_rfl) (by kernel_rfl) (fun _ _ _ h => h) (Or.inl (Or.inl ⟨by rfl, ?_⟩)) hS ?_
            rotate_left
            focus ((intro w hSw; (try dsimp only at hSw); skip; go_simp); (try with_reducible rfl))
            intro wq hwq
            replace hS := hS.trans hwq
            (try simp only [Act.put, List.setIfInBounds_toArray, List.set_cons_zero, List.set_cons_succ])
            clear hwq
            refine wpAnyK_done (by kernel_rfl) ?_ _
            have HS2 := Lib.hid hS
            clear hS
            go_wp2_with fail
            go_meet
            exact ⟨rfl, HS2.out⟩
        case rest =>
        obtain ⟨rfl, lx⟩ := hcut
        have HLY := Lib.hid (HLX.out.trans lx)
        clear lx HCZ HE HZ HLX HY
        cases y with
        | true =>
          go_wp2_with fail
          go_roundw
          case rel => exact CnI.mk _ (k + 1) _ (by omega) hlt (by rw [← HNX.out, Bool.and_true]) HLY.out
          case measure => simp [intOf]; omega
        | false =>
          go_wp2_with fail
          go_roundw
          case rel => exact CnI.mk _ (k + 1) _ (by omega) hlt (by rw [← HNX.out, Bool.and_false]) HLY.out
          case measure => simp [intOf]; omega
      · rcases g with _ | _
        · have HNX := Lib.hid (show canGo (canT cols m zs) (decide (k + 1 = 0)) (true && y) (l.drop (k + 1)) = res from HNX0.out)
          clear HNX0
          have HFD := Lib.hid (fun W (h : Later W9 W) => HFX.out W h)
          go_upto_region 9 with fail
          go_cut [11, 12] from 29 to 38 (fun u1 u2 wx => u1 = .int .i64 (fk : Int) ∧ u2 = .bool fb ∧ Later W9 wx)
          case first => as_aux_lemma =>
            refine wp_region_K (S := fun W : World => Later W9 W) (R := Later) (fun _ => Later.refl _) (by kernel_rfl) ?_
            have hS : (fun W : World => Later W9 W) W9.drew := (Later.refl W9).drew
            refine wpAnyK_take Later.refl (fun _ _ _ h k => h.trans k) (fun _ _ h k => h.trans k) (i := 0) (oi := { dst := some 30, op := _, type := _, pos := _, after := _, guard := _ }) (v := ?_) rfl (by kernel_rfl) (by kernel_rfl) (by kernel_rfl) (fun _ _ _ h => h) (Or.inl (Or.inl ⟨by rfl, ?_⟩)) hS ?_
            rotate_left
            focus ((intro w hSw; (try dsimp only at hSw); have s0 := (HBS.out.later (HLW.out.trans hSw)).cell 0 _ rfl; have s1 := (HBS.out.later (HLW.out.trans hSw)).cell 1 _ rfl; go_simp); (try with_reducible rfl))
            intro wq hwq
            replace hS := hS.trans hwq
            (try simp only [Act.put, List.setIfInBounds_toArray, List.set_cons_zero, List.set_cons_succ])
            clear hwq
            refine wpAnyK_take Later.refl (fun _ _ _ h k => h.trans k) (fun _ _ h k => h.trans k) (i := 1) (oi := { dst := some 31, op := _, type := _, pos := _, after := _, guard := _ }) (v := ?_) rfl (by kernel_rfl) (by kernel_rfl) (by kernel_rfl) (fun _ _ _ h => h) (Or.inl (Or.inl ⟨by rfl, ?_⟩)) hS ?_
            rotate_left
            focus ((intro w hSw; (try dsimp only at hSw); skip; go_simp); (try with_reducible rfl))
            intro wq hwq
            replace hS := hS.trans hwq
            (try simp only [Act.put, List.setIfInBounds_toArray, List.set_cons_zero, List.set_cons_succ])
            clear hwq
            refine wpAnyK_take Later.refl (fun _ _ _ h k => h.trans k) (fun _ _ h k => h.trans k) (i := 2) (oi := { dst := some 32, op := _, type := _, pos := _, after := _, guard := _ }) (v := ?_) rfl (by kernel_rfl) (by kernel_rfl) (by kernel_rfl) (fun _ _ _ h => h) (Or.inl (Or.inl ⟨by rfl, ?_⟩)) hS ?_
            rotate_left
            focus ((intro w hSw; (try dsimp only at hSw); skip; go_simp); (try with_reducible rfl))
            intro wq hwq
            replace hS := hS.trans hwq
            (try simp only [Act.put, List.setIfInBounds_toArray, List.set_cons_zero, List.set_cons_succ])
            clear hwq
            refine wpAnyK_take Later.refl (fun _ _ _ h k => h.trans k) (fun _ _ h k => h.trans k) (i := 3) (oi := { dst := some 33, op := _, type := _, pos := _, after := _, guard := _ }) (v := ?_) rfl (by kernel_rfl) (by kernel_rfl) (by kernel_rfl) (fun _ _ _ h => h) (Or.inl (Or.inl ⟨by rfl, ?_⟩)) hS ?_
            rotate_left
            focus ((intro w hSw; (try dsimp only at hSw); skip; go_simp); (try with_reducible rfl))
            intro wq hwq
            replace hS := hS.trans hwq
            (try simp only [Act.put, List.setIfInBounds_toArray, List.set_cons_zero, List.set_cons_succ])
            clear hwq
            refine wpAnyK_take Later.refl (fun _ _ _ h k => h.trans k) (fun _ _ h k => h.trans k) (i := 4) (oi := { dst := some 34, op := _, type := _, pos := _, after := _, guard := _ }) (v := ?_) rfl (by kernel_rfl) (by kernel_rfl) (by kernel_rfl) (fun _ _ _ h => h) (Or.inl (Or.inl ⟨by rfl, ?_⟩)) hS ?_
            rotate_left
            focus ((intro w hSw; (try dsimp only at hSw); skip; go_simp); (try with_reducible rfl))
            intro wq hwq
            replace hS := hS.trans hwq
            (try simp only [Act.put, List.setIfInBounds_toArray, List.set_cons_zero, List.set_cons_succ])
            clear hwq
            refine wpAnyK_take Later.refl (fun _ _ _ h k => h.trans k) (fun _ _ h k => h.trans k) (i := 5) (oi := { dst := some 35, op := _, type := _, pos := _, after := _, guard := _ }) (v := ?_) rfl (by kernel_rfl) (by kernel_rfl) (by kernel_rfl) (fun _ _ _ h => h) (Or.inl (Or.inl ⟨by rfl, ?_⟩)) hS ?_
            rotate_left
            focus ((intro w hSw; (try dsimp only at hSw); have e0 := (HE.out.later hSw).1.out; have e1 := (HE.out.later hSw).2.1.out; have e2 := (HE.out.later hSw).2.2.1.out; have e3 := (HE.out.later hSw).2.2.2.1.out; have e4 := (HE.out.later hSw).2.2.2.2.1.out; have e5 := (HE.out.later hSw).2.2.2.2.2.1.out; have e6 := (HE.out.later hSw).2.2.2.2.2.2.out; dsimp only at e0 e1 e2 e3 e4 e5 e6; go_simp); (try with_reducible rfl))
            intro wq hwq
            replace hS := hS.trans hwq
            (try simp only [Act.put, List.setIfInBounds_toArray, List.set_cons_zero, List.set_cons_succ])
            clear hwq
            refine wpAnyK_take Later.refl (fun _ _ _ h k => h.trans k) (fun _ _ h k => h.trans k) (i := 6) (oi := { dst := some 36, op := _, type := _, pos := _, after := _, guard := _ }) (v := .tuple #[.int .i64 fk, .bool fb]) rfl (by kernel_rfl) (by kernel_rfl) (by kernel_rfl) (fun _ _ _ h => h) (Or.inr ⟨by rfl, 30, #[.agg #[.slice A n c, .int .i64 last], .string nm], fun W hW => ⟨?_, HFD.out W hW⟩⟩) hS ?_
            · first | rfl | (go_simp; done)
            intro wq hwq
            replace hS := hS.trans hwq
            (try simp only [Act.put, List.setIfInBounds_toArray, List.set_cons_zero, List.set_cons_succ])
            clear hwq
            refine wpAnyK_take Later.refl (fun _ _ _ h k => h.trans k) (fun _ _ h k => h.trans k) (i := 7) (oi := { dst := some 29, op := _, type := _, pos := _, after := _, guard := _ }) (v := ?_) rfl (by kernel_rfl) (by kernel_rfl) (by kernel_rfl) (fun _ _ _ h => h) (Or.inl (Or.inl ⟨by rfl, ?_⟩)) hS ?_
            rotate_left
            focus ((intro w hSw; (try dsimp only at hSw); skip; go_simp); (try with_reducible rfl))
            intro wq hwq
            replace hS := hS.trans hwq
            (try simp only [Act.put, List.setIfInBounds_toArray, List.set_cons_zero, List.set_cons_succ])
            clear hwq
            refine wpAnyK_take Later.refl (fun _ _ _ h k => h.trans k) (fun _ _ h k => h.trans k) (i := 8) (oi := { dst := some 37, op := _, type := _, pos := _, after := _, guard := _ }) (v := ?_) rfl (by kernel_rfl) (by kernel_rfl) (by kernel_rfl) (fun _ _ _ h => h) (Or.inl (Or.inl ⟨by rfl, ?_⟩)) hS ?_
            rotate_left
            focus ((intro w hSw; (try dsimp only at hSw); skip; go_simp); (try with_reducible rfl))
            intro wq hwq
            replace hS := hS.trans hwq
            (try simp only [Act.put, List.setIfInBounds_toArray, List.set_cons_zero, List.set_cons_succ])
            clear hwq
            refine wpAnyK_take Later.refl (fun _ _ _ h k => h.trans k) (fun _ _ h k => h.trans k) (i := 9) (oi := { dst := some 38, op := _, type := _, pos := _, after := _, guard := _ }) (v := ?_) rfl (by kernel_rfl) (by kernel_rfl) (by kernel_rfl) (fun _ _ _ h => h) (Or.inl (Or.inl ⟨by rfl, ?_⟩)) hS ?_
            rotate_left
            focus ((intro w hSw; (try dsimp only at hSw); skip; go_simp); (try with_reducible rfl))
            intro wq hwq
            replace hS := hS.trans hwq
            (try simp only [Act.put, List.setIfInBounds_toArray, List.set_cons_zero, List.set_cons_succ])
            clear hwq
            refine wpAnyK_take Later.refl (fun _ _ _ h k => h.trans k) (fun _ _ h k => h.trans k) (i := 10) (oi := { dst := some 11, op := _, type := _, pos := _, after := _, guard := _ }) (v := ?_) rfl (by kernel_rfl) (by kernel_rfl) (by kernel_rfl) (fun _ _ _ h => h) (Or.inl (Or.inl ⟨by rfl, ?_⟩)) hS ?_
            rotate_left
            focus ((intro w hSw; (try dsimp only at hSw); skip; go_simp); (try with_reducible rfl))
            intro wq hwq
            replace hS := hS.trans hwq
            (try simp only [Act.put, List.setIfInBounds_toArray, List.set_cons_zero, List.set_cons_succ])
            clear hwq
            refine wpAnyK_take Later.refl (fun _ _ _ h k => h.trans k) (fun _ _ h k => h.trans k) (i := 11) (oi := { dst := some 12, op := _, type := _, pos := _, after := _, guard := _ }) (v := ?_) rfl (by kernel_rfl) (by kernel_rfl) (by kernel_rfl) (fun _ _ _ h => h) (Or.inl (Or.inl ⟨by rfl, ?_⟩)) hS ?_
            rotate_left
            focus ((intro w hSw; (try dsimp only at hSw); skip; go_simp); (try with_reducible rfl))
            intro wq hwq
            replace hS := hS.trans hwq
            (try simp only [Act.put, List.setIfInBounds_toArray, List.set_cons_zero, List.set_cons_succ])
            clear hwq
            refine wpAnyK_done (by kernel_rfl) ?_ _
            have HS2 := Lib.hid hS
            clear hS
            go_wp2_with fail
            go_meet
            exact ⟨rfl, rfl, HS2.out⟩
          case rest =>
          obtain ⟨rfl, rfl, lx⟩ := hcut
          have HE := Lib.hid (HE.out.later lx)
          have HZ := Lib.hid (HZ.out.later lx)
          have HLX := Lib.hid (HLW.out.trans lx)
          clear lx HFD HFX HLW
          obtain ⟨W9, hW9⟩ : ∃ x, x = wc := ⟨_, rfl⟩
          subst hW9
          have HCZ := Lib.hid (fun (W : World) (h : Later W9 W) (hn : nt = false) => show Calls Tryd.prog 36 #[.agg #[.int .i64 zn, .int .i64 a1, .int .i64 a2, .string a3, .int .i64 b1, .int .i64 b2, .string b3], .int .i64 m, .int .i64 op, .agg #[.int .i64 vt, .int .i64 vi, .string vs]] W (fun e w' => e = .returned (.bool y) ∧ Later W w') from by
            rw [HY.out.2 hn]; exact refCanZ_any zn m op a1 a2 a3 b1 b2 b3 vt vi vs W HOP.out)
          go_upto_region 10 with fail
          go_cut [63] from 39 to 63 (fun v wx => v = .bool (!y) ∧ Later W9 wx)
          case first => as_aux_lemma =>
            cases nt with
            | true =>
              have hy := HY.out.1 rfl
              clear HCZ
              refine wp_region_K (S := fun W : World => Later W9 W) (R := Later) (fun _ => Later.refl _) (by kernel_rfl) ?_
              have hS : (fun W : World => Later W9 W) W9.drew := (Later.refl W9).drew
              refine wpAnyK_take Later.refl (fun _ _ _ h k => h.trans k) (fun _ _ h k => h.trans k) (i := 0) (oi := { dst := some 39, op := _, type := _, pos := _, after := _, guard := _ }) (v := ?_) rfl (by kernel_rfl) (by kernel_rfl) (by kernel_rfl) (fun _ _ _ h => h) (Or.inl (Or.inl ⟨by rfl, ?_⟩)) hS ?_
              rotate_left
              focus ((intro w hSw; (try dsimp only at hSw); skip; go_simp); (try with_reducible rfl))
              intro wq hwq
              replace hS := hS.trans hwq
              (try simp only [Act.put, List.setIfInBounds_toArray, List.set_cons_zero, List.set_cons_succ])
              clear hwq
              refine wpAnyK_take Later.refl (fun _ _ _ h k => h.trans k) (fun _ _ h k => h.trans k) (i := 1) (oi := { dst := some 40, op := _, type := _, pos := _, after := _, guard := _ }) (v := ?_) rfl (by kernel_rfl) (by kernel_rfl) (by kernel_rfl) (fun _ _ _ h => h) (Or.inl (Or.inl ⟨by rfl, ?_⟩)) hS ?_
              rotate_left
              focus ((intro w hSw; (try dsimp only at hSw); skip; go_simp); (try with_reducible rfl))
              intro wq hwq
              replace hS := hS.trans hwq
              (try simp only [Act.put, List.setIfInBounds_toArray, List.set_cons_zero, List.set_cons_succ])
              clear hwq
              refine wpAnyK_take Later.refl (fun _ _ _ h k => h.trans k) (fun _ _ h k => h.trans k) (i := 2) (oi := { dst := some 41, op := _, type := _, pos := _, after := _, guard := _ }) (v := ?_) rfl (by kernel_rfl) (by kernel_rfl) (by kernel_rfl) (fun _ _ _ h => h) (Or.inl (Or.inl ⟨by rfl, ?_⟩)) hS ?_
              rotate_left
              focus ((intro w hSw; (try dsimp only at hSw); skip; go_simp); (try with_reducible rfl))
              intro wq hwq
              replace hS := hS.trans hwq
              (try simp only [Act.put, List.setIfInBounds_toArray, List.set_cons_zero, List.set_cons_succ])
              clear hwq
              refine wpAnyK_take Later.refl (fun _ _ _ h k => h.trans k) (fun _ _ h k => h.trans k) (i := 3) (oi := { dst := some 42, op := _, type := _, pos := _, after := _, guard := _ }) (v := ?_) rfl (by kernel_rfl) (by kernel_rfl) (by kernel_rfl) (fun _ _ _ h => h) (Or.inl (Or.inl ⟨by rfl, ?_⟩)) hS ?_
              rotate_left
              focus ((intro w hSw; (try dsimp only at hSw); skip; go_simp); (try with_reducible rfl))
              intro wq hwq
              replace hS := hS.trans hwq
              (try simp only [Act.put, List.setIfInBounds_toArray, List.set_cons_zero, List.set_cons_succ])
              clear hwq
              refine wpAnyK_take Later.refl (fun _ _ _ h k => h.trans k) (fun _ _ h k => h.trans k) (i := 4) (oi := { dst := some 43, op := _, type := _, pos := _, after := _, guard := _ }) (v := ?_) rfl (by kernel_rfl) (by kernel_rfl) (by kernel_rfl) (fun _ _ _ h => h) (Or.inl (Or.inl ⟨by rfl, ?_⟩)) hS ?_
              rotate_left
              focus ((intro w hSw; (try dsimp only at hSw); have e0 := (HE.out.later hSw).1.out; have e1 := (HE.out.later hSw).2.1.out; have e2 := (HE.out.later hSw).2.2.1.out; have e3 := (HE.out.later hSw).2.2.2.1.out; have e4 := (HE.out.later hSw).2.2.2.2.1.out; have e5 := (HE.out.later hSw).2.2.2.2.2.1.out; have e6 := (HE.out.later hSw).2.2.2.2.2.2.out; dsimp only at e0 e1 e2 e3 e4 e5 e6; go_simp); (try with_reducible rfl))
              intro wq hwq
              replace hS := hS.trans hwq
              (try simp only [Act.put, List.setIfInBounds_toArray, List.set_cons_zero, List.set_cons_succ])
              clear hwq
              refine wpAnyK_take Later.refl (fun _ _ _ h k => h.trans k) (fun _ _ h k => h.trans k) (i := 5) (oi := { dst := some 44, op := _, type := _, pos := _, after := _, guard := _ }) (v := ?_) rfl (by kernel_rfl) (by kernel_rfl) (by kernel_rfl) (fun _ _ _ h => h) (Or.inl (Or.inl ⟨by rfl, ?_⟩)) hS ?_
              rotate_left
              focus ((intro w hSw; (try dsimp only at hSw); skip; go_simp); (try with_reducible rfl))
              intro wq hwq
              replace hS := hS.trans hwq
              (try simp only [Act.put, List.setIfInBounds_toArray, List.set_cons_zero, List.set_cons_succ])
              clear hwq
              refine wpAnyK_take Later.refl (fun _ _ _ h k => h.trans k) (fun _ _ h k => h.trans k) (i := 6) (oi := { dst := some 45, op := _, type := _, pos := _, after := _, guard := _ }) (v := ?_) rfl (by kernel_rfl) (by kernel_rfl) (by kernel_rfl) (fun _ _ _ h => h) (Or.inl (Or.inl ⟨by rfl, ?_⟩)) hS ?_
              rotate_left
              focus ((intro w hSw; (try dsimp only at hSw); skip; go_simp); (try with_reducible rfl))
              intro wq hwq
              replace hS := hS.trans hwq
              (try simp only [Act.put, List.setIfInBounds_toArray, List.set_cons_zero, List.set_cons_succ])
              clear hwq
              refine wpAnyK_take Later.refl (fun _ _ _ h k => h.trans k) (fun _ _ h k => h.trans k) (i := 7) (oi := { dst := some 46, op := _, type := _, pos := _, after := _, guard := _ }) (v := undef) rfl (by kernel_rfl) (by kernel_rfl) (by kernel_rfl) (fun _ _ _ h => h) (Or.inl (Or.inr ⟨by rfl, rfl⟩)) hS ?_
              intro wq hwq
              replace hS := hS.trans hwq
              (try simp only [Act.put, List.setIfInBounds_toArray, List.set_cons_zero, List.set_cons_succ])
              clear hwq
              refine wpAnyK_take Later.refl (fun _ _ _ h k => h.trans k) (fun _ _ h k => h.trans k) (i := 8) (oi := { dst := some 47, op := _, type := _, pos := _, after := _, guard := _ }) (v := undef) rfl (by kernel_rfl) (by kernel_rfl) (by kernel_rfl) (fun _ _ _ h => h) (Or.inl (Or.inr ⟨by rfl, rfl⟩)) hS ?_
              intro wq hwq
              replace hS := hS.trans hwq
              (try simp only [Act.put, List.setIfInBounds_toArray, List.set_cons_zero, List.set_cons_succ])
              clear hwq
              refine wpAnyK_take Later.refl (fun _ _ _ h k => h.trans k) (fun _ _ h k => h.trans k) (i := 9) (oi := { dst := some 48, op := _, type := _, pos := _, after := _, guard := _ }) (v := undef) rfl (by kernel_rfl) (by kernel_rfl) (by kernel_rfl) (fun _ _ _ h => h) (Or.inl (Or.inr ⟨by rfl, rfl⟩)) hS ?_
              intro wq hwq
              replace hS := hS.trans hwq
              (try simp only [Act.put, List.setIfInBounds_toArray, List.set_cons_zero, List.set_cons_succ])
              clear hwq
              refine wpAnyK_take Later.refl (fun _ _ _ h k => h.trans k) (fun _ _ h k => h.trans k) (i := 10) (oi := { dst := some 49, op := _, type := _, pos := _, after := _, guard := _ }) (v := undef) rfl (by kernel_rfl) (by kernel_rfl) (by kernel_rfl) (fun _ _ _ h => h) (Or.inl (Or.inr ⟨by rfl, rfl⟩)) hS ?_
              intro wq hwq
              replace hS := hS.trans hwq
              (try simp only [Act.put, List.setIfInBounds_toArray, List.set_cons_zero, List.set_cons_succ])
              clear hwq
              refine wpAnyK_take Later.refl (fun _ _ _ h k => h.trans k) (fun _ _ h k => h.trans k) (i := 11) (oi := { dst := some 50, op := _, type := _, pos := _, after := _, guard := _ }) (v := undef) rfl (by kernel_rfl) (by kernel_rfl) (by kernel_rfl) (fun _ _ _ h => h) (Or.inl (Or.inr ⟨by rfl, rfl⟩)) hS ?_
              intro wq hwq
              replace hS := hS.trans hwq
              (try simp only [Act.put, List.setIfInBounds_toArray, List.set_cons_zero, List.set_cons_succ])
              clear hwq
              refine wpAnyK_take Later.refl (fun _ _ _ h k => h.trans k) (fun _ _ h k => h.trans k) (i := 12) (oi := { dst := some 51, op := _, type := _, pos := _, after := _, guard := _ }) (v := undef) rfl (by kernel_rfl) (by kernel_rfl) (by kernel_rfl) (fun _ _ _ h => h) (Or.inl (Or.inr ⟨by rfl, rfl⟩)) hS ?_
              intro wq hwq
              replace hS := hS.trans hwq
              (try simp only [Act.put, List.setIfInBounds_toArray, List.set_cons_zero, List.set_cons_succ])
              clear hwq
              refine wpAnyK_take Later.refl (fun _ _ _ h k => h.trans k) (fun _ _ h k => h.trans k) (i := 13) (oi := { dst := some 52, op := _, type := _, pos := _, after := _, guard := _ }) (v := undef) rfl (by kernel_rfl) (by kernel_rfl) (by kernel_rfl) (fun _ _ _ h => h) (Or.inl (Or.inr ⟨by rfl, rfl⟩)) hS ?_
              intro wq hwq
              replace hS := hS.trans hwq
              (try simp only [Act.put, List.setIfInBounds_toArray, List.set_cons_zero, List.set_cons_succ])
              clear hwq
              refine wpAnyK_take Later.refl (fun _ _ _ h k => h.trans k) (fun _ _ h k => h.trans k) (i := 14) (oi := { dst := some 53, op := _, type := _, pos := _, after := _, guard := _ }) (v := undef) rfl (by kernel_rfl) (by kernel_rfl) (by kernel_rfl) (fun _ _ _ h => h) (Or.inl (Or.inr ⟨by rfl, rfl⟩)) hS ?_
              intro wq hwq
              replace hS := hS.trans hwq
              (try simp only [Act.put, List.setIfInBounds_toArray, List.set_cons_zero, List.set_cons_succ])
              clear hwq
              refine wpAnyK_take Later.refl (fun _ _ _ h k => h.trans k) (fun _ _ h k => h.trans k) (i := 15) (oi := { dst := some 54, op := _, type := _, pos := _, after := _, guard := _ }) (v := undef) rfl (by kernel_rfl) (by kernel_rfl) (by kernel_rfl) (fun _ _ _ h => h) (Or.inl (Or.inr ⟨by rfl, rfl⟩)) hS ?_
              intro wq hwq
              replace hS := hS.trans hwq
              (try simp only [Act.put, List.setIfInBounds_toArray, List.set_cons_zero, List.set_cons_succ])
              clear hwq
              refine wpAnyK_take Later.refl (fun _ _ _ h k => h.trans k) (fun _ _ h k => h.trans k) (i := 16) (oi := { dst := some 55, op := _, type := _, pos := _, after := _, guard := _ }) (v := undef) rfl (by kernel_rfl) (by kernel_rfl) (by kernel_rfl) (fun _ _ _ h => h) (Or.inl (Or.inr ⟨by rfl, rfl⟩)) hS ?_
              intro wq hwq
              replace hS := hS.trans hwq
              (try simp only [Act.put, List.setIfInBounds_toArray, List.set_cons_zero, List.set_cons_succ])
              clear hwq
              refine wpAnyK_take Later.refl (fun _ _ _ h k => h.trans k) (fun _ _ h k => h.trans k) (i := 17) (oi := { dst := some 56, op := _, type := _, pos := _, after := _, guard := _ }) (v := undef) rfl (by kernel_rfl) (by kernel_rfl) (by kernel_rfl) (fun _ _ _ h => h) (Or.inl (Or.inr ⟨by rfl, rfl⟩)) hS ?_
              intro wq hwq
              replace hS := hS.trans hwq
              (try simp only [Act.put, List.setIfInBounds_toArray, List.set_cons_zero, List.set_cons_succ])
              clear hwq
              refine wpAnyK_take Later.refl (fun _ _ _ h k => h.trans k) (fun _ _ h k => h.trans k) (i := 18) (oi := { dst := some 57, op := _, type := _, pos := _, after := _, guard := _ }) (v := undef) rfl (by kernel_rfl) (by kernel_rfl) (by kernel_rfl) (fun _ _ _ h => h) (Or.inl (Or.inr ⟨by rfl, rfl⟩)) hS ?_
              intro wq hwq
              replace hS := hS.trans hwq
              (try simp only [Act.put, List.setIfInBounds_toArray, List.set_cons_zero, List.set_cons_succ])
              clear hwq
              refine wpAnyK_take Later.refl (fun _ _ _ h k => h.trans k) (fun _ _ h k => h.trans k) (i := 19) (oi := { dst := some 58, op := _, type := _, pos := _, after := _, guard := _ }) (v := undef) rfl (by kernel_rfl) (by kernel_rfl) (by kernel_rfl) (fun _ _ _ h => h) (Or.inl (Or.inr ⟨by rfl, rfl⟩)) hS ?_
              intro wq hwq
              replace hS := hS.trans hwq
              (try simp only [Act.put, List.setIfInBounds_toArray, List.set_cons_zero, List.set_cons_succ])
              clear hwq
              refine wpAnyK_take Later.refl (fun _ _ _ h k => h.trans k) (fun _ _ h k => h.trans k) (i := 20) (oi := { dst := some 59, op := _, type := _, pos := _, after := _, guard := _ }) (v := undef) rfl (by kernel_rfl) (by kernel_rfl) (by kernel_rfl) (fun _ _ _ h => h) (Or.inl (Or.inr ⟨by rfl, rfl⟩)) hS ?_
              intro wq hwq
              replace hS := hS.trans hwq
              (try simp only [Act.put, List.setIfInBounds_toArray, List.set_cons_zero, List.set_cons_succ])
              clear hwq
              refine wpAnyK_take Later.refl (fun _ _ _ h k => h.trans k) (fun _ _ h k => h.trans k) (i := 21) (oi := { dst := some 60, op := _, type := _, pos := _, after := _, guard := _ }) (v := undef) rfl (by kernel_rfl) (by kernel_rfl) (by kernel_rfl) (fun _ _ _ h => h) (Or.inl (Or.inr ⟨by rfl, rfl⟩)) hS ?_
              intro wq hwq
              replace hS := hS.trans hwq
              (try simp only [Act.put, List.setIfInBounds_toArray, List.set_cons_zero, List.set_cons_succ])
              clear hwq
              refine wpAnyK_take Later.refl (fun _ _ _ h k => h.trans k) (fun _ _ h k => h.trans k) (i := 22) (oi := { dst := some 61, op := _, type := _, pos := _, after := _, guard := _ }) (v := undef) rfl (by kernel_rfl) (by kernel_rfl) (by kernel_rfl) (fun _ _ _ h => h) (Or.inl (Or.inr ⟨by rfl, rfl⟩)) hS ?_
              intro wq hwq
              replace hS := hS.trans hwq
              (try simp only [Act.put, List.setIfInBounds_toArray, List.set_cons_zero, List.set_cons_succ])
              clear hwq
              refine wpAnyK_take Later.refl (fun _ _ _ h k => h.trans k) (fun _ _ h k => h.trans k) (i := 23) (oi := { dst := some 62, op := _, type := _, pos := _, after := _, guard := _ }) (v := undef) rfl (by kernel_rfl) (by kernel_rfl) (by kernel_rfl) (fun _ _ _ h => h) (Or.inl (Or.inr ⟨by rfl, rfl⟩)) hS ?_
              intro wq hwq
              replace hS := hS.trans hwq
              (try simp only [Act.put, List.setIfInBounds_toArray, List.set_cons_zero, List.set_cons_succ])
              clear hwq
              refine wpAnyK_take Later.refl (fun _ _ _ h k => h.trans k) (fun _ _ h k => h.trans k) (i := 24) (oi := { dst := some 63, op := _, type := _, pos := _, after := _, guard := _ }) (v := ?_) rfl (by kernel_rfl) (by kernel_rfl) (by kernel_rfl) (fun _ _ _ h => h) (Or.inl (Or.inl ⟨by rfl, ?_⟩)) hS ?_
              rotate_left
              focus ((intro w hSw; (try dsimp only at hSw); skip; go_simp); (try with_reducible rfl))
              intro wq hwq
              replace hS := hS.trans hwq
              (try simp only [Act.put, List.setIfInBounds_toArray, List.set_cons_zero, List.set_cons_succ])
              clear hwq
              refine wpAnyK_done (by kernel_rfl) ?_ _
              have HS2 := Lib.hid hS
              clear hS
              go_wp2_with fail
              go_meet
              exact ⟨by rw [hy]; rfl, HS2.out⟩
            | false =>
              have HCZ := Lib.hid (fun (W : World) (h : Later W9 W) => HCZ.out W h rfl)
              refine wp_region_K (S := fun W : World => Later W9 W) (R := Later) (fun _ => Later.refl _) (by kernel_rfl) ?_
              have hS : (fun W : World => Later W9 W) W9.drew := (Later.refl W9).drew
              refine wpAnyK_take Later.refl (fun _ _ _ h k => h.trans k) (fun _ _ h k => h.trans k) (i := 0) (oi := { dst := some 39, op := _, type := _, pos := _, after := _, guard := _ }) (v := ?_) rfl (by kernel_rfl) (by kernel_rfl) (by kernel_rfl) (fun _ _ _ h => h) (Or.inl (Or.inl ⟨by rfl, ?_⟩)) hS ?_
              rotate_left
              focus ((intro w hSw; (try dsimp only at hSw); skip; go_simp); (try with_reducible rfl))
              intro wq hwq
              replace hS := hS.trans hwq
              (try simp only [Act.put, List.setIfInBounds_toArray, List.set_cons_zero, List.set_cons_succ])
              clear hwq
              refine wpAnyK_take Later.refl (fun _ _ _ h k => h.trans k) (fun _ _ h k => h.trans k) (i := 1) (oi := { dst := some 40, op := _, type := _, pos := _, after := _, guard := _ }) (v := ?_) rfl (by kernel_rfl) (by kernel_rfl) (by kernel_rfl) (fun _ _ _ h => h) (Or.inl (Or.inl ⟨by rfl, ?_⟩)) hS ?_
              rotate_left
              focus ((intro w hSw; (try dsimp only at hSw); skip; go_simp); (try with_reducible rfl))
              intro wq hwq
              replace hS := hS.trans hwq
              (try simp only [Act.put, List.setIfInBounds_toArray, List.set_cons_zero, List.set_cons_succ])
              clear hwq
              refine wpAnyK_take Later.refl (fun _ _ _ h k => h.trans k) (fun _ _ h k => h.trans k) (i := 2) (oi := { dst := some 41, op := _, type := _, pos := _, after := _, guard := _ }) (v := ?_) rfl (by kernel_rfl) (by kernel_rfl) (by kernel_rfl) (fun _ _ _ h => h) (Or.inl (Or.inl ⟨by rfl, ?_⟩)) hS ?_
              rotate_left
              focus ((intro w hSw; (try dsimp only at hSw); skip; go_simp); (try with_reducible rfl))
              intro wq hwq
              replace hS := hS.trans hwq
              (try simp only [Act.put, List.setIfInBounds_toArray, List.set_cons_zero, List.set_cons_succ])
              clear hwq
              refine wpAnyK_take Later.refl (fun _ _ _ h k => h.trans k) (fun _ _ h k => h.trans k) (i := 3) (oi := { dst := some 42, op := _, type := _, pos := _, after := _, guard := _ }) (v := ?_) rfl (by kernel_rfl) (by kernel_rfl) (by kernel_rfl) (fun _ _ _ h => h) (Or.inl (Or.inl ⟨by rfl, ?_⟩)) hS ?_
              rotate_left
              focus ((intro w hSw; (try dsimp only at hSw); skip; go_simp); (try with_reducible rfl))
              intro wq hwq
              replace hS := hS.trans hwq
              (try simp only [Act.put, List.setIfInBounds_toArray, List.set_cons_zero, List.set_cons_succ])
              clear hwq
              refine wpAnyK_take Later.refl (fun _ _ _ h k => h.trans k) (fun _ _ h k => h.trans k) (i := 4) (oi := { dst := some 43, op := _, type := _, pos := _, after := _, guard := _ }) (v := ?_) rfl (by kernel_rfl) (by kernel_rfl) (by kernel_rfl) (fun _ _ _ h => h) (Or.inl (Or.inl ⟨by rfl, ?_⟩)) hS ?_
              rotate_left
              focus ((intro w hSw; (try dsimp only at hSw); have e0 := (HE.out.later hSw).1.out; have e1 := (HE.out.later hSw).2.1.out; have e2 := (HE.out.later hSw).2.2.1.out; have e3 := (HE.out.later hSw).2.2.2.1.out; have e4 := (HE.out.later hSw).2.2.2.2.1.out; have e5 := (HE.out.later hSw).2.2.2.2.2.1.out; have e6 := (HE.out.later hSw).2.2.2.2.2.2.out; dsimp only at e0 e1 e2 e3 e4 e5 e6; go_simp); (try with_reducible rfl))
              intro wq hwq
              replace hS := hS.trans hwq
              (try simp only [Act.put, List.setIfInBounds_toArray, List.set_cons_zero, List.set_cons_succ])
              clear hwq
              refine wpAnyK_take Later.refl (fun _ _ _ h k => h.trans k) (fun _ _ h k => h.trans k) (i := 5) (oi := { dst := some 44, op := _, type := _, pos := _, after := _, guard := _ }) (v := ?_) rfl (by kernel_rfl) (by kernel_rfl) (by kernel_rfl) (fun _ _ _ h => h) (Or.inl (Or.inl ⟨by rfl, ?_⟩)) hS ?_
              rotate_left
              focus ((intro w hSw; (try dsimp only at hSw); skip; go_simp); (try with_reducible rfl))
              intro wq hwq
              replace hS := hS.trans hwq
              (try simp only [Act.put, List.setIfInBounds_toArray, List.set_cons_zero, List.set_cons_succ])
              clear hwq
              refine wpAnyK_take Later.refl (fun _ _ _ h k => h.trans k) (fun _ _ h k => h.trans k) (i := 6) (oi := { dst := some 45, op := _, type := _, pos := _, after := _, guard := _ }) (v := ?_) rfl (by kernel_rfl) (by kernel_rfl) (by kernel_rfl) (fun _ _ _ h => h) (Or.inl (Or.inl ⟨by rfl, ?_⟩)) hS ?_
              rotate_left
              focus ((intro w hSw; (try dsimp only at hSw); skip; go_simp); (try with_reducible rfl))
              intro wq hwq
              replace hS := hS.trans hwq
              (try simp only [Act.put, List.setIfInBounds_toArray, List.set_cons_zero, List.set_cons_succ])
              clear hwq
              refine wpAnyK_take Later.refl (fun _ _ _ h k => h.trans k) (fun _ _ h k => h.trans k) (i := 7) (oi := { dst := some 46, op := _, type := _, pos := _, after := _, guard := _ }) (v := ?_) rfl (by kernel_rfl) (by kernel_rfl) (by kernel_rfl) (fun _ _ _ h => h) (Or.inl (Or.inl ⟨by rfl, ?_⟩)) hS ?_
              rotate_left
              focus ((intro w hSw; (try dsimp only at hSw); skip; go_simp); (try with_reducible rfl))
              intro wq hwq
              replace hS := hS.trans hwq
              (try simp only [Act.put, List.setIfInBounds_toArray, List.set_cons_zero, List.set_cons_succ])
              clear hwq
              refine wpAnyK_take Later.refl (fun _ _ _ h k => h.trans k) (fun _ _ h k => h.trans k) (i := 8) (oi := { dst := some 47, op := _, type := _, pos := _, after := _, guard := _ }) (v := ?_) rfl (by kernel_rfl) (by kernel_rfl) (by kernel_rfl) (fun _ _ _ h => h) (Or.inl (Or.inl ⟨by rfl, ?_⟩)) hS ?_
              rotate_left
              focus ((intro w hSw; (try dsimp only at hSw); skip; go_simp); (try with_reducible rfl))
              intro wq hwq
              replace hS := hS.trans hwq
              (try simp only [Act.put, List.setIfInBounds_toArray, List.set_cons_zero, List.set_cons_succ])
              clear hwq
              refine wpAnyK_take Later.refl (fun _ _ _ h k => h.trans k) (fun _ _ h k => h.trans k) (i := 9) (oi := { dst := some 48, op := _, type := _, pos := _, after := _, guard := _ }) (v := ?_) rfl (by kernel_rfl) (by kernel_rfl) (by kernel_rfl) (fun _ _ _ h => h) (Or.inl (Or.inl ⟨by rfl, ?_⟩)) hS ?_
              rotate_left
              focus ((intro w hSw; (try dsimp only at hSw); skip; go_simp); (try with_reducible rfl))
              intro wq hwq
              replace hS := hS.trans hwq
              (try simp only [Act.put, List.setIfInBounds_toArray, List.set_cons_zero, List.set_cons_succ])
              clear hwq
              refine wpAnyK_take Later.refl (fun _ _ _ h k => h.trans k) (fun _ _ h k => h.trans k) (i := 10) (oi := { dst := some 49, op := _, type := _, pos := _, after := _, guard := _ }) (v := ?_) rfl (by kernel_rfl) (by kernel_rfl) (by kernel_rfl) (fun _ _ _ h => h) (Or.inl (Or.inl ⟨by rfl, ?_⟩)) hS ?_
              rotate_left
              focus ((intro w hSw; (try dsimp only at hSw); have q0 := (HZ.out.later hSw).1.out; have q1 := (HZ.out.later hSw).2.1.out; have q2 := (HZ.out.later hSw).2.2.1.out; have q3 := (HZ.out.later hSw).2.2.2.1.out; have q4 := (HZ.out.later hSw).2.2.2.2.1.out; have q5 := (HZ.out.later hSw).2.2.2.2.2.1.out; have q6 := (HZ.out.later hSw).2.2.2.2.2.2.out; dsimp only at q0 q1 q2 q3 q4 q5 q6; go_simp); (try with_reducible rfl))
              intro wq hwq
              replace hS := hS.trans hwq
              (try simp only [Act.put, List.setIfInBounds_toArray, List.set_cons_zero, List.set_cons_succ])
              clear hwq
              refine wpAnyK_take Later.refl (fun _ _ _ h k => h.trans k) (fun _ _ h k => h.trans k) (i := 11) (oi := { dst := some 50, op := _, type := _, pos := _, after := _, guard := _ }) (v := ?_) rfl (by kernel_rfl) (by kernel_rfl) (by kernel_rfl) (fun _ _ _ h => h) (Or.inl (Or.inl ⟨by rfl, ?_⟩)) hS ?_
              rotate_left
              focus ((intro w hSw; (try dsimp only at hSw); skip; go_simp); (try with_reducible rfl))
              intro wq hwq
              replace hS := hS.trans hwq
              (try simp only [Act.put, List.setIfInBounds_toArray, List.set_cons_zero, List.set_cons_succ])
              clear hwq
              refine wpAnyK_take Later.refl (fun _ _ _ h k => h.trans k) (fun _ _ h k => h.trans k) (i := 12) (oi := { dst := some 51, op := _, type := _, pos := _, after := _, guard := _ }) (v := ?_) rfl (by kernel_rfl) (by kernel_rfl) (by kernel_rfl) (fun _ _ _ h => h) (Or.inl (Or.inl ⟨by rfl, ?_⟩)) hS ?_
              rotate_left
              focus ((intro w hSw; (try dsimp only at hSw); skip; go_simp); (try with_reducible rfl))
              intro wq hwq
              replace hS := hS.trans hwq
              (try simp only [Act.put, List.setIfInBounds_toArray, List.set_cons_zero, List.set_cons_succ])
              clear hwq
              refine wpAnyK_take Later.refl (fun _ _ _ h k => h.trans k) (fun _ _ h k => h.trans k) (i := 13) (oi := { dst := some 52, op := _, type := _, pos := _, after := _, guard := _ }) (v := ?_) rfl (by kernel_rfl) (by kernel_rfl) (by kernel_rfl) (fun _ _ _ h => h) (Or.inl (Or.inl ⟨by rfl, ?_⟩)) hS ?_
              rotate_left
              focus ((intro w hSw; (try dsimp only at hSw); skip; go_simp); (try with_reducible rfl))
              intro wq hwq
              replace hS := hS.trans hwq
              (try simp only [Act.put, List.setIfInBounds_toArray, List.set_cons_zero, List.set_cons_succ])
              clear hwq
              refine wpAnyK_take Later.refl (fun _ _ _ h k => h.trans k) (fun _ _ h k => h.trans k) (i := 14) (oi := { dst := some 53, op := _, type := _, pos := _, after := _, guard := _ }) (v := ?_) rfl (by kernel_rfl) (by kernel_rfl) (by kernel_rfl) (fun _ _ _ h => h) (Or.inl (Or.inl ⟨by rfl, ?_⟩)) hS ?_
              rotate_left
              focus ((intro w hSw; (try dsimp only at hSw); skip; go_simp); (try with_reducible rfl))
              intro wq hwq
              replace hS := hS.trans hwq
              (try simp only [Act.put, List.setIfInBounds_toArray, List.set_cons_zero, List.set_cons_succ])
              clear hwq
              refine wpAnyK_take Later.refl (fun _ _ _ h k => h.trans k) (fun _ _ h k => h.trans k) (i := 15) (oi := { dst := some 54, op := _, type := _, pos := _, after := _, guard := _ }) (v := ?_) rfl (by kernel_rfl) (by kernel_rfl) (by kernel_rfl) (fun _ _ _ h => h) (Or.inl (Or.inl ⟨by rfl, ?_⟩)) hS ?_
              rotate_left
              focus ((intro w hSw; (try dsimp only at hSw); skip; go_simp); (try with_reducible rfl))
              intro wq hwq
              replace hS := hS.trans hwq
              (try simp only [Act.put, List.setIfInBounds_toArray, List.set_cons_zero, List.set_cons_succ])
              clear hwq
              refine wpAnyK_take Later.refl (fun _ _ _ h k => h.trans k) (fun _ _ h k => h.trans k) (i := 16) (oi := { dst := some 55, op := _, type := _, pos := _, after := _, guard := _ }) (v := ?_) rfl (by kernel_rfl) (by kernel_rfl) (by kernel_rfl) (fun _ _ _ h => h) (Or.inl (Or.inl ⟨by rfl, ?_⟩)) hS ?_
              rotate_left
              focus ((intro w hSw; (try dsimp only at hSw); have e0 := (HE.out.later hSw).1.out; have e1 := (HE.out.later hSw).2.1.out; have e2 := (HE.out.later hSw).2.2.1.out; have e3 := (HE.out.later hSw).2.2.2.1.out; have e4 := (HE.out.later hSw).2.2.2.2.1.out; have e5 := (HE.out.later hSw).2.2.2.2.2.1.out; have e6 := (HE.out.later hSw).2.2.2.2.2.2.out; dsimp only at e0 e1 e2 e3 e4 e5 e6; go_simp); (try with_reducible rfl))
              intro wq hwq
              replace hS := hS.trans hwq
              (try simp only [Act.put, List.setIfInBounds_toArray, List.set_cons_zero, List.set_cons_succ])
              clear hwq
              refine wpAnyK_take Later.refl (fun _ _ _ h k => h.trans k) (fun _ _ h k => h.trans k) (i := 17) (oi := { dst := some 56, op := _, type := _, pos := _, after := _, guard := _ }) (v := ?_) rfl (by kernel_rfl) (by kernel_rfl) (by kernel_rfl) (fun _ _ _ h => h) (Or.inl (Or.inl ⟨by rfl, ?_⟩)) hS ?_
              rotate_left
              focus ((intro w hSw; (try dsimp only at hSw); skip; go_simp); (try with_reducible rfl))
              intro wq hwq
              replace hS := hS.trans hwq
              (try simp only [Act.put, List.setIfInBounds_toArray, List.set_cons_zero, List.set_cons_succ])
              clear hwq
              refine wpAnyK_take Later.refl (fun _ _ _ h k => h.trans k) (fun _ _ h k => h.trans k) (i := 18) (oi := { dst := some 57, op := _, type := _, pos := _, after := _, guard := _ }) (v := ?_) rfl (by kernel_rfl) (by kernel_rfl) (by kernel_rfl) (fun _ _ _ h => h) (Or.inl (Or.inl ⟨by rfl, ?_⟩)) hS ?_
              rotate_left
              focus ((intro w hSw; (try dsimp only at hSw); skip; go_simp); (try with_reducible rfl))
              intro wq hwq
              replace hS := hS.trans hwq
              (try simp only [Act.put, List.setIfInBounds_toArray, List.set_cons_zero, List.set_cons_succ])
              clear hwq
              refine wpAnyK_take Later.refl (fun _ _ _ h k => h.trans k) (fun _ _ h k => h.trans k) (i := 19) (oi := { dst := some 58, op := _, type := _, pos := _, after := _, guard := _ }) (v := ?_) rfl (by kernel_rfl) (by kernel_rfl) (by kernel_rfl) (fun _ _ _ h => h) (Or.inl (Or.inl ⟨by rfl, ?_⟩)) hS ?_
              rotate_left
              focus ((intro w hSw; (try dsimp only at hSw); skip; go_simp); (try with_reducible rfl))
              intro wq hwq
              replace hS := hS.trans hwq
              (try simp only [Act.put, List.setIfInBounds_toArray, List.set_cons_zero, List.set_cons_succ])
              clear hwq
              refine wpAnyK_take Later.refl (fun _ _ _ h k => h.trans k) (fun _ _ h k => h.trans k) (i := 20) (oi := { dst := some 59, op := _, type := _, pos := _, after := _, guard := _ }) (v := ?_) rfl (by kernel_rfl) (by kernel_rfl) (by kernel_rfl) (fun _ _ _ h => h) (Or.inl (Or.inl ⟨by rfl, ?_⟩)) hS ?_
              rotate_left
              focus ((intro w hSw; (try dsimp only at hSw); skip; go_simp); (try with_reducible rfl))
              intro wq hwq
              replace hS := hS.trans hwq
              (try simp only [Act.put, List.setIfInBounds_toArray, List.set_cons_zero, List.set_cons_succ])
              clear hwq
              refine wpAnyK_take Later.refl (fun _ _ _ h k => h.trans k) (fun _ _ h k => h.trans k) (i := 21) (oi := { dst := some 60, op := _, type := _, pos := _, after := _, guard := _ }) (v := ?_) rfl (by kernel_rfl) (by kernel_rfl) (by kernel_rfl) (fun _ _ _ h => h) (Or.inl (Or.inl ⟨by rfl, ?_⟩)) hS ?_
              rotate_left
              focus ((intro w hSw; (try dsimp only at hSw); have e0 := (HE.out.later hSw).1.out; have e1 := (HE.out.later hSw).2.1.out; have e2 := (HE.out.later hSw).2.2.1.out; have e3 := (HE.out.later hSw).2.2.2.1.out; have e4 := (HE.out.later hSw).2.2.2.2.1.out; have e5 := (HE.out.later hSw).2.2.2.2.2.1.out; have e6 := (HE.out.later hSw).2.2.2.2.2.2.out; dsimp only at e0 e1 e2 e3 e4 e5 e6; go_simp); (try with_reducible rfl))
              intro wq hwq
              replace hS := hS.trans hwq
              (try simp only [Act.put, List.setIfInBounds_toArray, List.set_cons_zero, List.set_cons_succ])
              clear hwq
              refine wpAnyK_take Later.refl (fun _ _ _ h k => h.trans k) (fun _ _ h k => h.trans k) (i := 22) (oi := { dst := some 61, op := _, type := _, pos := _, after := _, guard := _ }) (v := .bool y) rfl (by kernel_rfl) (by kernel_rfl) (by kernel_rfl) (fun _ _ _ h => h) (Or.inr ⟨by rfl, 36, #[.agg #[.int .i64 zn, .int .i64 a1, .int .i64 a2, .string a3, .int .i64 b1, .int .i64 b2, .string b3], .int .i64 m, .int .i64 op, .agg #[.int .i64 vt, .int .i64 vi, .string vs]], fun W hW => ⟨?_, HCZ.out W hW⟩⟩) hS ?_
              · first | rfl | (go_simp; done)
              intro wq hwq
              replace hS := hS.trans hwq
              (try simp only [Act.put, List.setIfInBounds_toArray, List.set_cons_zero, List.set_cons_succ])
              clear hwq
              refine wpAnyK_take Later.refl (fun _ _ _ h k => h.trans k) (fun _ _ h k => h.trans k) (i := 23) (oi := { dst := some 62, op := _, type := _, pos := _, after := _, guard := _ }) (v := ?_) rfl (by kernel_rfl) (by kernel_rfl) (by kernel_rfl) (fun _ _ _ h => h) (Or.inl (Or.inl ⟨by rfl, ?_⟩)) hS ?_
              rotate_left
              focus ((intro w hSw; (try dsimp only at hSw); skip; go_simp); (try with_reducible rfl))
              intro wq hwq
              replace hS := hS.trans hwq
              (try simp only [Act.put, List.setIfInBounds_toArray, List.set_cons_zero, List.set_cons_succ])
              clear hwq
              refine wpAnyK_take Later.refl (fun _ _ _ h k => h.trans k) (fun _ _ h k => h.trans k) (i := 24) (oi := { dst := some 63, op := _, type := _, pos := _, after := _, guard := _ }) (v := ?_) rfl (by kernel_rfl) (by kernel_rfl) (by kernel_rfl) (fun _ _ _ h => h) (Or.inl (Or.inl ⟨by rfl, ?_⟩)) hS ?_
              rotate_left
              focus ((intro w hSw; (try dsimp only at hSw); skip; go_simp); (try with_reducible rfl))
              intro wq hwq
              replace hS := hS.trans hwq
              (try simp only [Act.put, List.setIfInBounds_toArray, List.set_cons_zero, List.set_cons_succ])
              clear hwq
              refine wpAnyK_done (by kernel_rfl) ?_ _
              have HS2 := Lib.hid hS
              clear hS
              go_wp2_with fail
              go_meet
              exact ⟨rfl, HS2.out⟩
          case rest =>
          obtain ⟨rfl, lx⟩ := hcut
          have HLY := Lib.hid (HLX.out.trans lx)
          clear lx HCZ HE HZ HLX HY
          cases y with
          | true =>
            go_wp2_with fail
            go_roundw
            case rel => exact CnI.mk _ (k + 1) _ (by omega) hlt (by rw [← HNX.out, Bool.and_true]) HLY.out
            case measure => simp [intOf]; omega
          | false =>
            go_wp2_with fail
            go_roundw
            case rel => exact CnI.mk _ (k + 1) _ (by omega) hlt (by rw [← HNX.out, Bool.and_false]) HLY.out
            case measure => simp [intOf]; omega
        · have HX := Lib.hid (show true = res from HNX0.out)
          have HLZ := Lib.hid (HL1.out.trans HLW.out)
          clear HNX0 HFX HY HE HZ
          go_wp2_with fail
          go_ret
          rw [← HX.out]
          exact ⟨rfl, HLZ.out⟩
    · have HE := Lib.hid (show g = res from by
        rw [List.drop_eq_nil_of_le (by omega)] at hst
        exact hst)
      have HLZ := Lib.hid (HL1.out.trans lat)
      clear hst lat
      go_wp2_with fail
      go_ret
      rw [← HE.out]
      exact ⟨rfl, HLZ.out⟩
end Go.Proofs.YtkdpjocglfephaaDoor
