
import Derived.Test.YtkdpjocglfephaaDoorPlayO
import Derived.Test.YtkdpjocglfephaaDoorPlayS
import Derived.Test.YtkdpjocglfephaaDoorPredB
import Derived.Test.YtkdpjocglfephaaDoorBase
import Derived.Test.YtkdpjocglfephaaDoorBatR
import Derived.Test.YtkdpjocglfephaaDoorPlayN
import Derived.Test.YtkdpjocglfephaaDoorPlayV
import Derived.Test.YtkdpjocglfephaaDoorPlayR
import Derived.Test.YtkdpjocglfephaaDoorZoneM
import Derived.WalkKit
import Derived.LaidEql
import Derived.Stop.Asserts
import Derived.Stop.IfaceNil
import Derived.RowKitTokens
import Derived.Laws.OwnMore
import Derived.Laws.BytesArg
import Derived.Laws.Rows
import Derived.Deep.AppendLies
import Derived.Deep.Draws
import Derived.Test.YtkdpjocglfephaaDoorChecked
import Derived.Deep.OwnRows
import Derived.Lib.Hide
import Derived.Deep.Quiet
import Derived.Laws.AppendOwnNone
import Derived.Lib.Strings
import Derived.Outline
import Derived.WalkLawsBesides
import Derived.WalkSpells
import Derived.PlainAid
import Derived.Deep.QuietTactic
import Derived.BigQuiet
import Derived.RegionTactic
import Derived.BigRegion
import Derived.Handy
import Derived.Laws.BitsAllLaws
import Derived.Deep.RegionWith
import Derived.Lib.AppendStr
import Derived.Deep.RegionLaw
import Derived.Maps.AppendAt
import Derived.OpenShut
import Derived.WideShapes
import Derived.ChangeArms
import Derived.Deep.Slices
import Derived.Sort.Grow
import Derived.OrdersHeld
import Derived.Laws.BitsLemmas
import Derived.Laws.Bits64
import Derived.WalkSmall
import Derived.Lib.Bytealg
import Derived.Deep.SlicePairs
import Derived.Deep.RegionHeld3
import Derived.Test.YtkdpjocglfephaaDoorShelf
import Derived.Shelf.Abstract
/- The walk of rabbetplay's Batch. (tools/gen_playB.py) -/




namespace Go.Proofs.YtkdpjocglfephaaDoor
open Go.RowKit
set_option linter.unusedVariables false

theorem FitV.size {t : Int} {v : Val3} (h : FitV t v) : v.2.2.size ≤ 1000 := by
  rcases h.1 with h | ⟨_, h, _⟩
  · rw [h]; exact Nat.zero_le _
  · unfold MayV at h; omega
theorem FitV.both {t : Int} {v : Val3} (h : FitV t v) : v.2.2.size ≤ 1000 ∧ In64 v.2.1 := by
  refine ⟨h.size, ?_⟩
  rcases h.1 with h | ⟨_, _, h⟩
  · rw [h]; exact ⟨by decide, by decide⟩
  · exact h
/-- What Batch gives. -/
def BatchP (N vn g : Nat) (A : Option Addr) (n c : Nat) (bs : List Nat) (w : World) (e : Ending) (w' : World) : Prop :=
  ∃ (gc : Nat) (zs : List SlV), e = .returned (.slice (some ⟨gc, 0, none⟩) vn vn) ∧ zs.length = vn ∧ RowsAt w' (some ⟨gc, 0, none⟩) zs ∧ (∀ s ∈ zs, s.l.length = N ∧ ∀ x ∈ s.l, x.2.2.size ≤ 1000 ∧ In64 x.2.1) ∧ (∃ B, w.heap.size ≤ B ∧ ColsOn B w' (some ⟨gc, 0, none⟩) vn vn zs) ∧ Pks w' g A n c bs ∧ Far g w w'

set_option maxRecDepth 100000 in
set_option maxHeartbeats 4000000 in
theorem batch_any (N : Nat) (g : Nat) (A : Option Addr) (n c : Nat) (bs : List Nat) (V : Option Addr) (vn vc : Nat) (last : Int) (xs : List Col3) (w : World) (hc : PkC n bs) (hp : Pks w g A n c bs) (hvn : vn = xs.length) (hl : 1 ≤ vn ∧ vn ≤ 6) (hN : N ≤ 1000) (hV : HasX (some g) w V (fc xs)) :
    Calls Tryd.prog 8 #[.pointer (some ⟨g, 0, none⟩), .agg #[.slice V vn vc, .int .i64 last], .int .i64 N] w (BatchP N vn g A n c bs w) := by
  obtain ⟨w4, hw4⟩ : ∃ x : World, w.alloc (.cells #[.slice V vn vc, .int .i64 last] 33) = x := ⟨_, rfl⟩
  have l4 : Later w w4 := hw4 ▸ Later.new w _
  have hs4 : Blk w4 w.heap.size #[.slice V vn vc, .int .i64 last] 33 := hw4 ▸ Blk.new w _ _ _ rfl
  have s0 := hs4.cell 0 _ rfl
  have s1 := hs4.cell 1 _ rfl
  have HW4 := Lib.hid hw4
  have HCC := Lib.hid hc
  have HCL := Lib.hid hvn
  have HG := Lib.hid hp.lt
  have HP4 := Lib.hid (hp.later l4)
  have HF4 := Lib.hid (Far.of hp.lt l4)
  have HV4 := Lib.hid (hV.later l4)
  clear hw4 hc hvn hp hV hs4
  go_enter Tryd.func8, Tryd.ntmps8
  go_wp2_with fail
  rw [HW4.out]
  refine wp_region_K (S := fun W : World => W.cell? ⟨w.heap.size, 0, none⟩ = some (.slice V vn vc) ∧ W.cell? ⟨w.heap.size, 1, none⟩ = some (.int .i64 last)) (R := fun a b => a = b) (fun _ => rfl) (by kernel_rfl) ?_
  obtain ⟨wd, hwd⟩ : ∃ x, w4.drew = x := ⟨_, rfl⟩
  have ld : Later w4 wd := hwd ▸ (Later.refl w4).drew
  have hS : (fun W : World => W.cell? ⟨w.heap.size, 0, none⟩ = some (.slice V vn vc) ∧ W.cell? ⟨w.heap.size, 1, none⟩ = some (.int .i64 last)) wd := ⟨ld.cell s0, ld.cell s1⟩
  rw [hwd]
  have HPd := Lib.hid (HP4.out.later ld)
  have HVd := Lib.hid (HV4.out.later ld)
  have HFd := Lib.hid (HF4.out.later ld)
  have HSZ := Lib.hid (show w.heap.size < wd.heap.size from by have := block_lt_of_cell hS.1; exact this)
  clear hwd ld s0 s1 HP4 HV4 HF4 l4 HW4
  refine wpAnyK_take (fun _ => rfl) (fun _ _ _ h k => h.trans k) (fun _ _ h k => k ▸ h) (i := 0) (oi := { dst := some 10, op := _, type := _, pos := _, after := _, guard := _ }) (v := ?_) rfl (by kernel_rfl) (by kernel_rfl) (by kernel_rfl) (fun _ _ _ h => h) (Or.inl (Or.inl ⟨by rfl, ?_⟩)) hS ?_
  rotate_left
  focus ((intro w hSw; (try dsimp only at hSw); obtain ⟨d0, d1⟩ := hSw; go_simp); (try with_reducible rfl))
  intro wq hwq
  subst hwq
  (try simp only [Act.put, List.setIfInBounds_toArray, List.set_cons_zero, List.set_cons_succ])
  refine wpAnyK_take (fun _ => rfl) (fun _ _ _ h k => h.trans k) (fun _ _ h k => k ▸ h) (i := 1) (oi := { dst := some 11, op := _, type := _, pos := _, after := _, guard := _ }) (v := ?_) rfl (by kernel_rfl) (by kernel_rfl) (by kernel_rfl) (fun _ _ _ h => h) (Or.inl (Or.inl ⟨by rfl, ?_⟩)) hS ?_
  rotate_left
  focus ((intro w hSw; (try dsimp only at hSw); obtain ⟨d0, d1⟩ := hSw; go_simp); (try with_reducible rfl))
  intro wq hwq
  subst hwq
  (try simp only [Act.put, List.setIfInBounds_toArray, List.set_cons_zero, List.set_cons_succ])
  refine wpAnyK_take (fun _ => rfl) (fun _ _ _ h k => h.trans k) (fun _ _ h k => k ▸ h) (i := 2) (oi := { dst := some 12, op := _, type := _, pos := _, after := _, guard := _ }) (v := ?_) rfl (by kernel_rfl) (by kernel_rfl) (by kernel_rfl) (fun _ _ _ h => h) (Or.inl (Or.inl ⟨by rfl, ?_⟩)) hS ?_
  rotate_left
  focus ((intro w hSw; (try dsimp only at hSw); obtain ⟨d0, d1⟩ := hSw; go_simp); (try with_reducible rfl))
  intro wq hwq
  subst hwq
  (try simp only [Act.put, List.setIfInBounds_toArray, List.set_cons_zero, List.set_cons_succ])
  refine wpAnyK_take (fun _ => rfl) (fun _ _ _ h k => h.trans k) (fun _ _ h k => k ▸ h) (i := 4) (oi := { dst := some 14, op := _, type := _, pos := _, after := _, guard := _ }) (v := ?_) rfl (by kernel_rfl) (by kernel_rfl) (by kernel_rfl) (fun _ _ _ h => h) (Or.inl (Or.inl ⟨by rfl, ?_⟩)) hS ?_
  rotate_left
  focus ((intro w hSw; (try dsimp only at hSw); obtain ⟨d0, d1⟩ := hSw; go_simp); (try with_reducible rfl))
  intro wq hwq
  subst hwq
  (try simp only [Act.put, List.setIfInBounds_toArray, List.set_cons_zero, List.set_cons_succ])
  refine wpAnyK_take (fun _ => rfl) (fun _ _ _ h k => h.trans k) (fun _ _ h k => k ▸ h) (i := 5) (oi := { dst := some 15, op := _, type := _, pos := _, after := _, guard := _ }) (v := ?_) rfl (by kernel_rfl) (by kernel_rfl) (by kernel_rfl) (fun _ _ _ h => h) (Or.inl (Or.inl ⟨by rfl, ?_⟩)) hS ?_
  rotate_left
  focus ((intro w hSw; (try dsimp only at hSw); obtain ⟨d0, d1⟩ := hSw; go_simp); (try with_reducible rfl))
  intro wq hwq
  subst hwq
  (try simp only [Act.put, List.setIfInBounds_toArray, List.set_cons_zero, List.set_cons_succ])
  refine wpAnyK_take (fun _ => rfl) (fun _ _ _ h k => h.trans k) (fun _ _ h k => k ▸ h) (i := 6) (oi := { dst := some 16, op := _, type := _, pos := _, after := _, guard := _ }) (v := ?_) rfl (by kernel_rfl) (by kernel_rfl) (by kernel_rfl) (fun _ _ _ h => h) (Or.inl (Or.inl ⟨by rfl, ?_⟩)) hS ?_
  rotate_left
  focus ((intro w hSw; (try dsimp only at hSw); obtain ⟨d0, d1⟩ := hSw; go_simp); (try with_reducible rfl))
  intro wq hwq
  subst hwq
  (try simp only [Act.put, List.setIfInBounds_toArray, List.set_cons_zero, List.set_cons_succ])
  refine wpAnyK_all (rs := [3]) (by kernel_rfl) (by simp) (fun i hi => ?_)
  simp only [List.mem_cons, List.not_mem_nil, or_false] at hi
  subst hi
  refine stepK (o := { dst := some 13, op := _, type := _, pos := _, after := _, guard := _ }) rfl (fun K hK => ?_)
  go_simp
  refine (rows_any N g A n c bs V vn vc last xs wd HCC.out HPd.out HCL.out (by omega) hN HVd.out).mono ?_
  rintro e w6 ⟨ss, Lr, lc, rfl, hss, hon, hfit, hp6, hf6⟩
  have hk6 : ∀ k v, wd.cell? ⟨w.heap.size, k, none⟩ = some v → w6.cell? ⟨w.heap.size, k, none⟩ = some v := fun k v h => by
    rw [cell_block (hf6.2.2 w.heap.size HSZ.out (by have := HG.out; omega))]; exact h
  replace hS : (fun W : World => W.cell? ⟨w.heap.size, 0, none⟩ = some (.slice V vn vc) ∧ W.cell? ⟨w.heap.size, 1, none⟩ = some (.int .i64 last)) w6 := ⟨hk6 _ _ hS.1, hk6 _ _ hS.2⟩
  refine hK _ _ hS fun wq hwq => ?_
  subst hwq
  have HRA := Lib.hid hon.at_
  have HSS := Lib.hid hss
  have HFIT := Lib.hid hfit
  have HLEN := Lib.hid (fun s hs => ((hfit s hs).2.1.trans HCL.out.symm) : ∀ s ∈ ss, s.l.length = vn)
  have HF6 := Lib.hid (HFd.out.trans hf6)
  have HP6 := Lib.hid hp6
  clear hK hss hon hfit hp6 hf6 hk6 HPd HVd HFd
  (try simp only [Act.put, List.setIfInBounds_toArray, List.set_cons_zero, List.set_cons_succ])
  refine wpAnyK_all (rs := [7]) (by kernel_rfl) (by simp) (fun i hi => ?_)
  simp only [List.mem_cons, List.not_mem_nil, or_false] at hi
  subst hi
  refine stepK (o := { dst := some 17, op := _, type := _, pos := _, after := _, guard := _ }) rfl (fun K hK => ?_)
  go_simp
  refine (refColumns_any Lr N lc ss (vn : Int) w6 HSS.out.symm hN HRA.out.1 (fun s hs => by rw [HLEN.out s hs]; omega)).mono ?_
  intro e w7 h
  obtain ⟨gc, zs, rfl, hz, hzl, hzr, l7, hgc, _, hzb⟩ := h.yesO ⟨by omega, fun r hr => by
    obtain ⟨s, hs, rfl⟩ := List.mem_map.1 hr
    rw [HLEN.out s hs]⟩
  have hzn : zs.length = vn := by omega
  obtain ⟨B0, hB0, hzb⟩ := hzb
  have hB1 : w.heap.size ≤ B0 := by have := HF6.out.size; omega
  rw [hzn] at hzb ⊢
  have HFIN := Lib.hid (show BatchP N vn g A n c bs w (.returned (.slice (some ⟨gc, 0, none⟩) vn vn)) w7 from ⟨gc, zs, rfl, hzn, hzr, fun s hs => by
    have h1 : s.l ∈ colsT (ss.map (·.l)) zs.length := by rw [← hzl]; exact List.mem_map.2 ⟨s, hs, rfl⟩
    obtain ⟨i, hi, hi2⟩ := List.mem_map.1 h1
    rw [← hi2]
    refine ⟨by rw [colK_len, List.length_map, HSS.out], fun x hx => ?_⟩
    obtain ⟨r, hr, rfl⟩ := List.mem_map.1 hx
    obtain ⟨s', hs', rfl⟩ := List.mem_map.1 hr
    have hiv : i < s'.l.length := by rw [HLEN.out s' hs', ← hzn]; exact List.mem_range.1 hi
    rw [List.getD_eq_getElem?_getD, List.getElem?_eq_getElem hiv]
    have hix : i < xs.length := by rw [← HCL.out, ← HLEN.out s' hs']; exact hiv
    exact ((HFIT.out s' hs').2.2 i _ _ (List.getElem?_eq_getElem hix) (List.getElem?_eq_getElem hiv)).both, ⟨B0, hB1, hzb⟩, HP6.out.later l7, HF6.out.later l7⟩)
  replace hS : (fun W : World => W.cell? ⟨w.heap.size, 0, none⟩ = some (.slice V vn vc) ∧ W.cell? ⟨w.heap.size, 1, none⟩ = some (.int .i64 last)) w7 := ⟨l7.cell hS.1, l7.cell hS.2⟩
  refine hK _ _ hS fun wq hwq => ?_
  subst hwq
  clear hK h hz hzl hzr l7 hgc
  (try simp only [Act.put, List.setIfInBounds_toArray, List.set_cons_zero, List.set_cons_succ])
  refine wpAnyK_take (fun _ => rfl) (fun _ _ _ h k => h.trans k) (fun _ _ h k => k ▸ h) (i := 8) (oi := { dst := some 9, op := _, type := _, pos := _, after := _, guard := _ }) (v := ?_) rfl (by kernel_rfl) (by kernel_rfl) (by kernel_rfl) (fun _ _ _ h => h) (Or.inl (Or.inl ⟨by rfl, ?_⟩)) hS ?_
  rotate_left
  focus ((intro w hSw; (try dsimp only at hSw); obtain ⟨d0, d1⟩ := hSw; go_simp); (try with_reducible rfl))
  intro wq hwq
  subst hwq
  (try simp only [Act.put, List.setIfInBounds_toArray, List.set_cons_zero, List.set_cons_succ])
  refine wpAnyK_take (fun _ => rfl) (fun _ _ _ h k => h.trans k) (fun _ _ h k => k ▸ h) (i := 9) (oi := { dst := some 18, op := _, type := _, pos := _, after := _, guard := _ }) (v := ?_) rfl (by kernel_rfl) (by kernel_rfl) (by kernel_rfl) (fun _ _ _ h => h) (Or.inl (Or.inl ⟨by rfl, ?_⟩)) hS ?_
  rotate_left
  focus ((intro w hSw; (try dsimp only at hSw); obtain ⟨d0, d1⟩ := hSw; go_simp); (try with_reducible rfl))
  intro wq hwq
  subst hwq
  (try simp only [Act.put, List.setIfInBounds_toArray, List.set_cons_zero, List.set_cons_succ])
  refine wpAnyK_take (fun _ => rfl) (fun _ _ _ h k => h.trans k) (fun _ _ h k => k ▸ h) (i := 10) (oi := { dst := some 19, op := _, type := _, pos := _, after := _, guard := _ }) (v := ?_) rfl (by kernel_rfl) (by kernel_rfl) (by kernel_rfl) (fun _ _ _ h => h) (Or.inl (Or.inl ⟨by rfl, ?_⟩)) hS ?_
  rotate_left
  focus ((intro w hSw; (try dsimp only at hSw); obtain ⟨d0, d1⟩ := hSw; go_simp); (try with_reducible rfl))
  intro wq hwq
  subst hwq
  (try simp only [Act.put, List.setIfInBounds_toArray, List.set_cons_zero, List.set_cons_succ])
  refine wpAnyK_take (fun _ => rfl) (fun _ _ _ h k => h.trans k) (fun _ _ h k => k ▸ h) (i := 11) (oi := { dst := some 7, op := _, type := _, pos := _, after := _, guard := _ }) (v := ?_) rfl (by kernel_rfl) (by kernel_rfl) (by kernel_rfl) (fun _ _ _ h => h) (Or.inl (Or.inl ⟨by rfl, ?_⟩)) hS ?_
  rotate_left
  focus ((intro w hSw; (try dsimp only at hSw); obtain ⟨d0, d1⟩ := hSw; go_simp); (try with_reducible rfl))
  intro wq hwq
  subst hwq
  (try simp only [Act.put, List.setIfInBounds_toArray, List.set_cons_zero, List.set_cons_succ])
  refine wpAnyK_take (fun _ => rfl) (fun _ _ _ h k => h.trans k) (fun _ _ h k => k ▸ h) (i := 12) (oi := { dst := some 8, op := _, type := _, pos := _, after := _, guard := _ }) (v := ?_) rfl (by kernel_rfl) (by kernel_rfl) (by kernel_rfl) (fun _ _ _ h => h) (Or.inl (Or.inl ⟨by rfl, ?_⟩)) hS ?_
  rotate_left
  focus ((intro w hSw; (try dsimp only at hSw); obtain ⟨d0, d1⟩ := hSw; go_simp); (try with_reducible rfl))
  intro wq hwq
  subst hwq
  (try simp only [Act.put, List.setIfInBounds_toArray, List.set_cons_zero, List.set_cons_succ])
  refine wpAnyK_done (by kernel_rfl) ?_ _
  clear hS
  go_wp2_with fail
  go_ret
  exact HFIN.out
end Go.Proofs.YtkdpjocglfephaaDoor

/- begun of law 23. -/


namespace Go.Proofs.YtkdpjocglfephaaDoor
open Go.RowKit
set_option linter.unusedVariables false

abbrev bA : ByteArray := ⟨#[97]⟩
def c23 : List Col3 := [(1, bA, 2)]
def t23 : List Tst := [⟨bA, 5, (2, 3, ⟨#[]⟩), false, false⟩]
def l23 : List Val3 := [(2, 5, ⟨#[]⟩), (0, 0, ⟨#[]⟩), (2, 3, ⟨#[]⟩)]
def r23 : List Val3 := [(2, 5, ⟨#[]⟩)]
def n23 : List Val3 := [(0, 0, ⟨#[]⟩)]
def z23 : List Zn := [⟨0, (2, 5, ⟨#[]⟩), (2, 5, ⟨#[]⟩)⟩]
def u23 : List Tst := [⟨⟨#[98]⟩, 7, (0, 0, ⟨#[]⟩), false, false⟩]
theorem m23_rows : passTo c23 t23 (rowsC [l23]) (rowsC [l23]).length = [0] := by decide +kernel
theorem m23_check : checkT c23 t23 = 0 := by decide +kernel
theorem m23_row : rowT c23 t23 r23 = 2 := by decide +kernel
theorem m23_nul : rowT c23 t23 n23 = 1 := by decide +kernel
theorem m23_can : predCan c23 1 z23 t23 = true := by decide +kernel
theorem m23_no : checkT c23 u23 = 3 := by decide +kernel

set_option maxRecDepth 100000 in
set_option maxHeartbeats 4000000 in
theorem begun23_any (w : World) (hg : ErrT w) (hs : S3 w) : Calls Tryd.prog 5 #[] w fun e w' => e = .returned (.bool true) ∧ Later w w' := by
  obtain ⟨g, hgz⟩ : ∃ g, w.heap.size = g := ⟨_, rfl⟩
  obtain ⟨w6, hw6⟩ : ∃ x : World, (((((w.alloc (.cells (fc c23).toArray 74)).alloc (.cells #[.slice (some ⟨g, 0, none⟩) 1 1, .int .i64 1] 33)).alloc (.cells (ft t23).toArray 28)).alloc (.cells (fl r23).toArray 26)).alloc (.cells (fl l23).toArray 26)).alloc (.cells #[.slice (some ⟨g + 1 + 1 + 1 + 1, 0, none⟩) 3 3] 52) = x := ⟨_, rfl⟩
  have l6 : Later w w6 := hw6 ▸ (((((Later.new w _).alloc _).alloc _).alloc _).alloc _).alloc _
  have C : Has w6 (some ⟨g, 0, none⟩) (fc c23) := hw6 ▸ (Blk.new w (fc c23).toArray 74 g hgz.symm).has.later (((((Later.new _ _).alloc _).alloc _).alloc _).alloc _)
  have B1 : Blk w6 (g + 1) #[.slice (some ⟨g, 0, none⟩) 1 1, .int .i64 1] 33 := hw6 ▸ (Blk.new _ _ 33 (g + 1) (by simp [hgz])).later ((((Later.new _ _).alloc _).alloc _).alloc _)
  have T : Has w6 (some ⟨g + 1 + 1, 0, none⟩) (ft t23) := hw6 ▸ (Blk.new _ (ft t23).toArray 28 (g + 1 + 1) (by simp [hgz])).has.later (((Later.new _ _).alloc _).alloc _)
  have V : Blk w6 (g + 1 + 1 + 1) #[.int .i64 2, .int .i64 5, .string ⟨#[]⟩] 26 := hw6 ▸ (Blk.new _ (fl r23).toArray 26 (g + 1 + 1 + 1) (by simp [hgz])).later ((Later.new _ _).alloc _)
  have Z : Has w6 (some ⟨g + 1 + 1 + 1 + 1, 0, none⟩) (fl l23) := hw6 ▸ (Blk.new _ (fl l23).toArray 26 (g + 1 + 1 + 1 + 1) (by simp [hgz])).has.later (Later.new _ _)
  have O : Has w6 (some ⟨g + 1 + 1 + 1 + 1 + 1, 0, none⟩) [.slice (some ⟨g + 1 + 1 + 1 + 1, 0, none⟩) 3 3] := hw6 ▸ (Blk.new _ #[.slice (some ⟨g + 1 + 1 + 1 + 1, 0, none⟩) 3 3] 52 (g + 1 + 1 + 1 + 1 + 1) (by simp [hgz])).has
  have RA : RowsAt w6 (some ⟨g + 1 + 1 + 1 + 1 + 1, 0, none⟩) [⟨some ⟨g + 1 + 1 + 1 + 1, 0, none⟩, 3, l23⟩] := ⟨O, fun s hs => by
    rw [List.mem_singleton] at hs; subst hs
    exact ⟨HasX.of Z, (show 3 ≤ 3 by decide), (show 3 ≤ 9223372036854775807 by decide), by intro h; cases h⟩⟩
  have HP := Lib.hid (predRows_any (some ⟨g, 0, none⟩) 1 1 1 c23 (some ⟨g + 1 + 1, 0, none⟩) 1 1 t23 (some ⟨g + 1 + 1 + 1 + 1 + 1, 0, none⟩) 1 1 _ w6 rfl (by decide) C rfl (by decide) T rfl (by decide) RA (by intro s hs; rw [List.mem_singleton] at hs; subst hs; show 3 ≤ 1000; decide))
  rw [show colsOf [⟨some ⟨g + 1 + 1 + 1 + 1, 0, none⟩, 3, l23⟩] = [l23] from rfl, m23_rows] at HP
  have HCK := Lib.hid (fun w' (l : Later w6 w') => predCheck2_any (some ⟨g, 0, none⟩) 1 1 1 c23 (some ⟨g + 1 + 1, 0, none⟩) 1 1 t23 w' (hg.later (l6.trans l)) (hs.later (l6.trans l)) rfl (by decide) (C.later l) rfl (by decide) (T.later l))
  rw [m23_check] at HCK
  have HCN := Lib.hid (fun w' (l : Later w6 w') => predCan_any (some ⟨g, 0, none⟩) 1 1 1 c23 (some ⟨g + 1 + 1, 0, none⟩) 1 1 t23 1 (some ⟨w'.heap.size, 0, none⟩) 1 1 z23 (w'.alloc (.cells (fz z23).toArray 50)) rfl (by decide) (C.later (l.alloc _)) rfl (by decide) (T.later (l.alloc _)) rfl (by decide) (Blk.new w' (fz z23).toArray 50 _ rfl).has)
  rw [m23_can] at HCN
  have HR1 := Lib.hid (fun w' (l : Later w6 w') => predRow_any (some ⟨g, 0, none⟩) 1 1 1 c23 (some ⟨g + 1 + 1, 0, none⟩) 1 1 t23 (some ⟨w'.heap.size, 0, none⟩) 1 1 r23 (w'.alloc (.cells (fl r23).toArray 26)) rfl (by decide) (C.later (l.alloc _)) rfl (by decide) (T.later (l.alloc _)) rfl (by decide) (Blk.new w' (fl r23).toArray 26 _ rfl).has)
  rw [m23_row] at HR1
  have HR2 := Lib.hid (fun w' (l : Later w6 w') => predRow_any (some ⟨g, 0, none⟩) 1 1 1 c23 (some ⟨g + 1 + 1, 0, none⟩) 1 1 t23 (some ⟨w'.heap.size, 0, none⟩) 1 1 n23 (w'.alloc (.cells (fl n23).toArray 26)) rfl (by decide) (C.later (l.alloc _)) rfl (by decide) (T.later (l.alloc _)) rfl (by decide) (Blk.new w' (fl n23).toArray 26 _ rfl).has)
  rw [m23_nul] at HR2
  have HCU := Lib.hid (fun w' (l : Later w6 w') => predCheck2_any (some ⟨g, 0, none⟩) 1 1 1 c23 (some ⟨w'.heap.size, 0, none⟩) 1 1 u23 (w'.alloc (.cells (ft u23).toArray 28)) (hg.later (l6.trans (l.alloc _))) (hs.later (l6.trans (l.alloc _))) rfl (by decide) (C.later (l.alloc _)) rfl (by decide) (Blk.new w' (ft u23).toArray 28 _ rfl).has)
  rw [m23_no] at HCU
  have HB1 := Lib.hid B1
  have HV := Lib.hid V
  have HL6 := Lib.hid l6
  have HW := Lib.hid hw6
  clear l6 C B1 T V Z O RA hw6 hg hs
  go_enter Tryd.func5, Tryd.ntmps5
  go_wp2_with fail
  change Calls _ _ _ ((((((w.alloc (.cells (fc c23).toArray 74)).alloc (.cells #[.slice (some ⟨g, 0, none⟩) 1 1, .int .i64 1] 33)).alloc (.cells (ft t23).toArray 28)).alloc (.cells (fl r23).toArray 26)).alloc (.cells (fl l23).toArray 26)).alloc (.cells #[.slice (some ⟨g + 1 + 1 + 1 + 1, 0, none⟩) 3 3] 52)) _
  rw [HW.out]
  clear HW hgz
  refine HP.out.mono ?_
  rintro e w7 ⟨A7, c7, rfl, h7, _, _, l7⟩
  have HL7 := Lib.hid l7
  obtain ⟨b7, o7, rfl, k7⟩ : ∃ b o, A7 = some ⟨b, o, none⟩ ∧ CellIs w7 ⟨b, o, none⟩ (.int .i64 0) := by
    rcases h7 with h7 | ⟨b, o, hA, _, hc⟩
    · cases h7
    · exact ⟨b, o, hA, hc 0 _ rfl⟩
  have s0 := (HB1.out.later l7).cell 0 _ rfl
  have s1 := (HB1.out.later l7).cell 1 _ rfl
  clear HP l7 h7
  go_wp2_with fail
  refine (HCK.out w7 HL7.out).mono ?_
  rintro e w8 ⟨rfl, l8⟩
  have HL8 := Lib.hid (HL7.out.trans l8)
  have k8 := k7.later l8
  have s0 := (HB1.out.later HL8.out).cell 0 _ rfl
  have s1 := (HB1.out.later HL8.out).cell 1 _ rfl
  have v0 := (HV.out.later HL8.out).cell 0 _ rfl
  have v1 := (HV.out.later HL8.out).cell 1 _ rfl
  have v2 := (HV.out.later HL8.out).cell 2 _ rfl
  clear l8 k7 HCK HL7
  go_wp2_with fail
  refine (HR1.out w8 HL8.out).mono ?_
  rintro e w9 ⟨rfl, l9⟩
  have HL9 := Lib.hid (HL8.out.trans ((Later.new w8 _).trans l9))
  have k9 := k8.later ((Later.new w8 _).trans l9)
  have s0 := (HB1.out.later HL9.out).cell 0 _ rfl
  have s1 := (HB1.out.later HL9.out).cell 1 _ rfl
  clear l9 k8 HR1 HL8 v0 v1 v2
  go_wp2_with fail
  refine (HR2.out w9 HL9.out).mono ?_
  rintro e w10 ⟨rfl, l10⟩
  have HL10 := Lib.hid (HL9.out.trans ((Later.new w9 _).trans l10))
  have k10 := (k9.later ((Later.new w9 _).trans l10)).out
  have s0 := (HB1.out.later HL10.out).cell 0 _ rfl
  have s1 := (HB1.out.later HL10.out).cell 1 _ rfl
  have v0 := (HV.out.later HL10.out).cell 0 _ rfl
  have v1 := (HV.out.later HL10.out).cell 1 _ rfl
  have v2 := (HV.out.later HL10.out).cell 2 _ rfl
  clear l10 k9 HR2 HL9
  go_wp2_with fail
  refine (HCN.out w10 HL10.out).mono ?_
  rintro e w11 ⟨rfl, l11⟩
  have HL11 := Lib.hid (HL10.out.trans ((Later.new w10 _).trans l11))
  have s0 := (HB1.out.later HL11.out).cell 0 _ rfl
  have s1 := (HB1.out.later HL11.out).cell 1 _ rfl
  clear l11 k10 HCN HL10 v0 v1 v2
  go_wp2_with fail
  refine (HCU.out w11 HL11.out).mono ?_
  rintro e w12 ⟨rfl, l12⟩
  have HL12 := Lib.hid (HL6.out.trans (HL11.out.trans ((Later.new w11 _).trans l12)))
  clear l12 HCU HL11
  go_wp2_with fail
  go_ret
  exact ⟨rfl, HL12.out⟩
end Go.Proofs.YtkdpjocglfephaaDoor

/- Cells of values in a block that may be written; what lies in old blocks; a turn of a list. -/


namespace Go.Proofs.YtkdpjocglfephaaDoor
open Go.RowKit
set_option linter.unusedVariables false

def Cells3 (w : World) (g : Nat) (d : List Val3) : Prop := g < w.heap.size ∧ ∀ j v, (fl d)[j]? = some v → w.cell? ⟨g, j, none⟩ = some v ∧ w.frozen? ⟨g, j, none⟩ = false
theorem Cells3.has {w : World} {g : Nat} {d : List Val3} (h : Cells3 w g d) : Has w (some ⟨g, 0, none⟩) (fl d) := .inr ⟨g, 0, rfl, h.1, fun k v hv => by rw [Nat.zero_add]; exact (h.2 k v hv).1⟩
theorem Cells3.get {w : World} {g : Nat} {d : List Val3} (h : Cells3 w g d) (k : Nat) (hk : k < d.length) :
    w.cell? ⟨g, k * 3, none⟩ = some (.int .i64 d[k].1) ∧ w.cell? ⟨g, k * 3 + 1, none⟩ = some (.int .i64 d[k].2.1) ∧ w.cell? ⟨g, k * 3 + 2, none⟩ = some (.string d[k].2.2) ∧ w.frozen? ⟨g, k * 3, none⟩ = false ∧ w.frozen? ⟨g, k * 3 + 1, none⟩ = false ∧ w.frozen? ⟨g, k * 3 + 2, none⟩ = false := by
  obtain ⟨h0, h1, h2⟩ := fl_get d k hk
  exact ⟨(h.2 _ _ h0).1, (h.2 _ _ h1).1, (h.2 _ _ h2).1, (h.2 _ _ h0).2, (h.2 _ _ h1).2, (h.2 _ _ h2).2⟩
theorem Cells3.later {w w' : World} {g : Nat} {d : List Val3} (h : Cells3 w g d) (l : Later w w') : Cells3 w' g d := by
  refine ⟨Nat.lt_of_lt_of_le h.1 l.size, fun j v hv => ?_⟩
  obtain ⟨h1, h2⟩ := h.2 j v hv
  refine ⟨l.cell h1, ?_⟩
  have e := Below.block l g h.1
  unfold World.frozen? at h2 ⊢
  rw [e]
  exact h2
end Go.Proofs.YtkdpjocglfephaaDoor

/- append at a step of a region, of a slice that may be nothing. -/

namespace Go.Proofs.YtkdpjocglfephaaDoor
open Go.RowKit
set_option linter.unusedVariables false

theorem step_append_n {P : Program} {w : World} {ops : Array Oper} {o : Oper} {a : Act} {K : Act → World → Prop} {Q : Exit → Act → World → Prop} {E : Prop} (hgd : o.guard = none) (s x : Operand) (t : TypeId)
    (ho : o.op = .call { callee := .builtin .append, args := #[s, x], argTypes := #[t, t] })
    (base : Nat) (e : TypeId) (z : Value) (size bytes : Nat) (ht : P.underlying t = some (.slice e)) (hinfo : (P.info? e).map (fun i => (i.zero, i.size, i.bytes)) = some (some z, size, bytes)) (hzs : z.cells.size = size) (hsz0 : 0 < size)
    (v : Value) (n : Nat) (xs : List Value) (hs : a.eval s = v) (hown : w.ownsRow base e size v n xs)
    (A : Option Addr) (m c : Nat) (news : List Value) (hx : a.eval x = .slice A m c) (hr : Has w A news) (hm : news.length = m * size) (hnil : A = none → c = 0) (h1 : ∀ u ∈ news, u.oneCell' = true)
    (h63 : n + m ≤ maxLen) (hbytes : (n + m) * bytes ≤ 140737488355328) (hbase : base ≤ w.heap.size)
    (h : ∀ A' c' w', w'.ownsRow base e size (.slice A' (n + m) c') (n + m) (xs ++ news) → w.grownBy w' v.ownBlock → Below base w w' → (A' = none → c' = 0) → K (a.put o.dst (.slice A' (n + m) c')) w') :
    if Region.wanted o (yielded ops a.tmps) = true then Oper.wp P o a w K Q else E := by
  have hw : Region.wanted o (yielded ops a.tmps) = true := by simp [Region.wanted, hgd]
  rcases A with _ | ad
  · have hn : news = [] := by
      rcases hr with h | ⟨b, off, h, _⟩
      · exact h
      · cases h
    subst hn
    have hm0 : m = 0 := by
      rcases Nat.eq_zero_or_pos m with h | h
      · exact h
      · have := Nat.mul_pos h hsz0
        rw [← hm] at this
        simp at this
    subst hm0
    have hc0 := hnil rfl
    subst hc0
    obtain ⟨A', c', hv, hc'⟩ := ownG_shape hown
    subst hv
    rw [if_pos hw]
    obtain ⟨i, hi, hz, hsz, hby⟩ := info_parts hinfo
    have hrun := run_append_owned_none (P := P) (w := w) base t o.type e i size ht hi _ n xs hown
    unfold Oper.wp execOp
    simp only [ho, resolve, invoke, builtin, Sem.run_bind, Sem.run_pure, Result.andThen_ok, List.map_toArray, List.map_cons, List.map_nil, hs, hx, hrun]
    exact h A' c' w (by simpa using hown) (World.grownBy.refl _ _) (Below.refl _ _) hc'
  · rcases hr with h0 | ⟨b, off, e1, hb, hc⟩
    · subst h0
      rw [if_pos hw]
      obtain ⟨i, hi, hz, hsz, hby⟩ := info_parts hinfo
      obtain ⟨v', w', hrun, h2, h3, _, hat⟩ := run_append_own_at (P := P) w base t o.type e i z size bytes ht hi hz hsz hby hzs hsz0 v n xs hown ad m c [] hm (fun j u hu => by simp at hu) h1 h63 hbytes hbase
      obtain ⟨A', c', hv, hc'⟩ := ownG_shape h2
      subst hv
      unfold Oper.wp execOp
      simp only [ho, resolve, invoke, builtin, Sem.run_bind, Sem.run_pure, Result.andThen_ok, List.map_toArray, List.map_cons, List.map_nil, hs, hx, hrun]
      exact h A' c' w' h2 h3 ((Below.refl _ _).grown h3 hbase fun k hk => (hown.lt k hk).1) hc'
    · injection e1 with e1
      subst e1
      exact step_append_x hgd s x t ho base e z size bytes ht hinfo hzs hsz0 v n xs hs hown b off m c news hx (.inr ⟨b, off, rfl, hb, hc⟩) hm h1 h63 hbytes hbase fun A' c' w' h2 h3 h4 _ h6 => h A' c' w' h2 h3 h4 h6
end Go.Proofs.YtkdpjocglfephaaDoor
