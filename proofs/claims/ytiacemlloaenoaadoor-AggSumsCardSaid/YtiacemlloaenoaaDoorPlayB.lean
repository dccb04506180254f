/- The walk of rabbetplay's Batch. (tools/gen_playB.py) -/
import Derived.Test.YtiacemlloaenoaaDoorPlayO
import Derived.Test.YtiacemlloaenoaaDoorPlayS
import Derived.Test.YtiacemlloaenoaaDoorRefC
import Derived.Test.YtiacemlloaenoaaDoorKripke
namespace Go.Proofs.YtiacemlloaenoaaDoor
open Go.RowKit
set_option linter.unusedVariables false

theorem FitV.size {t : Int} {v : Val3} (h : FitV t v) : v.2.2.size ≤ 1000 := by
  rcases h.1 with h | ⟨_, h, _⟩
  · rw [h]; exact Nat.zero_le _
  · unfold MayV at h; omega
theorem FitV.both {t : Int} {v : Val3} (h : FitV t v) : v.2.2.size ≤ 1000 ∧ In64 v.2.1 := by
  refine ⟨h.size, ?_⟩
  rcases h.1 with h | ⟨_, _, h⟩
  · rw [h]; exact ⟨by decide, by decide⟩
  · exact h
/-- What Batch gives. -/
def BatchP (N vn g : Nat) (A : Option Addr) (n c : Nat) (bs : List Nat) (w : World) (e : Ending) (w' : World) : Prop :=
  ∃ (gc : Nat) (zs : List SlV), e = .returned (.slice (some ⟨gc, 0, none⟩) vn vn) ∧ zs.length = vn ∧ RowsAt w' (some ⟨gc, 0, none⟩) zs ∧ (∀ s ∈ zs, s.l.length = N ∧ ∀ x ∈ s.l, x.2.2.size ≤ 1000 ∧ In64 x.2.1) ∧ (∃ B, w.heap.size ≤ B ∧ ColsOn B w' (some ⟨gc, 0, none⟩) vn vn zs) ∧ Pks w' g A n c bs ∧ Far g w w'

set_option maxRecDepth 100000 in
set_option maxHeartbeats 4000000 in
theorem batch_any (N : Nat) (g : Nat) (A : Option Addr) (n c : Nat) (bs : List Nat) (V : Option Addr) (vn vc : Nat) (last : Int) (xs : List Col3) (w : World) (hc : PkC n bs) (hp : Pks w g A n c bs) (hvn : vn = xs.length) (hl : 1 ≤ vn ∧ vn ≤ 6) (hN : N ≤ 1000) (hV : HasX (some g) w V (fc xs)) :
    Calls Tryd.prog 7 #[.pointer (some ⟨g, 0, none⟩), .agg #[.slice V vn vc, .int .i64 last], .int .i64 N] w (BatchP N vn g A n c bs w) := by
  obtain ⟨w4, hw4⟩ : ∃ x : World, w.alloc (.cells #[.slice V vn vc, .int .i64 last] 29) = x := ⟨_, rfl⟩
  have l4 : Later w w4 := hw4 ▸ Later.new w _
  have hs4 : Blk w4 w.heap.size #[.slice V vn vc, .int .i64 last] 29 := hw4 ▸ Blk.new w _ _ _ rfl
  have s0 := hs4.cell 0 _ rfl
  have s1 := hs4.cell 1 _ rfl
  have HW4 := Lib.hid hw4
  have HCC := Lib.hid hc
  have HCL := Lib.hid hvn
  have HG := Lib.hid hp.lt
  have HP4 := Lib.hid (hp.later l4)
  have HF4 := Lib.hid (Far.of hp.lt l4)
  have HV4 := Lib.hid (hV.later l4)
  clear hw4 hc hvn hp hV hs4
  go_enter Tryd.func7, Tryd.ntmps7
  go_wp2_with fail
  rw [HW4.out]
  refine wp_region_K (S := fun W : World => W.cell? ⟨w.heap.size, 0, none⟩ = some (.slice V vn vc) ∧ W.cell? ⟨w.heap.size, 1, none⟩ = some (.int .i64 last)) (R := fun a b => a = b) (fun _ => rfl) (by kernel_rfl) ?_
  obtain ⟨wd, hwd⟩ : ∃ x, w4.drew = x := ⟨_, rfl⟩
  have ld : Later w4 wd := hwd ▸ (Later.refl w4).drew
  have hS : (fun W : World => W.cell? ⟨w.heap.size, 0, none⟩ = some (.slice V vn vc) ∧ W.cell? ⟨w.heap.size, 1, none⟩ = some (.int .i64 last)) wd := ⟨ld.cell s0, ld.cell s1⟩
  rw [hwd]
  have HPd := Lib.hid (HP4.out.later ld)
  have HVd := Lib.hid (HV4.out.later ld)
  have HFd := Lib.hid (HF4.out.later ld)
  have HSZ := Lib.hid (show w.heap.size < wd.heap.size from by have := block_lt_of_cell hS.1; exact this)
  clear hwd ld s0 s1 HP4 HV4 HF4 l4 HW4
  refine wpAnyK_take (fun _ => rfl) (fun _ _ _ h k => h.trans k) (fun _ _ h k => k ▸ h) (i := 0) (oi := { dst := some 10, op := _, type := _, pos := _, after := _, guard := _ }) (v := ?_) rfl (by kernel_rfl) (by kernel_rfl) (by kernel_rfl) (fun _ _ _ h => h) (Or.inl (Or.inl ⟨by rfl, ?_⟩)) hS ?_
  rotate_left
  focus ((intro w hSw; (try dsimp only at hSw); obtain ⟨d0, d1⟩ := hSw; go_simp); (try with_reducible rfl))
  intro wq hwq
  subst hwq
  (try simp only [Act.put, List.setIfInBounds_toArray, List.set_cons_zero, List.set_cons_succ])
  refine wpAnyK_take (fun _ => rfl) (fun _ _ _ h k => h.trans k) (fun _ _ h k => k ▸ h) (i := 1) (oi := { dst := some 11, op := _, type := _, pos := _, after := _, guard := _ }) (v := ?_) rfl (by kernel_rfl) (by kernel_rfl) (by kernel_rfl) (fun _ _ _ h => h) (Or.inl (Or.inl ⟨by rfl, ?_⟩)) hS ?_
  rotate_left
  focus ((intro w hSw; (try dsimp only at hSw); obtain ⟨d0, d1⟩ := hSw; go_simp); (try with_reducible rfl))
  intro wq hwq
  subst hwq
  (try simp only [Act.put, List.setIfInBounds_toArray, List.set_cons_zero, List.set_cons_succ])
  refine wpAnyK_take (fun _ => rfl) (fun _ _ _ h k => h.trans k) (fun _ _ h k => k ▸ h) (i := 2) (oi := { dst := some 12, op := _, type := _, pos := _, after := _, guard := _ }) (v := ?_) rfl (by kernel_rfl) (by kernel_rfl) (by kernel_rfl) (fun _ _ _ h => h) (Or.inl (Or.inl ⟨by rfl, ?_⟩)) hS ?_
  rotate_left
  focus ((intro w hSw; (try dsimp only at hSw); obtain ⟨d0, d1⟩ := hSw; go_simp); (try with_reducible rfl))
  intro wq hwq
  subst hwq
  (try simp only [Act.put, List.setIfInBounds_toArray, List.set_cons_zero, List.set_cons_succ])
  refine wpAnyK_take (fun _ => rfl) (fun _ _ _ h k => h.trans k) (fun _ _ h k => k ▸ h) (i := 4) (oi := { dst := some 14, op := _, type := _, pos := _, after := _, guard := _ }) (v := ?_) rfl (by kernel_rfl) (by kernel_rfl) (by kernel_rfl) (fun _ _ _ h => h) (Or.inl (Or.inl ⟨by rfl, ?_⟩)) hS ?_
  rotate_left
  focus ((intro w hSw; (try dsimp only at hSw); obtain ⟨d0, d1⟩ := hSw; go_simp); (try with_reducible rfl))
  intro wq hwq
  subst hwq
  (try simp only [Act.put, List.setIfInBounds_toArray, List.set_cons_zero, List.set_cons_succ])
  refine wpAnyK_take (fun _ => rfl) (fun _ _ _ h k => h.trans k) (fun _ _ h k => k ▸ h) (i := 5) (oi := { dst := some 15, op := _, type := _, pos := _, after := _, guard := _ }) (v := ?_) rfl (by kernel_rfl) (by kernel_rfl) (by kernel_rfl) (fun _ _ _ h => h) (Or.inl (Or.inl ⟨by rfl, ?_⟩)) hS ?_
  rotate_left
  focus ((intro w hSw; (try dsimp only at hSw); obtain ⟨d0, d1⟩ := hSw; go_simp); (try with_reducible rfl))
  intro wq hwq
  subst hwq
  (try simp only [Act.put, List.setIfInBounds_toArray, List.set_cons_zero, List.set_cons_succ])
  refine wpAnyK_take (fun _ => rfl) (fun _ _ _ h k => h.trans k) (fun _ _ h k => k ▸ h) (i := 6) (oi := { dst := some 16, op := _, type := _, pos := _, after := _, guard := _ }) (v := ?_) rfl (by kernel_rfl) (by kernel_rfl) (by kernel_rfl) (fun _ _ _ h => h) (Or.inl (Or.inl ⟨by rfl, ?_⟩)) hS ?_
  rotate_left
  focus ((intro w hSw; (try dsimp only at hSw); obtain ⟨d0, d1⟩ := hSw; go_simp); (try with_reducible rfl))
  intro wq hwq
  subst hwq
  (try simp only [Act.put, List.setIfInBounds_toArray, List.set_cons_zero, List.set_cons_succ])
  refine wpAnyK_all (rs := [3]) (by kernel_rfl) (by simp) (fun i hi => ?_)
  simp only [List.mem_cons, List.not_mem_nil, or_false] at hi
  subst hi
  refine stepK (o := { dst := some 13, op := _, type := _, pos := _, after := _, guard := _ }) rfl (fun K hK => ?_)
  go_simp
  refine (rows_any N g A n c bs V vn vc last xs wd HCC.out HPd.out HCL.out (by omega) hN HVd.out).mono ?_
  rintro e w6 ⟨ss, Lr, lc, rfl, hss, hon, hfit, hp6, hf6⟩
  have hk6 : ∀ k v, wd.cell? ⟨w.heap.size, k, none⟩ = some v → w6.cell? ⟨w.heap.size, k, none⟩ = some v := fun k v h => by
    rw [cell_block (hf6.2.2 w.heap.size HSZ.out (by have := HG.out; omega))]; exact h
  replace hS : (fun W : World => W.cell? ⟨w.heap.size, 0, none⟩ = some (.slice V vn vc) ∧ W.cell? ⟨w.heap.size, 1, none⟩ = some (.int .i64 last)) w6 := ⟨hk6 _ _ hS.1, hk6 _ _ hS.2⟩
  refine hK _ _ hS fun wq hwq => ?_
  subst hwq
  have HRA := Lib.hid hon.at_
  have HSS := Lib.hid hss
  have HFIT := Lib.hid hfit
  have HLEN := Lib.hid (fun s hs => ((hfit s hs).2.1.trans HCL.out.symm) : ∀ s ∈ ss, s.l.length = vn)
  have HF6 := Lib.hid (HFd.out.trans hf6)
  have HP6 := Lib.hid hp6
  clear hK hss hon hfit hp6 hf6 hk6 HPd HVd HFd
  (try simp only [Act.put, List.setIfInBounds_toArray, List.set_cons_zero, List.set_cons_succ])
  refine wpAnyK_all (rs := [7]) (by kernel_rfl) (by simp) (fun i hi => ?_)
  simp only [List.mem_cons, List.not_mem_nil, or_false] at hi
  subst hi
  refine stepK (o := { dst := some 17, op := _, type := _, pos := _, after := _, guard := _ }) rfl (fun K hK => ?_)
  go_simp
  refine (refColumns_any Lr N lc ss (vn : Int) w6 HSS.out.symm hN HRA.out.1 (fun s hs => by rw [HLEN.out s hs]; omega)).mono ?_
  intro e w7 h
  obtain ⟨gc, zs, rfl, hz, hzl, hzr, l7, hgc, _, hzb⟩ := h.yesO ⟨by omega, fun r hr => by
    obtain ⟨s, hs, rfl⟩ := List.mem_map.1 hr
    rw [HLEN.out s hs]⟩
  have hzn : zs.length = vn := by omega
  obtain ⟨B0, hB0, hzb⟩ := hzb
  have hB1 : w.heap.size ≤ B0 := by have := HF6.out.size; omega
  rw [hzn] at hzb ⊢
  have HFIN := Lib.hid (show BatchP N vn g A n c bs w (.returned (.slice (some ⟨gc, 0, none⟩) vn vn)) w7 from ⟨gc, zs, rfl, hzn, hzr, fun s hs => by
    have h1 : s.l ∈ colsT (ss.map (·.l)) zs.length := by rw [← hzl]; exact List.mem_map.2 ⟨s, hs, rfl⟩
    obtain ⟨i, hi, hi2⟩ := List.mem_map.1 h1
    rw [← hi2]
    refine ⟨by rw [colK_len, List.length_map, HSS.out], fun x hx => ?_⟩
    obtain ⟨r, hr, rfl⟩ := List.mem_map.1 hx
    obtain ⟨s', hs', rfl⟩ := List.mem_map.1 hr
    have hiv : i < s'.l.length := by rw [HLEN.out s' hs', ← hzn]; exact List.mem_range.1 hi
    rw [List.getD_eq_getElem?_getD, List.getElem?_eq_getElem hiv]
    have hix : i < xs.length := by rw [← HCL.out, ← HLEN.out s' hs']; exact hiv
    exact ((HFIT.out s' hs').2.2 i _ _ (List.getElem?_eq_getElem hix) (List.getElem?_eq_getElem hiv)).both, ⟨B0, hB1, hzb⟩, HP6.out.later l7, HF6.out.later l7⟩)
  replace hS : (fun W : World => W.cell? ⟨w.heap.size, 0, none⟩ = some (.slice V vn vc) ∧ W.cell? ⟨w.heap.size, 1, none⟩ = some (.int .i64 last)) w7 := ⟨l7.cell hS.1, l7.cell hS.2⟩
  refine hK _ _ hS fun wq hwq => ?_
  subst hwq
  clear hK h hz hzl hzr l7 hgc
  (try simp only [Act.put, List.setIfInBounds_toArray, List.set_cons_zero, List.set_cons_succ])
  refine wpAnyK_take (fun _ => rfl) (fun _ _ _ h k => h.trans k) (fun _ _ h k => k ▸ h) (i := 8) (oi := { dst := some 9, op := _, type := _, pos := _, after := _, guard := _ }) (v := ?_) rfl (by kernel_rfl) (by kernel_rfl) (by kernel_rfl) (fun _ _ _ h => h) (Or.inl (Or.inl ⟨by rfl, ?_⟩)) hS ?_
  rotate_left
  focus ((intro w hSw; (try dsimp only at hSw); obtain ⟨d0, d1⟩ := hSw; go_simp); (try with_reducible rfl))
  intro wq hwq
  subst hwq
  (try simp only [Act.put, List.setIfInBounds_toArray, List.set_cons_zero, List.set_cons_succ])
  refine wpAnyK_take (fun _ => rfl) (fun _ _ _ h k => h.trans k) (fun _ _ h k => k ▸ h) (i := 9) (oi := { dst := some 18, op := _, type := _, pos := _, after := _, guard := _ }) (v := ?_) rfl (by kernel_rfl) (by kernel_rfl) (by kernel_rfl) (fun _ _ _ h => h) (Or.inl (Or.inl ⟨by rfl, ?_⟩)) hS ?_
  rotate_left
  focus ((intro w hSw; (try dsimp only at hSw); obtain ⟨d0, d1⟩ := hSw; go_simp); (try with_reducible rfl))
  intro wq hwq
  subst hwq
  (try simp only [Act.put, List.setIfInBounds_toArray, List.set_cons_zero, List.set_cons_succ])
  refine wpAnyK_take (fun _ => rfl) (fun _ _ _ h k => h.trans k) (fun _ _ h k => k ▸ h) (i := 10) (oi := { dst := some 19, op := _, type := _, pos := _, after := _, guard := _ }) (v := ?_) rfl (by kernel_rfl) (by kernel_rfl) (by kernel_rfl) (fun _ _ _ h => h) (Or.inl (Or.inl ⟨by rfl, ?_⟩)) hS ?_
  rotate_left
  focus ((intro w hSw; (try dsimp only at hSw); obtain ⟨d0, d1⟩ := hSw; go_simp); (try with_reducible rfl))
  intro wq hwq
  subst hwq
  (try simp only [Act.put, List.setIfInBounds_toArray, List.set_cons_zero, List.set_cons_succ])
  refine wpAnyK_take (fun _ => rfl) (fun _ _ _ h k => h.trans k) (fun _ _ h k => k ▸ h) (i := 11) (oi := { dst := some 7, op := _, type := _, pos := _, after := _, guard := _ }) (v := ?_) rfl (by kernel_rfl) (by kernel_rfl) (by kernel_rfl) (fun _ _ _ h => h) (Or.inl (Or.inl ⟨by rfl, ?_⟩)) hS ?_
  rotate_left
  focus ((intro w hSw; (try dsimp only at hSw); obtain ⟨d0, d1⟩ := hSw; go_simp); (try with_reducible rfl))
  intro wq hwq
  subst hwq
  (try simp only [Act.put, List.setIfInBounds_toArray, List.set_cons_zero, List.set_cons_succ])
  refine wpAnyK_take (fun _ => rfl) (fun _ _ _ h k => h.trans k) (fun _ _ h k => k ▸ h) (i := 12) (oi := { dst := some 8, op := _, type := _, pos := _, after := _, guard := _ }) (v := ?_) rfl (by kernel_rfl) (by kernel_rfl) (by kernel_rfl) (fun _ _ _ h => h) (Or.inl (Or.inl ⟨by rfl, ?_⟩)) hS ?_
  rotate_left
  focus ((intro w hSw; (try dsimp only at hSw); obtain ⟨d0, d1⟩ := hSw; go_simp); (try with_reducible rfl))
  intro wq hwq
  subst hwq
  (try simp only [Act.put, List.setIfInBounds_toArray, List.set_cons_zero, List.set_cons_succ])
  refine wpAnyK_done (by kernel_rfl) ?_ _
  clear hS
  go_wp2_with fail
  go_ret
  exact HFIN.out
end Go.Proofs.YtiacemlloaenoaaDoor
