/- The walk of ChangeForms. (tools/gen_cforms.py) -/
import Derived.Test.YtphiggjgapaaiaaDoorChgF
import Derived.Test.YtphiggjgapaaiaaDoorSameR
namespace Go.Proofs.YtphiggjgapaaiaaDoor
open Go.RowKit
set_option linter.unusedVariables false

theorem wants_le (i : Nat) (h : i < wants.length) : (wants[i]).length ≤ 4 := by
  rw [wants_len] at h
  match i, h with
  | 0, _ => show (4 : Nat) ≤ 4; omega
  | 1, _ => show (2 : Nat) ≤ 4; omega
  | 2, _ => show (3 : Nat) ≤ 4; omega
  | 3, _ => show (3 : Nat) ≤ 4; omega
  | 4, _ => show (3 : Nat) ≤ 4; omega
  | 5, _ => show (4 : Nat) ≤ 4; omega
  | 6, _ => show (4 : Nat) ≤ 4; omega
  | 7, _ => show (3 : Nat) ≤ 4; omega
  | 8, _ => show (3 : Nat) ≤ 4; omega
theorem RowOk.has {l : List Val3} {w w' : World} {A : Option Addr} {c : Nat} (h : w'.ownsRow w.heap.size 29 3 (.slice A l.length c) l.length (fl l)) : Has w' A (fl l) := Has.ownG h

set_option maxRecDepth 100000 in
set_option maxHeartbeats 8000000 in
theorem changeForms_walk (w : World) (hs : S3 w) : Calls Tryd.prog 4 #[] w fun e w' => e = .returned (.bool true) ∧ Later w w' := by
  have HB := Lib.hid (begun16_any w hs)
  have HS := Lib.hid hs
  clear hs
  go_enter Tryd.func4, Tryd.ntmps4
  go_wp2_with fail
  refine HB.out.mono ?_
  rintro e w1 ⟨rfl, l1⟩
  have HL1 := Lib.hid l1
  obtain ⟨g, hg⟩ : ∃ x, w1.heap.size = x := ⟨_, rfl⟩
  have HF0 := Lib.hid (show FW g (wLits w1 (fwL g)) ∧ Later w (wLits w1 (fwL g)) from ⟨FW.mk' g w1 hg, l1.trans (wLits_later _ _)⟩)
  clear l1 HB
  go_wp2_with fail
  simp only [Nat.add_assoc, Nat.reduceAdd]
  go_loopw [8] (fun iv wr => ∃ i : Nat, i ≤ 9 ∧ iv = .int .i64 i ∧ FW g wr ∧ Later w wr) (fun i _ => 9 - (intOf i).toNat)
  case atStart => exact ⟨0, Nat.zero_le _, rfl, HF0.out⟩
  case round =>
    obtain ⟨i, hi, rfl, hfw, lat⟩ := hrel
    have HFW := Lib.hid hfw
    have HLT := Lib.hid lat
    clear HF0
    by_cases hlt : i < 9
    · have hic : i < chs.length := by rw [chs_len]; exact hlt
      have hiw : i < wants.length := by rw [wants_len]; exact hlt
      obtain ⟨wb, wc, cw, hwb⟩ := hfw.Wn i hiw
      have s0 := hfw.s.cell 0 _ rfl
      have s1 := hfw.s.cell 1 _ rfl
      have c0 := hfw.C i hic 0 _ rfl
      have c1 := hfw.C i hic 1 _ rfl
      have c2 := hfw.C i hic 2 _ rfl
      have c3 := hfw.C i hic 3 _ rfl
      have c4 := hfw.C i hic 4 _ rfl
      have c5 := hfw.C i hic 5 _ rfl
      have c6 := hfw.C i hic 6 _ rfl
      have c7 := hfw.C i hic 7 _ rfl
      have c8 := hfw.C i hic 8 _ rfl
      have HC := Lib.hid (fun W (l : Later wr W) => chRow_i i hic g (g + 5) W (HS.out.later (lat.trans l)) (hfw.V.later l) (hfw.R.later l))
      have hw4 := wants_le i hiw
      have HWB := Lib.hid hwb
      have HCW := Lib.hid cw
      generalize chs[i] = ch at c0 c1 c2 c3 c4 c5 c6 c7 c8 HC
      generalize wants[i] = wl at hw4 HWB HCW HC
      obtain ⟨kind, col, nm, ty, v0, v1, v2, sep, N⟩ := ch
      dsimp only at c0 c1 c2 c3 c4 c5 c6 c7 c8
      have hi9 : (i : Int) < 9 := by omega
      clear hwb cw hfw lat
      go_wp2_with fail
      refine wp_region_K (S := fun W : World => W.cell? ⟨g + 1, 0, none⟩ = some (.slice (some ⟨g, 0, none⟩) 3 3) ∧ W.cell? ⟨g + 1, 1, none⟩ = some (.int .i64 3) ∧ W.cell? ⟨g + 6, i * 9, none⟩ = some (.int .i64 kind) ∧ W.cell? ⟨g + 6, i * 9 + 1, none⟩ = some (.int .i64 col) ∧ W.cell? ⟨g + 6, i * 9 + 2, none⟩ = some (.string nm) ∧ W.cell? ⟨g + 6, i * 9 + 3, none⟩ = some (.int .i64 ty) ∧ W.cell? ⟨g + 6, i * 9 + 4, none⟩ = some (.int .i64 v0) ∧ W.cell? ⟨g + 6, i * 9 + 5, none⟩ = some (.int .i64 v1) ∧ W.cell? ⟨g + 6, i * 9 + 6, none⟩ = some (.string v2) ∧ W.cell? ⟨g + 6, i * 9 + 7, none⟩ = some (.int .u8 sep) ∧ W.cell? ⟨g + 6, i * 9 + 8, none⟩ = some (.int .i64 N)) (R := fun a b => a = b) (fun _ => rfl) (by kernel_rfl) ?_
      obtain ⟨wd, hwd⟩ : ∃ x, wr.drew = x := ⟨_, rfl⟩
      have ld : Later wr wd := hwd ▸ (Later.refl wr).drew
      have hS : (fun W : World => W.cell? ⟨g + 1, 0, none⟩ = some (.slice (some ⟨g, 0, none⟩) 3 3) ∧ W.cell? ⟨g + 1, 1, none⟩ = some (.int .i64 3) ∧ W.cell? ⟨g + 6, i * 9, none⟩ = some (.int .i64 kind) ∧ W.cell? ⟨g + 6, i * 9 + 1, none⟩ = some (.int .i64 col) ∧ W.cell? ⟨g + 6, i * 9 + 2, none⟩ = some (.string nm) ∧ W.cell? ⟨g + 6, i * 9 + 3, none⟩ = some (.int .i64 ty) ∧ W.cell? ⟨g + 6, i * 9 + 4, none⟩ = some (.int .i64 v0) ∧ W.cell? ⟨g + 6, i * 9 + 5, none⟩ = some (.int .i64 v1) ∧ W.cell? ⟨g + 6, i * 9 + 6, none⟩ = some (.string v2) ∧ W.cell? ⟨g + 6, i * 9 + 7, none⟩ = some (.int .u8 sep) ∧ W.cell? ⟨g + 6, i * 9 + 8, none⟩ = some (.int .i64 N)) wd := ⟨ld.cell s0, ld.cell s1, ld.cell c0, ld.cell c1, ld.cell c2, ld.cell c3, ld.cell c4, ld.cell c5, ld.cell c6, ld.cell c7, ld.cell c8⟩
      rw [hwd]
      have HLD := Lib.hid ld
      have HCD := Lib.hid (show Calls Tryd.prog 8 #[.agg #[.slice (some ⟨g, 0, none⟩) 3 3, .int .i64 3], chg kind col nm ty v0 v1 v2 sep N, .slice (some ⟨g + 5, 0, none⟩) 3 3] wd (RowOk wl wd) from HC.out wd ld)
      clear hwd ld s0 s1 c0 c1 c2 c3 c4 c5 c6 c7 c8 HC
      refine wpAnyK_take (fun _ => rfl) (fun _ _ _ h k => h.trans k) (fun _ _ h k => k ▸ h) (i := 0) (oi := { dst := some 83, op := _, type := _, pos := _, after := _, guard := _ }) (v := ?_) rfl (by kernel_rfl) (by kernel_rfl) (by kernel_rfl) (fun _ _ _ h => h) (Or.inl (Or.inl ⟨by rfl, ?_⟩)) hS ?_
      rotate_left
      focus ((intro w hSw; (try dsimp only at hSw); obtain ⟨d0, d1, d2, d3, d4, d5, d6, d7, d8, d9, d10⟩ := hSw; go_simp); (try with_reducible rfl))
      intro wq hwq
      subst hwq
      (try simp only [Act.put, List.setIfInBounds_toArray, List.set_cons_zero, List.set_cons_succ])
      refine wpAnyK_take (fun _ => rfl) (fun _ _ _ h k => h.trans k) (fun _ _ h k => k ▸ h) (i := 1) (oi := { dst := some 84, op := _, type := _, pos := _, after := _, guard := _ }) (v := ?_) rfl (by kernel_rfl) (by kernel_rfl) (by kernel_rfl) (fun _ _ _ h => h) (Or.inl (Or.inl ⟨by rfl, ?_⟩)) hS ?_
      rotate_left
      focus ((intro w hSw; (try dsimp only at hSw); obtain ⟨d0, d1, d2, d3, d4, d5, d6, d7, d8, d9, d10⟩ := hSw; go_simp); (try with_reducible rfl))
      intro wq hwq
      subst hwq
      (try simp only [Act.put, List.setIfInBounds_toArray, List.set_cons_zero, List.set_cons_succ])
      refine wpAnyK_take (fun _ => rfl) (fun _ _ _ h k => h.trans k) (fun _ _ h k => k ▸ h) (i := 2) (oi := { dst := some 85, op := _, type := _, pos := _, after := _, guard := _ }) (v := ?_) rfl (by kernel_rfl) (by kernel_rfl) (by kernel_rfl) (fun _ _ _ h => h) (Or.inl (Or.inl ⟨by rfl, ?_⟩)) hS ?_
      rotate_left
      focus ((intro w hSw; (try dsimp only at hSw); obtain ⟨d0, d1, d2, d3, d4, d5, d6, d7, d8, d9, d10⟩ := hSw; go_simp); (try with_reducible rfl))
      intro wq hwq
      subst hwq
      (try simp only [Act.put, List.setIfInBounds_toArray, List.set_cons_zero, List.set_cons_succ])
      refine wpAnyK_take (fun _ => rfl) (fun _ _ _ h k => h.trans k) (fun _ _ h k => k ▸ h) (i := 3) (oi := { dst := some 86, op := _, type := _, pos := _, after := _, guard := _ }) (v := ?_) rfl (by kernel_rfl) (by kernel_rfl) (by kernel_rfl) (fun _ _ _ h => h) (Or.inl (Or.inl ⟨by rfl, ?_⟩)) hS ?_
      rotate_left
      focus ((intro w hSw; (try dsimp only at hSw); obtain ⟨d0, d1, d2, d3, d4, d5, d6, d7, d8, d9, d10⟩ := hSw; go_simp); (try with_reducible rfl))
      intro wq hwq
      subst hwq
      (try simp only [Act.put, List.setIfInBounds_toArray, List.set_cons_zero, List.set_cons_succ])
      refine wpAnyK_take (fun _ => rfl) (fun _ _ _ h k => h.trans k) (fun _ _ h k => k ▸ h) (i := 4) (oi := { dst := some 87, op := _, type := _, pos := _, after := _, guard := _ }) (v := ?_) rfl (by kernel_rfl) (by kernel_rfl) (by kernel_rfl) (fun _ _ _ h => h) (Or.inl (Or.inl ⟨by rfl, ?_⟩)) hS ?_
      rotate_left
      focus ((intro w hSw; (try dsimp only at hSw); obtain ⟨d0, d1, d2, d3, d4, d5, d6, d7, d8, d9, d10⟩ := hSw; go_simp); (try with_reducible rfl))
      intro wq hwq
      subst hwq
      (try simp only [Act.put, List.setIfInBounds_toArray, List.set_cons_zero, List.set_cons_succ])
      refine wpAnyK_take (fun _ => rfl) (fun _ _ _ h k => h.trans k) (fun _ _ h k => k ▸ h) (i := 5) (oi := { dst := some 88, op := _, type := _, pos := _, after := _, guard := _ }) (v := ?_) rfl (by kernel_rfl) (by kernel_rfl) (by kernel_rfl) (fun _ _ _ h => h) (Or.inl (Or.inl ⟨by rfl, ?_⟩)) hS ?_
      rotate_left
      focus ((intro w hSw; (try dsimp only at hSw); obtain ⟨d0, d1, d2, d3, d4, d5, d6, d7, d8, d9, d10⟩ := hSw; go_simp); (try with_reducible rfl))
      intro wq hwq
      subst hwq
      (try simp only [Act.put, List.setIfInBounds_toArray, List.set_cons_zero, List.set_cons_succ])
      refine wpAnyK_all (rs := [6]) (by kernel_rfl) (by simp) (fun i hi => ?_)
      simp only [List.mem_cons, List.not_mem_nil, or_false] at hi
      subst hi
      refine stepK (o := { dst := some 89, op := _, type := _, pos := _, after := _, guard := _ }) rfl (fun K hK => ?_)
      go_simp
      refine HCD.out.mono ?_
      rintro e w2 ⟨A, c2, rfl, o2, _, l2⟩
      replace hS : (fun W : World => W.cell? ⟨g + 1, 0, none⟩ = some (.slice (some ⟨g, 0, none⟩) 3 3) ∧ W.cell? ⟨g + 1, 1, none⟩ = some (.int .i64 3) ∧ W.cell? ⟨g + 6, i * 9, none⟩ = some (.int .i64 kind) ∧ W.cell? ⟨g + 6, i * 9 + 1, none⟩ = some (.int .i64 col) ∧ W.cell? ⟨g + 6, i * 9 + 2, none⟩ = some (.string nm) ∧ W.cell? ⟨g + 6, i * 9 + 3, none⟩ = some (.int .i64 ty) ∧ W.cell? ⟨g + 6, i * 9 + 4, none⟩ = some (.int .i64 v0) ∧ W.cell? ⟨g + 6, i * 9 + 5, none⟩ = some (.int .i64 v1) ∧ W.cell? ⟨g + 6, i * 9 + 6, none⟩ = some (.string v2) ∧ W.cell? ⟨g + 6, i * 9 + 7, none⟩ = some (.int .u8 sep) ∧ W.cell? ⟨g + 6, i * 9 + 8, none⟩ = some (.int .i64 N)) w2 := ⟨l2.cell hS.1, l2.cell hS.2.1, l2.cell hS.2.2.1, l2.cell hS.2.2.2.1, l2.cell hS.2.2.2.2.1, l2.cell hS.2.2.2.2.2.1, l2.cell hS.2.2.2.2.2.2.1, l2.cell hS.2.2.2.2.2.2.2.1, l2.cell hS.2.2.2.2.2.2.2.2.1, l2.cell hS.2.2.2.2.2.2.2.2.2.1, l2.cell hS.2.2.2.2.2.2.2.2.2.2⟩
      refine hK _ _ hS fun wq hwq => ?_
      subst hwq
      have HO2 := Lib.hid (RowOk.has o2)
      have HL2 := Lib.hid (HLD.out.trans l2)
      clear hK l2 HCD HLD o2
      (try simp only [Act.put, List.setIfInBounds_toArray, List.set_cons_zero, List.set_cons_succ])
      refine wpAnyK_take (fun _ => rfl) (fun _ _ _ h k => h.trans k) (fun _ _ h k => k ▸ h) (i := 7) (oi := { dst := some 82, op := _, type := _, pos := _, after := _, guard := _ }) (v := ?_) rfl (by kernel_rfl) (by kernel_rfl) (by kernel_rfl) (fun _ _ _ h => h) (Or.inl (Or.inl ⟨by rfl, ?_⟩)) hS ?_
      rotate_left
      focus ((intro w hSw; (try dsimp only at hSw); obtain ⟨d0, d1, d2, d3, d4, d5, d6, d7, d8, d9, d10⟩ := hSw; go_simp); (try with_reducible rfl))
      intro wq hwq
      subst hwq
      (try simp only [Act.put, List.setIfInBounds_toArray, List.set_cons_zero, List.set_cons_succ])
      refine wpAnyK_take (fun _ => rfl) (fun _ _ _ h k => h.trans k) (fun _ _ h k => k ▸ h) (i := 8) (oi := { dst := some 90, op := _, type := _, pos := _, after := _, guard := _ }) (v := ?_) rfl (by kernel_rfl) (by kernel_rfl) (by kernel_rfl) (fun _ _ _ h => h) (Or.inl (Or.inl ⟨by rfl, ?_⟩)) hS ?_
      rotate_left
      focus ((intro w hSw; (try dsimp only at hSw); obtain ⟨d0, d1, d2, d3, d4, d5, d6, d7, d8, d9, d10⟩ := hSw; go_simp); (try with_reducible rfl))
      intro wq hwq
      subst hwq
      (try simp only [Act.put, List.setIfInBounds_toArray, List.set_cons_zero, List.set_cons_succ])
      refine wpAnyK_take (fun _ => rfl) (fun _ _ _ h k => h.trans k) (fun _ _ h k => k ▸ h) (i := 9) (oi := { dst := some 91, op := _, type := _, pos := _, after := _, guard := _ }) (v := ?_) rfl (by kernel_rfl) (by kernel_rfl) (by kernel_rfl) (fun _ _ _ h => h) (Or.inl (Or.inl ⟨by rfl, ?_⟩)) hS ?_
      rotate_left
      focus ((intro w hSw; (try dsimp only at hSw); obtain ⟨d0, d1, d2, d3, d4, d5, d6, d7, d8, d9, d10⟩ := hSw; go_simp); (try with_reducible rfl))
      intro wq hwq
      subst hwq
      (try simp only [Act.put, List.setIfInBounds_toArray, List.set_cons_zero, List.set_cons_succ])
      refine wpAnyK_take (fun _ => rfl) (fun _ _ _ h k => h.trans k) (fun _ _ h k => k ▸ h) (i := 10) (oi := { dst := some 9, op := _, type := _, pos := _, after := _, guard := _ }) (v := ?_) rfl (by kernel_rfl) (by kernel_rfl) (by kernel_rfl) (fun _ _ _ h => h) (Or.inl (Or.inl ⟨by rfl, ?_⟩)) hS ?_
      rotate_left
      focus ((intro w hSw; (try dsimp only at hSw); obtain ⟨d0, d1, d2, d3, d4, d5, d6, d7, d8, d9, d10⟩ := hSw; go_simp); (try with_reducible rfl))
      intro wq hwq
      subst hwq
      (try simp only [Act.put, List.setIfInBounds_toArray, List.set_cons_zero, List.set_cons_succ])
      refine wpAnyK_take (fun _ => rfl) (fun _ _ _ h k => h.trans k) (fun _ _ h k => k ▸ h) (i := 11) (oi := { dst := some 10, op := _, type := _, pos := _, after := _, guard := _ }) (v := ?_) rfl (by kernel_rfl) (by kernel_rfl) (by kernel_rfl) (fun _ _ _ h => h) (Or.inl (Or.inl ⟨by rfl, ?_⟩)) hS ?_
      rotate_left
      focus ((intro w hSw; (try dsimp only at hSw); obtain ⟨d0, d1, d2, d3, d4, d5, d6, d7, d8, d9, d10⟩ := hSw; go_simp); (try with_reducible rfl))
      intro wq hwq
      subst hwq
      (try simp only [Act.put, List.setIfInBounds_toArray, List.set_cons_zero, List.set_cons_succ])
      refine wpAnyK_done (by kernel_rfl) ?_ _
      clear hS
      have cw := HL2.out.cell HCW.out
      have HSM := Lib.hid (refSameRow_any A (some ⟨wb, 0, none⟩) wl.length wl.length c2 wc wl wl w2 rfl rfl HO2.out (HWB.out.later HL2.out) (by omega) (by omega))
      have HFW2 := Lib.hid (HFW.out.later HL2.out)
      have HLT2 := Lib.hid (HLT.out.trans HL2.out)
      generalize wl.length = ln at cw HSM hw4
      go_wp2_with fail
      refine HSM.out.mono ?_
      intro e wX h
      obtain ⟨rfl, lX⟩ := TellsP.yes trivial h
      have HFX := Lib.hid (show FW g wX ∧ Later w wX from ⟨HFW2.out.later lX, HLT2.out.trans lX⟩)
      clear h lX HSM cw
      go_wp2_with fail
      go_roundw
      all_goals first
        | exact ⟨i + 1, by omega, by go_num, HFX.out⟩
        | (simp [intOf]; omega)
        | trace_state
    · have hi9 : i = 9 := by omega
      subst hi9
      have s0 := HFW.out.s.cell 0 _ rfl
      have s1 := HFW.out.s.cell 1 _ rfl
      have c0 : World.cell? wr ⟨g + 6, 45, none⟩ = some (.int .i64 5) := HFW.out.C 5 (by rw [chs_len]; omega) 0 _ rfl
      have c1 : World.cell? wr ⟨g + 6, 46, none⟩ = some (.int .i64 2) := HFW.out.C 5 (by rw [chs_len]; omega) 1 _ rfl
      have c2 : World.cell? wr ⟨g + 6, 47, none⟩ = some (.string ⟨#[117]⟩) := HFW.out.C 5 (by rw [chs_len]; omega) 2 _ rfl
      have c3 : World.cell? wr ⟨g + 6, 48, none⟩ = some (.int .i64 0) := HFW.out.C 5 (by rw [chs_len]; omega) 3 _ rfl
      have c4 : World.cell? wr ⟨g + 6, 49, none⟩ = some (.int .i64 0) := HFW.out.C 5 (by rw [chs_len]; omega) 4 _ rfl
      have c5 : World.cell? wr ⟨g + 6, 50, none⟩ = some (.int .i64 0) := HFW.out.C 5 (by rw [chs_len]; omega) 5 _ rfl
      have c6 : World.cell? wr ⟨g + 6, 51, none⟩ = some (.string sE) := HFW.out.C 5 (by rw [chs_len]; omega) 6 _ rfl
      have c7 : World.cell? wr ⟨g + 6, 52, none⟩ = some (.int .u8 58) := HFW.out.C 5 (by rw [chs_len]; omega) 7 _ rfl
      have c8 : World.cell? wr ⟨g + 6, 53, none⟩ = some (.int .i64 0) := HFW.out.C 5 (by rw [chs_len]; omega) 8 _ rfl
      go_wp2_with fail
      refine wp_region_K (S := fun W : World => W.cell? ⟨g + 1, 0, none⟩ = some (.slice (some ⟨g, 0, none⟩) 3 3) ∧ W.cell? ⟨g + 1, 1, none⟩ = some (.int .i64 3) ∧ W.cell? ⟨g + 6, 45, none⟩ = some (.int .i64 5) ∧ W.cell? ⟨g + 6, 46, none⟩ = some (.int .i64 2) ∧ W.cell? ⟨g + 6, 47, none⟩ = some (.string ⟨#[117]⟩) ∧ W.cell? ⟨g + 6, 48, none⟩ = some (.int .i64 0) ∧ W.cell? ⟨g + 6, 49, none⟩ = some (.int .i64 0) ∧ W.cell? ⟨g + 6, 50, none⟩ = some (.int .i64 0) ∧ W.cell? ⟨g + 6, 51, none⟩ = some (.string sE) ∧ W.cell? ⟨g + 6, 52, none⟩ = some (.int .u8 58) ∧ W.cell? ⟨g + 6, 53, none⟩ = some (.int .i64 0)) (R := fun a b => a = b) (fun _ => rfl) (by kernel_rfl) ?_
      obtain ⟨wd, hwd⟩ : ∃ x, wr.drew = x := ⟨_, rfl⟩
      have ld : Later wr wd := hwd ▸ (Later.refl wr).drew
      have hS : (fun W : World => W.cell? ⟨g + 1, 0, none⟩ = some (.slice (some ⟨g, 0, none⟩) 3 3) ∧ W.cell? ⟨g + 1, 1, none⟩ = some (.int .i64 3) ∧ W.cell? ⟨g + 6, 45, none⟩ = some (.int .i64 5) ∧ W.cell? ⟨g + 6, 46, none⟩ = some (.int .i64 2) ∧ W.cell? ⟨g + 6, 47, none⟩ = some (.string ⟨#[117]⟩) ∧ W.cell? ⟨g + 6, 48, none⟩ = some (.int .i64 0) ∧ W.cell? ⟨g + 6, 49, none⟩ = some (.int .i64 0) ∧ W.cell? ⟨g + 6, 50, none⟩ = some (.int .i64 0) ∧ W.cell? ⟨g + 6, 51, none⟩ = some (.string sE) ∧ W.cell? ⟨g + 6, 52, none⟩ = some (.int .u8 58) ∧ W.cell? ⟨g + 6, 53, none⟩ = some (.int .i64 0)) wd := ⟨ld.cell s0, ld.cell s1, ld.cell c0, ld.cell c1, ld.cell c2, ld.cell c3, ld.cell c4, ld.cell c5, ld.cell c6, ld.cell c7, ld.cell c8⟩
      rw [hwd]
      have HFD := Lib.hid (HFW.out.later ld)
      have HLD := Lib.hid (HLT.out.trans ld)
      clear hwd ld s0 s1 c0 c1 c2 c3 c4 c5 c6 c7 c8 HFW HLT
      refine wpAnyK_take (fun _ => rfl) (fun _ _ _ h k => h.trans k) (fun _ _ h k => k ▸ h) (i := 0) (oi := { dst := some 104, op := _, type := _, pos := _, after := _, guard := _ }) (v := ?_) rfl (by kernel_rfl) (by kernel_rfl) (by kernel_rfl) (fun _ _ _ h => h) (Or.inl (Or.inl ⟨by rfl, ?_⟩)) hS ?_
      rotate_left
      focus ((intro w hSw; (try dsimp only at hSw); obtain ⟨d0, d1, d2, d3, d4, d5, d6, d7, d8, d9, d10⟩ := hSw; go_simp); (try with_reducible rfl))
      intro wq hwq
      subst hwq
      (try simp only [Act.put, List.setIfInBounds_toArray, List.set_cons_zero, List.set_cons_succ])
      refine wpAnyK_take (fun _ => rfl) (fun _ _ _ h k => h.trans k) (fun _ _ h k => k ▸ h) (i := 1) (oi := { dst := some 105, op := _, type := _, pos := _, after := _, guard := _ }) (v := ?_) rfl (by kernel_rfl) (by kernel_rfl) (by kernel_rfl) (fun _ _ _ h => h) (Or.inl (Or.inl ⟨by rfl, ?_⟩)) hS ?_
      rotate_left
      focus ((intro w hSw; (try dsimp only at hSw); obtain ⟨d0, d1, d2, d3, d4, d5, d6, d7, d8, d9, d10⟩ := hSw; go_simp); (try with_reducible rfl))
      intro wq hwq
      subst hwq
      (try simp only [Act.put, List.setIfInBounds_toArray, List.set_cons_zero, List.set_cons_succ])
      refine wpAnyK_take (fun _ => rfl) (fun _ _ _ h k => h.trans k) (fun _ _ h k => k ▸ h) (i := 2) (oi := { dst := some 106, op := _, type := _, pos := _, after := _, guard := _ }) (v := ?_) rfl (by kernel_rfl) (by kernel_rfl) (by kernel_rfl) (fun _ _ _ h => h) (Or.inl (Or.inl ⟨by rfl, ?_⟩)) hS ?_
      rotate_left
      focus ((intro w hSw; (try dsimp only at hSw); obtain ⟨d0, d1, d2, d3, d4, d5, d6, d7, d8, d9, d10⟩ := hSw; go_simp); (try with_reducible rfl))
      intro wq hwq
      subst hwq
      (try simp only [Act.put, List.setIfInBounds_toArray, List.set_cons_zero, List.set_cons_succ])
      refine wpAnyK_take (fun _ => rfl) (fun _ _ _ h k => h.trans k) (fun _ _ h k => k ▸ h) (i := 3) (oi := { dst := some 107, op := _, type := _, pos := _, after := _, guard := _ }) (v := ?_) rfl (by kernel_rfl) (by kernel_rfl) (by kernel_rfl) (fun _ _ _ h => h) (Or.inl (Or.inl ⟨by rfl, ?_⟩)) hS ?_
      rotate_left
      focus ((intro w hSw; (try dsimp only at hSw); obtain ⟨d0, d1, d2, d3, d4, d5, d6, d7, d8, d9, d10⟩ := hSw; go_simp); (try with_reducible rfl))
      intro wq hwq
      subst hwq
      (try simp only [Act.put, List.setIfInBounds_toArray, List.set_cons_zero, List.set_cons_succ])
      refine wpAnyK_take (fun _ => rfl) (fun _ _ _ h k => h.trans k) (fun _ _ h k => k ▸ h) (i := 4) (oi := { dst := some 108, op := _, type := _, pos := _, after := _, guard := _ }) (v := ?_) rfl (by kernel_rfl) (by kernel_rfl) (by kernel_rfl) (fun _ _ _ h => h) (Or.inl (Or.inl ⟨by rfl, ?_⟩)) hS ?_
      rotate_left
      focus ((intro w hSw; (try dsimp only at hSw); obtain ⟨d0, d1, d2, d3, d4, d5, d6, d7, d8, d9, d10⟩ := hSw; go_simp); (try with_reducible rfl))
      intro wq hwq
      subst hwq
      (try simp only [Act.put, List.setIfInBounds_toArray, List.set_cons_zero, List.set_cons_succ])
      refine wpAnyK_take (fun _ => rfl) (fun _ _ _ h k => h.trans k) (fun _ _ h k => k ▸ h) (i := 5) (oi := { dst := some 109, op := _, type := _, pos := _, after := _, guard := _ }) (v := ?_) rfl (by kernel_rfl) (by kernel_rfl) (by kernel_rfl) (fun _ _ _ h => h) (Or.inl (Or.inl ⟨by rfl, ?_⟩)) hS ?_
      rotate_left
      focus ((intro w hSw; (try dsimp only at hSw); obtain ⟨d0, d1, d2, d3, d4, d5, d6, d7, d8, d9, d10⟩ := hSw; go_simp); (try with_reducible rfl))
      intro wq hwq
      subst hwq
      (try simp only [Act.put, List.setIfInBounds_toArray, List.set_cons_zero, List.set_cons_succ])
      refine wpAnyK_take (fun _ => rfl) (fun _ _ _ h k => h.trans k) (fun _ _ h k => k ▸ h) (i := 6) (oi := { dst := some 110, op := _, type := _, pos := _, after := _, guard := _ }) (v := ?_) rfl (by kernel_rfl) (by kernel_rfl) (by kernel_rfl) (fun _ _ _ h => h) (Or.inl (Or.inl ⟨by rfl, ?_⟩)) hS ?_
      rotate_left
      focus ((intro w hSw; (try dsimp only at hSw); obtain ⟨d0, d1, d2, d3, d4, d5, d6, d7, d8, d9, d10⟩ := hSw; go_simp); (try with_reducible rfl))
      intro wq hwq
      subst hwq
      (try simp only [Act.put, List.setIfInBounds_toArray, List.set_cons_zero, List.set_cons_succ])
      refine wpAnyK_all (rs := [7]) (by kernel_rfl) (by simp) (fun i hi => ?_)
      simp only [List.mem_cons, List.not_mem_nil, or_false] at hi
      subst hi
      refine stepK (o := { dst := some 111, op := _, type := _, pos := _, after := _, guard := _ }) rfl (fun K hK => ?_)
      go_simp
      obtain ⟨gl, hgl⟩ : ∃ x, wd.heap.size = x := ⟨_, rfl⟩
      obtain ⟨wl, hwl⟩ : ∃ x : World, wd.alloc (.cells #[.int .i64 0, .int .i64 0, .string sE, .int .i64 0, .int .i64 0, .string sE, .int .i64 0, .int .i64 0, .string sE] 29) = x := ⟨_, rfl⟩
      have l2 : Later wd wl := hwl ▸ Later.new _ _
      have hlit : Blk wl gl #[.int .i64 0, .int .i64 0, .string sE, .int .i64 0, .int .i64 0, .string sE, .int .i64 0, .int .i64 0, .string sE] 29 := hwl ▸ Blk.new wd _ _ gl hgl.symm
      have HLIT := Lib.hid hlit
      try rw [hgl]
      rw [hwl]
      replace hS : (fun W : World => W.cell? ⟨g + 1, 0, none⟩ = some (.slice (some ⟨g, 0, none⟩) 3 3) ∧ W.cell? ⟨g + 1, 1, none⟩ = some (.int .i64 3) ∧ W.cell? ⟨g + 6, 45, none⟩ = some (.int .i64 5) ∧ W.cell? ⟨g + 6, 46, none⟩ = some (.int .i64 2) ∧ W.cell? ⟨g + 6, 47, none⟩ = some (.string ⟨#[117]⟩) ∧ W.cell? ⟨g + 6, 48, none⟩ = some (.int .i64 0) ∧ W.cell? ⟨g + 6, 49, none⟩ = some (.int .i64 0) ∧ W.cell? ⟨g + 6, 50, none⟩ = some (.int .i64 0) ∧ W.cell? ⟨g + 6, 51, none⟩ = some (.string sE) ∧ W.cell? ⟨g + 6, 52, none⟩ = some (.int .u8 58) ∧ W.cell? ⟨g + 6, 53, none⟩ = some (.int .i64 0)) wl := ⟨l2.cell hS.1, l2.cell hS.2.1, l2.cell hS.2.2.1, l2.cell hS.2.2.2.1, l2.cell hS.2.2.2.2.1, l2.cell hS.2.2.2.2.2.1, l2.cell hS.2.2.2.2.2.2.1, l2.cell hS.2.2.2.2.2.2.2.1, l2.cell hS.2.2.2.2.2.2.2.2.1, l2.cell hS.2.2.2.2.2.2.2.2.2.1, l2.cell hS.2.2.2.2.2.2.2.2.2.2⟩
      refine hK _ _ hS fun wq hwq => ?_
      subst hwq
      have HFD := Lib.hid (HFD.out.later l2)
      have HLD := Lib.hid (HLD.out.trans l2)
      
      clear hK hwl hlit l2
      (try simp only [Act.put, List.setIfInBounds_toArray, List.set_cons_zero, List.set_cons_succ])
      refine wpAnyK_all (rs := [8]) (by kernel_rfl) (by simp) (fun i hi => ?_)
      simp only [List.mem_cons, List.not_mem_nil, or_false] at hi
      subst hi
      refine stepK (o := { dst := some 112, op := _, type := _, pos := _, after := _, guard := _ }) rfl (fun K hK => ?_)
      go_simp
      have HCD := Lib.hid (row_split_mid (some ⟨g, 0, none⟩) (some ⟨gl, 0, none⟩) 3 3 3 3 3 xs3 [vN, vN, vN] 2 ⟨#[117]⟩ 0 0 0 sE 58 0 wl (HS.out.later HLD.out) rfl rfl (by omega) (by omega) HFD.out.V HLIT.out.has (by intro h; cases h) 1 rfl fit_none3 vN rfl (by decide) (vN, vN) (cut_vn 58) (by omega) (by omega) [vN, vN, vN, vN] rfl)
      refine HCD.out.mono ?_
      rintro e w2 ⟨X, xc, rfl, o2, _, l2⟩
      replace hS : (fun W : World => W.cell? ⟨g + 1, 0, none⟩ = some (.slice (some ⟨g, 0, none⟩) 3 3) ∧ W.cell? ⟨g + 1, 1, none⟩ = some (.int .i64 3) ∧ W.cell? ⟨g + 6, 45, none⟩ = some (.int .i64 5) ∧ W.cell? ⟨g + 6, 46, none⟩ = some (.int .i64 2) ∧ W.cell? ⟨g + 6, 47, none⟩ = some (.string ⟨#[117]⟩) ∧ W.cell? ⟨g + 6, 48, none⟩ = some (.int .i64 0) ∧ W.cell? ⟨g + 6, 49, none⟩ = some (.int .i64 0) ∧ W.cell? ⟨g + 6, 50, none⟩ = some (.int .i64 0) ∧ W.cell? ⟨g + 6, 51, none⟩ = some (.string sE) ∧ W.cell? ⟨g + 6, 52, none⟩ = some (.int .u8 58) ∧ W.cell? ⟨g + 6, 53, none⟩ = some (.int .i64 0)) w2 := ⟨l2.cell hS.1, l2.cell hS.2.1, l2.cell hS.2.2.1, l2.cell hS.2.2.2.1, l2.cell hS.2.2.2.2.1, l2.cell hS.2.2.2.2.2.1, l2.cell hS.2.2.2.2.2.2.1, l2.cell hS.2.2.2.2.2.2.2.1, l2.cell hS.2.2.2.2.2.2.2.2.1, l2.cell hS.2.2.2.2.2.2.2.2.2.1, l2.cell hS.2.2.2.2.2.2.2.2.2.2⟩
      refine hK _ _ hS fun wq hwq => ?_
      subst hwq
      have HFW := Lib.hid (HFD.out.later l2)
      have HLT := Lib.hid (HLD.out.trans l2)
      have HX := Lib.hid (RowOk.has o2)
      have e4 : ([vN, vN, vN, vN] : List Val3).length = 4 := rfl
      rw [e4]
      clear o2 e4
      clear hK l2 HCD HFD HLD
      (try simp only [Act.put, List.setIfInBounds_toArray, List.set_cons_zero, List.set_cons_succ])
      refine wpAnyK_take (fun _ => rfl) (fun _ _ _ h k => h.trans k) (fun _ _ h k => k ▸ h) (i := 9) (oi := { dst := some 103, op := _, type := _, pos := _, after := _, guard := _ }) (v := ?_) rfl (by kernel_rfl) (by kernel_rfl) (by kernel_rfl) (fun _ _ _ h => h) (Or.inl (Or.inl ⟨by rfl, ?_⟩)) hS ?_
      rotate_left
      focus ((intro w hSw; (try dsimp only at hSw); obtain ⟨d0, d1, d2, d3, d4, d5, d6, d7, d8, d9, d10⟩ := hSw; go_simp); (try with_reducible rfl))
      intro wq hwq
      subst hwq
      (try simp only [Act.put, List.setIfInBounds_toArray, List.set_cons_zero, List.set_cons_succ])
      refine wpAnyK_take (fun _ => rfl) (fun _ _ _ h k => h.trans k) (fun _ _ h k => k ▸ h) (i := 10) (oi := { dst := some 113, op := _, type := _, pos := _, after := _, guard := _ }) (v := ?_) rfl (by kernel_rfl) (by kernel_rfl) (by kernel_rfl) (fun _ _ _ h => h) (Or.inl (Or.inl ⟨by rfl, ?_⟩)) hS ?_
      rotate_left
      focus ((intro w hSw; (try dsimp only at hSw); obtain ⟨d0, d1, d2, d3, d4, d5, d6, d7, d8, d9, d10⟩ := hSw; go_simp); (try with_reducible rfl))
      intro wq hwq
      subst hwq
      (try simp only [Act.put, List.setIfInBounds_toArray, List.set_cons_zero, List.set_cons_succ])
      refine wpAnyK_take (fun _ => rfl) (fun _ _ _ h k => h.trans k) (fun _ _ h k => k ▸ h) (i := 11) (oi := { dst := some 114, op := _, type := _, pos := _, after := _, guard := _ }) (v := ?_) rfl (by kernel_rfl) (by kernel_rfl) (by kernel_rfl) (fun _ _ _ h => h) (Or.inl (Or.inl ⟨by rfl, ?_⟩)) hS ?_
      rotate_left
      focus ((intro w hSw; (try dsimp only at hSw); obtain ⟨d0, d1, d2, d3, d4, d5, d6, d7, d8, d9, d10⟩ := hSw; go_simp); (try with_reducible rfl))
      intro wq hwq
      subst hwq
      (try simp only [Act.put, List.setIfInBounds_toArray, List.set_cons_zero, List.set_cons_succ])
      refine wpAnyK_take (fun _ => rfl) (fun _ _ _ h k => h.trans k) (fun _ _ h k => k ▸ h) (i := 12) (oi := { dst := some 11, op := _, type := _, pos := _, after := _, guard := _ }) (v := ?_) rfl (by kernel_rfl) (by kernel_rfl) (by kernel_rfl) (fun _ _ _ h => h) (Or.inl (Or.inl ⟨by rfl, ?_⟩)) hS ?_
      rotate_left
      focus ((intro w hSw; (try dsimp only at hSw); obtain ⟨d0, d1, d2, d3, d4, d5, d6, d7, d8, d9, d10⟩ := hSw; go_simp); (try with_reducible rfl))
      intro wq hwq
      subst hwq
      (try simp only [Act.put, List.setIfInBounds_toArray, List.set_cons_zero, List.set_cons_succ])
      refine wpAnyK_take (fun _ => rfl) (fun _ _ _ h k => h.trans k) (fun _ _ h k => k ▸ h) (i := 13) (oi := { dst := some 12, op := _, type := _, pos := _, after := _, guard := _ }) (v := ?_) rfl (by kernel_rfl) (by kernel_rfl) (by kernel_rfl) (fun _ _ _ h => h) (Or.inl (Or.inl ⟨by rfl, ?_⟩)) hS ?_
      rotate_left
      focus ((intro w hSw; (try dsimp only at hSw); obtain ⟨d0, d1, d2, d3, d4, d5, d6, d7, d8, d9, d10⟩ := hSw; go_simp); (try with_reducible rfl))
      intro wq hwq
      subst hwq
      (try simp only [Act.put, List.setIfInBounds_toArray, List.set_cons_zero, List.set_cons_succ])
      refine wpAnyK_done (by kernel_rfl) ?_ _
      clear hS
      obtain ⟨xb, xo, rfl, m0, m1, m2⟩ := HX.out.val3 1 (by decide)
      obtain ⟨xb', xo', e5, n0, n1, n2⟩ := HX.out.val3 2 (by decide)
      injection e5 with e5
      injection e5 with e6 e7
      subst e6 e7
      have M := Lib.hid (show w2.cell? ⟨xb, xo + 3, none⟩ = some (.int .i64 0) ∧ w2.cell? ⟨xb, xo + 3 + 1, none⟩ = some (.int .i64 0) ∧ w2.cell? ⟨xb, xo + 3 + 2, none⟩ = some (.string sE) ∧ w2.cell? ⟨xb, xo + 6, none⟩ = some (.int .i64 0) ∧ w2.cell? ⟨xb, xo + 6 + 1, none⟩ = some (.int .i64 0) ∧ w2.cell? ⟨xb, xo + 6 + 2, none⟩ = some (.string sE) from ⟨m0, m1, m2, n0, n1, n2⟩)
      clear m0 m1 m2 n0 n1 n2 HX
      have s0 := HFW.out.s.cell 0 _ rfl
      have s1 := HFW.out.s.cell 1 _ rfl
      go_wp2_with fail
      refine (row_nocol (some ⟨g, 0, none⟩) (some ⟨g + 5, 0, none⟩) 3 3 3 3 3 xs3 row3 2 9 sE 0 0 0 sE 0 0 w2 (HS.out.later HLT.out) rfl rfl (by omega) (by omega) HFW.out.V HFW.out.R (by intro h; cases h) rfl fit_row3 rfl).mono ?_
      rintro e w15 ⟨rfl, l15⟩
      have HFW := Lib.hid (HFW.out.later l15)
      have HLT := Lib.hid (HLT.out.trans l15)
      have M := Lib.hid (show w15.cell? ⟨xb, xo + 3, none⟩ = some (.int .i64 0) ∧ w15.cell? ⟨xb, xo + 3 + 1, none⟩ = some (.int .i64 0) ∧ w15.cell? ⟨xb, xo + 3 + 2, none⟩ = some (.string sE) ∧ w15.cell? ⟨xb, xo + 6, none⟩ = some (.int .i64 0) ∧ w15.cell? ⟨xb, xo + 6 + 1, none⟩ = some (.int .i64 0) ∧ w15.cell? ⟨xb, xo + 6 + 2, none⟩ = some (.string sE) from ⟨l15.cell M.out.1, l15.cell M.out.2.1, l15.cell M.out.2.2.1, l15.cell M.out.2.2.2.1, l15.cell M.out.2.2.2.2.1, l15.cell M.out.2.2.2.2.2⟩)
      clear s0 s1 l15
      have s0 := HFW.out.s.cell 0 _ rfl
      have s1 := HFW.out.s.cell 1 _ rfl
      have c0 : World.cell? w15 ⟨g + 6, 0, none⟩ = some (.int .i64 1) := HFW.out.C 0 (by rw [chs_len]; omega) 0 _ rfl
      have c1 : World.cell? w15 ⟨g + 6, 1, none⟩ = some (.int .i64 0) := HFW.out.C 0 (by rw [chs_len]; omega) 1 _ rfl
      have c2 : World.cell? w15 ⟨g + 6, 2, none⟩ = some (.string ⟨#[110]⟩) := HFW.out.C 0 (by rw [chs_len]; omega) 2 _ rfl
      have c3 : World.cell? w15 ⟨g + 6, 3, none⟩ = some (.int .i64 2) := HFW.out.C 0 (by rw [chs_len]; omega) 3 _ rfl
      have c4 : World.cell? w15 ⟨g + 6, 4, none⟩ = some (.int .i64 2) := HFW.out.C 0 (by rw [chs_len]; omega) 4 _ rfl
      have c5 : World.cell? w15 ⟨g + 6, 5, none⟩ = some (.int .i64 9) := HFW.out.C 0 (by rw [chs_len]; omega) 5 _ rfl
      have c6 : World.cell? w15 ⟨g + 6, 6, none⟩ = some (.string sE) := HFW.out.C 0 (by rw [chs_len]; omega) 6 _ rfl
      have c7 : World.cell? w15 ⟨g + 6, 7, none⟩ = some (.int .u8 0) := HFW.out.C 0 (by rw [chs_len]; omega) 7 _ rfl
      have c8 : World.cell? w15 ⟨g + 6, 8, none⟩ = some (.int .i64 0) := HFW.out.C 0 (by rw [chs_len]; omega) 8 _ rfl
      go_wp2_with fail
      refine wp_region_K (S := fun W : World => W.cell? ⟨g + 1, 0, none⟩ = some (.slice (some ⟨g, 0, none⟩) 3 3) ∧ W.cell? ⟨g + 1, 1, none⟩ = some (.int .i64 3) ∧ W.cell? ⟨g + 6, 0, none⟩ = some (.int .i64 1) ∧ W.cell? ⟨g + 6, 1, none⟩ = some (.int .i64 0) ∧ W.cell? ⟨g + 6, 2, none⟩ = some (.string ⟨#[110]⟩) ∧ W.cell? ⟨g + 6, 3, none⟩ = some (.int .i64 2) ∧ W.cell? ⟨g + 6, 4, none⟩ = some (.int .i64 2) ∧ W.cell? ⟨g + 6, 5, none⟩ = some (.int .i64 9) ∧ W.cell? ⟨g + 6, 6, none⟩ = some (.string sE) ∧ W.cell? ⟨g + 6, 7, none⟩ = some (.int .u8 0) ∧ W.cell? ⟨g + 6, 8, none⟩ = some (.int .i64 0)) (R := fun a b => a = b) (fun _ => rfl) (by kernel_rfl) ?_
      obtain ⟨wd, hwd⟩ : ∃ x, w15.drew = x := ⟨_, rfl⟩
      have ld : Later w15 wd := hwd ▸ (Later.refl w15).drew
      have hS : (fun W : World => W.cell? ⟨g + 1, 0, none⟩ = some (.slice (some ⟨g, 0, none⟩) 3 3) ∧ W.cell? ⟨g + 1, 1, none⟩ = some (.int .i64 3) ∧ W.cell? ⟨g + 6, 0, none⟩ = some (.int .i64 1) ∧ W.cell? ⟨g + 6, 1, none⟩ = some (.int .i64 0) ∧ W.cell? ⟨g + 6, 2, none⟩ = some (.string ⟨#[110]⟩) ∧ W.cell? ⟨g + 6, 3, none⟩ = some (.int .i64 2) ∧ W.cell? ⟨g + 6, 4, none⟩ = some (.int .i64 2) ∧ W.cell? ⟨g + 6, 5, none⟩ = some (.int .i64 9) ∧ W.cell? ⟨g + 6, 6, none⟩ = some (.string sE) ∧ W.cell? ⟨g + 6, 7, none⟩ = some (.int .u8 0) ∧ W.cell? ⟨g + 6, 8, none⟩ = some (.int .i64 0)) wd := ⟨ld.cell s0, ld.cell s1, ld.cell c0, ld.cell c1, ld.cell c2, ld.cell c3, ld.cell c4, ld.cell c5, ld.cell c6, ld.cell c7, ld.cell c8⟩
      rw [hwd]
      have HFD := Lib.hid (HFW.out.later ld)
      have HLD := Lib.hid (HLT.out.trans ld)
      have M := Lib.hid (show World.cell? wd ⟨xb, xo + 3, none⟩ = some (.int .i64 0) ∧ World.cell? wd ⟨xb, xo + 3 + 1, none⟩ = some (.int .i64 0) ∧ World.cell? wd ⟨xb, xo + 3 + 2, none⟩ = some (.string sE) ∧ World.cell? wd ⟨xb, xo + 6, none⟩ = some (.int .i64 0) ∧ World.cell? wd ⟨xb, xo + 6 + 1, none⟩ = some (.int .i64 0) ∧ World.cell? wd ⟨xb, xo + 6 + 2, none⟩ = some (.string sE) from ⟨ld.cell M.out.1, ld.cell M.out.2.1, ld.cell M.out.2.2.1, ld.cell M.out.2.2.2.1, ld.cell M.out.2.2.2.2.1, ld.cell M.out.2.2.2.2.2⟩)
      clear hwd ld s0 s1 c0 c1 c2 c3 c4 c5 c6 c7 c8 HFW HLT
      refine wpAnyK_take (fun _ => rfl) (fun _ _ _ h k => h.trans k) (fun _ _ h k => k ▸ h) (i := 0) (oi := { dst := some 123, op := _, type := _, pos := _, after := _, guard := _ }) (v := ?_) rfl (by kernel_rfl) (by kernel_rfl) (by kernel_rfl) (fun _ _ _ h => h) (Or.inl (Or.inl ⟨by rfl, ?_⟩)) hS ?_
      rotate_left
      focus ((intro w hSw; (try dsimp only at hSw); obtain ⟨d0, d1, d2, d3, d4, d5, d6, d7, d8, d9, d10⟩ := hSw; go_simp); (try with_reducible rfl))
      intro wq hwq
      subst hwq
      (try simp only [Act.put, List.setIfInBounds_toArray, List.set_cons_zero, List.set_cons_succ])
      refine wpAnyK_take (fun _ => rfl) (fun _ _ _ h k => h.trans k) (fun _ _ h k => k ▸ h) (i := 1) (oi := { dst := some 124, op := _, type := _, pos := _, after := _, guard := _ }) (v := ?_) rfl (by kernel_rfl) (by kernel_rfl) (by kernel_rfl) (fun _ _ _ h => h) (Or.inl (Or.inl ⟨by rfl, ?_⟩)) hS ?_
      rotate_left
      focus ((intro w hSw; (try dsimp only at hSw); obtain ⟨d0, d1, d2, d3, d4, d5, d6, d7, d8, d9, d10⟩ := hSw; go_simp); (try with_reducible rfl))
      intro wq hwq
      subst hwq
      (try simp only [Act.put, List.setIfInBounds_toArray, List.set_cons_zero, List.set_cons_succ])
      refine wpAnyK_take (fun _ => rfl) (fun _ _ _ h k => h.trans k) (fun _ _ h k => k ▸ h) (i := 2) (oi := { dst := some 125, op := _, type := _, pos := _, after := _, guard := _ }) (v := ?_) rfl (by kernel_rfl) (by kernel_rfl) (by kernel_rfl) (fun _ _ _ h => h) (Or.inl (Or.inl ⟨by rfl, ?_⟩)) hS ?_
      rotate_left
      focus ((intro w hSw; (try dsimp only at hSw); obtain ⟨d0, d1, d2, d3, d4, d5, d6, d7, d8, d9, d10⟩ := hSw; go_simp); (try with_reducible rfl))
      intro wq hwq
      subst hwq
      (try simp only [Act.put, List.setIfInBounds_toArray, List.set_cons_zero, List.set_cons_succ])
      refine wpAnyK_take (fun _ => rfl) (fun _ _ _ h k => h.trans k) (fun _ _ h k => k ▸ h) (i := 3) (oi := { dst := some 126, op := _, type := _, pos := _, after := _, guard := _ }) (v := ?_) rfl (by kernel_rfl) (by kernel_rfl) (by kernel_rfl) (fun _ _ _ h => h) (Or.inl (Or.inl ⟨by rfl, ?_⟩)) hS ?_
      rotate_left
      focus ((intro w hSw; (try dsimp only at hSw); obtain ⟨d0, d1, d2, d3, d4, d5, d6, d7, d8, d9, d10⟩ := hSw; go_simp); (try with_reducible rfl))
      intro wq hwq
      subst hwq
      (try simp only [Act.put, List.setIfInBounds_toArray, List.set_cons_zero, List.set_cons_succ])
      refine wpAnyK_take (fun _ => rfl) (fun _ _ _ h k => h.trans k) (fun _ _ h k => k ▸ h) (i := 4) (oi := { dst := some 127, op := _, type := _, pos := _, after := _, guard := _ }) (v := ?_) rfl (by kernel_rfl) (by kernel_rfl) (by kernel_rfl) (fun _ _ _ h => h) (Or.inl (Or.inl ⟨by rfl, ?_⟩)) hS ?_
      rotate_left
      focus ((intro w hSw; (try dsimp only at hSw); obtain ⟨d0, d1, d2, d3, d4, d5, d6, d7, d8, d9, d10⟩ := hSw; go_simp); (try with_reducible rfl))
      intro wq hwq
      subst hwq
      (try simp only [Act.put, List.setIfInBounds_toArray, List.set_cons_zero, List.set_cons_succ])
      refine wpAnyK_take (fun _ => rfl) (fun _ _ _ h k => h.trans k) (fun _ _ h k => k ▸ h) (i := 5) (oi := { dst := some 128, op := _, type := _, pos := _, after := _, guard := _ }) (v := ?_) rfl (by kernel_rfl) (by kernel_rfl) (by kernel_rfl) (fun _ _ _ h => h) (Or.inl (Or.inl ⟨by rfl, ?_⟩)) hS ?_
      rotate_left
      focus ((intro w hSw; (try dsimp only at hSw); obtain ⟨d0, d1, d2, d3, d4, d5, d6, d7, d8, d9, d10⟩ := hSw; go_simp); (try with_reducible rfl))
      intro wq hwq
      subst hwq
      (try simp only [Act.put, List.setIfInBounds_toArray, List.set_cons_zero, List.set_cons_succ])
      refine wpAnyK_all (rs := [6]) (by kernel_rfl) (by simp) (fun i hi => ?_)
      simp only [List.mem_cons, List.not_mem_nil, or_false] at hi
      subst hi
      refine stepK (o := { dst := some 129, op := _, type := _, pos := _, after := _, guard := _ }) rfl (fun K hK => ?_)
      go_simp
      have HCD := Lib.hid (row_nofit (some ⟨g, 0, none⟩) (some ⟨g + 5, 0, none⟩) 3 3 2 3 3 xs3 [vA, vB] 1 0 ⟨#[110]⟩ 2 2 9 sE 0 0 wd (HS.out.later HLD.out) rfl rfl (by omega) (by omega) HFD.out.V (HFD.out.R.take 6) (by intro h; cases h) none rfl (fun h => by have := h.1; simp at this))
      refine HCD.out.mono ?_
      rintro e w2 ⟨rfl, l2⟩
      replace hS : (fun W : World => W.cell? ⟨g + 1, 0, none⟩ = some (.slice (some ⟨g, 0, none⟩) 3 3) ∧ W.cell? ⟨g + 1, 1, none⟩ = some (.int .i64 3) ∧ W.cell? ⟨g + 6, 0, none⟩ = some (.int .i64 1) ∧ W.cell? ⟨g + 6, 1, none⟩ = some (.int .i64 0) ∧ W.cell? ⟨g + 6, 2, none⟩ = some (.string ⟨#[110]⟩) ∧ W.cell? ⟨g + 6, 3, none⟩ = some (.int .i64 2) ∧ W.cell? ⟨g + 6, 4, none⟩ = some (.int .i64 2) ∧ W.cell? ⟨g + 6, 5, none⟩ = some (.int .i64 9) ∧ W.cell? ⟨g + 6, 6, none⟩ = some (.string sE) ∧ W.cell? ⟨g + 6, 7, none⟩ = some (.int .u8 0) ∧ W.cell? ⟨g + 6, 8, none⟩ = some (.int .i64 0)) w2 := ⟨l2.cell hS.1, l2.cell hS.2.1, l2.cell hS.2.2.1, l2.cell hS.2.2.2.1, l2.cell hS.2.2.2.2.1, l2.cell hS.2.2.2.2.2.1, l2.cell hS.2.2.2.2.2.2.1, l2.cell hS.2.2.2.2.2.2.2.1, l2.cell hS.2.2.2.2.2.2.2.2.1, l2.cell hS.2.2.2.2.2.2.2.2.2.1, l2.cell hS.2.2.2.2.2.2.2.2.2.2⟩
      refine hK _ _ hS fun wq hwq => ?_
      subst hwq
      have HFW := Lib.hid (HFD.out.later l2)
      have HLT := Lib.hid (HLD.out.trans l2)
      have M := Lib.hid (show World.cell? w2 ⟨xb, xo + 3, none⟩ = some (.int .i64 0) ∧ World.cell? w2 ⟨xb, xo + 3 + 1, none⟩ = some (.int .i64 0) ∧ World.cell? w2 ⟨xb, xo + 3 + 2, none⟩ = some (.string sE) ∧ World.cell? w2 ⟨xb, xo + 6, none⟩ = some (.int .i64 0) ∧ World.cell? w2 ⟨xb, xo + 6 + 1, none⟩ = some (.int .i64 0) ∧ World.cell? w2 ⟨xb, xo + 6 + 2, none⟩ = some (.string sE) from ⟨l2.cell M.out.1, l2.cell M.out.2.1, l2.cell M.out.2.2.1, l2.cell M.out.2.2.2.1, l2.cell M.out.2.2.2.2.1, l2.cell M.out.2.2.2.2.2⟩)
      clear hK l2 HCD HFD HLD
      (try simp only [Act.put, List.setIfInBounds_toArray, List.set_cons_zero, List.set_cons_succ])
      refine wpAnyK_take (fun _ => rfl) (fun _ _ _ h k => h.trans k) (fun _ _ h k => k ▸ h) (i := 7) (oi := { dst := some 122, op := _, type := _, pos := _, after := _, guard := _ }) (v := ?_) rfl (by kernel_rfl) (by kernel_rfl) (by kernel_rfl) (fun _ _ _ h => h) (Or.inl (Or.inl ⟨by rfl, ?_⟩)) hS ?_
      rotate_left
      focus ((intro w hSw; (try dsimp only at hSw); obtain ⟨d0, d1, d2, d3, d4, d5, d6, d7, d8, d9, d10⟩ := hSw; go_simp); (try with_reducible rfl))
      intro wq hwq
      subst hwq
      (try simp only [Act.put, List.setIfInBounds_toArray, List.set_cons_zero, List.set_cons_succ])
      refine wpAnyK_take (fun _ => rfl) (fun _ _ _ h k => h.trans k) (fun _ _ h k => k ▸ h) (i := 8) (oi := { dst := some 130, op := _, type := _, pos := _, after := _, guard := _ }) (v := ?_) rfl (by kernel_rfl) (by kernel_rfl) (by kernel_rfl) (fun _ _ _ h => h) (Or.inl (Or.inl ⟨by rfl, ?_⟩)) hS ?_
      rotate_left
      focus ((intro w hSw; (try dsimp only at hSw); obtain ⟨d0, d1, d2, d3, d4, d5, d6, d7, d8, d9, d10⟩ := hSw; go_simp); (try with_reducible rfl))
      intro wq hwq
      subst hwq
      (try simp only [Act.put, List.setIfInBounds_toArray, List.set_cons_zero, List.set_cons_succ])
      refine wpAnyK_take (fun _ => rfl) (fun _ _ _ h k => h.trans k) (fun _ _ h k => k ▸ h) (i := 9) (oi := { dst := some 131, op := _, type := _, pos := _, after := _, guard := _ }) (v := ?_) rfl (by kernel_rfl) (by kernel_rfl) (by kernel_rfl) (fun _ _ _ h => h) (Or.inl (Or.inl ⟨by rfl, ?_⟩)) hS ?_
      rotate_left
      focus ((intro w hSw; (try dsimp only at hSw); obtain ⟨d0, d1, d2, d3, d4, d5, d6, d7, d8, d9, d10⟩ := hSw; go_simp); (try with_reducible rfl))
      intro wq hwq
      subst hwq
      (try simp only [Act.put, List.setIfInBounds_toArray, List.set_cons_zero, List.set_cons_succ])
      refine wpAnyK_take (fun _ => rfl) (fun _ _ _ h k => h.trans k) (fun _ _ h k => k ▸ h) (i := 10) (oi := { dst := some 15, op := _, type := _, pos := _, after := _, guard := _ }) (v := ?_) rfl (by kernel_rfl) (by kernel_rfl) (by kernel_rfl) (fun _ _ _ h => h) (Or.inl (Or.inl ⟨by rfl, ?_⟩)) hS ?_
      rotate_left
      focus ((intro w hSw; (try dsimp only at hSw); obtain ⟨d0, d1, d2, d3, d4, d5, d6, d7, d8, d9, d10⟩ := hSw; go_simp); (try with_reducible rfl))
      intro wq hwq
      subst hwq
      (try simp only [Act.put, List.setIfInBounds_toArray, List.set_cons_zero, List.set_cons_succ])
      refine wpAnyK_take (fun _ => rfl) (fun _ _ _ h k => h.trans k) (fun _ _ h k => k ▸ h) (i := 11) (oi := { dst := some 16, op := _, type := _, pos := _, after := _, guard := _ }) (v := ?_) rfl (by kernel_rfl) (by kernel_rfl) (by kernel_rfl) (fun _ _ _ h => h) (Or.inl (Or.inl ⟨by rfl, ?_⟩)) hS ?_
      rotate_left
      focus ((intro w hSw; (try dsimp only at hSw); obtain ⟨d0, d1, d2, d3, d4, d5, d6, d7, d8, d9, d10⟩ := hSw; go_simp); (try with_reducible rfl))
      intro wq hwq
      subst hwq
      (try simp only [Act.put, List.setIfInBounds_toArray, List.set_cons_zero, List.set_cons_succ])
      refine wpAnyK_done (by kernel_rfl) ?_ _
      clear hS
      have s0 := HFW.out.s.cell 0 _ rfl
      have s1 := HFW.out.s.cell 1 _ rfl
      have c0 : World.cell? w2 ⟨g + 6, 0, none⟩ = some (.int .i64 1) := HFW.out.C 0 (by rw [chs_len]; omega) 0 _ rfl
      have c1 : World.cell? w2 ⟨g + 6, 1, none⟩ = some (.int .i64 0) := HFW.out.C 0 (by rw [chs_len]; omega) 1 _ rfl
      have c2 : World.cell? w2 ⟨g + 6, 2, none⟩ = some (.string ⟨#[110]⟩) := HFW.out.C 0 (by rw [chs_len]; omega) 2 _ rfl
      have c3 : World.cell? w2 ⟨g + 6, 3, none⟩ = some (.int .i64 2) := HFW.out.C 0 (by rw [chs_len]; omega) 3 _ rfl
      have c4 : World.cell? w2 ⟨g + 6, 4, none⟩ = some (.int .i64 2) := HFW.out.C 0 (by rw [chs_len]; omega) 4 _ rfl
      have c5 : World.cell? w2 ⟨g + 6, 5, none⟩ = some (.int .i64 9) := HFW.out.C 0 (by rw [chs_len]; omega) 5 _ rfl
      have c6 : World.cell? w2 ⟨g + 6, 6, none⟩ = some (.string sE) := HFW.out.C 0 (by rw [chs_len]; omega) 6 _ rfl
      have c7 : World.cell? w2 ⟨g + 6, 7, none⟩ = some (.int .u8 0) := HFW.out.C 0 (by rw [chs_len]; omega) 7 _ rfl
      have c8 : World.cell? w2 ⟨g + 6, 8, none⟩ = some (.int .i64 0) := HFW.out.C 0 (by rw [chs_len]; omega) 8 _ rfl
      go_wp2_with fail
      refine wp_region_K (S := fun W : World => W.cell? ⟨g + 1, 0, none⟩ = some (.slice (some ⟨g, 0, none⟩) 3 3) ∧ W.cell? ⟨g + 1, 1, none⟩ = some (.int .i64 3) ∧ W.cell? ⟨g + 6, 0, none⟩ = some (.int .i64 1) ∧ W.cell? ⟨g + 6, 1, none⟩ = some (.int .i64 0) ∧ W.cell? ⟨g + 6, 2, none⟩ = some (.string ⟨#[110]⟩) ∧ W.cell? ⟨g + 6, 3, none⟩ = some (.int .i64 2) ∧ W.cell? ⟨g + 6, 4, none⟩ = some (.int .i64 2) ∧ W.cell? ⟨g + 6, 5, none⟩ = some (.int .i64 9) ∧ W.cell? ⟨g + 6, 6, none⟩ = some (.string sE) ∧ W.cell? ⟨g + 6, 7, none⟩ = some (.int .u8 0) ∧ W.cell? ⟨g + 6, 8, none⟩ = some (.int .i64 0)) (R := fun a b => a = b) (fun _ => rfl) (by kernel_rfl) ?_
      obtain ⟨wd, hwd⟩ : ∃ x, w2.drew = x := ⟨_, rfl⟩
      have ld : Later w2 wd := hwd ▸ (Later.refl w2).drew
      have hS : (fun W : World => W.cell? ⟨g + 1, 0, none⟩ = some (.slice (some ⟨g, 0, none⟩) 3 3) ∧ W.cell? ⟨g + 1, 1, none⟩ = some (.int .i64 3) ∧ W.cell? ⟨g + 6, 0, none⟩ = some (.int .i64 1) ∧ W.cell? ⟨g + 6, 1, none⟩ = some (.int .i64 0) ∧ W.cell? ⟨g + 6, 2, none⟩ = some (.string ⟨#[110]⟩) ∧ W.cell? ⟨g + 6, 3, none⟩ = some (.int .i64 2) ∧ W.cell? ⟨g + 6, 4, none⟩ = some (.int .i64 2) ∧ W.cell? ⟨g + 6, 5, none⟩ = some (.int .i64 9) ∧ W.cell? ⟨g + 6, 6, none⟩ = some (.string sE) ∧ W.cell? ⟨g + 6, 7, none⟩ = some (.int .u8 0) ∧ W.cell? ⟨g + 6, 8, none⟩ = some (.int .i64 0)) wd := ⟨ld.cell s0, ld.cell s1, ld.cell c0, ld.cell c1, ld.cell c2, ld.cell c3, ld.cell c4, ld.cell c5, ld.cell c6, ld.cell c7, ld.cell c8⟩
      rw [hwd]
      have HFD := Lib.hid (HFW.out.later ld)
      have HLD := Lib.hid (HLT.out.trans ld)
      have M := Lib.hid (show World.cell? wd ⟨xb, xo + 3, none⟩ = some (.int .i64 0) ∧ World.cell? wd ⟨xb, xo + 3 + 1, none⟩ = some (.int .i64 0) ∧ World.cell? wd ⟨xb, xo + 3 + 2, none⟩ = some (.string sE) ∧ World.cell? wd ⟨xb, xo + 6, none⟩ = some (.int .i64 0) ∧ World.cell? wd ⟨xb, xo + 6 + 1, none⟩ = some (.int .i64 0) ∧ World.cell? wd ⟨xb, xo + 6 + 2, none⟩ = some (.string sE) from ⟨ld.cell M.out.1, ld.cell M.out.2.1, ld.cell M.out.2.2.1, ld.cell M.out.2.2.2.1, ld.cell M.out.2.2.2.2.1, ld.cell M.out.2.2.2.2.2⟩)
      clear hwd ld s0 s1 c0 c1 c2 c3 c4 c5 c6 c7 c8 HFW HLT
      refine wpAnyK_take (fun _ => rfl) (fun _ _ _ h k => h.trans k) (fun _ _ h k => k ▸ h) (i := 0) (oi := { dst := some 133, op := _, type := _, pos := _, after := _, guard := _ }) (v := ?_) rfl (by kernel_rfl) (by kernel_rfl) (by kernel_rfl) (fun _ _ _ h => h) (Or.inl (Or.inl ⟨by rfl, ?_⟩)) hS ?_
      rotate_left
      focus ((intro w hSw; (try dsimp only at hSw); obtain ⟨d0, d1, d2, d3, d4, d5, d6, d7, d8, d9, d10⟩ := hSw; go_simp); (try with_reducible rfl))
      intro wq hwq
      subst hwq
      (try simp only [Act.put, List.setIfInBounds_toArray, List.set_cons_zero, List.set_cons_succ])
      refine wpAnyK_take (fun _ => rfl) (fun _ _ _ h k => h.trans k) (fun _ _ h k => k ▸ h) (i := 1) (oi := { dst := some 134, op := _, type := _, pos := _, after := _, guard := _ }) (v := ?_) rfl (by kernel_rfl) (by kernel_rfl) (by kernel_rfl) (fun _ _ _ h => h) (Or.inl (Or.inl ⟨by rfl, ?_⟩)) hS ?_
      rotate_left
      focus ((intro w hSw; (try dsimp only at hSw); obtain ⟨d0, d1, d2, d3, d4, d5, d6, d7, d8, d9, d10⟩ := hSw; go_simp); (try with_reducible rfl))
      intro wq hwq
      subst hwq
      (try simp only [Act.put, List.setIfInBounds_toArray, List.set_cons_zero, List.set_cons_succ])
      refine wpAnyK_take (fun _ => rfl) (fun _ _ _ h k => h.trans k) (fun _ _ h k => k ▸ h) (i := 2) (oi := { dst := some 135, op := _, type := _, pos := _, after := _, guard := _ }) (v := ?_) rfl (by kernel_rfl) (by kernel_rfl) (by kernel_rfl) (fun _ _ _ h => h) (Or.inl (Or.inl ⟨by rfl, ?_⟩)) hS ?_
      rotate_left
      focus ((intro w hSw; (try dsimp only at hSw); obtain ⟨d0, d1, d2, d3, d4, d5, d6, d7, d8, d9, d10⟩ := hSw; go_simp); (try with_reducible rfl))
      intro wq hwq
      subst hwq
      (try simp only [Act.put, List.setIfInBounds_toArray, List.set_cons_zero, List.set_cons_succ])
      refine wpAnyK_take (fun _ => rfl) (fun _ _ _ h k => h.trans k) (fun _ _ h k => k ▸ h) (i := 3) (oi := { dst := some 136, op := _, type := _, pos := _, after := _, guard := _ }) (v := ?_) rfl (by kernel_rfl) (by kernel_rfl) (by kernel_rfl) (fun _ _ _ h => h) (Or.inl (Or.inl ⟨by rfl, ?_⟩)) hS ?_
      rotate_left
      focus ((intro w hSw; (try dsimp only at hSw); obtain ⟨d0, d1, d2, d3, d4, d5, d6, d7, d8, d9, d10⟩ := hSw; go_simp); (try with_reducible rfl))
      intro wq hwq
      subst hwq
      (try simp only [Act.put, List.setIfInBounds_toArray, List.set_cons_zero, List.set_cons_succ])
      refine wpAnyK_take (fun _ => rfl) (fun _ _ _ h k => h.trans k) (fun _ _ h k => k ▸ h) (i := 4) (oi := { dst := some 137, op := _, type := _, pos := _, after := _, guard := _ }) (v := ?_) rfl (by kernel_rfl) (by kernel_rfl) (by kernel_rfl) (fun _ _ _ h => h) (Or.inl (Or.inl ⟨by rfl, ?_⟩)) hS ?_
      rotate_left
      focus ((intro w hSw; (try dsimp only at hSw); obtain ⟨d0, d1, d2, d3, d4, d5, d6, d7, d8, d9, d10⟩ := hSw; go_simp); (try with_reducible rfl))
      intro wq hwq
      subst hwq
      (try simp only [Act.put, List.setIfInBounds_toArray, List.set_cons_zero, List.set_cons_succ])
      refine wpAnyK_take (fun _ => rfl) (fun _ _ _ h k => h.trans k) (fun _ _ h k => k ▸ h) (i := 5) (oi := { dst := some 138, op := _, type := _, pos := _, after := _, guard := _ }) (v := ?_) rfl (by kernel_rfl) (by kernel_rfl) (by kernel_rfl) (fun _ _ _ h => h) (Or.inl (Or.inl ⟨by rfl, ?_⟩)) hS ?_
      rotate_left
      focus ((intro w hSw; (try dsimp only at hSw); obtain ⟨d0, d1, d2, d3, d4, d5, d6, d7, d8, d9, d10⟩ := hSw; go_simp); (try with_reducible rfl))
      intro wq hwq
      subst hwq
      (try simp only [Act.put, List.setIfInBounds_toArray, List.set_cons_zero, List.set_cons_succ])
      refine wpAnyK_take (fun _ => rfl) (fun _ _ _ h k => h.trans k) (fun _ _ h k => k ▸ h) (i := 6) (oi := { dst := some 139, op := _, type := _, pos := _, after := _, guard := _ }) (v := ?_) rfl (by kernel_rfl) (by kernel_rfl) (by kernel_rfl) (fun _ _ _ h => h) (Or.inl (Or.inl ⟨by rfl, ?_⟩)) hS ?_
      rotate_left
      focus ((intro w hSw; (try dsimp only at hSw); obtain ⟨d0, d1, d2, d3, d4, d5, d6, d7, d8, d9, d10⟩ := hSw; go_simp); (try with_reducible rfl))
      intro wq hwq
      subst hwq
      (try simp only [Act.put, List.setIfInBounds_toArray, List.set_cons_zero, List.set_cons_succ])
      refine wpAnyK_all (rs := [7]) (by kernel_rfl) (by simp) (fun i hi => ?_)
      simp only [List.mem_cons, List.not_mem_nil, or_false] at hi
      subst hi
      refine stepK (o := { dst := some 140, op := _, type := _, pos := _, after := _, guard := _ }) rfl (fun K hK => ?_)
      go_simp
      obtain ⟨gl, hgl⟩ : ∃ x, wd.heap.size = x := ⟨_, rfl⟩
      obtain ⟨wl, hwl⟩ : ∃ x : World, wd.alloc (.cells #[.slice (some ⟨g + 5, 0, none⟩) 3 3, .slice (some ⟨g + 5, 0, none⟩) 2 3] 31) = x := ⟨_, rfl⟩
      have l2 : Later wd wl := hwl ▸ Later.new _ _
      have hlit : Blk wl gl #[.slice (some ⟨g + 5, 0, none⟩) 3 3, .slice (some ⟨g + 5, 0, none⟩) 2 3] 31 := hwl ▸ Blk.new wd _ _ gl hgl.symm
      have HLIT := Lib.hid hlit
      try rw [hgl]
      rw [hwl]
      replace hS : (fun W : World => W.cell? ⟨g + 1, 0, none⟩ = some (.slice (some ⟨g, 0, none⟩) 3 3) ∧ W.cell? ⟨g + 1, 1, none⟩ = some (.int .i64 3) ∧ W.cell? ⟨g + 6, 0, none⟩ = some (.int .i64 1) ∧ W.cell? ⟨g + 6, 1, none⟩ = some (.int .i64 0) ∧ W.cell? ⟨g + 6, 2, none⟩ = some (.string ⟨#[110]⟩) ∧ W.cell? ⟨g + 6, 3, none⟩ = some (.int .i64 2) ∧ W.cell? ⟨g + 6, 4, none⟩ = some (.int .i64 2) ∧ W.cell? ⟨g + 6, 5, none⟩ = some (.int .i64 9) ∧ W.cell? ⟨g + 6, 6, none⟩ = some (.string sE) ∧ W.cell? ⟨g + 6, 7, none⟩ = some (.int .u8 0) ∧ W.cell? ⟨g + 6, 8, none⟩ = some (.int .i64 0)) wl := ⟨l2.cell hS.1, l2.cell hS.2.1, l2.cell hS.2.2.1, l2.cell hS.2.2.2.1, l2.cell hS.2.2.2.2.1, l2.cell hS.2.2.2.2.2.1, l2.cell hS.2.2.2.2.2.2.1, l2.cell hS.2.2.2.2.2.2.2.1, l2.cell hS.2.2.2.2.2.2.2.2.1, l2.cell hS.2.2.2.2.2.2.2.2.2.1, l2.cell hS.2.2.2.2.2.2.2.2.2.2⟩
      refine hK _ _ hS fun wq hwq => ?_
      subst hwq
      have HFD := Lib.hid (HFD.out.later l2)
      have HLD := Lib.hid (HLD.out.trans l2)
      have M := Lib.hid (show World.cell? wl ⟨xb, xo + 3, none⟩ = some (.int .i64 0) ∧ World.cell? wl ⟨xb, xo + 3 + 1, none⟩ = some (.int .i64 0) ∧ World.cell? wl ⟨xb, xo + 3 + 2, none⟩ = some (.string sE) ∧ World.cell? wl ⟨xb, xo + 6, none⟩ = some (.int .i64 0) ∧ World.cell? wl ⟨xb, xo + 6 + 1, none⟩ = some (.int .i64 0) ∧ World.cell? wl ⟨xb, xo + 6 + 2, none⟩ = some (.string sE) from ⟨l2.cell M.out.1, l2.cell M.out.2.1, l2.cell M.out.2.2.1, l2.cell M.out.2.2.2.1, l2.cell M.out.2.2.2.2.1, l2.cell M.out.2.2.2.2.2⟩)
      clear hK hwl hlit l2
      (try simp only [Act.put, List.setIfInBounds_toArray, List.set_cons_zero, List.set_cons_succ])
      refine wpAnyK_all (rs := [8]) (by kernel_rfl) (by simp) (fun i hi => ?_)
      simp only [List.mem_cons, List.not_mem_nil, or_false] at hi
      subst hi
      refine stepK (o := { dst := some 141, op := _, type := _, pos := _, after := _, guard := _ }) rfl (fun K hK => ?_)
      go_simp
      have HCD := Lib.hid (chRows_any (some ⟨g, 0, none⟩) (some ⟨gl, 0, none⟩) 3 3 2 2 3 1 0 ⟨#[110]⟩ 2 2 9 sE 0 0 [⟨some ⟨g + 5, 0, none⟩, 3, row3⟩, ⟨some ⟨g + 5, 0, none⟩, 3, [vA, vB]⟩] (fun i => i == 0) wl rfl (by omega) ⟨HLIT.out.has, fun s hs => by
          rcases List.mem_cons.1 hs with rfl | hs
          · exact ⟨HasX.of HFD.out.R, Nat.le_refl _, (by omega : (3 : Nat) ≤ 9223372036854775807), fun h => by cases h⟩
          · rw [List.mem_singleton] at hs
            subst hs
            exact ⟨HasX.of (HFD.out.R.take 6), (by omega : (2 : Nat) ≤ 3), (by omega : (3 : Nat) ≤ 9223372036854775807), fun h => by cases h⟩⟩
        (fun j h W l => by
          have hj : j = 0 ∨ j = 1 := by simp at h; omega
          rcases hj with rfl | rfl
          · exact (row_add (some ⟨g, 0, none⟩) (some ⟨g + 5, 0, none⟩) 3 3 3 3 3 xs3 row3 0 _ 2 2 9 sE 0 0 W (HS.out.later (HLD.out.trans l)) rfl rfl (by omega) (by omega) (HFD.out.V.later l) (HFD.out.R.later l) (by intro h; cases h) rfl fit_row3 (by omega)).mono fun e w' h => ⟨fun _ => ⟨_, h⟩, fun h => by cases h⟩
          · exact (row_nofit (some ⟨g, 0, none⟩) (some ⟨g + 5, 0, none⟩) 3 3 2 3 3 xs3 [vA, vB] 1 0 ⟨#[110]⟩ 2 2 9 sE 0 0 W (HS.out.later (HLD.out.trans l)) rfl rfl (by omega) (by omega) (HFD.out.V.later l) ((HFD.out.R.take 6).later l) (by intro h; cases h) none rfl (fun h => by have := h.1; simp at this)).mono fun e w' h => ⟨(fun h => by cases h), fun _ => h⟩))
      refine HCD.out.mono ?_
      rintro e w2 ⟨_, hno, l2⟩
      obtain rfl := hno ⟨1, by omega, rfl⟩
      replace hS : (fun W : World => W.cell? ⟨g + 1, 0, none⟩ = some (.slice (some ⟨g, 0, none⟩) 3 3) ∧ W.cell? ⟨g + 1, 1, none⟩ = some (.int .i64 3) ∧ W.cell? ⟨g + 6, 0, none⟩ = some (.int .i64 1) ∧ W.cell? ⟨g + 6, 1, none⟩ = some (.int .i64 0) ∧ W.cell? ⟨g + 6, 2, none⟩ = some (.string ⟨#[110]⟩) ∧ W.cell? ⟨g + 6, 3, none⟩ = some (.int .i64 2) ∧ W.cell? ⟨g + 6, 4, none⟩ = some (.int .i64 2) ∧ W.cell? ⟨g + 6, 5, none⟩ = some (.int .i64 9) ∧ W.cell? ⟨g + 6, 6, none⟩ = some (.string sE) ∧ W.cell? ⟨g + 6, 7, none⟩ = some (.int .u8 0) ∧ W.cell? ⟨g + 6, 8, none⟩ = some (.int .i64 0)) w2 := ⟨l2.cell hS.1, l2.cell hS.2.1, l2.cell hS.2.2.1, l2.cell hS.2.2.2.1, l2.cell hS.2.2.2.2.1, l2.cell hS.2.2.2.2.2.1, l2.cell hS.2.2.2.2.2.2.1, l2.cell hS.2.2.2.2.2.2.2.1, l2.cell hS.2.2.2.2.2.2.2.2.1, l2.cell hS.2.2.2.2.2.2.2.2.2.1, l2.cell hS.2.2.2.2.2.2.2.2.2.2⟩
      refine hK _ _ hS fun wq hwq => ?_
      subst hwq
      have HFW := Lib.hid (HFD.out.later l2)
      have HLT := Lib.hid (HLD.out.trans l2)
      have M := Lib.hid (show World.cell? w2 ⟨xb, xo + 3, none⟩ = some (.int .i64 0) ∧ World.cell? w2 ⟨xb, xo + 3 + 1, none⟩ = some (.int .i64 0) ∧ World.cell? w2 ⟨xb, xo + 3 + 2, none⟩ = some (.string sE) ∧ World.cell? w2 ⟨xb, xo + 6, none⟩ = some (.int .i64 0) ∧ World.cell? w2 ⟨xb, xo + 6 + 1, none⟩ = some (.int .i64 0) ∧ World.cell? w2 ⟨xb, xo + 6 + 2, none⟩ = some (.string sE) from ⟨l2.cell M.out.1, l2.cell M.out.2.1, l2.cell M.out.2.2.1, l2.cell M.out.2.2.2.1, l2.cell M.out.2.2.2.2.1, l2.cell M.out.2.2.2.2.2⟩)
      clear hK l2 HCD HFD HLD
      (try simp only [Act.put, List.setIfInBounds_toArray, List.set_cons_zero, List.set_cons_succ])
      refine wpAnyK_take (fun _ => rfl) (fun _ _ _ h k => h.trans k) (fun _ _ h k => k ▸ h) (i := 9) (oi := { dst := some 132, op := _, type := _, pos := _, after := _, guard := _ }) (v := ?_) rfl (by kernel_rfl) (by kernel_rfl) (by kernel_rfl) (fun _ _ _ h => h) (Or.inl (Or.inl ⟨by rfl, ?_⟩)) hS ?_
      rotate_left
      focus ((intro w hSw; (try dsimp only at hSw); obtain ⟨d0, d1, d2, d3, d4, d5, d6, d7, d8, d9, d10⟩ := hSw; go_simp); (try with_reducible rfl))
      intro wq hwq
      subst hwq
      (try simp only [Act.put, List.setIfInBounds_toArray, List.set_cons_zero, List.set_cons_succ])
      refine wpAnyK_take (fun _ => rfl) (fun _ _ _ h k => h.trans k) (fun _ _ h k => k ▸ h) (i := 10) (oi := { dst := some 142, op := _, type := _, pos := _, after := _, guard := _ }) (v := ?_) rfl (by kernel_rfl) (by kernel_rfl) (by kernel_rfl) (fun _ _ _ h => h) (Or.inl (Or.inl ⟨by rfl, ?_⟩)) hS ?_
      rotate_left
      focus ((intro w hSw; (try dsimp only at hSw); obtain ⟨d0, d1, d2, d3, d4, d5, d6, d7, d8, d9, d10⟩ := hSw; go_simp); (try with_reducible rfl))
      intro wq hwq
      subst hwq
      (try simp only [Act.put, List.setIfInBounds_toArray, List.set_cons_zero, List.set_cons_succ])
      refine wpAnyK_take (fun _ => rfl) (fun _ _ _ h k => h.trans k) (fun _ _ h k => k ▸ h) (i := 11) (oi := { dst := some 143, op := _, type := _, pos := _, after := _, guard := _ }) (v := ?_) rfl (by kernel_rfl) (by kernel_rfl) (by kernel_rfl) (fun _ _ _ h => h) (Or.inl (Or.inl ⟨by rfl, ?_⟩)) hS ?_
      rotate_left
      focus ((intro w hSw; (try dsimp only at hSw); obtain ⟨d0, d1, d2, d3, d4, d5, d6, d7, d8, d9, d10⟩ := hSw; go_simp); (try with_reducible rfl))
      intro wq hwq
      subst hwq
      (try simp only [Act.put, List.setIfInBounds_toArray, List.set_cons_zero, List.set_cons_succ])
      refine wpAnyK_take (fun _ => rfl) (fun _ _ _ h k => h.trans k) (fun _ _ h k => k ▸ h) (i := 12) (oi := { dst := some 17, op := _, type := _, pos := _, after := _, guard := _ }) (v := ?_) rfl (by kernel_rfl) (by kernel_rfl) (by kernel_rfl) (fun _ _ _ h => h) (Or.inl (Or.inl ⟨by rfl, ?_⟩)) hS ?_
      rotate_left
      focus ((intro w hSw; (try dsimp only at hSw); obtain ⟨d0, d1, d2, d3, d4, d5, d6, d7, d8, d9, d10⟩ := hSw; go_simp); (try with_reducible rfl))
      intro wq hwq
      subst hwq
      (try simp only [Act.put, List.setIfInBounds_toArray, List.set_cons_zero, List.set_cons_succ])
      refine wpAnyK_take (fun _ => rfl) (fun _ _ _ h k => h.trans k) (fun _ _ h k => k ▸ h) (i := 13) (oi := { dst := some 18, op := _, type := _, pos := _, after := _, guard := _ }) (v := ?_) rfl (by kernel_rfl) (by kernel_rfl) (by kernel_rfl) (fun _ _ _ h => h) (Or.inl (Or.inl ⟨by rfl, ?_⟩)) hS ?_
      rotate_left
      focus ((intro w hSw; (try dsimp only at hSw); obtain ⟨d0, d1, d2, d3, d4, d5, d6, d7, d8, d9, d10⟩ := hSw; go_simp); (try with_reducible rfl))
      intro wq hwq
      subst hwq
      (try simp only [Act.put, List.setIfInBounds_toArray, List.set_cons_zero, List.set_cons_succ])
      refine wpAnyK_done (by kernel_rfl) ?_ _
      clear hS
      have s0 := HFW.out.s.cell 0 _ rfl
      have s1 := HFW.out.s.cell 1 _ rfl
      have c0 : World.cell? w2 ⟨g + 6, 9, none⟩ = some (.int .i64 2) := HFW.out.C 1 (by rw [chs_len]; omega) 0 _ rfl
      have c1 : World.cell? w2 ⟨g + 6, 10, none⟩ = some (.int .i64 1) := HFW.out.C 1 (by rw [chs_len]; omega) 1 _ rfl
      have c2 : World.cell? w2 ⟨g + 6, 11, none⟩ = some (.string sE) := HFW.out.C 1 (by rw [chs_len]; omega) 2 _ rfl
      have c3 : World.cell? w2 ⟨g + 6, 12, none⟩ = some (.int .i64 0) := HFW.out.C 1 (by rw [chs_len]; omega) 3 _ rfl
      have c4 : World.cell? w2 ⟨g + 6, 13, none⟩ = some (.int .i64 0) := HFW.out.C 1 (by rw [chs_len]; omega) 4 _ rfl
      have c5 : World.cell? w2 ⟨g + 6, 14, none⟩ = some (.int .i64 0) := HFW.out.C 1 (by rw [chs_len]; omega) 5 _ rfl
      have c6 : World.cell? w2 ⟨g + 6, 15, none⟩ = some (.string sE) := HFW.out.C 1 (by rw [chs_len]; omega) 6 _ rfl
      have c7 : World.cell? w2 ⟨g + 6, 16, none⟩ = some (.int .u8 0) := HFW.out.C 1 (by rw [chs_len]; omega) 7 _ rfl
      have c8 : World.cell? w2 ⟨g + 6, 17, none⟩ = some (.int .i64 0) := HFW.out.C 1 (by rw [chs_len]; omega) 8 _ rfl
      go_wp2_with fail
      refine wp_region_K (S := fun W : World => W.cell? ⟨g + 1, 0, none⟩ = some (.slice (some ⟨g, 0, none⟩) 3 3) ∧ W.cell? ⟨g + 1, 1, none⟩ = some (.int .i64 3) ∧ W.cell? ⟨g + 6, 9, none⟩ = some (.int .i64 2) ∧ W.cell? ⟨g + 6, 10, none⟩ = some (.int .i64 1) ∧ W.cell? ⟨g + 6, 11, none⟩ = some (.string sE) ∧ W.cell? ⟨g + 6, 12, none⟩ = some (.int .i64 0) ∧ W.cell? ⟨g + 6, 13, none⟩ = some (.int .i64 0) ∧ W.cell? ⟨g + 6, 14, none⟩ = some (.int .i64 0) ∧ W.cell? ⟨g + 6, 15, none⟩ = some (.string sE) ∧ W.cell? ⟨g + 6, 16, none⟩ = some (.int .u8 0) ∧ W.cell? ⟨g + 6, 17, none⟩ = some (.int .i64 0)) (R := fun a b => a = b) (fun _ => rfl) (by kernel_rfl) ?_
      obtain ⟨wd, hwd⟩ : ∃ x, w2.drew = x := ⟨_, rfl⟩
      have ld : Later w2 wd := hwd ▸ (Later.refl w2).drew
      have hS : (fun W : World => W.cell? ⟨g + 1, 0, none⟩ = some (.slice (some ⟨g, 0, none⟩) 3 3) ∧ W.cell? ⟨g + 1, 1, none⟩ = some (.int .i64 3) ∧ W.cell? ⟨g + 6, 9, none⟩ = some (.int .i64 2) ∧ W.cell? ⟨g + 6, 10, none⟩ = some (.int .i64 1) ∧ W.cell? ⟨g + 6, 11, none⟩ = some (.string sE) ∧ W.cell? ⟨g + 6, 12, none⟩ = some (.int .i64 0) ∧ W.cell? ⟨g + 6, 13, none⟩ = some (.int .i64 0) ∧ W.cell? ⟨g + 6, 14, none⟩ = some (.int .i64 0) ∧ W.cell? ⟨g + 6, 15, none⟩ = some (.string sE) ∧ W.cell? ⟨g + 6, 16, none⟩ = some (.int .u8 0) ∧ W.cell? ⟨g + 6, 17, none⟩ = some (.int .i64 0)) wd := ⟨ld.cell s0, ld.cell s1, ld.cell c0, ld.cell c1, ld.cell c2, ld.cell c3, ld.cell c4, ld.cell c5, ld.cell c6, ld.cell c7, ld.cell c8⟩
      rw [hwd]
      have HFD := Lib.hid (HFW.out.later ld)
      have HLD := Lib.hid (HLT.out.trans ld)
      have M := Lib.hid (show World.cell? wd ⟨xb, xo + 3, none⟩ = some (.int .i64 0) ∧ World.cell? wd ⟨xb, xo + 3 + 1, none⟩ = some (.int .i64 0) ∧ World.cell? wd ⟨xb, xo + 3 + 2, none⟩ = some (.string sE) ∧ World.cell? wd ⟨xb, xo + 6, none⟩ = some (.int .i64 0) ∧ World.cell? wd ⟨xb, xo + 6 + 1, none⟩ = some (.int .i64 0) ∧ World.cell? wd ⟨xb, xo + 6 + 2, none⟩ = some (.string sE) from ⟨ld.cell M.out.1, ld.cell M.out.2.1, ld.cell M.out.2.2.1, ld.cell M.out.2.2.2.1, ld.cell M.out.2.2.2.2.1, ld.cell M.out.2.2.2.2.2⟩)
      clear hwd ld s0 s1 c0 c1 c2 c3 c4 c5 c6 c7 c8 HFW HLT
      refine wpAnyK_take (fun _ => rfl) (fun _ _ _ h k => h.trans k) (fun _ _ h k => k ▸ h) (i := 0) (oi := { dst := some 145, op := _, type := _, pos := _, after := _, guard := _ }) (v := ?_) rfl (by kernel_rfl) (by kernel_rfl) (by kernel_rfl) (fun _ _ _ h => h) (Or.inl (Or.inl ⟨by rfl, ?_⟩)) hS ?_
      rotate_left
      focus ((intro w hSw; (try dsimp only at hSw); obtain ⟨d0, d1, d2, d3, d4, d5, d6, d7, d8, d9, d10⟩ := hSw; go_simp); (try with_reducible rfl))
      intro wq hwq
      subst hwq
      (try simp only [Act.put, List.setIfInBounds_toArray, List.set_cons_zero, List.set_cons_succ])
      refine wpAnyK_take (fun _ => rfl) (fun _ _ _ h k => h.trans k) (fun _ _ h k => k ▸ h) (i := 1) (oi := { dst := some 146, op := _, type := _, pos := _, after := _, guard := _ }) (v := ?_) rfl (by kernel_rfl) (by kernel_rfl) (by kernel_rfl) (fun _ _ _ h => h) (Or.inl (Or.inl ⟨by rfl, ?_⟩)) hS ?_
      rotate_left
      focus ((intro w hSw; (try dsimp only at hSw); obtain ⟨d0, d1, d2, d3, d4, d5, d6, d7, d8, d9, d10⟩ := hSw; go_simp); (try with_reducible rfl))
      intro wq hwq
      subst hwq
      (try simp only [Act.put, List.setIfInBounds_toArray, List.set_cons_zero, List.set_cons_succ])
      refine wpAnyK_take (fun _ => rfl) (fun _ _ _ h k => h.trans k) (fun _ _ h k => k ▸ h) (i := 2) (oi := { dst := some 147, op := _, type := _, pos := _, after := _, guard := _ }) (v := ?_) rfl (by kernel_rfl) (by kernel_rfl) (by kernel_rfl) (fun _ _ _ h => h) (Or.inl (Or.inl ⟨by rfl, ?_⟩)) hS ?_
      rotate_left
      focus ((intro w hSw; (try dsimp only at hSw); obtain ⟨d0, d1, d2, d3, d4, d5, d6, d7, d8, d9, d10⟩ := hSw; go_simp); (try with_reducible rfl))
      intro wq hwq
      subst hwq
      (try simp only [Act.put, List.setIfInBounds_toArray, List.set_cons_zero, List.set_cons_succ])
      refine wpAnyK_take (fun _ => rfl) (fun _ _ _ h k => h.trans k) (fun _ _ h k => k ▸ h) (i := 3) (oi := { dst := some 148, op := _, type := _, pos := _, after := _, guard := _ }) (v := ?_) rfl (by kernel_rfl) (by kernel_rfl) (by kernel_rfl) (fun _ _ _ h => h) (Or.inl (Or.inl ⟨by rfl, ?_⟩)) hS ?_
      rotate_left
      focus ((intro w hSw; (try dsimp only at hSw); obtain ⟨d0, d1, d2, d3, d4, d5, d6, d7, d8, d9, d10⟩ := hSw; go_simp); (try with_reducible rfl))
      intro wq hwq
      subst hwq
      (try simp only [Act.put, List.setIfInBounds_toArray, List.set_cons_zero, List.set_cons_succ])
      refine wpAnyK_all (rs := [4]) (by kernel_rfl) (by simp) (fun i hi => ?_)
      simp only [List.mem_cons, List.not_mem_nil, or_false] at hi
      subst hi
      refine stepK (o := { dst := some 149, op := _, type := _, pos := _, after := _, guard := _ }) rfl (fun K hK => ?_)
      go_simp
      have HCD := Lib.hid (chRows_any (some ⟨g, 0, none⟩) none 3 3 0 0 3 2 1 sE 0 0 0 sE 0 0 [] (fun i => true) wd rfl (by omega) ⟨.inl rfl, fun s hs => by cases hs⟩ (fun j h => by simp at h))
      refine HCD.out.mono ?_
      rintro e w2 ⟨hyes, _, l2⟩
      obtain ⟨Y, yc, rfl⟩ := hyes fun _ h => absurd h (Nat.not_lt_zero _)
      replace hS : (fun W : World => W.cell? ⟨g + 1, 0, none⟩ = some (.slice (some ⟨g, 0, none⟩) 3 3) ∧ W.cell? ⟨g + 1, 1, none⟩ = some (.int .i64 3) ∧ W.cell? ⟨g + 6, 9, none⟩ = some (.int .i64 2) ∧ W.cell? ⟨g + 6, 10, none⟩ = some (.int .i64 1) ∧ W.cell? ⟨g + 6, 11, none⟩ = some (.string sE) ∧ W.cell? ⟨g + 6, 12, none⟩ = some (.int .i64 0) ∧ W.cell? ⟨g + 6, 13, none⟩ = some (.int .i64 0) ∧ W.cell? ⟨g + 6, 14, none⟩ = some (.int .i64 0) ∧ W.cell? ⟨g + 6, 15, none⟩ = some (.string sE) ∧ W.cell? ⟨g + 6, 16, none⟩ = some (.int .u8 0) ∧ W.cell? ⟨g + 6, 17, none⟩ = some (.int .i64 0)) w2 := ⟨l2.cell hS.1, l2.cell hS.2.1, l2.cell hS.2.2.1, l2.cell hS.2.2.2.1, l2.cell hS.2.2.2.2.1, l2.cell hS.2.2.2.2.2.1, l2.cell hS.2.2.2.2.2.2.1, l2.cell hS.2.2.2.2.2.2.2.1, l2.cell hS.2.2.2.2.2.2.2.2.1, l2.cell hS.2.2.2.2.2.2.2.2.2.1, l2.cell hS.2.2.2.2.2.2.2.2.2.2⟩
      refine hK _ _ hS fun wq hwq => ?_
      subst hwq
      have HFW := Lib.hid (HFD.out.later l2)
      have HLT := Lib.hid (HLD.out.trans l2)
      have M := Lib.hid (show World.cell? w2 ⟨xb, xo + 3, none⟩ = some (.int .i64 0) ∧ World.cell? w2 ⟨xb, xo + 3 + 1, none⟩ = some (.int .i64 0) ∧ World.cell? w2 ⟨xb, xo + 3 + 2, none⟩ = some (.string sE) ∧ World.cell? w2 ⟨xb, xo + 6, none⟩ = some (.int .i64 0) ∧ World.cell? w2 ⟨xb, xo + 6 + 1, none⟩ = some (.int .i64 0) ∧ World.cell? w2 ⟨xb, xo + 6 + 2, none⟩ = some (.string sE) from ⟨l2.cell M.out.1, l2.cell M.out.2.1, l2.cell M.out.2.2.1, l2.cell M.out.2.2.2.1, l2.cell M.out.2.2.2.2.1, l2.cell M.out.2.2.2.2.2⟩)
      clear hK l2 HCD HFD HLD
      (try simp only [Act.put, List.setIfInBounds_toArray, List.set_cons_zero, List.set_cons_succ])
      refine wpAnyK_take (fun _ => rfl) (fun _ _ _ h k => h.trans k) (fun _ _ h k => k ▸ h) (i := 5) (oi := { dst := some 144, op := _, type := _, pos := _, after := _, guard := _ }) (v := ?_) rfl (by kernel_rfl) (by kernel_rfl) (by kernel_rfl) (fun _ _ _ h => h) (Or.inl (Or.inl ⟨by rfl, ?_⟩)) hS ?_
      rotate_left
      focus ((intro w hSw; (try dsimp only at hSw); obtain ⟨d0, d1, d2, d3, d4, d5, d6, d7, d8, d9, d10⟩ := hSw; go_simp); (try with_reducible rfl))
      intro wq hwq
      subst hwq
      (try simp only [Act.put, List.setIfInBounds_toArray, List.set_cons_zero, List.set_cons_succ])
      refine wpAnyK_take (fun _ => rfl) (fun _ _ _ h k => h.trans k) (fun _ _ h k => k ▸ h) (i := 6) (oi := { dst := some 150, op := _, type := _, pos := _, after := _, guard := _ }) (v := ?_) rfl (by kernel_rfl) (by kernel_rfl) (by kernel_rfl) (fun _ _ _ h => h) (Or.inl (Or.inl ⟨by rfl, ?_⟩)) hS ?_
      rotate_left
      focus ((intro w hSw; (try dsimp only at hSw); obtain ⟨d0, d1, d2, d3, d4, d5, d6, d7, d8, d9, d10⟩ := hSw; go_simp); (try with_reducible rfl))
      intro wq hwq
      subst hwq
      (try simp only [Act.put, List.setIfInBounds_toArray, List.set_cons_zero, List.set_cons_succ])
      refine wpAnyK_take (fun _ => rfl) (fun _ _ _ h k => h.trans k) (fun _ _ h k => k ▸ h) (i := 7) (oi := { dst := some 151, op := _, type := _, pos := _, after := _, guard := _ }) (v := ?_) rfl (by kernel_rfl) (by kernel_rfl) (by kernel_rfl) (fun _ _ _ h => h) (Or.inl (Or.inl ⟨by rfl, ?_⟩)) hS ?_
      rotate_left
      focus ((intro w hSw; (try dsimp only at hSw); obtain ⟨d0, d1, d2, d3, d4, d5, d6, d7, d8, d9, d10⟩ := hSw; go_simp); (try with_reducible rfl))
      intro wq hwq
      subst hwq
      (try simp only [Act.put, List.setIfInBounds_toArray, List.set_cons_zero, List.set_cons_succ])
      refine wpAnyK_take (fun _ => rfl) (fun _ _ _ h k => h.trans k) (fun _ _ h k => k ▸ h) (i := 8) (oi := { dst := some 19, op := _, type := _, pos := _, after := _, guard := _ }) (v := ?_) rfl (by kernel_rfl) (by kernel_rfl) (by kernel_rfl) (fun _ _ _ h => h) (Or.inl (Or.inl ⟨by rfl, ?_⟩)) hS ?_
      rotate_left
      focus ((intro w hSw; (try dsimp only at hSw); obtain ⟨d0, d1, d2, d3, d4, d5, d6, d7, d8, d9, d10⟩ := hSw; go_simp); (try with_reducible rfl))
      intro wq hwq
      subst hwq
      (try simp only [Act.put, List.setIfInBounds_toArray, List.set_cons_zero, List.set_cons_succ])
      refine wpAnyK_take (fun _ => rfl) (fun _ _ _ h k => h.trans k) (fun _ _ h k => k ▸ h) (i := 9) (oi := { dst := some 20, op := _, type := _, pos := _, after := _, guard := _ }) (v := ?_) rfl (by kernel_rfl) (by kernel_rfl) (by kernel_rfl) (fun _ _ _ h => h) (Or.inl (Or.inl ⟨by rfl, ?_⟩)) hS ?_
      rotate_left
      focus ((intro w hSw; (try dsimp only at hSw); obtain ⟨d0, d1, d2, d3, d4, d5, d6, d7, d8, d9, d10⟩ := hSw; go_simp); (try with_reducible rfl))
      intro wq hwq
      subst hwq
      (try simp only [Act.put, List.setIfInBounds_toArray, List.set_cons_zero, List.set_cons_succ])
      refine wpAnyK_done (by kernel_rfl) ?_ _
      clear hS
      obtain ⟨m0, m1, m2, n0, n1, n2⟩ := M.out
      clear M
      go_wp2_with fail
      go_ret
      exact ⟨rfl, HLT.out⟩
end Go.Proofs.YtphiggjgapaaiaaDoor
