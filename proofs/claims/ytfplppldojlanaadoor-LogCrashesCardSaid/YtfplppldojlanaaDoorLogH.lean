/- Package log: Room, Gen; what a log that is none answers. -/
import Derived.Test.YtfplppldojlanaaDoorLogG
namespace Go.Proofs.YtfplppldojlanaaDoor
open Go.RowKit
set_option linter.unusedVariables false

theorem logAppend_nil (A : Option Addr) (n c : Nat) (w : World) : Calls Tryd.prog 16 #[.pointer none, .slice A n c] w fun e w' => e = .returned (.int .i64 1) ∧ w = w' := by
  go_enter Tryd.func16, Tryd.ntmps16
  go_wp2_with fail
  go_ret
  exact ⟨rfl, rfl⟩
theorem logAnew_nil (A : Option Addr) (n c : Nat) (w : World) : Calls Tryd.prog 15 #[.pointer none, .slice A n c] w fun e w' => e = .returned (.int .i64 1) ∧ w = w' := by
  go_enter Tryd.func15, Tryd.ntmps15
  go_wp2_with fail
  go_ret
  exact ⟨rfl, rfl⟩
theorem logRoom_nil (w : World) : Calls Tryd.prog 19 #[.pointer none] w fun e w' => e = .returned (.int .i64 0) ∧ w = w' := by
  go_enter Tryd.func19, Tryd.ntmps19
  go_wp2_with fail
  go_ret
  exact ⟨rfl, rfl⟩
theorem logGen_nil (w : World) : Calls Tryd.prog 20 #[.pointer none] w fun e w' => e = .returned (.int .u32 0) ∧ w = w' := by
  go_enter Tryd.func20, Tryd.ntmps20
  go_wp2_with fail
  go_ret
  exact ⟨rfl, rfl⟩
theorem logGen_any (q p area gen used : Nat) (w : World) (h : LogBk w q p area gen used) : Calls Tryd.prog 20 #[lptr q] w fun e w' => e = .returned (.int .u32 (gen : Int)) ∧ w = w' := by
  have c2 := h.cell 2 _ rfl
  go_enter Tryd.func20, Tryd.ntmps20
  go_wp2_with fail
  go_ret
  exact ⟨rfl, rfl⟩
set_option maxRecDepth 100000 in
theorem logRoom_any (q p area gen used : Nat) (w : World) (h : LogBk w q p area gen used) (ha : area ≤ 100000) (hu : used ≤ 100000) : Calls Tryd.prog 19 #[lptr q] w fun e w' => e = .returned (.int .i64 ((area : Int) - (used : Int))) ∧ Later w w' := by
  have HQ := Lib.hid h
  have hw : IntKind.i64.wrap ((area : Int) - (used : Int)) = (area : Int) - (used : Int) := IntWalk.i64_in _ ⟨by omega, by omega⟩
  clear h
  go_enter Tryd.func19, Tryd.ntmps19
  go_upto_region 3 with fail
  refine wp_region_K (S := fun W : World => Later w W) (R := fun a b => a = b) (fun _ => rfl) (by kernel_rfl) ?_
  have hS : Later w w.drew := (Later.refl w).drew
  obtain ⟨wd, hwd⟩ : ∃ x, w.drew = x := ⟨_, rfl⟩
  rw [hwd] at hS ⊢
  clear hwd
  refine wpAnyK_take (fun _ => rfl) (fun _ _ _ h k => h.trans k) (fun _ _ h k => k ▸ h) (i := 0) (oi := { dst := some 5, op := _, type := _, pos := _, after := _, guard := _ }) (v := ?_) rfl (by kernel_rfl) (by kernel_rfl) (by kernel_rfl) (fun _ _ _ h => h) (Or.inl (Or.inl ⟨by rfl, ?_⟩)) hS ?_
  rotate_left
  focus ((intro w hSw; (try dsimp only at hSw); skip; go_simp); (try with_reducible rfl))
  intro wq' hwq
  subst hwq
  (try simp only [Act.put, List.setIfInBounds_toArray, List.set_cons_zero, List.set_cons_succ])
  refine wpAnyK_take (fun _ => rfl) (fun _ _ _ h k => h.trans k) (fun _ _ h k => k ▸ h) (i := 1) (oi := { dst := some 6, op := _, type := _, pos := _, after := _, guard := _ }) (v := ?_) rfl (by kernel_rfl) (by kernel_rfl) (by kernel_rfl) (fun _ _ _ h => h) (Or.inl (Or.inl ⟨by rfl, ?_⟩)) hS ?_
  rotate_left
  focus ((intro w hSw; (try dsimp only at hSw); have c1 := (HQ.out.later hSw).cell 1 _ rfl; have c3 := (HQ.out.later hSw).cell 3 _ rfl; go_simp); (try with_reducible rfl))
  intro wq' hwq
  subst hwq
  (try simp only [Act.put, List.setIfInBounds_toArray, List.set_cons_zero, List.set_cons_succ])
  refine wpAnyK_take (fun _ => rfl) (fun _ _ _ h k => h.trans k) (fun _ _ h k => k ▸ h) (i := 2) (oi := { dst := some 7, op := _, type := _, pos := _, after := _, guard := _ }) (v := ?_) rfl (by kernel_rfl) (by kernel_rfl) (by kernel_rfl) (fun _ _ _ h => h) (Or.inl (Or.inl ⟨by rfl, ?_⟩)) hS ?_
  rotate_left
  focus ((intro w hSw; (try dsimp only at hSw); skip; go_simp); (try with_reducible rfl))
  intro wq' hwq
  subst hwq
  (try simp only [Act.put, List.setIfInBounds_toArray, List.set_cons_zero, List.set_cons_succ])
  refine wpAnyK_take (fun _ => rfl) (fun _ _ _ h k => h.trans k) (fun _ _ h k => k ▸ h) (i := 3) (oi := { dst := some 8, op := _, type := _, pos := _, after := _, guard := _ }) (v := ?_) rfl (by kernel_rfl) (by kernel_rfl) (by kernel_rfl) (fun _ _ _ h => h) (Or.inl (Or.inl ⟨by rfl, ?_⟩)) hS ?_
  rotate_left
  focus ((intro w hSw; (try dsimp only at hSw); have c1 := (HQ.out.later hSw).cell 1 _ rfl; have c3 := (HQ.out.later hSw).cell 3 _ rfl; go_simp); (try with_reducible rfl))
  intro wq' hwq
  subst hwq
  (try simp only [Act.put, List.setIfInBounds_toArray, List.set_cons_zero, List.set_cons_succ])
  refine wpAnyK_take (fun _ => rfl) (fun _ _ _ h k => h.trans k) (fun _ _ h k => k ▸ h) (i := 4) (oi := { dst := some 9, op := _, type := _, pos := _, after := _, guard := _ }) (v := ?_) rfl (by kernel_rfl) (by kernel_rfl) (by kernel_rfl) (fun _ _ _ h => h) (Or.inl (Or.inl ⟨by rfl, ?_⟩)) hS ?_
  rotate_left
  focus ((intro w hSw; (try dsimp only at hSw); skip; go_simp); (try with_reducible rfl))
  intro wq' hwq
  subst hwq
  (try simp only [Act.put, List.setIfInBounds_toArray, List.set_cons_zero, List.set_cons_succ])
  refine wpAnyK_take (fun _ => rfl) (fun _ _ _ h k => h.trans k) (fun _ _ h k => k ▸ h) (i := 5) (oi := { dst := some 10, op := _, type := _, pos := _, after := _, guard := _ }) (v := ?_) rfl (by kernel_rfl) (by kernel_rfl) (by kernel_rfl) (fun _ _ _ h => h) (Or.inl (Or.inl ⟨by rfl, ?_⟩)) hS ?_
  rotate_left
  focus ((intro w hSw; (try dsimp only at hSw); have c1 := (HQ.out.later hSw).cell 1 _ rfl; have c3 := (HQ.out.later hSw).cell 3 _ rfl; go_simp); (try with_reducible rfl))
  intro wq' hwq
  subst hwq
  (try simp only [Act.put, List.setIfInBounds_toArray, List.set_cons_zero, List.set_cons_succ])
  refine wpAnyK_take (fun _ => rfl) (fun _ _ _ h k => h.trans k) (fun _ _ h k => k ▸ h) (i := 6) (oi := { dst := some 11, op := _, type := _, pos := _, after := _, guard := _ }) (v := ?_) rfl (by kernel_rfl) (by kernel_rfl) (by kernel_rfl) (fun _ _ _ h => h) (Or.inl (Or.inl ⟨by rfl, ?_⟩)) hS ?_
  rotate_left
  focus ((intro w hSw; (try dsimp only at hSw); skip; go_simp); (try with_reducible rfl))
  intro wq' hwq
  subst hwq
  (try simp only [Act.put, List.setIfInBounds_toArray, List.set_cons_zero, List.set_cons_succ])
  refine wpAnyK_take (fun _ => rfl) (fun _ _ _ h k => h.trans k) (fun _ _ h k => k ▸ h) (i := 7) (oi := { dst := some 12, op := _, type := _, pos := _, after := _, guard := _ }) (v := ?_) rfl (by kernel_rfl) (by kernel_rfl) (by kernel_rfl) (fun _ _ _ h => h) (Or.inl (Or.inl ⟨by rfl, ?_⟩)) hS ?_
  rotate_left
  focus ((intro w hSw; (try dsimp only at hSw); have c1 := (HQ.out.later hSw).cell 1 _ rfl; have c3 := (HQ.out.later hSw).cell 3 _ rfl; go_simp); (try with_reducible rfl))
  intro wq' hwq
  subst hwq
  (try simp only [Act.put, List.setIfInBounds_toArray, List.set_cons_zero, List.set_cons_succ])
  refine wpAnyK_take (fun _ => rfl) (fun _ _ _ h k => h.trans k) (fun _ _ h k => k ▸ h) (i := 8) (oi := { dst := some 13, op := _, type := _, pos := _, after := _, guard := _ }) (v := ?_) rfl (by kernel_rfl) (by kernel_rfl) (by kernel_rfl) (fun _ _ _ h => h) (Or.inl (Or.inl ⟨by rfl, ?_⟩)) hS ?_
  rotate_left
  focus ((intro w hSw; (try dsimp only at hSw); skip; go_simp); (try with_reducible rfl))
  intro wq' hwq
  subst hwq
  (try simp only [Act.put, List.setIfInBounds_toArray, List.set_cons_zero, List.set_cons_succ])
  refine wpAnyK_take (fun _ => rfl) (fun _ _ _ h k => h.trans k) (fun _ _ h k => k ▸ h) (i := 9) (oi := { dst := some 2, op := _, type := _, pos := _, after := _, guard := _ }) (v := ?_) rfl (by kernel_rfl) (by kernel_rfl) (by kernel_rfl) (fun _ _ _ h => h) (Or.inl (Or.inl ⟨by rfl, ?_⟩)) hS ?_
  rotate_left
  focus ((intro w hSw; (try dsimp only at hSw); skip; go_simp); (try with_reducible rfl))
  intro wq' hwq
  subst hwq
  (try simp only [Act.put, List.setIfInBounds_toArray, List.set_cons_zero, List.set_cons_succ])
  refine wpAnyK_done (by kernel_rfl) ?_ _
  have HS2 := Lib.hid hS
  clear hS
  go_wp2_with fail
  go_ret
  exact ⟨rfl, HS2.out⟩
/-- fault.Tell of what a call gives. -/
theorem tell_lerr {n : Int} {w w1 : World} {e : Ending} (h : LErr n w e w1) (hg : ErrT w1) : ∃ v, e = .returned v ∧ Calls Tryd.prog 23 #[v] w1 fun r w' => r = .returned (.int .i64 n) ∧ Later w1 w' := by
  rcases h.1 with ⟨rfl, rfl⟩ | ⟨_, v, rfl, hv⟩
  · exact ⟨.nilIface, rfl, (tell_nil w1).mono fun r w' ⟨h1, h2⟩ => ⟨h1, h2 ▸ Later.refl _⟩⟩
  · exact ⟨v, rfl, tell_some v n w1 hg hv⟩
end Go.Proofs.YtfplppldojlanaaDoor
