/- The walk of ValueAll. -/
import Derived.Test.YtbmlipandjbbbaaDoorValBack
import Derived.Test.YtbmlipandjbbbaaDoorTurn
import Derived.Deep.RegionHeld3
namespace Go.Proofs.YtbmlipandjbbbaaDoor
open Go.RowKit
set_option linter.unusedVariables false

/-- Whether p. -/
noncomputable def tb (p : Prop) : Bool := @decide p (Classical.propDecidable p)
theorem tb_yes {p : Prop} (h : p) : tb p = true := by unfold tb; simp [h]
theorem tb_no {p : Prop} (h : ¬ p) : tb p = false := by unfold tb; simp [h]
theorem TellsP.tb {p : Prop} {w w' : World} {e : Ending} (h : TellsP p w e w') : e = .returned (.bool (tb p)) ∧ Later w w' := by
  by_cases hp : p
  · rw [tb_yes hp]; exact h.yes hp
  · rw [tb_no hp]; exact h.no hp
/-- A value's bytes, if it may be. -/
noncomputable def putA (t i : Int) (s : ByteArray) : List Nat := if tb (MayV t i s.size) then putB t i s else []
theorem putA_lt (t i : Int) (s : ByteArray) : ∀ x ∈ putA t i s, x < 256 := by
  unfold putA
  by_cases h : MayV t i s.size
  · rw [tb_yes h, if_pos rfl]; unfold MayV at h; exact putB_lt t i s (by omega) (by omega) (by omega)
  · rw [tb_no h]; intro x hx; cases hx
theorem gives_nil {w w' : World} {e : Ending} (h : e = .returned (.slice none 0 0) ∧ Later w w') : Gives [] w e w' :=
  ⟨none, 0, h.1, .nil_, Nat.le_refl _, by decide, fun _ => rfl, h.2⟩
theorem valPut_a (t i : Int) (s : ByteArray) (w : World) (hs : Sn w) : Calls Tryd.prog 19 #[vagg t i s] w (Gives (putA t i s) w) := by
  unfold putA
  by_cases h : MayV t i s.size
  · rw [tb_yes h, if_pos rfl]; exact valPut_l t i s w hs h
  · rw [tb_no h]; exact (valPut_n t i s w hs h).mono fun _ _ h => gives_nil h
theorem refPut_a (t i : Int) (s : ByteArray) (w : World) : Calls Tryd.prog 20 #[vagg t i s] w (Gives (putA t i s) w) := by
  unfold putA
  by_cases h : MayV t i s.size
  · rw [tb_yes h, if_pos rfl]; exact refPut_l t i s w h
  · rw [tb_no h]; exact (refPut_n t i s w h).mono fun _ _ h => gives_nil h
theorem may_t (t i : Int) (s : ByteArray) (w : World) (hs : Sn w) : Calls Tryd.prog 15 #[vagg t i s] w fun e w' => e = .returned (.bool (tb (MayV t i s.size))) ∧ Later w w' := (may_l t i s w hs).mono fun _ _ h => h.tb
theorem fits_t (t vt i : Int) (s : ByteArray) (w : World) (hs : Sn w) : Calls Tryd.prog 17 #[.int .i64 t, vagg vt i s] w fun e w' => e = .returned (.bool (tb (FitsV t vt i s.size))) ∧ Later w w' := (fits_l t vt i s w hs).mono fun _ _ h => h.tb
theorem refMay_t (t i : Int) (s : ByteArray) (w : World) : Calls Tryd.prog 16 #[vagg t i s] w fun e w' => e = .returned (.bool (tb (MayV t i s.size))) ∧ Later w w' := (refMay_l t i s w).mono fun _ _ h => h.tb
theorem refFits_t (t vt i : Int) (s : ByteArray) (w : World) : Calls Tryd.prog 18 #[.int .i64 t, vagg vt i s] w fun e w' => e = .returned (.bool (tb (FitsV t vt i s.size))) ∧ Later w w' := (refFits_l t vt i s w).mono fun _ _ h => h.tb
/-- What is taken of b: five parts. -/
structure Took (b : List Nat) (T I : Int) (S : ByteArray) (n : Int) (ok : Bool) : Prop where
  of : ∀ (w : World) (e : Ending) (w' : World), TakesV b w e w' → e = .returned (.tuple #[vagg T I S, .int .i64 n, .bool ok]) ∧ Later w w'
theorem took (b : List Nat) : ∃ T I S n ok, Took b T I S n ok := by
  cases h : takeV b with
  | none => exact ⟨0, 0, ⟨#[]⟩, 0, false, ⟨fun w e w' k => k.no h⟩⟩
  | some q =>
    obtain ⟨t, i, l, n⟩ := q
    exact ⟨t, i, bstr l, n, true, ⟨fun w e w' k => k.yes h⟩⟩

set_option maxRecDepth 100000 in
set_option maxHeartbeats 4000000 in
theorem valAll_walk (t i : Int) (s : ByteArray) (u j : Int) (r : ByteArray) (ty : Int) (A : Option Addr) (c : Nat) (b : List Nat) (w : World) (hs : Sn w) (hr : Has w A (ints .u8 b)) (h256 : ∀ x ∈ b, x < 256) (hb : b.length ≤ 40) (hcap : b.length ≤ c) (hc : c ≤ 9223372036854775807) (hz1 : s.size ≤ 40) (hz2 : r.size ≤ 40) :
    Calls Tryd.prog 3 #[vagg t i s, vagg u j r, .int .i64 ty, .slice A b.length c] w fun e w' => e = .returned (.bool true) ∧ Later w w' := by
  obtain ⟨w1, hw1⟩ : ∃ w1 : World, (w.alloc (.cells #[.int .i64 t, .int .i64 i, .string s] 23)).alloc (.cells #[.int .i64 u, .int .i64 j, .string r] 23) = w1 := ⟨_, rfl⟩
  have L : Later w w1 := hw1 ▸ ((Later.refl w).alloc _).alloc _
  have V : Blk w1 w.heap.size #[.int .i64 t, .int .i64 i, .string s] 23 := hw1 ▸ (Blk.new w _ _ _ rfl).later (Later.new _ _)
  have U : Blk w1 (w.heap.size + 1) #[.int .i64 u, .int .i64 j, .string r] 23 := hw1 ▸ Blk.new _ _ _ _ (by simp)
  have HW := Lib.hid hw1
  obtain ⟨T, I, S, n, ok, HT⟩ := took b
  clear hw1
  go_enter Tryd.func3, Tryd.ntmps3
  go_wp2_with fail
  rw [HW.out]
  refine (begun1_any w1 (hs.later L)).mono ?_
  rintro e w2 ⟨rfl, l⟩
  clear HW
  have V := V.later l
  have U := U.later l
  have L := L.trans l
  have a2 := V.cell 2 _ rfl
  have c2 := U.cell 2 _ rfl
  clear l
  go_wp2_with fail
  refine (handed_any A b.length c b w2 rfl (hr.later L) (by omega)).mono ?_
  rintro e w3 ⟨rfl, row, l⟩
  have lh : Later w2 w3 := l
  have V := V.later lh
  have U := U.later lh
  have L := L.trans lh
  have R3 : Has w3 (some ⟨w2.heap.size, 0, none⟩) (ints .u8 b) := by
    have h := row.rd.take b.length
    rw [ints_take, List.take_left] at h
    exact h
  obtain ⟨gh, hgh⟩ : ∃ gh, gh = w2.heap.size := ⟨_, rfl⟩
  rw [← hgh] at row R3 ⊢
  clear a2 c2 l lh hgh
  go_wp2_with fail
  refine (valTake_any (some ⟨gh, 0, none⟩) (b.length + 5) b w3 (hs.later L) R3 h256 (by omega) (by omega) (by omega)).mono ?_
  intro e w4 h
  obtain ⟨rfl, l⟩ := HT.of _ _ _ h
  have V := V.later l
  have U := U.later l
  have L := L.trans l
  have row := l.row row
  have l5 := Later.new w4 (.cells #[.int .i64 T, .int .i64 I, .string S] 23)
  have X := Blk.new w4 #[.int .i64 T, .int .i64 I, .string S] 23 _ rfl
  obtain ⟨w5, hw5⟩ : ∃ w5 : World, w4.alloc (.cells #[.int .i64 T, .int .i64 I, .string S] 23) = w5 := ⟨_, rfl⟩
  rw [hw5] at l5 X
  have V := V.later l5
  have U := U.later l5
  have L := L.trans l5
  have row := l5.row row
  have HW := Lib.hid hw5
  obtain ⟨gx, hgx⟩ : ∃ gx, gx = w4.heap.size := ⟨_, rfl⟩
  have HGX := Lib.hid hgx
  rw [← hgx] at X
  clear h l R3 l5 hw5 hgx
  go_wp2_with fail
  rw [HW.out, ← HGX.out]
  refine (refTake_any A c b w5 (hr.later L) h256 (by omega) hcap hc).mono ?_
  intro e w6 h
  obtain ⟨rfl, l⟩ := HT.of _ _ _ h
  have V := V.later l
  have U := U.later l
  have X := X.later l
  have L := L.trans l
  have row := l.row row
  have l7 := Later.new w6 (.cells #[.int .i64 T, .int .i64 I, .string S] 23)
  have Y := Blk.new w6 #[.int .i64 T, .int .i64 I, .string S] 23 _ rfl
  obtain ⟨w7, hw7⟩ : ∃ w7 : World, w6.alloc (.cells #[.int .i64 T, .int .i64 I, .string S] 23) = w7 := ⟨_, rfl⟩
  rw [hw7] at l7 Y
  have V := V.later l7
  have U := U.later l7
  have X := X.later l7
  have L := L.trans l7
  have row := l7.row row
  have HW2 := Lib.hid hw7
  obtain ⟨gy, hgy⟩ : ∃ gy, gy = w6.heap.size := ⟨_, rfl⟩
  have HGY := Lib.hid hgy
  rw [← hgy] at Y
  clear h l l7 hw7 hgy HW HGX
  go_wp2_with fail
  rw [HW2.out, ← HGY.out]
  have V := V.drew
  have U := U.drew
  have X := X.drew
  have Y := Y.drew
  have L := L.drew
  have row := row.drew
  clear HW2 HGY
  -- REGION 8
  refine wp_region_held_drew (S := (fun w' => w'.cell? ⟨w.heap.size, 0, none⟩ = some (.int .i64 t) ∧ w'.cell? ⟨w.heap.size, 1, none⟩ = some (.int .i64 i) ∧ w'.cell? ⟨w.heap.size, 2, none⟩ = some (.string s) ∧ w'.cell? ⟨gx, 0, none⟩ = some (.int .i64 T) ∧ w'.cell? ⟨gx, 1, none⟩ = some (.int .i64 I) ∧ w'.cell? ⟨gx, 2, none⟩ = some (.string S) ∧ w'.cell? ⟨gy, 0, none⟩ = some (.int .i64 T) ∧ w'.cell? ⟨gy, 1, none⟩ = some (.int .i64 I) ∧ w'.cell? ⟨gy, 2, none⟩ = some (.string S))) (by kernel_rfl) ?_ (fun hHeld => ?_)
  · exact ⟨V.cell 0 _ rfl, V.cell 1 _ rfl, V.cell 2 _ rfl, X.cell 0 _ rfl, X.cell 1 _ rfl, X.cell 2 _ rfl, Y.cell 0 _ rfl, Y.cell 1 _ rfl, Y.cell 2 _ rfl⟩
  refine wpAnyH_take (i := 0) (oi := { dst := some 47, op := _, type := _, pos := _, after := _, guard := _ }) (v := ?_) rfl (by kernel_rfl) (by kernel_rfl) (by kernel_rfl) (fun _ _ _ h => h) (Or.inl ⟨by rfl, ?_⟩) (by assumption) ?_
  rotate_left
  focus ((intro w hSw; (try dsimp only at hSw); go_simp); (try with_reducible rfl))
  (try simp only [Act.put, List.setIfInBounds_toArray, List.set_cons_zero, List.set_cons_succ])
  refine wpAnyH_take (i := 2) (oi := { dst := some 49, op := _, type := _, pos := _, after := _, guard := _ }) (v := ?_) rfl (by kernel_rfl) (by kernel_rfl) (by kernel_rfl) (fun _ _ _ h => h) (Or.inl ⟨by rfl, ?_⟩) (by assumption) ?_
  rotate_left
  focus ((intro w hSw; (try dsimp only at hSw); go_simp); (try with_reducible rfl))
  (try simp only [Act.put, List.setIfInBounds_toArray, List.set_cons_zero, List.set_cons_succ])
  refine wpAnyH_ready (rs := [1]) (by kernel_rfl) (by simp) ?_
  refine AllReadyH.cons (o := { dst := some 48, op := _, type := _, pos := _, after := _, guard := _ }) rfl (fun K hK => ?_) AllReadyH.nil
  go_simp
  (go_at_call 15; refine (may_t _ _ _ _ (hs.later L)).mono ?_; rintro e wX ⟨rfl, lX⟩; have V := V.later lX; have U := U.later lX; have X := X.later lX; have Y := Y.later lX; have row := lX.row row; have L := L.trans lX; clear lX)
  refine hK.out _ _ ?_ (fun hHeld => ?_)
  · exact ⟨V.cell 0 _ rfl, V.cell 1 _ rfl, V.cell 2 _ rfl, X.cell 0 _ rfl, X.cell 1 _ rfl, X.cell 2 _ rfl, Y.cell 0 _ rfl, Y.cell 1 _ rfl, Y.cell 2 _ rfl⟩
  clear hK K
  (try simp only [Act.put, List.setIfInBounds_toArray, List.set_cons_zero, List.set_cons_succ])
  refine wpAnyH_ready (rs := [3]) (by kernel_rfl) (by simp) ?_
  refine AllReadyH.cons (o := { dst := some 50, op := _, type := _, pos := _, after := _, guard := _ }) rfl (fun K hK => ?_) AllReadyH.nil
  go_simp
  (go_at_call 16; refine (refMay_t _ _ _ _).mono ?_; rintro e wX ⟨rfl, lX⟩; have V := V.later lX; have U := U.later lX; have X := X.later lX; have Y := Y.later lX; have row := lX.row row; have L := L.trans lX; clear lX)
  refine hK.out _ _ ?_ (fun hHeld => ?_)
  · exact ⟨V.cell 0 _ rfl, V.cell 1 _ rfl, V.cell 2 _ rfl, X.cell 0 _ rfl, X.cell 1 _ rfl, X.cell 2 _ rfl, Y.cell 0 _ rfl, Y.cell 1 _ rfl, Y.cell 2 _ rfl⟩
  clear hK K
  (try simp only [Act.put, List.setIfInBounds_toArray, List.set_cons_zero, List.set_cons_succ])
  refine wpAnyH_take (i := 4) (oi := { dst := some 51, op := _, type := _, pos := _, after := _, guard := _ }) (v := ?_) rfl (by kernel_rfl) (by kernel_rfl) (by kernel_rfl) (fun _ _ _ h => h) (Or.inl ⟨by rfl, ?_⟩) (by assumption) ?_
  rotate_left
  focus ((intro w hSw; (try dsimp only at hSw); go_simp); (try with_reducible rfl))
  (try simp only [Act.put, List.setIfInBounds_toArray, List.set_cons_zero, List.set_cons_succ])
  refine wpAnyH_take (i := 5) (oi := { dst := some 52, op := _, type := _, pos := _, after := _, guard := _ }) (v := ?_) rfl (by kernel_rfl) (by kernel_rfl) (by kernel_rfl) (fun _ _ _ h => h) (Or.inl ⟨by rfl, ?_⟩) (by assumption) ?_
  rotate_left
  focus ((intro w hSw; (try dsimp only at hSw); go_simp); (try with_reducible rfl))
  (try simp only [Act.put, List.setIfInBounds_toArray, List.set_cons_zero, List.set_cons_succ])
  refine wpAnyH_take (i := 6) (oi := { dst := some 53, op := _, type := _, pos := _, after := _, guard := _ }) (v := ?_) rfl (by kernel_rfl) (by kernel_rfl) (by kernel_rfl) (fun _ _ _ h => h) (Or.inl ⟨by rfl, ?_⟩) (by assumption) ?_
  rotate_left
  focus ((intro w hSw; (try dsimp only at hSw); go_simp); (try with_reducible rfl))
  (try simp only [Act.put, List.setIfInBounds_toArray, List.set_cons_zero, List.set_cons_succ])
  refine wpAnyH_take (i := 7) (oi := { dst := some 54, op := _, type := _, pos := _, after := _, guard := _ }) (v := ?_) rfl (by kernel_rfl) (by kernel_rfl) (by kernel_rfl) (fun _ _ _ h => h) (Or.inl ⟨by rfl, ?_⟩) (by assumption) ?_
  rotate_left
  focus ((intro w hSw; (try dsimp only at hSw); go_simp); (try with_reducible rfl))
  (try simp only [Act.put, List.setIfInBounds_toArray, List.set_cons_zero, List.set_cons_succ])
  refine wpAnyH_take (i := 9) (oi := { dst := some 56, op := _, type := _, pos := _, after := _, guard := _ }) (v := ?_) rfl (by kernel_rfl) (by kernel_rfl) (by kernel_rfl) (fun _ _ _ h => h) (Or.inl ⟨by rfl, ?_⟩) (by assumption) ?_
  rotate_left
  focus ((intro w hSw; (try dsimp only at hSw); go_simp); (try with_reducible rfl))
  (try simp only [Act.put, List.setIfInBounds_toArray, List.set_cons_zero, List.set_cons_succ])
  refine wpAnyH_take (i := 10) (oi := { dst := some 57, op := _, type := _, pos := _, after := _, guard := _ }) (v := ?_) rfl (by kernel_rfl) (by kernel_rfl) (by kernel_rfl) (fun _ _ _ h => h) (Or.inl ⟨by rfl, ?_⟩) (by assumption) ?_
  rotate_left
  focus ((intro w hSw; (try dsimp only at hSw); go_simp); (try with_reducible rfl))
  (try simp only [Act.put, List.setIfInBounds_toArray, List.set_cons_zero, List.set_cons_succ])
  refine wpAnyH_ready (rs := [8]) (by kernel_rfl) (by simp) ?_
  refine AllReadyH.cons (o := { dst := some 55, op := _, type := _, pos := _, after := _, guard := _ }) rfl (fun K hK => ?_) AllReadyH.nil
  go_simp
  (go_at_call 17; refine (fits_t _ _ _ _ _ (hs.later L)).mono ?_; rintro e wX ⟨rfl, lX⟩; have V := V.later lX; have U := U.later lX; have X := X.later lX; have Y := Y.later lX; have row := lX.row row; have L := L.trans lX; clear lX)
  refine hK.out _ _ ?_ (fun hHeld => ?_)
  · exact ⟨V.cell 0 _ rfl, V.cell 1 _ rfl, V.cell 2 _ rfl, X.cell 0 _ rfl, X.cell 1 _ rfl, X.cell 2 _ rfl, Y.cell 0 _ rfl, Y.cell 1 _ rfl, Y.cell 2 _ rfl⟩
  clear hK K
  (try simp only [Act.put, List.setIfInBounds_toArray, List.set_cons_zero, List.set_cons_succ])
  refine wpAnyH_ready (rs := [11]) (by kernel_rfl) (by simp) ?_
  refine AllReadyH.cons (o := { dst := some 58, op := _, type := _, pos := _, after := _, guard := _ }) rfl (fun K hK => ?_) AllReadyH.nil
  go_simp
  (go_at_call 18; refine (refFits_t _ _ _ _ _).mono ?_; rintro e wX ⟨rfl, lX⟩; have V := V.later lX; have U := U.later lX; have X := X.later lX; have Y := Y.later lX; have row := lX.row row; have L := L.trans lX; clear lX)
  refine hK.out _ _ ?_ (fun hHeld => ?_)
  · exact ⟨V.cell 0 _ rfl, V.cell 1 _ rfl, V.cell 2 _ rfl, X.cell 0 _ rfl, X.cell 1 _ rfl, X.cell 2 _ rfl, Y.cell 0 _ rfl, Y.cell 1 _ rfl, Y.cell 2 _ rfl⟩
  clear hK K
  (try simp only [Act.put, List.setIfInBounds_toArray, List.set_cons_zero, List.set_cons_succ])
  refine wpAnyH_take (i := 12) (oi := { dst := some 59, op := _, type := _, pos := _, after := _, guard := _ }) (v := ?_) rfl (by kernel_rfl) (by kernel_rfl) (by kernel_rfl) (fun _ _ _ h => h) (Or.inl ⟨by rfl, ?_⟩) (by assumption) ?_
  rotate_left
  focus ((intro w hSw; (try dsimp only at hSw); go_simp); (try with_reducible rfl))
  (try simp only [Act.put, List.setIfInBounds_toArray, List.set_cons_zero, List.set_cons_succ])
  refine wpAnyH_take (i := 13) (oi := { dst := some 60, op := _, type := _, pos := _, after := _, guard := _ }) (v := ?_) rfl (by kernel_rfl) (by kernel_rfl) (by kernel_rfl) (fun _ _ _ h => h) (Or.inl ⟨by rfl, ?_⟩) (by assumption) ?_
  rotate_left
  focus ((intro w hSw; (try dsimp only at hSw); go_simp); (try with_reducible rfl))
  (try simp only [Act.put, List.setIfInBounds_toArray, List.set_cons_zero, List.set_cons_succ])
  refine wpAnyH_take (i := 14) (oi := { dst := some 61, op := _, type := _, pos := _, after := _, guard := _ }) (v := ?_) rfl (by kernel_rfl) (by kernel_rfl) (by kernel_rfl) (fun _ _ _ h => h) (Or.inl ⟨by rfl, ?_⟩) (by assumption) ?_
  rotate_left
  focus ((intro w hSw; (try dsimp only at hSw); go_simp); (try with_reducible rfl))
  (try simp only [Act.put, List.setIfInBounds_toArray, List.set_cons_zero, List.set_cons_succ])
  refine wpAnyH_take (i := 15) (oi := { dst := some 62, op := _, type := _, pos := _, after := _, guard := _ }) (v := ?_) rfl (by kernel_rfl) (by kernel_rfl) (by kernel_rfl) (fun _ _ _ h => h) (Or.inl ⟨by rfl, ?_⟩) (by assumption) ?_
  rotate_left
  focus ((intro w hSw; (try dsimp only at hSw); go_simp); (try with_reducible rfl))
  (try simp only [Act.put, List.setIfInBounds_toArray, List.set_cons_zero, List.set_cons_succ])
  refine wpAnyH_take (i := 18) (oi := { dst := some 65, op := _, type := _, pos := _, after := _, guard := _ }) (v := ?_) rfl (by kernel_rfl) (by kernel_rfl) (by kernel_rfl) (fun _ _ _ h => h) (Or.inl ⟨by rfl, ?_⟩) (by assumption) ?_
  rotate_left
  focus ((intro w hSw; (try dsimp only at hSw); go_simp); (try with_reducible rfl))
  (try simp only [Act.put, List.setIfInBounds_toArray, List.set_cons_zero, List.set_cons_succ])
  refine wpAnyH_ready (rs := [16]) (by kernel_rfl) (by simp) ?_
  refine AllReadyH.cons (o := { dst := some 63, op := _, type := _, pos := _, after := _, guard := _ }) rfl (fun K hK => ?_) AllReadyH.nil
  go_simp
  (go_at_call 19; refine (valPut_a _ _ _ _ (hs.later L)).mono ?_; rintro e wX ⟨P1, cp1, rfl, r1, _, _, _, lX⟩; have V := V.later lX; have U := U.later lX; have X := X.later lX; have Y := Y.later lX; have row := lX.row row; have L := L.trans lX; clear lX)
  refine hK.out _ _ ?_ (fun hHeld => ?_)
  · exact ⟨V.cell 0 _ rfl, V.cell 1 _ rfl, V.cell 2 _ rfl, X.cell 0 _ rfl, X.cell 1 _ rfl, X.cell 2 _ rfl, Y.cell 0 _ rfl, Y.cell 1 _ rfl, Y.cell 2 _ rfl⟩
  clear hK K
  (try simp only [Act.put, List.setIfInBounds_toArray, List.set_cons_zero, List.set_cons_succ])
  refine wpAnyH_turn (S' := (fun w' => (w'.cell? ⟨w.heap.size, 0, none⟩ = some (.int .i64 t) ∧ w'.cell? ⟨w.heap.size, 1, none⟩ = some (.int .i64 i) ∧ w'.cell? ⟨w.heap.size, 2, none⟩ = some (.string s) ∧ w'.cell? ⟨gx, 0, none⟩ = some (.int .i64 T) ∧ w'.cell? ⟨gx, 1, none⟩ = some (.int .i64 I) ∧ w'.cell? ⟨gx, 2, none⟩ = some (.string S) ∧ w'.cell? ⟨gy, 0, none⟩ = some (.int .i64 T) ∧ w'.cell? ⟨gy, 1, none⟩ = some (.int .i64 I) ∧ w'.cell? ⟨gy, 2, none⟩ = some (.string S)) ∧ (convert 24 9 (.slice P1 (putA t i s).length cp1)).run Tryd.prog w' = .ok (.string (bstr (putA t i s))) w')) (fun _ h => h.1) ?_
  have hHeld : (fun w' => (w'.cell? ⟨w.heap.size, 0, none⟩ = some (.int .i64 t) ∧ w'.cell? ⟨w.heap.size, 1, none⟩ = some (.int .i64 i) ∧ w'.cell? ⟨w.heap.size, 2, none⟩ = some (.string s) ∧ w'.cell? ⟨gx, 0, none⟩ = some (.int .i64 T) ∧ w'.cell? ⟨gx, 1, none⟩ = some (.int .i64 I) ∧ w'.cell? ⟨gx, 2, none⟩ = some (.string S) ∧ w'.cell? ⟨gy, 0, none⟩ = some (.int .i64 T) ∧ w'.cell? ⟨gy, 1, none⟩ = some (.int .i64 I) ∧ w'.cell? ⟨gy, 2, none⟩ = some (.string S)) ∧ (convert 24 9 (.slice P1 (putA t i s).length cp1)).run Tryd.prog w' = .ok (.string (bstr (putA t i s))) w') wX := by exact ⟨⟨V.cell 0 _ rfl, V.cell 1 _ rfl, V.cell 2 _ rfl, X.cell 0 _ rfl, X.cell 1 _ rfl, X.cell 2 _ rfl, Y.cell 0 _ rfl, Y.cell 1 _ rfl, Y.cell 2 _ rfl⟩, conv_str P1 _ cp1 _ rfl _ _ r1⟩
  refine wpAnyH_take (i := 17) (oi := { dst := some 64, op := _, type := _, pos := _, after := _, guard := _ }) (v := ?_) rfl (by kernel_rfl) (by kernel_rfl) (by kernel_rfl) (fun _ _ _ h => h) (Or.inl ⟨by rfl, ?_⟩) (by assumption) ?_
  rotate_left
  focus ((intro w hSw; (try dsimp only at hSw); go_simp); (try with_reducible rfl))
  (try simp only [Act.put, List.setIfInBounds_toArray, List.set_cons_zero, List.set_cons_succ])
  refine wpAnyH_ready (rs := [19]) (by kernel_rfl) (by simp) ?_
  refine AllReadyH.cons (o := { dst := some 66, op := _, type := _, pos := _, after := _, guard := _ }) rfl (fun K hK => ?_) AllReadyH.nil
  go_simp
  (go_at_call 20; refine (refPut_a _ _ _ _).mono ?_; rintro e wX ⟨P2, cp2, rfl, r2, _, _, _, lX⟩; have V := V.later lX; have U := U.later lX; have X := X.later lX; have Y := Y.later lX; have row := lX.row row; have L := L.trans lX; have r1 := r1.later lX; clear lX)
  refine hK.out _ _ ?_ (fun hHeld => ?_)
  · exact ⟨⟨V.cell 0 _ rfl, V.cell 1 _ rfl, V.cell 2 _ rfl, X.cell 0 _ rfl, X.cell 1 _ rfl, X.cell 2 _ rfl, Y.cell 0 _ rfl, Y.cell 1 _ rfl, Y.cell 2 _ rfl⟩, conv_str P1 _ cp1 _ rfl _ _ r1⟩
  clear hK K
  (try simp only [Act.put, List.setIfInBounds_toArray, List.set_cons_zero, List.set_cons_succ])
  refine wpAnyH_turn (S' := (fun w' => ((w'.cell? ⟨w.heap.size, 0, none⟩ = some (.int .i64 t) ∧ w'.cell? ⟨w.heap.size, 1, none⟩ = some (.int .i64 i) ∧ w'.cell? ⟨w.heap.size, 2, none⟩ = some (.string s) ∧ w'.cell? ⟨gx, 0, none⟩ = some (.int .i64 T) ∧ w'.cell? ⟨gx, 1, none⟩ = some (.int .i64 I) ∧ w'.cell? ⟨gx, 2, none⟩ = some (.string S) ∧ w'.cell? ⟨gy, 0, none⟩ = some (.int .i64 T) ∧ w'.cell? ⟨gy, 1, none⟩ = some (.int .i64 I) ∧ w'.cell? ⟨gy, 2, none⟩ = some (.string S)) ∧ (convert 24 9 (.slice P1 (putA t i s).length cp1)).run Tryd.prog w' = .ok (.string (bstr (putA t i s))) w') ∧ (convert 24 9 (.slice P2 (putA t i s).length cp2)).run Tryd.prog w' = .ok (.string (bstr (putA t i s))) w')) (fun _ h => h.1) ?_
  have hHeld : (fun w' => ((w'.cell? ⟨w.heap.size, 0, none⟩ = some (.int .i64 t) ∧ w'.cell? ⟨w.heap.size, 1, none⟩ = some (.int .i64 i) ∧ w'.cell? ⟨w.heap.size, 2, none⟩ = some (.string s) ∧ w'.cell? ⟨gx, 0, none⟩ = some (.int .i64 T) ∧ w'.cell? ⟨gx, 1, none⟩ = some (.int .i64 I) ∧ w'.cell? ⟨gx, 2, none⟩ = some (.string S) ∧ w'.cell? ⟨gy, 0, none⟩ = some (.int .i64 T) ∧ w'.cell? ⟨gy, 1, none⟩ = some (.int .i64 I) ∧ w'.cell? ⟨gy, 2, none⟩ = some (.string S)) ∧ (convert 24 9 (.slice P1 (putA t i s).length cp1)).run Tryd.prog w' = .ok (.string (bstr (putA t i s))) w') ∧ (convert 24 9 (.slice P2 (putA t i s).length cp2)).run Tryd.prog w' = .ok (.string (bstr (putA t i s))) w') wX := by exact ⟨⟨⟨V.cell 0 _ rfl, V.cell 1 _ rfl, V.cell 2 _ rfl, X.cell 0 _ rfl, X.cell 1 _ rfl, X.cell 2 _ rfl, Y.cell 0 _ rfl, Y.cell 1 _ rfl, Y.cell 2 _ rfl⟩, conv_str P1 _ cp1 _ rfl _ _ r1⟩, conv_str P2 _ cp2 _ rfl _ _ r2⟩
  refine wpAnyH_take (i := 20) (oi := { dst := some 67, op := _, type := _, pos := _, after := _, guard := _ }) (v := ?_) rfl (by kernel_rfl) (by kernel_rfl) (by kernel_rfl) (fun _ _ _ h => h) (Or.inl ⟨by rfl, ?_⟩) (by assumption) ?_
  rotate_left
  focus ((intro w hSw; (try dsimp only at hSw); go_simp); (try with_reducible rfl))
  (try simp only [Act.put, List.setIfInBounds_toArray, List.set_cons_zero, List.set_cons_succ])
  refine wpAnyH_take (i := 21) (oi := { dst := some 68, op := _, type := _, pos := _, after := _, guard := _ }) (v := ?_) rfl (by kernel_rfl) (by kernel_rfl) (by kernel_rfl) (fun _ _ _ h => h) (Or.inl ⟨by rfl, ?_⟩) (by assumption) ?_
  rotate_left
  focus ((intro w hSw; (try dsimp only at hSw); go_simp); (try with_reducible rfl))
  (try simp only [Act.put, List.setIfInBounds_toArray, List.set_cons_zero, List.set_cons_succ])
  refine wpAnyH_take (i := 22) (oi := { dst := some 69, op := _, type := _, pos := _, after := _, guard := _ }) (v := ?_) rfl (by kernel_rfl) (by kernel_rfl) (by kernel_rfl) (fun _ _ _ h => h) (Or.inl ⟨by rfl, ?_⟩) (by assumption) ?_
  rotate_left
  focus ((intro w hSw; (try dsimp only at hSw); go_simp); (try with_reducible rfl))
  (try simp only [Act.put, List.setIfInBounds_toArray, List.set_cons_zero, List.set_cons_succ])
  refine wpAnyH_take (i := 23) (oi := { dst := some 70, op := _, type := _, pos := _, after := _, guard := _ }) (v := ?_) rfl (by kernel_rfl) (by kernel_rfl) (by kernel_rfl) (fun _ _ _ h => h) (Or.inl ⟨by rfl, ?_⟩) (by assumption) ?_
  rotate_left
  focus ((intro w hSw; (try dsimp only at hSw); go_simp); (try with_reducible rfl))
  (try simp only [Act.put, List.setIfInBounds_toArray, List.set_cons_zero, List.set_cons_succ])
  refine wpAnyH_take (i := 24) (oi := { dst := some 71, op := _, type := _, pos := _, after := _, guard := _ }) (v := ?_) rfl (by kernel_rfl) (by kernel_rfl) (by kernel_rfl) (fun _ _ _ h => h) (Or.inl ⟨by rfl, ?_⟩) (by assumption) ?_
  rotate_left
  focus ((intro w hSw; (try dsimp only at hSw); go_simp); (try with_reducible rfl))
  (try simp only [Act.put, List.setIfInBounds_toArray, List.set_cons_zero, List.set_cons_succ])
  refine wpAnyH_take (i := 25) (oi := { dst := some 72, op := _, type := _, pos := _, after := _, guard := _ }) (v := ?_) rfl (by kernel_rfl) (by kernel_rfl) (by kernel_rfl) (fun _ _ _ h => h) (Or.inl ⟨by rfl, ?_⟩) (by assumption) ?_
  rotate_left
  focus ((intro w hSw; (try dsimp only at hSw); go_simp); (try with_reducible rfl))
  (try simp only [Act.put, List.setIfInBounds_toArray, List.set_cons_zero, List.set_cons_succ])
  refine wpAnyH_take (i := 26) (oi := { dst := some 73, op := _, type := _, pos := _, after := _, guard := _ }) (v := ?_) rfl (by kernel_rfl) (by kernel_rfl) (by kernel_rfl) (fun _ _ _ h => h) (Or.inl ⟨by rfl, ?_⟩) (by assumption) ?_
  rotate_left
  focus ((intro w hSw; (try dsimp only at hSw); go_simp); (try with_reducible rfl))
  (try simp only [Act.put, List.setIfInBounds_toArray, List.set_cons_zero, List.set_cons_succ])
  refine wpAnyH_take (i := 27) (oi := { dst := some 74, op := _, type := _, pos := _, after := _, guard := _ }) (v := ?_) rfl (by kernel_rfl) (by kernel_rfl) (by kernel_rfl) (fun _ _ _ h => h) (Or.inl ⟨by rfl, ?_⟩) (by assumption) ?_
  rotate_left
  focus ((intro w hSw; (try dsimp only at hSw); go_simp); (try with_reducible rfl))
  (try simp only [Act.put, List.setIfInBounds_toArray, List.set_cons_zero, List.set_cons_succ])
  refine wpAnyH_take (i := 28) (oi := { dst := some 75, op := _, type := _, pos := _, after := _, guard := _ }) (v := ?_) rfl (by kernel_rfl) (by kernel_rfl) (by kernel_rfl) (fun _ _ _ h => h) (Or.inl ⟨by rfl, ?_⟩) (by assumption) ?_
  rotate_left
  focus ((intro w hSw; (try dsimp only at hSw); go_simp); (try with_reducible rfl))
  (try simp only [Act.put, List.setIfInBounds_toArray, List.set_cons_zero, List.set_cons_succ])
  refine wpAnyH_take (i := 29) (oi := { dst := some 76, op := _, type := _, pos := _, after := _, guard := _ }) (v := ?_) rfl (by kernel_rfl) (by kernel_rfl) (by kernel_rfl) (fun _ _ _ h => h) (Or.inl ⟨by rfl, ?_⟩) (by assumption) ?_
  rotate_left
  focus ((intro w hSw; (try dsimp only at hSw); go_simp); (try with_reducible rfl))
  (try simp only [Act.put, List.setIfInBounds_toArray, List.set_cons_zero, List.set_cons_succ])
  refine wpAnyH_take (i := 30) (oi := { dst := some 77, op := _, type := _, pos := _, after := _, guard := _ }) (v := ?_) rfl (by kernel_rfl) (by kernel_rfl) (by kernel_rfl) (fun _ _ _ h => h) (Or.inl ⟨by rfl, ?_⟩) (by assumption) ?_
  rotate_left
  focus ((intro w hSw; (try dsimp only at hSw); go_simp); (try with_reducible rfl))
  (try simp only [Act.put, List.setIfInBounds_toArray, List.set_cons_zero, List.set_cons_succ])
  refine wpAnyH_take (i := 31) (oi := { dst := some 78, op := _, type := _, pos := _, after := _, guard := _ }) (v := ?_) rfl (by kernel_rfl) (by kernel_rfl) (by kernel_rfl) (fun _ _ _ h => h) (Or.inl ⟨by rfl, ?_⟩) (by assumption) ?_
  rotate_left
  focus ((intro w hSw; (try dsimp only at hSw); go_simp); (try with_reducible rfl))
  (try simp only [Act.put, List.setIfInBounds_toArray, List.set_cons_zero, List.set_cons_succ])
  refine wpAnyH_take (i := 32) (oi := { dst := some 79, op := _, type := _, pos := _, after := _, guard := _ }) (v := ?_) rfl (by kernel_rfl) (by kernel_rfl) (by kernel_rfl) (fun _ _ _ h => h) (Or.inl ⟨by rfl, ?_⟩) (by assumption) ?_
  rotate_left
  focus ((intro w hSw; (try dsimp only at hSw); go_simp); (try with_reducible rfl))
  (try simp only [Act.put, List.setIfInBounds_toArray, List.set_cons_zero, List.set_cons_succ])
  refine wpAnyH_take (i := 33) (oi := { dst := some 80, op := _, type := _, pos := _, after := _, guard := _ }) (v := ?_) rfl (by kernel_rfl) (by kernel_rfl) (by kernel_rfl) (fun _ _ _ h => h) (Or.inl ⟨by rfl, ?_⟩) (by assumption) ?_
  rotate_left
  focus ((intro w hSw; (try dsimp only at hSw); go_simp); (try with_reducible rfl))
  (try simp only [Act.put, List.setIfInBounds_toArray, List.set_cons_zero, List.set_cons_succ])
  refine wpAnyH_take (i := 34) (oi := { dst := some 81, op := _, type := _, pos := _, after := _, guard := _ }) (v := ?_) rfl (by kernel_rfl) (by kernel_rfl) (by kernel_rfl) (fun _ _ _ h => h) (Or.inl ⟨by rfl, ?_⟩) (by assumption) ?_
  rotate_left
  focus ((intro w hSw; (try dsimp only at hSw); go_simp); (try with_reducible rfl))
  (try simp only [Act.put, List.setIfInBounds_toArray, List.set_cons_zero, List.set_cons_succ])
  refine wpAnyH_take (i := 35) (oi := { dst := some 82, op := _, type := _, pos := _, after := _, guard := _ }) (v := ?_) rfl (by kernel_rfl) (by kernel_rfl) (by kernel_rfl) (fun _ _ _ h => h) (Or.inl ⟨by rfl, ?_⟩) (by assumption) ?_
  rotate_left
  focus ((intro w hSw; (try dsimp only at hSw); go_simp); (try with_reducible rfl))
  (try simp only [Act.put, List.setIfInBounds_toArray, List.set_cons_zero, List.set_cons_succ])
  refine wpAnyH_take (i := 36) (oi := { dst := some 83, op := _, type := _, pos := _, after := _, guard := _ }) (v := ?_) rfl (by kernel_rfl) (by kernel_rfl) (by kernel_rfl) (fun _ _ _ h => h) (Or.inl ⟨by rfl, ?_⟩) (by assumption) ?_
  rotate_left
  focus ((intro w hSw; (try dsimp only at hSw); go_simp); (try with_reducible rfl))
  (try simp only [Act.put, List.setIfInBounds_toArray, List.set_cons_zero, List.set_cons_succ])
  refine wpAnyH_take (i := 37) (oi := { dst := some 84, op := _, type := _, pos := _, after := _, guard := _ }) (v := ?_) rfl (by kernel_rfl) (by kernel_rfl) (by kernel_rfl) (fun _ _ _ h => h) (Or.inl ⟨by rfl, ?_⟩) (by assumption) ?_
  rotate_left
  focus ((intro w hSw; (try dsimp only at hSw); go_simp); (try with_reducible rfl))
  (try simp only [Act.put, List.setIfInBounds_toArray, List.set_cons_zero, List.set_cons_succ])
  refine wpAnyH_take (i := 38) (oi := { dst := some 85, op := _, type := _, pos := _, after := _, guard := _ }) (v := ?_) rfl (by kernel_rfl) (by kernel_rfl) (by kernel_rfl) (fun _ _ _ h => h) (Or.inl ⟨by rfl, ?_⟩) (by assumption) ?_
  rotate_left
  focus ((intro w hSw; (try dsimp only at hSw); go_simp); (try with_reducible rfl))
  (try simp only [Act.put, List.setIfInBounds_toArray, List.set_cons_zero, List.set_cons_succ])
  refine wpAnyH_take (i := 39) (oi := { dst := some 86, op := _, type := _, pos := _, after := _, guard := _ }) (v := ?_) rfl (by kernel_rfl) (by kernel_rfl) (by kernel_rfl) (fun _ _ _ h => h) (Or.inl ⟨by rfl, ?_⟩) (by assumption) ?_
  rotate_left
  focus ((intro w hSw; (try dsimp only at hSw); go_simp); (try with_reducible rfl))
  (try simp only [Act.put, List.setIfInBounds_toArray, List.set_cons_zero, List.set_cons_succ])
  refine wpAnyH_take (i := 40) (oi := { dst := some 87, op := _, type := _, pos := _, after := _, guard := _ }) (v := ?_) rfl (by kernel_rfl) (by kernel_rfl) (by kernel_rfl) (fun _ _ _ h => h) (Or.inl ⟨by rfl, ?_⟩) (by assumption) ?_
  rotate_left
  focus ((intro w hSw; (try dsimp only at hSw); go_simp); (try with_reducible rfl))
  (try simp only [Act.put, List.setIfInBounds_toArray, List.set_cons_zero, List.set_cons_succ])
  refine wpAnyH_ready (rs := [41]) (by kernel_rfl) (by simp) ?_
  refine AllReadyH.cons (o := { dst := some 88, op := _, type := _, pos := _, after := _, guard := _ }) rfl (fun K hK => ?_) AllReadyH.nil
  go_simp
  (go_at_call 21; refine (same_any gh A _ c _ b _ rfl rfl row (hr.later L) (by omega)).mono ?_; rintro e wX ⟨rfl, rfl⟩)
  refine hK.out _ _ ?_ (fun hHeld => ?_)
  · exact ⟨⟨⟨V.cell 0 _ rfl, V.cell 1 _ rfl, V.cell 2 _ rfl, X.cell 0 _ rfl, X.cell 1 _ rfl, X.cell 2 _ rfl, Y.cell 0 _ rfl, Y.cell 1 _ rfl, Y.cell 2 _ rfl⟩, conv_str P1 _ cp1 _ rfl _ _ r1⟩, conv_str P2 _ cp2 _ rfl _ _ r2⟩
  clear hK K
  (try simp only [Act.put, List.setIfInBounds_toArray, List.set_cons_zero, List.set_cons_succ])
  refine wpAnyH_take (i := 42) (oi := { dst := some 89, op := _, type := _, pos := _, after := _, guard := _ }) (v := ?_) rfl (by kernel_rfl) (by kernel_rfl) (by kernel_rfl) (fun _ _ _ h => h) (Or.inl ⟨by rfl, ?_⟩) (by assumption) ?_
  rotate_left
  focus ((intro w hSw; (try dsimp only at hSw); go_simp); (try with_reducible rfl))
  (try simp only [Act.put, List.setIfInBounds_toArray, List.set_cons_zero, List.set_cons_succ])
  refine wpAnyH_take (i := 43) (oi := { dst := some 90, op := _, type := _, pos := _, after := _, guard := _ }) (v := ?_) rfl (by kernel_rfl) (by kernel_rfl) (by kernel_rfl) (fun _ _ _ h => h) (Or.inl ⟨by rfl, ?_⟩) (by assumption) ?_
  rotate_left
  focus ((intro w hSw; (try dsimp only at hSw); go_simp); (try with_reducible rfl))
  (try simp only [Act.put, List.setIfInBounds_toArray, List.set_cons_zero, List.set_cons_succ])
  refine wpAnyH_done (by kernel_rfl) ?_ _
  have hcmp1 := valCmp_any t i s u j r
  have hcmp2 := refCmp_any t i s u j r
  have HC1 := Lib.hid hcmp1
  have HC2 := Lib.hid hcmp2
  clear hcmp1 hcmp2
  by_cases hma : MayV t i s.size
  · have e1 : tb (MayV t i s.size) = true := tb_yes hma
    by_cases hmc : MayV u j r.size
    · have e2 : tb (MayV u j r.size) = true := tb_yes hmc
      go_wp2_with fail
      have V := V.drew
      have U := U.drew
      have L := L.drew
      go_region_held3 (fun w' => w'.cell? ⟨w.heap.size, 0, none⟩ = some (.int .i64 t) ∧ w'.cell? ⟨w.heap.size, 1, none⟩ = some (.int .i64 i) ∧ w'.cell? ⟨w.heap.size, 2, none⟩ = some (.string s) ∧ w'.cell? ⟨w.heap.size + 1, 0, none⟩ = some (.int .i64 u) ∧ w'.cell? ⟨w.heap.size + 1, 1, none⟩ = some (.int .i64 j) ∧ w'.cell? ⟨w.heap.size + 1, 2, none⟩ = some (.string r)) (exact ⟨V.cell 0 _ rfl, V.cell 1 _ rfl, V.cell 2 _ rfl, U.cell 0 _ rfl, U.cell 1 _ rfl, U.cell 2 _ rfl⟩) (first
        | (go_at_call 16; refine (refMay_t _ _ _ _).mono ?_; rintro e wX ⟨rfl, lX⟩; (first | rw [e1] | rw [e2]); have V := V.later lX; have U := U.later lX; have L := L.trans lX; clear lX)
        | (go_at_call 22; refine (HC1.out _).mono ?_; rintro e wX ⟨rfl, lX⟩; have V := V.later lX; have U := U.later lX; have L := L.trans lX; clear lX)
        | (go_at_call 23; refine (HC2.out _).mono ?_; rintro e wX ⟨rfl, lX⟩; have V := V.later lX; have U := U.later lX; have L := L.trans lX; clear lX))
      all_goals go_wp2_with fail
      all_goals go_ret
      all_goals exact ⟨rfl, L⟩
    · have e2 : tb (MayV u j r.size) = false := tb_no hmc
      go_wp2_with fail
      have V := V.drew
      have U := U.drew
      have L := L.drew
      refine wp_region_held_drew (S := (fun w' => w'.cell? ⟨w.heap.size, 0, none⟩ = some (.int .i64 t) ∧ w'.cell? ⟨w.heap.size, 1, none⟩ = some (.int .i64 i) ∧ w'.cell? ⟨w.heap.size, 2, none⟩ = some (.string s) ∧ w'.cell? ⟨w.heap.size + 1, 0, none⟩ = some (.int .i64 u) ∧ w'.cell? ⟨w.heap.size + 1, 1, none⟩ = some (.int .i64 j) ∧ w'.cell? ⟨w.heap.size + 1, 2, none⟩ = some (.string r))) (by kernel_rfl) ?_ (fun hHeld => ?_)
      · exact ⟨V.cell 0 _ rfl, V.cell 1 _ rfl, V.cell 2 _ rfl, U.cell 0 _ rfl, U.cell 1 _ rfl, U.cell 2 _ rfl⟩
      refine wpAnyH_take (i := 0) (oi := { dst := some 91, op := _, type := _, pos := _, after := _, guard := _ }) (v := ?_) rfl (by kernel_rfl) (by kernel_rfl) (by kernel_rfl) (fun _ _ _ h => h) (Or.inl ⟨by rfl, ?_⟩) (by assumption) ?_
      rotate_left
      focus ((intro w hSw; (try dsimp only at hSw); go_simp); (try with_reducible rfl))
      (try simp only [Act.put, List.setIfInBounds_toArray, List.set_cons_zero, List.set_cons_succ])
      refine wpAnyH_ready (rs := [1]) (by kernel_rfl) (by simp) ?_
      refine AllReadyH.cons (o := { dst := some 92, op := _, type := _, pos := _, after := _, guard := _ }) rfl (fun K hK => ?_) AllReadyH.nil
      go_simp
      (go_at_call 16; refine (refMay_t _ _ _ _).mono ?_; rintro e wX ⟨rfl, lX⟩; rw [e1]; have V := V.later lX; have U := U.later lX; have L := L.trans lX; clear lX)
      refine hK.out _ _ ?_ (fun hHeld => ?_)
      · exact ⟨V.cell 0 _ rfl, V.cell 1 _ rfl, V.cell 2 _ rfl, U.cell 0 _ rfl, U.cell 1 _ rfl, U.cell 2 _ rfl⟩
      clear hK K
      (try simp only [Act.put, List.setIfInBounds_toArray, List.set_cons_zero, List.set_cons_succ])
      refine wpAnyH_take (i := 2) (oi := { dst := some 93, op := _, type := _, pos := _, after := _, guard := _ }) (v := ?_) rfl (by kernel_rfl) (by kernel_rfl) (by kernel_rfl) (fun _ _ _ h => h) (Or.inl ⟨by rfl, ?_⟩) (by assumption) ?_
      rotate_left
      focus ((intro w hSw; (try dsimp only at hSw); go_simp); (try with_reducible rfl))
      (try simp only [Act.put, List.setIfInBounds_toArray, List.set_cons_zero, List.set_cons_succ])
      refine wpAnyH_take (i := 3) (oi := { dst := some 94, op := _, type := _, pos := _, after := _, guard := _ }) (v := ?_) rfl (by kernel_rfl) (by kernel_rfl) (by kernel_rfl) (fun _ _ _ h => h) (Or.inl ⟨by rfl, ?_⟩) (by assumption) ?_
      rotate_left
      focus ((intro w hSw; (try dsimp only at hSw); go_simp); (try with_reducible rfl))
      (try simp only [Act.put, List.setIfInBounds_toArray, List.set_cons_zero, List.set_cons_succ])
      refine wpAnyH_take (i := 4) (oi := { dst := some 95, op := _, type := _, pos := _, after := _, guard := _ }) (v := ?_) rfl (by kernel_rfl) (by kernel_rfl) (by kernel_rfl) (fun _ _ _ h => h) (Or.inl ⟨by rfl, ?_⟩) (by assumption) ?_
      rotate_left
      focus ((intro w hSw; (try dsimp only at hSw); go_simp); (try with_reducible rfl))
      (try simp only [Act.put, List.setIfInBounds_toArray, List.set_cons_zero, List.set_cons_succ])
      refine wpAnyH_ready (rs := [5]) (by kernel_rfl) (by simp) ?_
      refine AllReadyH.cons (o := { dst := some 96, op := _, type := _, pos := _, after := _, guard := _ }) rfl (fun K hK => ?_) AllReadyH.nil
      go_simp
      (go_at_call 16; refine (refMay_t _ _ _ _).mono ?_; rintro e wX ⟨rfl, lX⟩; rw [e2]; have V := V.later lX; have U := U.later lX; have L := L.trans lX; clear lX)
      refine hK.out _ _ ?_ (fun hHeld => ?_)
      · exact ⟨V.cell 0 _ rfl, V.cell 1 _ rfl, V.cell 2 _ rfl, U.cell 0 _ rfl, U.cell 1 _ rfl, U.cell 2 _ rfl⟩
      clear hK K
      (try simp only [Act.put, List.setIfInBounds_toArray, List.set_cons_zero, List.set_cons_succ])
      refine wpAnyH_take (i := 6) (oi := { dst := some 97, op := _, type := _, pos := _, after := _, guard := _ }) (v := ?_) rfl (by kernel_rfl) (by kernel_rfl) (by kernel_rfl) (fun _ _ _ h => h) (Or.inl ⟨by rfl, ?_⟩) (by assumption) ?_
      rotate_left
      focus ((intro w hSw; (try dsimp only at hSw); go_simp); (try with_reducible rfl))
      (try simp only [Act.put, List.setIfInBounds_toArray, List.set_cons_zero, List.set_cons_succ])
      refine wpAnyH_take (i := 7) (oi := { dst := some 98, op := _, type := _, pos := _, after := _, guard := _ }) (v := ?_) rfl (by kernel_rfl) (by kernel_rfl) (by kernel_rfl) (fun _ _ _ h => h) (Or.inl ⟨by rfl, ?_⟩) (by assumption) ?_
      rotate_left
      focus ((intro w hSw; (try dsimp only at hSw); go_simp); (try with_reducible rfl))
      (try simp only [Act.put, List.setIfInBounds_toArray, List.set_cons_zero, List.set_cons_succ])
      refine wpAnyH_take (i := 8) (oi := { dst := some 99, op := _, type := _, pos := _, after := _, guard := _ }) (v := ?_) rfl (by kernel_rfl) (by kernel_rfl) (by kernel_rfl) (fun _ _ _ h => h) (Or.inl ⟨by rfl, ?_⟩) (by assumption) ?_
      rotate_left
      focus ((intro w hSw; (try dsimp only at hSw); go_simp); (try with_reducible rfl))
      (try simp only [Act.put, List.setIfInBounds_toArray, List.set_cons_zero, List.set_cons_succ])
      refine wpAnyH_take (i := 9) (oi := { dst := some 100, op := _, type := _, pos := _, after := _, guard := _ }) (v := undef) rfl (by kernel_rfl) (by kernel_rfl) (by kernel_rfl) (fun _ _ _ h => h) (Or.inr ⟨by rfl, rfl⟩) (by assumption) ?_
      (try simp only [Act.put, List.setIfInBounds_toArray, List.set_cons_zero, List.set_cons_succ])
      refine wpAnyH_take (i := 10) (oi := { dst := some 101, op := _, type := _, pos := _, after := _, guard := _ }) (v := undef) rfl (by kernel_rfl) (by kernel_rfl) (by kernel_rfl) (fun _ _ _ h => h) (Or.inr ⟨by rfl, rfl⟩) (by assumption) ?_
      (try simp only [Act.put, List.setIfInBounds_toArray, List.set_cons_zero, List.set_cons_succ])
      refine wpAnyH_take (i := 11) (oi := { dst := some 102, op := _, type := _, pos := _, after := _, guard := _ }) (v := undef) rfl (by kernel_rfl) (by kernel_rfl) (by kernel_rfl) (fun _ _ _ h => h) (Or.inr ⟨by rfl, rfl⟩) (by assumption) ?_
      (try simp only [Act.put, List.setIfInBounds_toArray, List.set_cons_zero, List.set_cons_succ])
      refine wpAnyH_take (i := 12) (oi := { dst := some 103, op := _, type := _, pos := _, after := _, guard := _ }) (v := undef) rfl (by kernel_rfl) (by kernel_rfl) (by kernel_rfl) (fun _ _ _ h => h) (Or.inr ⟨by rfl, rfl⟩) (by assumption) ?_
      (try simp only [Act.put, List.setIfInBounds_toArray, List.set_cons_zero, List.set_cons_succ])
      refine wpAnyH_take (i := 13) (oi := { dst := some 104, op := _, type := _, pos := _, after := _, guard := _ }) (v := undef) rfl (by kernel_rfl) (by kernel_rfl) (by kernel_rfl) (fun _ _ _ h => h) (Or.inr ⟨by rfl, rfl⟩) (by assumption) ?_
      (try simp only [Act.put, List.setIfInBounds_toArray, List.set_cons_zero, List.set_cons_succ])
      refine wpAnyH_take (i := 14) (oi := { dst := some 105, op := _, type := _, pos := _, after := _, guard := _ }) (v := undef) rfl (by kernel_rfl) (by kernel_rfl) (by kernel_rfl) (fun _ _ _ h => h) (Or.inr ⟨by rfl, rfl⟩) (by assumption) ?_
      (try simp only [Act.put, List.setIfInBounds_toArray, List.set_cons_zero, List.set_cons_succ])
      refine wpAnyH_take (i := 15) (oi := { dst := some 106, op := _, type := _, pos := _, after := _, guard := _ }) (v := undef) rfl (by kernel_rfl) (by kernel_rfl) (by kernel_rfl) (fun _ _ _ h => h) (Or.inr ⟨by rfl, rfl⟩) (by assumption) ?_
      (try simp only [Act.put, List.setIfInBounds_toArray, List.set_cons_zero, List.set_cons_succ])
      refine wpAnyH_take (i := 16) (oi := { dst := some 107, op := _, type := _, pos := _, after := _, guard := _ }) (v := ?_) rfl (by kernel_rfl) (by kernel_rfl) (by kernel_rfl) (fun _ _ _ h => h) (Or.inl ⟨by rfl, ?_⟩) (by assumption) ?_
      rotate_left
      focus ((intro w hSw; (try dsimp only at hSw); go_simp); (try with_reducible rfl))
      (try simp only [Act.put, List.setIfInBounds_toArray, List.set_cons_zero, List.set_cons_succ])
      refine wpAnyH_take (i := 17) (oi := { dst := some 8, op := _, type := _, pos := _, after := _, guard := _ }) (v := ?_) rfl (by kernel_rfl) (by kernel_rfl) (by kernel_rfl) (fun _ _ _ h => h) (Or.inl ⟨by rfl, ?_⟩) (by assumption) ?_
      rotate_left
      focus ((intro w hSw; (try dsimp only at hSw); go_simp); (try with_reducible rfl))
      (try simp only [Act.put, List.setIfInBounds_toArray, List.set_cons_zero, List.set_cons_succ])
      refine wpAnyH_done (by kernel_rfl) ?_ _
      go_wp2_with fail
      go_ret
      exact ⟨rfl, L⟩
  · have e1 : tb (MayV t i s.size) = false := tb_no hma
    go_wp2_with fail
    have V := V.drew
    have U := U.drew
    have L := L.drew
    refine wp_region_held_drew (S := (fun w' => w'.cell? ⟨w.heap.size, 0, none⟩ = some (.int .i64 t) ∧ w'.cell? ⟨w.heap.size, 1, none⟩ = some (.int .i64 i) ∧ w'.cell? ⟨w.heap.size, 2, none⟩ = some (.string s) ∧ w'.cell? ⟨w.heap.size + 1, 0, none⟩ = some (.int .i64 u) ∧ w'.cell? ⟨w.heap.size + 1, 1, none⟩ = some (.int .i64 j) ∧ w'.cell? ⟨w.heap.size + 1, 2, none⟩ = some (.string r))) (by kernel_rfl) ?_ (fun hHeld => ?_)
    · exact ⟨V.cell 0 _ rfl, V.cell 1 _ rfl, V.cell 2 _ rfl, U.cell 0 _ rfl, U.cell 1 _ rfl, U.cell 2 _ rfl⟩
    refine wpAnyH_take (i := 0) (oi := { dst := some 91, op := _, type := _, pos := _, after := _, guard := _ }) (v := ?_) rfl (by kernel_rfl) (by kernel_rfl) (by kernel_rfl) (fun _ _ _ h => h) (Or.inl ⟨by rfl, ?_⟩) (by assumption) ?_
    rotate_left
    focus ((intro w hSw; (try dsimp only at hSw); go_simp); (try with_reducible rfl))
    (try simp only [Act.put, List.setIfInBounds_toArray, List.set_cons_zero, List.set_cons_succ])
    refine wpAnyH_ready (rs := [1]) (by kernel_rfl) (by simp) ?_
    refine AllReadyH.cons (o := { dst := some 92, op := _, type := _, pos := _, after := _, guard := _ }) rfl (fun K hK => ?_) AllReadyH.nil
    go_simp
    (go_at_call 16; refine (refMay_t _ _ _ _).mono ?_; rintro e wX ⟨rfl, lX⟩; rw [e1]; have V := V.later lX; have U := U.later lX; have L := L.trans lX; clear lX)
    refine hK.out _ _ ?_ (fun hHeld => ?_)
    · exact ⟨V.cell 0 _ rfl, V.cell 1 _ rfl, V.cell 2 _ rfl, U.cell 0 _ rfl, U.cell 1 _ rfl, U.cell 2 _ rfl⟩
    clear hK K
    (try simp only [Act.put, List.setIfInBounds_toArray, List.set_cons_zero, List.set_cons_succ])
    refine wpAnyH_take (i := 2) (oi := { dst := some 93, op := _, type := _, pos := _, after := _, guard := _ }) (v := ?_) rfl (by kernel_rfl) (by kernel_rfl) (by kernel_rfl) (fun _ _ _ h => h) (Or.inl ⟨by rfl, ?_⟩) (by assumption) ?_
    rotate_left
    focus ((intro w hSw; (try dsimp only at hSw); go_simp); (try with_reducible rfl))
    (try simp only [Act.put, List.setIfInBounds_toArray, List.set_cons_zero, List.set_cons_succ])
    refine wpAnyH_take (i := 3) (oi := { dst := some 94, op := _, type := _, pos := _, after := _, guard := _ }) (v := ?_) rfl (by kernel_rfl) (by kernel_rfl) (by kernel_rfl) (fun _ _ _ h => h) (Or.inl ⟨by rfl, ?_⟩) (by assumption) ?_
    rotate_left
    focus ((intro w hSw; (try dsimp only at hSw); go_simp); (try with_reducible rfl))
    (try simp only [Act.put, List.setIfInBounds_toArray, List.set_cons_zero, List.set_cons_succ])
    refine wpAnyH_take (i := 4) (oi := { dst := some 95, op := _, type := _, pos := _, after := _, guard := _ }) (v := undef) rfl (by kernel_rfl) (by kernel_rfl) (by kernel_rfl) (fun _ _ _ h => h) (Or.inr ⟨by rfl, rfl⟩) (by assumption) ?_
    (try simp only [Act.put, List.setIfInBounds_toArray, List.set_cons_zero, List.set_cons_succ])
    refine wpAnyH_take (i := 5) (oi := { dst := some 96, op := _, type := _, pos := _, after := _, guard := _ }) (v := undef) rfl (by kernel_rfl) (by kernel_rfl) (by kernel_rfl) (fun _ _ _ h => h) (Or.inr ⟨by rfl, rfl⟩) (by assumption) ?_
    (try simp only [Act.put, List.setIfInBounds_toArray, List.set_cons_zero, List.set_cons_succ])
    refine wpAnyH_take (i := 6) (oi := { dst := some 97, op := _, type := _, pos := _, after := _, guard := _ }) (v := undef) rfl (by kernel_rfl) (by kernel_rfl) (by kernel_rfl) (fun _ _ _ h => h) (Or.inr ⟨by rfl, rfl⟩) (by assumption) ?_
    (try simp only [Act.put, List.setIfInBounds_toArray, List.set_cons_zero, List.set_cons_succ])
    refine wpAnyH_take (i := 7) (oi := { dst := some 98, op := _, type := _, pos := _, after := _, guard := _ }) (v := ?_) rfl (by kernel_rfl) (by kernel_rfl) (by kernel_rfl) (fun _ _ _ h => h) (Or.inl ⟨by rfl, ?_⟩) (by assumption) ?_
    rotate_left
    focus ((intro w hSw; (try dsimp only at hSw); go_simp); (try with_reducible rfl))
    (try simp only [Act.put, List.setIfInBounds_toArray, List.set_cons_zero, List.set_cons_succ])
    refine wpAnyH_take (i := 8) (oi := { dst := some 99, op := _, type := _, pos := _, after := _, guard := _ }) (v := ?_) rfl (by kernel_rfl) (by kernel_rfl) (by kernel_rfl) (fun _ _ _ h => h) (Or.inl ⟨by rfl, ?_⟩) (by assumption) ?_
    rotate_left
    focus ((intro w hSw; (try dsimp only at hSw); go_simp); (try with_reducible rfl))
    (try simp only [Act.put, List.setIfInBounds_toArray, List.set_cons_zero, List.set_cons_succ])
    refine wpAnyH_take (i := 9) (oi := { dst := some 100, op := _, type := _, pos := _, after := _, guard := _ }) (v := undef) rfl (by kernel_rfl) (by kernel_rfl) (by kernel_rfl) (fun _ _ _ h => h) (Or.inr ⟨by rfl, rfl⟩) (by assumption) ?_
    (try simp only [Act.put, List.setIfInBounds_toArray, List.set_cons_zero, List.set_cons_succ])
    refine wpAnyH_take (i := 10) (oi := { dst := some 101, op := _, type := _, pos := _, after := _, guard := _ }) (v := undef) rfl (by kernel_rfl) (by kernel_rfl) (by kernel_rfl) (fun _ _ _ h => h) (Or.inr ⟨by rfl, rfl⟩) (by assumption) ?_
    (try simp only [Act.put, List.setIfInBounds_toArray, List.set_cons_zero, List.set_cons_succ])
    refine wpAnyH_take (i := 11) (oi := { dst := some 102, op := _, type := _, pos := _, after := _, guard := _ }) (v := undef) rfl (by kernel_rfl) (by kernel_rfl) (by kernel_rfl) (fun _ _ _ h => h) (Or.inr ⟨by rfl, rfl⟩) (by assumption) ?_
    (try simp only [Act.put, List.setIfInBounds_toArray, List.set_cons_zero, List.set_cons_succ])
    refine wpAnyH_take (i := 12) (oi := { dst := some 103, op := _, type := _, pos := _, after := _, guard := _ }) (v := undef) rfl (by kernel_rfl) (by kernel_rfl) (by kernel_rfl) (fun _ _ _ h => h) (Or.inr ⟨by rfl, rfl⟩) (by assumption) ?_
    (try simp only [Act.put, List.setIfInBounds_toArray, List.set_cons_zero, List.set_cons_succ])
    refine wpAnyH_take (i := 13) (oi := { dst := some 104, op := _, type := _, pos := _, after := _, guard := _ }) (v := undef) rfl (by kernel_rfl) (by kernel_rfl) (by kernel_rfl) (fun _ _ _ h => h) (Or.inr ⟨by rfl, rfl⟩) (by assumption) ?_
    (try simp only [Act.put, List.setIfInBounds_toArray, List.set_cons_zero, List.set_cons_succ])
    refine wpAnyH_take (i := 14) (oi := { dst := some 105, op := _, type := _, pos := _, after := _, guard := _ }) (v := undef) rfl (by kernel_rfl) (by kernel_rfl) (by kernel_rfl) (fun _ _ _ h => h) (Or.inr ⟨by rfl, rfl⟩) (by assumption) ?_
    (try simp only [Act.put, List.setIfInBounds_toArray, List.set_cons_zero, List.set_cons_succ])
    refine wpAnyH_take (i := 15) (oi := { dst := some 106, op := _, type := _, pos := _, after := _, guard := _ }) (v := undef) rfl (by kernel_rfl) (by kernel_rfl) (by kernel_rfl) (fun _ _ _ h => h) (Or.inr ⟨by rfl, rfl⟩) (by assumption) ?_
    (try simp only [Act.put, List.setIfInBounds_toArray, List.set_cons_zero, List.set_cons_succ])
    refine wpAnyH_take (i := 16) (oi := { dst := some 107, op := _, type := _, pos := _, after := _, guard := _ }) (v := ?_) rfl (by kernel_rfl) (by kernel_rfl) (by kernel_rfl) (fun _ _ _ h => h) (Or.inl ⟨by rfl, ?_⟩) (by assumption) ?_
    rotate_left
    focus ((intro w hSw; (try dsimp only at hSw); go_simp); (try with_reducible rfl))
    (try simp only [Act.put, List.setIfInBounds_toArray, List.set_cons_zero, List.set_cons_succ])
    refine wpAnyH_take (i := 17) (oi := { dst := some 8, op := _, type := _, pos := _, after := _, guard := _ }) (v := ?_) rfl (by kernel_rfl) (by kernel_rfl) (by kernel_rfl) (fun _ _ _ h => h) (Or.inl ⟨by rfl, ?_⟩) (by assumption) ?_
    rotate_left
    focus ((intro w hSw; (try dsimp only at hSw); go_simp); (try with_reducible rfl))
    (try simp only [Act.put, List.setIfInBounds_toArray, List.set_cons_zero, List.set_cons_succ])
    refine wpAnyH_done (by kernel_rfl) ?_ _
    go_wp2_with fail
    go_ret
    exact ⟨rfl, L⟩
end Go.Proofs.YtbmlipandjbbbaaDoor
