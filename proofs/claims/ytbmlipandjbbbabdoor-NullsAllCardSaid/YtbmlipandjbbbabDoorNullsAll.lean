/- The walk of NullsAll. -/
import Derived.Test.YtbmlipandjbbbabDoorRefNullsT
import Derived.Test.YtbmlipandjbbbabDoorHand
import Derived.Test.YtbmlipandjbbbabDoorTurn
namespace Go.Proofs.YtbmlipandjbbbabDoor
open Go.RowKit
set_option linter.unusedVariables false

theorem nullsPut_e (A : Option Addr) (n c : Nat) (l : List Bool) (w : World) (hn : n = l.length) (hr : Has w A (bools l)) (hl : l.length ≤ 1000000) :
    Calls Tryd.prog 10 #[.slice A n c] w fun e w' => ∃ g, e = .returned (.slice (some ⟨g, 0, none⟩) ((l.length + 7) / 8) ((l.length + 7) / 8)) ∧ Row w' g 5 .u8 (packN l) ∧ Later w w' :=
  (nullsPut_any A n c l w hn hr hl).mono fun e w' h => ⟨_, h⟩

set_option maxRecDepth 100000 in
theorem nullsAll_long (A : Option Addr) (n c : Nat) (B : Option Addr) (m cb : Nat) (k : Int) (aB aS : Addr) (w : World) (hs : Sn w aB aS) (h : 60 < n ∨ 20 < m) :
    Calls Tryd.prog 3 #[.slice A n c, .slice B m cb, .int .i64 k] w fun e w' => e = .returned (.bool true) ∧ Later w w' := by
  have h2 : 60 < n ∨ (n ≤ 60 ∧ 20 < m) := by omega
  clear h
  rcases h2 with h | ⟨h, h2⟩
  all_goals
    go_enter Tryd.func3, Tryd.ntmps3
    go_wp2_with fail
    refine (begun4_any aB aS w hs).mono ?_
    rintro e w1 ⟨rfl, l1⟩
    go_wp2_with fail
    go_ret
    exact ⟨rfl, l1⟩

set_option maxRecDepth 100000 in
set_option maxHeartbeats 4000000 in
theorem nullsAll_walk (A : Option Addr) (c : Nat) (l : List Bool) (B : Option Addr) (cb : Nat) (b : List Nat) (n : Int) (aB aS : Addr) (w : World) (hs : Sn w aB aS) (hr : Has w A (bools l)) (hl : l.length ≤ 60) (hrb : Has w B (ints .u8 b)) (h256 : ∀ x ∈ b, x < 256) (hb : b.length ≤ 20) :
    Calls Tryd.prog 3 #[.slice A l.length c, .slice B b.length cb, .int .i64 n] w fun e w' => e = .returned (.bool true) ∧ Later w w' := by
  go_enter Tryd.func3, Tryd.ntmps3
  go_wp2_with fail
  refine (begun4_any aB aS w hs).mono ?_
  rintro e w1 ⟨rfl, L⟩
  go_wp2_with fail
  refine (handed_any B b.length cb b w1 rfl (hrb.later L) (by omega)).mono ?_
  rintro e w2 ⟨rfl, row, l2⟩
  have lh : Later w1 w2 := l2
  have L := L.trans lh
  have R2 : Has w2 (some ⟨w1.heap.size, 0, none⟩) (ints .u8 b) := by
    have h := row.rd.take b.length
    rw [ints_take, List.take_left] at h
    exact h
  obtain ⟨gh, hgh⟩ : ∃ gh, gh = w1.heap.size := ⟨_, rfl⟩
  rw [← hgh] at row R2 ⊢
  clear l2 lh hgh
  go_wp2_with fail
  refine (nullsTake_any (some ⟨gh, 0, none⟩) b.length (b.length + 5) b n aB aS w2 rfl (hs.later L) R2 h256).mono ?_
  intro e w3 h
  obtain ⟨AX, cx, rfl, X, l3⟩ := h.any
  have L := L.trans l3
  have row := l3.row row
  clear h l3 R2
  go_wp2_with fail
  refine (refTakeNulls_any B b.length cb b n w3 rfl (by omega) (hrb.later L) h256).mono ?_
  intro e w4 h
  obtain ⟨AY, cy, rfl, Y, l4⟩ := h.any
  have L := L.trans l4
  have row := l4.row row
  have X := X.later l4
  obtain ⟨xs, hxs⟩ : ∃ xs, xs = (takeN b n).getD [] := ⟨_, rfl⟩
  obtain ⟨ok, hok⟩ : ∃ ok, ok = (takeN b n).isSome := ⟨_, rfl⟩
  have hxl : xs.length ≤ 1000 := by
    rw [hxs]; unfold takeN
    split
    · rw [Option.getD_some, bitsL_length]; omega
    · decide
  rw [← hxs] at X Y ⊢
  rw [← hok]
  clear h l4 hxs hok
  go_wp2_with fail
  have L := L.drew
  have row := row.drew
  have X : Has w4.drew AX (bools xs) := X
  have Y : Has w4.drew AY (bools xs) := Y
  refine wp_region_held_drew (S := (fun _ => True)) (by kernel_rfl) ?_ (fun hHeld => ?_)
  · exact trivial
  refine wpAnyH_take (i := 0) (oi := { dst := some 39, op := _, type := _, pos := _, after := _, guard := _ }) (v := ?_) rfl (by kernel_rfl) (by kernel_rfl) (by kernel_rfl) (fun _ _ _ h => h) (Or.inl ⟨by rfl, ?_⟩) (by assumption) ?_
  rotate_left
  focus ((intro w hSw; (try dsimp only at hSw); go_simp); (try with_reducible rfl))
  (try simp only [Act.put, List.setIfInBounds_toArray, List.set_cons_zero, List.set_cons_succ])
  refine wpAnyH_take (i := 3) (oi := { dst := some 42, op := _, type := _, pos := _, after := _, guard := _ }) (v := ?_) rfl (by kernel_rfl) (by kernel_rfl) (by kernel_rfl) (fun _ _ _ h => h) (Or.inl ⟨by rfl, ?_⟩) (by assumption) ?_
  rotate_left
  focus ((intro w hSw; (try dsimp only at hSw); go_simp); (try with_reducible rfl))
  (try simp only [Act.put, List.setIfInBounds_toArray, List.set_cons_zero, List.set_cons_succ])
  refine wpAnyH_ready (rs := [1]) (by kernel_rfl) (by simp) ?_
  refine AllReadyH.cons (o := { dst := some 40, op := _, type := _, pos := _, after := _, guard := _ }) rfl (fun K hK => ?_) AllReadyH.nil
  go_simp
  (go_at_call 10; refine (nullsPut_e A _ c l _ rfl (hr.later L) (by omega)).mono ?_; rintro e wX ⟨g1, rfl, r1, lX⟩; have row := lX.row row; have X := X.later lX; have Y := Y.later lX; have L := L.trans lX; clear lX)
  refine hK.out _ _ ?_ (fun hHeld => ?_)
  · exact trivial
  clear hK K
  (try simp only [Act.put, List.setIfInBounds_toArray, List.set_cons_zero, List.set_cons_succ])
  refine wpAnyH_turn (S' := (fun w' => True ∧ (convert 23 9 (.slice (some ⟨g1, 0, none⟩) ((l.length + 7) / 8) ((l.length + 7) / 8))).run Tryd.prog w' = .ok (.string (bstr (packN l))) w')) (fun _ h => h.1) ?_
  have hHeld : (fun w' => True ∧ (convert 23 9 (.slice (some ⟨g1, 0, none⟩) ((l.length + 7) / 8) ((l.length + 7) / 8))).run Tryd.prog w' = .ok (.string (bstr (packN l))) w') wX := by exact ⟨trivial, conv_str (some ⟨g1, 0, none⟩) _ _ (packN l) (packN_length l).symm _ _ (Has.row r1)⟩
  refine wpAnyH_take (i := 2) (oi := { dst := some 41, op := _, type := _, pos := _, after := _, guard := _ }) (v := ?_) rfl (by kernel_rfl) (by kernel_rfl) (by kernel_rfl) (fun _ _ _ h => h) (Or.inl ⟨by rfl, ?_⟩) (by assumption) ?_
  rotate_left
  focus ((intro w hSw; (try dsimp only at hSw); go_simp); (try with_reducible rfl))
  (try simp only [Act.put, List.setIfInBounds_toArray, List.set_cons_zero, List.set_cons_succ])
  refine wpAnyH_ready (rs := [4]) (by kernel_rfl) (by simp) ?_
  refine AllReadyH.cons (o := { dst := some 43, op := _, type := _, pos := _, after := _, guard := _ }) rfl (fun K hK => ?_) AllReadyH.nil
  go_simp
  (go_at_call 11; refine (refPutNulls_any A _ c l _ rfl (hr.later L) (by omega)).mono ?_; rintro e wX ⟨g2, rfl, r2, lX⟩; have row := lX.row row; have X := X.later lX; have Y := Y.later lX; have L := L.trans lX; have r1 := lX.row r1; clear lX)
  refine hK.out _ _ ?_ (fun hHeld => ?_)
  · exact ⟨trivial, conv_str (some ⟨g1, 0, none⟩) _ _ (packN l) (packN_length l).symm _ _ (Has.row r1)⟩
  clear hK K
  (try simp only [Act.put, List.setIfInBounds_toArray, List.set_cons_zero, List.set_cons_succ])
  refine wpAnyH_turn (S' := (fun w' => (True ∧ (convert 23 9 (.slice (some ⟨g1, 0, none⟩) ((l.length + 7) / 8) ((l.length + 7) / 8))).run Tryd.prog w' = .ok (.string (bstr (packN l))) w') ∧ (convert 23 9 (.slice (some ⟨g2, 0, none⟩) ((l.length + 7) / 8) ((l.length + 7) / 8))).run Tryd.prog w' = .ok (.string (bstr (packN l))) w')) (fun _ h => h.1) ?_
  have hHeld : (fun w' => (True ∧ (convert 23 9 (.slice (some ⟨g1, 0, none⟩) ((l.length + 7) / 8) ((l.length + 7) / 8))).run Tryd.prog w' = .ok (.string (bstr (packN l))) w') ∧ (convert 23 9 (.slice (some ⟨g2, 0, none⟩) ((l.length + 7) / 8) ((l.length + 7) / 8))).run Tryd.prog w' = .ok (.string (bstr (packN l))) w') wX := by exact ⟨⟨trivial, conv_str (some ⟨g1, 0, none⟩) _ _ (packN l) (packN_length l).symm _ _ (Has.row r1)⟩, conv_str (some ⟨g2, 0, none⟩) _ _ (packN l) (packN_length l).symm _ _ (Has.row r2)⟩
  refine wpAnyH_take (i := 5) (oi := { dst := some 44, op := _, type := _, pos := _, after := _, guard := _ }) (v := ?_) rfl (by kernel_rfl) (by kernel_rfl) (by kernel_rfl) (fun _ _ _ h => h) (Or.inl ⟨by rfl, ?_⟩) (by assumption) ?_
  rotate_left
  focus ((intro w hSw; (try dsimp only at hSw); go_simp); (try with_reducible rfl))
  (try simp only [Act.put, List.setIfInBounds_toArray, List.set_cons_zero, List.set_cons_succ])
  refine wpAnyH_take (i := 6) (oi := { dst := some 45, op := _, type := _, pos := _, after := _, guard := _ }) (v := ?_) rfl (by kernel_rfl) (by kernel_rfl) (by kernel_rfl) (fun _ _ _ h => h) (Or.inl ⟨by rfl, ?_⟩) (by assumption) ?_
  rotate_left
  focus ((intro w hSw; (try dsimp only at hSw); go_simp); (try with_reducible rfl))
  (try simp only [Act.put, List.setIfInBounds_toArray, List.set_cons_zero, List.set_cons_succ])
  refine wpAnyH_take (i := 7) (oi := { dst := some 46, op := _, type := _, pos := _, after := _, guard := _ }) (v := ?_) rfl (by kernel_rfl) (by kernel_rfl) (by kernel_rfl) (fun _ _ _ h => h) (Or.inl ⟨by rfl, ?_⟩) (by assumption) ?_
  rotate_left
  focus ((intro w hSw; (try dsimp only at hSw); go_simp); (try with_reducible rfl))
  (try simp only [Act.put, List.setIfInBounds_toArray, List.set_cons_zero, List.set_cons_succ])
  refine wpAnyH_take (i := 8) (oi := { dst := some 47, op := _, type := _, pos := _, after := _, guard := _ }) (v := ?_) rfl (by kernel_rfl) (by kernel_rfl) (by kernel_rfl) (fun _ _ _ h => h) (Or.inl ⟨by rfl, ?_⟩) (by assumption) ?_
  rotate_left
  focus ((intro w hSw; (try dsimp only at hSw); go_simp); (try with_reducible rfl))
  (try simp only [Act.put, List.setIfInBounds_toArray, List.set_cons_zero, List.set_cons_succ])
  refine wpAnyH_take (i := 9) (oi := { dst := some 48, op := _, type := _, pos := _, after := _, guard := _ }) (v := ?_) rfl (by kernel_rfl) (by kernel_rfl) (by kernel_rfl) (fun _ _ _ h => h) (Or.inl ⟨by rfl, ?_⟩) (by assumption) ?_
  rotate_left
  focus ((intro w hSw; (try dsimp only at hSw); go_simp); (try with_reducible rfl))
  (try simp only [Act.put, List.setIfInBounds_toArray, List.set_cons_zero, List.set_cons_succ])
  refine wpAnyH_take (i := 10) (oi := { dst := some 49, op := _, type := _, pos := _, after := _, guard := _ }) (v := ?_) rfl (by kernel_rfl) (by kernel_rfl) (by kernel_rfl) (fun _ _ _ h => h) (Or.inl ⟨by rfl, ?_⟩) (by assumption) ?_
  rotate_left
  focus ((intro w hSw; (try dsimp only at hSw); go_simp); (try with_reducible rfl))
  (try simp only [Act.put, List.setIfInBounds_toArray, List.set_cons_zero, List.set_cons_succ])
  refine wpAnyH_take (i := 11) (oi := { dst := some 50, op := _, type := _, pos := _, after := _, guard := _ }) (v := ?_) rfl (by kernel_rfl) (by kernel_rfl) (by kernel_rfl) (fun _ _ _ h => h) (Or.inl ⟨by rfl, ?_⟩) (by assumption) ?_
  rotate_left
  focus ((intro w hSw; (try dsimp only at hSw); go_simp); (try with_reducible rfl))
  (try simp only [Act.put, List.setIfInBounds_toArray, List.set_cons_zero, List.set_cons_succ])
  refine wpAnyH_take (i := 12) (oi := { dst := some 51, op := _, type := _, pos := _, after := _, guard := _ }) (v := ?_) rfl (by kernel_rfl) (by kernel_rfl) (by kernel_rfl) (fun _ _ _ h => h) (Or.inl ⟨by rfl, ?_⟩) (by assumption) ?_
  rotate_left
  focus ((intro w hSw; (try dsimp only at hSw); go_simp); (try with_reducible rfl))
  (try simp only [Act.put, List.setIfInBounds_toArray, List.set_cons_zero, List.set_cons_succ])
  refine wpAnyH_take (i := 13) (oi := { dst := some 52, op := _, type := _, pos := _, after := _, guard := _ }) (v := ?_) rfl (by kernel_rfl) (by kernel_rfl) (by kernel_rfl) (fun _ _ _ h => h) (Or.inl ⟨by rfl, ?_⟩) (by assumption) ?_
  rotate_left
  focus ((intro w hSw; (try dsimp only at hSw); go_simp); (try with_reducible rfl))
  (try simp only [Act.put, List.setIfInBounds_toArray, List.set_cons_zero, List.set_cons_succ])
  refine wpAnyH_take (i := 14) (oi := { dst := some 53, op := _, type := _, pos := _, after := _, guard := _ }) (v := ?_) rfl (by kernel_rfl) (by kernel_rfl) (by kernel_rfl) (fun _ _ _ h => h) (Or.inl ⟨by rfl, ?_⟩) (by assumption) ?_
  rotate_left
  focus ((intro w hSw; (try dsimp only at hSw); go_simp); (try with_reducible rfl))
  (try simp only [Act.put, List.setIfInBounds_toArray, List.set_cons_zero, List.set_cons_succ])
  refine wpAnyH_take (i := 15) (oi := { dst := some 54, op := _, type := _, pos := _, after := _, guard := _ }) (v := ?_) rfl (by kernel_rfl) (by kernel_rfl) (by kernel_rfl) (fun _ _ _ h => h) (Or.inl ⟨by rfl, ?_⟩) (by assumption) ?_
  rotate_left
  focus ((intro w hSw; (try dsimp only at hSw); go_simp); (try with_reducible rfl))
  (try simp only [Act.put, List.setIfInBounds_toArray, List.set_cons_zero, List.set_cons_succ])
  refine wpAnyH_take (i := 16) (oi := { dst := some 55, op := _, type := _, pos := _, after := _, guard := _ }) (v := ?_) rfl (by kernel_rfl) (by kernel_rfl) (by kernel_rfl) (fun _ _ _ h => h) (Or.inl ⟨by rfl, ?_⟩) (by assumption) ?_
  rotate_left
  focus ((intro w hSw; (try dsimp only at hSw); go_simp); (try with_reducible rfl))
  (try simp only [Act.put, List.setIfInBounds_toArray, List.set_cons_zero, List.set_cons_succ])
  refine wpAnyH_take (i := 17) (oi := { dst := some 56, op := _, type := _, pos := _, after := _, guard := _ }) (v := ?_) rfl (by kernel_rfl) (by kernel_rfl) (by kernel_rfl) (fun _ _ _ h => h) (Or.inl ⟨by rfl, ?_⟩) (by assumption) ?_
  rotate_left
  focus ((intro w hSw; (try dsimp only at hSw); go_simp); (try with_reducible rfl))
  (try simp only [Act.put, List.setIfInBounds_toArray, List.set_cons_zero, List.set_cons_succ])
  refine wpAnyH_take (i := 18) (oi := { dst := some 57, op := _, type := _, pos := _, after := _, guard := _ }) (v := ?_) rfl (by kernel_rfl) (by kernel_rfl) (by kernel_rfl) (fun _ _ _ h => h) (Or.inl ⟨by rfl, ?_⟩) (by assumption) ?_
  rotate_left
  focus ((intro w hSw; (try dsimp only at hSw); go_simp); (try with_reducible rfl))
  (try simp only [Act.put, List.setIfInBounds_toArray, List.set_cons_zero, List.set_cons_succ])
  refine wpAnyH_take (i := 19) (oi := { dst := some 58, op := _, type := _, pos := _, after := _, guard := _ }) (v := ?_) rfl (by kernel_rfl) (by kernel_rfl) (by kernel_rfl) (fun _ _ _ h => h) (Or.inl ⟨by rfl, ?_⟩) (by assumption) ?_
  rotate_left
  focus ((intro w hSw; (try dsimp only at hSw); go_simp); (try with_reducible rfl))
  (try simp only [Act.put, List.setIfInBounds_toArray, List.set_cons_zero, List.set_cons_succ])
  refine wpAnyH_take (i := 20) (oi := { dst := some 59, op := _, type := _, pos := _, after := _, guard := _ }) (v := ?_) rfl (by kernel_rfl) (by kernel_rfl) (by kernel_rfl) (fun _ _ _ h => h) (Or.inl ⟨by rfl, ?_⟩) (by assumption) ?_
  rotate_left
  focus ((intro w hSw; (try dsimp only at hSw); go_simp); (try with_reducible rfl))
  (try simp only [Act.put, List.setIfInBounds_toArray, List.set_cons_zero, List.set_cons_succ])
  refine wpAnyH_take (i := 21) (oi := { dst := some 60, op := _, type := _, pos := _, after := _, guard := _ }) (v := ?_) rfl (by kernel_rfl) (by kernel_rfl) (by kernel_rfl) (fun _ _ _ h => h) (Or.inl ⟨by rfl, ?_⟩) (by assumption) ?_
  rotate_left
  focus ((intro w hSw; (try dsimp only at hSw); go_simp); (try with_reducible rfl))
  (try simp only [Act.put, List.setIfInBounds_toArray, List.set_cons_zero, List.set_cons_succ])
  refine wpAnyH_ready (rs := [22]) (by kernel_rfl) (by simp) ?_
  refine AllReadyH.cons (o := { dst := some 61, op := _, type := _, pos := _, after := _, guard := _ }) rfl (fun K hK => ?_) AllReadyH.nil
  go_simp
  (go_at_call 12; refine (same_any gh B _ cb _ b _ rfl rfl row (hrb.later L) (by omega)).mono ?_; rintro e wX ⟨rfl, rfl⟩)
  refine hK.out _ _ ?_ (fun hHeld => ?_)
  · exact ⟨⟨trivial, conv_str (some ⟨g1, 0, none⟩) _ _ (packN l) (packN_length l).symm _ _ (Has.row r1)⟩, conv_str (some ⟨g2, 0, none⟩) _ _ (packN l) (packN_length l).symm _ _ (Has.row r2)⟩
  clear hK K
  (try simp only [Act.put, List.setIfInBounds_toArray, List.set_cons_zero, List.set_cons_succ])
  refine wpAnyH_take (i := 23) (oi := { dst := some 62, op := _, type := _, pos := _, after := _, guard := _ }) (v := ?_) rfl (by kernel_rfl) (by kernel_rfl) (by kernel_rfl) (fun _ _ _ h => h) (Or.inl ⟨by rfl, ?_⟩) (by assumption) ?_
  rotate_left
  focus ((intro w hSw; (try dsimp only at hSw); go_simp); (try with_reducible rfl))
  (try simp only [Act.put, List.setIfInBounds_toArray, List.set_cons_zero, List.set_cons_succ])
  refine wpAnyH_take (i := 24) (oi := { dst := some 63, op := _, type := _, pos := _, after := _, guard := _ }) (v := ?_) rfl (by kernel_rfl) (by kernel_rfl) (by kernel_rfl) (fun _ _ _ h => h) (Or.inl ⟨by rfl, ?_⟩) (by assumption) ?_
  rotate_left
  focus ((intro w hSw; (try dsimp only at hSw); go_simp); (try with_reducible rfl))
  (try simp only [Act.put, List.setIfInBounds_toArray, List.set_cons_zero, List.set_cons_succ])
  refine wpAnyH_done (by kernel_rfl) ?_ _
  go_wp2_with fail
  have W0 := L
  go_loopw [12] (fun i wr => ∃ k : Nat, k ≤ xs.length ∧ i = .int .i64 k ∧ Later wX wr) (fun i _ => xs.length - (intOf i).toNat)
  case atStart => exact ⟨0, Nat.zero_le _, rfl, Later.refl _⟩
  case round =>
    obtain ⟨k, hk, rfl, hlat⟩ := hrel
    by_cases hlt : k < xs.length
    · obtain ⟨b1, o1, hA1, _, hc⟩ := (X.later hlat).rd.at_ (k := k) (by rw [bools_length]; exact hlt)
      have hc1 : wr.cell? ⟨b1, o1 + k, none⟩ = some (.bool xs[k]) := by rw [hc]; simp [bools]
      obtain ⟨b2, o2, hA2, _, hd⟩ := (Y.later hlat).rd.at_ (k := k) (by rw [bools_length]; exact hlt)
      have hd1 : wr.cell? ⟨b2, o2 + k, none⟩ = some (.bool xs[k]) := by rw [hd]; simp [bools]
      subst hA1 hA2
      obtain ⟨x, hx⟩ : ∃ x, x = xs[k] := ⟨_, rfl⟩
      rw [← hx] at hc1 hd1
      have hki : (k : Int) < (xs.length : Int) := by omega
      have hxx : (x != x) = false := by simp
      clear hc hd hx
      go_wp2_with fail
      go_quiet (fail)
      go_wp2_with fail
      go_roundw
      case rel => exact ⟨k + 1, by omega, by go_num, hlat.drewN _⟩
      case measure => simp [intOf]; omega
    · obtain rfl : k = xs.length := by omega
      have L2 := L.trans hlat
      clear hlat
      go_wp2_with fail
      go_loopw [13, 14] (fun s i wr' => ∃ k u : Nat, k ≤ l.length ∧ i = .int .i64 k ∧ s = .int .i64 u ∧ u = (l.take k).count true ∧ Later wr wr') (fun _ i _ => l.length - (intOf i).toNat)
      case atStart => exact ⟨0, 0, Nat.zero_le _, rfl, rfl, rfl, Later.refl _⟩
      case round =>
        obtain ⟨k, u, hk, rfl, rfl, hu, hlat⟩ := hrel
        by_cases hlt : k < l.length
        · obtain ⟨b1, o1, hA1, _, hc⟩ := (hr.later (L2.trans hlat)).rd.at_ (k := k) (by rw [bools_length]; exact hlt)
          have hcell := hc
          simp only [bools, List.getElem_map] at hcell
          subst hA1
          have hnext : (l.take (k + 1)).count true = (l.take k).count true + (l[k]).toNat := by
            rw [List.take_succ_eq_append_getElem hlt, List.count_append]
            cases l[k] <;> rfl
          obtain ⟨x, hx⟩ : ∃ x, x = l[k] := ⟨_, rfl⟩
          rw [← hx] at hcell hnext
          rw [← hu] at hnext
          have hu2 : u ≤ 1000000 := by
            rw [hu]; exact Nat.le_trans List.count_le_length (by rw [List.length_take]; omega)
          have HN := Lib.hid hnext
          clear hc hnext hx hu
          cases x
          · go_wp2_with fail
            go_roundw
            case rel => exact ⟨k + 1, u, by omega, by go_num, rfl, by rw [HN.out]; rfl, hlat⟩
            case measure => simp [intOf]; omega
          · go_wp2_with fail
            go_roundw
            case rel => exact ⟨k + 1, u + 1, by omega, by go_num, by go_num, by rw [HN.out]; rfl, hlat⟩
            case measure => simp [intOf]; omega
        · obtain rfl : k = l.length := by omega
          rw [List.take_of_length_le (Nat.le_refl _)] at hu
          have L3 := L2.trans hlat
          have HC := Lib.hid (count_any A l.length c l _ rfl (hr.later L3) (by omega))
          rw [← hu] at HC
          clear hu hlat
          go_wp2_with (go_at_call 13; refine HC.out.mono ?_; rintro e w' ⟨rfl, rfl⟩)
          go_ret
          exact ⟨rfl, L3⟩
end Go.Proofs.YtbmlipandjbbbabDoor
