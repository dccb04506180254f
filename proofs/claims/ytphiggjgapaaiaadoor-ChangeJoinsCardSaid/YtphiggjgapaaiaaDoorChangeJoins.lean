/- The walk of ChangeJoins. -/
import Derived.Test.YtphiggjgapaaiaaDoorChgU
namespace Go.Proofs.YtphiggjgapaaiaaDoor
open Go.RowKit
set_option linter.unusedVariables false

theorem cut_text (s : ByteArray) (c : Nat) : (∃ k : Nat, k < s.size ∧ Lib.indexByte s.data.toList c.toUInt8 = k ∧ cutV (4, 0, s) c = ((4, 0, s.extract 0 k), (4, 0, s.extract (k + 1) s.size))) ∨ (Lib.indexByte s.data.toList c.toUInt8 = -1 ∧ cutV (4, 0, s) c = ((4, 0, s), (0, 0, ⟨#[]⟩))) := by
  have hge := Lib.indexByte_ge s.data.toList c.toUInt8
  by_cases h : 0 ≤ Lib.indexByte s.data.toList c.toUInt8
  · obtain ⟨k, hk⟩ := Int.eq_ofNat_of_zero_le h
    refine .inl ⟨k, ?_, hk, ?_⟩
    · have h1 := (Lib.indexByte_some hk).1
      have h2 := (List.getElem?_eq_some_iff.1 h1).1
      rw [Array.length_toList] at h2
      exact h2
    · unfold cutV
      rw [if_pos ⟨rfl, h⟩, hk]; rfl
  · refine .inr ⟨by omega, ?_⟩
    unfold cutV
    rw [if_neg (fun hh => h hh.2)]

set_option maxRecDepth 100000 in
theorem changeJoins_long (s : ByteArray) (c : Int) (w : World) (hs : S3 w) (hn : 20 < s.size) :
    Calls Tryd.prog 3 #[.string s, .int .u8 c] w fun e w' => e = .returned (.bool true) ∧ Later w w' := by
  have HB := Lib.hid (begun16_any w hs)
  have hn20 : (20 : Int) < (s.size : Int) := by omega
  clear hs
  go_enter Tryd.func3, Tryd.ntmps3
  go_wp2_with fail
  refine HB.out.mono ?_
  rintro e w1 ⟨rfl, l1⟩
  have HL1 := Lib.hid l1
  clear l1 HB
  go_wp2_with fail
  go_ret
  exact ⟨rfl, HL1.out⟩

set_option maxRecDepth 100000 in
set_option maxHeartbeats 8000000 in
theorem changeJoins_walk (s : ByteArray) (c : Nat) (w : World) (hs : S3 w) (hn : s.size ≤ 20) (hc : c < 256) :
    Calls Tryd.prog 3 #[.string s, .int .u8 c] w fun e w' => e = .returned (.bool true) ∧ Later w w' := by
  have HB := Lib.hid (begun16_any w hs)
  have hn20 : ¬ (20 : Int) < (s.size : Int) := by omega
  have HS := Lib.hid hs
  clear hs
  go_enter Tryd.func3, Tryd.ntmps3
  go_wp2_with fail
  refine HB.out.mono ?_
  rintro e w1 ⟨rfl, l1⟩
  have HL1 := Lib.hid l1
  clear l1 HB
  obtain ⟨h0, hh0⟩ : ∃ x, w1.heap.size = x := ⟨_, rfl⟩
  obtain ⟨w2, hw2⟩ : ∃ x : World, (w1.alloc (.cells #[.int .i64 1, .string sA, .int .i64 4] 24)).alloc (.cells #[.slice (some ⟨h0, 0, none⟩) 1 1, .int .i64 1] 27) = x := ⟨_, rfl⟩
  obtain ⟨w3, hw3⟩ : ∃ x : World, w2.alloc (.cells #[.int .i64 4, .int .i64 0, .string s] 29) = x := ⟨_, rfl⟩
  have l2 : Later w1 w2 := hw2 ▸ (Later.new w1 _).alloc _
  have l3 : Later w2 w3 := hw3 ▸ Later.new w2 _
  have bc : Blk w2 h0 #[.int .i64 1, .string sA, .int .i64 4] 24 := hw2 ▸ (Blk.new w1 _ _ _ hh0.symm).later (Later.new _ _)
  have bs : Blk w2 (h0 + 1) #[.slice (some ⟨h0, 0, none⟩) 1 1, .int .i64 1] 27 := hw2 ▸ Blk.new _ _ _ _ (by simp; omega)
  have hs2 : w2.heap.size = h0 + 2 := by rw [← hw2, ← hh0]; simp
  have br : Blk w3 (h0 + 2) #[.int .i64 4, .int .i64 0, .string s] 29 := hw3 ▸ Blk.new w2 _ _ _ hs2.symm
  have HW3 := Lib.hid (show ((w1.alloc (.cells #[.int .i64 1, .string sA, .int .i64 4] 24)).alloc (.cells #[.slice (some ⟨h0, 0, none⟩) 1 1, .int .i64 1] 27)).alloc (.cells #[.int .i64 4, .int .i64 0, .string s] 29) = w3 by rw [hw2, hw3])
  have HL3 := Lib.hid (HL1.out.trans (l2.trans l3))
  obtain ⟨p, hp⟩ : ∃ p, cutV (4, 0, s) c = p := ⟨_, rfl⟩
  have HSPLIT := Lib.hid (row_split (some ⟨h0, 0, none⟩) (some ⟨h0 + 2, 0, none⟩) 1 1 1 1 1 [(1, sA, 4)] [(4, 0, s)] 1 sB 0 0 0 ⟨#[]⟩ c 0 w3 (HS.out.later HL3.out) rfl rfl (by omega) (by omega) (bc.later l3).has br.has (by intro h; cases h) 0 rfl (fits_one _ _ (may_text _ hn)) (4, 0, s) rfl (by dsimp only; omega) p hp rfl hc _ rfl)
  have s0 := (bs.later l3).cell 0 _ rfl
  have s1 := (bs.later l3).cell 1 _ rfl
  clear hw2 hw3 l2 l3 bc bs hs2 br
  have hp4 : ∃ (y : ByteArray) (qt qi : Int) (qs : ByteArray), p = ((4, 0, y), (qt, qi, qs)) := by
    rcases cut_text s c with ⟨k, _, _, h⟩ | ⟨_, h⟩ <;> (rw [hp] at h; subst h; exact ⟨_, _, _, _, rfl⟩)
  obtain ⟨y, qt, qi, qs, rfl⟩ := hp4
  have hout : ([(4, 0, s)] ++ [(qt, qi, qs)] : List Val3).set 0 (wideT 4, 0, y) = [(4, 0, y), (qt, qi, qs)] := rfl
  rw [hout] at HSPLIT
  have HPP := Lib.hid hp
  clear hp hout
  go_wp2_with fail
  rw [HW3.out]
  refine HSPLIT.out.mono ?_
  rintro e w4 ⟨A, c4, rfl, o4, _, l4⟩
  have e4 : ([(4, 0, y), (qt, qi, qs)] : List Val3).length = 2 := rfl
  rw [e4] at o4 ⊢
  obtain ⟨g4, rfl⟩ := own_some o4 (by omega)
  have hlt4 := (o4.lt g4 rfl).2
  have HB4 := Lib.hid (show Has w4 (some ⟨g4, 0, none⟩) (fl [(4, 0, y), (qt, qi, qs)]) from .inr ⟨g4, 0, rfl, hlt4, fun j v hv => by
    have hj := (List.getElem?_eq_some_iff.1 hv).1
    have := o4.cellAt j (by have h6 : (fl [(4, 0, y), (qt, qi, qs)]).length = 6 := rfl; omega)
    rw [Nat.zero_add, this, hv]⟩)
  have x0 : w4.cell? ⟨g4, 0, none⟩ = some (.int .i64 4) := o4.cellAt 0 (by omega)
  have x1 : w4.cell? ⟨g4, 1, none⟩ = some (.int .i64 0) := o4.cellAt 1 (by omega)
  have x2 : w4.cell? ⟨g4, 2, none⟩ = some (.string y) := o4.cellAt 2 (by omega)
  have x3 : w4.cell? ⟨g4, 3, none⟩ = some (.int .i64 qt) := o4.cellAt 3 (by omega)
  have x4 : w4.cell? ⟨g4, 4, none⟩ = some (.int .i64 qi) := o4.cellAt 4 (by omega)
  have x5 : w4.cell? ⟨g4, 5, none⟩ = some (.string qs) := o4.cellAt 5 (by omega)
  have HL4 := Lib.hid (HL3.out.trans l4)
  clear HSPLIT HW3 o4 l4 s0 s1
  go_wp2_with fail
  go_loopw [9, 10] (fun hv iv wr => ∃ (k : Nat) (b : Bool), k ≤ s.size ∧ hv = .bool b ∧ iv = .int .i64 k ∧ (b = true ↔ ∃ j, ∃ h : j < s.size, j < k ∧ s[j].toNat = c) ∧ w4 = wr) (fun _ i _ => s.size - (intOf i).toNat)
  case atStart => exact ⟨0, false, Nat.zero_le _, rfl, rfl, ⟨(fun h => by cases h), fun ⟨j, _, h, _⟩ => absurd h (Nat.not_lt_zero _)⟩, rfl⟩
  case round =>
    obtain ⟨k, b, hk, rfl, rfl, hb, rfl⟩ := hrel
    have HB := Lib.hid hb
    clear hb
    by_cases hlt : k < s.size
    · have hki : (k : Int) < (s.size : Int) := by omega
      cases b with
      | true =>
        have HN := Lib.hid (show true = true ↔ ∃ j, ∃ h : j < s.size, j < k + 1 ∧ s[j].toNat = c from ⟨fun _ => by obtain ⟨j, h, h1, h2⟩ := HB.out.1 rfl; exact ⟨j, h, by omega, h2⟩, fun _ => rfl⟩)
        go_wp2_with fail
        go_roundw
        all_goals first
          | exact ⟨k + 1, true, hlt, rfl, by go_num, HN.out, by first | rfl | trivial⟩
          | (simp [intOf]; omega)
          | trace_state
      | false =>
        have HN := Lib.hid (show ((s[k].toNat : Int) == (c : Int)) = true ↔ ∃ j, ∃ h : j < s.size, j < k + 1 ∧ s[j].toNat = c from by
          constructor
          · intro h
            have h1 : (s[k].toNat : Int) = (c : Int) := by simpa using h
            exact ⟨k, hlt, Nat.lt_succ_self _, by omega⟩
          · rintro ⟨j, h, h1, h2⟩
            rcases Nat.lt_or_ge j k with h3 | h3
            · have := HB.out.2 ⟨j, h, h3, h2⟩; cases this
            · obtain rfl : j = k := by omega
              simp; omega)
        go_wp2_with fail
        go_roundw
        all_goals first
          | exact ⟨k + 1, _, hlt, rfl, by go_num, HN.out, by first | rfl | trivial⟩
          | (simp [intOf]; omega)
          | trace_state
    · have hks : k = s.size := by omega
      rcases cut_text s c with ⟨u, hu, hidx, hcut⟩ | ⟨hidx, hcut⟩
      · rw [HPP.out] at hcut
        injection hcut with e1 e2
        injection e1 with _ e1
        injection e1 with _ hy
        injection e2 with hqt e2
        injection e2 with hqi hqs
        obtain ⟨hi1, hi2⟩ := Lib.indexByte_some hidx
        have hbt : b = true := HB.out.2 ⟨u, hu, by omega, (byte_eq s u hu c hc).1 hi1⟩
        subst hbt hqt hqi
        have HNE := Lib.hid (show ∀ j (h : j < y.size), y[j].toNat ≠ c from by subst hy; exact fun j h => head_no s u c hu hc hidx j h)
        have HCAT := Lib.hid (show (y ++ bstr [c]) ++ qs = s from by subst hy; subst hqs; exact cat_text s u c hu hi1)
        have hb1 : (bstr [c]).size = 1 := rfl
        have hyq : y.size ≤ 20 ∧ qs.size ≤ 20 := by rw [hy, hqs, ByteArray.size_extract, ByteArray.size_extract]; omega
        have hz1 : ¬ 9223372036854775807 < y.size + (bstr [c]).size := by omega
        have hz2 : ¬ 9223372036854775807 < y.size + (bstr [c]).size + qs.size := by omega
        clear hb1
        have HYS := Lib.hid (show y.size ≤ 20 ∧ qs.size ≤ 20 from by rw [hy, hqs, ByteArray.size_extract, ByteArray.size_extract]; omega)
        clear hy hqs hidx hi1 hi2
        go_wp2_with fail
        refine wp_region_K (S := fun W : World => W.cell? ⟨g4, 5, none⟩ = some (.string qs)) (R := fun a b => a = b) (fun _ => rfl) (by kernel_rfl) ?_
        obtain ⟨wd, hwd⟩ : ∃ x, w4.drew = x := ⟨_, rfl⟩
        have ld : Later w4 wd := hwd ▸ (Later.refl w4).drew
        have hS : (fun W : World => W.cell? ⟨g4, 5, none⟩ = some (.string qs)) wd := ld.cell x5
        rw [hwd]
        have HLD := Lib.hid ld
        clear hwd ld
        refine wpAnyK_take (fun _ => rfl) (fun _ _ _ h k => h.trans k) (fun _ _ h k => k ▸ h) (i := 0) (oi := { dst := some 71, op := _, type := _, pos := _, after := _, guard := _ }) (v := ?_) rfl (by kernel_rfl) (by kernel_rfl) (by kernel_rfl) (fun _ _ _ h => h) (Or.inl (Or.inl ⟨by rfl, ?_⟩)) hS ?_
        rotate_left
        focus ((intro w hSw; (try dsimp only at hSw); skip; go_simp); (try with_reducible rfl))
        intro wq hwq
        subst hwq
        (try simp only [Act.put, List.setIfInBounds_toArray, List.set_cons_zero, List.set_cons_succ])
        refine wpAnyK_take (fun _ => rfl) (fun _ _ _ h k => h.trans k) (fun _ _ h k => k ▸ h) (i := 1) (oi := { dst := some 72, op := _, type := _, pos := _, after := _, guard := _ }) (v := ?_) rfl (by kernel_rfl) (by kernel_rfl) (by kernel_rfl) (fun _ _ _ h => h) (Or.inl (Or.inl ⟨by rfl, ?_⟩)) hS ?_
        rotate_left
        focus ((intro w hSw; (try dsimp only at hSw); skip; go_simp); (try with_reducible rfl))
        intro wq hwq
        subst hwq
        (try simp only [Act.put, List.setIfInBounds_toArray, List.set_cons_zero, List.set_cons_succ])
        refine wpAnyK_take (fun _ => rfl) (fun _ _ _ h k => h.trans k) (fun _ _ h k => k ▸ h) (i := 5) (oi := { dst := some 76, op := _, type := _, pos := _, after := _, guard := _ }) (v := ?_) rfl (by kernel_rfl) (by kernel_rfl) (by kernel_rfl) (fun _ _ _ h => h) (Or.inl (Or.inl ⟨by rfl, ?_⟩)) hS ?_
        rotate_left
        focus ((intro w hSw; (try dsimp only at hSw); skip; go_simp); (try with_reducible rfl))
        intro wq hwq
        subst hwq
        (try simp only [Act.put, List.setIfInBounds_toArray, List.set_cons_zero, List.set_cons_succ])
        refine wpAnyK_take (fun _ => rfl) (fun _ _ _ h k => h.trans k) (fun _ _ h k => k ▸ h) (i := 6) (oi := { dst := some 77, op := _, type := _, pos := _, after := _, guard := _ }) (v := ?_) rfl (by kernel_rfl) (by kernel_rfl) (by kernel_rfl) (fun _ _ _ h => h) (Or.inl (Or.inl ⟨by rfl, ?_⟩)) hS ?_
        rotate_left
        focus ((intro w hSw; (try dsimp only at hSw); skip; go_simp); (try with_reducible rfl))
        intro wq hwq
        subst hwq
        (try simp only [Act.put, List.setIfInBounds_toArray, List.set_cons_zero, List.set_cons_succ])
        refine wpAnyK_take (fun _ => rfl) (fun _ _ _ h k => h.trans k) (fun _ _ h k => k ▸ h) (i := 7) (oi := { dst := some 78, op := _, type := _, pos := _, after := _, guard := _ }) (v := ?_) rfl (by kernel_rfl) (by kernel_rfl) (by kernel_rfl) (fun _ _ _ h => h) (Or.inl (Or.inl ⟨by rfl, ?_⟩)) hS ?_
        rotate_left
        focus ((intro w hSw; (try dsimp only at hSw); skip; go_simp); (try with_reducible rfl))
        intro wq hwq
        subst hwq
        (try simp only [Act.put, List.setIfInBounds_toArray, List.set_cons_zero, List.set_cons_succ])
        refine wpAnyK_take (fun _ => rfl) (fun _ _ _ h k => h.trans k) (fun _ _ h k => k ▸ h) (i := 8) (oi := { dst := some 79, op := _, type := _, pos := _, after := _, guard := _ }) (v := ?_) rfl (by kernel_rfl) (by kernel_rfl) (by kernel_rfl) (fun _ _ _ h => h) (Or.inl (Or.inl ⟨by rfl, ?_⟩)) hS ?_
        rotate_left
        focus ((intro w hSw; (try dsimp only at hSw); skip; go_simp); (try with_reducible rfl))
        intro wq hwq
        subst hwq
        (try simp only [Act.put, List.setIfInBounds_toArray, List.set_cons_zero, List.set_cons_succ])
        refine wpAnyK_all (rs := [2]) (by kernel_rfl) (by simp) (fun i hi => ?_)
        simp only [List.mem_cons, List.not_mem_nil, or_false] at hi
        subst hi
        refine stepK (o := { dst := some 73, op := _, type := _, pos := _, after := _, guard := _ }) rfl (fun K hK => ?_)
        go_simp
        obtain ⟨gl, hgl⟩ : ∃ x, wd.heap.size = x := ⟨_, rfl⟩
        obtain ⟨wl, hwl⟩ : ∃ x : World, wd.alloc (.cells #[.int .u8 (c : Int)] 5) = x := ⟨_, rfl⟩
        have ll : Later wd wl := hwl ▸ Later.new _ _
        have hlit : Has wl (some ⟨gl, 0, none⟩) (ints .u8 [c]) := hwl ▸ hgl ▸ (Has.lit wd 5 .u8 [c])
        have hconv := conv_str (some ⟨gl, 0, none⟩) 1 1 [c] rfl wl _ hlit
        rw [hwl]
        replace hS : (fun W : World => W.cell? ⟨g4, 5, none⟩ = some (.string qs)) wl := ll.cell hS
        refine hK _ _ hS fun wq hwq => ?_
        subst hwq
        have HLL := Lib.hid (HLD.out.trans ll)
        clear hK hwl hlit ll HLD
        (try simp only [Act.put, List.setIfInBounds_toArray, List.set_cons_zero, List.set_cons_succ])
        refine wpAnyK_all (rs := [3]) (by kernel_rfl) (by simp) (fun i hi => ?_)
        simp only [List.mem_cons, List.not_mem_nil, or_false] at hi
        subst hi
        refine stepK (o := { dst := some 74, op := _, type := _, pos := _, after := _, guard := _ }) rfl (fun K hK => ?_)
        rw [hgl]
        go_simp
        refine hK _ _ hS fun wq hwq => ?_
        subst hwq
        clear hK hconv hgl
        (try simp only [Act.put, List.setIfInBounds_toArray, List.set_cons_zero, List.set_cons_succ])
        refine wpAnyK_take (fun _ => rfl) (fun _ _ _ h k => h.trans k) (fun _ _ h k => k ▸ h) (i := 4) (oi := { dst := some 75, op := _, type := _, pos := _, after := _, guard := _ }) (v := ?_) rfl (by kernel_rfl) (by kernel_rfl) (by kernel_rfl) (fun _ _ _ h => h) (Or.inl (Or.inl ⟨by rfl, ?_⟩)) hS ?_
        rotate_left
        focus ((intro w hSw; (try dsimp only at hSw); skip; go_simp; (try rw [if_neg hz1]); (try rw [if_neg hz2])); (try with_reducible rfl))
        intro wq hwq
        subst hwq
        (try simp only [Act.put, List.setIfInBounds_toArray, List.set_cons_zero, List.set_cons_succ])
        refine wpAnyK_take (fun _ => rfl) (fun _ _ _ h k => h.trans k) (fun _ _ h k => k ▸ h) (i := 9) (oi := { dst := some 80, op := _, type := _, pos := _, after := _, guard := _ }) (v := ?_) rfl (by kernel_rfl) (by kernel_rfl) (by kernel_rfl) (fun _ _ _ h => h) (Or.inl (Or.inl ⟨by rfl, ?_⟩)) hS ?_
        rotate_left
        focus ((intro w hSw; (try dsimp only at hSw); skip; go_simp; (try rw [if_neg hz1]); (try rw [if_neg hz2])); (try with_reducible rfl))
        intro wq hwq
        subst hwq
        (try simp only [Act.put, List.setIfInBounds_toArray, List.set_cons_zero, List.set_cons_succ])
        refine wpAnyK_take (fun _ => rfl) (fun _ _ _ h k => h.trans k) (fun _ _ h k => k ▸ h) (i := 10) (oi := { dst := some 11, op := _, type := _, pos := _, after := _, guard := _ }) (v := ?_) rfl (by kernel_rfl) (by kernel_rfl) (by kernel_rfl) (fun _ _ _ h => h) (Or.inl (Or.inl ⟨by rfl, ?_⟩)) hS ?_
        rotate_left
        focus ((intro w hSw; (try dsimp only at hSw); skip; go_simp); (try with_reducible rfl))
        intro wq hwq
        subst hwq
        (try simp only [Act.put, List.setIfInBounds_toArray, List.set_cons_zero, List.set_cons_succ])
        refine wpAnyK_done (by kernel_rfl) ?_ _
        clear hS
        have X0 := Lib.hid x0
        have X1 := Lib.hid x1
        have X2 := Lib.hid x2
        have x0 := HLL.out.cell x0
        have x1 := HLL.out.cell x1
        have x2 := HLL.out.cell x2
        have x3 := HLL.out.cell x3
        have x5 := HLL.out.cell x5
        rw [HCAT.out]
        go_wp2_with fail
        go_loopw [12] (fun iv wr => ∃ j : Nat, j ≤ y.size ∧ iv = .int .i64 j ∧ wl = wr) (fun i _ => y.size - (intOf i).toNat)
        case atStart => exact ⟨0, Nat.zero_le _, rfl, rfl⟩
        case round =>
          obtain ⟨j, hj, rfl, rfl⟩ := hrel
          by_cases hjl : j < y.size
          · have hji : (j : Int) < (y.size : Int) := by omega
            have hne : ((y[j].toNat : Int) == (c : Int)) = false := by have := HNE.out j hjl; simp; omega
            go_wp2_with fail
            go_roundw
            all_goals first
              | exact ⟨j + 1, hjl, by go_num, by first | rfl | trivial⟩
              | (simp [intOf]; omega)
              | trace_state
          · have HLZ := Lib.hid (HL4.out.trans HLL.out)
            obtain ⟨h9, hh9⟩ : ∃ x, wl.heap.size = x := ⟨_, rfl⟩
            obtain ⟨w9, hw9⟩ : ∃ x : World, (wl.alloc (.cells #[.int .i64 1, .string sA, .int .i64 4, .int .i64 2, .string sB, .int .i64 4] 24)).alloc (.cells #[.slice (some ⟨h9, 0, none⟩) 2 2, .int .i64 2] 27) = x := ⟨_, rfl⟩
            have l9 : Later wl w9 := hw9 ▸ (Later.new wl _).alloc _
            have bc : Blk w9 h9 #[.int .i64 1, .string sA, .int .i64 4, .int .i64 2, .string sB, .int .i64 4] 24 := hw9 ▸ (Blk.new wl _ _ _ hh9.symm).later (Later.new _ _)
            have HW9 := Lib.hid hw9
            have HL9 := Lib.hid (HLZ.out.trans l9)
            have HL49 := Lib.hid (HLL.out.trans l9)
            have HDROP := Lib.hid (row_drop (some ⟨h9, 0, none⟩) (some ⟨g4, 0, none⟩) 2 2 2 c4 2 [(1, sA, 4), (2, sB, 4)] [(4, 0, y), (4, 0, qs)] 2 ⟨#[]⟩ 0 0 0 ⟨#[]⟩ 0 0 w9 (HS.out.later HL9.out) rfl rfl (by omega) (by omega) bc.has (HB4.out.later HL49.out) (by intro h; cases h) 1 rfl (fits_two _ _ _ _ (may_text _ HYS.out.1) (may_text _ HYS.out.2)) (4, 0, qs) rfl [(4, 0, y)] rfl)
            clear hw9 l9 bc
            go_wp2_with fail
            rw [HW9.out]
            refine HDROP.out.mono ?_
            rintro e w10 ⟨B, c10, rfl, o10, _, l10⟩
            have e10 : ([(4, 0, y)] : List Val3).length = 1 := rfl
            rw [e10] at o10 ⊢
            obtain ⟨g10, rfl⟩ := own_some o10 (by omega)
            have z0 : w10.cell? ⟨g10, 0, none⟩ = some (.int .i64 4) := o10.cellAt 0 (by omega)
            have z1 : w10.cell? ⟨g10, 1, none⟩ = some (.int .i64 0) := o10.cellAt 1 (by omega)
            have z2 : w10.cell? ⟨g10, 2, none⟩ = some (.string y) := o10.cellAt 2 (by omega)
            have x0 := l10.cell (HL49.out.cell X0.out)
            have x1 := l10.cell (HL49.out.cell X1.out)
            have x2 := l10.cell (HL49.out.cell X2.out)
            have HL10 := Lib.hid (HL9.out.trans l10)
            clear HDROP HW9 o10 l10
            go_wp2_with fail
            go_quiet (fail)
            go_wp2_with fail
            go_ret
            exact ⟨rfl, HL10.out.drewN _⟩
      · rw [HPP.out] at hcut
        injection hcut with e1 e2
        injection e1 with _ e1
        injection e1 with _ hy
        injection e2 with hqt e2
        injection e2 with hqi hqs
        have hbt : b = false := by
          cases b with
          | false => rfl
          | true =>
            obtain ⟨j, h, _, h2⟩ := HB.out.1 rfl
            exact absurd h2 (text_no s c hc hidx j h)
        subst hbt hqt hqi hqs hy
        have HNE := Lib.hid (show ∀ j (h : j < y.size), y[j].toNat ≠ c from text_no y c hc hidx)
        have HYS := Lib.hid (show y.size ≤ 20 from hn)
        have HLL := Lib.hid (Later.refl w4)
        have X0 := Lib.hid x0
        have X1 := Lib.hid x1
        have X2 := Lib.hid x2
        go_wp2_with fail
        go_loopw [12] (fun iv wr => ∃ j : Nat, j ≤ y.size ∧ iv = .int .i64 j ∧ w4 = wr) (fun i _ => y.size - (intOf i).toNat)
        case atStart => exact ⟨0, Nat.zero_le _, rfl, rfl⟩
        case round =>
          obtain ⟨j, hj, rfl, rfl⟩ := hrel
          by_cases hjl : j < y.size
          · have hji : (j : Int) < (y.size : Int) := by omega
            have hne : ((y[j].toNat : Int) == (c : Int)) = false := by have := HNE.out j hjl; simp; omega
            go_wp2_with fail
            go_roundw
            all_goals first
              | exact ⟨j + 1, hjl, by go_num, by first | rfl | trivial⟩
              | (simp [intOf]; omega)
              | trace_state
          · have HLZ := Lib.hid (HL4.out.trans HLL.out)
            obtain ⟨h9, hh9⟩ : ∃ x, w4.heap.size = x := ⟨_, rfl⟩
            obtain ⟨w9, hw9⟩ : ∃ x : World, (w4.alloc (.cells #[.int .i64 1, .string sA, .int .i64 4, .int .i64 2, .string sB, .int .i64 4] 24)).alloc (.cells #[.slice (some ⟨h9, 0, none⟩) 2 2, .int .i64 2] 27) = x := ⟨_, rfl⟩
            have l9 : Later w4 w9 := hw9 ▸ (Later.new w4 _).alloc _
            have bc : Blk w9 h9 #[.int .i64 1, .string sA, .int .i64 4, .int .i64 2, .string sB, .int .i64 4] 24 := hw9 ▸ (Blk.new w4 _ _ _ hh9.symm).later (Later.new _ _)
            have HW9 := Lib.hid hw9
            have HL9 := Lib.hid (HLZ.out.trans l9)
            have HL49 := Lib.hid (HLL.out.trans l9)
            have HDROP := Lib.hid (row_drop (some ⟨h9, 0, none⟩) (some ⟨g4, 0, none⟩) 2 2 2 c4 2 [(1, sA, 4), (2, sB, 4)] [(4, 0, y), (0, 0, ⟨#[]⟩)] 2 ⟨#[]⟩ 0 0 0 ⟨#[]⟩ 0 0 w9 (HS.out.later HL9.out) rfl rfl (by omega) (by omega) bc.has (HB4.out.later HL49.out) (by intro h; cases h) 1 rfl (fits_two _ _ _ _ (may_text _ HYS.out) (may_none 4 (by omega))) (0, 0, ⟨#[]⟩) rfl [(4, 0, y)] rfl)
            clear hw9 l9 bc
            go_wp2_with fail
            rw [HW9.out]
            refine HDROP.out.mono ?_
            rintro e w10 ⟨B, c10, rfl, o10, _, l10⟩
            have e10 : ([(4, 0, y)] : List Val3).length = 1 := rfl
            rw [e10] at o10 ⊢
            obtain ⟨g10, rfl⟩ := own_some o10 (by omega)
            have z0 : w10.cell? ⟨g10, 0, none⟩ = some (.int .i64 4) := o10.cellAt 0 (by omega)
            have z1 : w10.cell? ⟨g10, 1, none⟩ = some (.int .i64 0) := o10.cellAt 1 (by omega)
            have z2 : w10.cell? ⟨g10, 2, none⟩ = some (.string y) := o10.cellAt 2 (by omega)
            have x0 := l10.cell (HL49.out.cell X0.out)
            have x1 := l10.cell (HL49.out.cell X1.out)
            have x2 := l10.cell (HL49.out.cell X2.out)
            have HL10 := Lib.hid (HL9.out.trans l10)
            clear HDROP HW9 o10 l10
            go_wp2_with fail
            go_quiet (fail)
            go_wp2_with fail
            go_ret
            exact ⟨rfl, HL10.out.drewN _⟩
end Go.Proofs.YtphiggjgapaaiaaDoor
