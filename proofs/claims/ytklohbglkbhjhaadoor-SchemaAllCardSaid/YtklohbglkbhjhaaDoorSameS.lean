/- The document's SameInts, SameSchema, SameLayout. -/
import Derived.Test.YtklohbglkbhjhaaDoorSchA
import Derived.Laws.StructEq
namespace Go.Proofs.YtklohbglkbhjhaaDoor
open Go.RowKit
set_option linter.unusedVariables false

set_option maxRecDepth 100000 in
set_option maxHeartbeats 1000000 in
theorem sameE_len (A B : Option Addr) (n ca cb : Nat) (a b : List Int) (w : World) (hna : a.length = n) (hnb : b.length = n) (ha : Has w A (ein a)) (hb : Has w B (ein b)) (hl : n ≤ 100000) :
    Calls Tryd.prog 46 #[.slice A n ca, .slice B n cb] w (TellsP (a = b) w) := by
  have HNA := Lib.hid hna
  have HNB := Lib.hid hnb
  clear hna hnb
  go_enter Tryd.func46, Tryd.ntmps46
  go_wp2_with fail
  go_loopw [5] (fun i wr => ∃ j : Nat, j ≤ n ∧ i = .int .i64 j ∧ a.take j = b.take j ∧ Later w wr) (fun i _ => n - (intOf i).toNat)
  case atStart => exact ⟨0, Nat.zero_le _, rfl, by simp, Later.refl _⟩
  case round =>
    obtain ⟨j, hj, rfl, heq, lat⟩ := hrel
    by_cases hlt : j < n
    · have hj1 : j < a.length := by have := HNA.out; omega
      have hj2 : j < b.length := by have := HNB.out; omega
      obtain ⟨b1, o1, rfl, c0⟩ := (ha.later lat).ein j hj1
      obtain ⟨b2, o2, rfl, d0⟩ := (hb.later lat).ein j hj2
      have HEQ := Lib.hid (fun (h : a[j] = b[j]) => show a.take (j + 1) = b.take (j + 1) by
        rw [List.take_succ_eq_append_getElem hj1, List.take_succ_eq_append_getElem hj2, heq, h])
      have HNE := Lib.hid (fun (h : a[j] ≠ b[j]) => show a ≠ b from fun e => h (by subst e; rfl))
      generalize a[j] = x at c0 HEQ HNE
      generalize b[j] = y at d0 HEQ HNE
      have LAT := Lib.hid lat
      clear lat heq ha hb
      by_cases h1 : x = y
      · subst h1
        have e1 : (x != x) = false := by simp
        go_wp2_with fail
        go_quiet (fail)
        go_wp2_with fail
        go_roundw
        case rel => exact ⟨j + 1, hlt, by go_num, HEQ.out trivial, (LAT.out.drewN _)⟩
        case measure => simp [intOf]; omega
      · have e1 : (x != y) = true := by simp [h1]
        have HX := Lib.hid (HNE.out h1)
        go_wp2_with fail
        go_quiet (fail)
        go_wp2_with fail
        go_ret
        exact TellsP.f HX.out (LAT.out.drewN _)
    · have HEQ := Lib.hid (show a = b by rw [List.take_of_length_le (by have := HNA.out; omega), List.take_of_length_le (by have := HNB.out; omega)] at heq; exact heq)
      have LAT := Lib.hid lat
      clear lat heq ha hb
      go_wp2_with fail
      go_ret
      exact TellsP.t HEQ.out LAT.out
set_option maxRecDepth 100000 in
theorem sameE_any (A B : Option Addr) (n m ca cb : Nat) (a b : List Int) (w : World) (hn : n = a.length) (hm : m = b.length) (ha : Has w A (ein a)) (hb : Has w B (ein b)) (hl : n ≤ 100000) :
    Calls Tryd.prog 46 #[.slice A n ca, .slice B m cb] w (TellsP (a = b) w) := by
  by_cases hlen : n = m
  · subst hlen
    exact sameE_len A B n ca cb a b w hn.symm hm.symm ha hb hl
  · have hd : ((n : Int) != (m : Int)) = true := by simp; omega
    have HX := Lib.hid (show ¬ a = b from fun e => hlen (by rw [hn, hm, e]))
    clear ha hb hn hm
    go_enter Tryd.func46, Tryd.ntmps46
    go_wp2_with fail
    go_ret
    exact TellsP.f HX.out (Later.refl _)

set_option maxRecDepth 100000 in
set_option maxHeartbeats 4000000 in
theorem sameLayout_any (E1 E2 : Option Addr) (n1 n2 c1 c2 : Nat) (a b : Lay4) (w : World) (hn : n1 = a.enc.length) (hm : n2 = b.enc.length) (ha : Has w E1 (ein a.enc)) (hb : Has w E2 (ein b.enc)) (hl : n1 ≤ 100000) :
    Calls Tryd.prog 17 #[.agg #[.int .i64 a.sb, .int .i64 a.pb, .int .i64 a.parts, .slice E1 n1 c1], .agg #[.int .i64 b.sb, .int .i64 b.pb, .int .i64 b.parts, .slice E2 n2 c2]] w (TellsP (a = b) w) := by
  obtain ⟨s1, p1, k1, x1⟩ := a
  obtain ⟨s2, p2, k2, x2⟩ := b
  dsimp only at hn hm ha hb ⊢
  obtain ⟨q, hq⟩ : ∃ x, w.heap.size = x := ⟨_, rfl⟩
  obtain ⟨w1, hw1⟩ : ∃ x : World, (w.alloc (.cells #[.int .i64 s1, .int .i64 p1, .int .i64 k1, .slice E1 n1 c1] 27)).alloc (.cells #[.int .i64 s2, .int .i64 p2, .int .i64 k2, .slice E2 n2 c2] 27) = x := ⟨_, rfl⟩
  have l1 : Later w w1 := hw1 ▸ (Later.new w _).alloc _
  have b1 : Blk w1 q #[.int .i64 s1, .int .i64 p1, .int .i64 k1, .slice E1 n1 c1] 27 := hw1 ▸ (Blk.new w _ _ _ hq.symm).later (Later.new _ _)
  have b2 : Blk w1 (q + 1) #[.int .i64 s2, .int .i64 p2, .int .i64 k2, .slice E2 n2 c2] 27 := hw1 ▸ Blk.new _ _ _ _ (by simp; omega)
  have HL := Lib.hid l1
  have HS := Lib.hid (sameE_any E1 E2 n1 n2 c1 c2 x1 x2 w1 hn hm (ha.later l1) (hb.later l1) hl)
  have c0 := b1.cell 0 _ rfl
  have c1 := b1.cell 1 _ rfl
  have c2 := b1.cell 2 _ rfl
  have c3 := b1.cell 3 _ rfl
  have d0 := b2.cell 0 _ rfl
  have d1 := b2.cell 1 _ rfl
  have d2 := b2.cell 2 _ rfl
  have d3 := b2.cell 3 _ rfl
  clear l1 b1 b2 ha hb hn hm
  go_enter Tryd.func17, Tryd.ntmps17
  by_cases e1 : s1 = s2
  rotate_left
  · have z1 : (s1 == s2) = false := by simp [e1]
    have HX := Lib.hid (show ¬ (Lay4.mk s1 p1 k1 x1 = ⟨s2, p2, k2, x2⟩) from fun e => by injection e with e; exact e1 e)
    go_wp2_with fail
    go_ret
    exact TellsP.f HX.out HL.out
  subst e1
  by_cases e2 : p1 = p2
  rotate_left
  · have z1 : (p1 == p2) = false := by simp [e2]
    have HX := Lib.hid (show ¬ (Lay4.mk s1 p1 k1 x1 = ⟨s1, p2, k2, x2⟩) from fun e => by injection e with _ e; exact e2 e)
    go_wp2_with fail
    go_ret
    exact TellsP.f HX.out HL.out
  subst e2
  by_cases e3 : k1 = k2
  rotate_left
  · have z1 : (k1 == k2) = false := by simp [e3]
    have HX := Lib.hid (show ¬ (Lay4.mk s1 p1 k1 x1 = ⟨s1, p1, k2, x2⟩) from fun e => by injection e with _ _ e; exact e3 e)
    go_wp2_with fail
    go_ret
    exact TellsP.f HX.out HL.out
  subst e3
  go_wp2_with fail
  refine HS.out.mono ?_
  clear HS
  by_cases e4 : x1 = x2
  · rintro e w3 ht
    obtain ⟨rfl, l3⟩ := ht.yes e4
    have HX := Lib.hid (show Lay4.mk s1 p1 k1 x1 = ⟨s1, p1, k1, x2⟩ from by rw [e4])
    have HL3 := Lib.hid (HL.out.trans l3)
    clear ht l3 e4
    go_wp2_with fail
    go_ret
    exact TellsP.t HX.out HL3.out
  · rintro e w3 ht
    obtain ⟨rfl, l3⟩ := ht.no e4
    have HX := Lib.hid (show ¬ (Lay4.mk s1 p1 k1 x1 = ⟨s1, p1, k1, x2⟩) from fun e => by injection e with _ _ _ e; exact e4 e)
    have HL3 := Lib.hid (HL.out.trans l3)
    clear ht l3 e4
    go_wp2_with fail
    go_ret
    exact TellsP.f HX.out HL3.out

/-- Two columns compared. -/
theorem neq_col (w : World) (xi yi xt yt : Int) (xs ys : ByteArray) (b : Bool) (hb : decide (((xi, xs, xt) : Col3) ≠ (yi, ys, yt)) = b) : (binOp .neq 59 (.agg #[.int .i64 xi, .string xs, .int .i64 xt]) (.agg #[.int .i64 yi, .string ys, .int .i64 yt])).run Tryd.prog w = .ok (.bool b) w := by
  rw [run_neq_struct, run_equalIn_agg w _ _ _ _ (by kernel_rfl) (by kernel_rfl), ← hb]
  by_cases h1 : xi = yi
  · by_cases h2 : xs = ys
    · by_cases h3 : xt = yt
      · subst h1 h2 h3
        go_simp
      · subst h1 h2
        have e3 : (xt == yt) = false := by simp [h3]
        go_simp
    · subst h1
      have e2 : (xs.toList == ys.toList) = false := beq_false_of_ne fun e => h2 (by
        rw [ByteArray.toList_eq, ByteArray.toList_eq] at e
        obtain ⟨⟨x⟩⟩ := xs
        obtain ⟨⟨y⟩⟩ := ys
        simpa using e)
      go_simp
  · have e1 : (xi == yi) = false := by simp [h1]
    go_simp

set_option maxRecDepth 100000 in
set_option maxHeartbeats 4000000 in
theorem sameSchema_any (A B : Option Addr) (n m ca cb : Nat) (la lb : Int) (a b : List Col3) (w : World) (hn : n = a.length) (hm : m = b.length) (ha : Has w A (fc a)) (hb : Has w B (fc b)) (hl : n ≤ 100000) :
    Calls Tryd.prog 16 #[.agg #[.slice A n ca, .int .i64 la], .agg #[.slice B m cb, .int .i64 lb]] w (TellsP (a = b ∧ la = lb) w) := by
  obtain ⟨P, hP⟩ : ∃ P : Prop, (a = b ∧ la = lb) = P := ⟨_, rfl⟩
  rw [hP]
  have HP := Lib.hid hP
  clear hP
  obtain ⟨q, hq⟩ : ∃ x, w.heap.size = x := ⟨_, rfl⟩
  obtain ⟨w1, hw1⟩ : ∃ x : World, (w.alloc (.cells #[.slice A n ca, .int .i64 la] 24)).alloc (.cells #[.slice B m cb, .int .i64 lb] 24) = x := ⟨_, rfl⟩
  have l1 : Later w w1 := hw1 ▸ (Later.new w _).alloc _
  have b1 : Blk w1 q #[.slice A n ca, .int .i64 la] 24 := hw1 ▸ (Blk.new w _ _ _ hq.symm).later (Later.new _ _)
  have b2 : Blk w1 (q + 1) #[.slice B m cb, .int .i64 lb] 24 := hw1 ▸ Blk.new _ _ _ _ (by simp; omega)
  have HL := Lib.hid l1
  have HB1 := Lib.hid b1
  have HB2 := Lib.hid b2
  have HA := Lib.hid (ha.later l1)
  have HB := Lib.hid (hb.later l1)
  have HN := Lib.hid hn
  have HM := Lib.hid hm
  have HW := Lib.hid hw1
  have HQ := Lib.hid hq
  have c0 := b1.cell 0 _ rfl
  have c1 := b1.cell 1 _ rfl
  have d0 := b2.cell 0 _ rfl
  have d1 := b2.cell 1 _ rfl
  clear l1 b1 b2 ha hb hn hm hw1 hq
  go_enter Tryd.func16, Tryd.ntmps16
  by_cases e1 : la = lb
  rotate_left
  · have z1 : (la != lb) = true := by simp [e1]
    have HX := Lib.hid (show ¬ P from HP.out ▸ fun e => e1 e.2)
    go_wp2_with fail
    rw [HW.out, HQ.out]
    go_wp2_with fail
    go_ret
    exact TellsP.f HX.out HL.out
  subst e1
  by_cases e2 : n = m
  rotate_left
  · have z1 : ((n : Int) != (m : Int)) = true := by simp; omega
    have HX := Lib.hid (show ¬ P from HP.out ▸ fun e => e2 (by rw [HN.out, HM.out, e.1]))
    go_wp2_with fail
    rw [HW.out, HQ.out]
    go_wp2_with fail
    go_ret
    exact TellsP.f HX.out HL.out
  subst e2
  have z2 : ((n : Int) != (n : Int)) = false := by simp
  have z1 : (la != la) = false := by simp
  go_wp2_with fail
  rw [HW.out, HQ.out]
  go_wp2_with fail
  have HI0 := Lib.hid (show ∃ k : Nat, k ≤ n ∧ Value.int .i64 0 = .int .i64 k ∧ a.take k = b.take k ∧ Later w1 w1 from ⟨0, Nat.zero_le _, rfl, by simp, Later.refl _⟩)
  clear c0 c1 d0 d1 z1 z2
  go_loopw [5] (fun i wr => ∃ k : Nat, k ≤ n ∧ i = .int .i64 k ∧ a.take k = b.take k ∧ Later w1 wr) (fun i _ => n - (intOf i).toNat)
  case atStart => exact HI0.out
  case round =>
    obtain ⟨k, hk, rfl, heq, lat⟩ := hrel
    have c0 := (HB1.out.later lat).cell 0 _ rfl
    have c1 := (HB1.out.later lat).cell 1 _ rfl
    have d0 := (HB2.out.later lat).cell 0 _ rfl
    have d1 := (HB2.out.later lat).cell 1 _ rfl
    have LAT := Lib.hid lat
    by_cases hlt : k < n
    · have hj1 : k < a.length := by have := HN.out; omega
      have hj2 : k < b.length := by have := HM.out; omega
      obtain ⟨g1, o1, rfl, x0, x1, x2⟩ := (HA.out.later lat).col3 k hj1
      obtain ⟨g2, o2, rfl, y0, y1, y2⟩ := (HB.out.later lat).col3 k hj2
      have HEQ := Lib.hid (fun (h : a[k] = b[k]) => show a.take (k + 1) = b.take (k + 1) by
        rw [List.take_succ_eq_append_getElem hj1, List.take_succ_eq_append_getElem hj2, heq, h])
      have HNE := Lib.hid (fun (h : a[k] ≠ b[k]) => show ¬ P from HP.out ▸ fun e => h (by have e := e.1; subst e; rfl))
      generalize a[k] = xx at x0 x1 x2 HEQ HNE
      generalize b[k] = yy at y0 y1 y2 HEQ HNE
      obtain ⟨xi, xs, xt⟩ := xx
      obtain ⟨yi, ys, yt⟩ := yy
      dsimp only at x0 x1 x2 y0 y1 y2
      have hkn : (k : Int) < (n : Int) := by omega
      clear lat heq HI0
      by_cases h1 : ((xi, xs, xt) : Col3) = (yi, ys, yt)
      · have HX := Lib.hid (HEQ.out h1)
        injection h1 with h1 h2
        injection h2 with h2 h3
        subst h1 h2 h3
        have hcmp := fun w => neq_col w xi xi xt xt xs xs false (by simp)
        go_wp2_with fail
        go_quiet (fail)
        go_wp2_with fail
        go_roundw
        case rel => exact ⟨k + 1, hlt, by go_num, HX.out, (LAT.out.drewN _)⟩
        case measure => simp [intOf]; omega
      · have HX := Lib.hid (HNE.out h1)
        have hcmp := fun w => neq_col w xi yi xt yt xs ys true (decide_eq_true h1)
        clear h1
        go_wp2_with fail
        go_quiet (fail)
        go_wp2_with fail
        go_ret
        exact TellsP.f HX.out (HL.out.trans (LAT.out.drewN _))
    · have HEQ := Lib.hid (show a = b by rw [List.take_of_length_le (by have := HN.out; omega), List.take_of_length_le (by have := HM.out; omega)] at heq; exact heq)
      have hkn : ¬ (k : Int) < (n : Int) := by omega
      clear lat heq HI0
      go_wp2_with fail
      go_ret
      exact TellsP.t (show P from by rw [← HP.out]; exact ⟨HEQ.out, trivial⟩) (HL.out.trans LAT.out)
end Go.Proofs.YtklohbglkbhjhaaDoor
