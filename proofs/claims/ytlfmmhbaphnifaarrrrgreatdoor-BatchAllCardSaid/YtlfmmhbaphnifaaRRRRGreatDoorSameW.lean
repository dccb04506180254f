/- SameR again: rows of any length that fits. (tools/gen_wide.py) -/
import Derived.Test.YtlfmmhbaphnifaaRRRRGreatDoorSameR
namespace Go.Proofs.YtlfmmhbaphnifaaRRRRGreatDoor
open Go.RowKit
set_option linter.unusedVariables false

set_option maxRecDepth 100000 in
set_option maxHeartbeats 1000000 in
theorem sameValues_lenW (A B : Option Addr) (n ca cb : Nat) (a b : List Val3) (w : World) (hna : a.length = n) (hnb : b.length = n) (ha : Has w A (fl a)) (hb : Has w B (fl b)) (hl : n ≤ 9223372036854775807) :
    Calls Tryz.prog 34 #[.slice A n ca, .slice B n cb] w (TellsP (a = b) w) := by
  have HNA := Lib.hid hna
  have HNB := Lib.hid hnb
  clear hna hnb
  go_enter Tryz.func34, Tryz.ntmps34
  go_wp2_with fail
  go_loopw [5] (fun i wr => ∃ j : Nat, j ≤ n ∧ i = .int .i64 j ∧ a.take j = b.take j ∧ Later w wr) (fun i _ => n - (intOf i).toNat)
  case atStart => exact ⟨0, Nat.zero_le _, rfl, by simp, Later.refl _⟩
  case round =>
    obtain ⟨j, hj, rfl, heq, lat⟩ := hrel
    by_cases hlt : j < n
    · have hj1 : j < a.length := by have := HNA.out; omega
      have hj2 : j < b.length := by have := HNB.out; omega
      obtain ⟨b1, o1, rfl, c0, c1, c2⟩ := (ha.later lat).val3 j hj1
      obtain ⟨b2, o2, rfl, d0, d1, d2⟩ := (hb.later lat).val3 j hj2
      have HEQ := Lib.hid (fun (h : a[j] = b[j]) => show a.take (j + 1) = b.take (j + 1) by
        rw [List.take_succ_eq_append_getElem hj1, List.take_succ_eq_append_getElem hj2, heq, h])
      have HNE := Lib.hid (fun (h : a[j] ≠ b[j]) => show a ≠ b from fun e => h (by subst e; rfl))
      generalize a[j] = x at c0 c1 c2 HEQ HNE
      generalize b[j] = y at d0 d1 d2 HEQ HNE
      obtain ⟨t, i, s⟩ := x
      obtain ⟨t', i', s'⟩ := y
      dsimp only at c0 c1 c2 d0 d1 d2
      have LAT := Lib.hid lat
      clear lat heq ha hb
      by_cases h1 : t = t'
      · subst h1
        by_cases h2 : i = i'
        · subst h2
          by_cases h3 : s = s'
          · subst h3
            go_wp2_with fail
            go_quiet (fail)
            go_wp2_with fail
            go_roundw
            case rel => exact ⟨j + 1, hlt, by go_num, HEQ.out trivial, (LAT.out.drewN _)⟩
            case measure => simp [intOf]; omega
          · have e3 := bytes_ne h3
            have HX := Lib.hid (HNE.out (by simp [h3]))
            go_wp2_with fail
            go_quiet (fail)
            go_wp2_with fail
            go_ret
            exact TellsP.f HX.out (LAT.out.drewN _)
        · have e2 : (i == i') = false := by simp [h2]
          have HX := Lib.hid (HNE.out (by simp [h2]))
          go_wp2_with fail
          go_quiet (fail)
          go_wp2_with fail
          go_ret
          exact TellsP.f HX.out (LAT.out.drewN _)
      · have e1 : (t == t') = false := by simp [h1]
        have HX := Lib.hid (HNE.out (by simp [h1]))
        go_wp2_with fail
        go_quiet (fail)
        go_wp2_with fail
        go_ret
        exact TellsP.f HX.out (LAT.out.drewN _)
    · have HEQ := Lib.hid (show a = b by rw [List.take_of_length_le (by have := HNA.out; omega), List.take_of_length_le (by have := HNB.out; omega)] at heq; exact heq)
      have LAT := Lib.hid lat
      clear lat heq ha hb
      go_wp2_with fail
      go_ret
      exact TellsP.t HEQ.out LAT.out

set_option maxRecDepth 100000 in
theorem sameValues_anyW (A B : Option Addr) (ca cb : Nat) (a b : List Val3) (w : World) (ha : Has w A (fl a)) (hb : Has w B (fl b)) (hl : a.length ≤ 9223372036854775807) (hl2 : b.length ≤ 9223372036854775807) :
    Calls Tryz.prog 34 #[.slice A a.length ca, .slice B b.length cb] w (TellsP (a = b) w) := by
  by_cases hlen : a.length = b.length
  · rw [hlen]
    exact sameValues_lenW A B b.length ca cb a b w hlen rfl ha hb hl2
  · have hd : ((a.length : Int) != b.length) = true := by simp; omega
    clear ha hb
    go_enter Tryz.func34, Tryz.ntmps34
    go_wp2_with fail
    go_ret
    exact TellsP.f (fun h => hlen (by rw [h])) (Later.refl _)

set_option maxRecDepth 100000 in
set_option maxHeartbeats 1000000 in
theorem rowEq_lenW (A B : Option Addr) (n ca cb : Nat) (a b : List Val3) (w : World) (hna : a.length = n) (hnb : b.length = n) (ha : Has w A (fl a)) (hb : Has w B (fl b)) (hl : n ≤ 9223372036854775807) :
    Calls Tryz.prog 37 #[.slice A n ca, .slice B n cb] w (TellsP (a = b) w) := by
  have HNA := Lib.hid hna
  have HNB := Lib.hid hnb
  clear hna hnb
  go_enter Tryz.func37, Tryz.ntmps37
  go_wp2_with fail
  go_loopw [13] (fun i wr => ∃ j : Nat, j ≤ n ∧ i = .int .i64 j ∧ a.take j = b.take j ∧ Later w wr) (fun i _ => n - (intOf i).toNat)
  case atStart => exact ⟨0, Nat.zero_le _, rfl, by simp, Later.refl _⟩
  case round =>
    obtain ⟨j, hj, rfl, heq, lat⟩ := hrel
    by_cases hlt : j < n
    · have hj1 : j < a.length := by have := HNA.out; omega
      have hj2 : j < b.length := by have := HNB.out; omega
      obtain ⟨b1, o1, rfl, c0, c1, c2⟩ := (ha.later lat).val3 j hj1
      obtain ⟨b2, o2, rfl, d0, d1, d2⟩ := (hb.later lat).val3 j hj2
      have HEQ := Lib.hid (fun (h : a[j] = b[j]) => show a.take (j + 1) = b.take (j + 1) by
        rw [List.take_succ_eq_append_getElem hj1, List.take_succ_eq_append_getElem hj2, heq, h])
      have HNE := Lib.hid (fun (h : a[j] ≠ b[j]) => show a ≠ b from fun e => h (by subst e; rfl))
      generalize a[j] = x at c0 c1 c2 HEQ HNE
      generalize b[j] = y at d0 d1 d2 HEQ HNE
      obtain ⟨t, i, s⟩ := x
      obtain ⟨t', i', s'⟩ := y
      dsimp only at c0 c1 c2 d0 d1 d2
      have LAT := Lib.hid lat
      clear lat heq ha hb
      by_cases h1 : t = t'
      · subst h1
        by_cases h2 : i = i'
        · subst h2
          by_cases h3 : s = s'
          · subst h3
            go_wp2_with fail
            go_quiet (fail)
            go_wp2_with fail
            go_roundw
            case rel => exact ⟨j + 1, hlt, by go_num, HEQ.out trivial, (LAT.out.drewN _)⟩
            case measure => simp [intOf]; omega
          · have e3 := bytes_ne h3
            have HX := Lib.hid (HNE.out (by simp [h3]))
            go_wp2_with fail
            go_quiet (fail)
            go_wp2_with fail
            go_ret
            exact TellsP.f HX.out (LAT.out.drewN _)
        · have e2 : (i == i') = false := by simp [h2]
          have HX := Lib.hid (HNE.out (by simp [h2]))
          go_wp2_with fail
          go_quiet (fail)
          go_wp2_with fail
          go_ret
          exact TellsP.f HX.out (LAT.out.drewN _)
      · have e1 : (t == t') = false := by simp [h1]
        have HX := Lib.hid (HNE.out (by simp [h1]))
        go_wp2_with fail
        go_quiet (fail)
        go_wp2_with fail
        go_ret
        exact TellsP.f HX.out (LAT.out.drewN _)
    · have HEQ := Lib.hid (show a = b by rw [List.take_of_length_le (by have := HNA.out; omega), List.take_of_length_le (by have := HNB.out; omega)] at heq; exact heq)
      have LAT := Lib.hid lat
      clear lat heq ha hb
      go_wp2_with fail
      go_ret
      exact TellsP.t HEQ.out LAT.out

set_option maxRecDepth 100000 in
theorem rowEq_anyW (A B : Option Addr) (ca cb : Nat) (a b : List Val3) (w : World) (ha : Has w A (fl a)) (hb : Has w B (fl b)) (hl : a.length ≤ 9223372036854775807) (hl2 : b.length ≤ 9223372036854775807) :
    Calls Tryz.prog 37 #[.slice A a.length ca, .slice B b.length cb] w (TellsP (a = b) w) := by
  by_cases hlen : a.length = b.length
  · rw [hlen]
    exact rowEq_lenW A B b.length ca cb a b w hlen rfl ha hb hl2
  · have hd : ((a.length : Int) != b.length) = true := by simp; omega
    clear ha hb
    go_enter Tryz.func37, Tryz.ntmps37
    go_wp2_with fail
    go_ret
    exact TellsP.f (fun h => hlen (by rw [h])) (Later.refl _)

theorem rowEq_nW (A B : Option Addr) (n m ca cb : Nat) (a b : List Val3) (w : World) (hn : n = a.length) (hm : m = b.length) (ha : Has w A (fl a)) (hb : Has w B (fl b)) (hl : n ≤ 9223372036854775807) (hl2 : m ≤ 9223372036854775807) :
    Calls Tryz.prog 37 #[.slice A n ca, .slice B m cb] w (TellsP (a = b) w) := by
  subst hn hm; exact rowEq_anyW A B ca cb a b w ha hb hl hl2
set_option maxRecDepth 100000 in
theorem same1_anyW (A B : Option Addr) (n m ca cb : Nat) (a b : List Val3) (w : World) (hn : n = a.length) (hm : m = b.length) (ha : Has w A (fl a)) (hb : Has w B (fl b)) (hl : n ≤ 9223372036854775807) (hl2 : m ≤ 9223372036854775807) :
    Calls Tryz.prog 36 #[.slice A n ca, .slice B m cb] w (TellsP (a = b) w) := by
  have H := Lib.hid (rowEq_nW A B n m ca cb a b w hn hm ha hb hl hl2)
  clear hn hm ha hb hl hl2
  go_enter Tryz.func36, Tryz.ntmps36
  go_wp2_with fail
  refine H.out.mono ?_
  rintro e w' ⟨r, hr, rfl, L⟩
  have HP := Lib.hid (show TellsP (a = b) w (.returned (.bool r)) w' from ⟨r, hr, rfl, L⟩)
  clear hr L H
  go_wp2_with fail
  go_ret
  exact HP.out
set_option maxRecDepth 100000 in
theorem refSameRow_anyW (A B : Option Addr) (n m ca cb : Nat) (a b : List Val3) (w : World) (hn : n = a.length) (hm : m = b.length) (ha : Has w A (fl a)) (hb : Has w B (fl b)) (hl : n ≤ 9223372036854775807) (hl2 : m ≤ 9223372036854775807) :
    Calls Tryz.prog 13 #[.slice A n ca, .slice B m cb] w (TellsP (a = b) w) := by
  have H := Lib.hid (sameValues_anyW A B ca cb a b w ha hb (by omega) (by omega))
  rw [← hn, ← hm] at H
  clear hn hm ha hb hl hl2
  go_enter Tryz.func13, Tryz.ntmps13
  go_wp2_with fail
  refine H.out.mono ?_
  rintro e w' ⟨r, hr, rfl, L⟩
  have HP := Lib.hid (show TellsP (a = b) w (.returned (.bool r)) w' from ⟨r, hr, rfl, L⟩)
  clear hr L H
  go_wp2_with fail
  go_ret
  exact HP.out
theorem lrows_yesW {ss ts : List SlV} {k : Nat} (h1 : k < ss.length) (h2 : k < ts.length) (hp : (ss.take k).map (·.l) = (ts.take k).map (·.l)) (h : ss[k].l = ts[k].l) : (ss.take (k + 1)).map (·.l) = (ts.take (k + 1)).map (·.l) := by
  rw [List.take_succ_eq_append_getElem h1, List.take_succ_eq_append_getElem h2, List.map_append, List.map_append, hp, List.map_singleton, List.map_singleton, h]
theorem lrows_noW {ss ts : List SlV} {k : Nat} (h1 : k < ss.length) (h2 : k < ts.length) (h : ss[k].l ≠ ts[k].l) : ss.map (·.l) ≠ ts.map (·.l) := fun e => h (by
  have e1 : (ss.map (·.l))[k]? = (ts.map (·.l))[k]? := by rw [e]
  rw [List.getElem?_map, List.getElem?_map, List.getElem?_eq_getElem h1, List.getElem?_eq_getElem h2] at e1
  injection e1)

set_option maxRecDepth 100000 in
set_option maxHeartbeats 2000000 in
theorem equalFunc_lenW (A B : Option Addr) (n c d : Nat) (ss ts : List SlV) (w : World) (hn : n = ss.length) (hm : n = ts.length) (hl : n ≤ 1000) (ha : RowsAt w A ss) (hb : RowsAt w B ts) (la : ∀ s ∈ ss, s.l.length ≤ 9223372036854775807) (lb : ∀ s ∈ ts, s.l.length ≤ 9223372036854775807) :
    Calls Tryz.prog 35 #[.slice A n c, .slice B n d, .func (.func 36) #[] #[]] w (TellsP (ss.map (·.l) = ts.map (·.l)) w) := by
  have eg : ∀ args w, (callFunc 36 args).run Tryz.prog w = .ok (.enter 36 args) w := enters_of Tryz.func36 (by kernel_rfl) rfl
  have HN := Lib.hid hn
  have HM := Lib.hid hm
  have HA := Lib.hid ha
  have HB := Lib.hid hb
  have HLA := Lib.hid la
  have HLB := Lib.hid lb
  have hnn : ((n : Int) != (n : Int)) = false := by simp
  clear hn hm ha hb la lb
  go_enter Tryz.func35, Tryz.ntmps35
  go_wp2_with fail
  go_loopw [17] (fun i wr => ∃ j : Nat, j ≤ n ∧ i = .int .i64 j ∧ (ss.take j).map (·.l) = (ts.take j).map (·.l) ∧ Later w wr) (fun i _ => n - (intOf i).toNat)
  case atStart => exact ⟨0, Nat.zero_le _, rfl, by simp, Later.refl _⟩
  case round =>
    obtain ⟨j, hj, rfl, heq, lat⟩ := hrel
    by_cases hlt : j < n
    · have hj1 : j < ss.length := by have := HN.out; omega
      have hj2 : j < ts.length := by have := HM.out; omega
      obtain ⟨b1, o1, hA1, c0, hh1, _⟩ := (HA.out.later lat).get j hj1
      obtain ⟨b2, o2, hB1, d0, hh2, _⟩ := (HB.out.later lat).get j hj2
      subst hA1 hB1
      have l1 := HLA.out _ (List.getElem_mem hj1)
      have l2 := HLB.out _ (List.getElem_mem hj2)
      have HY := Lib.hid (fun h => lrows_yesW hj1 hj2 heq h)
      have HX := Lib.hid (fun h => lrows_noW hj1 hj2 h)
      have HC := Lib.hid (fun W (l : Later wr W) => same1_anyW ss[j].a ts[j].a ss[j].l.length ts[j].l.length ss[j].c ts[j].c ss[j].l ts[j].l W rfl rfl (hh1.later l) (hh2.later l) (by omega) (by omega))
      have HLAT := Lib.hid lat
      generalize ss[j].a = ra at c0 HC
      generalize ss[j].c = rc at c0 HC
      generalize ts[j].a = sa at d0 HC
      generalize ts[j].c = sc at d0 HC
      obtain ⟨x, hx⟩ : ∃ x, ss[j].l = x := ⟨_, rfl⟩
      obtain ⟨y, hy⟩ : ∃ y, ts[j].l = y := ⟨_, rfl⟩
      rw [hx] at HC HY HX c0
      rw [hy] at HC HY HX d0
      generalize x.length = xl at c0 HC
      generalize y.length = yl at d0 HC
      clear heq lat hh1 hh2 hx hy l1 l2
      by_cases he : x = y
      · have HE := Lib.hid (HY.out he)
        have HEQ := Lib.hid he
        clear he HY HX
        go_wp2_with fail
        refine (HC.out wr (Later.refl _)).mono ?_
        intro e wX h
        obtain ⟨rfl, lX⟩ := h.yes HEQ.out
        have HLX := Lib.hid (HLAT.out.trans lX)
        clear h lX HC c0 d0
        go_wp2_with fail
        go_roundw
        all_goals first
          | exact ⟨j + 1, hlt, by go_num, HE.out, HLX.out⟩
          | (simp [intOf]; omega)
      · have HE := Lib.hid (HX.out he)
        have HEQ := Lib.hid he
        clear he HY HX
        go_wp2_with fail
        refine (HC.out wr (Later.refl _)).mono ?_
        intro e wX h
        obtain ⟨rfl, lX⟩ := h.no HEQ.out
        have HLX := Lib.hid (HLAT.out.trans lX)
        clear h lX HC c0 d0
        go_wp2_with fail
        go_ret
        exact TellsP.f HE.out HLX.out
    · have HE := Lib.hid (show ss.map (·.l) = ts.map (·.l) by
        rw [List.take_of_length_le (by have := HN.out; omega), List.take_of_length_le (by have := HM.out; omega)] at heq; exact heq)
      have HLAT := Lib.hid lat
      clear heq lat
      go_wp2_with fail
      go_ret
      exact TellsP.t HE.out HLAT.out
set_option maxRecDepth 100000 in
theorem equalFunc_anyW (A B : Option Addr) (n m c d : Nat) (ss ts : List SlV) (w : World) (hn : n = ss.length) (hm : m = ts.length) (hl : n ≤ 1000) (hl2 : m ≤ 1000) (ha : RowsAt w A ss) (hb : RowsAt w B ts) (la : ∀ s ∈ ss, s.l.length ≤ 9223372036854775807) (lb : ∀ s ∈ ts, s.l.length ≤ 9223372036854775807) :
    Calls Tryz.prog 35 #[.slice A n c, .slice B m d, .func (.func 36) #[] #[]] w (TellsP (ss.map (·.l) = ts.map (·.l)) w) := by
  by_cases hlen : n = m
  · subst hlen
    exact equalFunc_lenW A B n c d ss ts w hn hm hl ha hb la lb
  · have hd : ((n : Int) != (m : Int)) = true := by simp; omega
    have HX := Lib.hid (show ¬ ss.map (·.l) = ts.map (·.l) from fun e => hlen (by rw [hn, hm]; simpa using congrArg List.length e))
    clear ha hb la lb hn hm
    go_enter Tryz.func35, Tryz.ntmps35
    go_wp2_with fail
    go_ret
    exact TellsP.f HX.out (Later.refl _)

set_option maxRecDepth 100000 in
set_option maxHeartbeats 2000000 in
theorem refSameRows_lenW (A B : Option Addr) (n c d : Nat) (ss ts : List SlV) (w : World) (hn : n = ss.length) (hm : n = ts.length) (hl : n ≤ 1000) (ha : RowsAt w A ss) (hb : RowsAt w B ts) (la : ∀ s ∈ ss, s.l.length ≤ 9223372036854775807) (lb : ∀ s ∈ ts, s.l.length ≤ 9223372036854775807) :
    Calls Tryz.prog 19 #[.slice A n c, .slice B n d] w (TellsP (ss.map (·.l) = ts.map (·.l)) w) := by
  have HN := Lib.hid hn
  have HM := Lib.hid hm
  have HA := Lib.hid ha
  have HB := Lib.hid hb
  have HLA := Lib.hid la
  have HLB := Lib.hid lb
  have hnn : ((n : Int) != (n : Int)) = false := by simp
  clear hn hm ha hb la lb
  go_enter Tryz.func19, Tryz.ntmps19
  go_wp2_with fail
  go_loopw [5] (fun i wr => ∃ j : Nat, j ≤ n ∧ i = .int .i64 j ∧ (ss.take j).map (·.l) = (ts.take j).map (·.l) ∧ Later w wr) (fun i _ => n - (intOf i).toNat)
  case atStart => exact ⟨0, Nat.zero_le _, rfl, by simp, Later.refl _⟩
  case round =>
    obtain ⟨j, hj, rfl, heq, lat⟩ := hrel
    by_cases hlt : j < n
    · have hj1 : j < ss.length := by have := HN.out; omega
      have hj2 : j < ts.length := by have := HM.out; omega
      obtain ⟨b1, o1, hA1, c0, hh1, _⟩ := (HA.out.later lat).get j hj1
      obtain ⟨b2, o2, hB1, d0, hh2, _⟩ := (HB.out.later lat).get j hj2
      subst hA1 hB1
      have l1 := HLA.out _ (List.getElem_mem hj1)
      have l2 := HLB.out _ (List.getElem_mem hj2)
      have HY := Lib.hid (fun h => lrows_yesW hj1 hj2 heq h)
      have HX := Lib.hid (fun h => lrows_noW hj1 hj2 h)
      have HC := Lib.hid (fun W (l : Later wr W) => refSameRow_anyW ss[j].a ts[j].a ss[j].l.length ts[j].l.length ss[j].c ts[j].c ss[j].l ts[j].l W rfl rfl (hh1.later l) (hh2.later l) (by omega) (by omega))
      have HLAT := Lib.hid lat
      generalize ss[j].a = ra at c0 HC
      generalize ss[j].c = rc at c0 HC
      generalize ts[j].a = sa at d0 HC
      generalize ts[j].c = sc at d0 HC
      obtain ⟨x, hx⟩ : ∃ x, ss[j].l = x := ⟨_, rfl⟩
      obtain ⟨y, hy⟩ : ∃ y, ts[j].l = y := ⟨_, rfl⟩
      rw [hx] at HC HY HX c0
      rw [hy] at HC HY HX d0
      generalize x.length = xl at c0 HC
      generalize y.length = yl at d0 HC
      clear heq lat hh1 hh2 hx hy l1 l2
      by_cases he : x = y
      · have HE := Lib.hid (HY.out he)
        have HEQ := Lib.hid he
        clear he HY HX
        go_wp2_with fail
        go_region_held3 (fun w' => w'.cell? ⟨b1, o1 + j, none⟩ = some (.slice ra xl rc) ∧ w'.cell? ⟨b2, o2 + j, none⟩ = some (.slice sa yl sc)) (exact ⟨c0, d0⟩) (first | (go_at_call 13; refine (HC.out _ ((Later.refl wr).drew)).mono ?_; intro e wX h; obtain ⟨rfl, lX⟩ := h.yes HEQ.out; have c0 := lX.cell c0; have d0 := lX.cell d0; have HLX := Lib.hid (HLAT.out.trans ((Later.refl wr).drew.trans lX)); clear lX h))
        go_wp2_with fail
        go_roundw
        all_goals first
          | exact ⟨j + 1, hlt, by go_num, HE.out, HLX.out⟩
          | (simp [intOf]; omega)
      · have HE := Lib.hid (HX.out he)
        have HEQ := Lib.hid he
        clear he HY HX
        go_wp2_with fail
        go_region_held3 (fun w' => w'.cell? ⟨b1, o1 + j, none⟩ = some (.slice ra xl rc) ∧ w'.cell? ⟨b2, o2 + j, none⟩ = some (.slice sa yl sc)) (exact ⟨c0, d0⟩) (first | (go_at_call 13; refine (HC.out _ ((Later.refl wr).drew)).mono ?_; intro e wX h; obtain ⟨rfl, lX⟩ := h.no HEQ.out; have c0 := lX.cell c0; have d0 := lX.cell d0; have HLX := Lib.hid (HLAT.out.trans ((Later.refl wr).drew.trans lX)); clear lX h))
        go_wp2_with fail
        go_ret
        exact TellsP.f HE.out HLX.out
    · have HE := Lib.hid (show ss.map (·.l) = ts.map (·.l) by
        rw [List.take_of_length_le (by have := HN.out; omega), List.take_of_length_le (by have := HM.out; omega)] at heq; exact heq)
      have HLAT := Lib.hid lat
      clear heq lat
      go_wp2_with fail
      go_ret
      exact TellsP.t HE.out HLAT.out
set_option maxRecDepth 100000 in
theorem refSameRows_anyW (A B : Option Addr) (n m c d : Nat) (ss ts : List SlV) (w : World) (hn : n = ss.length) (hm : m = ts.length) (hl : n ≤ 1000) (hl2 : m ≤ 1000) (ha : RowsAt w A ss) (hb : RowsAt w B ts) (la : ∀ s ∈ ss, s.l.length ≤ 9223372036854775807) (lb : ∀ s ∈ ts, s.l.length ≤ 9223372036854775807) :
    Calls Tryz.prog 19 #[.slice A n c, .slice B m d] w (TellsP (ss.map (·.l) = ts.map (·.l)) w) := by
  by_cases hlen : n = m
  · subst hlen
    exact refSameRows_lenW A B n c d ss ts w hn hm hl ha hb la lb
  · have hd : ((n : Int) != (m : Int)) = true := by simp; omega
    have HX := Lib.hid (show ¬ ss.map (·.l) = ts.map (·.l) from fun e => hlen (by rw [hn, hm]; simpa using congrArg List.length e))
    clear ha hb la lb hn hm
    go_enter Tryz.func19, Tryz.ntmps19
    go_wp2_with fail
    go_ret
    exact TellsP.f HX.out (Later.refl _)

set_option maxRecDepth 100000 in
theorem sameRows_anyW (A B : Option Addr) (n m c d : Nat) (ss ts : List SlV) (w : World) (hn : n = ss.length) (hm : m = ts.length) (hl : n ≤ 1000) (hl2 : m ≤ 1000) (ha : RowsAt w A ss) (hb : RowsAt w B ts) (la : ∀ s ∈ ss, s.l.length ≤ 9223372036854775807) (lb : ∀ s ∈ ts, s.l.length ≤ 9223372036854775807) :
    Calls Tryz.prog 16 #[.slice A n c, .slice B m d] w (TellsP (ss.map (·.l) = ts.map (·.l)) w) := by
  have H := Lib.hid (equalFunc_anyW A B n m c d ss ts w hn hm hl hl2 ha hb la lb)
  clear hn hm ha hb la lb
  go_enter Tryz.func16, Tryz.ntmps16
  go_wp2_with fail
  refine H.out.mono ?_
  rintro e w' ⟨r, hr, rfl, L⟩
  have HP := Lib.hid (show TellsP (ss.map (·.l) = ts.map (·.l)) w (.returned (.bool r)) w' from ⟨r, hr, rfl, L⟩)
  clear hr L H
  go_wp2_with fail
  go_ret
  exact HP.out
end Go.Proofs.YtlfmmhbaphnifaaRRRRGreatDoor
