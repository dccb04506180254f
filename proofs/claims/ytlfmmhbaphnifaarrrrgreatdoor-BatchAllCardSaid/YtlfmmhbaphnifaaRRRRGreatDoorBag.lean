/- How rows stand: batch.exact, slices.CompareFunc; slices.Clone and SortFunc of rows; batch.sorted, SameBag. -/
import Derived.Test.YtlfmmhbaphnifaaRRRRGreatDoorSameR
import Derived.Test.YtlfmmhbaphnifaaRRRRGreatDoorBagM
import Derived.Test.YtlfmmhbaphnifaaRRRRGreatDoorRCmp
import Derived.Test.YtlfmmhbaphnifaaRRRRGreatDoorRis
import Derived.Shelf.SlSortCmp.QuietGrown
import Derived.Shelf.SlSortCmp.Whole1
namespace Go.Proofs.YtlfmmhbaphnifaaRRRRGreatDoor
open Go.RowKit
set_option linter.unusedVariables false

theorem nan_str (a : ByteArray) (w : World) : Calls Tryz.prog 85 #[.string a] w fun e w' => e = .returned (.bool false) ∧ w = w' := by
  have h : (a.toList != a.toList) = false := by simp
  go_enter Tryz.func85, Tryz.ntmps85
  go_wp2_with fail
  go_ret
  exact ⟨rfl, rfl⟩
theorem cmp_str (a b : ByteArray) (w : World) : Calls Tryz.prog 71 #[.string a, .string b] w fun e w' => e = .returned (.int .i64 (cmpS a.data.toList b.data.toList)) ∧ w = w' := by
  have hlt := less_iff a.data.toList b.data.toList
  have hgt := less_iff b.data.toList a.data.toList
  have ht := cmpS_turn a.data.toList b.data.toList
  have hin := cmpS_in a.data.toList b.data.toList
  have hez := fun (h : cmpS a.data.toList b.data.toList = 0) => show (a.toList == b.toList) = true by rw [Lib.toList_data, Lib.toList_data, cmpS_zero _ _ h]; simp
  have hen := fun (h : cmpS a.data.toList b.data.toList ≠ 0) => show (a.toList == b.toList) = false by
    rw [beq_eq_false_iff_ne, Lib.toList_data, Lib.toList_data]
    intro e
    rw [e, cmpS_self] at h
    exact h rfl
  rw [← Lib.toList_data, ← Lib.toList_data] at *
  generalize cmpS a.toList b.toList = v at *
  generalize cmpS b.toList a.toList = u at *
  have HIN := Lib.hid hin
  have HT := Lib.hid ht
  have HEQ := Lib.hid hez
  have HNE := Lib.hid hen
  clear hin ht hez hen
  rcases HIN.out with rfl | rfl | rfl
  · have : u = 1 := by have := HT.out; omega
    subst this
    simp only [show decide ((-1 : Int) < 0) = true from rfl, show decide ((1 : Int) < 0) = false from rfl] at hlt hgt
    go_enter Tryz.func71, Tryz.ntmps71
    go_wp2_with (go_at_call 85; refine (nan_str _ w).mono ?_; rintro e w' ⟨rfl, rfl⟩)
    all_goals go_ret
    all_goals exact ⟨rfl, rfl⟩
  · have : u = 0 := by have := HT.out; omega
    subst this
    simp only [show decide ((0 : Int) < 0) = false from rfl] at hlt hgt
    have he := HEQ.out rfl
    go_enter Tryz.func71, Tryz.ntmps71
    go_wp2_with (go_at_call 85; refine (nan_str _ w).mono ?_; rintro e w' ⟨rfl, rfl⟩)
    all_goals go_ret
    all_goals exact ⟨rfl, rfl⟩
  · have : u = -1 := by have := HT.out; omega
    subst this
    simp only [show decide ((-1 : Int) < 0) = true from rfl, show decide ((1 : Int) < 0) = false from rfl] at hlt hgt
    have he := HNE.out (by decide)
    go_enter Tryz.func71, Tryz.ntmps71
    go_wp2_with (go_at_call 85; refine (nan_str _ w).mono ?_; rintro e w' ⟨rfl, rfl⟩)
    all_goals go_ret
    all_goals exact ⟨rfl, rfl⟩

def or3 (a b c : Int) : Int := if a ≠ 0 then a else if b ≠ 0 then b else c
set_option maxRecDepth 100000 in
theorem orI_any (g : Nat) (a b c : Int) (w : World) (h0 : w.cell? ⟨g, 0, none⟩ = some (.int .i64 a)) (h1 : w.cell? ⟨g, 1, none⟩ = some (.int .i64 b)) (h2 : w.cell? ⟨g, 2, none⟩ = some (.int .i64 c)) :
    Calls Tryz.prog 68 #[.slice (some ⟨g, 0, none⟩) 3 3] w fun e w' => e = .returned (.int .i64 (or3 a b c)) ∧ w = w' := by
  have HR := Lib.hid (show or3 a b c = if a ≠ 0 then a else if b ≠ 0 then b else c from rfl)
  go_enter Tryz.func68, Tryz.ntmps68
  go_wp2_with fail
  refine wp_loop_rounds 4 ?_
  by_cases ha : a = 0
  · subst ha
    by_cases hb : b = 0
    · subst hb
      by_cases hc : c = 0
      · subst hc
        rw [rounds_succ]
        go_wp2_with fail
        rw [rounds_succ]
        go_wp2_with fail
        rw [rounds_succ]
        go_wp2_with fail
        rw [rounds_succ]
        go_wp2_with fail
        go_ret
        exact ⟨rfl, rfl⟩
      · have e : (c != 0) = true := by simp [hc]
        have HC := Lib.hid (show or3 0 0 c = c by simp [or3])
        clear hc HR
        rw [rounds_succ]
        go_wp2_with fail
        rw [rounds_succ]
        go_wp2_with fail
        rw [rounds_succ]
        go_wp2_with fail
        go_ret
        rw [HC.out]
        exact ⟨rfl, rfl⟩
    · have e : (b != 0) = true := by simp [hb]
      have HC := Lib.hid (show or3 0 b c = b by simp [or3, hb])
      clear hb HR
      rw [rounds_succ]
      go_wp2_with fail
      rw [rounds_succ]
      go_wp2_with fail
      go_ret
      rw [HC.out]
      exact ⟨rfl, rfl⟩
  · have e : (a != 0) = true := by simp [ha]
    have HC := Lib.hid (show or3 a b c = a by simp [or3, ha])
    clear ha HR
    rw [rounds_succ]
    go_wp2_with fail
    go_ret
    rw [HC.out]
    exact ⟨rfl, rfl⟩
theorem orI_blk (g : Nat) (a b c : Int) (w : World) (h : Blk w g #[.int .i64 a, .int .i64 b, .int .i64 c] 3) : Calls Tryz.prog 68 #[.slice (some ⟨g, 0, none⟩) 3 3] w fun e w' => e = .returned (.int .i64 (or3 a b c)) ∧ w = w' :=
  orI_any g a b c w (h.cell 0 _ rfl) (h.cell 1 _ rfl) (h.cell 2 _ rfl)
theorem exV_or (x y : Val3) : exV x y = or3 (cmpI x.1 y.1) (cmpI x.2.1 y.2.1) (cmpS x.2.2.data.toList y.2.2.data.toList) := rfl

set_option maxRecDepth 100000 in
set_option maxHeartbeats 2000000 in
theorem exact_any (x y : Val3) (w : World) : Calls Tryz.prog 55 #[vagg x.1 x.2.1 x.2.2, vagg y.1 y.2.1 y.2.2] w (GrowsInt (exV x y) w) := by
  rw [exV_or]
  obtain ⟨t, i, s⟩ := x
  obtain ⟨t', i', s'⟩ := y
  dsimp only
  obtain ⟨g1, hg1⟩ : ∃ x, w.heap.size = x := ⟨_, rfl⟩
  obtain ⟨g2, hg2⟩ : ∃ x, w.heap.size + 1 = x := ⟨_, rfl⟩
  obtain ⟨w1, hw1⟩ : ∃ w1 : World, (w.alloc (.cells #[.int .i64 t, .int .i64 i, .string s] 55)).alloc (.cells #[.int .i64 t', .int .i64 i', .string s'] 55) = w1 := ⟨_, rfl⟩
  have L1 : Grows w w1 := hw1 ▸ ((Grows.refl w).alloc _).alloc _
  have A1 : Blk w1 g1 #[.int .i64 t, .int .i64 i, .string s] 55 := hw1 ▸ (Blk.new w _ _ _ hg1.symm).later (Later.new _ _)
  have B1 : Blk w1 g2 #[.int .i64 t', .int .i64 i', .string s'] 55 := hw1 ▸ Blk.new _ _ _ _ (by simp [hg2])
  have HW := Lib.hid hw1
  have HL := Lib.hid L1
  have HG1 := Lib.hid hg1
  have HG2 := Lib.hid hg2
  have c0 := A1.cell 0 _ rfl
  have c1 := A1.cell 1 _ rfl
  have c2 := A1.cell 2 _ rfl
  have d0 := B1.cell 0 _ rfl
  have d1 := B1.cell 1 _ rfl
  have d2 := B1.cell 2 _ rfl
  clear hw1 L1 A1 B1 hg1 hg2
  go_enter Tryz.func55, Tryz.ntmps55
  go_wp2_with fail
  rw [HW.out, HG2.out, HG1.out]
  go_region_held3 (fun w' => w'.cell? ⟨g1, 0, none⟩ = some (.int .i64 t) ∧ w'.cell? ⟨g1, 1, none⟩ = some (.int .i64 i) ∧ w'.cell? ⟨g1, 2, none⟩ = some (.string s) ∧ w'.cell? ⟨g2, 0, none⟩ = some (.int .i64 t') ∧ w'.cell? ⟨g2, 1, none⟩ = some (.int .i64 i') ∧ w'.cell? ⟨g2, 2, none⟩ = some (.string s')) (first | exact ⟨c0, c1, c2, d0, d1, d2⟩ | exact ⟨(Later.new w1 _).drew.cell c0, (Later.new w1 _).drew.cell c1, (Later.new w1 _).drew.cell c2, (Later.new w1 _).drew.cell d0, (Later.new w1 _).drew.cell d1, (Later.new w1 _).drew.cell d2⟩) (first
    | (go_at_call 69; refine (cmp_int _ _ _).mono ?_; rintro e wX ⟨rfl, rfl⟩)
    | (go_at_call 70; refine (cmp_int64 _ _ _).mono ?_; rintro e wX ⟨rfl, rfl⟩)
    | (go_at_call 71; refine (cmp_str _ _ _).mono ?_; rintro e wX ⟨rfl, rfl⟩)
    | (go_at_call 68; refine (orI_blk _ (cmpI t t') (cmpI i i') (cmpS s.data.toList s'.data.toList) _ (by first | exact Blk.new _ _ _ _ rfl | exact (Blk.new _ _ _ _ rfl).drew)).mono ?_; rintro e wX ⟨rfl, rfl⟩))
  go_wp2_with fail
  go_ret
  exact ⟨rfl, (HL.out.alloc _).trans ⟨1, #[], by rw [Go.Sort.grow_empty]; rfl⟩⟩

theorem exR_drop {x y : List Val3} {j : Nat} (h1 : j < x.length) (h2 : j < y.length) : exR (x.drop j) (y.drop j) = if exV x[j] y[j] ≠ 0 then exV x[j] y[j] else exR (x.drop (j + 1)) (y.drop (j + 1)) := by
  rw [List.drop_eq_getElem_cons h1, List.drop_eq_getElem_cons h2]; rfl
theorem exR_short {x y : List Val3} {j : Nat} (h1 : j < x.length) (h2 : y.length ≤ j) : exR (x.drop j) (y.drop j) = 1 := by
  rw [List.drop_eq_getElem_cons h1, List.drop_of_length_le h2]; rfl
theorem exR_end {x y : List Val3} {j : Nat} (h1 : x.length ≤ j) : exR (x.drop j) (y.drop j) = if j < y.length then -1 else 0 := by
  rw [List.drop_of_length_le h1]
  by_cases h : j < y.length
  · rw [if_pos h, List.drop_eq_getElem_cons h]; rfl
  · rw [if_neg h, List.drop_of_length_le (by omega)]; rfl
/-- Where CompareFunc's loop stands. -/
def CfI (x y : List Val3) (w : World) (iv : Value) (wr : World) : Prop := ∃ j : Nat, iv = .int .i64 j ∧ j ≤ x.length ∧ j ≤ y.length ∧ exR x y = exR (x.drop j) (y.drop j) ∧ Grows w wr
theorem CfI.mk {x y : List Val3} {w wr : World} (z : Int) (j : Nat) (hz : z = (j : Int)) (h1 : j ≤ x.length) (h2 : j ≤ y.length) (h3 : exR x y = exR (x.drop j) (y.drop j)) (g : Grows w wr) : CfI x y w (.int .i64 z) wr := by
  subst hz; exact ⟨j, rfl, h1, h2, h3, g⟩
set_option maxRecDepth 100000 in
set_option maxHeartbeats 2000000 in
theorem compareRows_any (A B : Option Addr) (n m ca cb : Nat) (x y : List Val3) (w : World) (hn : n = x.length) (hm : m = y.length) (hl : n ≤ 1000) (hl2 : m ≤ 1000) (ha : Has w A (fl x)) (hb : Has w B (fl y)) :
    Calls Tryz.prog 54 #[.slice A n ca, .slice B m cb, .func (.func 55) #[] #[]] w (GrowsInt (exR x y) w) := by
  have eg : ∀ args w, (callFunc 55 args).run Tryz.prog w = .ok (.enter 55 args) w := enters_of Tryz.func55 (by kernel_rfl) rfl
  have HN := Lib.hid hn
  have HM := Lib.hid hm
  have HA := Lib.hid ha
  have HB := Lib.hid hb
  have HI0 := Lib.hid (CfI.mk (x := x) (y := y) (w := w) (wr := w) 0 0 rfl (Nat.zero_le _) (Nat.zero_le _) rfl (Grows.refl w))
  obtain ⟨v, hv⟩ : ∃ v, exR x y = v := ⟨_, rfl⟩
  have HV := Lib.hid hv
  rw [hv]
  clear hn hm ha hb hv
  go_enter Tryz.func54, Tryz.ntmps54
  go_wp2_with fail
  go_loopw [13] (fun iv wr => CfI x y w iv wr) (fun i _ => n - (intOf i).toNat)
  case atStart => exact HI0.out
  case round =>
    obtain ⟨j, rfl, hj1, hj2, hex, gr⟩ := hrel
    have HEX := Lib.hid (HV.out.symm.trans hex)
    have HEX2 := Lib.hid hex
    have HGR := Lib.hid gr
    clear HI0 hex
    by_cases hlt : j < n
    · have h1 : j < x.length := by have := HN.out; omega
      obtain ⟨b1, o1, hA1, c0, c1, c2⟩ := (HA.out.later gr.later).val3 j h1
      subst hA1
      by_cases hge : m ≤ j
      · have hgi : (m : Int) ≤ (j : Int) := by omega
        have HE := Lib.hid (show v = 1 from HEX.out.trans (exR_short h1 (by have := HM.out; omega)))
        generalize x[j].1 = t at c0
        generalize x[j].2.1 = i at c1
        generalize x[j].2.2 = s at c2
        clear gr
        go_wp2_with fail
        go_ret
        rw [HE.out]
        exact ⟨rfl, HGR.out.alloc _⟩
      · have hgi : (j : Int) < (m : Int) := by omega
        have h2 : j < y.length := by have := HM.out; omega
        obtain ⟨b2, o2, hB1, d0, d1, d2⟩ := (HB.out.later gr.later).val3 j h2
        subst hB1
        have HST := Lib.hid (HEX.out.trans (exR_drop h1 h2))
        have HST2 := Lib.hid (fun h => HEX2.out.trans ((exR_drop h1 h2).trans (if_neg (fun k => k h))))
        obtain ⟨g1, hg1⟩ : ∃ z, wr.heap.size = z := ⟨_, rfl⟩
        obtain ⟨g2, hg2⟩ : ∃ z, wr.heap.size + 1 = z := ⟨_, rfl⟩
        obtain ⟨r, hr⟩ : ∃ r, exV x[j] y[j] = r := ⟨_, rfl⟩
        have HXC := Lib.hid (fun W => exact_any x[j] y[j] W)
        rw [hr] at HST HST2 HXC
        generalize x[j].1 = t at c0 HXC
        generalize x[j].2.1 = i at c1 HXC
        generalize x[j].2.2 = s at c2 HXC
        generalize y[j].1 = t' at d0 HXC
        generalize y[j].2.1 = i' at d1 HXC
        generalize y[j].2.2 = s' at d2 HXC
        obtain ⟨w1, hw1⟩ : ∃ w1 : World, wr.alloc (.cells #[.int .i64 t, .int .i64 i, .string s] 55) = w1 := ⟨_, rfl⟩
        obtain ⟨w2, hw2⟩ : ∃ w2 : World, w1.alloc (.cells #[.int .i64 t', .int .i64 i', .string s'] 55) = w2 := ⟨_, rfl⟩
        have gg : Grows wr w2 := hw2 ▸ (hw1 ▸ (Grows.new wr _)).alloc _
        have A2 : Blk w2 g1 #[.int .i64 t, .int .i64 i, .string s] 55 := hw2 ▸ (show Blk w1 g1 _ _ from hw1 ▸ Blk.new wr _ _ _ hg1.symm).later (Later.new _ _)
        have B2 : Blk w2 g2 #[.int .i64 t', .int .i64 i', .string s'] 55 := hw2 ▸ Blk.new _ _ _ _ (by rw [← hw1, ← hg2]; simp)
        have hs1 : w1.heap.size = g2 := by rw [← hw1, ← hg2]; simp
        have HGG := Lib.hid gg
        have l1 : Later wr w1 := hw1 ▸ Later.new _ _
        have e0 := l1.cell d0
        have e1 := l1.cell d1
        have e2 := l1.cell d2
        have k0 := A2.cell 0 _ rfl
        have k1 := A2.cell 1 _ rfl
        have k2 := A2.cell 2 _ rfl
        have q0 := B2.cell 0 _ rfl
        have q1 := B2.cell 1 _ rfl
        have q2 := B2.cell 2 _ rfl
        clear d0 d1 d2 hg2 gg A2 B2 l1 gr hr hge
        go_wp2_with fail
        refine (HXC.out _).mono ?_
        rintro e w3 ⟨rfl, g3⟩
        have HG3 := Lib.hid ((HGR.out.trans HGG.out).trans g3)
        clear HXC k0 k1 k2 q0 q1 q2 e0 e1 e2 c0 c1 c2 g3 hw1 hw2 hs1 hg1
        by_cases h0 : r = 0
        · have HN0 := Lib.hid (HST2.out h0)
          have hb : (r != 0) = false := by simp [h0]
          clear h0 HST HST2
          go_wp2_with fail
          go_roundw
          all_goals first
            | exact CfI.mk _ (j + 1) (by go_num) (by omega) (by omega) HN0.out HG3.out
            | (simp [intOf]; omega)
        · have HN0 := Lib.hid (show v = r by rw [HST.out, if_pos h0])
          have hb : (r != 0) = true := by simp [h0]
          clear h0 HST HST2
          go_wp2_with fail
          go_ret
          rw [HN0.out]
          exact ⟨rfl, HG3.out⟩
    · have HE := Lib.hid (show v = if j < y.length then -1 else 0 from HEX.out.trans (exR_end (by have := HN.out; omega)))
      clear gr
      by_cases hnm : n < m
      · have hni : (n : Int) < (m : Int) := by omega
        have HE2 := Lib.hid (show v = -1 by rw [HE.out, if_pos (by have := HN.out; have := HM.out; omega)])
        go_wp2_with fail
        go_ret
        rw [HE2.out]
        exact ⟨rfl, HGR.out⟩
      · have hni : ¬ (n : Int) < (m : Int) := by omega
        have HE2 := Lib.hid (show v = 0 by rw [HE.out, if_neg (by have := HN.out; have := HM.out; omega)])
        go_wp2_with fail
        go_ret
        rw [HE2.out]
        exact ⟨rfl, HGR.out⟩
/-- The closure of sorted. -/
theorem sorted1_any (A B : Option Addr) (n m ca cb : Nat) (x y : List Val3) (w : World) (hn : n = x.length) (hm : m = y.length) (hl : n ≤ 1000) (hl2 : m ≤ 1000) (ha : Has w A (fl x)) (hb : Has w B (fl y)) :
    Calls Tryz.prog 53 #[.slice A n ca, .slice B m cb] w (GrowsInt (exR x y) w) := by
  have H := Lib.hid (compareRows_any A B n m ca cb x y w hn hm hl hl2 ha hb)
  clear hn hm ha hb
  go_enter Tryz.func53, Tryz.ntmps53
  go_wp2_with fail
  refine H.out.mono ?_
  rintro e w2 ⟨rfl, g⟩
  have HG := Lib.hid g
  clear H g
  go_wp2_with fail
  go_ret
  exact ⟨rfl, HG.out⟩

set_option maxRecDepth 100000 in
theorem cloneR_any (A : Option Addr) (n c : Nat) (ss : List SlV) (w : World) (hn : n = ss.length) (hl : n ≤ 1000) (hr : RowsAt w A ss) (hz : A = none → c = 0) :
    Calls Tryz.prog 51 #[.slice A n c] w fun e w' => ∃ B cap, e = .returned (.slice B n cap) ∧ w'.ownsRow w.heap.size 27 1 (.slice B n cap) n (ss.map SlV.v) ∧ (B = none → cap = 0) ∧ Later w w' := by
  have q22 : ∀ (w : World) (a : Option Addr) (n c n' c' : Nat), (binOp .eql 22 (.slice a n c) (.slice none n' c')).run Tryz.prog w = .ok (.bool a.isNone) w := fun w a n c n' c' => Lib.run_eql_slice_nil w _ _ a n c n' c' Tryz.underlying22
  rcases A with _ | a
  · have h0 : ss = [] := by
      rcases hr.1 with h | ⟨_, _, h, _⟩
      · simpa using h
      · cases h
    subst h0
    have hn0 : n = 0 := hn
    clear hn hl
    subst hn0
    have qn : ∀ (w : World), (binOp .eql 22 (.slice none 0 c) (.slice none 0 0)).run Tryz.prog w = .ok (.bool true) w := fun w => q22 w none 0 c 0 0
    clear hr q22 hz
    go_enter Tryz.func51, Tryz.ntmps51
    go_wp2_with fail
    go_ret
    exact ⟨none, 0, rfl, ownG_nil _ _ _ _, (fun _ => rfl), Later.refl _⟩
  · have l1 := Later.new w (.cells ([] : List Value).toArray 27)
    have OW := Lib.hid ((Blk.new w ([] : List Value).toArray 27 _ rfl).ownG (base := w.heap.size) (size := 1) (n := 0) (Nat.le_refl _) rfl (by decide))
    have HR := Lib.hid (hr.1.later l1)
    have HL1 := Lib.hid l1
    have HNN := Lib.hid (show (ss.map SlV.v).length = n * 1 by rw [List.length_map, hn]; omega)
    have HONE := Lib.hid (show ∀ u ∈ ss.map SlV.v, u.oneCell' = true from fun u hu => by obtain ⟨s, _, rfl⟩ := List.mem_map.1 hu; rfl)
    clear hr l1 hn hz
    go_enter Tryz.func51, Tryz.ntmps51
    go_wp2_with (at_builtin; refine wpList_append_g _ rfl (.tmp 5) (.tmp 6) 22 rfl w.heap.size 27 _ 1 24 Tryz.underlying22 info_row rfl (by decide) _ 0 [] rfl OW.out _ n c (ss.map SlV.v) rfl HR.out HNN.out (by intro h; cases h) HONE.out (by unfold maxLen; omega) (by omega) ?_ ?_; (exact HL1.out.size); intro A2 c2 w6 o2 g2 b2 n2; simp only [Nat.zero_add, List.nil_append] at o2 ⊢; have HO2 := Lib.hid o2; have HB6 := Lib.hid (Later.of (HL1.out.below.trans b2)); have HN2 := Lib.hid n2; clear o2 g2 b2 n2)
    go_ret
    exact ⟨A2, c2, by simp, HO2.out, HN2.out, HB6.out⟩

/-- Rows that the sort may be asked about: they do not lie in block g. -/
abbrev RowIn (g : Nat) (w : World) := { s : SlV // s.okX (some g) w ∧ s.l.length ≤ 1000 }
instance (g : Nat) (w : World) : Inhabited (RowIn g w) := ⟨⟨⟨none, 0, []⟩, ⟨.inl rfl, Nat.zero_le _, Nat.zero_le _, fun _ => rfl⟩, Nat.zero_le _⟩⟩
def encRow {g : Nat} {w : World} (s : RowIn g w) : Value := s.1.v
def cfRow {g : Nat} {w : World} (s t : RowIn g w) : Int := exR s.1.l t.1.l
theorem swo_row (g : Nat) (w : World) : Go.Sort.SWO (Go.Proofs.ltOf (cfRow (g := g) (w := w))) where
  irrefl x := by unfold Go.Proofs.ltOf cfRow; rw [exR_X.self]; rfl
  trans x y z h1 h2 := by
    unfold Go.Proofs.ltOf cfRow at *
    rw [decide_eq_true_eq] at *
    exact exR_X.strict h1 (Int.le_of_lt h2)
  ntrans x y z h1 h2 := by
    unfold Go.Proofs.ltOf cfRow at *
    rw [decide_eq_false_iff_not] at *
    have a := exR_X.turn x.1.l y.1.l
    have b := exR_X.turn y.1.l z.1.l
    have c := exR_X.turn x.1.l z.1.l
    have := exR_X.trans z.1.l y.1.l x.1.l (by omega) (by omega)
    omega
theorem sortWorld_grown {α : Type} [Inhabited α] (enc : α → Value) (w : World) (g n : Nat) (d : Array α) (os : Array Obj) (hg : g < w.heap.size) : w.grownBy (Go.Proofs.sortWorld enc w g 0 n d os) (some g) := by
  refine ⟨rfl, rfl, rfl, ?_, ?_⟩
  · show w.heap.size ≤ ((w.heap.modify g _) ++ os).size
    rw [Array.size_append, Array.size_modify]; omega
  · intro k hk hne
    show ((w.heap.modify g _) ++ os)[k]? = w.heap[k]?
    rw [Array.getElem?_append_left (by rw [Array.size_modify]; omega), Array.getElem?_modify, if_neg (by rintro rfl; exact hne rfl)]

theorem insR_none (p : Option Addr) (cap : Nat) (fv : Value) (w : World) : Calls Tryz.prog 74 #[.slice p 0 cap, .int .i64 0, .int .i64 0, fv] w fun e w' => e = .returned (.tuple #[]) ∧ w = w' := by
  go_enter Tryz.func74, Tryz.ntmps74
  go_wp2
  refine wp_loop_rounds 1 ?_
  rw [rounds_succ]
  go_wp2
  go_end0
  exact ⟨rfl, rfl⟩
set_option maxRecDepth 100000 in
theorem pdqR_none (p : Option Addr) (cap : Nat) (lim : Int) (fv : Value) (w : World) : Calls Tryz.prog 66 #[.slice p 0 cap, .int .i64 0, .int .i64 0, .int .i64 lim, fv] w fun e w' => e = .returned (.tuple #[]) ∧ w = w' := by
  have hi := fun W => insR_none p cap fv W
  go_enter Tryz.func66, Tryz.ntmps66
  go_wp2
  refine wp_loop_rounds 1 ?_
  rw [rounds_succ]
  go_wp2_with (go_at_call 74; refine (hi _).mono ?_; rintro e w' ⟨rfl, rfl⟩)
  (try simp only [Exit.inBlock, Exit.then]); refine bodyPost_ret (results_none rfl _ _ _) rfl ?_
  exact ⟨rfl, rfl⟩
/-- slices.SortFunc at no rows. -/
theorem sortR_none (p : Option Addr) (cap : Nat) (fv : Value) (w : World) : Calls Tryz.prog 52 #[.slice p 0 cap, fv] w fun e w' => e = .returned (.tuple #[]) ∧ w = w' := by
  have hl := fun W => Tryz.bits_Len 0 W (by omega) (by omega)
  go_enter Tryz.func52, Tryz.ntmps52
  go_wp2_with (first | (go_at_call 67; refine (hl _).mono ?_; rintro e w' ⟨rfl, rfl⟩) | (go_at_call 66; refine (pdqR_none p cap _ fv _).mono ?_; rintro e w' ⟨rfl, rfl⟩))
  go_end0
  exact ⟨rfl, rfl⟩

set_option maxRecDepth 100000 in
theorem sortR_any (g cap : Nat) (ss : List SlV) (n base : Nat) (w : World) (hn : n = ss.length) (hl : n ≤ 1000) (hbase : base ≤ g) (ho : w.ownsRow base 27 1 (.slice (some ⟨g, 0, none⟩) n cap) n (ss.map SlV.v)) (hg : g < w.heap.size) (hx : ∀ s ∈ ss, s.okX (some g) w) (hlen : ∀ s ∈ ss, s.l.length ≤ 1000) :
    Calls Tryz.prog 52 #[.slice (some ⟨g, 0, none⟩) n cap, .func (.func 53) #[] #[]] w fun e w' => e = .returned (.tuple #[]) ∧ ∃ ts : List SlV, ts.length = n ∧ (ts.map (·.l)).Perm (ss.map (·.l)) ∧ (ts.map (·.l)).Pairwise (fun x y => exR x y ≤ 0) ∧ RowsAt w' (some ⟨g, 0, none⟩) ts ∧ Below base w w' := by
  have eg : ∀ args w, (callFunc 53 args).run Tryz.prog w = .ok (.enter 53 args) w := enters_of Tryz.func53 (by kernel_rfl) rfl
  obtain ⟨d, hd1⟩ : ∃ d : List (RowIn g w), d.map (fun s => s.1) = ss := ⟨ss.attach.map fun s => ⟨s.1, hx s.1 s.2, hlen s.1 s.2⟩, by
    rw [List.map_map]
    exact List.attach_map_subtype_val ss⟩
  have hdl : d.length = n := by rw [hn, ← hd1, List.length_map]
  have henc : d.map encRow = ss.map SlV.v := by
    rw [← hd1, List.map_map]; rfl
  have hH : Go.Sort.Holds encRow w g 0 d.toArray := by
    intro j hj
    have hj' : j < d.length := by simpa using hj
    have h1 := ho.cellAt j (by omega)
    have hv : (ss.map SlV.v)[j]? = some (encRow d[j]) := by rw [← henc, List.getElem?_map, List.getElem?_eq_getElem hj']; rfl
    rw [hv] at h1
    rw [Nat.zero_add, getElem!_pos d.toArray j hj, List.getElem_toArray]
    exact ⟨h1, ho.frozenAt j⟩
  have hcon := Any.slices_SortFunc Tryz.sortR encRow (fun _ => rfl) cfRow (swo_row g w) 53 #[] g 0 cap d.toArray w eg (fun m os dk hdk x y => by
    have gr := sortWorld_grown encRow w g m dk os hg
    have h := sorted1_any x.1.a y.1.a x.1.l.length y.1.l.length x.1.c y.1.c x.1.l y.1.l _ rfl rfl x.2.2 y.2.2 (x.2.1.1.grown gr (.inl rfl)).has (y.2.1.1.grown gr (.inl rfl)).has
    exact h) hH hg (by simp; omega)
  change Calls Tryz.prog 52 _ _ _ at hcon
  rw [List.size_toArray, hdl] at hcon
  refine hcon.mono ?_
  rintro e w' ⟨rfl, d', k, os, ⟨hps, _, hpp⟩, hso, rfl⟩
  have hps : d'.size = n := by simpa [hdl] using hps
  have gr := sortWorld_grown encRow w g k d' os hg
  refine ⟨rfl, d'.toList.map (fun s => s.1), by simp [hps], ?_, ?_, ⟨?_, fun s hs => ?_⟩, ?_⟩
  · have e1 : d'.extract 0 n = d' := by rw [← hps]; exact Array.extract_size
    have e2 : (d.toArray).extract 0 n = d.toArray := by
      have := Array.extract_size (xs := d.toArray)
      rwa [List.size_toArray, hdl] at this
    rw [e1, e2] at hpp
    have h2 : d'.toList.Perm d := by simpa using hpp
    have h3 := (h2.map (fun s => s.1)).map (fun s : SlV => s.l)
    rwa [hd1] at h3
  · rw [List.map_map, List.pairwise_map, List.pairwise_iff_getElem]
    intro i j hi hj hij
    rw [Array.length_toList] at hi hj
    have h := hso i j (Nat.zero_le _) hij (by omega)
    rw [getElem!_pos d' i hi, getElem!_pos d' j hj] at h
    unfold Go.Proofs.ltOf cfRow at h
    rw [decide_eq_false_iff_not] at h
    have := exR_X.turn d'[i].1.l d'[j].1.l
    simp only [Function.comp, Array.getElem_toList]
    omega
  · have hH2 := Go.Proofs.holds_sortWorld encRow w g 0 k d.toArray d' os hg hH (by simp [hps, hdl])
    refine .inr ⟨g, 0, rfl, Nat.lt_of_lt_of_le hg gr.size, fun j v hv => ?_⟩
    rw [List.map_map] at hv
    have hj := (List.getElem?_eq_some_iff.1 hv).1
    rw [List.length_map, Array.length_toList] at hj
    have h1 := (hH2 j hj).1
    rw [getElem!_pos d' j hj, Nat.zero_add] at h1
    rw [List.getElem?_map, List.getElem?_eq_getElem (by rw [Array.length_toList]; exact hj)] at hv
    injection hv with hv
    rw [Nat.zero_add, h1, ← hv, Array.getElem_toList]; rfl
  · obtain ⟨r, hr, rfl⟩ := List.mem_map.1 hs
    exact ⟨(r.2.1.1.grown gr (.inl rfl)).weak, r.2.1.2⟩
  · exact (Below.refl _ _).grown gr (by omega) fun q hq => by injection hq with hq; omega

/-- What sorted gives. -/
def SortedP (L : List (List Val3)) (n : Nat) (w : World) (e : Ending) (w' : World) : Prop :=
  ∃ (A : Option Addr) (c : Nat) (ts : List SlV), e = .returned (.slice A n c) ∧ ts.length = n ∧ (ts.map (·.l)).Perm L ∧ (ts.map (·.l)).Pairwise (fun x y => exR x y ≤ 0) ∧ RowsAt w' A ts ∧ Later w w'
set_option maxRecDepth 100000 in
theorem bsorted_any (A : Option Addr) (n c : Nat) (ss : List SlV) (w : World) (hn : n = ss.length) (hl : n ≤ 1000) (hr : RowsAt w A ss) (hz : A = none → c = 0) (hlen : ∀ s ∈ ss, s.l.length ≤ 1000) :
    Calls Tryz.prog 40 #[.slice A n c] w (SortedP (ss.map (·.l)) n w) := by
  have HC := Lib.hid (cloneR_any A n c ss w hn hl hr hz)
  have HR := Lib.hid hr
  have HN := Lib.hid hn
  have HLEN := Lib.hid hlen
  clear hn hr hz hlen
  go_enter Tryz.func40, Tryz.ntmps40
  go_wp2_with fail
  refine HC.out.mono ?_
  rintro e w1 ⟨B, cap, rfl, ho, hB, l1⟩
  have HL1 := Lib.hid l1
  clear HC
  by_cases h0 : ss = []
  · subst h0
    have hn0 : n = 0 := HN.out
    subst hn0
    clear ho l1
    go_wp2_with fail
    refine (sortR_none B cap _ w1).mono ?_
    rintro e w2 ⟨rfl, rfl⟩
    go_wp2_with fail
    go_ret
    exact ⟨B, cap, [], rfl, rfl, .refl _, List.Pairwise.nil, ⟨.inl rfl, fun s hs => by cases hs⟩, HL1.out⟩
  · have hp : 0 < n := by
      have := HN.out
      have := List.length_pos_iff.2 h0
      omega
    obtain ⟨g, cap', hv, hg, hlt⟩ := ho.form hp
    injection hv with hv1 _ hv2
    subst hv1 hv2
    have HS := Lib.hid (sortR_any g cap ss n w.heap.size w1 HN.out hl hg ho hlt (fun s hs => by
      obtain ⟨h1, h2⟩ := HR.out.2 s hs
      refine ⟨?_, h2⟩
      rcases h1 with h1 | ⟨b, off, hA, hb, _, hc⟩
      · exact .inl h1
      · exact .inr ⟨b, off, hA, Nat.lt_of_lt_of_le hb l1.size, (fun e => by injection e with e; omega), fun k v hv => l1.cell (hc k v hv)⟩) HLEN.out)
    clear ho l1 hg hlt hB h0
    go_wp2_with fail
    refine HS.out.mono ?_
    rintro e w2 ⟨rfl, ts, h1, h2, h3, h4, b2⟩
    have HP := Lib.hid (show SortedP (ss.map (·.l)) n w (.returned (.slice (some ⟨g, 0, none⟩) n cap)) w2 from ⟨_, _, ts, rfl, h1, h2, h3, h4, Later.of (HL1.out.below.trans b2)⟩)
    clear h1 h2 h3 h4 b2 HS
    go_wp2_with fail
    go_ret
    exact HP.out
set_option maxRecDepth 100000 in
theorem sameBag_any (A B : Option Addr) (n m c d : Nat) (ss ts : List SlV) (w : World) (hn : n = ss.length) (hm : m = ts.length) (hl : n ≤ 1000) (hl2 : m ≤ 1000) (ha : RowsAt w A ss) (hb : RowsAt w B ts) (za : A = none → c = 0) (zb : B = none → d = 0) (la : ∀ s ∈ ss, s.l.length ≤ 1000) (lb : ∀ s ∈ ts, s.l.length ≤ 1000) :
    Calls Tryz.prog 20 #[.slice A n c, .slice B m d] w (TellsP ((ss.map (·.l)).Perm (ts.map (·.l))) w) := by
  have HA := Lib.hid (bsorted_any A n c ss w hn hl ha za la)
  have HB := Lib.hid (fun W (l : Later w W) => bsorted_any B m d ts W hm hl2 (hb.later l) zb lb)
  have HLA := Lib.hid la
  have HLB := Lib.hid lb
  clear hn hm ha hb za zb la lb
  go_enter Tryz.func20, Tryz.ntmps20
  go_wp2_with fail
  refine HA.out.mono ?_
  rintro e w1 ⟨A1, c1, xs, rfl, x1, x2, x3, x4, l1⟩
  have HB1 := Lib.hid (HB.out w1 l1)
  have HL1 := Lib.hid l1
  have HX4 := Lib.hid x4
  clear x4 l1 HA HB
  go_wp2_with fail
  refine HB1.out.mono ?_
  rintro e w2 ⟨B1, d1, ys, rfl, y1, y2, y3, y4, l2⟩
  have len_of : ∀ {xs ss : List SlV}, (xs.map (·.l)).Perm (ss.map (·.l)) → (∀ s ∈ ss, s.l.length ≤ 1000) → ∀ s ∈ xs, s.l.length ≤ 1000 := fun {xs ss} hp h s hs => by
    have h1 := hp.mem_iff.1 (List.mem_map.2 ⟨s, hs, rfl⟩)
    obtain ⟨t, ht, e⟩ := List.mem_map.1 h1
    rw [← e]; exact h t ht
  have HS := Lib.hid (sameRows_any A1 B1 n m c1 d1 xs ys w2 x1.symm y1.symm hl hl2 (HX4.out.later l2) y4 (len_of x2 HLA.out) (len_of y2 HLB.out))
  have HIFF := Lib.hid (show xs.map (·.l) = ys.map (·.l) ↔ (ss.map (·.l)).Perm (ts.map (·.l)) from ⟨fun h => x2.symm.trans (h ▸ y2), fun h => sorted_unique exR_X x3 y3 (x2.trans (h.trans y2.symm))⟩)
  have HL2 := Lib.hid (HL1.out.trans l2)
  clear len_of x1 x2 x3 y1 y2 y3 y4 l2 HB1
  go_wp2_with fail
  refine HS.out.mono ?_
  rintro e w3 ⟨r, hr, rfl, l3⟩
  have HP := Lib.hid (show TellsP ((ss.map (·.l)).Perm (ts.map (·.l))) w (.returned (.bool r)) w3 from ⟨r, hr.trans HIFF.out, rfl, HL2.out.trans l3⟩)
  clear hr l3 HS
  go_wp2_with fail
  go_ret
  exact HP.out
end Go.Proofs.YtlfmmhbaphnifaaRRRRGreatDoor
