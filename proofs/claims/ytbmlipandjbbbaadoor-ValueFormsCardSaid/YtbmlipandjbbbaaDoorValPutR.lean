/- value.Put whole; the reference's Put. -/
import Derived.Test.YtbmlipandjbbbaaDoorValPut
namespace Go.Proofs.YtbmlipandjbbbaaDoor
open Go.RowKit
set_option linter.unusedVariables false

theorem valPut_yes (t i : Int) (s : ByteArray) (a0 a2 a3 a4 : Addr) (w : World) (hs : Sents w w.heap.size a0 a2 a3 a4) (hm : MayV t i s.size) :
    Calls Tryd.prog 19 #[.agg #[.int .i64 t, .int .i64 i, .string s]] w (Makes (putB t i s) w) := by
  by_cases h4 : t = 4
  · subst h4; exact valPut_text i s a0 a2 a3 a4 w hs hm
  · exact valPut_num t i s a0 a2 a3 a4 w hs hm h4

theorem topB_mod (v : Nat) : ∀ n m, n ≤ m → topB (v % 2 ^ (8 * m)) n = topB v n
  | 0, _, _ => rfl
  | n + 1, m, h => by
    simp only [topB, topB_mod v n m (by omega)]
    congr 1
    refine Nat.eq_of_testBit_eq fun j => ?_
    rw [show (256 : Nat) = 2 ^ 8 from rfl]
    simp only [Nat.testBit_mod_two_pow, Nat.testBit_div_two_pow]
    by_cases hj : j < 8
    · have : j + 8 * n < 8 * m := by omega
      simp [hj, this]
    · simp [hj]

theorem makes_row {l : List Nat} {w w' : World} {g : Nat} (h : Row w' g 5 .u8 l) (hg : w.heap.size ≤ g) (hm : l.length ≤ maxLen) (hb : Below w.heap.size w w') : Makes l w (.returned (.slice (some ⟨g, 0, none⟩) l.length l.length)) w' :=
  ⟨_, _, rfl, h.own hg hm, hb, fun h => by cases h⟩
theorem makes_two {l r : List Nat} {w w' : World} {A : Option Addr} {n c : Nat} (ho : w'.ownsRow w.heap.size 5 1 (.slice A n c) n (ints .u8 l ++ ints .u8 r)) (hn : n = (l ++ r).length) (hb : Below w.heap.size w w') (hc : A = none → c = 0) : Makes (l ++ r) w (.returned (.slice A n c)) w' := by
  subst hn
  exact ⟨A, c, rfl, by rw [ints_snoc]; exact ho, hb, hc⟩

theorem refHigh_2 (v : Nat) (hv : v < 18446744073709551616) (w : World) : Calls Tryd.prog 41 #[.int .u64 v, .int .i64 2] w fun e w' => e = .returned (.slice (some ⟨w.heap.size, 0, none⟩) 2 2) ∧ Row w' w.heap.size 5 .u8 (topB v 2) ∧ Below w.heap.size w w' := refHigh_makes v 2 hv (by decide) w
theorem refHigh_8 (v : Nat) (hv : v < 18446744073709551616) (w : World) : Calls Tryd.prog 41 #[.int .u64 v, .int .i64 8] w fun e w' => e = .returned (.slice (some ⟨w.heap.size, 0, none⟩) 8 8) ∧ Row w' w.heap.size 5 .u8 (topB v 8) ∧ Below w.heap.size w w' := refHigh_makes v 8 hv (by decide) w

set_option maxRecDepth 100000 in
theorem refPut_no (t i : Int) (s : ByteArray) (w : World) (hm : ¬ MayV t i s.size) :
    Calls Tryd.prog 20 #[.agg #[.int .i64 t, .int .i64 i, .string s]] w fun e w' => e = .returned (.slice none 0 0) ∧ Below w.heap.size w w' := by
  obtain ⟨w1, hw1⟩ : ∃ w1 : World, w.alloc (.cells #[.int .i64 t, .int .i64 i, .string s] 23) = w1 := ⟨_, rfl⟩
  have b1 : Below w.heap.size w w1 := hw1 ▸ (Below.refl _ _).alloc (Nat.le_refl _) _
  have HC := Lib.hid (refMay_any t i s w1)
  have HB := Lib.hid b1
  have HW := Lib.hid hw1
  clear hw1 b1
  go_enter Tryd.func20, Tryd.ntmps20
  go_wp2_with fail
  rw [HW.out]
  refine HC.out.mono ?_
  rintro e w2 ⟨r, hr, rfl, b2⟩
  have HB2 := Lib.hid (HB.out.trans (b2.mono HB.out.size))
  have hrf : r = false := by
    cases r with
    | false => rfl
    | true => exact absurd (hr.1 rfl) hm
  subst hrf
  clear b2 hr
  go_wp2_with fail
  go_ret
  exact ⟨rfl, HB2.out⟩

set_option maxRecDepth 100000 in
set_option maxHeartbeats 1000000 in
theorem refPut_num (t i : Int) (s : ByteArray) (w : World) (hm : MayV t i s.size) (h4 : t ≠ 4) :
    Calls Tryd.prog 20 #[.agg #[.int .i64 t, .int .i64 i, .string s]] w (Makes (putB t i s) w) := by
  obtain ⟨w1, hw1⟩ : ∃ w1 : World, w.alloc (.cells #[.int .i64 t, .int .i64 i, .string s] 23) = w1 := ⟨_, rfl⟩
  have b1 : Below w.heap.size w w1 := hw1 ▸ (Below.refl _ _).alloc (Nat.le_refl _) _
  have hlt : w.heap.size < w1.heap.size := by rw [← hw1]; simp
  have hc0 : w1.cell? ⟨w.heap.size, 0, none⟩ = some (.int .i64 t) := by rw [← hw1, World.cell?_alloc_at _ _ _ _ rfl]; rfl
  have hc1 : w1.cell? ⟨w.heap.size, 1, none⟩ = some (.int .i64 i) := by rw [← hw1, World.cell?_alloc_at _ _ _ _ rfl]; rfl
  have HC := Lib.hid (refMay_any t i s w1)
  have HB := Lib.hid b1
  have HW := Lib.hid hw1
  have HC0 := Lib.hid hc0
  have HC1 := Lib.hid hc1
  have ht03 : 0 ≤ t ∧ t ≤ 3 := by unfold MayV at hm; omega
  obtain ⟨tn, rfl⟩ : ∃ tn : Nat, t = (tn : Int) := ⟨t.toNat, by omega⟩
  have htm : (tn : Int) % 256 = (tn : Int) := by omega
  have hi3 : tn = 3 → 0 ≤ i ∧ i ≤ 1 := by unfold MayV at hm; omega
  clear hw1 b1 hc0 hc1
  go_enter Tryd.func20, Tryd.ntmps20
  go_wp2_with fail
  rw [HW.out]
  refine HC.out.mono ?_
  rintro e w2 ⟨r, hr, rfl, b2⟩
  have HB2 := Lib.hid (HB.out.trans (b2.mono HB.out.size))
  have hrt : r = true := hr.2 hm
  subst hrt
  have hc0 := (b2.cell (p := ⟨w.heap.size, 0, none⟩) hlt).trans HC0.out
  have hc1 := (b2.cell (p := ⟨w.heap.size, 1, none⟩) hlt).trans HC1.out
  have hlt2 : w.heap.size < w2.heap.size := block_lt_of_cell hc0
  obtain ⟨U, hU⟩ : ∃ U : Nat, U = (i % 18446744073709551616).toNat := ⟨_, rfl⟩
  have hwr : IntKind.u64.wrap i = (U : Int) := by rw [IntKind.wrap_u64]; omega
  have hU64 : U < 18446744073709551616 := by omega
  have HU3 := Lib.hid (show tn = 3 → (U : Int) = i ∧ U ≤ 1 from fun h => by have := hi3 h; omega)
  have HPUT := Lib.hid (show putB (tn : Int) i s = tn :: topB U (widthV (tn : Int)) from by unfold putB; rw [if_neg h4, ← hU]; rfl)
  have b3 : Below w2.heap.size w2 (w2.alloc (.cells #[.int .u8 (tn : Int)] 5)) := (Below.refl _ _).alloc (Nat.le_refl _) _
  have ROW := Lib.hid (Row.lit w2 5 .u8 [tn])
  have HB3 := Lib.hid (HB2.out.trans (b3.mono HB2.out.size))
  clear b2 hr HC HC0 HC1 HB HW hm hlt b3 hU
  rcases (show tn = 0 ∨ tn = 1 ∨ tn = 2 ∨ tn = 3 by omega) with rfl | rfl | rfl | rfl
  · go_wp2_with fail
    go_ret
    rw [HPUT.out]
    exact makes_row (l := [0]) ROW.out (Nat.le_of_lt hlt2) (by simp [maxLen]) HB3.out
  · have hp : topB U (widthV ((1 : Nat) : Int)) = topB (U % 65536) 2 := (topB_mod U 2 2 (by decide)).symm
    rw [hp] at HPUT
    obtain ⟨V, hV⟩ : ∃ V, V = U % 65536 := ⟨_, rfl⟩
    have hum : (U : Int) % 65536 = (V : Int) := by rw [hV]; simp
    have hV64 : V < 18446744073709551616 := by omega
    rw [← hV] at HPUT
    clear hp hV
    go_wp2_with fail
    obtain ⟨w3, hw3⟩ : ∃ w3 : World, w2.alloc (.cells #[.int .u8 1] 5) = w3 := ⟨_, rfl⟩
    rw [hw3]
    have ROW3 := Lib.hid (show Row w3 w2.heap.size 5 .u8 [1] from hw3 ▸ Row.lit w2 5 .u8 [1])
    have HB4 := Lib.hid (show Below w.heap.size w w3 from hw3 ▸ HB3.out)
    have zl : w2.heap.size < w3.heap.size := ROW3.out.lt
    clear hw3 ROW HB3 hc0 hc1
    refine (refHigh_2 V hV64 _).mono ?_
    rintro e w5 ⟨rfl, r5, b5⟩
    have OWN := Lib.hid (((ROW3.out.below b5 zl).own (base := w.heap.size) (Nat.le_of_lt hlt2) (by simp [maxLen])))
    have RD := Lib.hid (r5.rd)
    have HB5 := Lib.hid (HB4.out.trans (b5.mono HB4.out.size))
    have z5 : w.heap.size ≤ w5.heap.size := HB5.out.size
    clear r5 b5
    go_wp2_with (at_builtin; refine wpList_append_rd _ rfl (.tmp 15) (.tmp 20) 24 rfl w.heap.size 5 (.int .u8 0) 1 Tryd.underlying24 info_u8 rfl _ 1 (ints .u8 [1]) rfl OWN.out _ _ 2 2 (ints .u8 (topB V 2)) rfl RD.out ?_ ?_ (ints_one _ _) ?_ ?_ ?_ ?_; (rw [ints_length, topB_length]); (intro h; cases h); (simp [maxLen]); (simp); (exact z5); intro A2 c2 w6 o2 g2 b2 n2; have HO2 := Lib.hid o2; have HB6 := Lib.hid (HB5.out.trans b2); have HN2 := Lib.hid n2; clear o2 g2 b2 n2)
    go_ret
    first | rw [HPUT.out] | rw [show putB 1 i s = _ from HPUT.out]
    exact makes_two (l := [1]) HO2.out (by simp [topB_length]) HB6.out HN2.out
  · clear hi3
    go_wp2_with fail
    obtain ⟨w3, hw3⟩ : ∃ w3 : World, w2.alloc (.cells #[.int .u8 2] 5) = w3 := ⟨_, rfl⟩
    rw [hw3]
    have ROW3 := Lib.hid (show Row w3 w2.heap.size 5 .u8 [2] from hw3 ▸ Row.lit w2 5 .u8 [2])
    have HB4 := Lib.hid (show Below w.heap.size w w3 from hw3 ▸ HB3.out)
    have zl : w2.heap.size < w3.heap.size := ROW3.out.lt
    clear hw3 ROW HB3 hc0 hc1
    refine (refHigh_8 U hU64 _).mono ?_
    rintro e w5 ⟨rfl, r5, b5⟩
    have OWN := Lib.hid (((ROW3.out.below b5 zl).own (base := w.heap.size) (Nat.le_of_lt hlt2) (by simp [maxLen])))
    have RD := Lib.hid (r5.rd)
    have HB5 := Lib.hid (HB4.out.trans (b5.mono HB4.out.size))
    have z5 : w.heap.size ≤ w5.heap.size := HB5.out.size
    clear r5 b5
    go_wp2_with (at_builtin; refine wpList_append_rd _ rfl (.tmp 24) (.tmp 28) 24 rfl w.heap.size 5 (.int .u8 0) 1 Tryd.underlying24 info_u8 rfl _ 1 (ints .u8 [2]) rfl OWN.out _ _ 8 8 (ints .u8 (topB U 8)) rfl RD.out ?_ ?_ (ints_one _ _) ?_ ?_ ?_ ?_; (rw [ints_length, topB_length]); (intro h; cases h); (simp [maxLen]); (simp); (exact z5); intro A2 c2 w6 o2 g2 b2 n2; have HO2 := Lib.hid o2; have HB6 := Lib.hid (HB5.out.trans b2); have HN2 := Lib.hid n2; clear o2 g2 b2 n2)
    go_ret
    first | rw [HPUT.out] | rw [show putB 2 i s = _ from HPUT.out]
    exact makes_two (l := [2]) HO2.out (by simp [topB_length]) HB6.out HN2.out
  · obtain ⟨hUi, hU1⟩ := HU3.out rfl
    subst hUi
    have hwi : IntKind.u8.wrap (U : Int) = (U : Int) := by rw [IntKind.wrap_u8]; omega
    have hwi2 : (U : Int) % 256 = (U : Int) := by omega
    have htop : topB U (widthV ((3 : Nat) : Int)) = [U] := by
      show [U / 2 ^ (8 * 0) % 256] = [U]
      simp; omega
    rw [htop] at HPUT
    have RD := Lib.hid (rd_lit (w2.alloc (.cells #[.int .u8 3] 5)) 5 .u8 [U] _ rfl)
    rw [show (w2.alloc (.cells #[.int .u8 3] 5)).heap.size = w2.heap.size + 1 by simp] at RD
    have ROW3 := Lib.hid (show Row (w2.alloc (.cells #[.int .u8 3] 5)) w2.heap.size 5 .u8 [3] from Row.lit w2 5 .u8 [3])
    have OWN := Lib.hid ((ROW3.out.alloc (.cells #[.int .u8 (U : Int)] 5)).own (base := w.heap.size) (Nat.le_of_lt hlt2) (by simp [maxLen]))
    have HB5 := Lib.hid (Below.alloc (show Below w.heap.size w (w2.alloc (.cells #[.int .u8 3] 5)) from HB3.out) (show w.heap.size ≤ _ from by simp; omega) (.cells #[.int .u8 (U : Int)] 5))
    clear htop hi3 HU3 hwr ROW HB3 ROW3
    go_wp2_with (at_builtin; refine wpList_append_rd _ rfl (.tmp 32) (.tmp 36) 24 rfl w.heap.size 5 (.int .u8 0) 1 Tryd.underlying24 info_u8 rfl _ 1 (ints .u8 [3]) rfl OWN.out _ _ 1 1 (ints .u8 [U]) rfl RD.out ?_ ?_ (ints_one _ _) ?_ ?_ ?_ ?_; rfl; (intro h; cases h); (simp [maxLen]); (simp); (simp; omega); intro A2 c2 w6 o2 g2 b2 n2; have HO2 := Lib.hid o2; have HB6 := Lib.hid (HB5.out.trans b2); have HN2 := Lib.hid n2; clear o2 g2 b2 n2)
    go_ret
    first | rw [HPUT.out] | rw [show putB 3 U s = _ from HPUT.out]
    exact makes_two (l := [3]) (r := [U]) HO2.out rfl HB6.out HN2.out

set_option maxRecDepth 100000 in
set_option maxHeartbeats 1000000 in
theorem refPut_text (i : Int) (s : ByteArray) (w : World) (hm : MayV 4 i s.size) :
    Calls Tryd.prog 20 #[.agg #[.int .i64 4, .int .i64 i, .string s]] w (Makes (putB 4 i s) w) := by
  obtain ⟨w1, hw1⟩ : ∃ w1 : World, w.alloc (.cells #[.int .i64 4, .int .i64 i, .string s] 23) = w1 := ⟨_, rfl⟩
  have b1 : Below w.heap.size w w1 := hw1 ▸ (Below.refl _ _).alloc (Nat.le_refl _) _
  have hlt : w.heap.size < w1.heap.size := by rw [← hw1]; simp
  have hc0 : w1.cell? ⟨w.heap.size, 0, none⟩ = some (.int .i64 4) := by rw [← hw1, World.cell?_alloc_at _ _ _ _ rfl]; rfl
  have hc2 : w1.cell? ⟨w.heap.size, 2, none⟩ = some (.string s) := by rw [← hw1, World.cell?_alloc_at _ _ _ _ rfl]; rfl
  have HC := Lib.hid (refMay_any 4 i s w1)
  have HB := Lib.hid b1
  have HW := Lib.hid hw1
  have HC0 := Lib.hid hc0
  have HC2 := Lib.hid hc2
  have hs20 : s.size ≤ 20 := by unfold MayV at hm; omega
  have hsm : IntKind.u8.wrap (s.size : Int) = (s.size : Int) := by rw [IntKind.wrap_u8]; omega
  clear hw1 b1 hc0 hc2
  go_enter Tryd.func20, Tryd.ntmps20
  go_wp2_with fail
  rw [HW.out]
  refine HC.out.mono ?_
  rintro e w2 ⟨r, hr, rfl, b2⟩
  have HB2 := Lib.hid (HB.out.trans (b2.mono HB.out.size))
  have hrt : r = true := hr.2 hm
  subst hrt
  have hc0 := (b2.cell (p := ⟨w.heap.size, 0, none⟩) hlt).trans HC0.out
  have hc2 := (b2.cell (p := ⟨w.heap.size, 2, none⟩) hlt).trans HC2.out
  have hlt2 : w.heap.size < w2.heap.size := block_lt_of_cell hc0
  clear b2 hr HC HC0 HC2 HB HW hm hlt
  go_wp2_with fail
  obtain ⟨w3, hw3⟩ : ∃ w3 : World, w2.alloc (.cells #[.int .u8 4] 5) = w3 := ⟨_, rfl⟩
  rw [hw3]
  have b3 : Below w2.heap.size w2 w3 := hw3 ▸ (Below.refl _ _).alloc (Nat.le_refl _) _
  have ROW := Lib.hid (show Row w3 w2.heap.size 5 .u8 [4] from hw3 ▸ Row.lit w2 5 .u8 [4])
  have HB3 := Lib.hid (HB2.out.trans (b3.mono HB2.out.size))
  have hd0 := (b3.cell (p := ⟨w.heap.size, 0, none⟩) hlt2).trans hc0
  have hd2 := (b3.cell (p := ⟨w.heap.size, 2, none⟩) hlt2).trans hc2
  have z3 : w2.heap.size < w3.heap.size := ROW.out.lt
  have hwl : w.heap.size < w3.heap.size := by omega
  obtain ⟨g, hg⟩ : ∃ g, g = w2.heap.size := ⟨_, rfl⟩
  rw [← hg] at ROW z3 hlt2 ⊢
  clear hc0 hc2 b3 hw3 HB2 hg
  have HPUT := Lib.hid (show putB 4 i s = 4 :: s.size :: nums s from by unfold putB; rw [if_pos rfl]; rfl)
  have HOBJ := Lib.hid (show (w3.alloc (.cells #[.int .u8 (s.size : Int)] 5)).drew.cell? ⟨w.heap.size, 2, none⟩ = some (.string s) from (World.cell?_alloc_past _ _ _ hwl).trans hd2)
  have OWN := Lib.hid ((ROW.out.alloc (.cells #[.int .u8 (s.size : Int)] 5)).drew.own (base := g) (Nat.le_refl _) (by simp [maxLen]))
  have RD := Lib.hid ((rd_lit w3 5 .u8 [s.size] _ rfl).keep (w' := (w3.alloc (.cells (ints .u8 [s.size]).toArray 5)).drew) fun _ _ => rfl)
  have HBA := Lib.hid ((HB3.out.alloc (show w.heap.size ≤ w3.heap.size from Nat.le_of_lt hwl) (.cells #[.int .u8 (s.size : Int)] 5)).drew)
  go_wp2_with fail
  go_region_law (first
    | (refine step_append_rd (by rfl) (.tmp 40) (.tmp 45) 24 (by rfl) g 5 (.int .u8 0) 1 Tryd.underlying24 info_u8 rfl _ 1 (ints .u8 [4]) (by rfl) OWN.out _ _ 1 1 (ints .u8 [s.size]) (by rfl) RD.out ?_ ?_ (ints_one _ _) ?_ ?_ ?_ ?_; rfl; (intro h; cases h); (simp [maxLen]); (simp); (simp; omega); intro A2 c2 w6 o2 g2 b2 n2; have HO2 := Lib.hid o2; have hc6 := (b2.cell (p := ⟨w.heap.size, 2, none⟩) hlt2).trans HOBJ.out; have HB6 := Lib.hid (HBA.out.trans (b2.mono (Nat.le_of_lt hlt2))); have z6 := Lib.hid b2.size; clear o2 g2 b2 n2)
    | (refine step_append_str (by rfl) (.tmp 46) (.tmp 48) 24 9 (by rfl) g 5 Tryd.underlying24 Tryd.underlying9 info_u8 _ 2 (ints .u8 [4] ++ ints .u8 [s.size]) (by rfl) HO2.out s (by rfl) ?_ ?_ ?_ ?_; (unfold maxLen; omega); omega; (have h := z6.out; simp at h; omega); intro A3 c3 w7 o3 g3 b3 n3; have HO3 := Lib.hid o3; have HB7 := Lib.hid (HB6.out.trans (b3.mono (Nat.le_of_lt hlt2))); have HN3 := Lib.hid n3; clear o3 g3 b3 n3))
  all_goals go_wp2_with fail
  all_goals go_ret
  all_goals
    have hl : (4 :: s.size :: nums s).length = 2 + s.size := by rw [List.length_cons, List.length_cons, nums_length]; omega
    refine ⟨A3, c3, ?_, ?_, HB7.out, HN3.out⟩
    · rw [HPUT.out, hl]; try rfl
    · rw [HPUT.out, hl]
      have h := own_mono HO3.out (Nat.le_of_lt hlt2)
      rw [strCells_nums] at h
      exact h

theorem refPut_yes (t i : Int) (s : ByteArray) (w : World) (hm : MayV t i s.size) :
    Calls Tryd.prog 20 #[.agg #[.int .i64 t, .int .i64 i, .string s]] w (Makes (putB t i s) w) := by
  by_cases h4 : t = 4
  · subst h4; exact refPut_text i s w hm
  · exact refPut_num t i s w hm h4
end Go.Proofs.YtbmlipandjbbbaaDoor
