
import Derived.Deep.RegionWith
import Derived.Stop.IfaceNil
import Derived.Test.YtjphfdjijmpicaaDoorBase
import Derived.Test.YtjphfdjijmpicaaDoorHigh
import Derived.Test.YtjphfdjijmpicaaDoorHighT
import Derived.Test.YtjphfdjijmpicaaDoorPlainMath
import Derived.Test.YtjphfdjijmpicaaDoorValA
/- Walks of package value: May, Fits, width, rank; and the reference's. -/
namespace Go.Proofs.YtjphfdjijmpicaaDoor.V1
open Go.Proofs.YtjphfdjijmpicaaDoor
open Go.RowKit
set_option linter.unusedVariables false

/-- A call that says whether p, and leaves what was there. -/
def SaysP (p : Prop) (w : World) (e : Ending) (w' : World) : Prop := ∃ r : Bool, (r = true ↔ p) ∧ e = .returned (.bool r) ∧ Below w.heap.size w w'
theorem SaysP.yes {p : Prop} {w w' : World} (h : p) (hb : Below w.heap.size w w') : SaysP p w (.returned (.bool true)) w' := ⟨true, by simp [h], rfl, hb⟩
theorem SaysP.no {p : Prop} {w w' : World} (h : ¬ p) (hb : Below w.heap.size w w') : SaysP p w (.returned (.bool false)) w' := ⟨false, by simp [h], rfl, hb⟩

def widthV (t : Int) : Nat := if t = 1 then 2 else if t = 2 then 8 else if t = 3 then 1 else 0

theorem width_any (t : Int) (w : World) : Calls Tryd.prog 27 #[.int .i64 t] w fun e w' => e = .returned (.int .i64 (widthV t : Nat)) ∧ w = w' := by
  go_enter Tryd.func27, Tryd.ntmps27
  go_wp2_with fail
  all_goals go_ret
  all_goals simp only [beq_iff_eq, beq_eq_false_iff_ne, ne_eq] at *
  all_goals exact ⟨ret_int (by simp [widthV, *]), by first | rfl | trivial⟩
theorem rank_any (t i : Int) (s : ByteArray) (w : World) : Calls Tryd.prog 21 #[.agg #[.int .i64 t, .int .i64 i, .string s]] w fun e w' => e = .returned (.int .i64 (rankV t)) ∧ Below w.heap.size w w' := by
  have HE1 := Lib.hid (fun o : Obj => (Below.refl w.heap.size w).alloc (Nat.le_refl _) o)
  go_enter Tryd.func21, Tryd.ntmps21
  go_wp2_with fail
  all_goals go_ret
  all_goals simp only [beq_iff_eq, beq_eq_false_iff_ne, ne_eq] at *
  all_goals exact ⟨ret_int (by simp [rankV, *]), HE1.out _⟩
set_option maxRecDepth 100000 in
theorem may_any (t i : Int) (s : ByteArray) (a0 a2 a3 a4 : Addr) (w : World) (hs : Sents w w.heap.size a0 a2 a3 a4) :
    Calls Tryd.prog 15 #[.agg #[.int .i64 t, .int .i64 i, .string s]] w (SaysP (MayV t i s.size) w) := by
  obtain ⟨w1, hw1⟩ : ∃ w1 : World, w.alloc (.cells #[.int .i64 t, .int .i64 i, .string s] 28) = w1 := ⟨_, rfl⟩
  have b1 : Below w.heap.size w w1 := hw1 ▸ (Below.refl _ _).alloc (Nat.le_refl _) _
  have HC := Lib.hid (check_any t i s a0 a2 a3 a4 w1 ((hs.below b1).more b1.size))
  have HB := Lib.hid b1
  have HW := Lib.hid hw1
  clear hs hw1 b1
  go_enter Tryd.func15, Tryd.ntmps15
  go_wp2_with fail
  rw [HW.out]
  refine HC.out.mono ?_
  rintro e w2 ⟨h, b2⟩
  have HB2 := Lib.hid (HB.out.trans (b2.mono HB.out.size))
  clear b2
  rcases h with ⟨hm, rfl⟩ | ⟨hm, p, rfl⟩
  · have HM := Lib.hid hm
    clear hm
    go_wp2_with fail
    go_ret
    exact SaysP.yes HM.out HB2.out
  · have HM := Lib.hid hm
    have hif : Tryd.prog.isIface 59 = true := by kernel_rfl
    have heq := run_eql_iface_nil (P := Tryd.prog) (w := w2) 59 hif 76 (.pointer (some p))
    clear hm
    go_wp2_with fail
    go_ret
    exact SaysP.no HM.out HB2.out

/-- Which values fit a column of a type. -/
def FitsV (t vt i : Int) (n : Nat) : Prop := 1 ≤ t ∧ t ≤ 4 ∧ (vt = 0 ∨ vt = t) ∧ MayV vt i n

end Go.Proofs.YtjphfdjijmpicaaDoor.V1

/- The walk of value.Put. -/
namespace Go.Proofs.YtjphfdjijmpicaaDoor.V1
open Go.Proofs.YtjphfdjijmpicaaDoor
open Go.RowKit
set_option linter.unusedVariables false

/-- A string's bytes. -/
def nums (s : ByteArray) : List Nat := s.data.toList.map UInt8.toNat
theorem nums_length (s : ByteArray) : (nums s).length = s.size := by unfold nums; rw [List.length_map, Array.length_toList]; rfl
theorem nums_lt (s : ByteArray) : ∀ x ∈ nums s, x < 256 := by
  intro x hx
  obtain ⟨b, _, rfl⟩ := List.mem_map.1 hx
  exact b.toNat_lt
theorem strCells_nums (s : ByteArray) : Lib.strCells s = ints .u8 (nums s) := by
  unfold Lib.strCells ints nums; rw [List.map_map]; rfl

/-- A value's bytes. -/
def putB (t i : Int) (s : ByteArray) : List Nat := t.toNat :: (if t = 4 then s.size :: nums s else topB (i % 18446744073709551616).toNat (widthV t))

set_option maxRecDepth 100000 in
theorem valPut_no (t i : Int) (s : ByteArray) (a0 a2 a3 a4 : Addr) (w : World) (hs : Sents w w.heap.size a0 a2 a3 a4) (hm : ¬ MayV t i s.size) :
    Calls Tryd.prog 17 #[.agg #[.int .i64 t, .int .i64 i, .string s]] w fun e w' => e = .returned (.slice none 0 0) ∧ Below w.heap.size w w' := by
  obtain ⟨w1, hw1⟩ : ∃ w1 : World, w.alloc (.cells #[.int .i64 t, .int .i64 i, .string s] 28) = w1 := ⟨_, rfl⟩
  have b1 : Below w.heap.size w w1 := hw1 ▸ (Below.refl _ _).alloc (Nat.le_refl _) _
  have HC := Lib.hid (may_any t i s a0 a2 a3 a4 w1 ((hs.below b1).more b1.size))
  have HB := Lib.hid b1
  have HW := Lib.hid hw1
  clear hs hw1 b1
  go_enter Tryd.func17, Tryd.ntmps17
  go_wp2_with fail
  rw [HW.out]
  refine HC.out.mono ?_
  rintro e w2 ⟨r, hr, rfl, b2⟩
  have HB2 := Lib.hid (HB.out.trans (b2.mono HB.out.size))
  have hrf : r = false := by
    cases r with
    | false => rfl
    | true => exact absurd (hr.1 rfl) hm
  subst hrf
  clear b2 hr
  go_wp2_with fail
  go_ret
  exact ⟨rfl, HB2.out⟩

set_option maxRecDepth 100000 in
set_option maxHeartbeats 1000000 in
theorem valPut_num (t i : Int) (s : ByteArray) (a0 a2 a3 a4 : Addr) (w : World) (hs : Sents w w.heap.size a0 a2 a3 a4) (hm : MayV t i s.size) (h4 : t ≠ 4) :
    Calls Tryd.prog 17 #[.agg #[.int .i64 t, .int .i64 i, .string s]] w (Makes (putB t i s) w) := by
  obtain ⟨w1, hw1⟩ : ∃ w1 : World, w.alloc (.cells #[.int .i64 t, .int .i64 i, .string s] 28) = w1 := ⟨_, rfl⟩
  have b1 : Below w.heap.size w w1 := hw1 ▸ (Below.refl _ _).alloc (Nat.le_refl _) _
  have hlt : w.heap.size < w1.heap.size := by rw [← hw1]; simp
  have hc0 : w1.cell? ⟨w.heap.size, 0, none⟩ = some (.int .i64 t) := by rw [← hw1, World.cell?_alloc_at _ _ _ _ rfl]; rfl
  have hc1 : w1.cell? ⟨w.heap.size, 1, none⟩ = some (.int .i64 i) := by rw [← hw1, World.cell?_alloc_at _ _ _ _ rfl]; rfl
  have HC := Lib.hid (may_any t i s a0 a2 a3 a4 w1 ((hs.below b1).more b1.size))
  have HB := Lib.hid b1
  have HW := Lib.hid hw1
  have HC0 := Lib.hid hc0
  have HC1 := Lib.hid hc1
  have ht03 : 0 ≤ t ∧ t ≤ 3 := by unfold MayV at hm; omega
  obtain ⟨tn, rfl⟩ : ∃ tn : Nat, t = (tn : Int) := ⟨t.toNat, by omega⟩
  have ht4 : ((tn : Int) == 4) = false := by simp; omega
  have htm : (tn : Int) % 256 = (tn : Int) := by omega
  clear hs hw1 b1 hc0 hc1
  go_enter Tryd.func17, Tryd.ntmps17
  go_wp2_with fail
  rw [HW.out]
  refine HC.out.mono ?_
  rintro e w2 ⟨r, hr, rfl, b2⟩
  have HB2 := Lib.hid (HB.out.trans (b2.mono HB.out.size))
  have hrt : r = true := hr.2 hm
  subst hrt
  have hc0 := (b2.cell (p := ⟨w.heap.size, 0, none⟩) hlt).trans HC0.out
  have hc1 := (b2.cell (p := ⟨w.heap.size, 1, none⟩) hlt).trans HC1.out
  have hlt2 : w.heap.size < w2.heap.size := block_lt_of_cell hc0
  clear b2 hr HC HC0 HC1 HB HW hm hlt
  go_wp2_with fail
  obtain ⟨w3, hw3⟩ : ∃ w3 : World, w2.alloc (.cells #[.int .u8 (tn : Int)] 5) = w3 := ⟨_, rfl⟩
  rw [hw3]
  have b3 : Below w2.heap.size w2 w3 := hw3 ▸ (Below.refl _ _).alloc (Nat.le_refl _) _
  have ROW := Lib.hid (show Row w3 w2.heap.size 5 .u8 [tn] from hw3 ▸ Row.lit w2 5 .u8 [tn])
  have HB3 := Lib.hid (HB2.out.trans (b3.mono HB2.out.size))
  have hd0 := (b3.cell (p := ⟨w.heap.size, 0, none⟩) hlt2).trans hc0
  have hd1 := (b3.cell (p := ⟨w.heap.size, 1, none⟩) hlt2).trans hc1
  have z3 : w2.heap.size < w3.heap.size := ROW.out.lt
  obtain ⟨g, hg⟩ : ∃ g, g = w2.heap.size := ⟨_, rfl⟩
  rw [← hg] at ROW z3 hlt2 ⊢
  clear hc0 hc1 b3 hw3 HB2 hg
  obtain ⟨U, hU⟩ : ∃ U : Nat, U = (i % 18446744073709551616).toNat := ⟨_, rfl⟩
  have hwr : IntKind.u64.wrap i = (U : Int) := by rw [IntKind.wrap_u64]; omega
  have hU64 : U < 18446744073709551616 := by omega
  obtain ⟨wd, hwd⟩ : ∃ wd, wd = widthV (tn : Int) := ⟨_, rfl⟩
  have hw8 : wd ≤ 8 := by rw [hwd]; unfold widthV; split <;> (try split) <;> (try split) <;> omega
  have hput : putB (tn : Int) i s = tn :: topB U wd := by
    unfold putB; rw [if_neg h4, ← hU, ← hwd]; rfl
  have HPUT := Lib.hid hput
  have HL := Lib.hid (topB_length U wd)
  have HWD := Lib.hid hwd
  clear hU hput hwd h4
  go_wp2_with fail
  go_region_law (first
    | (refine step_append_rd (by rfl) (.tmp 24) (.tmp 31) 22 (by rfl) w.heap.size 5 (.int .u8 0) 1 Tryd.underlying22 info_u8 rfl _ 1 (ints .u8 [tn]) (by rfl) OWN.out _ _ (topB U wd).length cp (ints .u8 (topB U wd)) (by rfl) RD.out ?_ N5.out (ints_one _ _) ?_ ?_ ?_ ?_; (rw [ints_length]); (unfold maxLen; have := HL.out; omega); (have := HL.out; omega); (exact z5.out); intro A2 c2 w6 o2 g2 b2 n2; have HO2 := Lib.hid o2; have HB6 := Lib.hid (HB5.out.trans b2); have HN2 := Lib.hid n2; clear o2 g2 b2 n2)
    | (go_simp; go_at_call 27; refine (width_any (tn : Int) _).mono ?_; rintro e w' ⟨rfl, rfl⟩; rw [← HWD.out])
    | (go_simp; go_at_call 26; refine (high_makes U wd hU64 hw8 _).mono ?_; rintro e w5 ⟨P, cp, rfl, o5, b5, n5⟩; have OWN := Lib.hid ((((ROW.out.drew).below b5 z3).own (base := w.heap.size) (Nat.le_of_lt hlt2) (by simp [maxLen]))); have RD := Lib.hid (Rd.own o5); have N5 := Lib.hid n5; have HB5 := Lib.hid (HB3.out.drew.trans (b5.mono HB3.out.drew.size)); have z5 := Lib.hid (Nat.le_trans HB3.out.drew.size b5.size); clear o5 b5 n5))
  all_goals go_wp2_with fail
  all_goals go_ret
  all_goals
    refine ⟨A2, c2, ?_, ?_, HB6.out, HN2.out⟩
    · rw [HPUT.out, List.length_cons, Nat.add_comm]; try rfl
    · rw [HPUT.out, List.length_cons, Nat.add_comm]; exact HO2.out

theorem own_mono {w : World} {base base' : Nat} {e : TypeId} {v : Value} {n : Nat} {xs : List Value} (h : w.ownsRow base e 1 v n xs) (hb : base' ≤ base) : w.ownsRow base' e 1 v n xs := by
  obtain ⟨h1, h2⟩ := h
  refine ⟨h1, ?_⟩
  rcases h2 with h2 | ⟨g, cap, cur, ha, hb2, hrest⟩
  · exact .inl h2
  · exact .inr ⟨g, cap, cur, ha, Nat.le_trans hb hb2, hrest⟩

set_option maxRecDepth 100000 in
set_option maxHeartbeats 1000000 in
theorem valPut_text (i : Int) (s : ByteArray) (a0 a2 a3 a4 : Addr) (w : World) (hs : Sents w w.heap.size a0 a2 a3 a4) (hm : MayV 4 i s.size) :
    Calls Tryd.prog 17 #[.agg #[.int .i64 4, .int .i64 i, .string s]] w (Makes (putB 4 i s) w) := by
  obtain ⟨w1, hw1⟩ : ∃ w1 : World, w.alloc (.cells #[.int .i64 4, .int .i64 i, .string s] 28) = w1 := ⟨_, rfl⟩
  have b1 : Below w.heap.size w w1 := hw1 ▸ (Below.refl _ _).alloc (Nat.le_refl _) _
  have hlt : w.heap.size < w1.heap.size := by rw [← hw1]; simp
  have hc0 : w1.cell? ⟨w.heap.size, 0, none⟩ = some (.int .i64 4) := by rw [← hw1, World.cell?_alloc_at _ _ _ _ rfl]; rfl
  have hc2 : w1.cell? ⟨w.heap.size, 2, none⟩ = some (.string s) := by rw [← hw1, World.cell?_alloc_at _ _ _ _ rfl]; rfl
  have HC := Lib.hid (may_any 4 i s a0 a2 a3 a4 w1 ((hs.below b1).more b1.size))
  have HB := Lib.hid b1
  have HW := Lib.hid hw1
  have HC0 := Lib.hid hc0
  have HC2 := Lib.hid hc2
  have hs20 : s.size ≤ 20 := by unfold MayV at hm; omega
  have hsm : IntKind.u8.wrap (s.size : Int) = (s.size : Int) := by rw [IntKind.wrap_u8]; omega
  clear hs hw1 b1 hc0 hc2
  go_enter Tryd.func17, Tryd.ntmps17
  go_wp2_with fail
  rw [HW.out]
  refine HC.out.mono ?_
  rintro e w2 ⟨r, hr, rfl, b2⟩
  have HB2 := Lib.hid (HB.out.trans (b2.mono HB.out.size))
  have hrt : r = true := hr.2 hm
  subst hrt
  have hc0 := (b2.cell (p := ⟨w.heap.size, 0, none⟩) hlt).trans HC0.out
  have hc2 := (b2.cell (p := ⟨w.heap.size, 2, none⟩) hlt).trans HC2.out
  have hlt2 : w.heap.size < w2.heap.size := block_lt_of_cell hc0
  clear b2 hr HC HC0 HC2 HB HW hm hlt
  go_wp2_with fail
  obtain ⟨w3, hw3⟩ : ∃ w3 : World, w2.alloc (.cells #[.int .u8 4] 5) = w3 := ⟨_, rfl⟩
  rw [hw3]
  have b3 : Below w2.heap.size w2 w3 := hw3 ▸ (Below.refl _ _).alloc (Nat.le_refl _) _
  have ROW := Lib.hid (show Row w3 w2.heap.size 5 .u8 [4] from hw3 ▸ Row.lit w2 5 .u8 [4])
  have HB3 := Lib.hid (HB2.out.trans (b3.mono HB2.out.size))
  have hd0 := (b3.cell (p := ⟨w.heap.size, 0, none⟩) hlt2).trans hc0
  have hd2 := (b3.cell (p := ⟨w.heap.size, 2, none⟩) hlt2).trans hc2
  have z3 : w2.heap.size < w3.heap.size := ROW.out.lt
  have hwl : w.heap.size < w3.heap.size := by omega
  obtain ⟨g, hg⟩ : ∃ g, g = w2.heap.size := ⟨_, rfl⟩
  rw [← hg] at ROW z3 hlt2 ⊢
  clear hc0 hc2 b3 hw3 HB2 hg
  have HPUT := Lib.hid (show putB 4 i s = 4 :: s.size :: nums s from by unfold putB; rw [if_pos rfl]; rfl)
  have HOBJ := Lib.hid (show (w3.alloc (.cells #[.int .u8 (s.size : Int)] 5)).drew.cell? ⟨w.heap.size, 2, none⟩ = some (.string s) from (World.cell?_alloc_past _ _ _ hwl).trans hd2)
  have OWN := Lib.hid ((ROW.out.alloc (.cells #[.int .u8 (s.size : Int)] 5)).drew.own (base := g) (Nat.le_refl _) (by simp [maxLen]))
  have RD := Lib.hid ((rd_lit w3 5 .u8 [s.size] _ rfl).keep (w' := (w3.alloc (.cells (ints .u8 [s.size]).toArray 5)).drew) fun _ _ => rfl)
  have HBA := Lib.hid ((HB3.out.alloc (show w.heap.size ≤ w3.heap.size from Nat.le_of_lt hwl) (.cells #[.int .u8 (s.size : Int)] 5)).drew)
  go_wp2_with fail
  go_region_law (first
    | (refine step_append_rd (by rfl) (.tmp 14) (.tmp 19) 22 (by rfl) g 5 (.int .u8 0) 1 Tryd.underlying22 info_u8 rfl _ 1 (ints .u8 [4]) (by rfl) OWN.out _ _ 1 1 (ints .u8 [s.size]) (by rfl) RD.out ?_ ?_ (ints_one _ _) ?_ ?_ ?_ ?_; rfl; (intro h; cases h); (simp [maxLen]); (simp); (simp; omega); intro A2 c2 w6 o2 g2 b2 n2; have HO2 := Lib.hid o2; have hc6 := (b2.cell (p := ⟨w.heap.size, 2, none⟩) hlt2).trans HOBJ.out; have HB6 := Lib.hid (HBA.out.trans (b2.mono (Nat.le_of_lt hlt2))); have z6 := Lib.hid b2.size; clear o2 g2 b2 n2)
    | (refine step_append_str (by rfl) (.tmp 20) (.tmp 22) 22 9 (by rfl) g 5 Tryd.underlying22 Tryd.underlying9 info_u8 _ 2 (ints .u8 [4] ++ ints .u8 [s.size]) (by rfl) HO2.out s (by rfl) ?_ ?_ ?_ ?_; (unfold maxLen; omega); omega; (have h := z6.out; simp at h; omega); intro A3 c3 w7 o3 g3 b3 n3; have HO3 := Lib.hid o3; have HB7 := Lib.hid (HB6.out.trans (b3.mono (Nat.le_of_lt hlt2))); have HN3 := Lib.hid n3; clear o3 g3 b3 n3))
  all_goals go_wp2_with fail
  all_goals go_ret
  all_goals
    have hl : (4 :: s.size :: nums s).length = 2 + s.size := by rw [List.length_cons, List.length_cons, nums_length]; omega
    refine ⟨A3, c3, ?_, ?_, HB7.out, HN3.out⟩
    · rw [HPUT.out, hl]; try rfl
    · rw [HPUT.out, hl]
      have h := own_mono HO3.out (Nat.le_of_lt hlt2)
      rw [strCells_nums] at h
      exact h
end Go.Proofs.YtjphfdjijmpicaaDoor.V1


/- value.Put whole; the reference's Put. -/
namespace Go.Proofs.YtjphfdjijmpicaaDoor.V1
open Go.Proofs.YtjphfdjijmpicaaDoor
open Go.RowKit
set_option linter.unusedVariables false

theorem valPut_yes (t i : Int) (s : ByteArray) (a0 a2 a3 a4 : Addr) (w : World) (hs : Sents w w.heap.size a0 a2 a3 a4) (hm : MayV t i s.size) :
    Calls Tryd.prog 17 #[.agg #[.int .i64 t, .int .i64 i, .string s]] w (Makes (putB t i s) w) := by
  by_cases h4 : t = 4
  · subst h4; exact valPut_text i s a0 a2 a3 a4 w hs hm
  · exact valPut_num t i s a0 a2 a3 a4 w hs hm h4

theorem topB_mod (v : Nat) : ∀ n m, n ≤ m → topB (v % 2 ^ (8 * m)) n = topB v n
  | 0, _, _ => rfl
  | n + 1, m, h => by
    simp only [topB, topB_mod v n m (by omega)]
    congr 1
    refine Nat.eq_of_testBit_eq fun j => ?_
    rw [show (256 : Nat) = 2 ^ 8 from rfl]
    simp only [Nat.testBit_mod_two_pow, Nat.testBit_div_two_pow]
    by_cases hj : j < 8
    · have : j + 8 * n < 8 * m := by omega
      simp [hj, this]
    · simp [hj]

theorem makes_row {l : List Nat} {w w' : World} {g : Nat} (h : Row w' g 5 .u8 l) (hg : w.heap.size ≤ g) (hm : l.length ≤ maxLen) (hb : Below w.heap.size w w') : Makes l w (.returned (.slice (some ⟨g, 0, none⟩) l.length l.length)) w' :=
  ⟨_, _, rfl, h.own hg hm, hb, fun h => by cases h⟩
theorem makes_two {l r : List Nat} {w w' : World} {A : Option Addr} {n c : Nat} (ho : w'.ownsRow w.heap.size 5 1 (.slice A n c) n (ints .u8 l ++ ints .u8 r)) (hn : n = (l ++ r).length) (hb : Below w.heap.size w w') (hc : A = none → c = 0) : Makes (l ++ r) w (.returned (.slice A n c)) w' := by
  subst hn
  exact ⟨A, c, rfl, by rw [ints_snoc]; exact ho, hb, hc⟩

end Go.Proofs.YtjphfdjijmpicaaDoor.V1

/- Which value bytes begin with: plain mathematics. -/
namespace Go.Proofs.YtjphfdjijmpicaaDoor.V1
open Go.Proofs.YtjphfdjijmpicaaDoor
open Go.RowKit
set_option linter.unusedVariables false

/-- A number of so many bytes, with its sign. -/
def sgn (w x : Nat) : Int := if w = 0 then 0 else if x < 2 ^ (8 * w - 1) then (x : Int) else (x : Int) - 2 ^ (8 * w)
/-- What b begins with: type, number, bytes, how many. -/
def readV : List Nat → Option (Nat × Int × List Nat × Nat)
  | [] => none
  | t :: r => if t = 4 then (match r with | [] => none | m :: q => if m ≤ q.length then some (4, 0, q.take m, m + 2) else none)
    else if r.length < widthV t then none else some (t, sgn (widthV t) (numH (r.take (widthV t))), [], 1 + widthV t)
theorem readV_nil : readV [] = none := rfl
theorem readV_4nil : readV [4] = none := rfl
theorem readV_4 (m : Nat) (q : List Nat) : readV (4 :: m :: q) = if m ≤ q.length then some (4, 0, q.take m, m + 2) else none := rfl
theorem readV_n (t : Nat) (r : List Nat) (h : t ≠ 4) : readV (t :: r) = if r.length < widthV t then none else some (t, sgn (widthV t) (numH (r.take (widthV t))), [], 1 + widthV t) := by
  show (if t = 4 then _ else _) = _
  rw [if_neg h]
def takeV (b : List Nat) : Option (Nat × Int × List Nat × Nat) :=
  match readV b with
  | none => none
  | some (t, i, s, n) => if (t = 0 ∨ t = 1 ∨ t = 2 ∨ t = 3 ∧ 0 ≤ i ∧ i ≤ 1 ∨ t = 4 ∧ s.length ≤ 20) then some (t, i, s, n) else none

theorem numH_lt' (l : List Nat) (h : ∀ x ∈ l, x < 256) (n : Nat) (hn : l.length = n) : numH l < 2 ^ (8 * n) := by
  have := numH_lt l h l.length (Nat.le_refl _)
  rwa [List.take_length, hn] at this
theorem sgn_2 (x : Nat) (h : x < 65536) : -32768 ≤ sgn 2 x ∧ sgn 2 x ≤ 32767 := by
  unfold sgn; rw [if_neg (by decide)]; split <;> omega
theorem sgn_8 (x : Nat) (h : x < 18446744073709551616) : -9223372036854775808 ≤ sgn 8 x ∧ sgn 8 x ≤ 9223372036854775807 := by
  unfold sgn; rw [if_neg (by decide)]; split <;> omega
theorem sgn_1 (x : Nat) (h : x < 256) : -128 ≤ sgn 1 x ∧ sgn 1 x ≤ 127 := by
  unfold sgn; rw [if_neg (by decide)]; split <;> omega
theorem sgn_0 (x : Nat) : sgn 0 x = 0 := rfl

theorem numH_go (l : List Nat) (a : Nat) : l.foldl (fun a x => a * 256 + x) a = a * 2 ^ (8 * l.length) + numH l := by
  induction l generalizing a with
  | nil => simp [numH]
  | cons x r ih =>
    rw [List.foldl_cons, ih]
    have h2 : numH (x :: r) = r.foldl (fun a x => a * 256 + x) (0 * 256 + x) := rfl
    rw [h2, ih, List.length_cons, show 8 * (r.length + 1) = 8 * r.length + 8 by omega, Nat.pow_add, Nat.add_mul, Nat.zero_mul, Nat.zero_add, Nat.mul_assoc, show (256 : Nat) = 2 ^ 8 from rfl, Nat.mul_comm (2 ^ 8), Nat.add_assoc]
theorem numH_cons (x : Nat) (r : List Nat) : numH (x :: r) = x * 2 ^ (8 * r.length) + numH r := by
  have h := numH_go r (0 * 256 + x)
  rw [show 0 * 256 + x = x by omega] at h
  rw [← h]
  show r.foldl _ (0 * 256 + x) = _
  rw [show 0 * 256 + x = x by omega]
theorem numH_top (v : Nat) : ∀ n, numH (topB v n) = v % 2 ^ (8 * n)
  | 0 => by simp [topB, numH, Nat.mod_one]
  | n + 1 => by
    have ih := numH_top v n
    rw [topB, numH_cons, topB_length, ih, show 8 * (n + 1) = 8 * n + 8 by omega, Nat.pow_add]
    have := Nat.mod_mul (x := v) (a := 2 ^ (8 * n)) (b := 2 ^ 8)
    rw [this, Nat.mul_comm, Nat.add_comm]
theorem sgn_top (t i : Int) (h : MayV t i 0) (h4 : t ≠ 4) (h0 : -9223372036854775808 ≤ i) (h1 : i ≤ 9223372036854775807) : sgn (widthV t) (numH (topB (i % 18446744073709551616).toNat (widthV t))) = i := by
  rw [numH_top]
  unfold MayV at h
  rcases h with ⟨rfl, rfl, _⟩ | ⟨rfl, h2, h3, _⟩ | ⟨rfl, _⟩ | ⟨rfl, h2, h3, _⟩ | ⟨h, _⟩
  · rfl
  · show sgn 2 ((i % 18446744073709551616).toNat % 2 ^ (8 * 2)) = i
    unfold sgn; rw [if_neg (by decide)]; split <;> omega
  · show sgn 8 ((i % 18446744073709551616).toNat % 2 ^ (8 * 8)) = i
    unfold sgn; rw [if_neg (by decide)]; split <;> omega
  · show sgn 1 ((i % 18446744073709551616).toNat % 2 ^ (8 * 1)) = i
    unfold sgn; rw [if_neg (by decide)]; split <;> omega
  · exact absurd h h4
theorem mayV_cases {t i : Int} {n : Nat} (h : MayV t i n) : (t = 4 ∧ i = 0 ∧ n ≤ 20) ∨ (t ≠ 4 ∧ n = 0 ∧ 0 ≤ t ∧ t ≤ 3 ∧ MayV t i 0) := by
  unfold MayV at *; omega
theorem widthV_le (t : Int) : widthV t ≤ 8 := by unfold widthV; repeat (first | omega | split)
/-- What was put is taken, whatever stands behind. -/
theorem takeV_put (t i : Int) (s : ByteArray) (r : List Nat) (h : MayV t i s.size) (h0 : -9223372036854775808 ≤ i) (h1 : i ≤ 9223372036854775807) : takeV (putB t i s ++ r) = some (t.toNat, i, nums s, (putB t i s).length) := by
  rcases mayV_cases h with ⟨rfl, rfl, hn⟩ | ⟨h4, hn, ht0, ht3, hm⟩
  · have e : putB 4 0 s ++ r = 4 :: s.size :: (nums s ++ r) := by unfold putB; rw [if_pos rfl]; rfl
    have el : (putB 4 0 s).length = s.size + 2 := by unfold putB; rw [if_pos rfl, List.length_cons, List.length_cons, nums_length]
    have hr : readV (4 :: s.size :: (nums s ++ r)) = some (4, 0, nums s, s.size + 2) := by
      rw [readV_4, if_pos (by rw [List.length_append, nums_length]; omega), List.take_left' (nums_length s)]
    unfold takeV
    rw [e, hr, el]
    simp only
    rw [if_pos (by simp [nums_length, hn])]
    rfl
  · obtain ⟨tn, rfl⟩ : ∃ tn : Nat, t = (tn : Int) := ⟨t.toNat, by omega⟩
    have hs : nums s = [] := List.eq_nil_of_length_eq_zero (by rw [nums_length]; exact hn)
    have e : putB tn i s = tn :: topB (i % 18446744073709551616).toNat (widthV tn) := by unfold putB; rw [if_neg h4]; rfl
    have el : (putB tn i s).length = 1 + widthV tn := by rw [e, List.length_cons, topB_length]; omega
    have hr : readV (putB tn i s ++ r) = some (tn, i, [], 1 + widthV tn) := by
      rw [e, List.cons_append, readV_n _ _ (by omega), if_neg (by rw [List.length_append, topB_length]; omega), List.take_left' (topB_length _ _), sgn_top tn i hm h4 h0 h1]
    unfold takeV
    rw [hr, hs, el]
    simp only
    rw [if_pos (by unfold MayV at hm; omega)]
    rfl
/-- What is cut off is none. -/
theorem takeV_cut (t i : Int) (s : ByteArray) (k : Nat) (h : MayV t i s.size) (hk : k < (putB t i s).length) : takeV ((putB t i s).take k) = none := by
  have hr : readV ((putB t i s).take k) = none := by
    rcases mayV_cases h with ⟨rfl, rfl, hn⟩ | ⟨h4, hn, ht0, ht3, hm⟩
    · have e : putB 4 0 s = 4 :: s.size :: nums s := by unfold putB; rw [if_pos rfl]; rfl
      rw [e] at hk ⊢
      rw [List.length_cons, List.length_cons, nums_length] at hk
      match k, hk with
      | 0, _ => rfl
      | 1, _ => rfl
      | k + 2, hk =>
        rw [List.take_succ_cons, List.take_succ_cons, readV_4, if_neg (by rw [List.length_take]; omega)]
    · obtain ⟨tn, rfl⟩ : ∃ tn : Nat, t = (tn : Int) := ⟨t.toNat, by omega⟩
      have e : putB tn i s = tn :: topB (i % 18446744073709551616).toNat (widthV tn) := by unfold putB; rw [if_neg h4]; rfl
      rw [e] at hk ⊢
      rw [List.length_cons, topB_length] at hk
      match k, hk with
      | 0, _ => rfl
      | k + 1, hk =>
        rw [List.take_succ_cons, readV_n _ _ (by omega), if_pos (by rw [List.length_take, topB_length]; omega)]
  unfold takeV; rw [hr]
end Go.Proofs.YtjphfdjijmpicaaDoor.V1

/- Walks of package value: readText, read. -/
namespace Go.Proofs.YtjphfdjijmpicaaDoor.V1
open Go.Proofs.YtjphfdjijmpicaaDoor
open Go.RowKit
set_option linter.unusedVariables false

theorem conv_str (A : Option Addr) (n c : Nat) (l : List Nat) (hn : n = l.length) (w : World) (B : Nat) (hr : Rd w B A (ints .u8 l)) :
    (convert 22 9 (.slice A n c)).run Tryd.prog w = .ok (.string (bstr l)) w :=
  run_bstr 22 5 9 Tryd.underlying22 Tryd.underlying5 Tryd.underlying9 A n c l hn w B hr
abbrev vagg (t i : Int) (s : ByteArray) : Value := .agg #[.int .i64 t, .int .i64 i, .string s]
/-- What a reader tells of bytes that end too soon. -/
def ShortPost (a : Addr) (w : World) (e : Ending) (w' : World) : Prop :=
  ∃ (t i : Int) (s : ByteArray) (pb : Nat), e = .returned (.tuple #[vagg t i s, .int .i64 0, .iface 76 (.pointer (some ⟨pb, 0, none⟩))]) ∧ w.heap.size ≤ pb ∧ CellIs w' ⟨pb, 0 + 2, none⟩ (.iface 90 (.pointer (some a))) ∧ Later w w'
/-- What a reader tells of a value. -/
def ReadsPost (t i : Int) (l : List Nat) (n : Nat) (w : World) (e : Ending) (w' : World) : Prop :=
  e = .returned (.tuple #[vagg t i (bstr l), .int .i64 (n : Int), .nilIface]) ∧ Later w w'

end Go.Proofs.YtjphfdjijmpicaaDoor.V1

/- The walk of value.read. -/
namespace Go.Proofs.YtjphfdjijmpicaaDoor.V1
open Go.Proofs.YtjphfdjijmpicaaDoor
open Go.RowKit
set_option linter.unusedVariables false

theorem widthV_in (t : Int) : widthV t = 0 ∨ widthV t = 1 ∨ widthV t = 2 ∨ widthV t = 8 := by unfold widthV; split <;> (try split) <;> (try split) <;> omega
theorem shift_sgn (wd u : Nat) (hw8 : wd ≤ 8) (hi : wd = 0 ∨ wd = 1 ∨ wd = 2 ∨ wd = 8) (hu : u < 2 ^ (8 * wd)) : wrap64 (IntKind.u64.wrap ((u : Int) * 2 ^ (64 - 8 * wd))) / 2 ^ (64 - 8 * wd) = sgn wd u := by
  rw [IntKind.wrap_u64]
  rcases hi with rfl | rfl | rfl | rfl
  · obtain rfl : u = 0 := by simpa using hu
    simp [wrap64, sgn]
  · simp only [sgn, wrap64]
    rw [if_neg (by decide)]
    simp at hu ⊢
    split <;> omega
  · simp only [sgn, wrap64]
    rw [if_neg (by decide)]
    simp at hu ⊢
    split <;> omega
  · simp only [sgn, wrap64]
    rw [if_neg (by decide)]
    simp at hu ⊢
    split <;> omega

set_option maxRecDepth 100000 in
set_option maxHeartbeats 1000000 in
theorem valRead_num (t : Nat) (wd : Nat) (hwd : widthV t = wd) (b off n c : Nat) (w : World) (hb : b < w.heap.size) (hn : 1 ≤ n) (hn2 : n ≤ 1000000) (hnc : n ≤ c) (hc : c ≤ 9223372036854775807)
    (hc0 : w.cell? ⟨b, off, none⟩ = some (.int .u8 (t : Int))) (ht : t < 256) (h4 : t ≠ 4) (hlong : ¬ (n : Int) < 1 + (wd : Int)) (q : List Nat) (hq : q.length = wd) (h256 : ∀ x ∈ q, x < 256) (hr : Has w (some ⟨b, off + 1, none⟩) (ints .u8 q)) :
    Calls Tryd.prog 30 #[.slice (some ⟨b, off, none⟩) n c] w (ReadsPost t (sgn wd (numH q)) [] (1 + wd) w) := by
  have hw8 : wd ≤ 8 := hwd ▸ widthV_le t
  have HW := Lib.hid hwd
  have hn0 : ((n : Int) == 0) = false := by simp; omega
  have ht4 : ((t : Int) == 4) = false := by simp; omega
  clear hwd h4
  by_cases hc1 : c = 1
  · subst hc1
    obtain rfl : wd = 0 := by omega
    obtain rfl : n = 1 := by omega
    obtain rfl : q = [] := List.eq_nil_of_length_eq_zero hq
    go_enter Tryd.func30, Tryd.ntmps30
    go_wp2_with (go_at_call 27; refine (width_any (t : Int) _).mono ?_; rintro e w' ⟨rfl, rfl⟩; rw [HW.out])
    refine (highTake_any (some ⟨b, off, none⟩) 0 0 [] _ _ rfl (Has.nil_) h256 (by simp)).mono ?_
    rintro e w' ⟨rfl, rfl⟩
    have hz0 : numH [] = 0 := rfl
    have hz1 : wrap64 (IntKind.u64.wrap 0) = 0 := by rw [IntKind.wrap_u64]; simp [wrap64]
    go_wp2_with fail
    refine bodyPost_ret (v := .tuple #[vagg t 0 ⟨#[]⟩, .int .i64 1, .nilIface]) (by simp [results, Tryd.results30, go_sem]) rfl ⟨?_, ((Later.refl w).alloc _).alloc _⟩
    rfl
  · go_enter Tryd.func30, Tryd.ntmps30
    go_wp2_with (go_at_call 27; refine (width_any (t : Int) _).mono ?_; rintro e w' ⟨rfl, rfl⟩; rw [HW.out])
    refine (highTake_any (some ⟨b, off + 1, none⟩) wd (c - 1) q _ _ hq.symm (hr.later (((Later.refl w).alloc _).alloc _)) h256 (by omega)).mono ?_
    rintro e w' ⟨rfl, rfl⟩
    have hu := numH_lt' q h256 wd hq
    obtain ⟨u, hue⟩ : ∃ u, u = numH q := ⟨_, rfl⟩
    rw [← hue] at hu ⊢
    have HU := Lib.hid hue
    have HL := Lib.hid hu
    clear hue hu hq h256 hr
    go_wp2_with fail
    have e := shift_sgn wd u hw8 (HW.out ▸ widthV_in t) HL.out
    rw [e]
    refine bodyPost_ret (v := .tuple #[vagg t (sgn wd u) ⟨#[]⟩, .int .i64 (1 + wd), .nilIface]) (by simp [results, Tryd.results30, go_sem]) rfl ⟨?_, ((Later.refl w).alloc _).alloc _⟩
    rw [HU.out]; simp; try rfl
end Go.Proofs.YtjphfdjijmpicaaDoor.V1

/- value.read at all bytes; value.Take. -/
namespace Go.Proofs.YtjphfdjijmpicaaDoor.V1
open Go.Proofs.YtjphfdjijmpicaaDoor
open Go.RowKit
set_option linter.unusedVariables false

/-- The four sentinels hold pointers. -/
def Sn (w : World) : Prop := ∃ a0 a2 a3 a4, Sents w w.heap.size a0 a2 a3 a4
theorem Sn.later {w w' : World} (h : Sn w) (l : Later w w') : Sn w' := by
  obtain ⟨a0, a2, a3, a4, h⟩ := h
  exact ⟨a0, a2, a3, a4, (h.below l).more l.size⟩

theorem ints_drop (k : IntKind) (l : List Nat) (j : Nat) : (ints k l).drop j = ints k (l.drop j) := by simp [ints, List.map_drop]
theorem ints_take' (k : IntKind) (l : List Nat) (j : Nat) : (ints k l).take j = ints k (l.take j) := by simp [ints, List.map_take]

/-- What read tells. -/
def RV (a : Addr) (b : List Nat) (w : World) (e : Ending) (w' : World) : Prop :=
  (readV b = none ∧ ShortPost a w e w') ∨ ∃ t i l n, readV b = some (t, i, l, n) ∧ ReadsPost t i l n w e w'

end Go.Proofs.YtjphfdjijmpicaaDoor.V1

/- The walk of value.Take. -/
namespace Go.Proofs.YtjphfdjijmpicaaDoor.V1
open Go.Proofs.YtjphfdjijmpicaaDoor
open Go.RowKit
set_option linter.unusedVariables false

/-- What Take tells. -/
def TakesV (b : List Nat) (w : World) (e : Ending) (w' : World) : Prop :=
  ((takeV b = none ∧ e = .returned (.tuple #[vagg 0 0 ⟨#[]⟩, .int .i64 0, .bool false])) ∨
    ∃ t i l n, takeV b = some (t, i, l, n) ∧ e = .returned (.tuple #[vagg t i (bstr l), .int .i64 (n : Int), .bool true])) ∧ Later w w'
theorem bstr_size' (l : List Nat) : (bstr l).size = l.length := by
  show (bstr l).data.size = _
  rw [← Array.length_toList, bstr_toList, List.length_map]
theorem three_blk {w : World} {g : Nat} {cs : Array Value} {t : TypeId} (h : Blk w g cs t) (hs : cs.size = 3) (x y z : Value) : Blk (((w.setCell ⟨g, 0, none⟩ x).setCell ⟨g, 1, none⟩ y).setCell ⟨g, 2, none⟩ z) g #[x, y, z] t := by
  have := ((h.set_ 0 x).set_ 1 y).set_ 2 z
  have e : ((cs.setIfInBounds 0 x).setIfInBounds 1 y).setIfInBounds 2 z = #[x, y, z] := by
    match cs, hs with
    | ⟨[a, b, c]⟩, _ => rfl
  rwa [e] at this
theorem three_later {w w' : World} {g : Nat} (h : Later w w') (hg : w.heap.size ≤ g) (x y z : Value) : Later w (((w'.setCell ⟨g, 0, none⟩ x).setCell ⟨g, 1, none⟩ y).setCell ⟨g, 2, none⟩ z) := ((h.set_ hg _).set_ hg _).set_ hg _
theorem three_far {w : World} {g : Nat} {p : Addr} {v : Value} (h : CellIs w p v) (hne : p.block ≠ g) (x y z : Value) : CellIs (((w.setCell ⟨g, 0, none⟩ x).setCell ⟨g, 1, none⟩ y).setCell ⟨g, 2, none⟩ z) p v := ((h.far hne).far hne).far hne

theorem readV_shape {b : List Nat} {t : Nat} {i : Int} {l : List Nat} {n : Nat} (h : readV b = some (t, i, l, n)) : (t = 4 ∧ i = 0) ∨ (t ≠ 4 ∧ l = [] ∧ ∃ q, i = sgn (widthV t) q) := by
  match b, h with
  | [], h => cases h
  | x :: r, h =>
    by_cases hx : x = 4
    · subst hx
      match r, h with
      | [], h => cases h
      | m :: q, h =>
        rw [readV_4] at h
        split at h
        · cases h; exact .inl ⟨rfl, rfl⟩
        · cases h
    · rw [readV_n x r hx] at h
      split at h
      · cases h
      · cases h; exact .inr ⟨hx, rfl, _, rfl⟩
theorem readV_small {b : List Nat} {t : Nat} {i : Int} {l : List Nat} {n : Nat} (h256 : ∀ x ∈ b, x < 256) (h : readV b = some (t, i, l, n)) : (t = 4 ∧ i = 0) ∨ (t = 0 ∧ i = 0 ∧ l = []) ∨ (t = 1 ∧ l = [] ∧ -32768 ≤ i ∧ i ≤ 32767) ∨ (t ≠ 4 ∧ t ≠ 0 ∧ t ≠ 1 ∧ l = []) := by
  match b, h256, h with
  | [], _, h => cases h
  | x :: r, h256, h =>
    by_cases hx : x = 4
    · rcases readV_shape h with h1 | ⟨h1, h2, q, h3⟩
      · exact .inl h1
      · subst hx
        match r, h with
        | [], h => cases h
        | m :: q, h =>
          rw [readV_4] at h
          split at h
          · cases h; exact absurd rfl h1
          · cases h
    · rw [readV_n x r hx] at h
      split at h
      · cases h
      · rename_i hlen
        cases h
        by_cases h0 : t = 0
        · subst h0; exact .inr (.inl ⟨rfl, rfl, rfl⟩)
        · by_cases h1 : t = 1
          · subst h1
            have e : widthV ((1 : Nat) : Int) = 2 := rfl
            rw [e] at hlen ⊢
            have := sgn_2 (numH (r.take 2)) (by
              have := numH_lt' (r.take 2) (fun x hx => h256 x (List.mem_cons_of_mem _ (List.mem_of_mem_take hx))) 2 (by rw [List.length_take]; omega)
              simpa using this)
            exact .inr (.inr (.inl ⟨rfl, rfl, this.1, this.2⟩))
          · exact .inr (.inr (.inr ⟨hx, h0, h1, rfl⟩))
theorem takeV_may {b : List Nat} {t : Nat} {i : Int} {l : List Nat} {n : Nat} (h256 : ∀ x ∈ b, x < 256) (h : readV b = some (t, i, l, n)) (hm : MayV t i l.length) : takeV b = some (t, i, l, n) := by
  unfold takeV; rw [h]
  simp only
  rw [if_pos (by unfold MayV at hm; omega)]
theorem takeV_not {b : List Nat} {t : Nat} {i : Int} {l : List Nat} {n : Nat} (h256 : ∀ x ∈ b, x < 256) (h : readV b = some (t, i, l, n)) (hm : ¬ MayV t i l.length) : takeV b = none := by
  unfold takeV; rw [h]
  simp only
  rw [if_neg]
  have hs := readV_small h256 h
  unfold MayV at hm
  rcases hs with ⟨h1, h2⟩ | ⟨h1, h2, h3⟩ | ⟨h1, h2, h3, h4⟩ | ⟨h1, h2, h3, h4⟩
  · omega
  · have hl : l.length = 0 := by rw [h3]; rfl
    omega
  · have hl : l.length = 0 := by rw [h2]; rfl
    omega
  · have hl : l.length = 0 := by rw [h4]; rfl
    omega

end Go.Proofs.YtjphfdjijmpicaaDoor.V1

namespace Go.Proofs.YtjphfdjijmpicaaDoor.V1
open Go.Proofs.YtjphfdjijmpicaaDoor
open Go.RowKit
set_option linter.unusedVariables false
set_option maxRecDepth 100000 in
set_option maxHeartbeats 1000000 in
theorem valTake_int (bb off n c : Nat) (q r : List Nat) (i : Int) (w : World) (hs : Sn w) (hn : n = 9 + r.length) (hq : q.length = 8) (hr : Has w (some ⟨bb, off, none⟩) (ints .u8 (2 :: (q ++ r)))) (h256 : ∀ x ∈ q, x < 256) (hb : n ≤ 1000000) (hcap : n ≤ c) (hc : c ≤ 9223372036854775807) (hi : sgn 8 (numH q) = i) :
    Calls Tryd.prog 19 #[.slice (some ⟨bb, off, none⟩) n c] w fun e w' => e = .returned (.tuple #[vagg 2 i ⟨#[]⟩, .int .i64 9, .bool true]) ∧ Later w w' := by
  have L0 : Later w (w.alloc (.cells #[.int .i64 0, .int .i64 0, .string ⟨#[]⟩] 28)) := Later.new _ _
  obtain ⟨a0, a2, a3, a4, SW⟩ := hs
  have S := (SW.below L0).more L0.size
  have B0 := Blk.new w #[.int .i64 0, .int .i64 0, .string ⟨#[]⟩] 28 _ rfl
  have H0 := hr.later L0
  obtain ⟨hlt, hc0⟩ : bb < (w.alloc (.cells #[.int .i64 0, .int .i64 0, .string ⟨#[]⟩] 28)).heap.size ∧ (w.alloc (.cells #[.int .i64 0, .int .i64 0, .string ⟨#[]⟩] 28)).cell? ⟨bb, off, none⟩ = some (.int .u8 ((2 : Nat) : Int)) := by
    rcases H0 with h | ⟨b', o', h1, h2, h3⟩
    · cases h
    · injection h1 with h1
      injection h1 with h4 h5
      subst h4 h5
      exact ⟨h2, h3 0 _ rfl⟩
  have hq2 : Has (w.alloc (.cells #[.int .i64 0, .int .i64 0, .string ⟨#[]⟩] 28)) (some ⟨bb, off + 1, none⟩) (ints .u8 q) := by
    have h := (Has.drop (hr.later L0) 1).take 8
    have e : ((ints .u8 (2 :: (q ++ r))).drop 1).take 8 = ints .u8 q := by
      rw [show ints .u8 (2 :: (q ++ r)) = .int .u8 2 :: ints .u8 (q ++ r) from rfl, List.drop_one, List.tail_cons, ints_take]
      congr 1
      rw [List.take_append_of_le_length (by omega), List.take_of_length_le (by omega)]
    rwa [e] at h
  have hc1 := valRead_num 2 8 rfl bb off n c _ hlt (by omega) hb hcap hc hc0 (by decide) (by decide) (by omega) q hq h256 hq2
  rw [hi] at hc1
  have hbs : bstr [] = ⟨#[]⟩ := rfl
  have HC : Hid (Calls Tryd.prog 30 #[.slice (some ⟨bb, off, none⟩) n c] (w.alloc (.cells #[.int .i64 0, .int .i64 0, .string ⟨#[]⟩] 28)) fun e w' => e = .returned (.tuple #[vagg 2 i ⟨#[]⟩, .int .i64 9, .nilIface]) ∧ Later (w.alloc (.cells #[.int .i64 0, .int .i64 0, .string ⟨#[]⟩] 28)) w') := Lib.hid (hc1.mono fun e w' h => ⟨by rw [h.1, hbs]; rfl, h.2⟩)
  clear hc1 hbs
  have hsh := S.short
  have hg : 1 < w.heap.size := SW.lt _ (by simp)
  have HSW := Lib.hid SW
  have hm : MayV 2 i 0 := .inr (.inr (.inl ⟨rfl, rfl⟩))
  have HMM := Lib.hid hm
  clear SW hr S H0 hc0 hq2 hlt hi hm hn hq
  go_enter Tryd.func19, Tryd.ntmps19
  go_wp2_with fail
  refine HC.out.mono ?_
  rintro e w2 ⟨rfl, l2⟩
  have b2 := B0.later l2
  have L2 := L0.trans l2
  have hc0 := b2.cell 0 _ rfl
  have hc1 := b2.cell 1 _ rfl
  have hc2 := b2.cell 2 _ rfl
  have hf0 := b2.frozen 0
  have hf1 := b2.frozen 1
  have hf2 := b2.frozen 2
  have hgs := l2.cell hsh
  have b3 := three_blk b2 rfl (.int .i64 2) (.int .i64 i) (.string ⟨#[]⟩)
  have L3 := three_later L2 (Nat.le_refl _) (.int .i64 2) (.int .i64 i) (.string ⟨#[]⟩)
  obtain ⟨w3, hw3⟩ : ∃ w3, w3 = (((w2.setCell ⟨w.heap.size, 0, none⟩ (.int .i64 2)).setCell ⟨w.heap.size, 1, none⟩ (.int .i64 i)).setCell ⟨w.heap.size, 2, none⟩ (.string ⟨#[]⟩)) := ⟨_, rfl⟩
  rw [← hw3] at b3 L3
  have HIN := Lib.hid (is_nil a0 w3)
  have HW3 := Lib.hid hw3
  clear HC B0 L0 b2 hw3 hsh
  go_wp2_with fail
  rw [← HW3.out]
  refine HIN.out.mono ?_
  rintro e w' ⟨rfl, rfl⟩
  have S3 := (HSW.out.below L3).more L3.size
  have d0 := b3.cell 0 _ rfl
  have d1 := b3.cell 1 _ rfl
  have d2 := b3.cell 2 _ rfl
  have HCK := Lib.hid (check_any 2 i ⟨#[]⟩ a0 a2 a3 a4 w3 S3)
  clear HW3 hc0 hc1 hc2 hf0 hf1 hf2 hgs S3
  go_wp2_with fail
  refine HCK.out.mono ?_
  rintro e w4 ⟨⟨hm, rfl⟩ | ⟨hm, p, rfl⟩, b4⟩
  · have l4 : Later w3 w4 := b4
    have b4' := b3.later l4
    have L4 := L3.trans l4
    have c0 := b4'.cell 0 _ rfl
    have c1 := b4'.cell 1 _ rfl
    have c2 := b4'.cell 2 _ rfl
    have f0 := b4'.frozen 0
    have f1 := b4'.frozen 1
    have f2 := b4'.frozen 2
    have HM := Lib.hid hm
    clear d0 d1 d2 b4 hm HCK
    go_wp2_with fail
    have b5 := three_blk b4' rfl (.int .i64 2) (.int .i64 i) (.string ⟨#[]⟩)
    have L5 := three_later L4 (Nat.le_refl _) (.int .i64 2) (.int .i64 i) (.string ⟨#[]⟩)
    obtain ⟨w5, hw5⟩ : ∃ w5, w5 = (((w4.setCell ⟨w.heap.size, 0, none⟩ (.int .i64 2)).setCell ⟨w.heap.size, 1, none⟩ (.int .i64 i)).setCell ⟨w.heap.size, 2, none⟩ (.string ⟨#[]⟩)) := ⟨_, rfl⟩
    rw [← hw5] at b5 L5 ⊢
    have r0 := b5.cell 0 _ rfl
    have r1 := b5.cell 1 _ rfl
    have r2 := b5.cell 2 _ rfl
    exact bodyPost_ret (v := .tuple #[vagg 2 i ⟨#[]⟩, .int .i64 9, .bool true]) (by simp [results, Tryd.results19, go_sem, r0, r1, r2]) rfl ⟨rfl, L5⟩
  · exact absurd HMM.out hm
end Go.Proofs.YtjphfdjijmpicaaDoor.V1
