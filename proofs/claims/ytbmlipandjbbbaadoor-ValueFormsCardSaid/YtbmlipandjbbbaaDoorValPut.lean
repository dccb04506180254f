/- The walk of value.Put. -/
import Derived.Test.YtbmlipandjbbbaaDoorHigh
import Derived.Test.YtbmlipandjbbbaaDoorStep
namespace Go.Proofs.YtbmlipandjbbbaaDoor
open Go.RowKit
set_option linter.unusedVariables false

/-- A string's bytes. -/
def nums (s : ByteArray) : List Nat := s.data.toList.map UInt8.toNat
theorem nums_length (s : ByteArray) : (nums s).length = s.size := by unfold nums; rw [List.length_map, Array.length_toList]; rfl
theorem nums_lt (s : ByteArray) : ∀ x ∈ nums s, x < 256 := by
  intro x hx
  obtain ⟨b, _, rfl⟩ := List.mem_map.1 hx
  exact b.toNat_lt
theorem strCells_nums (s : ByteArray) : Lib.strCells s = ints .u8 (nums s) := by
  unfold Lib.strCells ints nums; rw [List.map_map]; rfl

/-- A value's bytes. -/
def putB (t i : Int) (s : ByteArray) : List Nat := t.toNat :: (if t = 4 then s.size :: nums s else topB (i % 18446744073709551616).toNat (widthV t))

set_option maxRecDepth 100000 in
theorem valPut_no (t i : Int) (s : ByteArray) (a0 a2 a3 a4 : Addr) (w : World) (hs : Sents w w.heap.size a0 a2 a3 a4) (hm : ¬ MayV t i s.size) :
    Calls Tryd.prog 19 #[.agg #[.int .i64 t, .int .i64 i, .string s]] w fun e w' => e = .returned (.slice none 0 0) ∧ Below w.heap.size w w' := by
  obtain ⟨w1, hw1⟩ : ∃ w1 : World, w.alloc (.cells #[.int .i64 t, .int .i64 i, .string s] 23) = w1 := ⟨_, rfl⟩
  have b1 : Below w.heap.size w w1 := hw1 ▸ (Below.refl _ _).alloc (Nat.le_refl _) _
  have HC := Lib.hid (may_any t i s a0 a2 a3 a4 w1 ((hs.below b1).more b1.size))
  have HB := Lib.hid b1
  have HW := Lib.hid hw1
  clear hs hw1 b1
  go_enter Tryd.func19, Tryd.ntmps19
  go_wp2_with fail
  rw [HW.out]
  refine HC.out.mono ?_
  rintro e w2 ⟨r, hr, rfl, b2⟩
  have HB2 := Lib.hid (HB.out.trans (b2.mono HB.out.size))
  have hrf : r = false := by
    cases r with
    | false => rfl
    | true => exact absurd (hr.1 rfl) hm
  subst hrf
  clear b2 hr
  go_wp2_with fail
  go_ret
  exact ⟨rfl, HB2.out⟩

set_option maxRecDepth 100000 in
set_option maxHeartbeats 1000000 in
theorem valPut_num (t i : Int) (s : ByteArray) (a0 a2 a3 a4 : Addr) (w : World) (hs : Sents w w.heap.size a0 a2 a3 a4) (hm : MayV t i s.size) (h4 : t ≠ 4) :
    Calls Tryd.prog 19 #[.agg #[.int .i64 t, .int .i64 i, .string s]] w (Makes (putB t i s) w) := by
  obtain ⟨w1, hw1⟩ : ∃ w1 : World, w.alloc (.cells #[.int .i64 t, .int .i64 i, .string s] 23) = w1 := ⟨_, rfl⟩
  have b1 : Below w.heap.size w w1 := hw1 ▸ (Below.refl _ _).alloc (Nat.le_refl _) _
  have hlt : w.heap.size < w1.heap.size := by rw [← hw1]; simp
  have hc0 : w1.cell? ⟨w.heap.size, 0, none⟩ = some (.int .i64 t) := by rw [← hw1, World.cell?_alloc_at _ _ _ _ rfl]; rfl
  have hc1 : w1.cell? ⟨w.heap.size, 1, none⟩ = some (.int .i64 i) := by rw [← hw1, World.cell?_alloc_at _ _ _ _ rfl]; rfl
  have HC := Lib.hid (may_any t i s a0 a2 a3 a4 w1 ((hs.below b1).more b1.size))
  have HB := Lib.hid b1
  have HW := Lib.hid hw1
  have HC0 := Lib.hid hc0
  have HC1 := Lib.hid hc1
  have ht03 : 0 ≤ t ∧ t ≤ 3 := by unfold MayV at hm; omega
  obtain ⟨tn, rfl⟩ : ∃ tn : Nat, t = (tn : Int) := ⟨t.toNat, by omega⟩
  have ht4 : ((tn : Int) == 4) = false := by simp; omega
  have htm : (tn : Int) % 256 = (tn : Int) := by omega
  clear hs hw1 b1 hc0 hc1
  go_enter Tryd.func19, Tryd.ntmps19
  go_wp2_with fail
  rw [HW.out]
  refine HC.out.mono ?_
  rintro e w2 ⟨r, hr, rfl, b2⟩
  have HB2 := Lib.hid (HB.out.trans (b2.mono HB.out.size))
  have hrt : r = true := hr.2 hm
  subst hrt
  have hc0 := (b2.cell (p := ⟨w.heap.size, 0, none⟩) hlt).trans HC0.out
  have hc1 := (b2.cell (p := ⟨w.heap.size, 1, none⟩) hlt).trans HC1.out
  have hlt2 : w.heap.size < w2.heap.size := block_lt_of_cell hc0
  clear b2 hr HC HC0 HC1 HB HW hm hlt
  go_wp2_with fail
  obtain ⟨w3, hw3⟩ : ∃ w3 : World, w2.alloc (.cells #[.int .u8 (tn : Int)] 5) = w3 := ⟨_, rfl⟩
  rw [hw3]
  have b3 : Below w2.heap.size w2 w3 := hw3 ▸ (Below.refl _ _).alloc (Nat.le_refl _) _
  have ROW := Lib.hid (show Row w3 w2.heap.size 5 .u8 [tn] from hw3 ▸ Row.lit w2 5 .u8 [tn])
  have HB3 := Lib.hid (HB2.out.trans (b3.mono HB2.out.size))
  have hd0 := (b3.cell (p := ⟨w.heap.size, 0, none⟩) hlt2).trans hc0
  have hd1 := (b3.cell (p := ⟨w.heap.size, 1, none⟩) hlt2).trans hc1
  have z3 : w2.heap.size < w3.heap.size := ROW.out.lt
  obtain ⟨g, hg⟩ : ∃ g, g = w2.heap.size := ⟨_, rfl⟩
  rw [← hg] at ROW z3 hlt2 ⊢
  clear hc0 hc1 b3 hw3 HB2 hg
  obtain ⟨U, hU⟩ : ∃ U : Nat, U = (i % 18446744073709551616).toNat := ⟨_, rfl⟩
  have hwr : IntKind.u64.wrap i = (U : Int) := by rw [IntKind.wrap_u64]; omega
  have hU64 : U < 18446744073709551616 := by omega
  obtain ⟨wd, hwd⟩ : ∃ wd, wd = widthV (tn : Int) := ⟨_, rfl⟩
  have hw8 : wd ≤ 8 := by rw [hwd]; unfold widthV; split <;> (try split) <;> (try split) <;> omega
  have hput : putB (tn : Int) i s = tn :: topB U wd := by
    unfold putB; rw [if_neg h4, ← hU, ← hwd]; rfl
  have HPUT := Lib.hid hput
  have HL := Lib.hid (topB_length U wd)
  have HWD := Lib.hid hwd
  clear hU hput hwd h4
  go_wp2_with fail
  go_region_law (first
    | (refine step_append_rd (by rfl) (.tmp 24) (.tmp 31) 24 (by rfl) w.heap.size 5 (.int .u8 0) 1 Tryd.underlying24 info_u8 rfl _ 1 (ints .u8 [tn]) (by rfl) OWN.out _ _ (topB U wd).length cp (ints .u8 (topB U wd)) (by rfl) RD.out ?_ N5.out (ints_one _ _) ?_ ?_ ?_ ?_; (rw [ints_length]); (unfold maxLen; have := HL.out; omega); (have := HL.out; omega); (exact z5.out); intro A2 c2 w6 o2 g2 b2 n2; have HO2 := Lib.hid o2; have HB6 := Lib.hid (HB5.out.trans b2); have HN2 := Lib.hid n2; clear o2 g2 b2 n2)
    | (go_simp; go_at_call 40; refine (width_any (tn : Int) _).mono ?_; rintro e w' ⟨rfl, rfl⟩; rw [← HWD.out])
    | (go_simp; go_at_call 39; refine (high_makes U wd hU64 hw8 _).mono ?_; rintro e w5 ⟨P, cp, rfl, o5, b5, n5⟩; have OWN := Lib.hid ((((ROW.out.drew).below b5 z3).own (base := w.heap.size) (Nat.le_of_lt hlt2) (by simp [maxLen]))); have RD := Lib.hid (Rd.own o5); have N5 := Lib.hid n5; have HB5 := Lib.hid (HB3.out.drew.trans (b5.mono HB3.out.drew.size)); have z5 := Lib.hid (Nat.le_trans HB3.out.drew.size b5.size); clear o5 b5 n5))
  all_goals go_wp2_with fail
  all_goals go_ret
  all_goals
    refine ⟨A2, c2, ?_, ?_, HB6.out, HN2.out⟩
    · rw [HPUT.out, List.length_cons, Nat.add_comm]; try rfl
    · rw [HPUT.out, List.length_cons, Nat.add_comm]; exact HO2.out

theorem own_mono {w : World} {base base' : Nat} {e : TypeId} {v : Value} {n : Nat} {xs : List Value} (h : w.ownsRow base e 1 v n xs) (hb : base' ≤ base) : w.ownsRow base' e 1 v n xs := by
  obtain ⟨h1, h2⟩ := h
  refine ⟨h1, ?_⟩
  rcases h2 with h2 | ⟨g, cap, cur, ha, hb2, hrest⟩
  · exact .inl h2
  · exact .inr ⟨g, cap, cur, ha, Nat.le_trans hb hb2, hrest⟩

set_option maxRecDepth 100000 in
set_option maxHeartbeats 1000000 in
theorem valPut_text (i : Int) (s : ByteArray) (a0 a2 a3 a4 : Addr) (w : World) (hs : Sents w w.heap.size a0 a2 a3 a4) (hm : MayV 4 i s.size) :
    Calls Tryd.prog 19 #[.agg #[.int .i64 4, .int .i64 i, .string s]] w (Makes (putB 4 i s) w) := by
  obtain ⟨w1, hw1⟩ : ∃ w1 : World, w.alloc (.cells #[.int .i64 4, .int .i64 i, .string s] 23) = w1 := ⟨_, rfl⟩
  have b1 : Below w.heap.size w w1 := hw1 ▸ (Below.refl _ _).alloc (Nat.le_refl _) _
  have hlt : w.heap.size < w1.heap.size := by rw [← hw1]; simp
  have hc0 : w1.cell? ⟨w.heap.size, 0, none⟩ = some (.int .i64 4) := by rw [← hw1, World.cell?_alloc_at _ _ _ _ rfl]; rfl
  have hc2 : w1.cell? ⟨w.heap.size, 2, none⟩ = some (.string s) := by rw [← hw1, World.cell?_alloc_at _ _ _ _ rfl]; rfl
  have HC := Lib.hid (may_any 4 i s a0 a2 a3 a4 w1 ((hs.below b1).more b1.size))
  have HB := Lib.hid b1
  have HW := Lib.hid hw1
  have HC0 := Lib.hid hc0
  have HC2 := Lib.hid hc2
  have hs20 : s.size ≤ 20 := by unfold MayV at hm; omega
  have hsm : IntKind.u8.wrap (s.size : Int) = (s.size : Int) := by rw [IntKind.wrap_u8]; omega
  clear hs hw1 b1 hc0 hc2
  go_enter Tryd.func19, Tryd.ntmps19
  go_wp2_with fail
  rw [HW.out]
  refine HC.out.mono ?_
  rintro e w2 ⟨r, hr, rfl, b2⟩
  have HB2 := Lib.hid (HB.out.trans (b2.mono HB.out.size))
  have hrt : r = true := hr.2 hm
  subst hrt
  have hc0 := (b2.cell (p := ⟨w.heap.size, 0, none⟩) hlt).trans HC0.out
  have hc2 := (b2.cell (p := ⟨w.heap.size, 2, none⟩) hlt).trans HC2.out
  have hlt2 : w.heap.size < w2.heap.size := block_lt_of_cell hc0
  clear b2 hr HC HC0 HC2 HB HW hm hlt
  go_wp2_with fail
  obtain ⟨w3, hw3⟩ : ∃ w3 : World, w2.alloc (.cells #[.int .u8 4] 5) = w3 := ⟨_, rfl⟩
  rw [hw3]
  have b3 : Below w2.heap.size w2 w3 := hw3 ▸ (Below.refl _ _).alloc (Nat.le_refl _) _
  have ROW := Lib.hid (show Row w3 w2.heap.size 5 .u8 [4] from hw3 ▸ Row.lit w2 5 .u8 [4])
  have HB3 := Lib.hid (HB2.out.trans (b3.mono HB2.out.size))
  have hd0 := (b3.cell (p := ⟨w.heap.size, 0, none⟩) hlt2).trans hc0
  have hd2 := (b3.cell (p := ⟨w.heap.size, 2, none⟩) hlt2).trans hc2
  have z3 : w2.heap.size < w3.heap.size := ROW.out.lt
  have hwl : w.heap.size < w3.heap.size := by omega
  obtain ⟨g, hg⟩ : ∃ g, g = w2.heap.size := ⟨_, rfl⟩
  rw [← hg] at ROW z3 hlt2 ⊢
  clear hc0 hc2 b3 hw3 HB2 hg
  have HPUT := Lib.hid (show putB 4 i s = 4 :: s.size :: nums s from by unfold putB; rw [if_pos rfl]; rfl)
  have HOBJ := Lib.hid (show (w3.alloc (.cells #[.int .u8 (s.size : Int)] 5)).drew.cell? ⟨w.heap.size, 2, none⟩ = some (.string s) from (World.cell?_alloc_past _ _ _ hwl).trans hd2)
  have OWN := Lib.hid ((ROW.out.alloc (.cells #[.int .u8 (s.size : Int)] 5)).drew.own (base := g) (Nat.le_refl _) (by simp [maxLen]))
  have RD := Lib.hid ((rd_lit w3 5 .u8 [s.size] _ rfl).keep (w' := (w3.alloc (.cells (ints .u8 [s.size]).toArray 5)).drew) fun _ _ => rfl)
  have HBA := Lib.hid ((HB3.out.alloc (show w.heap.size ≤ w3.heap.size from Nat.le_of_lt hwl) (.cells #[.int .u8 (s.size : Int)] 5)).drew)
  go_wp2_with fail
  go_region_law (first
    | (refine step_append_rd (by rfl) (.tmp 14) (.tmp 19) 24 (by rfl) g 5 (.int .u8 0) 1 Tryd.underlying24 info_u8 rfl _ 1 (ints .u8 [4]) (by rfl) OWN.out _ _ 1 1 (ints .u8 [s.size]) (by rfl) RD.out ?_ ?_ (ints_one _ _) ?_ ?_ ?_ ?_; rfl; (intro h; cases h); (simp [maxLen]); (simp); (simp; omega); intro A2 c2 w6 o2 g2 b2 n2; have HO2 := Lib.hid o2; have hc6 := (b2.cell (p := ⟨w.heap.size, 2, none⟩) hlt2).trans HOBJ.out; have HB6 := Lib.hid (HBA.out.trans (b2.mono (Nat.le_of_lt hlt2))); have z6 := Lib.hid b2.size; clear o2 g2 b2 n2)
    | (refine step_append_str (by rfl) (.tmp 20) (.tmp 22) 24 9 (by rfl) g 5 Tryd.underlying24 Tryd.underlying9 info_u8 _ 2 (ints .u8 [4] ++ ints .u8 [s.size]) (by rfl) HO2.out s (by rfl) ?_ ?_ ?_ ?_; (unfold maxLen; omega); omega; (have h := z6.out; simp at h; omega); intro A3 c3 w7 o3 g3 b3 n3; have HO3 := Lib.hid o3; have HB7 := Lib.hid (HB6.out.trans (b3.mono (Nat.le_of_lt hlt2))); have HN3 := Lib.hid n3; clear o3 g3 b3 n3))
  all_goals go_wp2_with fail
  all_goals go_ret
  all_goals
    have hl : (4 :: s.size :: nums s).length = 2 + s.size := by rw [List.length_cons, List.length_cons, nums_length]; omega
    refine ⟨A3, c3, ?_, ?_, HB7.out, HN3.out⟩
    · rw [HPUT.out, hl]; try rfl
    · rw [HPUT.out, hl]
      have h := own_mono HO3.out (Nat.le_of_lt hlt2)
      rw [strCells_nums] at h
      exact h
end Go.Proofs.YtbmlipandjbbbaaDoor

