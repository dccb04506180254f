/- Walks of the reference's right, one. -/
import Derived.Test.YtifejanbgobngaaDoorRefNumS
import Derived.Test.YtifejanbgobngaaDoorRefMay
import Derived.Test.YtifejanbgobngaaDoorSameV
namespace Go.Proofs.YtifejanbgobngaaDoor
open Go.RowKit
set_option linter.unusedVariables false

theorem SaysP.tells {p : Prop} {w w' : World} {e : Ending} (h : SaysP p w e w') : TellsP p w e w' := h
theorem fits_right {t vt i : Int} {n : Nat} : (FitsV t vt i n ∧ vt = t) ↔ ((1 ≤ t ∧ t ≤ 4) ∧ vt = t ∧ MayV vt i n) := by
  unfold FitsV
  constructor
  · rintro ⟨⟨h1, h2, _, h3⟩, h4⟩
    exact ⟨⟨h1, h2⟩, h4, h3⟩
  · rintro ⟨⟨h1, h2⟩, h4, h3⟩
    exact ⟨⟨h1, h2, .inr h4, h3⟩, h4⟩

set_option maxRecDepth 100000 in
set_option maxHeartbeats 1000000 in
theorem refRight_any (t : Int) (A : Option Addr) (c : Nat) (l : List Val3) (w : World) (hl : l.length ≤ 2000) (hr : Has w A (fl l)) :
    Calls Tryd.prog 29 #[.int .i64 t, .slice A l.length c] w (TellsP ((1 ≤ t ∧ t ≤ 4) ∧ OkL t l) w) := by
  go_enter Tryd.func29, Tryd.ntmps29
  go_wp2_with fail
  go_loopw [5] (fun i wr => ∃ j : Nat, j ≤ l.length ∧ i = .int .i64 j ∧ OkL t (l.take j) ∧ Later w wr) (fun i _ => l.length - (intOf i).toNat)
  case atStart => exact ⟨0, Nat.zero_le _, rfl, by intro x hx; simp at hx, Later.refl _⟩
  case round =>
    obtain ⟨j, hj, rfl, hok, lat⟩ := hrel
    by_cases hlt : j < l.length
    · obtain ⟨b, off, rfl, c0, c1, c2⟩ := (hr.later lat).val3 j hlt
      have HY := Lib.hid (show (FitsV t l[j].1 l[j].2.1 l[j].2.2.size ∧ l[j].1 = t) → OkL t (l.take (j + 1)) from fun h x hx => by
        rw [List.take_succ_eq_append_getElem hlt] at hx
        rcases List.mem_append.1 hx with hx | hx
        · exact hok x hx
        · rw [List.mem_singleton] at hx; rw [hx]; exact (fits_right.1 h).2)
      have HN := Lib.hid (show ¬ (FitsV t l[j].1 l[j].2.1 l[j].2.2.size ∧ l[j].1 = t) → ¬ ((1 ≤ t ∧ t ≤ 4) ∧ OkL t l) from fun h ho => h (fits_right.2 ⟨ho.1, ho.2 _ (List.getElem_mem hlt)⟩))
      generalize l[j].1 = t' at c0 HY HN
      generalize l[j].2.1 = i at c1 HY HN
      generalize l[j].2.2 = s at c2 HY HN
      have C0 : CellIs wr ⟨b, off + j * 3, none⟩ (.int .i64 t') := c0
      have LAT := Lib.hid lat
      have HR := Lib.hid hr
      clear hok lat hr
      go_wp2_with fail
      refine (refFits_any t t' i s wr).mono ?_
      rintro e w2 ⟨r, hr, rfl, b2⟩
      have l2 : Later wr w2 := Later.of b2
      have d0 := (C0.later l2).out
      have LAT2 := Lib.hid (LAT.out.trans l2)
      clear c0 c1 c2 C0 l2 b2 LAT
      cases r with
      | false =>
        have HX := Lib.hid (HN.out (fun h => by have := hr.2 h.1; cases this))
        clear hr
        go_wp2_with fail
        go_ret
        exact TellsP.f HX.out LAT2.out
      | true =>
        have HF := Lib.hid (hr.1 rfl)
        clear hr
        by_cases he : t' = t
        · have hbe : ((t' : Int) != t) = false := by simp [he]
          have HZ := Lib.hid (HY.out ⟨HF.out, he⟩)
          clear he
          go_wp2_with fail
          go_roundw
          case rel => exact ⟨j + 1, hlt, by go_num, HZ.out, LAT2.out⟩
          case measure => simp [intOf]; omega
        · have hbe : ((t' : Int) != t) = true := by simp [he]
          have HX := Lib.hid (HN.out (fun h => he h.2))
          clear he
          go_wp2_with fail
          go_ret
          exact TellsP.f HX.out LAT2.out
    · have HOK := Lib.hid (show OkL t l by rw [List.take_of_length_le (by omega)] at hok; exact hok)
      have LAT := Lib.hid lat
      clear hok lat hr
      go_wp2_with fail
      refine (isType_any t wr).mono ?_
      rintro e w2 ⟨r, hr, rfl, b2⟩
      have HR := Lib.hid hr
      clear hr
      go_wp2_with fail
      go_ret
      exact ⟨r, ⟨fun h => ⟨HR.out.1 h, HOK.out⟩, fun h => HR.out.2 h.1⟩, rfl, LAT.out.trans (Later.of b2)⟩

set_option maxRecDepth 100000 in
theorem refOne_num (t i : Int) (s : ByteArray) (w : World) (ht : t = 1 ∨ t = 2) (h0 : -9223372036854775808 ≤ i) (h1 : i ≤ 9223372036854775807) :
    Calls Tryd.prog 31 #[.agg #[.int .i64 t, .int .i64 i, .string s]] w (Makes (putNum (zig i)) w) := by
  have h4 : t ≠ 4 := by omega
  have h3 : t ≠ 3 := by omega
  have hb : Below w.heap.size w (w.alloc (.cells #[.int .i64 t, .int .i64 i, .string s] 26)) := (Below.refl _ _).alloc (Nat.le_refl _) _
  have HB := Lib.hid hb
  have hz := zig_lt i h0 h1
  clear ht hb
  go_enter Tryd.func31, Tryd.ntmps31
  go_wp2_with (go_at_call 35; refine (refZig_any i _ h0 h1).mono ?_; rintro e w' ⟨rfl, rfl⟩)
  refine (refPut_makes (zig i) hz _).mono ?_
  rintro e w2 ⟨A, c, rfl, o, b, n⟩
  have O := Lib.hid (show w2.ownsRow w.heap.size 5 1 (.slice A (putNum (zig i)).length c) (putNum (zig i)).length (ints .u8 (putNum (zig i))) from by
    obtain ⟨p1, p2⟩ := o
    refine ⟨p1, ?_⟩
    rcases p2 with p2 | ⟨g, cap, cur, ha, hb2, hrest⟩
    · exact .inl p2
    · exact .inr ⟨g, cap, cur, ha, Nat.le_trans HB.out.size hb2, hrest⟩)
  have B := Lib.hid (HB.out.trans (b.mono HB.out.size))
  have NN := Lib.hid n
  clear o b n
  go_wp2_with fail
  go_ret
  exact ⟨A, c, rfl, O.out, B.out, NN.out⟩

set_option maxRecDepth 100000 in
theorem refOne_truth (i : Int) (s : ByteArray) (u : Nat) (w : World) (hi : i = (u : Int)) (hu : u < 256) :
    Calls Tryd.prog 31 #[.agg #[.int .i64 3, .int .i64 i, .string s]] w (Makes [u] w) := by
  subst hi
  obtain ⟨w1, hw1⟩ : ∃ w1 : World, w.alloc (.cells #[.int .i64 3, .int .i64 (u : Int), .string s] 26) = w1 := ⟨_, rfl⟩
  have b1 : Below w.heap.size w w1 := hw1 ▸ (Below.refl _ _).alloc (Nat.le_refl _) _
  have c1 : w1.cell? ⟨w.heap.size, 1, none⟩ = some (.int .i64 (u : Int)) := by rw [← hw1, World.cell?_alloc_at _ _ _ _ rfl]; rfl
  have c0 : w1.cell? ⟨w.heap.size, 0, none⟩ = some (.int .i64 3) := by rw [← hw1, World.cell?_alloc_at _ _ _ _ rfl]; rfl
  have hwr : IntKind.u8.wrap (u : Int) = (u : Int) := by rw [IntKind.wrap_u8]; omega
  have HW := Lib.hid hw1
  have HB := Lib.hid b1
  have O := Lib.hid ((Row.lit w1 5 .u8 [u]).own (base := w.heap.size) b1.size (by simp [maxLen]))
  clear hw1 b1 c0 c1
  go_enter Tryd.func31, Tryd.ntmps31
  go_wp2_with fail
  go_ret
  have e := HW.out
  subst e
  have h := O.out
  rw [show (w.alloc (.cells #[.int .i64 3, .int .i64 (u : Int), .string s] 26)).heap.size = w.heap.size + 1 by simp] at h
  exact ⟨_, _, rfl, h, HB.out.alloc HB.out.size _, by intro h; cases h⟩
set_option maxRecDepth 100000 in
theorem refOne_text (i : Int) (s : ByteArray) (w : World) (hs : s.size ≤ 20) :
    Calls Tryd.prog 31 #[vagg 4 i s] w (Makes (s.size :: nums s) w) := by
  have hz : (w.alloc (.cells #[.int .i64 4, .int .i64 i, .string s] 26)).heap.size = w.heap.size + 1 := by simp
  have b1 : Below w.heap.size w (w.alloc (.cells #[.int .i64 4, .int .i64 i, .string s] 26)) := (Below.refl _ _).alloc (Nat.le_refl _) _
  have hwr : IntKind.u8.wrap (s.size : Int) = (s.size : Int) := by rw [IntKind.wrap_u8]; omega
  have HO := Lib.hid (show ((w.alloc (.cells #[.int .i64 4, .int .i64 i, .string s] 26)).alloc (.cells (ints .u8 [s.size]).toArray 5)).ownsRow w.heap.size 5 1 (.slice (some ⟨w.heap.size + 1, 0, none⟩) 1 1) 1 (ints .u8 [s.size]) from by
    have h := (Row.lit (w.alloc (.cells #[.int .i64 4, .int .i64 i, .string s] 26)) 5 .u8 [s.size]).own (base := w.heap.size) b1.size (by simp [maxLen])
    rw [hz] at h
    exact h)
  have B2 := Lib.hid ((b1.alloc b1.size (.cells (ints .u8 [s.size]).toArray 5)))
  clear b1 hz
  go_enter Tryd.func31, Tryd.ntmps31
  go_wp2_with (at_builtin; refine wpList_append_str _ rfl (.tmp 17) (.tmp 19) 22 9 rfl w.heap.size 5 Tryd.underlying22 Tryd.underlying9 info_u8 _ 1 (ints .u8 [s.size]) rfl HO.out s rfl ?_ ?_ ?_ ?_; (unfold maxLen; omega); omega; (exact B2.out.size); intro A2 c2 w5 o2 b2 n2; have HO2 := Lib.hid o2; have HB5 := Lib.hid b2; have HN2 := Lib.hid n2; clear o2 b2 n2)
  go_ret
  have hl : (s.size :: nums s).length = 1 + s.size := by rw [List.length_cons, nums_length]; omega
  have h := HO2.out
  rw [strCells_nums] at h
  refine ⟨A2, c2, by rw [hl]; rfl, by rw [hl]; exact h, B2.out.trans HB5.out, HN2.out⟩

/-- Put, of a value that may be. -/
theorem refOne_any (t i : Int) (s : ByteArray) (w : World) (ht : 1 ≤ t ∧ t ≤ 4) (hm : MayV t i s.size) (h64 : In64 i) :
    Calls Tryd.prog 31 #[vagg t i s] w (Gives (oneB t i s) w) := by
  unfold oneB
  by_cases h4 : t = 4
  · subst h4
    rw [if_pos rfl]
    exact (refOne_text i s w (by unfold MayV at hm; omega)).mono fun _ _ h => h.gives
  · rw [if_neg h4]
    by_cases h3 : t = 3
    · subst h3
      rw [if_pos rfl]
      exact (refOne_truth i s i.toNat w (by unfold MayV at hm; omega) (by unfold MayV at hm; omega)).mono fun _ _ h => h.gives
    · rw [if_neg h3]
      exact (refOne_num t i s w (by omega) h64.1 h64.2).mono fun _ _ h => h.gives
end Go.Proofs.YtifejanbgobngaaDoor
