/- Package cell: Put. -/
import Derived.Test.YtfcedbhmbcbiaaaGreatDoorCell
import Derived.Lib.AppendStr
namespace Go.Proofs.YtfcedbhmbcbiaaaGreatDoor
open Go.RowKit
set_option linter.unusedVariables false


set_option maxRecDepth 100000 in
theorem cellPut_num (t i : Int) (s : ByteArray) (w : World) (ht : t = 1 ∨ t = 2) (h0 : -9223372036854775808 ≤ i) (h1 : i ≤ 9223372036854775807) :
    Calls Tryz.prog 34 #[.agg #[.int .i64 t, .int .i64 i, .string s]] w (Makes (putNum (zig i)) w) := by
  have h4 : t ≠ 4 := by omega
  have h3 : t ≠ 3 := by omega
  have hb : Below w.heap.size w (w.alloc (.cells #[.int .i64 t, .int .i64 i, .string s] 26)) := (Below.refl _ _).alloc (Nat.le_refl _) _
  have HB := Lib.hid hb
  have hz := zig_lt i h0 h1
  clear ht hb
  go_enter Tryz.func34, Tryz.ntmps34
  go_wp2_with (go_at_call 60; refine (zig_any i _ h0 h1).mono ?_; rintro e w' ⟨rfl, rfl⟩)
  refine (put_makes (zig i) hz _).mono ?_
  rintro e w2 ⟨A, c, rfl, o, b, n⟩
  have O := Lib.hid (show w2.ownsRow w.heap.size 5 1 (.slice A (putNum (zig i)).length c) (putNum (zig i)).length (ints .u8 (putNum (zig i))) from by
    obtain ⟨p1, p2⟩ := o
    refine ⟨p1, ?_⟩
    rcases p2 with p2 | ⟨g, cap, cur, ha, hb2, hrest⟩
    · exact .inl p2
    · exact .inr ⟨g, cap, cur, ha, Nat.le_trans HB.out.size hb2, hrest⟩)
  have B := Lib.hid (HB.out.trans (b.mono HB.out.size))
  have NN := Lib.hid n
  clear o b n
  go_wp2_with fail
  go_ret
  exact ⟨A, c, rfl, O.out, B.out, NN.out⟩

set_option maxRecDepth 100000 in
theorem cellPut_truth (i : Int) (s : ByteArray) (u : Nat) (w : World) (hi : i = (u : Int)) (hu : u < 256) :
    Calls Tryz.prog 34 #[.agg #[.int .i64 3, .int .i64 i, .string s]] w (Makes [u] w) := by
  subst hi
  obtain ⟨w1, hw1⟩ : ∃ w1 : World, w.alloc (.cells #[.int .i64 3, .int .i64 (u : Int), .string s] 26) = w1 := ⟨_, rfl⟩
  have b1 : Below w.heap.size w w1 := hw1 ▸ (Below.refl _ _).alloc (Nat.le_refl _) _
  have c1 : w1.cell? ⟨w.heap.size, 1, none⟩ = some (.int .i64 (u : Int)) := by rw [← hw1, World.cell?_alloc_at _ _ _ _ rfl]; rfl
  have c0 : w1.cell? ⟨w.heap.size, 0, none⟩ = some (.int .i64 3) := by rw [← hw1, World.cell?_alloc_at _ _ _ _ rfl]; rfl
  have hwr : IntKind.u8.wrap (u : Int) = (u : Int) := by rw [IntKind.wrap_u8]; omega
  have HW := Lib.hid hw1
  have HB := Lib.hid b1
  have O := Lib.hid ((Row.lit w1 5 .u8 [u]).own (base := w.heap.size) b1.size (by simp [maxLen]))
  clear hw1 b1 c0 c1
  go_enter Tryz.func34, Tryz.ntmps34
  go_wp2_with fail
  go_ret
  have e := HW.out
  subst e
  have h := O.out
  rw [show (w.alloc (.cells #[.int .i64 3, .int .i64 (u : Int), .string s] 26)).heap.size = w.heap.size + 1 by simp] at h
  exact ⟨_, _, rfl, h, HB.out.alloc HB.out.size _, by intro h; cases h⟩


set_option maxRecDepth 100000 in
theorem cellPut_text (i : Int) (s : ByteArray) (w : World) (hs : s.size ≤ 20) :
    Calls Tryz.prog 34 #[vagg 4 i s] w (Makes (s.size :: nums s) w) := by
  have hz : (w.alloc (.cells #[.int .i64 4, .int .i64 i, .string s] 26)).heap.size = w.heap.size + 1 := by simp
  have b1 : Below w.heap.size w (w.alloc (.cells #[.int .i64 4, .int .i64 i, .string s] 26)) := (Below.refl _ _).alloc (Nat.le_refl _) _
  have hwr : IntKind.u8.wrap (s.size : Int) = (s.size : Int) := by rw [IntKind.wrap_u8]; omega
  have HO := Lib.hid (show ((w.alloc (.cells #[.int .i64 4, .int .i64 i, .string s] 26)).alloc (.cells (ints .u8 [s.size]).toArray 5)).ownsRow w.heap.size 5 1 (.slice (some ⟨w.heap.size + 1, 0, none⟩) 1 1) 1 (ints .u8 [s.size]) from by
    have h := (Row.lit (w.alloc (.cells #[.int .i64 4, .int .i64 i, .string s] 26)) 5 .u8 [s.size]).own (base := w.heap.size) b1.size (by simp [maxLen])
    rw [hz] at h
    exact h)
  have B2 := Lib.hid ((b1.alloc b1.size (.cells (ints .u8 [s.size]).toArray 5)))
  clear b1 hz
  go_enter Tryz.func34, Tryz.ntmps34
  go_wp2_with (at_builtin; refine wpList_append_str _ rfl (.tmp 11) (.tmp 13) 22 9 rfl w.heap.size 5 Tryz.underlying22 Tryz.underlying9 info_u8 _ 1 (ints .u8 [s.size]) rfl HO.out s rfl ?_ ?_ ?_ ?_; (unfold maxLen; omega); omega; (exact B2.out.size); intro A2 c2 w5 o2 b2 n2; have HO2 := Lib.hid o2; have HB5 := Lib.hid b2; have HN2 := Lib.hid n2; clear o2 b2 n2)
  go_ret
  have hl : (s.size :: nums s).length = 1 + s.size := by rw [List.length_cons, nums_length]; omega
  have h := HO2.out
  rw [strCells_nums] at h
  refine ⟨A2, c2, by rw [hl]; rfl, by rw [hl]; exact h, B2.out.trans HB5.out, HN2.out⟩

/-- Put, of a value that may be. -/
theorem cellPut_any (t i : Int) (s : ByteArray) (w : World) (ht : 1 ≤ t ∧ t ≤ 4) (hm : MayV t i s.size) (h64 : In64 i) :
    Calls Tryz.prog 34 #[vagg t i s] w (Gives (oneB t i s) w) := by
  unfold oneB
  by_cases h4 : t = 4
  · subst h4
    rw [if_pos rfl]
    exact (cellPut_text i s w (by unfold MayV at hm; omega)).mono fun _ _ h => h.gives
  · rw [if_neg h4]
    by_cases h3 : t = 3
    · subst h3
      rw [if_pos rfl]
      exact (cellPut_truth i s i.toNat w (by unfold MayV at hm; omega) (by unfold MayV at hm; omega)).mono fun _ _ h => h.gives
    · rw [if_neg h3]
      exact (cellPut_num t i s w (by omega) h64.1 h64.2).mono fun _ _ h => h.gives
end Go.Proofs.YtfcedbhmbcbiaaaGreatDoor
