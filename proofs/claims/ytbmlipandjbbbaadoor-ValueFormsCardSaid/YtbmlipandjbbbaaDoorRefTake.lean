/- Walks of the reference's size, Take. -/
import Derived.Test.YtbmlipandjbbbaaDoorValTakeC
namespace Go.Proofs.YtbmlipandjbbbaaDoor
open Go.RowKit
set_option linter.unusedVariables false

theorem refSize_n (b off n c : Nat) (t : Nat) (w : World) (hc0 : w.cell? ⟨b, off, none⟩ = some (.int .u8 (t : Int))) (ht : t < 256) (h4 : t ≠ 4) (hn : 1 ≤ n) :
    Calls Tryd.prog 36 #[.slice (some ⟨b, off, none⟩) n c] w fun e w' => e = .returned (.int .i64 (widthV t : Nat)) ∧ w = w' := by
  have h4' : ((t : Int) == 4) = false := by simp; omega
  go_enter Tryd.func36, Tryd.ntmps36
  go_wp2_with fail
  all_goals go_ret
  all_goals simp only [beq_iff_eq, beq_eq_false_iff_ne, ne_eq] at *
  all_goals exact ⟨ret_int (by simp [widthV, *]), by first | rfl | trivial⟩
theorem refSize_4a (b off c : Nat) (w : World) (hc0 : w.cell? ⟨b, off, none⟩ = some (.int .u8 4)) :
    Calls Tryd.prog 36 #[.slice (some ⟨b, off, none⟩) 1 c] w fun e w' => e = .returned (.int .i64 1) ∧ w = w' := by
  go_enter Tryd.func36, Tryd.ntmps36
  go_wp2_with fail
  go_ret
  exact ⟨rfl, rfl⟩
theorem refSize_4b (b off n c x : Nat) (w : World) (hc0 : w.cell? ⟨b, off, none⟩ = some (.int .u8 4)) (hc1 : w.cell? ⟨b, off + 1, none⟩ = some (.int .u8 (x : Int))) (hx : x < 256) (hn : 2 ≤ n) :
    Calls Tryd.prog 36 #[.slice (some ⟨b, off, none⟩) n c] w fun e w' => e = .returned (.int .i64 (1 + (x : Int))) ∧ w = w' := by
  go_enter Tryd.func36, Tryd.ntmps36
  go_wp2_with fail
  go_ret
  exact ⟨rfl, rfl⟩

def zres (w : World) : World := w.alloc (.cells #[.int .i64 0, .int .i64 0, .string ⟨#[]⟩] 23)

set_option maxRecDepth 100000 in
theorem refTake_nil (A : Option Addr) (c : Nat) (w : World) : Calls Tryd.prog 14 #[.slice A 0 c] w (TakesV [] w) := by
  go_enter Tryd.func14, Tryd.ntmps14
  go_wp2_with fail
  exact bodyPost_ret (v := .tuple #[vagg 0 0 ⟨#[]⟩, .int .i64 0, .bool false]) (by simp [results, Tryd.results14, go_sem]) rfl ⟨.inl ⟨rfl, rfl⟩, (Later.refl w).alloc _⟩

set_option maxRecDepth 100000 in
theorem refTake_cut (b off n c : Nat) (bs : List Nat) (sz : Int) (w : World) (hn : 1 ≤ n) (hb : b < w.heap.size) (h : ∀ w', Later w w' → Calls Tryd.prog 36 #[.slice (some ⟨b, off, none⟩) n c] w' fun e w'' => e = .returned (.int .i64 sz) ∧ w' = w'') (hs : (n : Int) < 1 + sz) (hs1 : sz ≤ 1000) (hs0 : 0 ≤ sz) (ht : takeV bs = none) :
    Calls Tryd.prog 14 #[.slice (some ⟨b, off, none⟩) n c] w (TakesV bs w) := by
  have hn0 : ((n : Int) == 0) = false := by simp; omega
  have HC := Lib.hid (h _ (Later.new w (.cells #[.int .i64 0, .int .i64 0, .string ⟨#[]⟩] 23)))
  have HT := Lib.hid ht
  clear h ht
  go_enter Tryd.func14, Tryd.ntmps14
  go_wp2_with (go_at_call 36; refine HC.out.mono ?_; rintro e w' ⟨rfl, rfl⟩)
  exact bodyPost_ret (v := .tuple #[vagg 0 0 ⟨#[]⟩, .int .i64 0, .bool false]) (by simp [results, Tryd.results14, go_sem]) rfl ⟨.inl ⟨HT.out, rfl⟩, (Later.refl w).alloc _⟩

set_option maxRecDepth 100000 in
set_option maxHeartbeats 1000000 in
/-- Text. -/
theorem refTake_text (b off n c x : Nat) (q r : List Nat) (w : World) (hn : 2 ≤ n) (hn2 : n ≤ 1000000) (hnc : n ≤ c) (hc : c ≤ 9223372036854775807) (hb : b < w.heap.size) (hc0 : w.cell? ⟨b, off, none⟩ = some (.int .u8 4)) (hc1 : w.cell? ⟨b, off + 1, none⟩ = some (.int .u8 (x : Int))) (hx : x < 256)
    (hlong : ¬ (n : Int) < 1 + (1 + (x : Int))) (hq : q.length = x) (hr : Has w (some ⟨b, off + 2, none⟩) (ints .u8 q)) (hT : ∀ ok : Bool, (ok = true ↔ MayV 4 0 x) → takeV r = if ok then some (4, 0, q, x + 2) else none) :
    Calls Tryd.prog 14 #[.slice (some ⟨b, off, none⟩) n c] w (TakesV r w) := by
  have hn0 : ((n : Int) == 0) = false := by simp; omega
  have L1 : Later w (zres w) := Later.new _ _
  have L2 : Later w ((zres w).alloc (.cells #[.int .i64 4, .int .i64 0, .string ⟨#[]⟩] 23)) := L1.alloc _
  have L3 : Later w ((zres w).alloc (.cells #[.int .i64 4, .int .i64 0, .string (bstr q)] 23)) := L1.alloc _
  have B3 : Blk ((zres w).alloc (.cells #[.int .i64 4, .int .i64 0, .string (bstr q)] 23)) w.heap.size #[.int .i64 0, .int .i64 0, .string ⟨#[]⟩] 23 := (Blk.new w _ _ _ rfl).later (Later.new _ _)
  have C3 : Blk ((zres w).alloc (.cells #[.int .i64 4, .int .i64 0, .string (bstr q)] 23)) (w.heap.size + 1) #[.int .i64 4, .int .i64 0, .string (bstr q)] 23 := Blk.new _ _ _ _ (by simp [zres])
  have HS := Lib.hid (refSize_4b b off n c x (zres w) (L1.cell hc0) (L1.cell hc1) hx hn)
  have HM := Lib.hid (refMay_any 4 0 (bstr q) ((zres w).alloc (.cells #[.int .i64 4, .int .i64 0, .string (bstr q)] 23)))
  have hsz : (bstr q).size = x := by rw [bstr_size']; exact hq
  have HSZ := Lib.hid hsz
  have HT := Lib.hid hT
  have hcv := fun cc => conv_str (some ⟨b, off + 2, none⟩) (1 + (1 + x) - 2) cc q (by omega) _ _ (hr.later L2)
  have HQ := Lib.hid hq
  unfold zres at HS HM B3 C3 L3 hcv L2
  clear hT hsz hr L1
  by_cases h2 : c = 2
  · subst h2
    obtain rfl : x = 0 := by omega
    obtain rfl : q = [] := List.eq_nil_of_length_eq_zero hq
    obtain rfl : n = 2 := by omega
    have hcv2 := fun cc => conv_str (some ⟨b, off, none⟩) 0 cc [] rfl _ _ (Has.later (w := w) .nil_ L2)
    clear hq L2 hcv
    go_enter Tryd.func14, Tryd.ntmps14
    go_wp2_with (go_at_call 36; refine HS.out.mono ?_; rintro e w' ⟨rfl, rfl⟩)
    refine HM.out.mono ?_
    rintro e w4 ⟨ok, hok, rfl, b4⟩
    have l4 : Later _ w4 := b4
    have b4' := B3.later l4
    have c4' := C3.later l4
    have L4 := L3.trans l4
    have u0 := b4'.cell 0 _ rfl
    have u1 := b4'.cell 1 _ rfl
    have u2 := b4'.cell 2 _ rfl
    have f0 := b4'.frozen 0
    have f1 := b4'.frozen 1
    have f2 := b4'.frozen 2
    have v0 := c4'.cell 0 _ rfl
    have v1 := c4'.cell 1 _ rfl
    have v2 := c4'.cell 2 _ rfl
    rw [HSZ.out] at hok
    have HX := Lib.hid (HT.out ok hok)
    clear hok b4 l4 B3 C3 L3 HM HS
    cases ok
    · go_wp2_with fail
      have b5 := three_blk b4' rfl (.int .i64 0) (.int .i64 0) (.string ⟨#[]⟩)
      have L5 := three_later L4 (Nat.le_refl _) (.int .i64 0) (.int .i64 0) (.string ⟨#[]⟩)
      obtain ⟨w5, hw5⟩ : ∃ w5, w5 = (((w4.setCell ⟨w.heap.size, 0, none⟩ (.int .i64 0)).setCell ⟨w.heap.size, 1, none⟩ (.int .i64 0)).setCell ⟨w.heap.size, 2, none⟩ (.string ⟨#[]⟩)) := ⟨_, rfl⟩
      rw [← hw5] at b5 L5 ⊢
      have r0 := b5.cell 0 _ rfl
      have r1 := b5.cell 1 _ rfl
      have r2 := b5.cell 2 _ rfl
      exact bodyPost_ret (v := .tuple #[vagg 0 0 ⟨#[]⟩, .int .i64 0, .bool false]) (by simp [results, Tryd.results14, go_sem, r0, r1, r2]) rfl ⟨.inl ⟨HX.out, rfl⟩, L5⟩
    · go_wp2_with fail
      have b5 := three_blk b4' rfl (.int .i64 4) (.int .i64 0) (.string (bstr []))
      have L5 := three_later L4 (Nat.le_refl _) (.int .i64 4) (.int .i64 0) (.string (bstr []))
      obtain ⟨w5, hw5⟩ : ∃ w5, w5 = (((w4.setCell ⟨w.heap.size, 0, none⟩ (.int .i64 4)).setCell ⟨w.heap.size, 1, none⟩ (.int .i64 0)).setCell ⟨w.heap.size, 2, none⟩ (.string (bstr []))) := ⟨_, rfl⟩
      rw [← hw5] at b5 L5 ⊢
      have r0 := b5.cell 0 _ rfl
      have r1 := b5.cell 1 _ rfl
      have r2 := b5.cell 2 _ rfl
      refine bodyPost_ret (v := .tuple #[vagg 4 0 (bstr []), .int .i64 2, .bool true]) (by simp [results, Tryd.results14, go_sem, r0, r1, r2]) rfl ⟨.inr ⟨_, _, _, _, HX.out, ?_⟩, L5⟩
      rfl
  · clear hq L2
    go_enter Tryd.func14, Tryd.ntmps14
    go_wp2_with (go_at_call 36; refine HS.out.mono ?_; rintro e w' ⟨rfl, rfl⟩)
    refine HM.out.mono ?_
    rintro e w4 ⟨ok, hok, rfl, b4⟩
    have l4 : Later _ w4 := b4
    have b4' := B3.later l4
    have c4' := C3.later l4
    have L4 := L3.trans l4
    have u0 := b4'.cell 0 _ rfl
    have u1 := b4'.cell 1 _ rfl
    have u2 := b4'.cell 2 _ rfl
    have f0 := b4'.frozen 0
    have f1 := b4'.frozen 1
    have f2 := b4'.frozen 2
    have v0 := c4'.cell 0 _ rfl
    have v1 := c4'.cell 1 _ rfl
    have v2 := c4'.cell 2 _ rfl
    rw [HSZ.out] at hok
    have HX := Lib.hid (HT.out ok hok)
    clear hok b4 l4 B3 C3 L3 HM HS
    cases ok
    · go_wp2_with fail
      have b5 := three_blk b4' rfl (.int .i64 0) (.int .i64 0) (.string ⟨#[]⟩)
      have L5 := three_later L4 (Nat.le_refl _) (.int .i64 0) (.int .i64 0) (.string ⟨#[]⟩)
      obtain ⟨w5, hw5⟩ : ∃ w5, w5 = (((w4.setCell ⟨w.heap.size, 0, none⟩ (.int .i64 0)).setCell ⟨w.heap.size, 1, none⟩ (.int .i64 0)).setCell ⟨w.heap.size, 2, none⟩ (.string ⟨#[]⟩)) := ⟨_, rfl⟩
      rw [← hw5] at b5 L5 ⊢
      have r0 := b5.cell 0 _ rfl
      have r1 := b5.cell 1 _ rfl
      have r2 := b5.cell 2 _ rfl
      exact bodyPost_ret (v := .tuple #[vagg 0 0 ⟨#[]⟩, .int .i64 0, .bool false]) (by simp [results, Tryd.results14, go_sem, r0, r1, r2]) rfl ⟨.inl ⟨HX.out, rfl⟩, L5⟩
    · go_wp2_with fail
      have b5 := three_blk b4' rfl (.int .i64 4) (.int .i64 0) (.string (bstr q))
      have L5 := three_later L4 (Nat.le_refl _) (.int .i64 4) (.int .i64 0) (.string (bstr q))
      obtain ⟨w5, hw5⟩ : ∃ w5, w5 = (((w4.setCell ⟨w.heap.size, 0, none⟩ (.int .i64 4)).setCell ⟨w.heap.size, 1, none⟩ (.int .i64 0)).setCell ⟨w.heap.size, 2, none⟩ (.string (bstr q))) := ⟨_, rfl⟩
      rw [← hw5] at b5 L5 ⊢
      have r0 := b5.cell 0 _ rfl
      have r1 := b5.cell 1 _ rfl
      have r2 := b5.cell 2 _ rfl
      refine bodyPost_ret (v := .tuple #[vagg 4 0 (bstr q), .int .i64 (1 + (1 + (x : Int))), .bool true]) (by simp [results, Tryd.results14, go_sem, r0, r1, r2]) rfl ⟨.inr ⟨_, _, _, _, HX.out, ?_⟩, L5⟩
      rw [show ((x + 2 : Nat) : Int) = 1 + (1 + (x : Int)) by omega]; rfl

set_option maxRecDepth 100000 in
set_option maxHeartbeats 1000000 in
/-- A number. -/
theorem refTake_zero (b off n c : Nat) (t : Nat) (r : List Nat) (w : World) (hn2 : n ≤ 1000000) (hnc : n ≤ c) (hc : c ≤ 9223372036854775807) (hb : b < w.heap.size) (hc0 : w.cell? ⟨b, off, none⟩ = some (.int .u8 (t : Int))) (ht : t < 256) (hn : 1 ≤ n) (h5 : t = 0 ∨ 5 ≤ t)
    (hT : ∀ ok : Bool, (ok = true ↔ MayV t 0 0) → takeV r = if ok then some (t, 0, [], 1 + widthV t) else none) :
    Calls Tryd.prog 14 #[.slice (some ⟨b, off, none⟩) n c] w (TakesV r w) := by
  have hn0 : ((n : Int) == 0) = false := by simp; omega
  have L1 : Later w (zres w) := Later.new _ _
  have L3 : Later w ((zres w).alloc (.cells #[.int .i64 t, .int .i64 (0), .string ⟨#[]⟩] 23)) := L1.alloc _
  have B3 : Blk ((zres w).alloc (.cells #[.int .i64 t, .int .i64 (0), .string ⟨#[]⟩] 23)) w.heap.size #[.int .i64 0, .int .i64 0, .string ⟨#[]⟩] 23 := (Blk.new w _ _ _ rfl).later (Later.new _ _)
  have C3 : Blk ((zres w).alloc (.cells #[.int .i64 t, .int .i64 (0), .string ⟨#[]⟩] 23)) (w.heap.size + 1) #[.int .i64 t, .int .i64 (0), .string ⟨#[]⟩] 23 := Blk.new _ _ _ _ (by simp [zres])
  have HS := Lib.hid (refSize_n b off n c t (zres w) (L1.cell hc0) ht (by omega) (by omega))
  have HM := Lib.hid (refMay_any t (0) ⟨#[]⟩ ((zres w).alloc (.cells #[.int .i64 t, .int .i64 (0), .string ⟨#[]⟩] 23)))
  have HSZ := Lib.hid (show (⟨#[]⟩ : ByteArray).size = 0 from rfl)
  have HT := Lib.hid hT
  clear hT
  have hw0 : widthV t = 0 := by unfold widthV; rw [if_neg (by omega), if_neg (by omega), if_neg (by omega)]
  rw [hw0] at HS HT
  have h1 : ((t : Int) == 1) = false := by simp; omega
  have h2 : ((t : Int) == 2) = false := by simp; omega
  have h3 : ((t : Int) == 3) = false := by simp; omega
  have h4 : ((t : Int) == 4) = false := by simp; omega
  clear h5 hw0
  unfold zres at HS HM B3 C3 L3
  go_enter Tryd.func14, Tryd.ntmps14
  go_wp2_with (go_at_call 36; refine HS.out.mono ?_; rintro e w' ⟨rfl, rfl⟩)
  refine HM.out.mono ?_
  rintro e w4 ⟨ok, hok, rfl, b4⟩
  have l4 : Later _ w4 := b4
  have b4' := B3.later l4
  have c4' := C3.later l4
  have L4 := L3.trans l4
  have u0 := b4'.cell 0 _ rfl
  have u1 := b4'.cell 1 _ rfl
  have u2 := b4'.cell 2 _ rfl
  have f0 := b4'.frozen 0
  have f1 := b4'.frozen 1
  have f2 := b4'.frozen 2
  have v0 := c4'.cell 0 _ rfl
  have v1 := c4'.cell 1 _ rfl
  have v2 := c4'.cell 2 _ rfl
  rw [HSZ.out] at hok
  have HX := Lib.hid (HT.out ok hok)
  clear hok b4 l4 B3 C3 L3 HM HS
  cases ok
  · go_wp2_with fail
    have b5 := three_blk b4' rfl (.int .i64 0) (.int .i64 0) (.string ⟨#[]⟩)
    have L5 := three_later L4 (Nat.le_refl _) (.int .i64 0) (.int .i64 0) (.string ⟨#[]⟩)
    obtain ⟨w5, hw5⟩ : ∃ w5, w5 = (((w4.setCell ⟨w.heap.size, 0, none⟩ (.int .i64 0)).setCell ⟨w.heap.size, 1, none⟩ (.int .i64 0)).setCell ⟨w.heap.size, 2, none⟩ (.string ⟨#[]⟩)) := ⟨_, rfl⟩
    rw [← hw5] at b5 L5 ⊢
    have r0 := b5.cell 0 _ rfl
    have r1 := b5.cell 1 _ rfl
    have r2 := b5.cell 2 _ rfl
    exact bodyPost_ret (v := .tuple #[vagg 0 0 ⟨#[]⟩, .int .i64 0, .bool false]) (by simp [results, Tryd.results14, go_sem, r0, r1, r2]) rfl ⟨.inl ⟨HX.out, rfl⟩, L5⟩
  · go_wp2_with fail
    have b5 := three_blk b4' rfl (.int .i64 t) (.int .i64 0) (.string ⟨#[]⟩)
    have L5 := three_later L4 (Nat.le_refl _) (.int .i64 t) (.int .i64 0) (.string ⟨#[]⟩)
    obtain ⟨w5, hw5⟩ : ∃ w5, w5 = (((w4.setCell ⟨w.heap.size, 0, none⟩ (.int .i64 t)).setCell ⟨w.heap.size, 1, none⟩ (.int .i64 0)).setCell ⟨w.heap.size, 2, none⟩ (.string ⟨#[]⟩)) := ⟨_, rfl⟩
    rw [← hw5] at b5 L5 ⊢
    have r0 := b5.cell 0 _ rfl
    have r1 := b5.cell 1 _ rfl
    have r2 := b5.cell 2 _ rfl
    refine bodyPost_ret (v := .tuple #[vagg t 0 ⟨#[]⟩, .int .i64 1, .bool true]) (by simp [results, Tryd.results14, go_sem, r0, r1, r2]) rfl ⟨.inr ⟨_, _, _, _, HX.out, ?_⟩, L5⟩
    rfl
end Go.Proofs.YtbmlipandjbbbaaDoor
