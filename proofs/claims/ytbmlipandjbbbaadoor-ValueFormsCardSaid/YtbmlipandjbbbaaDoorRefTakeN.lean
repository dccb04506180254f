/- The reference's Take: numbers. -/
import Derived.Test.YtbmlipandjbbbaaDoorRefTake
namespace Go.Proofs.YtbmlipandjbbbaaDoor
open Go.RowKit
set_option linter.unusedVariables false

set_option maxRecDepth 100000 in
set_option maxHeartbeats 1000000 in
/-- A number. -/
theorem refTake_bool (b off n c : Nat) (q r : List Nat) (w : World) (hn2 : n ≤ 1000000) (hnc : n ≤ c) (hc : c ≤ 9223372036854775807) (hb : b < w.heap.size) (hc0 : w.cell? ⟨b, off, none⟩ = some (.int .u8 3)) (x : Nat) (hn : 2 ≤ n) (hc1 : w.cell? ⟨b, off + 1, none⟩ = some (.int .u8 (x : Int))) (hx : x < 256)
    (hT : ∀ ok : Bool, (ok = true ↔ MayV 3 (x : Int) 0) → takeV r = if ok then some (3, (x : Int), [], 1 + widthV 3) else none) :
    Calls Tryd.prog 14 #[.slice (some ⟨b, off, none⟩) n c] w (TakesV r w) := by
  have hn0 : ((n : Int) == 0) = false := by simp; omega
  have L1 : Later w (zres w) := Later.new _ _
  have L3 : Later w ((zres w).alloc (.cells #[.int .i64 3, .int .i64 ((x : Int)), .string ⟨#[]⟩] 23)) := L1.alloc _
  have B3 : Blk ((zres w).alloc (.cells #[.int .i64 3, .int .i64 ((x : Int)), .string ⟨#[]⟩] 23)) w.heap.size #[.int .i64 0, .int .i64 0, .string ⟨#[]⟩] 23 := (Blk.new w _ _ _ rfl).later (Later.new _ _)
  have C3 : Blk ((zres w).alloc (.cells #[.int .i64 3, .int .i64 ((x : Int)), .string ⟨#[]⟩] 23)) (w.heap.size + 1) #[.int .i64 3, .int .i64 ((x : Int)), .string ⟨#[]⟩] 23 := Blk.new _ _ _ _ (by simp [zres])
  have HS := Lib.hid (refSize_n b off n c 3 (zres w) (L1.cell hc0) (by decide) (by omega) (by omega))
  have HM := Lib.hid (refMay_any 3 ((x : Int)) ⟨#[]⟩ ((zres w).alloc (.cells #[.int .i64 3, .int .i64 ((x : Int)), .string ⟨#[]⟩] 23)))
  have HSZ := Lib.hid (show (⟨#[]⟩ : ByteArray).size = 0 from rfl)
  have HT := Lib.hid hT
  clear hT
  rw [show widthV (3 : Nat) = 1 from rfl] at HS
  rw [show widthV 3 = 1 from rfl] at HT
  unfold zres at HS HM B3 C3 L3
  go_enter Tryd.func14, Tryd.ntmps14
  go_wp2_with (go_at_call 36; refine HS.out.mono ?_; rintro e w' ⟨rfl, rfl⟩)
  refine HM.out.mono ?_
  rintro e w4 ⟨ok, hok, rfl, b4⟩
  have l4 : Later _ w4 := b4
  have b4' := B3.later l4
  have c4' := C3.later l4
  have L4 := L3.trans l4
  have u0 := b4'.cell 0 _ rfl
  have u1 := b4'.cell 1 _ rfl
  have u2 := b4'.cell 2 _ rfl
  have f0 := b4'.frozen 0
  have f1 := b4'.frozen 1
  have f2 := b4'.frozen 2
  have v0 := c4'.cell 0 _ rfl
  have v1 := c4'.cell 1 _ rfl
  have v2 := c4'.cell 2 _ rfl
  rw [HSZ.out] at hok
  have HX := Lib.hid (HT.out ok hok)
  clear hok b4 l4 B3 C3 L3 HM HS
  cases ok
  · go_wp2_with fail
    have b5 := three_blk b4' rfl (.int .i64 0) (.int .i64 0) (.string ⟨#[]⟩)
    have L5 := three_later L4 (Nat.le_refl _) (.int .i64 0) (.int .i64 0) (.string ⟨#[]⟩)
    obtain ⟨w5, hw5⟩ : ∃ w5, w5 = (((w4.setCell ⟨w.heap.size, 0, none⟩ (.int .i64 0)).setCell ⟨w.heap.size, 1, none⟩ (.int .i64 0)).setCell ⟨w.heap.size, 2, none⟩ (.string ⟨#[]⟩)) := ⟨_, rfl⟩
    rw [← hw5] at b5 L5 ⊢
    have r0 := b5.cell 0 _ rfl
    have r1 := b5.cell 1 _ rfl
    have r2 := b5.cell 2 _ rfl
    exact bodyPost_ret (v := .tuple #[vagg 0 0 ⟨#[]⟩, .int .i64 0, .bool false]) (by simp [results, Tryd.results14, go_sem, r0, r1, r2]) rfl ⟨.inl ⟨HX.out, rfl⟩, L5⟩
  · go_wp2_with fail
    have b5 := three_blk b4' rfl (.int .i64 3) (.int .i64 ((x : Int))) (.string ⟨#[]⟩)
    have L5 := three_later L4 (Nat.le_refl _) (.int .i64 3) (.int .i64 ((x : Int))) (.string ⟨#[]⟩)
    obtain ⟨w5, hw5⟩ : ∃ w5, w5 = (((w4.setCell ⟨w.heap.size, 0, none⟩ (.int .i64 3)).setCell ⟨w.heap.size, 1, none⟩ (.int .i64 ((x : Int)))).setCell ⟨w.heap.size, 2, none⟩ (.string ⟨#[]⟩)) := ⟨_, rfl⟩
    rw [← hw5] at b5 L5 ⊢
    have r0 := b5.cell 0 _ rfl
    have r1 := b5.cell 1 _ rfl
    have r2 := b5.cell 2 _ rfl
    refine bodyPost_ret (v := .tuple #[vagg 3 ((x : Int)) ⟨#[]⟩, .int .i64 2, .bool true]) (by simp [results, Tryd.results14, go_sem, r0, r1, r2]) rfl ⟨.inr ⟨_, _, _, _, HX.out, ?_⟩, L5⟩
    rfl

set_option maxRecDepth 100000 in
set_option maxHeartbeats 1000000 in
/-- A number. -/
theorem refTake_small (b off n c : Nat) (q r : List Nat) (w : World) (hn2 : n ≤ 1000000) (hnc : n ≤ c) (hc : c ≤ 9223372036854775807) (hb : b < w.heap.size) (hc0 : w.cell? ⟨b, off, none⟩ = some (.int .u8 1)) (u : Nat) (hn : 3 ≤ n) (hq : q.length = 2) (hr : Has w (some ⟨b, off + 1, none⟩) (ints .u8 q)) (h256 : ∀ x ∈ q, x < 256) (hu : u = numH q) (h1 : u ≤ 32767)
    (hT : ∀ ok : Bool, (ok = true ↔ MayV 1 (u : Int) 0) → takeV r = if ok then some (1, (u : Int), [], 1 + widthV 1) else none) :
    Calls Tryd.prog 14 #[.slice (some ⟨b, off, none⟩) n c] w (TakesV r w) := by
  have hn0 : ((n : Int) == 0) = false := by simp; omega
  have L1 : Later w (zres w) := Later.new _ _
  have L3 : Later w ((zres w).alloc (.cells #[.int .i64 1, .int .i64 ((u : Int)), .string ⟨#[]⟩] 23)) := L1.alloc _
  have B3 : Blk ((zres w).alloc (.cells #[.int .i64 1, .int .i64 ((u : Int)), .string ⟨#[]⟩] 23)) w.heap.size #[.int .i64 0, .int .i64 0, .string ⟨#[]⟩] 23 := (Blk.new w _ _ _ rfl).later (Later.new _ _)
  have C3 : Blk ((zres w).alloc (.cells #[.int .i64 1, .int .i64 ((u : Int)), .string ⟨#[]⟩] 23)) (w.heap.size + 1) #[.int .i64 1, .int .i64 ((u : Int)), .string ⟨#[]⟩] 23 := Blk.new _ _ _ _ (by simp [zres])
  have HS := Lib.hid (refSize_n b off n c 1 (zres w) (L1.cell hc0) (by decide) (by omega) (by omega))
  have HM := Lib.hid (refMay_any 1 ((u : Int)) ⟨#[]⟩ ((zres w).alloc (.cells #[.int .i64 1, .int .i64 ((u : Int)), .string ⟨#[]⟩] 23)))
  have HSZ := Lib.hid (show (⟨#[]⟩ : ByteArray).size = 0 from rfl)
  have HT := Lib.hid hT
  clear hT
  have hcc : ¬ c = 1 := by omega
  have HR := Lib.hid (hr.later (L1.alloc (.cells #[.int .i64 1, .int .i64 0, .string ⟨#[]⟩] 23)))
  have HU := Lib.hid hu
  unfold zres at HR
  clear hr hu
  rw [show widthV (1 : Nat) = 2 from rfl] at HS
  rw [show widthV 1 = 2 from rfl] at HT
  unfold zres at HS HM B3 C3 L3
  go_enter Tryd.func14, Tryd.ntmps14
  go_wp2_with (go_at_call 36; refine HS.out.mono ?_; rintro e w' ⟨rfl, rfl⟩)
  refine (refNumber_any (some ⟨b, off + 1, none⟩) 2 (c - 1) q _ _ hq.symm HR.out h256 (by omega)).mono ?_
  rintro e w' ⟨rfl, rfl⟩
  rw [← HU.out]
  go_wp2_with fail
  refine HM.out.mono ?_
  rintro e w4 ⟨ok, hok, rfl, b4⟩
  have l4 : Later _ w4 := b4
  have b4' := B3.later l4
  have c4' := C3.later l4
  have L4 := L3.trans l4
  have u0 := b4'.cell 0 _ rfl
  have u1 := b4'.cell 1 _ rfl
  have u2 := b4'.cell 2 _ rfl
  have f0 := b4'.frozen 0
  have f1 := b4'.frozen 1
  have f2 := b4'.frozen 2
  have v0 := c4'.cell 0 _ rfl
  have v1 := c4'.cell 1 _ rfl
  have v2 := c4'.cell 2 _ rfl
  rw [HSZ.out] at hok
  have HX := Lib.hid (HT.out ok hok)
  clear hok b4 l4 B3 C3 L3 HM HS
  cases ok
  · go_wp2_with fail
    have b5 := three_blk b4' rfl (.int .i64 0) (.int .i64 0) (.string ⟨#[]⟩)
    have L5 := three_later L4 (Nat.le_refl _) (.int .i64 0) (.int .i64 0) (.string ⟨#[]⟩)
    obtain ⟨w5, hw5⟩ : ∃ w5, w5 = (((w4.setCell ⟨w.heap.size, 0, none⟩ (.int .i64 0)).setCell ⟨w.heap.size, 1, none⟩ (.int .i64 0)).setCell ⟨w.heap.size, 2, none⟩ (.string ⟨#[]⟩)) := ⟨_, rfl⟩
    rw [← hw5] at b5 L5 ⊢
    have r0 := b5.cell 0 _ rfl
    have r1 := b5.cell 1 _ rfl
    have r2 := b5.cell 2 _ rfl
    exact bodyPost_ret (v := .tuple #[vagg 0 0 ⟨#[]⟩, .int .i64 0, .bool false]) (by simp [results, Tryd.results14, go_sem, r0, r1, r2]) rfl ⟨.inl ⟨HX.out, rfl⟩, L5⟩
  · go_wp2_with fail
    have b5 := three_blk b4' rfl (.int .i64 1) (.int .i64 ((u : Int))) (.string ⟨#[]⟩)
    have L5 := three_later L4 (Nat.le_refl _) (.int .i64 1) (.int .i64 ((u : Int))) (.string ⟨#[]⟩)
    obtain ⟨w5, hw5⟩ : ∃ w5, w5 = (((w4.setCell ⟨w.heap.size, 0, none⟩ (.int .i64 1)).setCell ⟨w.heap.size, 1, none⟩ (.int .i64 ((u : Int)))).setCell ⟨w.heap.size, 2, none⟩ (.string ⟨#[]⟩)) := ⟨_, rfl⟩
    rw [← hw5] at b5 L5 ⊢
    have r0 := b5.cell 0 _ rfl
    have r1 := b5.cell 1 _ rfl
    have r2 := b5.cell 2 _ rfl
    refine bodyPost_ret (v := .tuple #[vagg 1 ((u : Int)) ⟨#[]⟩, .int .i64 3, .bool true]) (by simp [results, Tryd.results14, go_sem, r0, r1, r2]) rfl ⟨.inr ⟨_, _, _, _, HX.out, ?_⟩, L5⟩
    rfl

set_option maxRecDepth 100000 in
set_option maxHeartbeats 1000000 in
/-- A number. -/
theorem refTake_smalln (b off n c : Nat) (q r : List Nat) (w : World) (hn2 : n ≤ 1000000) (hnc : n ≤ c) (hc : c ≤ 9223372036854775807) (hb : b < w.heap.size) (hc0 : w.cell? ⟨b, off, none⟩ = some (.int .u8 1)) (u : Nat) (hn : 3 ≤ n) (hq : q.length = 2) (hr : Has w (some ⟨b, off + 1, none⟩) (ints .u8 q)) (h256 : ∀ x ∈ q, x < 256) (hu : u = numH q) (h1 : 32767 < u) (h2 : u < 65536)
    (hT : ∀ ok : Bool, (ok = true ↔ MayV 1 ((u : Int) - 65536) 0) → takeV r = if ok then some (1, (u : Int) - 65536, [], 1 + widthV 1) else none) :
    Calls Tryd.prog 14 #[.slice (some ⟨b, off, none⟩) n c] w (TakesV r w) := by
  have hn0 : ((n : Int) == 0) = false := by simp; omega
  have L1 : Later w (zres w) := Later.new _ _
  have L3 : Later w ((zres w).alloc (.cells #[.int .i64 1, .int .i64 ((u : Int) - 65536), .string ⟨#[]⟩] 23)) := L1.alloc _
  have B3 : Blk ((zres w).alloc (.cells #[.int .i64 1, .int .i64 ((u : Int) - 65536), .string ⟨#[]⟩] 23)) w.heap.size #[.int .i64 0, .int .i64 0, .string ⟨#[]⟩] 23 := (Blk.new w _ _ _ rfl).later (Later.new _ _)
  have C3 : Blk ((zres w).alloc (.cells #[.int .i64 1, .int .i64 ((u : Int) - 65536), .string ⟨#[]⟩] 23)) (w.heap.size + 1) #[.int .i64 1, .int .i64 ((u : Int) - 65536), .string ⟨#[]⟩] 23 := Blk.new _ _ _ _ (by simp [zres])
  have HS := Lib.hid (refSize_n b off n c 1 (zres w) (L1.cell hc0) (by decide) (by omega) (by omega))
  have HM := Lib.hid (refMay_any 1 ((u : Int) - 65536) ⟨#[]⟩ ((zres w).alloc (.cells #[.int .i64 1, .int .i64 ((u : Int) - 65536), .string ⟨#[]⟩] 23)))
  have HSZ := Lib.hid (show (⟨#[]⟩ : ByteArray).size = 0 from rfl)
  have HT := Lib.hid hT
  clear hT
  have hcc : ¬ c = 1 := by omega
  have HR := Lib.hid (hr.later (L1.alloc (.cells #[.int .i64 1, .int .i64 0, .string ⟨#[]⟩] 23)))
  have HU := Lib.hid hu
  unfold zres at HR
  clear hr hu
  rw [show widthV (1 : Nat) = 2 from rfl] at HS
  rw [show widthV 1 = 2 from rfl] at HT
  unfold zres at HS HM B3 C3 L3
  go_enter Tryd.func14, Tryd.ntmps14
  go_wp2_with (go_at_call 36; refine HS.out.mono ?_; rintro e w' ⟨rfl, rfl⟩)
  refine (refNumber_any (some ⟨b, off + 1, none⟩) 2 (c - 1) q _ _ hq.symm HR.out h256 (by omega)).mono ?_
  rintro e w' ⟨rfl, rfl⟩
  rw [← HU.out]
  go_wp2_with fail
  refine HM.out.mono ?_
  rintro e w4 ⟨ok, hok, rfl, b4⟩
  have l4 : Later _ w4 := b4
  have b4' := B3.later l4
  have c4' := C3.later l4
  have L4 := L3.trans l4
  have u0 := b4'.cell 0 _ rfl
  have u1 := b4'.cell 1 _ rfl
  have u2 := b4'.cell 2 _ rfl
  have f0 := b4'.frozen 0
  have f1 := b4'.frozen 1
  have f2 := b4'.frozen 2
  have v0 := c4'.cell 0 _ rfl
  have v1 := c4'.cell 1 _ rfl
  have v2 := c4'.cell 2 _ rfl
  rw [HSZ.out] at hok
  have HX := Lib.hid (HT.out ok hok)
  clear hok b4 l4 B3 C3 L3 HM HS
  cases ok
  · go_wp2_with fail
    have b5 := three_blk b4' rfl (.int .i64 0) (.int .i64 0) (.string ⟨#[]⟩)
    have L5 := three_later L4 (Nat.le_refl _) (.int .i64 0) (.int .i64 0) (.string ⟨#[]⟩)
    obtain ⟨w5, hw5⟩ : ∃ w5, w5 = (((w4.setCell ⟨w.heap.size, 0, none⟩ (.int .i64 0)).setCell ⟨w.heap.size, 1, none⟩ (.int .i64 0)).setCell ⟨w.heap.size, 2, none⟩ (.string ⟨#[]⟩)) := ⟨_, rfl⟩
    rw [← hw5] at b5 L5 ⊢
    have r0 := b5.cell 0 _ rfl
    have r1 := b5.cell 1 _ rfl
    have r2 := b5.cell 2 _ rfl
    exact bodyPost_ret (v := .tuple #[vagg 0 0 ⟨#[]⟩, .int .i64 0, .bool false]) (by simp [results, Tryd.results14, go_sem, r0, r1, r2]) rfl ⟨.inl ⟨HX.out, rfl⟩, L5⟩
  · go_wp2_with fail
    have b5 := three_blk b4' rfl (.int .i64 1) (.int .i64 ((u : Int) - 65536)) (.string ⟨#[]⟩)
    have L5 := three_later L4 (Nat.le_refl _) (.int .i64 1) (.int .i64 ((u : Int) - 65536)) (.string ⟨#[]⟩)
    obtain ⟨w5, hw5⟩ : ∃ w5, w5 = (((w4.setCell ⟨w.heap.size, 0, none⟩ (.int .i64 1)).setCell ⟨w.heap.size, 1, none⟩ (.int .i64 ((u : Int) - 65536))).setCell ⟨w.heap.size, 2, none⟩ (.string ⟨#[]⟩)) := ⟨_, rfl⟩
    rw [← hw5] at b5 L5 ⊢
    have r0 := b5.cell 0 _ rfl
    have r1 := b5.cell 1 _ rfl
    have r2 := b5.cell 2 _ rfl
    refine bodyPost_ret (v := .tuple #[vagg 1 ((u : Int) - 65536) ⟨#[]⟩, .int .i64 3, .bool true]) (by simp [results, Tryd.results14, go_sem, r0, r1, r2]) rfl ⟨.inr ⟨_, _, _, _, HX.out, ?_⟩, L5⟩
    rfl

set_option maxRecDepth 100000 in
set_option maxHeartbeats 1000000 in
/-- A number. -/
theorem refTake_int (b off n c : Nat) (q r : List Nat) (w : World) (hn2 : n ≤ 1000000) (hnc : n ≤ c) (hc : c ≤ 9223372036854775807) (hb : b < w.heap.size) (hc0 : w.cell? ⟨b, off, none⟩ = some (.int .u8 2)) (u : Nat) (hn : 9 ≤ n) (hq : q.length = 8) (hr : Has w (some ⟨b, off + 1, none⟩) (ints .u8 q)) (h256 : ∀ x ∈ q, x < 256) (hu : u = numH q) (h1 : u < 18446744073709551616)
    (hT : ∀ ok : Bool, (ok = true ↔ MayV 2 (wrap64 (u : Int)) 0) → takeV r = if ok then some (2, wrap64 (u : Int), [], 1 + widthV 2) else none) :
    Calls Tryd.prog 14 #[.slice (some ⟨b, off, none⟩) n c] w (TakesV r w) := by
  have hn0 : ((n : Int) == 0) = false := by simp; omega
  have L1 : Later w (zres w) := Later.new _ _
  have L3 : Later w ((zres w).alloc (.cells #[.int .i64 2, .int .i64 (wrap64 (u : Int)), .string ⟨#[]⟩] 23)) := L1.alloc _
  have B3 : Blk ((zres w).alloc (.cells #[.int .i64 2, .int .i64 (wrap64 (u : Int)), .string ⟨#[]⟩] 23)) w.heap.size #[.int .i64 0, .int .i64 0, .string ⟨#[]⟩] 23 := (Blk.new w _ _ _ rfl).later (Later.new _ _)
  have C3 : Blk ((zres w).alloc (.cells #[.int .i64 2, .int .i64 (wrap64 (u : Int)), .string ⟨#[]⟩] 23)) (w.heap.size + 1) #[.int .i64 2, .int .i64 (wrap64 (u : Int)), .string ⟨#[]⟩] 23 := Blk.new _ _ _ _ (by simp [zres])
  have HS := Lib.hid (refSize_n b off n c 2 (zres w) (L1.cell hc0) (by decide) (by omega) (by omega))
  have HM := Lib.hid (refMay_any 2 (wrap64 (u : Int)) ⟨#[]⟩ ((zres w).alloc (.cells #[.int .i64 2, .int .i64 (wrap64 (u : Int)), .string ⟨#[]⟩] 23)))
  have HSZ := Lib.hid (show (⟨#[]⟩ : ByteArray).size = 0 from rfl)
  have HT := Lib.hid hT
  clear hT
  have hcc : ¬ c = 1 := by omega
  have HR := Lib.hid (hr.later (L1.alloc (.cells #[.int .i64 2, .int .i64 0, .string ⟨#[]⟩] 23)))
  have HU := Lib.hid hu
  unfold zres at HR
  clear hr hu
  rw [show widthV (2 : Nat) = 8 from rfl] at HS
  rw [show widthV 2 = 8 from rfl] at HT
  unfold zres at HS HM B3 C3 L3
  go_enter Tryd.func14, Tryd.ntmps14
  go_wp2_with (go_at_call 36; refine HS.out.mono ?_; rintro e w' ⟨rfl, rfl⟩)
  refine (refNumber_any (some ⟨b, off + 1, none⟩) 8 (c - 1) q _ _ hq.symm HR.out h256 (by omega)).mono ?_
  rintro e w' ⟨rfl, rfl⟩
  rw [← HU.out]
  go_wp2_with fail
  refine HM.out.mono ?_
  rintro e w4 ⟨ok, hok, rfl, b4⟩
  have l4 : Later _ w4 := b4
  have b4' := B3.later l4
  have c4' := C3.later l4
  have L4 := L3.trans l4
  have u0 := b4'.cell 0 _ rfl
  have u1 := b4'.cell 1 _ rfl
  have u2 := b4'.cell 2 _ rfl
  have f0 := b4'.frozen 0
  have f1 := b4'.frozen 1
  have f2 := b4'.frozen 2
  have v0 := c4'.cell 0 _ rfl
  have v1 := c4'.cell 1 _ rfl
  have v2 := c4'.cell 2 _ rfl
  rw [HSZ.out] at hok
  have HX := Lib.hid (HT.out ok hok)
  clear hok b4 l4 B3 C3 L3 HM HS
  cases ok
  · go_wp2_with fail
    have b5 := three_blk b4' rfl (.int .i64 0) (.int .i64 0) (.string ⟨#[]⟩)
    have L5 := three_later L4 (Nat.le_refl _) (.int .i64 0) (.int .i64 0) (.string ⟨#[]⟩)
    obtain ⟨w5, hw5⟩ : ∃ w5, w5 = (((w4.setCell ⟨w.heap.size, 0, none⟩ (.int .i64 0)).setCell ⟨w.heap.size, 1, none⟩ (.int .i64 0)).setCell ⟨w.heap.size, 2, none⟩ (.string ⟨#[]⟩)) := ⟨_, rfl⟩
    rw [← hw5] at b5 L5 ⊢
    have r0 := b5.cell 0 _ rfl
    have r1 := b5.cell 1 _ rfl
    have r2 := b5.cell 2 _ rfl
    exact bodyPost_ret (v := .tuple #[vagg 0 0 ⟨#[]⟩, .int .i64 0, .bool false]) (by simp [results, Tryd.results14, go_sem, r0, r1, r2]) rfl ⟨.inl ⟨HX.out, rfl⟩, L5⟩
  · go_wp2_with fail
    have b5 := three_blk b4' rfl (.int .i64 2) (.int .i64 (wrap64 (u : Int))) (.string ⟨#[]⟩)
    have L5 := three_later L4 (Nat.le_refl _) (.int .i64 2) (.int .i64 (wrap64 (u : Int))) (.string ⟨#[]⟩)
    obtain ⟨w5, hw5⟩ : ∃ w5, w5 = (((w4.setCell ⟨w.heap.size, 0, none⟩ (.int .i64 2)).setCell ⟨w.heap.size, 1, none⟩ (.int .i64 (wrap64 (u : Int)))).setCell ⟨w.heap.size, 2, none⟩ (.string ⟨#[]⟩)) := ⟨_, rfl⟩
    rw [← hw5] at b5 L5 ⊢
    have r0 := b5.cell 0 _ rfl
    have r1 := b5.cell 1 _ rfl
    have r2 := b5.cell 2 _ rfl
    refine bodyPost_ret (v := .tuple #[vagg 2 (wrap64 (u : Int)) ⟨#[]⟩, .int .i64 9, .bool true]) (by simp [results, Tryd.results14, go_sem, r0, r1, r2]) rfl ⟨.inr ⟨_, _, _, _, HX.out, ?_⟩, L5⟩
    rfl
end Go.Proofs.YtbmlipandjbbbaaDoor
