/- The walk of ValueOrder. -/
import Derived.Test.YtbmlipandjbbbaaDoorValBegun
import Derived.Test.YtbmlipandjbbbaaDoorSents
import Derived.Deep.RegionHeld3
namespace Go.Proofs.YtbmlipandjbbbaaDoor
open Go.RowKit
set_option linter.unusedVariables false

set_option maxRecDepth 100000 in
set_option maxHeartbeats 1000000 in
theorem valOrder_no0 (t i : Int) (s : ByteArray) (t' i' : Int) (s' : ByteArray) (u j : Int) (r : ByteArray) (w : World) (hs : Sn w) (hma : ¬ MayV t i s.size) :
    Calls Tryd.prog 4 #[vagg t i s, vagg t' i' s', vagg u j r] w fun e w' => e = .returned (.bool true) ∧ Later w w' := by
  obtain ⟨w1, hw1⟩ : ∃ w1 : World, ((w.alloc (.cells #[.int .i64 t, .int .i64 i, .string s] 23)).alloc (.cells #[.int .i64 t', .int .i64 i', .string s'] 23)).alloc (.cells #[.int .i64 u, .int .i64 j, .string r] 23) = w1 := ⟨_, rfl⟩
  have L : Later w w1 := hw1 ▸ (((Later.refl w).alloc _).alloc _).alloc _
  have A : Blk w1 w.heap.size #[.int .i64 t, .int .i64 i, .string s] 23 := hw1 ▸ ((Blk.new w _ _ _ rfl).later (Later.new _ _)).later (Later.new _ _)
  have B : Blk w1 (w.heap.size + 1) #[.int .i64 t', .int .i64 i', .string s'] 23 := hw1 ▸ (Blk.new _ _ _ _ (by simp)).later (Later.new _ _)
  have C : Blk w1 (w.heap.size + 1 + 1) #[.int .i64 u, .int .i64 j, .string r] 23 := hw1 ▸ Blk.new _ _ _ _ (by simp)
  have HW := Lib.hid hw1
  clear hw1
  go_enter Tryd.func4, Tryd.ntmps4
  go_wp2_with fail
  rw [HW.out]
  refine (begun1_any w1 (hs.later L)).mono ?_
  rintro e w2 ⟨rfl, l⟩
  clear HW
  have A := A.later l
  have B := B.later l
  have C := C.later l
  have L := L.trans l
  have a0 := A.cell 0 _ rfl
  have a1 := A.cell 1 _ rfl
  have a2 := A.cell 2 _ rfl
  have b0 := B.cell 0 _ rfl
  have b1 := B.cell 1 _ rfl
  have b2 := B.cell 2 _ rfl
  have c0 := C.cell 0 _ rfl
  have c1 := C.cell 1 _ rfl
  have c2 := C.cell 2 _ rfl
  go_wp2_with fail
  refine (may_l t i s w2 (hs.later L)).mono ?_
  intro e w3 h
  obtain ⟨rfl, l⟩ := h.no hma
  clear h
  have A := A.later l
  have B := B.later l
  have C := C.later l
  have L := L.trans l
  have a0 := A.cell 0 _ rfl
  have a1 := A.cell 1 _ rfl
  have a2 := A.cell 2 _ rfl
  have b0 := B.cell 0 _ rfl
  have b1 := B.cell 1 _ rfl
  have b2 := B.cell 2 _ rfl
  have c0 := C.cell 0 _ rfl
  have c1 := C.cell 1 _ rfl
  have c2 := C.cell 2 _ rfl
  go_wp2_with fail
  go_ret
  exact ⟨rfl, L⟩

set_option maxRecDepth 100000 in
set_option maxHeartbeats 1000000 in
theorem valOrder_no1 (t i : Int) (s : ByteArray) (t' i' : Int) (s' : ByteArray) (u j : Int) (r : ByteArray) (w : World) (hs : Sn w) (hma : MayV t i s.size) (hmb : ¬ MayV t' i' s'.size) :
    Calls Tryd.prog 4 #[vagg t i s, vagg t' i' s', vagg u j r] w fun e w' => e = .returned (.bool true) ∧ Later w w' := by
  obtain ⟨w1, hw1⟩ : ∃ w1 : World, ((w.alloc (.cells #[.int .i64 t, .int .i64 i, .string s] 23)).alloc (.cells #[.int .i64 t', .int .i64 i', .string s'] 23)).alloc (.cells #[.int .i64 u, .int .i64 j, .string r] 23) = w1 := ⟨_, rfl⟩
  have L : Later w w1 := hw1 ▸ (((Later.refl w).alloc _).alloc _).alloc _
  have A : Blk w1 w.heap.size #[.int .i64 t, .int .i64 i, .string s] 23 := hw1 ▸ ((Blk.new w _ _ _ rfl).later (Later.new _ _)).later (Later.new _ _)
  have B : Blk w1 (w.heap.size + 1) #[.int .i64 t', .int .i64 i', .string s'] 23 := hw1 ▸ (Blk.new _ _ _ _ (by simp)).later (Later.new _ _)
  have C : Blk w1 (w.heap.size + 1 + 1) #[.int .i64 u, .int .i64 j, .string r] 23 := hw1 ▸ Blk.new _ _ _ _ (by simp)
  have HW := Lib.hid hw1
  clear hw1
  go_enter Tryd.func4, Tryd.ntmps4
  go_wp2_with fail
  rw [HW.out]
  refine (begun1_any w1 (hs.later L)).mono ?_
  rintro e w2 ⟨rfl, l⟩
  clear HW
  have A := A.later l
  have B := B.later l
  have C := C.later l
  have L := L.trans l
  have a0 := A.cell 0 _ rfl
  have a1 := A.cell 1 _ rfl
  have a2 := A.cell 2 _ rfl
  have b0 := B.cell 0 _ rfl
  have b1 := B.cell 1 _ rfl
  have b2 := B.cell 2 _ rfl
  have c0 := C.cell 0 _ rfl
  have c1 := C.cell 1 _ rfl
  have c2 := C.cell 2 _ rfl
  go_wp2_with fail
  refine (may_l t i s w2 (hs.later L)).mono ?_
  intro e w3 h
  obtain ⟨rfl, l⟩ := h.yes hma
  clear h
  have A := A.later l
  have B := B.later l
  have C := C.later l
  have L := L.trans l
  have a0 := A.cell 0 _ rfl
  have a1 := A.cell 1 _ rfl
  have a2 := A.cell 2 _ rfl
  have b0 := B.cell 0 _ rfl
  have b1 := B.cell 1 _ rfl
  have b2 := B.cell 2 _ rfl
  have c0 := C.cell 0 _ rfl
  have c1 := C.cell 1 _ rfl
  have c2 := C.cell 2 _ rfl
  go_wp2_with fail
  refine (may_l t' i' s' w3 (hs.later L)).mono ?_
  intro e w4 h
  obtain ⟨rfl, l⟩ := h.no hmb
  clear h
  have A := A.later l
  have B := B.later l
  have C := C.later l
  have L := L.trans l
  have a0 := A.cell 0 _ rfl
  have a1 := A.cell 1 _ rfl
  have a2 := A.cell 2 _ rfl
  have b0 := B.cell 0 _ rfl
  have b1 := B.cell 1 _ rfl
  have b2 := B.cell 2 _ rfl
  have c0 := C.cell 0 _ rfl
  have c1 := C.cell 1 _ rfl
  have c2 := C.cell 2 _ rfl
  go_wp2_with fail
  go_ret
  exact ⟨rfl, L⟩

set_option maxRecDepth 100000 in
set_option maxHeartbeats 1000000 in
theorem valOrder_no2 (t i : Int) (s : ByteArray) (t' i' : Int) (s' : ByteArray) (u j : Int) (r : ByteArray) (w : World) (hs : Sn w) (hma : MayV t i s.size) (hmb : MayV t' i' s'.size) (hmc : ¬ MayV u j r.size) :
    Calls Tryd.prog 4 #[vagg t i s, vagg t' i' s', vagg u j r] w fun e w' => e = .returned (.bool true) ∧ Later w w' := by
  obtain ⟨w1, hw1⟩ : ∃ w1 : World, ((w.alloc (.cells #[.int .i64 t, .int .i64 i, .string s] 23)).alloc (.cells #[.int .i64 t', .int .i64 i', .string s'] 23)).alloc (.cells #[.int .i64 u, .int .i64 j, .string r] 23) = w1 := ⟨_, rfl⟩
  have L : Later w w1 := hw1 ▸ (((Later.refl w).alloc _).alloc _).alloc _
  have A : Blk w1 w.heap.size #[.int .i64 t, .int .i64 i, .string s] 23 := hw1 ▸ ((Blk.new w _ _ _ rfl).later (Later.new _ _)).later (Later.new _ _)
  have B : Blk w1 (w.heap.size + 1) #[.int .i64 t', .int .i64 i', .string s'] 23 := hw1 ▸ (Blk.new _ _ _ _ (by simp)).later (Later.new _ _)
  have C : Blk w1 (w.heap.size + 1 + 1) #[.int .i64 u, .int .i64 j, .string r] 23 := hw1 ▸ Blk.new _ _ _ _ (by simp)
  have HW := Lib.hid hw1
  clear hw1
  go_enter Tryd.func4, Tryd.ntmps4
  go_wp2_with fail
  rw [HW.out]
  refine (begun1_any w1 (hs.later L)).mono ?_
  rintro e w2 ⟨rfl, l⟩
  clear HW
  have A := A.later l
  have B := B.later l
  have C := C.later l
  have L := L.trans l
  have a0 := A.cell 0 _ rfl
  have a1 := A.cell 1 _ rfl
  have a2 := A.cell 2 _ rfl
  have b0 := B.cell 0 _ rfl
  have b1 := B.cell 1 _ rfl
  have b2 := B.cell 2 _ rfl
  have c0 := C.cell 0 _ rfl
  have c1 := C.cell 1 _ rfl
  have c2 := C.cell 2 _ rfl
  go_wp2_with fail
  refine (may_l t i s w2 (hs.later L)).mono ?_
  intro e w3 h
  obtain ⟨rfl, l⟩ := h.yes hma
  clear h
  have A := A.later l
  have B := B.later l
  have C := C.later l
  have L := L.trans l
  have a0 := A.cell 0 _ rfl
  have a1 := A.cell 1 _ rfl
  have a2 := A.cell 2 _ rfl
  have b0 := B.cell 0 _ rfl
  have b1 := B.cell 1 _ rfl
  have b2 := B.cell 2 _ rfl
  have c0 := C.cell 0 _ rfl
  have c1 := C.cell 1 _ rfl
  have c2 := C.cell 2 _ rfl
  go_wp2_with fail
  refine (may_l t' i' s' w3 (hs.later L)).mono ?_
  intro e w4 h
  obtain ⟨rfl, l⟩ := h.yes hmb
  clear h
  have A := A.later l
  have B := B.later l
  have C := C.later l
  have L := L.trans l
  have a0 := A.cell 0 _ rfl
  have a1 := A.cell 1 _ rfl
  have a2 := A.cell 2 _ rfl
  have b0 := B.cell 0 _ rfl
  have b1 := B.cell 1 _ rfl
  have b2 := B.cell 2 _ rfl
  have c0 := C.cell 0 _ rfl
  have c1 := C.cell 1 _ rfl
  have c2 := C.cell 2 _ rfl
  go_wp2_with fail
  refine (may_l u j r w4 (hs.later L)).mono ?_
  intro e w5 h
  obtain ⟨rfl, l⟩ := h.no hmc
  clear h
  have A := A.later l
  have B := B.later l
  have C := C.later l
  have L := L.trans l
  have a0 := A.cell 0 _ rfl
  have a1 := A.cell 1 _ rfl
  have a2 := A.cell 2 _ rfl
  have b0 := B.cell 0 _ rfl
  have b1 := B.cell 1 _ rfl
  have b2 := B.cell 2 _ rfl
  have c0 := C.cell 0 _ rfl
  have c1 := C.cell 1 _ rfl
  have c2 := C.cell 2 _ rfl
  go_wp2_with fail
  go_ret
  exact ⟨rfl, L⟩

end Go.Proofs.YtbmlipandjbbbaaDoor
