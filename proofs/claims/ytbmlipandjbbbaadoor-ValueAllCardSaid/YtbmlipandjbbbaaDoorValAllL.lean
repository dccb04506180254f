/- ValueAll where something is too long. -/
import Derived.Test.YtbmlipandjbbbaaDoorValAll
namespace Go.Proofs.YtbmlipandjbbbaaDoor
open Go.RowKit
set_option linter.unusedVariables false

set_option maxRecDepth 100000 in
theorem valAll_long (t i : Int) (s : ByteArray) (u j : Int) (r : ByteArray) (ty : Int) (A : Option Addr) (n c : Nat) (w : World) (hs : Sn w) (h : 40 < n ∨ 40 < s.size ∨ 40 < r.size) :
    Calls Tryd.prog 3 #[vagg t i s, vagg u j r, .int .i64 ty, .slice A n c] w fun e w' => e = .returned (.bool true) ∧ Later w w' := by
  obtain ⟨w1, hw1⟩ : ∃ w1 : World, (w.alloc (.cells #[.int .i64 t, .int .i64 i, .string s] 23)).alloc (.cells #[.int .i64 u, .int .i64 j, .string r] 23) = w1 := ⟨_, rfl⟩
  have L : Later w w1 := hw1 ▸ ((Later.refl w).alloc _).alloc _
  have V : Blk w1 w.heap.size #[.int .i64 t, .int .i64 i, .string s] 23 := hw1 ▸ (Blk.new w _ _ _ rfl).later (Later.new _ _)
  have U : Blk w1 (w.heap.size + 1) #[.int .i64 u, .int .i64 j, .string r] 23 := hw1 ▸ Blk.new _ _ _ _ (by simp)
  have HW := Lib.hid hw1
  clear hw1
  have h3 : 40 < n ∨ (n ≤ 40 ∧ 40 < s.size) ∨ (n ≤ 40 ∧ s.size ≤ 40 ∧ 40 < r.size) := by omega
  clear h
  rcases h3 with h | ⟨h, h2⟩ | ⟨h, h2, h3⟩
  all_goals
    go_enter Tryd.func3, Tryd.ntmps3
    go_wp2_with fail
    rw [HW.out]
    refine (begun1_any w1 (hs.later L)).mono ?_
    rintro e w2 ⟨rfl, l⟩
    clear HW
    have V := V.later l
    have U := U.later l
    have L := L.trans l
    have a2 := V.cell 2 _ rfl
    have c2 := U.cell 2 _ rfl
    clear l
    go_wp2_with fail
    go_ret
    exact ⟨rfl, L⟩
end Go.Proofs.YtbmlipandjbbbaaDoor
