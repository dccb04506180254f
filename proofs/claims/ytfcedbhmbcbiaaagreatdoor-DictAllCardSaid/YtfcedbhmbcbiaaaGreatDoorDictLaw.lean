/- begun of law 7, and the walk of DictBack. -/
import Derived.Test.YtfcedbhmbcbiaaaGreatDoorDictD
import Derived.Test.YtfcedbhmbcbiaaaGreatDoorSome7
import Derived.Test.YtfcedbhmbcbiaaaGreatDoorLists
namespace Go.Proofs.YtfcedbhmbcbiaaaGreatDoor
open Go.RowKit
set_option linter.unusedVariables false

def two7 : List Val3 := [(2, 5, ⟨#[]⟩), (2, 5, ⟨#[]⟩)]
theorem two7_put : putT 2 two7 = some [1, 10] := by decide
theorem two7_ok : OkL 2 two7 := by decide
theorem two7_64 : All64 two7 := by unfold All64 In64 two7; decide
theorem two7_none : putT 2 [(0, 0, ⟨#[]⟩)] = none := by decide
theorem zero7_64 : All64 [(0, 0, ⟨#[]⟩)] := by unfold All64 In64; decide
theorem two7_take : takeT 2 2 [1, 10] = some two7 := takeT_put (l := two7) two7_64 (by decide) two7_put

set_option maxRecDepth 100000 in
set_option maxHeartbeats 1000000 in
theorem begun7_any (w : World) (hs : S6 w) : Calls Tryz.prog 5 #[] w fun e w' => e = .returned (.bool true) ∧ Later w w' := by
  have l1 := Later.new w (.cells (fl two7).toArray 26)
  have B1 := Blk.new w (fl two7).toArray 26 _ rfl
  have HP := Lib.hid (dictPut_any 2 (some ⟨w.heap.size, 0, none⟩) 2 two7 _ (hs.later l1) (by decide) B1.has two7_64)
  have HL := Lib.hid l1
  have HS := Lib.hid (hs.later l1)
  clear l1 B1 hs
  go_enter Tryz.func5, Tryz.ntmps5
  go_wp2_with fail
  refine HP.out.mono ?_
  intro e w2 h
  obtain ⟨A, c, rfl, r2, hc1, hc2, hc3, l2⟩ := h.yes two7_put
  have HL2 := Lib.hid (HL.out.trans l2)
  have S2 := HS.out.later l2
  have HT := Lib.hid (dictTake_any 2 2 A c [1, 10] w2 S2 r2 (by decide) (by decide) hc1 hc2)
  have HS2 := Lib.hid S2
  clear h r2 hc1 hc2 hc3 l2 S2 HP HS HL
  go_wp2_with fail
  refine HT.out.mono ?_
  intro e w3 h
  obtain ⟨X, cx, rfl, hx, l3⟩ := h.yes two7_take
  obtain ⟨b, off, rfl, _, d1, _⟩ := hx.val3 1 (by decide)
  have D1 : CellIs w3 ⟨b, off + 3 + 1, none⟩ (.int .i64 5) := d1
  have HL3 := Lib.hid (HL2.out.trans l3)
  have S3 := HS2.out.later l3
  have l4 := Later.new w3 (.cells (fl [(0, 0, ⟨#[]⟩)]).toArray 26)
  have B4 := Blk.new w3 (fl [(0, 0, ⟨#[]⟩)]).toArray 26 _ rfl
  have HP2 := Lib.hid (dictPut_any 2 (some ⟨w3.heap.size, 0, none⟩) 1 [(0, 0, ⟨#[]⟩)] _ (S3.later l4) (by decide) B4.has zero7_64)
  have HL4 := Lib.hid (HL3.out.trans l4)
  have D4 := D1.later l4
  clear h hx d1 D1 l3 S3 l4 B4 HT HS2 HL2 HL3
  go_wp2_with fail
  refine HP2.out.mono ?_
  intro e w5 h
  obtain ⟨rfl, l5⟩ := h.no two7_none
  have d5 := (D4.later l5).out
  have HL5 := Lib.hid (HL4.out.trans l5)
  clear h l5 D4 HP2 HL4
  have hlen2 : ([1, 10] : List Nat).length = 2 := by decide
  have hlen3 : two7.length = 2 := by decide
  go_wp2_with fail
  go_ret
  exact ⟨rfl, HL5.out⟩

theorem dictTake_n (t n : Int) (A : Option Addr) (m c : Nat) (b : List Nat) (w : World) (hm : m = b.length) (hs : S6 w) (hr : Has w A (ints .u8 b)) (h256 : ∀ x ∈ b, x < 256) (hb : b.length ≤ 1000000) (hbc : b.length ≤ c) (hc : c ≤ 9223372036854775807) :
    Calls Tryz.prog 10 #[.int .i64 t, .int .i64 n, .slice A m c] w (PutsV (takeT t n b) w) := by
  subst hm; exact dictTake_any t n A c b w hs hr h256 hb hbc hc

end Go.Proofs.YtfcedbhmbcbiaaaGreatDoor
