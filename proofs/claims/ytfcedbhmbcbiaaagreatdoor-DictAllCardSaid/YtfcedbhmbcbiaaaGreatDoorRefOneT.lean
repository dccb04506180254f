
import Derived.Test.YtfcedbhmbcbiaaaGreatDoorRefOneC
import Derived.Test.YtfcedbhmbcbiaaaGreatDoorRefOneB
import Derived.Test.YtfcedbhmbcbiaaaGreatDoorRefOneD
/- The walk of the reference's takeOne, whole. -/

namespace Go.Proofs.YtfcedbhmbcbiaaaGreatDoor
open Go.RowKit
set_option linter.unusedVariables false

theorem takeOne_any (t : Int) (ht : 1 ≤ t ∧ t ≤ 4) (A : Option Addr) (c : Nat) (b : List Nat) (w : World) (hr : Has w A (ints .u8 b)) (h256 : ∀ x ∈ b, x < 256) (hb : b.length ≤ 1000000) (hbc : b.length ≤ c) (hc : c ≤ 9223372036854775807) :
    Calls Tryz.prog 48 #[.int .i64 t, .slice A b.length c] w (TakesO (takeC t b) t w) := by
  match b, hr, h256, hb, hbc with
  | [], hr, h256, hb, hbc => exact takeOne_nil t ht A c w
  | x :: r, hr, h256, hb, hbc =>
    obtain rfl | rfl | rfl | rfl : t = 1 ∨ t = 2 ∨ t = 3 ∨ t = 4 := by omega
    · exact takeOne_num1 A c _ w (by simp) hr h256 hb hbc
    · exact takeOne_num2 A c _ w (by simp) hr h256 hb hbc
    · rcases hr with hr | ⟨bb, off, rfl, hbb, hcell⟩
      · cases hr
      · have h0 := hcell 0 _ rfl
        have e : readC 3 (x :: r) = some ((x : Int), [], 1) := rfl
        exact takeOne_truth bb off (x :: r).length c x w (by simp) hbb h0 (h256 x (by simp)) _ (fun hm => takeC_may e hm) (fun hm => takeC_not e hm)
    · have hr0 := hr
      rcases hr with hr | ⟨bb, off, rfl, hbb, hcell⟩
      · cases hr
      · have h0 := hcell 0 _ rfl
        have e : readC 4 (x :: r) = if x ≤ r.length then some (0, r.take x, 1 + x) else none := rfl
        rw [List.length_cons] at hb hbc ⊢
        by_cases hx : x ≤ r.length
        · rw [if_pos hx] at e
          refine takeOne_text bb off (r.length + 1) c x (r.take x) w (by omega) hb hbc hc hbb h0 (h256 x (by simp)) (by omega) (by rw [List.length_take]; omega) ?_ _ (fun hm => takeC_may e hm) (fun hm => takeC_not e hm)
          have h1 := (Has.take (Has.drop hr0 1) x)
          rw [show (ints .u8 (x :: r)).drop 1 = ints .u8 r from rfl, ints_take] at h1
          exact h1
        · rw [if_neg hx] at e
          rw [takeC_none e]
          exact takeOne_short bb off (r.length + 1) c x w (by omega) hb hbb h0 (h256 x (by simp)) (by omega)
end Go.Proofs.YtfcedbhmbcbiaaaGreatDoor

