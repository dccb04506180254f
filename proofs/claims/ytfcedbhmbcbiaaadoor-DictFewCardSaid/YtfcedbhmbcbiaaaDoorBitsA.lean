/- Walks of package bits, one contract a function: size, ended, Len64, Width. -/
import Derived.Test.YtfcedbhmbcbiaaaDoorBase
import Derived.Test.YtfcedbhmbcbiaaaDoorNumMath
import Derived.Test.YtfcedbhmbcbiaaaDoorChecked
import Derived.Outline
import Derived.WalkLawsBesides
import Derived.WalkSpells
import Derived.PlainAid
import Derived.Lib.Hide
import Derived.Deep.QuietTactic
import Derived.BigQuiet
import Derived.RegionTactic
import Derived.BigRegion
import Derived.Handy
namespace Go.Proofs.YtfcedbhmbcbiaaaDoor
set_option linter.unusedVariables false
open Go.RowKit

theorem size_any (n k : Nat) (h : n * k ≤ 1000000) (w : World) :
    Calls Tryd.prog 40 #[.int .i64 n, .int .i64 k] w fun e w' => e = .returned (.int .i64 (((n * k + 7) / 8 : Nat) : Int)) ∧ w = w' := by
  have h1 : (n : Int) * (k : Int) ≤ 1000000 := by have := Int.ofNat_le.2 h; simpa using this
  have h0 : 0 ≤ (n : Int) * (k : Int) := Int.mul_nonneg (by omega) (by omega)
  go_enter Tryd.func40, Tryd.ntmps40
  go_wp2
  go_ret
  exact ⟨by simp, rfl⟩

theorem ended_any (A : Option Addr) (c : Nat) (l : List Nat) (at_ : Nat) (w : World) (B : Nat) (hr : Rd w B A (ints .u8 l)) (ha : at_ ≤ 8000000) (hl : at_ % 8 ≠ 0 → at_ / 8 < l.length) (h256 : ∀ x ∈ l, x < 256) :
    Calls Tryd.prog 45 #[.slice A l.length c, .int .i64 at_] w fun e w' => e = .returned (.bool (at_ % 8 == 0 || l.getD (at_ / 8) 0 / 2 ^ (at_ % 8) == 0)) ∧ w = w' := by
  by_cases h8 : at_ % 8 = 0
  · have hd : ((at_ : Int) % 8 == 0) = true := by simp; omega
    go_enter Tryd.func45, Tryd.ntmps45
    go_wp2
    go_ret
    exact ⟨by simp [h8], rfl⟩
  · have hi := hl h8
    have hd : ((at_ : Int) % 8 == 0) = false := by simp; omega
    obtain ⟨b, off, rfl, hb, hc⟩ := hr.at_ (k := at_ / 8) (by simpa [ints] using hi)
    simp only [ints, List.getElem_map] at hc
    have hx := h256 _ (List.getElem_mem hi)
    obtain ⟨x, hxe⟩ : ∃ x, x = l[at_ / 8] := ⟨_, rfl⟩
    rw [← hxe] at hc hx
    have HX := Lib.hid hxe
    clear hxe
    go_enter Tryd.func45, Tryd.ntmps45
    go_wp2
    go_ret
    refine ⟨?_, rfl⟩
    have e : ((x : Int) / 2 ^ (at_ % 8) == 0) = (at_ % 8 == 0 || l.getD (at_ / 8) 0 / 2 ^ (at_ % 8) == 0) := by
      rw [List.getD_eq_getElem?_getD, List.getElem?_eq_getElem hi, Option.getD_some, ← HX.out]
      have := nat_beq0 (x / 2 ^ (at_ % 8))
      rw [show (at_ % 8 == 0) = false by simp [h8], Bool.false_or, ← this]
      simp
    exact congrArg (fun z => Ending.returned (.bool z)) e
end Go.Proofs.YtfcedbhmbcbiaaaDoor
