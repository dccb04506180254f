/- Numbers in so many bytes, the highest first: package high, and the reference's High, Number. -/
import Derived.Test.YtfplppldojlanaaDoorNumB
import Derived.Test.YtfplppldojlanaaDoorNumMath
import Derived.Test.YtfplppldojlanaaDoorBase
namespace Go.Proofs.YtfplppldojlanaaDoor
open Go.RowKit
set_option linter.unusedVariables false

/-- The lowest n bytes of v, the highest first. -/
def topB (v : Nat) : Nat → List Nat
  | 0 => []
  | k + 1 => v / 2 ^ (8 * k) % 256 :: topB v k
theorem topB_length (v : Nat) : ∀ n, (topB v n).length = n
  | 0 => rfl
  | n + 1 => by simp [topB, topB_length v n]
theorem topB_lt (v : Nat) : ∀ n, ∀ x ∈ topB v n, x < 256
  | 0, x, h => by simp [topB] at h
  | n + 1, x, h => by
    rcases List.mem_cons.1 h with rfl | h
    · exact Nat.mod_lt _ (by decide)
    · exact topB_lt v n x h

set_option maxRecDepth 100000 in
theorem high_makes (v n : Nat) (hv : v < 18446744073709551616) (hn : n ≤ 8) (w : World) : Calls Tryd.prog 56 #[.int .u64 v, .int .i64 n] w (Makes (topB v n) w) := by
  go_enter Tryd.func56, Tryd.ntmps56
  go_wp2_with fail
  go_loopw [5, 6] (fun bv x wr => ∃ (A : Option Addr) (m c k : Nat) (z : Int) (xs : List Nat), bv = .slice A m c ∧ m = xs.length ∧ x = .int .i64 z ∧ z = (k : Int) - 1 ∧ k ≤ n ∧ wr.ownsRow w.heap.size 5 1 (.slice A m c) m (ints .u8 xs) ∧ (A = none → c = 0) ∧ xs ++ topB v k = topB v n ∧ Below w.heap.size w wr) (fun _ x _ => (intOf x + 1).toNat)
  case atStart => exact ⟨none, 0, 0, n, _, [], rfl, rfl, rfl, by omega, Nat.le_refl _, World.ownsRow_nil _ _ _ _, fun _ => rfl, rfl, Below.refl _ _⟩
  case round =>
    obtain ⟨A, m, c, k, z, xs, rfl, hm, rfl, hz, hk, hown, hnil, hput, hbel⟩ := hrel
    have hml : m ≤ 8 := by
      have h := congrArg List.length hput
      rw [List.length_append, topB_length, topB_length] at h
      omega
    have HM := Lib.hid hm
    have HOWN := Lib.hid hown
    have HNIL := Lib.hid hnil
    have HPUT := Lib.hid hput
    have HB := Lib.hid hbel
    have hzz := hbel.size
    clear hm hown hnil hput hbel
    by_cases hk0 : 0 < k
    · obtain ⟨k, rfl⟩ : ∃ k', k = k' + 1 := ⟨k - 1, by omega⟩
      obtain rfl : z = (k : Int) := by omega
      clear hz
      obtain ⟨x, hxe⟩ : ∃ x, x = v / 2 ^ (8 * k) % 256 := ⟨_, rfl⟩
      have hx : (v : Int) / 2 ^ (8 * k) % 256 = (x : Int) := by rw [hxe]; simp
      have HX := Lib.hid hxe
      clear hxe
      go_wp2_with (at_builtin; refine wpList_append_rd _ rfl (.tmp 13) (.tmp 19) 24 rfl w.heap.size 5 (.int .u8 0) 1 Tryd.underlying24 info_u8 rfl _ m (ints .u8 xs) rfl (HOWN.out.alloc _) _ _ 1 1 (ints .u8 [x]) rfl (rd_lit wr _ .u8 [x] _ rfl) ?_ ?_ (ints_one _ _) ?_ ?_ ?_ ?_; rfl; (intro h; cases h); (unfold maxLen; omega); omega; (simp; omega); intro A2 c2 w5 o2 g2 b2 n2; have HO2 := Lib.hid o2; have HB5 := Lib.hid b2; have HN2 := Lib.hid n2; clear o2 g2 b2 n2)
      clear hx
      go_wp2_with fail
      go_roundw
      case rel =>
        refine ⟨A2, m + 1, c2, k, _, xs ++ [x], rfl, by rw [List.length_append, HM.out]; rfl, rfl, by omega, by omega, ?_, HN2.out, ?_, (HB.out.alloc (by omega) _).trans HB5.out⟩
        · rw [ints_snoc]; exact HO2.out
        · rw [← HPUT.out, List.append_assoc, HX.out]; rfl
      case measure => simp [intOf]
    · obtain rfl : k = 0 := by omega
      have hz0 : z = -1 := by omega
      subst hz0
      clear hz
      go_wp2_with fail
      go_ret
      have hp : xs = topB v n := by
        have h := HPUT.out
        simpa [topB] using h
      have hl : m = (topB v n).length := by rw [← hp]; exact HM.out
      have ho := HOWN.out
      rw [hp, hl] at ho
      rw [hl]
      exact ⟨A, c, rfl, ho, HB.out, HNIL.out⟩

end Go.Proofs.YtfplppldojlanaaDoor
