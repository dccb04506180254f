/- Walks of package num: Put, Zig, Zag; and fault.At. -/
import Derived.Test.YtifejanbgobngaaDoorInfo
import Derived.Test.YtifejanbgobngaaDoorAppend
import Derived.Test.YtifejanbgobngaaDoorNumMath
import Derived.Test.YtifejanbgobngaaDoorIs
import Derived.Outline
import Derived.WalkLawsBesides
import Derived.WalkSpells
import Derived.PlainAid
import Derived.Lib.Hide
import Derived.Deep.QuietTactic
import Derived.BigQuiet
import Derived.RegionTactic
import Derived.BigRegion
import Derived.Handy
import Derived.Laws.BitsAllLaws
import Derived.Test.YtifejanbgobngaaDoorXor
namespace Go.Proofs.YtifejanbgobngaaDoor
open Go.RowKit
set_option linter.unusedVariables false

theorem at_any (s : ByteArray) (p : Int) (e : Value) (x : Value) (w : World) (he : e = .iface 121 x) :
    Calls Tryd.prog 53 #[.string s, .int .i64 p, e] w fun r w' => r = .returned (.iface 90 (.pointer (some ⟨w.heap.size, 0, none⟩))) ∧ w.alloc (.cells #[.string s, .int .i64 p, .iface 121 x] 92) = w' := by
  subst he
  go_enter Tryd.func53, Tryd.ntmps53
  go_wp2
  go_ret
  exact ⟨rfl, rfl⟩

set_option maxRecDepth 100000 in
theorem or128 (y : Nat) : bits .or .u8 ((y : Int) % 256) 128 = ((y % 128 + 128 : Nat) : Int) := by
  have h : ∀ a : Fin 256, a.val ||| 128 = a.val % 128 + 128 := by decide
  have h1 := h ⟨y % 256, Nat.mod_lt _ (by decide)⟩
  have e : ((y : Int) % 256) = ((y % 256 : Nat) : Int) := by simp
  rw [e, show (128 : Int) = ((128 : Nat) : Int) from rfl, u8_or_nat _ _ (Nat.mod_lt _ (by decide)) (by decide), h1]
  congr 1
  show y % 256 % 128 + 128 = _
  omega

/-- What a call hands back that makes bytes: a slice of its own. -/
def Makes (l : List Nat) (w : World) (e : Ending) (w' : World) : Prop :=
  ∃ A c, e = .returned (.slice A l.length c) ∧ w'.ownsRow w.heap.size 5 1 (.slice A l.length c) l.length (ints .u8 l) ∧ Below w.heap.size w w' ∧ (A = none → c = 0)

set_option maxRecDepth 100000 in
theorem put_makes (v : Nat) (hv : v < 18446744073709551616) (w : World) : Calls Tryd.prog 60 #[.int .u64 v] w (Makes (putNum v) w) := by
  go_enter Tryd.func60, Tryd.ntmps60
  go_wp2_with fail
  go_loopw [3, 0] (fun bv x wr => ∃ (A : Option Addr) (n c f y : Nat) (xs : List Nat), bv = .slice A n c ∧ n = xs.length ∧ x = .int .u64 y ∧ f ≤ 9 ∧ n + f = 9 ∧ wr.ownsRow w.heap.size 5 1 (.slice A n c) n (ints .u8 xs) ∧ (A = none → c = 0) ∧ xs ++ putAux f y = putNum v ∧ y < 2 ^ (7 * f + 1) ∧ Below w.heap.size w wr) (fun _ x _ => (intOf x).toNat)
  case atStart => exact ⟨none, 0, 0, 9, v, [], rfl, rfl, rfl, by omega, by omega, World.ownsRow_nil _ _ _ _, fun _ => rfl, rfl, by simpa using hv, Below.refl _ _⟩
  case round =>
    obtain ⟨A, n, c, f, y, xs, rfl, hn, rfl, hf9, hnf, hown, hnil, hput, hy, hbel⟩ := hrel
    have HN := Lib.hid hn
    have HOWN := Lib.hid hown
    have HNIL := Lib.hid hnil
    have HPUT := Lib.hid hput
    have HY := Lib.hid hy
    have hy64 : y < 18446744073709551616 := Nat.lt_of_lt_of_le hy (by
      have : 2 ^ (7 * f + 1) ≤ 2 ^ 64 := Nat.pow_le_pow_right (by omega) (by omega)
      simpa using this)
    have HB := Lib.hid hbel
    have hz := hbel.size
    clear hn hown hnil hput hy hbel
    by_cases h128 : 128 ≤ y
    · have hor := or128 y
      obtain ⟨f, rfl⟩ : ∃ g, f = g + 1 := ⟨f - 1, by
        have := HY.out
        rcases f with _ | f
        · simp at this; omega
        · omega⟩
      go_wp2_with (at_builtin; refine wpList_append_rd _ rfl (.tmp 6) (.tmp 10) 22 rfl w.heap.size 5 (.int .u8 0) 1 Tryd.underlying22 info_u8 rfl _ n (ints .u8 xs) rfl (HOWN.out.alloc _) _ _ 1 1 (ints .u8 [y % 128 + 128]) rfl (rd_lit wr _ .u8 [y % 128 + 128] _ rfl) ?_ ?_ (ints_one _ _) ?_ ?_ ?_ ?_; rfl; (intro h; cases h); (unfold maxLen; omega); omega; (simp; omega); intro A2 c2 w5 o2 g2 b2 n2; have HO2 := Lib.hid o2; have HB5 := Lib.hid b2; have HN2 := Lib.hid n2; clear o2 g2 b2 n2)
      clear hor
      go_wp2_with fail
      go_roundw
      case rel =>
        refine ⟨A2, n + 1, c2, f, y / 128, xs ++ [y % 128 + 128], rfl, by rw [List.length_append, HN.out]; rfl, by simp, by omega, by omega, ?_, HN2.out, ?_, ?_, (HB.out.alloc (by omega) _).trans HB5.out⟩
        · rw [ints_snoc]; exact HO2.out
        · rw [← HPUT.out]
          conv => rhs; unfold putAux
          rw [if_pos h128, List.append_assoc]
          rfl
        · have := HY.out
          rw [show 7 * (f + 1) + 1 = 7 * f + 1 + 7 by omega, Nat.pow_add] at this
          rw [Nat.div_lt_iff_lt_mul (by omega)]
          exact this
      case measure => simp [intOf]; omega
    · have hy256 : (y : Int) % 256 = (y : Int) := by omega
      go_wp2_with (at_builtin; refine wpList_append_rd _ rfl (.tmp 14) (.tmp 17) 22 rfl w.heap.size 5 (.int .u8 0) 1 Tryd.underlying22 info_u8 rfl _ n (ints .u8 xs) rfl (HOWN.out.alloc _) _ _ 1 1 (ints .u8 [y]) rfl (rd_lit wr _ .u8 [y] _ rfl) ?_ ?_ (ints_one _ _) ?_ ?_ ?_ ?_; rfl; (intro h; cases h); (unfold maxLen; omega); omega; (simp; omega); intro A2 c2 w5 o2 g2 b2 n2; have HO2 := Lib.hid o2; have HB5 := Lib.hid b2; have HN2 := Lib.hid n2; clear o2 g2 b2 n2)
      go_ret
      have hp : xs ++ [y] = putNum v := by
        rw [← HPUT.out]
        cases f with
        | zero => rfl
        | succ f => unfold putAux; rw [if_neg h128]
      have hl : n + 1 = (putNum v).length := by rw [← hp, List.length_append, HN.out]; rfl
      have ho := HO2.out
      rw [← ints_snoc, hp, hl] at ho
      refine ⟨A2, c2, ?_, ho, (HB.out.alloc (by omega) _).trans HB5.out, HN2.out⟩
      rw [← hl]
      rfl

theorem zig_any (v : Int) (w : World) (h0 : -9223372036854775808 ≤ v) (h1 : v ≤ 9223372036854775807) : Calls Tryd.prog 65 #[.int .i64 v] w fun e w' => e = .returned (.int .u64 (zig v : Nat)) ∧ w = w' := by
  go_enter Tryd.func65, Tryd.ntmps65
  go_wp2_with fail
  go_ret
  exact ⟨ret_int (zig_val v h0 h1), rfl⟩
theorem zag_any (u : Nat) (w : World) (h1 : u < 18446744073709551616) : Calls Tryd.prog 77 #[.int .u64 u] w fun e w' => e = .returned (.int .i64 (zag u)) ∧ w = w' := by
  go_enter Tryd.func77, Tryd.ntmps77
  go_wp2_with fail
  go_ret
  exact ⟨ret_int (zag_val u h1), rfl⟩
end Go.Proofs.YtifejanbgobngaaDoor
