/- Bytes as a number, the highest first: high.Take, the reference's Number. -/
import Derived.Test.YtfplppldojlanaaDoorHigh
namespace Go.Proofs.YtfplppldojlanaaDoor
open Go.RowKit
set_option linter.unusedVariables false

/-- The number that all of these bytes are. -/
def numH (l : List Nat) : Nat := l.foldl (fun a x => a * 256 + x) 0
theorem numH_snoc (l : List Nat) (x : Nat) : numH (l ++ [x]) = numH l * 256 + x := by unfold numH; rw [List.foldl_append]; rfl
theorem numH_take (l : List Nat) (j : Nat) (h : j < l.length) : numH (l.take (j + 1)) = numH (l.take j) * 256 + l[j] := by
  rw [List.take_succ_eq_append_getElem h, numH_snoc]
theorem numH_lt (l : List Nat) (h : ∀ x ∈ l, x < 256) : ∀ j, j ≤ l.length → numH (l.take j) < 2 ^ (8 * j)
  | 0, _ => by simp [numH]
  | j + 1, hj => by
    have ih := numH_lt l h j (by omega)
    have hx := h l[j] (List.getElem_mem _)
    rw [numH_take l j (by omega), show 8 * (j + 1) = 8 * j + 8 by omega, Nat.pow_add]
    omega

set_option maxRecDepth 100000 in
theorem highTake_any (A : Option Addr) (n c : Nat) (b : List Nat) (w : World) (B : Nat) (hn : n = b.length) (hr : Rd w B A (ints .u8 b)) (h256 : ∀ x ∈ b, x < 256) (hb : b.length ≤ 8) :
    Calls Tryd.prog 50 #[.slice A n c] w fun e w' => e = .returned (.int .u64 (numH b : Nat)) ∧ w = w' := by
  subst hn
  have HR := Lib.hid hr
  clear hr
  go_enter Tryd.func50, Tryd.ntmps50
  go_wp2_with fail
  go_loop [3, 8] (fun x i => ∃ k u : Nat, k ≤ b.length ∧ i = .int .i64 k ∧ x = .int .u64 u ∧ u = numH (b.take k)) (fun _ i => b.length - (intOf i).toNat)
  case atStart => exact ⟨0, 0, Nat.zero_le _, rfl, rfl, rfl⟩
  case round =>
    obtain ⟨k, u, hk, rfl, rfl, hu⟩ := hrel
    by_cases hlt : k < b.length
    · obtain ⟨bb, off, rfl, hbb, hc⟩ := HR.out.at_ (k := k) (by rw [ints_length]; exact hlt)
      simp only [ints, List.getElem_map] at hc
      have hx := h256 _ (List.getElem_mem hlt)
      have hnext := numH_take b k hlt
      have hul := numH_lt b h256 k hk
      rw [← hu] at hnext hul
      obtain ⟨x, hxe⟩ : ∃ x, x = b[k] := ⟨_, rfl⟩
      rw [← hxe] at hc hx hnext
      have hu56 : u < 72057594037927936 := Nat.lt_of_lt_of_le hul (by
        have : 2 ^ (8 * k) ≤ 2 ^ 56 := Nat.pow_le_pow_right (by omega) (by omega)
        simpa using this)
      have hor : bits .or .u64 ((u : Int) * 256) (x : Int) = ((u * 256 + x : Nat) : Int) := by
        have e : (u : Int) * 256 = ((u * 256 : Nat) : Int) := by simp
        rw [e, u64_or_nat _ _ (by omega) (by omega), or_add _ _ 8 (by omega) hx]
      have HNX := Lib.hid hnext
      clear hxe hu hul hnext
      go_wp2_with fail
      go_round
      case rel => exact ⟨k + 1, u * 256 + x, hlt, by go_num, by go_num, HNX.out.symm⟩
      case measure => simp [intOf]; omega
    · have hf : b.take k = b := List.take_of_length_le (by omega)
      rw [hf] at hu
      subst hu
      go_wp2_with fail
      go_ret
      exact ⟨rfl, rfl⟩

end Go.Proofs.YtfplppldojlanaaDoor
