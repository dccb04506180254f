/- Walks of package bits: lay. -/
import Derived.Test.YtfcedbhmbcbiaaaDoorBitsD
namespace Go.Proofs.YtfcedbhmbcbiaaaDoor
open Go.RowKit
set_option linter.unusedVariables false

theorem lay_zero (v : Value) (at_ : Nat) (w : World) : Calls Tryd.prog 41 #[v, .int .i64 at_, .int .u64 0] w fun e w' => e = .returned (.tuple #[]) ∧ w = w' := by
  go_enter Tryd.func41, Tryd.ntmps41
  go_wp2
  refine bodyPost_ret (results_none rfl _ _ _) rfl ?_
  exact ⟨rfl, rfl⟩

theorem lay_walk (g n at_ v M T : Nat) (w : World) (hr : Row w g 5 .u8 (chop 8 M n)) (hv : v < 18446744073709551616) (hv0 : 0 < v) (hM : M < 2 ^ at_) (hat : at_ ≤ 8000000) (hn : n ≤ 1000000) (hT : M + v * 2 ^ at_ = T) (hend : T < 2 ^ (8 * n)) (hq : at_ / 8 < n) :
    Calls Tryd.prog 41 #[.slice (some ⟨g, 0, none⟩) n n, .int .i64 at_, .int .u64 v] w fun e w' => e = .returned (.tuple #[]) ∧ Row w' g 5 .u8 (chop 8 T n) ∧ w.grownBy w' (some g) := by
  have hcell := hr.cell (at_ / 8) (by rw [chop_length]; exact hq)
  have hx := chop_lt 8 n M _ (List.getElem_mem (by rw [chop_length]; exact hq))
  have hfr := hr.frozen (at_ / 8)
  have HX := Lib.hid (chop_get 8 n M (at_ / 8) (by rw [chop_length]; exact hq))
  obtain ⟨x, hxe⟩ : ∃ x, x = (chop 8 M n)[at_ / 8]'(by rw [chop_length]; exact hq) := ⟨_, rfl⟩
  rw [← hxe] at hcell hx HX
  clear hxe
  have HR := Lib.hid hr
  clear hr
  have hat8 : 8 * (at_ / 8) + at_ % 8 = at_ := by omega
  have HO := Lib.hid (layOr M v (at_ / 8) (at_ % 8) (by omega) (by rw [hat8]; exact hM))
  have HS := Lib.hid (laySet M v (at_ / 8) (at_ % 8) n (by omega) (by rw [hat8]; exact hM))
  have HD := Lib.hid (layRest M v (at_ / 8) (at_ % 8) (by omega) (by rw [hat8]; exact hM))
  rw [hat8, hT] at HO HS HD
  clear hT hat8
  have hvne : ((v : Int) == 0) = false := by simp; omega
  go_enter Tryd.func41, Tryd.ntmps41
  go_wp2
  go_region
  go_wp2
  go_loopw [2, 6] (fun u i wr => ∃ k : Nat, i = .int .i64 k ∧ at_ / 8 < k ∧ u = .int .u64 (T / 2 ^ (8 * k) : Nat) ∧ T / 2 ^ (8 * k) < 18446744073709551616 ∧ Row wr g 5 .u8 (chop 8 (T % 2 ^ (8 * k)) n) ∧ w.grownBy wr (some g)) (fun u _ _ => (intOf u).toNat)
  case atStart =>
    refine ⟨at_ / 8 + 1, by go_num, by omega, ?_, ?_, ?_, ?_⟩
    · rw [← HD.out, cast_shr]
    · rw [← HD.out]; exact shr_lt _ _ hv
    · refine Row.drew (HR.out.set' _ (T / 2 ^ (8 * (at_ / 8)) % 2 ^ 8) _ ?_ _ HS.out)
      rw [← HO.out, ← HX.out, IntKind.wrap_u64]
      have e : ((v : Int) * 2 ^ (at_ % 8)) % 18446744073709551616 % 256 = ((v * 2 ^ (at_ % 8) % 2 ^ 64 % 2 ^ 8 : Nat) : Int) := by simp
      rw [e, u8_or_nat _ _ hx (Nat.mod_lt _ (by decide))]
    · exact only_drew (only_setCell (World.grownBy.refl _ _) (.inl rfl) _)
  case round =>
    obtain ⟨k, rfl, hk, rfl, hlt, hrow, hgr⟩ := hrel
    obtain ⟨y, hy⟩ : ∃ y, y = T / 2 ^ (8 * k) := ⟨_, rfl⟩
    rw [← hy] at hlt ⊢
    by_cases hz : y = 0
    · have hfin : chop 8 (T % 2 ^ (8 * k)) n = chop 8 T n := by
        rw [Nat.mod_eq_of_lt]
        rw [hz] at hy
        exact (Nat.div_eq_zero_iff_lt (Nat.two_pow_pos _)).1 hy.symm
      rw [hfin] at hrow
      have HRow := Lib.hid hrow
      have HGr := Lib.hid hgr
      subst hz
      clear hrow hgr hfin hy
      go_wp2
      refine bodyPost_end (results_none rfl _ _ _) rfl ?_
      exact ⟨rfl, HRow.out, HGr.out⟩
    · have hkn : k < n := by
        rcases Nat.lt_or_ge k n with h | h
        · exact h
        · have h1 : T / 2 ^ (8 * k) = 0 := Nat.div_eq_of_lt (Nat.lt_of_lt_of_le hend (Nat.pow_le_pow_right (by omega) (by omega)))
          omega
      have hc := hrow.cell k (by rw [chop_length]; exact hkn)
      have hf := hrow.frozen k
      have hne : ((y : Int) != 0) = true := by simp [hz]
      have HN := Lib.hid (hrow.set' k (y % 2 ^ 8) ((y : Int) % 256) (by simp) (chop 8 (T % 2 ^ (8 * (k + 1))) n) (by rw [hy]; exact layNext T k n))
      have HGr := Lib.hid (only_setCell hgr (p := ⟨g, k, none⟩) (.inl rfl) (.int .u8 ((y : Int) % 256)))
      have HY := Lib.hid (show y / 256 = T / 2 ^ (8 * (k + 1)) by rw [hy]; exact div_next T k)
      clear hrow hgr hy
      go_wp2
      go_roundw
      case rel => exact ⟨k + 1, by go_num, by omega, by rw [← HY.out]; simp, by rw [← HY.out]; omega, HN.out, HGr.out⟩
      case measure => simp [intOf]; omega

theorem lay_any (g n : Nat) (z : Int) (at_ v M T : Nat) (w : World) (hr : Row w g 5 .u8 (chop 8 M n)) (hz : z = (at_ : Int)) (hv : v < 18446744073709551616) (hM : M < 2 ^ at_) (hat : at_ ≤ 8000000) (hn : n ≤ 1000000)
    (hT : M + v * 2 ^ at_ = T) (hend : T < 2 ^ (8 * n)) :
    Calls Tryd.prog 41 #[.slice (some ⟨g, 0, none⟩) n n, .int .i64 z, .int .u64 v] w fun e w' => e = .returned (.tuple #[]) ∧ Row w' g 5 .u8 (chop 8 T n) ∧ w.grownBy w' (some g) := by
  subst hz
  rcases Nat.eq_zero_or_pos v with rfl | h0
  · rw [Nat.zero_mul, Nat.add_zero] at hT
    subst hT
    exact (lay_zero _ at_ w).mono fun e w' ⟨he, hw⟩ => ⟨he, hw ▸ hr, hw ▸ World.grownBy.refl _ _⟩
  · refine lay_walk g n at_ v M T w hr hv h0 hM hat hn hT hend ?_
    have h1 : 2 ^ at_ ≤ v * 2 ^ at_ := Nat.le_mul_of_pos_left _ h0
    have h2 : 2 ^ at_ < 2 ^ (8 * n) := by omega
    have h3 := (Nat.pow_lt_pow_iff_right (by decide : 1 < 2)).1 h2
    omega
end Go.Proofs.YtfcedbhmbcbiaaaDoor
