/- Walks of package bits: pick. -/
import Derived.Test.YtfcedbhmbcbiaaaDoorBitsC
import Derived.Test.YtfcedbhmbcbiaaaDoorBitsMath
namespace Go.Proofs.YtfcedbhmbcbiaaaDoor
open Go.RowKit
set_option linter.unusedVariables false

theorem Rd.slice {w : World} {B : Nat} {A : Option Addr} {xs : List Value} (h : Rd w B A xs) (i j : Nat) (hij : i ≤ j) (hj : j ≤ xs.length) (b off : Nat) (hA : A = some ⟨b, off, none⟩) :
    Rd w B (some ⟨b, off + i, none⟩) ((xs.drop i).take (j - i)) := by
  rcases h with rfl | ⟨b', off', hA', hb, hc⟩
  · left; simp
  · rw [hA] at hA'
    injection hA' with e; injection e with e1 e2 _; subst e1 e2
    refine .inr ⟨b, off + i, rfl, hb, fun k v hv => ?_⟩
    rw [List.getElem?_take] at hv
    split at hv
    · rw [List.getElem?_drop] at hv
      rw [Nat.add_assoc]
      exact hc _ v hv
    · cases hv

theorem low_at (A : Option Addr) (n c : Nat) (l : List Nat) (w : World) (B : Nat) (hn : n = l.length) (hl : l.length ≤ 8) (hr : Rd w B A (ints .u8 l)) (h : ∀ x ∈ l, x < 256) :
    Calls Tryd.prog 59 #[.slice A n c] w fun e w' => e = .returned (.int .u64 (cat 8 l : Nat)) ∧ w = w' := by
  subst hn; exact low_any A c l w B hl hr h

theorem ints_cut (k : IntKind) (l : List Nat) (i m : Nat) : ((ints k l).drop i).take m = ints k ((l.drop i).take m) := by
  simp [ints, List.map_drop, List.map_take]

theorem cat_lt_of (l : List Nat) (h : ∀ x ∈ l, x < 256) (hl : l.length ≤ 8) : cat 8 l < 18446744073709551616 := by
  have h1 := cat_lt 8 l h
  have h2 : 2 ^ (8 * l.length) ≤ 2 ^ 64 := Nat.pow_le_pow_right (by omega) (by omega)
  omega

theorem and_ones (x k : Nat) (hx : x < 18446744073709551616) (hk : k ≤ 64) : bits .and .u64 (x : Int) (18446744073709551615 / 2 ^ (64 - k)) = ((x % 2 ^ k : Nat) : Int) := by
  have e : (18446744073709551615 / 2 ^ (64 - k) : Int) = ((2 ^ k - 1 : Nat) : Int) := by
    rw [← ones_shift k hk]
    simp
  have hp : 2 ^ k ≤ 2 ^ 64 := Nat.pow_le_pow_right (by omega) hk
  rw [e, u64_and_nat _ _ hx (by omega), Nat.and_two_pow_sub_one_eq_mod]

theorem or_lt64 (a b : Nat) (ha : a < 18446744073709551616) (hb : b < 18446744073709551616) : a ||| b < 18446744073709551616 := Nat.or_lt_two_pow (n := 64) ha hb

theorem pickA_walk (b off c : Nat) (l : List Nat) (at_ k : Nat) (w : World) (B : Nat) (hr : Rd w B (some ⟨b, off, none⟩) (ints .u8 l)) (h256 : ∀ x ∈ l, x < 256) (hc : l.length ≤ c)
    (hk : k ≤ 64) (hlen : l.length ≤ 1000000) (hlt : at_ / 8 + 8 ≤ l.length) (h9 : at_ % 8 + k ≤ 64) :
    Calls Tryd.prog 46 #[.slice (some ⟨b, off, none⟩) l.length c, .int .i64 at_, .int .i64 k] w fun e w' => e = .returned (.int .u64 (cat 8 l / 2 ^ at_ % 2 ^ k : Nat)) ∧ w = w' := by
  have hmin : min ((at_ : Int) / 8 + 8) (l.length : Int) = (at_ : Int) / 8 + 8 := by omega
  have hr' := hr.slice (at_ / 8) (at_ / 8 + 8) (by omega) (by simpa [ints] using hlt) b off rfl
  rw [show at_ / 8 + 8 - at_ / 8 = 8 by omega, ints_cut] at hr'
  have hs : ∀ x ∈ (l.drop (at_ / 8)).take 8, x < 256 := fun x hx => h256 x (List.mem_of_mem_drop (List.mem_of_mem_take hx))
  have hsl : ((l.drop (at_ / 8)).take 8).length = 8 := by simp; omega
  have hx := cat_lt_of _ hs (by omega)
  have HX := Lib.hid (cat_cut 8 (at_ / 8) 8 l h256 (by omega))
  obtain ⟨y, hy⟩ : ∃ y, y = cat 8 ((l.drop (at_ / 8)).take 8) := ⟨_, rfl⟩
  have HL := Lib.hid (fun c => low_at (some ⟨b, off + at_ / 8, none⟩) 8 c _ w B hsl.symm (by omega) hr' hs)
  rw [← hy] at hx HX HL
  clear hy hr hr' hs hsl h256
  go_enter Tryd.func46, Tryd.ntmps46
  go_wp2_with (go_at_call 59; refine (HL.out _).mono ?_; rintro e w' ⟨rfl, rfl⟩)
  go_ret
  refine ⟨ret_int ?_, rfl⟩
  show bits .and .u64 ((y : Int) / 2 ^ (at_ % 8)) (18446744073709551615 / 2 ^ (64 - k)) = _
  rw [cast_shr, and_ones _ k (shr_lt _ _ hx) hk, HX.out, pickA _ _ _ _ h9, show 8 * (at_ / 8) + at_ % 8 = at_ by omega]

theorem pickS_walk (b off c : Nat) (l : List Nat) (at_ k : Nat) (w : World) (B : Nat) (hr : Rd w B (some ⟨b, off, none⟩) (ints .u8 l)) (h256 : ∀ x ∈ l, x < 256) (hc : l.length ≤ c)
    (hk : k ≤ 64) (hlen : l.length ≤ 1000000) (hlt : l.length < at_ / 8 + 8) (hq : at_ / 8 < l.length) (h9 : at_ % 8 + k ≤ 64) :
    Calls Tryd.prog 46 #[.slice (some ⟨b, off, none⟩) l.length c, .int .i64 at_, .int .i64 k] w fun e w' => e = .returned (.int .u64 (cat 8 l / 2 ^ at_ % 2 ^ k : Nat)) ∧ w = w' := by
  have hmin : min ((at_ : Int) / 8 + 8) (l.length : Int) = (l.length : Int) := by omega
  have hr' := hr.slice (at_ / 8) l.length (by omega) (by simp [ints]) b off rfl
  rw [ints_cut] at hr'
  have e1 : (l.drop (at_ / 8)).take (l.length - at_ / 8) = (l.drop (at_ / 8)).take 8 := by
    rw [List.take_of_length_le (by simp), List.take_of_length_le (by simp; omega)]
  rw [e1] at hr'
  have hs : ∀ x ∈ (l.drop (at_ / 8)).take 8, x < 256 := fun x hx => h256 x (List.mem_of_mem_drop (List.mem_of_mem_take hx))
  have hsl : ((l.drop (at_ / 8)).take 8).length = l.length - at_ / 8 := by simp; omega
  have hx := cat_lt_of _ hs (by omega)
  have HX := Lib.hid (cat_cut 8 (at_ / 8) 8 l h256 (by omega))
  obtain ⟨y, hy⟩ : ∃ y, y = cat 8 ((l.drop (at_ / 8)).take 8) := ⟨_, rfl⟩
  have hne : ¬ at_ / 8 = c := by omega
  have HL := Lib.hid (fun c => low_at (some ⟨b, off + at_ / 8, none⟩) (l.length - at_ / 8) c _ w B hsl.symm (by omega) hr' hs)
  rw [← hy] at hx HX HL
  clear hy hr hr' hs hsl h256 e1
  go_enter Tryd.func46, Tryd.ntmps46
  go_wp2_with (go_at_call 59; refine (HL.out _).mono ?_; rintro e w' ⟨rfl, rfl⟩)
  go_ret
  refine ⟨ret_int ?_, rfl⟩
  show bits .and .u64 ((y : Int) / 2 ^ (at_ % 8)) (18446744073709551615 / 2 ^ (64 - k)) = _
  rw [cast_shr, and_ones _ k (shr_lt _ _ hx) hk, HX.out, pickA _ _ _ _ h9, show 8 * (at_ / 8) + at_ % 8 = at_ by omega]

theorem pick0_walk (A : Option Addr) (c : Nat) (w : World) :
    Calls Tryd.prog 46 #[.slice A 0 c, .int .i64 0, .int .i64 0] w fun e w' => e = .returned (.int .u64 0) ∧ w = w' := by
  have HL := Lib.hid (fun (A : Option Addr) c => low_at A 0 c [] w 0 rfl (by simp) (.inl rfl) (by simp))
  rcases A with _ | A
  · go_enter Tryd.func46, Tryd.ntmps46
    go_wp2_with (go_at_call 59; refine (HL.out _ _).mono ?_; rintro e w' ⟨rfl, rfl⟩)
    all_goals go_ret
    all_goals exact ⟨rfl, rfl⟩
  · go_enter Tryd.func46, Tryd.ntmps46
    go_wp2_with (go_at_call 59; refine (HL.out _ _).mono ?_; rintro e w' ⟨rfl, rfl⟩)
    all_goals go_ret
    all_goals exact ⟨rfl, rfl⟩

theorem pickB_walk (b off c : Nat) (l : List Nat) (at_ k : Nat) (w : World) (B : Nat) (hr : Rd w B (some ⟨b, off, none⟩) (ints .u8 l)) (h256 : ∀ x ∈ l, x < 256) (hc : l.length ≤ c)
    (hk : k ≤ 64) (hlen : l.length ≤ 1000000) (hlt : at_ / 8 + 8 < l.length) (h9 : 64 < at_ % 8 + k) :
    Calls Tryd.prog 46 #[.slice (some ⟨b, off, none⟩) l.length c, .int .i64 at_, .int .i64 k] w fun e w' => e = .returned (.int .u64 (cat 8 l / 2 ^ at_ % 2 ^ k : Nat)) ∧ w = w' := by
  have hmin : min ((at_ : Int) / 8 + 8) (l.length : Int) = (at_ : Int) / 8 + 8 := by omega
  have hr' := hr.slice (at_ / 8) (at_ / 8 + 8) (by omega) (by simp [ints]; omega) b off rfl
  rw [show at_ / 8 + 8 - at_ / 8 = 8 by omega, ints_cut] at hr'
  have hs : ∀ x ∈ (l.drop (at_ / 8)).take 8, x < 256 := fun x hx => h256 x (List.mem_of_mem_drop (List.mem_of_mem_take hx))
  have hsl : ((l.drop (at_ / 8)).take 8).length = 8 := by simp; omega
  have hx := cat_lt_of _ hs (by omega)
  have HX := Lib.hid (cat_cut 8 (at_ / 8) 8 l h256 (by omega))
  obtain ⟨b', off', e', hb', hcell⟩ := hr.at_ (k := at_ / 8 + 8) (by simpa [ints] using hlt)
  injection e' with e'; injection e' with e1 e2 _; subst e1 e2
  simp only [ints, List.getElem_map] at hcell
  have hz := h256 _ (List.getElem_mem hlt)
  have HZ := Lib.hid (cat_get 8 l h256 (at_ / 8 + 8) hlt)
  obtain ⟨z, hze⟩ : ∃ z, z = l[at_ / 8 + 8] := ⟨_, rfl⟩
  rw [← hze] at hcell hz HZ
  clear hze
  obtain ⟨y, hy⟩ : ∃ y, y = cat 8 ((l.drop (at_ / 8)).take 8) := ⟨_, rfl⟩
  have HL := Lib.hid (fun c => low_at (some ⟨b, off + at_ / 8, none⟩) 8 c _ w B hsl.symm (by omega) hr' hs)
  rw [← hy] at hx HX HL
  clear hy hr hr' hs hsl h256
  go_enter Tryd.func46, Tryd.ntmps46
  go_wp2_with (go_at_call 59; refine (HL.out _).mono ?_; rintro e w' ⟨rfl, rfl⟩)
  go_ret
  refine ⟨ret_int ?_, rfl⟩
  show bits .and .u64 (bits .or .u64 ((y : Int) / 2 ^ (at_ % 8)) (IntKind.u64.wrap ((z : Int) * 2 ^ (64 - at_ % 8)))) (18446744073709551615 / 2 ^ (64 - k)) = _
  have e1 : IntKind.u64.wrap ((z : Int) * 2 ^ (64 - at_ % 8)) = ((z * 2 ^ (64 - at_ % 8) % 2 ^ 64 : Nat) : Int) := by
    rw [IntKind.wrap_u64]; simp
  have h1 := shr_lt y (at_ % 8) hx
  have h2 : z * 2 ^ (64 - at_ % 8) % 2 ^ 64 < 18446744073709551616 := Nat.mod_lt _ (by decide)
  rw [cast_shr, e1, u64_or_nat _ _ h1 h2, and_ones _ k (or_lt64 _ _ h1 h2) hk, HX.out, HZ.out, pickB _ _ _ _ h9 (by omega) hk, show 8 * (at_ / 8) + at_ % 8 = at_ by omega]

theorem pick_any (A : Option Addr) (c : Nat) (l : List Nat) (at_ k : Nat) (w : World) (B : Nat) (hr : Rd w B A (ints .u8 l)) (h256 : ∀ x ∈ l, x < 256) (hc : l.length ≤ c)
    (hk : k ≤ 64) (hlen : l.length ≤ 1000000) (hend : at_ + k ≤ 8 * l.length) (h0 : k = 0 → l = [] ∧ at_ = 0) :
    Calls Tryd.prog 46 #[.slice A l.length c, .int .i64 at_, .int .i64 k] w fun e w' => e = .returned (.int .u64 (cat 8 l / 2 ^ at_ % 2 ^ k : Nat)) ∧ w = w' := by
  by_cases hk0 : k = 0
  · obtain ⟨rfl, rfl⟩ := h0 hk0
    subst hk0
    exact pick0_walk A c w
  · obtain ⟨b, off, rfl, _, _⟩ := hr.at_ (k := at_ / 8) (by rw [ints_length]; omega)
    by_cases h8 : at_ / 8 + 8 ≤ l.length
    · by_cases h9 : at_ % 8 + k ≤ 64
      · exact pickA_walk b off c l at_ k w B hr h256 hc hk hlen h8 h9
      · exact pickB_walk b off c l at_ k w B hr h256 hc hk hlen (by omega) (by omega)
    · exact pickS_walk b off c l at_ k w B hr h256 hc hk hlen (by omega) (by omega) (by omega)
end Go.Proofs.YtfcedbhmbcbiaaaDoor
