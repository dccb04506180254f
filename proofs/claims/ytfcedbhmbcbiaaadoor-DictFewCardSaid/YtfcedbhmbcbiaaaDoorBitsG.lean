/- Walks of package bits: Take. -/
import Derived.Test.YtfcedbhmbcbiaaaDoorBitsF
namespace Go.Proofs.YtfcedbhmbcbiaaaDoor
open Go.RowKit
set_option linter.unusedVariables false

theorem take_arg (A : Option Addr) (c : Nat) (l : List Nat) (n k : Int) (w : World) (h : n < 0 ∨ 1000 < n ∨ k < 0 ∨ 64 < k) :
    Calls Tryd.prog 29 #[.slice A l.length c, .int .i64 n, .int .i64 k] w fun e w' => e = .returned (.tuple #[.slice none 0 0, .bool false]) ∧ w = w' := by
  rcases Int.lt_or_le n 0 with h1 | h1
  · go_enter Tryd.func29, Tryd.ntmps29
    go_wp2_with fail
    go_ret2
    exact ⟨rfl, rfl⟩
  · rcases Int.lt_or_le 1000 n with h2 | h2
    · go_enter Tryd.func29, Tryd.ntmps29
      go_wp2_with fail
      go_ret2
      exact ⟨rfl, rfl⟩
    · rcases Int.lt_or_le k 0 with h3 | h3
      · go_enter Tryd.func29, Tryd.ntmps29
        go_wp2_with fail
        go_ret2
        exact ⟨rfl, rfl⟩
      · have h4 : 64 < k := by omega
        clear h
        go_enter Tryd.func29, Tryd.ntmps29
        go_wp2_with fail
        go_ret2
        exact ⟨rfl, rfl⟩

theorem take_len (A : Option Addr) (c : Nat) (l : List Nat) (n k : Nat) (w : World) (hn : n ≤ 1000) (hk : k ≤ 64) (hl : l.length ≤ 1000000) (h : l.length ≠ (n * k + 7) / 8) :
    Calls Tryd.prog 29 #[.slice A l.length c, .int .i64 n, .int .i64 k] w fun e w' => e = .returned (.tuple #[.slice none 0 0, .bool false]) ∧ w = w' := by
  have hnk : n * k ≤ 64000 := Nat.le_trans (Nat.mul_le_mul hn hk) (by decide)
  have HS := Lib.hid (size_any n k (by omega) w)
  obtain ⟨m, hm⟩ : ∃ m, m = (n * k + 7) / 8 := ⟨_, rfl⟩
  rw [← hm] at HS h
  clear hm
  have hne : ((l.length : Int) != (m : Int)) = true := by rw [bne_iff_ne]; omega
  go_enter Tryd.func29, Tryd.ntmps29
  go_wp2_with (go_at_call 40; refine HS.out.mono ?_; rintro e w' ⟨rfl, rfl⟩)
  go_ret2
  exact ⟨rfl, rfl⟩

theorem pick_at (A : Option Addr) (c : Nat) (l : List Nat) (z : Int) (at_ k : Nat) (w : World) (B : Nat) (hz : z = (at_ : Int)) (hr : Rd w B A (ints .u8 l)) (h256 : ∀ x ∈ l, x < 256) (hc : l.length ≤ c)
    (hk : k ≤ 64) (hlen : l.length ≤ 1000000) (hend : at_ + k ≤ 8 * l.length) (h0 : k = 0 → l = [] ∧ at_ = 0) :
    Calls Tryd.prog 46 #[.slice A l.length c, .int .i64 z, .int .i64 k] w fun e w' => e = .returned (.int .u64 (cat 8 l / 2 ^ at_ % 2 ^ k : Nat)) ∧ w = w' := by
  subst hz; exact pick_any A c l at_ k w B hr h256 hc hk hlen hend h0
theorem ended_at (A : Option Addr) (c : Nat) (l : List Nat) (z : Int) (at_ : Nat) (w : World) (B : Nat) (hz : z = (at_ : Int)) (hr : Rd w B A (ints .u8 l)) (ha : at_ ≤ 8000000) (hl : l.length = (at_ + 7) / 8) (h256 : ∀ x ∈ l, x < 256) :
    Calls Tryd.prog 45 #[.slice A l.length c, .int .i64 z] w fun e w' => e = .returned (.bool (decide (cat 8 l < 2 ^ at_))) ∧ w = w' := by
  subst hz; rw [← ended_iff l at_ h256 hl]; exact ended_any A c l at_ w B hr ha (by omega) h256

theorem take_end (A : Option Addr) (c : Nat) (l : List Nat) (n k : Nat) (w : World) (B : Nat) (hr : Rd w B A (ints .u8 l)) (h256 : ∀ x ∈ l, x < 256) (hn : n ≤ 1000) (hk : k ≤ 64) (hl : l.length = (n * k + 7) / 8) (hend : ¬ cat 8 l < 2 ^ (n * k)) :
    Calls Tryd.prog 29 #[.slice A l.length c, .int .i64 n, .int .i64 k] w fun e w' => e = .returned (.tuple #[.slice none 0 0, .bool false]) ∧ w = w' := by
  have hnk : n * k ≤ 64000 := Nat.le_trans (Nat.mul_le_mul hn hk) (by decide)
  have h1 : (n : Int) * (k : Int) ≤ 64000 := by have := Int.ofNat_le.2 hnk; simpa using this
  have h0 : 0 ≤ (n : Int) * (k : Int) := Int.mul_nonneg (by omega) (by omega)
  have HS := Lib.hid (size_any n k (by omega) w)
  have HE := Lib.hid (ended_at A c l ((n : Int) * (k : Int)) (n * k) w B (by simp) hr (by omega) hl h256)
  rw [← hl] at HS
  rw [decide_eq_false hend] at HE
  have hne : ((l.length : Int) != (l.length : Int)) = false := by simp
  clear hr hl hend h256
  go_enter Tryd.func29, Tryd.ntmps29
  go_wp2_with (first | (go_at_call 40; refine HS.out.mono ?_; rintro e w' ⟨rfl, rfl⟩) | (go_at_call 45; refine HE.out.mono ?_; rintro e w' ⟨rfl, rfl⟩))
  go_ret2
  exact ⟨rfl, rfl⟩

theorem takeYes (A : Option Addr) (c : Nat) (l : List Nat) (n k : Nat) (w : World) (hr : Rd w w.heap.size A (ints .u8 l)) (h256 : ∀ x ∈ l, x < 256) (hc : l.length ≤ c) (hn : n ≤ 1000) (hk : k ≤ 64) (hl : l.length = (n * k + 7) / 8) (hend : cat 8 l < 2 ^ (n * k)) :
    Calls Tryd.prog 29 #[.slice A l.length c, .int .i64 n, .int .i64 k] w fun e w' => e = .returned (.tuple #[.slice (some ⟨w.heap.size, 0, none⟩) n n, .bool true]) ∧
      Row w' w.heap.size 56 .u64 (chop k (cat 8 l) n) ∧ Below w.heap.size w w' := by
  have hnk : n * k ≤ 64000 := Nat.le_trans (Nat.mul_le_mul hn hk) (by decide)
  have h1 : (n : Int) * (k : Int) ≤ 64000 := by have := Int.ofNat_le.2 hnk; simpa using this
  have h0 : 0 ≤ (n : Int) * (k : Int) := Int.mul_nonneg (by omega) (by omega)
  have HS := Lib.hid (size_any n k (by omega) w)
  have HE := Lib.hid (ended_at A c l ((n : Int) * (k : Int)) (n * k) w _ (by simp) hr (by omega) hl h256)
  rw [← hl] at HS
  rw [decide_eq_true hend] at HE
  have hne : ((l.length : Int) != (l.length : Int)) = false := by simp
  have HR := Lib.hid hr
  have HLEN := Lib.hid hl
  have hl8 : l.length ≤ 8001 := by omega
  clear hr hl hend
  have hmk := fun W => run_make_row' (P := Tryd.prog) 59 56 (.int .u64 0) 8 Tryd.underlying59 info_u64 rfl .i64 .i64 n (by omega) (by omega) W
  go_enter Tryd.func29, Tryd.ntmps29
  go_wp2_with (first | (go_at_call 40; refine HS.out.mono ?_; rintro e w' ⟨rfl, rfl⟩) | (go_at_call 45; refine HE.out.mono ?_; rintro e w' ⟨rfl, rfl⟩))
  clear hmk HS HE
  obtain ⟨L, hL⟩ : ∃ L, L = chop k (cat 8 l) n := ⟨_, rfl⟩
  have hLn : L.length = n := by rw [hL, chop_length]
  go_loopw [42] (fun i wr => ∃ j : Nat, j ≤ n ∧ i = .int .i64 j ∧ Row wr w.heap.size 56 .u64 (L.take j ++ List.replicate (n - j) 0) ∧ Below w.heap.size w wr) (fun i _ => n - (intOf i).toNat)
  case atStart =>
    refine ⟨0, Nat.zero_le _, rfl, ?_, (Below.refl _ _).alloc (Nat.le_refl _) _⟩
    simp only [List.take_zero, List.nil_append, Nat.sub_zero]
    exact Row.made w _ .u64 n
  case round =>
    obtain ⟨j, hj, rfl, hrow, hbel⟩ := hrel
    by_cases hlt : j < n
    · have hj1 : (j + 1) * k ≤ n * k := Nat.mul_le_mul_right _ hlt
      have hj2 : (j + 1) * k = j * k + k := Nat.succ_mul j k
      have h3 : (j : Int) * (k : Int) ≤ 64000 := by
        have : j * k ≤ 64000 := by omega
        have := Int.ofNat_le.2 this
        simpa using this
      have h4 : 0 ≤ (j : Int) * (k : Int) := Int.mul_nonneg (by omega) (by omega)
      have HP := Lib.hid (pick_at A c l ((j : Int) * (k : Int)) (j * k) k wr _ (by simp) (HR.out.below hbel) h256 hc hk (by omega) (by have := HLEN.out; omega)
        (fun hk0 => ⟨List.eq_nil_of_length_eq_zero (by have := HLEN.out; subst hk0; simpa using this), by simp [hk0]⟩))
      have hcl := hrow.cell j (by simp [hLn]; omega)
      have hfr := hrow.frozen j
      obtain ⟨old, hold⟩ : ∃ old : Int, wr.cell? ⟨w.heap.size, j, none⟩ = some (.int .u64 old) := ⟨_, hcl⟩
      clear hcl
      obtain ⟨x, hx⟩ : ∃ x, x = cat 8 l / 2 ^ (j * k) % 2 ^ k := ⟨_, rfl⟩
      rw [← hx] at HP
      have hxL : x = L[j]'(by omega) := by
        subst hL
        rw [chop_get, hx, Nat.mul_comm]
      have HN := Lib.hid (hrow.set' j x (x : Int) rfl _ (set_fill L j n hLn hlt x hxL))
      have HB := Lib.hid (hbel.setCell (p := ⟨w.heap.size, j, none⟩) (Nat.le_refl _) (.int .u64 (x : Int)))
      clear hrow hbel hxL hx hL hj1 hj2
      have HLn := Lib.hid hLn
      clear hLn
      go_wp2_with (go_at_call 46; refine HP.out.mono ?_; rintro e w2 ⟨rfl, rfl⟩)
      go_roundw
      case rel => exact ⟨j + 1, hlt, by go_num, HN.out, HB.out⟩
      case measure => simp [intOf]; omega
    · have hfin : L.take j ++ List.replicate (n - j) 0 = chop k (cat 8 l) n := by
        rw [show n - j = 0 by omega, List.replicate_zero, List.append_nil, List.take_of_length_le (by omega), hL]
      rw [hfin] at hrow
      have HRow := Lib.hid hrow
      have HB := Lib.hid hbel
      clear hrow hbel hfin hL hLn
      go_wp2
      go_ret2
      exact ⟨rfl, HRow.out, HB.out⟩

theorem takeNo (A : Option Addr) (c : Nat) (l : List Nat) (n k : Int) (w : World) (B : Nat) (hr : Rd w B A (ints .u8 l)) (h256 : ∀ x ∈ l, x < 256) (hl : l.length ≤ 1000000) (h : ¬ TakeOK l n k) :
    Calls Tryd.prog 29 #[.slice A l.length c, .int .i64 n, .int .i64 k] w fun e w' => e = .returned (.tuple #[.slice none 0 0, .bool false]) ∧ w = w' := by
  by_cases h1 : n < 0 ∨ 1000 < n ∨ k < 0 ∨ 64 < k
  · exact take_arg A c l n k w h1
  · obtain ⟨n', rfl⟩ := Int.eq_ofNat_of_zero_le (show 0 ≤ n by omega)
    obtain ⟨k', rfl⟩ := Int.eq_ofNat_of_zero_le (show 0 ≤ k by omega)
    by_cases h2 : l.length = (n' * k' + 7) / 8
    · exact take_end A c l n' k' w B hr h256 (by omega) (by omega) h2 fun h3 => h ⟨n', k', rfl, rfl, by omega, by omega, h2, h3⟩
    · exact take_len A c l n' k' w (by omega) (by omega) hl h2

/-! The contracts once more, every argument open. -/
theorem put_yes (A : Option Addr) (n c : Nat) (l : List Nat) (z : Int) (k m g : Nat) (w : World) (hn : n = l.length) (hz : z = (k : Int)) (hm : m = (l.length * k + 7) / 8) (hg : g = w.heap.size)
    (hr : Rd w g A (ints .u64 l)) (hl : l.length ≤ 1000) (h64 : ∀ x ∈ l, x < 18446744073709551616) (hk : k ≤ 64) (hw : widL l ≤ k) :
    Calls Tryd.prog 23 #[.slice A n c, .int .i64 z] w fun e w' => e = .returned (.tuple #[.slice (some ⟨g, 0, none⟩) m m, .bool true]) ∧ Row w' g 5 .u8 (chop 8 (cat k l) m) ∧ Below g w w' := by
  subst hn hz hm hg
  exact putYes A c l k w hr hl h64 hk hw
theorem put_no (A : Option Addr) (n c : Nat) (l : List Nat) (z : Int) (w : World) (B : Nat) (hn : n = l.length) (hr : Rd w B A (ints .u64 l)) (hl : l.length ≤ 1000) (h64 : ∀ x ∈ l, x < 18446744073709551616)
    (h : z < 0 ∨ 64 < z ∨ z < widL l) :
    Calls Tryd.prog 23 #[.slice A n c, .int .i64 z] w fun e w' => e = .returned (.tuple #[.slice none 0 0, .bool false]) ∧ w = w' := by
  subst hn
  exact putNo A c l z w B hr hl h64 h
theorem take_yes (A : Option Addr) (m c : Nat) (l : List Nat) (zn zk : Int) (n k g : Nat) (w : World) (hm : m = l.length) (hzn : zn = (n : Int)) (hzk : zk = (k : Int)) (hg : g = w.heap.size)
    (hr : Rd w g A (ints .u8 l)) (h256 : ∀ x ∈ l, x < 256) (hc : l.length ≤ c) (hn : n ≤ 1000) (hk : k ≤ 64) (hl : l.length = (n * k + 7) / 8) (hend : cat 8 l < 2 ^ (n * k)) :
    Calls Tryd.prog 29 #[.slice A m c, .int .i64 zn, .int .i64 zk] w fun e w' => e = .returned (.tuple #[.slice (some ⟨g, 0, none⟩) n n, .bool true]) ∧
      Row w' g 56 .u64 (chop k (cat 8 l) n) ∧ Below g w w' := by
  subst hm hzn hzk hg
  exact takeYes A c l n k w hr h256 hc hn hk hl hend
theorem take_no (A : Option Addr) (m c : Nat) (l : List Nat) (n k : Int) (w : World) (B : Nat) (hm : m = l.length) (hr : Rd w B A (ints .u8 l)) (h256 : ∀ x ∈ l, x < 256) (hl : l.length ≤ 1000000) (h : ¬ TakeOK l n k) :
    Calls Tryd.prog 29 #[.slice A m c, .int .i64 n, .int .i64 k] w fun e w' => e = .returned (.tuple #[.slice none 0 0, .bool false]) ∧ w = w' := by
  subst hm
  exact takeNo A c l n k w B hr h256 hl h
theorem width_at (A : Option Addr) (n c : Nat) (l : List Nat) (m : Nat) (w : World) (B : Nat) (hn : n = l.length) (hm : m = widL l) (hr : Rd w B A (ints .u64 l)) (hl : l.length ≤ 1000000) (h64 : ∀ x ∈ l, x < 18446744073709551616) :
    Calls Tryd.prog 39 #[.slice A n c] w fun e w' => e = .returned (.int .i64 (m : Int)) ∧ w = w' := by
  subst hn hm
  exact width_any A c l w B hr hl h64
end Go.Proofs.YtfcedbhmbcbiaaaDoor
