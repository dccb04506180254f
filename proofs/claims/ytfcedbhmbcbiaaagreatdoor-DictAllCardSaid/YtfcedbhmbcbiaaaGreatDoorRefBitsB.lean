
import Derived.Test.YtfcedbhmbcbiaaaGreatDoorBase
import Derived.Test.YtfcedbhmbcbiaaaGreatDoorBitsMath
import Derived.Test.YtfcedbhmbcbiaaaGreatDoorRefMath
/- Walks of the document's answer for bits: width, Width, PutBits. -/

namespace Go.Proofs.YtfcedbhmbcbiaaaGreatDoor
open Go.RowKit
set_option linter.unusedVariables false

theorem ref_width (v : Nat) (hv : v < 18446744073709551616) (w : World) :
    Calls Tryz.prog 42 #[.int .u64 v] w fun e w' => e = .returned (.int .i64 (wid v : Int)) ∧ w = w' := by
  have h64 := wid_le64 hv
  go_enter Tryz.func42, Tryz.ntmps42
  go_wp2
  go_loop [3, 0] (fun n x => ∃ (j y : Nat), n = .int .i64 j ∧ x = .int .u64 y ∧ y < 18446744073709551616 ∧ j + wid y = wid v) (fun _ x => (intOf x).toNat)
  case atStart => exact ⟨0, v, rfl, rfl, hv, by omega⟩
  case round =>
    obtain ⟨j, y, rfl, rfl, hy, hjy⟩ := hrel
    have HJ := Lib.hid hjy
    have hj64 : j ≤ 64 := by omega
    clear hjy
    by_cases h0 : 0 < y
    · go_wp2
      go_round
      case rel => exact ⟨j + 1, y / 2, by go_num, by simp, by omega, by have := HJ.out; have := wid_half y h0; omega⟩
      case measure => simp [intOf]; omega
    · have hy0 : y = 0 := by omega
      subst hy0
      have hf : (j : Int) = (wid v : Int) := by have := HJ.out; rw [wid_zero] at this; omega
      have HF := Lib.hid hf
      clear hf
      go_wp2
      go_ret
      exact ⟨ret_int HF.out, rfl⟩

theorem ref_Width (A : Option Addr) (n c : Nat) (l : List Nat) (m : Nat) (w : World) (B : Nat) (hn : n = l.length) (hm : m = widL l) (hr : Rd w B A (ints .u64 l)) (hl : l.length ≤ 1000000) (h64 : ∀ x ∈ l, x < 18446744073709551616) :
    Calls Tryz.prog 43 #[.slice A n c] w fun e w' => e = .returned (.int .i64 (m : Int)) ∧ w = w' := by
  subst hn hm
  have hw := widL_le64
  have HR := Lib.hid hr
  clear hr
  go_enter Tryz.func43, Tryz.ntmps43
  go_wp2
  go_loop [3, 4] (fun m i => ∃ k : Nat, k ≤ l.length ∧ i = .int .i64 k ∧ m = .int .i64 (widL (l.take k) : Int)) (fun _ i => l.length - (intOf i).toNat)
  case atStart => exact ⟨0, Nat.zero_le _, rfl, rfl⟩
  case round =>
    obtain ⟨k, hk, rfl, rfl⟩ := hrel
    by_cases hlt : k < l.length
    · obtain ⟨b, off, rfl, hb, hc⟩ := HR.out.at_ (k := k) (by simpa [ints] using hlt)
      simp only [ints, List.getElem_map] at hc
      have hx := h64 _ (List.getElem_mem hlt)
      have HT := Lib.hid (widL_take l k hlt)
      obtain ⟨x, hxe⟩ : ∃ x, x = l[k] := ⟨_, rfl⟩
      rw [← hxe] at hc hx HT
      clear hxe
      go_wp2_with (go_at_call 42; refine (ref_width x hx _).mono ?_; rintro e w' ⟨rfl, rfl⟩)
      go_round
      case rel => exact ⟨k + 1, by omega, by go_num, by rw [HT.out]; first | rw [int_max] | (congr 1; split <;> omega)⟩
      case measure => simp [intOf]; omega
    · go_wp2
      go_ret
      exact ⟨ret_int (by rw [List.take_of_length_le (by omega)]), rfl⟩

theorem refBitsPut_no (A : Option Addr) (n c : Nat) (l : List Nat) (k : Int) (w : World) (B : Nat) (hn : n = l.length) (hr : Rd w B A (ints .u64 l)) (hl : l.length ≤ 1000) (h64 : ∀ x ∈ l, x < 18446744073709551616)
    (h : k < 0 ∨ 64 < k ∨ k < widL l) :
    Calls Tryz.prog 41 #[.slice A n c, .int .i64 k] w fun e w' => e = .returned (.tuple #[.slice none 0 0, .bool false]) ∧ w = w' := by
  subst hn
  have HW := Lib.hid (ref_Width A l.length c l (widL l) w B rfl rfl hr (by omega) h64)
  clear hr
  rcases Int.lt_or_le k 0 with h1 | h1
  · go_enter Tryz.func41, Tryz.ntmps41
    go_wp2_with fail
    go_ret2
    exact ⟨rfl, rfl⟩
  · rcases Int.lt_or_le 64 k with h2 | h2
    · go_enter Tryz.func41, Tryz.ntmps41
      go_wp2_with fail
      go_ret2
      exact ⟨rfl, rfl⟩
    · have h3 : k < widL l := by omega
      clear h
      go_enter Tryz.func41, Tryz.ntmps41
      go_wp2_with (go_at_call 43; refine HW.out.mono ?_; rintro e w' ⟨rfl, rfl⟩)
      go_ret2
      exact ⟨rfl, rfl⟩

theorem refBitsPut_yes (A : Option Addr) (n c : Nat) (l : List Nat) (z : Int) (k m g : Nat) (w : World) (hn : n = l.length) (hz : z = (k : Int)) (hm : m = (l.length * k + 7) / 8) (hg : g = w.heap.size)
    (hr : Rd w g A (ints .u64 l)) (hl : l.length ≤ 1000) (h64 : ∀ x ∈ l, x < 18446744073709551616) (hk : k ≤ 64) (hw : widL l ≤ k) :
    Calls Tryz.prog 41 #[.slice A n c, .int .i64 z] w fun e w' => e = .returned (.tuple #[.slice (some ⟨g, 0, none⟩) m m, .bool true]) ∧ Row w' g 5 .u8 (chop 8 (cat k l) m) ∧ Below g w w' := by
  subst hn hz hg
  have HW := Lib.hid (ref_Width A l.length c l (widL l) w _ rfl rfl hr (by omega) h64)
  have hlk : l.length * k ≤ 64000 := Nat.le_trans (Nat.mul_le_mul hl hk) (by decide)
  have h1 : (l.length : Int) * (k : Int) ≤ 64000 := by have := Int.ofNat_le.2 hlk; simpa using this
  have h0 : 0 ≤ (l.length : Int) * (k : Int) := Int.mul_nonneg (by omega) (by omega)
  have hme : ((l.length : Int) * (k : Int) + 7) / 8 = (m : Int) := by rw [hm]; simp
  have hm8 : m ≤ 8001 := by omega
  have HR := Lib.hid hr
  have HM := Lib.hid hm
  clear hr hm
  have hmk := fun W => run_make_row' (P := Tryz.prog) 22 5 (.int .u8 0) 1 Tryz.underlying22 info_u8 rfl .i64 .i64 m (by omega) (by omega) W
  go_enter Tryz.func41, Tryz.ntmps41
  go_wp2_with (go_at_call 43; refine HW.out.mono ?_; rintro e w' ⟨rfl, rfl⟩)
  have hxl : ∀ x ∈ l, x < 2 ^ k := (widL_le l k).1 hw
  have HXL := Lib.hid hxl
  clear hxl hmk HW
  go_loopw [7] (fun i wr => ∃ j : Nat, j ≤ l.length ∧ i = .int .i64 j ∧ Row wr w.heap.size 5 .u8 (chop 8 (cat k (l.take j)) m) ∧ Below w.heap.size w wr) (fun i _ => l.length - (intOf i).toNat)
  case atStart =>
    refine ⟨0, Nat.zero_le _, rfl, ?_, (Below.refl _ _).alloc (Nat.le_refl _) _⟩
    rw [List.take_zero, show cat k [] = 0 from rfl, chop_zero]
    exact Row.made w _ .u8 m
  case round =>
    obtain ⟨j, hj, rfl, hrow, hbel⟩ := hrel
    by_cases hlt : j < l.length
    · obtain ⟨b, off, rfl, hb, hc⟩ := (HR.out.below hbel).at_ (k := j) (by rw [ints_length]; exact hlt)
      simp only [ints, List.getElem_map] at hc
      have hx := h64 _ (List.getElem_mem hlt)
      have HC := Lib.hid (cat_snoc k j l hlt)
      have HX := Lib.hid (HXL.out _ (List.getElem_mem hlt))
      have hjk : (j + 1) * k ≤ l.length * k := Nat.mul_le_mul_right _ hlt
      have hjs : (j + 1) * k = j * k + k := Nat.succ_mul j k
      obtain ⟨p, hp⟩ : ∃ p, p = j * k := ⟨_, rfl⟩
      have hpe : (j : Int) * (k : Int) = (p : Int) := by rw [hp]; simp
      have hpk : p + k ≤ l.length * k := by omega
      obtain ⟨x, hxe⟩ : ∃ x, x = l[j] := ⟨_, rfl⟩
      rw [← hxe] at hc hx HC HX
      rw [← hp] at HC
      have HM0 := Lib.hid (by have := cat_take_lt k j l HXL.out hj; rwa [← hp] at this)
      obtain ⟨M, hM⟩ : ∃ M, M = cat k (l.take j) := ⟨_, rfl⟩
      rw [← hM] at HC hrow HM0
      clear hxe hp hjs hjk hM
      have HROW := Lib.hid hrow
      have HBEL := Lib.hid hbel
      clear hrow hbel
      go_wp2_with fail
      have hpm : p + k ≤ 8 * m := by have := HM.out; omega
      go_loopw [9, 8] (fun q u wi => ∃ i : Nat, i ≤ k ∧ q = .int .i64 i ∧ u = .int .u64 (x / 2 ^ i : Nat) ∧ Row wi w.heap.size 5 .u8 (chop 8 (M + (x % 2 ^ i) * 2 ^ p) m) ∧ Below w.heap.size w wi) (fun q _ _ => k - (intOf q).toNat)
      case atStart => exact ⟨0, Nat.zero_le _, rfl, by simp, by simpa [Nat.mod_one] using HROW.out, HBEL.out⟩
      case round =>
        obtain ⟨i, hi, rfl, rfl, hrow, hbel⟩ := hrel
        by_cases hik : i < k
        · have hq : (p + i) / 8 < m := by omega
          have hcell := hrow.cell ((p + i) / 8) (by rw [chop_length]; exact hq)
          have hy := chop_lt 8 m (M + (x % 2 ^ i) * 2 ^ p) _ (List.getElem_mem (by rw [chop_length]; exact hq))
          have hfr := hrow.frozen ((p + i) / 8)
          obtain ⟨y, hye⟩ : ∃ y, y = (chop 8 (M + (x % 2 ^ i) * 2 ^ p) m)[(p + i) / 8]'(by rw [chop_length]; exact hq) := ⟨_, rfl⟩
          rw [← hye] at hcell hy
          have HY := Lib.hid hye
          have HROWI := Lib.hid hrow
          have HBELI := Lib.hid hbel
          have hv : x / 2 ^ i < 18446744073709551616 := shr_lt _ _ hx
          obtain ⟨v, hve⟩ : ∃ v, v = x / 2 ^ i := ⟨_, rfl⟩
          rw [← hve] at hv ⊢
          have HV := Lib.hid hve
          clear hye hrow hbel hve
          go_wp2_with fail
          go_region
          go_wp2
          go_roundw
          case rel =>
            refine ⟨i + 1, hik, by go_num, by rw [HV.out, Nat.pow_succ, ← Nat.div_div_eq_div_mul]; simp, ?_, (HBELI.out.setCell (Nat.le_refl _) _).drew⟩
            refine Row.drew (HROWI.out.set' _ ((y + v % 2 * 2 ^ ((p + i) % 8)) % 256) _ (by simp) _ ?_)
            rw [HV.out]
            exact refStep M x p i m y HM0.out (by rw [HY.out, chop_get])
          case measure => simp [intOf]; omega
        · have hie : i = k := by omega
          subst hie
          rw [Nat.mod_eq_of_lt HX.out, ← HC.out] at hrow
          have HROWI := Lib.hid hrow
          have HBELI := Lib.hid hbel
          clear hrow hbel
          go_wp2
          go_roundw
          case rel => exact ⟨j + 1, hlt, by go_num, HROWI.out, HBELI.out⟩
          case measure => simp [intOf]; omega
    · have hfin : l.take j = l := List.take_of_length_le (by omega)
      rw [hfin] at hrow
      have HRow := Lib.hid hrow
      have HB := Lib.hid hbel
      clear hrow hbel hfin
      go_wp2
      go_ret2
      exact ⟨rfl, HRow.out, HB.out⟩
end Go.Proofs.YtfcedbhmbcbiaaaGreatDoor

/- Walks of the document's answer for bits: TakeBits. -/

namespace Go.Proofs.YtfcedbhmbcbiaaaGreatDoor
open Go.RowKit
set_option linter.unusedVariables false

theorem run_cv' (A : Option Addr) (n c : Nat) (l : List Nat) (hn : n = l.length) (w : World) (B : Nat) (hr : Rd w B A (ints .u8 l)) :
    (convert 22 9 (.slice A n c)).run Tryz.prog w = .ok (.string (bstr l)) w :=
  run_bstr 22 5 9 Tryz.underlying22 Tryz.underlying5 Tryz.underlying9 A n c l hn w B hr

theorem refBitsTake_arg (A : Option Addr) (m c : Nat) (n k : Int) (w : World) (h : n < 0 ∨ 1000 < n ∨ k < 0 ∨ 64 < k) :
    Calls Tryz.prog 72 #[.slice A m c, .int .i64 n, .int .i64 k] w fun e w' => e = .returned (.tuple #[.slice none 0 0, .bool false]) ∧ w = w' := by
  rcases Int.lt_or_le n 0 with h1 | h1
  · go_enter Tryz.func72, Tryz.ntmps72
    go_wp2_with fail
    go_ret2
    exact ⟨rfl, rfl⟩
  · rcases Int.lt_or_le 1000 n with h2 | h2
    · go_enter Tryz.func72, Tryz.ntmps72
      go_wp2_with fail
      go_ret2
      exact ⟨rfl, rfl⟩
    · rcases Int.lt_or_le k 0 with h3 | h3
      · go_enter Tryz.func72, Tryz.ntmps72
        go_wp2_with fail
        go_ret2
        exact ⟨rfl, rfl⟩
      · have h4 : 64 < k := by omega
        clear h
        go_enter Tryz.func72, Tryz.ntmps72
        go_wp2_with fail
        go_ret2
        exact ⟨rfl, rfl⟩

theorem refBitsTake_len (A : Option Addr) (m c : Nat) (n k : Nat) (w : World) (hn : n ≤ 1000) (hk : k ≤ 64) (h : m ≠ (n * k + 7) / 8) (hm : m ≤ 1000000) :
    Calls Tryz.prog 72 #[.slice A m c, .int .i64 n, .int .i64 k] w fun e w' => e = .returned (.tuple #[.slice none 0 0, .bool false]) ∧ w = w' := by
  have hnk : n * k ≤ 64000 := Nat.le_trans (Nat.mul_le_mul hn hk) (by decide)
  have h1 : (n : Int) * (k : Int) ≤ 64000 := by have := Int.ofNat_le.2 hnk; simpa using this
  have h0 : 0 ≤ (n : Int) * (k : Int) := Int.mul_nonneg (by omega) (by omega)
  obtain ⟨q, hq⟩ : ∃ q, q = (n * k + 7) / 8 := ⟨_, rfl⟩
  have hqe : ((n : Int) * (k : Int) + 7) / 8 = (q : Int) := by rw [hq]; simp
  rw [← hq] at h
  clear hq
  have hne : ((m : Int) != (q : Int)) = true := by rw [bne_iff_ne]; omega
  go_enter Tryz.func72, Tryz.ntmps72
  go_wp2_with fail
  go_ret2
  exact ⟨rfl, rfl⟩

theorem takeVal (y x s : Nat) (hy : y < 9223372036854775808) : IntKind.u64.wrap (2 * (y : Int) + IntKind.u64.wrap (((x : Int) / 2 ^ s).tmod 2)) = ((2 * y + x / 2 ^ s % 2 : Nat) : Int) := by
  rw [cast_shr]
  generalize x / 2 ^ s = z
  rw [Int.tmod_eq_emod_of_nonneg (by omega), IntKind.wrap_u64, IntKind.wrap_u64]
  omega

set_option maxHeartbeats 1000000 in
theorem refBitsTake_body (ok : Bool) (A : Option Addr) (c : Nat) (l : List Nat) (n k : Nat) (w : World) (hr : Rd w w.heap.size A (ints .u8 l)) (h256 : ∀ x ∈ l, x < 256) (hn : n ≤ 1000) (hk : k ≤ 64) (hl : l.length = (n * k + 7) / 8) (hok : ok = decide (cat 8 l < 2 ^ (n * k))) :
    Calls Tryz.prog 72 #[.slice A l.length c, .int .i64 n, .int .i64 k] w fun e w' => (ok = true → e = .returned (.tuple #[.slice (some ⟨w.heap.size, 0, none⟩) n n, .bool true]) ∧
      Row w' w.heap.size 54 .u64 (chop k (cat 8 l) n)) ∧ (ok = false → e = .returned (.tuple #[.slice none 0 0, .bool false])) ∧ Below w.heap.size w w' := by
  have hnk : n * k ≤ 64000 := Nat.le_trans (Nat.mul_le_mul hn hk) (by decide)
  have h1 : (n : Int) * (k : Int) ≤ 64000 := by have := Int.ofNat_le.2 hnk; simpa using this
  have h0 : 0 ≤ (n : Int) * (k : Int) := Int.mul_nonneg (by omega) (by omega)
  have hle : ((n : Int) * (k : Int) + 7) / 8 = (l.length : Int) := by rw [hl]; simp
  have hne : ((l.length : Int) != (l.length : Int)) = false := by simp
  have hl8 : l.length ≤ 8001 := by omega
  have HLEN := Lib.hid hl
  have HR := Lib.hid hr
  have HOK := Lib.hid hok
  clear hr hl hok
  have hmk := fun W => run_make_row' (P := Tryz.prog) 68 54 (.int .u64 0) 8 Tryz.underlying68 info_u64 rfl .i64 .i64 n (by omega) (by omega) W
  go_enter Tryz.func72, Tryz.ntmps72
  go_wp2_with fail
  clear hmk
  obtain ⟨L, hL⟩ : ∃ L, L = chop k (cat 8 l) n := ⟨_, rfl⟩
  have hLn : L.length = n := by rw [hL, chop_length]
  have HLn := Lib.hid hLn
  have HL := Lib.hid hL
  clear hLn hL
  go_loopw [9] (fun i wr => ∃ j : Nat, j ≤ n ∧ i = .int .i64 j ∧ Row wr w.heap.size 54 .u64 (L.take j ++ List.replicate (n - j) 0) ∧ Below w.heap.size w wr) (fun i _ => n - (intOf i).toNat)
  case atStart =>
    refine ⟨0, Nat.zero_le _, rfl, ?_, (Below.refl _ _).alloc (Nat.le_refl _) _⟩
    simp only [List.take_zero, List.nil_append, Nat.sub_zero]
    exact Row.made w _ .u64 n
  case round =>
    obtain ⟨j, hj, rfl, hrow, hbel⟩ := hrel
    have HROW := Lib.hid hrow
    have HBEL := Lib.hid hbel
    clear hrow hbel
    by_cases hlt : j < n
    · have hjk : (j + 1) * k ≤ n * k := Nat.mul_le_mul_right _ hlt
      have hjs : (j + 1) * k = j * k + k := Nat.succ_mul j k
      obtain ⟨p, hp⟩ : ∃ p, p = j * k := ⟨_, rfl⟩
      have hpe : (j : Int) * (k : Int) = (p : Int) := by rw [hp]; simp
      have hpk : p + k ≤ n * k := by omega
      have HP := Lib.hid hp
      clear hp hjs hjk
      go_wp2_with fail
      go_loopw [10] (fun q wi => ∃ t : Nat, t ≤ k ∧ q = .int .i64 ((t : Int) - 1) ∧ Row wi w.heap.size 54 .u64 ((L.take j ++ List.replicate (n - j) 0).set j (cat 8 l / 2 ^ (p + t) % 2 ^ (k - t))) ∧ Below w.heap.size w wi) (fun q _ => (intOf q + 1).toNat)
      case atStart =>
        refine ⟨k, Nat.le_refl _, rfl, ?_, HBEL.out⟩
        rw [Nat.sub_self, Nat.pow_zero, Nat.mod_one, set_same L j n HLn.out hlt]
        exact HROW.out
      case round =>
        obtain ⟨t, ht, rfl, hrow, hbel⟩ := hrel
        rcases t with _ | t
        · have e1 : ((0 : Nat) : Int) - 1 = -1 := rfl
          rw [e1]
          rw [Nat.add_zero, Nat.sub_zero] at hrow
          have hx : cat 8 l / 2 ^ p % 2 ^ k = L[j]'(by have := HLn.out; omega) := by
            have e := HL.out
            subst e
            rw [chop_get, HP.out, Nat.mul_comm]
          rw [set_fill L j n HLn.out hlt _ hx] at hrow
          have HROWI := Lib.hid hrow
          have HBELI := Lib.hid hbel
          clear hrow hbel hx
          go_wp2_with fail
          go_roundw
          case rel => exact ⟨j + 1, hlt, by go_num, HROWI.out, HBELI.out⟩
          case measure => simp [intOf]; omega
        · have e1 : ((t + 1 : Nat) : Int) - 1 = (t : Int) := by omega
          rw [e1]
          have hq : (p + t) / 8 < l.length := by have := HLEN.out; omega
          obtain ⟨b, off, rfl, hb, hc⟩ := (HR.out.below hbel).at_ (k := (p + t) / 8) (by rw [ints_length]; exact hq)
          simp only [ints, List.getElem_map] at hc
          have hx := h256 _ (List.getElem_mem hq)
          have HX := Lib.hid (cat_get 8 l h256 ((p + t) / 8) hq)
          obtain ⟨x, hxe⟩ : ∃ x, x = l[(p + t) / 8] := ⟨_, rfl⟩
          rw [← hxe] at hc hx HX
          clear hxe
          have hcell := hrow.cell j (by simp; have := HLn.out; omega)
          simp only [List.getElem_set_self] at hcell
          have hfr := hrow.frozen j
          have hold : cat 8 l / 2 ^ (p + (t + 1)) % 2 ^ (k - (t + 1)) < 9223372036854775808 := Nat.lt_of_lt_of_le (Nat.mod_lt _ (Nat.two_pow_pos _)) (pow_le64 k t hk)
          have HN := Lib.hid (refTakeStep (cat 8 l) p t k (by omega))
          obtain ⟨y, hy⟩ : ∃ y, y = cat 8 l / 2 ^ (p + (t + 1)) % 2 ^ (k - (t + 1)) := ⟨_, rfl⟩
          rw [← hy] at hcell hold HN hrow
          have HROWI := Lib.hid hrow
          have HBELI := Lib.hid hbel
          clear hrow hbel hy
          go_wp2_with fail
          go_region
          go_wp2
          go_roundw
          case rel =>
            refine ⟨t, by omega, rfl, ?_, (HBELI.out.setCell (Nat.le_refl _) _).drew⟩
            refine Row.drew (HROWI.out.set' j _ _ (takeVal y x ((p + t) % 8) hold) _ ?_)
            rw [List.set_set, HX.out, refBit _ _ _ (by omega), show 8 * ((p + t) / 8) + (p + t) % 8 = p + t by omega, HN.out]
          case measure => simp [intOf]
    · have hfin : L.take j ++ List.replicate (n - j) 0 = chop k (cat 8 l) n := by
        rw [show n - j = 0 by omega, List.replicate_zero, List.append_nil, List.take_of_length_le (by have := HLn.out; omega), HL.out]
      have hrow := HROW.out
      rw [hfin] at hrow
      have HRow := Lib.hid hrow
      clear hrow hfin HROW
      go_wp2_with fail
      refine (refBitsPut_yes (some ⟨w.heap.size, 0, none⟩) n n (chop k (cat 8 l) n) k k l.length wr.heap.size wr (by rw [chop_length]) rfl (by rw [chop_length]; exact HLEN.out) rfl HRow.out.rd (by rw [chop_length]; exact hn)
        (fun x hx => Nat.lt_of_lt_of_le (chop_lt k n _ x hx) (by have : 2 ^ k ≤ 2 ^ 64 := Nat.pow_le_pow_right (by omega) hk; simpa using this)) hk ((widL_le _ _).2 (chop_lt k n _))).mono ?_
      rintro e w1 ⟨rfl, r1, b1⟩
      have hg := HRow.out.lt
      have HRow1 := Lib.hid (HRow.out.below b1 hg)
      have HB1 := Lib.hid (HBEL.out.trans (b1.mono (by omega)))
      have hcv1 := run_cv' (some ⟨wr.heap.size, 0, none⟩) l.length l.length (chop 8 (cat k (chop k (cat 8 l) n)) l.length) (by rw [chop_length]) w1 _ r1.rd
      have hcv2 := run_cv' A l.length c l rfl w1 _ (HR.out.below HB1.out)
      obtain ⟨S2, hS2⟩ : ∃ S2, S2 = bstr l := ⟨_, rfl⟩
      cases ok
      · have hne : chop 8 (cat k (chop k (cat 8 l) n)) l.length ≠ l := fun h => by
          have := (again_iff l n k l.length h256 HLEN.out rfl).1 h
          have := HOK.out
          rw [decide_eq_true ‹_›] at this
          cases this
        obtain ⟨S1, hS1⟩ : ∃ S1, S1 = bstr (chop 8 (cat k (chop k (cat 8 l) n)) l.length) := ⟨_, rfl⟩
        have hSb : (S1.toList == S2.toList) = false := by rw [hS1, hS2]; exact bstr_ne (chop_lt 8 _ _) h256 hne
        rw [← hS1] at hcv1
        rw [← hS2] at hcv2
        clear hS1 hS2 r1 b1 hne
        go_wp2
        go_ret2
        exact ⟨rfl, HB1.out⟩
      · rw [(again_iff l n k l.length h256 HLEN.out rfl).2 (of_decide_eq_true HOK.out.symm), ← hS2] at hcv1
        rw [← hS2] at hcv2
        clear hS2 r1 b1
        go_wp2
        go_ret2
        exact ⟨⟨rfl, HRow1.out⟩, HB1.out⟩
end Go.Proofs.YtfcedbhmbcbiaaaGreatDoor
