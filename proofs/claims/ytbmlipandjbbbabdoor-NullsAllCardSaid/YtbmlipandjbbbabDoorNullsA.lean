/- Walks of package nulls: size, Put, Count. -/
import Derived.Test.YtbmlipandjbbbabDoorBools
import Derived.Test.YtbmlipandjbbbabDoorAt
import Derived.Test.YtbmlipandjbbbabDoorBitsMath
namespace Go.Proofs.YtbmlipandjbbbabDoor
open Go.RowKit
set_option linter.unusedVariables false

theorem size_any (n : Int) (w : World) (h0 : 0 ≤ n) (h1 : n ≤ 1000000000000) : Calls Tryd.prog 17 #[.int .i64 n] w fun e w' => e = .returned (.int .i64 ((n + 7) / 8)) ∧ w = w' := by
  go_enter Tryd.func17, Tryd.ntmps17
  go_wp2_with fail
  go_ret
  exact ⟨rfl, rfl⟩

/-- The bytes of bits. -/
def packN (l : List Bool) : List Nat := chop 8 (cat 1 (nbits l)) ((l.length + 7) / 8)
theorem packN_length (l : List Bool) : (packN l).length = (l.length + 7) / 8 := chop_length _ _ _
theorem packN_lt (l : List Bool) : ∀ x ∈ packN l, x < 256 := chop_lt 8 _ _
theorem take_bits (l : List Bool) (i : Nat) (h : i < l.length) : cat 1 ((nbits l).take (i + 1)) = cat 1 ((nbits l).take i) + (l[i]).toNat * 2 ^ i := by
  rw [cat_snoc 1 i _ (by rw [nbits_length]; exact h), nbits_get l i h, Nat.mul_one]
theorem take_bits_lt (l : List Bool) (i : Nat) (h : i ≤ l.length) : cat 1 ((nbits l).take i) < 2 ^ i := by
  have := cat_take_lt 1 i (nbits l) (nbits_lt l) (by rw [nbits_length]; exact h)
  rwa [Nat.mul_one] at this
theorem layBit (M q s n : Nat) (hs : s < 8) (hM : M < 2 ^ (8 * q + s)) (y : Nat) (hy : y = M / 2 ^ (8 * q) % 2 ^ 8) :
    (chop 8 M n).set q (y ||| 2 ^ s) = chop 8 (M + 2 ^ (8 * q + s)) n := by
  have h1 := layOr M 1 q s hs hM
  have h2 : 1 * 2 ^ s % 2 ^ 64 % 2 ^ 8 = 2 ^ s := by
    have h8 : s = 0 ∨ s = 1 ∨ s = 2 ∨ s = 3 ∨ s = 4 ∨ s = 5 ∨ s = 6 ∨ s = 7 := by omega
    rcases h8 with rfl | rfl | rfl | rfl | rfl | rfl | rfl | rfl <;> rfl
  rw [h2, ← hy, Nat.one_mul] at h1
  rw [h1]
  have h3 := laySet M 1 q s n hs hM
  rw [Nat.one_mul] at h3
  rw [h3, Nat.mod_eq_of_lt]
  have : 2 ^ (8 * q + s) * 2 ≤ 2 ^ (8 * (q + 1)) := by
    rw [← Nat.pow_succ]; exact Nat.pow_le_pow_right (by omega) (by omega)
  omega
theorem or_bit (y s : Nat) (hy : y < 256) (hs : s < 8) : bits .or .u8 (y : Int) (2 ^ s % 256) = ((y ||| 2 ^ s : Nat) : Int) := by
  have h8 : s = 0 ∨ s = 1 ∨ s = 2 ∨ s = 3 ∨ s = 4 ∨ s = 5 ∨ s = 6 ∨ s = 7 := by omega
  have e : ((2 : Int) ^ s % 256) = ((2 ^ s : Nat) : Int) := by
    rcases h8 with rfl | rfl | rfl | rfl | rfl | rfl | rfl | rfl <;> rfl
  have h : 2 ^ s < 256 := by rcases h8 with rfl | rfl | rfl | rfl | rfl | rfl | rfl | rfl <;> decide
  rw [e, u8_or_nat _ _ hy h]

set_option maxRecDepth 100000 in
set_option maxHeartbeats 1000000 in
theorem nullsPut_any (A : Option Addr) (n c : Nat) (l : List Bool) (w : World) (hn : n = l.length) (hr : Has w A (bools l)) (hl : l.length ≤ 1000000) :
    Calls Tryd.prog 10 #[.slice A n c] w fun e w' => e = .returned (.slice (some ⟨w.heap.size, 0, none⟩) ((l.length + 7) / 8) ((l.length + 7) / 8)) ∧ Row w' w.heap.size 5 .u8 (packN l) ∧ Later w w' := by
  subst hn
  obtain ⟨m, hm⟩ : ∃ m, m = (l.length + 7) / 8 := ⟨_, rfl⟩
  have hme : ((l.length : Int) + 7) / 8 = (m : Int) := by omega
  have hmk := fun W => run_make_row' (P := Tryd.prog) 23 5 (.int .u8 0) 1 Tryd.underlying23 info_u8 rfl .i64 .i64 m (by omega) (by omega) W
  have hm1 : m ≤ 1000000 := by omega
  have HM := Lib.hid hm
  have HSZ := Lib.hid (size_any (l.length : Int) w (by omega) (by omega))
  rw [← hm]
  rw [hme] at HSZ
  clear hm hme
  go_enter Tryd.func10, Tryd.ntmps10
  go_wp2_with (go_at_call 17; refine HSZ.out.mono ?_; rintro e w' ⟨rfl, rfl⟩)
  clear hmk HSZ
  obtain ⟨g, hg⟩ : ∃ g, g = w.heap.size := ⟨_, rfl⟩
  have HG := Lib.hid hg
  have R0 : Row (w.alloc (.cells (madeCells #[.int .u8 0] m) 5)) g 5 .u8 (chop 8 (cat 1 ((nbits l).take 0)) m) := by
    rw [hg, List.take_zero, show cat 1 [] = 0 from rfl, chop_zero]; exact Row.made w _ .u8 m
  rw [← hg]
  clear hg
  go_loopw [12] (fun i wr => ∃ k : Nat, k ≤ l.length ∧ i = .int .i64 k ∧ Row wr g 5 .u8 (chop 8 (cat 1 ((nbits l).take k)) m) ∧ Later w wr) (fun i _ => l.length - (intOf i).toNat)
  case atStart => exact ⟨0, Nat.zero_le _, rfl, R0, Later.new _ _⟩
  case round =>
    obtain ⟨k, hk, rfl, hrow, hlat⟩ := hrel
    by_cases hlt : k < l.length
    · obtain ⟨bb, off, hA, hbb, hc⟩ := (hr.later hlat).rd.at_ (k := k) (by rw [bools_length]; exact hlt)
      have hcell : wr.cell? ⟨bb, off + k, none⟩ = some (.bool l[k]) := by
        rw [hc]; simp [bools]
      subst hA
      have hnext := take_bits l k hlt
      have hMlt := take_bits_lt l k hk
      obtain ⟨x, hx⟩ : ∃ x, x = l[k] := ⟨_, rfl⟩
      rw [← hx] at hcell hnext
      obtain ⟨M, hM⟩ : ∃ M, M = cat 1 ((nbits l).take k) := ⟨_, rfl⟩
      rw [← hM] at hrow hnext hMlt
      have HN := Lib.hid hnext
      have HROW := Lib.hid hrow
      have HLAT := Lib.hid hlat
      clear hc hnext hx hM R0 hr
      cases x
      · clear hrow hlat
        go_wp2_with fail
        go_roundw
        case rel => exact ⟨k + 1, by omega, by go_num, by rw [HN.out]; simpa using HROW.out, HLAT.out⟩
        case measure => simp [intOf]; omega
      · obtain ⟨q, hq⟩ : ∃ q, q = k / 8 := ⟨_, rfl⟩
        obtain ⟨t, ht⟩ : ∃ t, t = k % 8 := ⟨_, rfl⟩
        have hkq : (k : Int) / 8 = (q : Int) := by omega
        have hkt : (k : Int) % 8 = (t : Int) := by omega
        have hqm : q < m := by have := HM.out; omega
        have hqm' : (q : Int) < (m : Int) := by omega
        have ht8 : t < 8 := by omega
        have hcq := hrow.cell q (by rw [chop_length]; exact hqm)
        rw [chop_get] at hcq
        obtain ⟨y, hy⟩ : ∃ y, y = M / 2 ^ (8 * q) % 2 ^ 8 := ⟨_, rfl⟩
        rw [← hy] at hcq
        have hy256 : y < 256 := by rw [hy]; exact Nat.mod_lt _ (by decide)
        have hfr := hrow.frozen q
        have hlay := layBit M q t m ht8 (by rw [show 8 * q + t = k by omega]; exact hMlt) y hy
        have horb := or_bit y t hy256 ht8
        have hset := hrow.set' q (y ||| 2 ^ t) _ horb _ hlay
        have hlat2 := hlat.set_ (p := ⟨g, q, none⟩) (by have := HG.out; simp; omega) (.int .u8 (bits .or .u8 (y : Int) (2 ^ t % 256)))
        have HSET := Lib.hid hset
        have HLAT2 := Lib.hid hlat2
        have HK := Lib.hid (show 8 * q + t = k by omega)
        clear hrow hlat hq ht hlay horb hset hlat2 hy hMlt
        go_wp2_with fail
        go_region
        go_wp2_with fail
        go_roundw
        case rel => exact ⟨k + 1, by omega, by go_num, by rw [HN.out]; have := HSET.out; rw [HK.out] at this; exact Row.drew (by simpa using this), HLAT2.out.drew⟩
        case measure => simp [intOf]; omega
    · obtain rfl : k = l.length := by omega
      have HROW := Lib.hid hrow
      have HLAT := Lib.hid hlat
      clear hrow hlat R0
      go_wp2_with fail
      go_ret
      have hg := HG.out
      subst hg
      refine ⟨rfl, ?_, HLAT.out⟩
      have h := HROW.out
      rw [List.take_of_length_le (by rw [nbits_length]; exact Nat.le_refl _)] at h
      unfold packN
      rw [← HM.out]
      exact h

theorem count_any (A : Option Addr) (n c : Nat) (l : List Bool) (w : World) (hn : n = l.length) (hr : Has w A (bools l)) (hl : l.length ≤ 1000000) :
    Calls Tryd.prog 13 #[.slice A n c] w fun e w' => e = .returned (.int .i64 (l.count true : Nat)) ∧ w = w' := by
  subst hn
  go_enter Tryd.func13, Tryd.ntmps13
  go_wp2_with fail
  go_loop [3, 8] (fun x i => ∃ k u : Nat, k ≤ l.length ∧ i = .int .i64 k ∧ x = .int .i64 u ∧ u = (l.take k).count true) (fun _ i => l.length - (intOf i).toNat)
  case atStart => exact ⟨0, 0, Nat.zero_le _, rfl, rfl, rfl⟩
  case round =>
    obtain ⟨k, u, hk, rfl, rfl, hu⟩ := hrel
    by_cases hlt : k < l.length
    · obtain ⟨bb, off, hA, hbb, hc⟩ := hr.rd.at_ (k := k) (by rw [bools_length]; exact hlt)
      have hcell : w.cell? ⟨bb, off + k, none⟩ = some (.bool l[k]) := by
        rw [hc]; simp [bools]
      subst hA
      have hnext : (l.take (k + 1)).count true = (l.take k).count true + (l[k]).toNat := by
        rw [List.take_succ_eq_append_getElem hlt, List.count_append]
        cases l[k] <;> rfl
      obtain ⟨x, hx⟩ : ∃ x, x = l[k] := ⟨_, rfl⟩
      rw [← hx] at hcell hnext
      rw [← hu] at hnext
      have hu2 : u ≤ 1000000 := by
        rw [hu]; exact Nat.le_trans List.count_le_length (by rw [List.length_take]; omega)
      have HN := Lib.hid hnext
      clear hc hnext hx hr hu
      cases x
      · go_wp2_with fail
        go_round
        case rel => exact ⟨k + 1, u, by omega, by go_num, rfl, by rw [HN.out]; rfl⟩
        case measure => simp [intOf]; omega
      · go_wp2_with fail
        go_round
        case rel => exact ⟨k + 1, u + 1, by omega, by go_num, by go_num, by rw [HN.out]; rfl⟩
        case measure => simp [intOf]; omega
    · obtain rfl : k = l.length := by omega
      have HU := Lib.hid hu
      clear hu hr
      go_wp2_with fail
      go_ret
      exact ⟨ret_int (by rw [HU.out, List.take_of_length_le (Nat.le_refl _)]), rfl⟩
end Go.Proofs.YtbmlipandjbbbabDoor
