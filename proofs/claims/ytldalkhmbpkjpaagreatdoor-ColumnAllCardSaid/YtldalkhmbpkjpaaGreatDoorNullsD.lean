
import Derived.Test.YtldalkhmbpkjpaaGreatDoorBase
import Derived.Test.YtldalkhmbpkjpaaGreatDoorNumB
import Derived.Test.YtldalkhmbpkjpaaGreatDoorNumMath
import Derived.Stop.IfaceNil
/- Walks of package nulls: size, Put, Count. -/

namespace Go.Proofs.YtldalkhmbpkjpaaGreatDoor
open Go.RowKit
set_option linter.unusedVariables false

theorem nullsSize_any (n : Int) (w : World) (h0 : 0 ≤ n) (h1 : n ≤ 1000000000000) : Calls Tryz.prog 50 #[.int .i64 n] w fun e w' => e = .returned (.int .i64 ((n + 7) / 8)) ∧ w = w' := by
  go_enter Tryz.func50, Tryz.ntmps50
  go_wp2_with fail
  go_ret
  exact ⟨rfl, rfl⟩

/-- The bytes of bits. -/
def packN (l : List Bool) : List Nat := chop 8 (cat 1 (nbits l)) ((l.length + 7) / 8)
theorem packN_length (l : List Bool) : (packN l).length = (l.length + 7) / 8 := chop_length _ _ _
theorem packN_lt (l : List Bool) : ∀ x ∈ packN l, x < 256 := chop_lt 8 _ _
theorem take_bits (l : List Bool) (i : Nat) (h : i < l.length) : cat 1 ((nbits l).take (i + 1)) = cat 1 ((nbits l).take i) + (l[i]).toNat * 2 ^ i := by
  rw [cat_snoc 1 i _ (by rw [nbits_length]; exact h), nbits_get l i h, Nat.mul_one]
theorem take_bits_lt (l : List Bool) (i : Nat) (h : i ≤ l.length) : cat 1 ((nbits l).take i) < 2 ^ i := by
  have := cat_take_lt 1 i (nbits l) (nbits_lt l) (by rw [nbits_length]; exact h)
  rwa [Nat.mul_one] at this
theorem layBit (M q s n : Nat) (hs : s < 8) (hM : M < 2 ^ (8 * q + s)) (y : Nat) (hy : y = M / 2 ^ (8 * q) % 2 ^ 8) :
    (chop 8 M n).set q (y ||| 2 ^ s) = chop 8 (M + 2 ^ (8 * q + s)) n := by
  have h1 := layOr M 1 q s hs hM
  have h2 : 1 * 2 ^ s % 2 ^ 64 % 2 ^ 8 = 2 ^ s := by
    have h8 : s = 0 ∨ s = 1 ∨ s = 2 ∨ s = 3 ∨ s = 4 ∨ s = 5 ∨ s = 6 ∨ s = 7 := by omega
    rcases h8 with rfl | rfl | rfl | rfl | rfl | rfl | rfl | rfl <;> rfl
  rw [h2, ← hy, Nat.one_mul] at h1
  rw [h1]
  have h3 := laySet M 1 q s n hs hM
  rw [Nat.one_mul] at h3
  rw [h3, Nat.mod_eq_of_lt]
  have : 2 ^ (8 * q + s) * 2 ≤ 2 ^ (8 * (q + 1)) := by
    rw [← Nat.pow_succ]; exact Nat.pow_le_pow_right (by omega) (by omega)
  omega
theorem or_bit (y s : Nat) (hy : y < 256) (hs : s < 8) : bits .or .u8 (y : Int) (2 ^ s % 256) = ((y ||| 2 ^ s : Nat) : Int) := by
  have h8 : s = 0 ∨ s = 1 ∨ s = 2 ∨ s = 3 ∨ s = 4 ∨ s = 5 ∨ s = 6 ∨ s = 7 := by omega
  have e : ((2 : Int) ^ s % 256) = ((2 ^ s : Nat) : Int) := by
    rcases h8 with rfl | rfl | rfl | rfl | rfl | rfl | rfl | rfl <;> rfl
  have h : 2 ^ s < 256 := by rcases h8 with rfl | rfl | rfl | rfl | rfl | rfl | rfl | rfl <;> decide
  rw [e, u8_or_nat _ _ hy h]

set_option maxRecDepth 100000 in
set_option maxHeartbeats 1000000 in
theorem nullsPut_any (A : Option Addr) (n c : Nat) (l : List Bool) (w : World) (hn : n = l.length) (hr : Has w A (bools l)) (hl : l.length ≤ 1000000) :
    Calls Tryz.prog 29 #[.slice A n c] w fun e w' => e = .returned (.slice (some ⟨w.heap.size, 0, none⟩) ((l.length + 7) / 8) ((l.length + 7) / 8)) ∧ Row w' w.heap.size 5 .u8 (packN l) ∧ Later w w' := by
  subst hn
  obtain ⟨m, hm⟩ : ∃ m, m = (l.length + 7) / 8 := ⟨_, rfl⟩
  have hme : ((l.length : Int) + 7) / 8 = (m : Int) := by omega
  have hmk := fun W => run_make_row' (P := Tryz.prog) 22 5 (.int .u8 0) 1 Tryz.underlying22 info_u8 rfl .i64 .i64 m (by omega) (by omega) W
  have hm1 : m ≤ 1000000 := by omega
  have HM := Lib.hid hm
  have HSZ := Lib.hid (nullsSize_any (l.length : Int) w (by omega) (by omega))
  rw [← hm]
  rw [hme] at HSZ
  clear hm hme
  go_enter Tryz.func29, Tryz.ntmps29
  go_wp2_with (go_at_call 50; refine HSZ.out.mono ?_; rintro e w' ⟨rfl, rfl⟩)
  clear hmk HSZ
  obtain ⟨g, hg⟩ : ∃ g, g = w.heap.size := ⟨_, rfl⟩
  have HG := Lib.hid hg
  have R0 : Row (w.alloc (.cells (madeCells #[.int .u8 0] m) 5)) g 5 .u8 (chop 8 (cat 1 ((nbits l).take 0)) m) := by
    rw [hg, List.take_zero, show cat 1 [] = 0 from rfl, chop_zero]; exact Row.made w _ .u8 m
  rw [← hg]
  clear hg
  go_loopw [12] (fun i wr => ∃ k : Nat, k ≤ l.length ∧ i = .int .i64 k ∧ Row wr g 5 .u8 (chop 8 (cat 1 ((nbits l).take k)) m) ∧ Later w wr) (fun i _ => l.length - (intOf i).toNat)
  case atStart => exact ⟨0, Nat.zero_le _, rfl, R0, Later.new _ _⟩
  case round =>
    obtain ⟨k, hk, rfl, hrow, hlat⟩ := hrel
    by_cases hlt : k < l.length
    · obtain ⟨bb, off, hA, hbb, hc⟩ := (hr.later hlat).rd.at_ (k := k) (by rw [bools_length]; exact hlt)
      have hcell : wr.cell? ⟨bb, off + k, none⟩ = some (.bool l[k]) := by
        rw [hc]; simp [bools]
      subst hA
      have hnext := take_bits l k hlt
      have hMlt := take_bits_lt l k hk
      obtain ⟨x, hx⟩ : ∃ x, x = l[k] := ⟨_, rfl⟩
      rw [← hx] at hcell hnext
      obtain ⟨M, hM⟩ : ∃ M, M = cat 1 ((nbits l).take k) := ⟨_, rfl⟩
      rw [← hM] at hrow hnext hMlt
      have HN := Lib.hid hnext
      have HROW := Lib.hid hrow
      have HLAT := Lib.hid hlat
      clear hc hnext hx hM R0 hr
      cases x
      · clear hrow hlat
        go_wp2_with fail
        go_roundw
        case rel => exact ⟨k + 1, by omega, by go_num, by rw [HN.out]; simpa using HROW.out, HLAT.out⟩
        case measure => simp [intOf]; omega
      · obtain ⟨q, hq⟩ : ∃ q, q = k / 8 := ⟨_, rfl⟩
        obtain ⟨t, ht⟩ : ∃ t, t = k % 8 := ⟨_, rfl⟩
        have hkq : (k : Int) / 8 = (q : Int) := by omega
        have hkt : (k : Int) % 8 = (t : Int) := by omega
        have hqm : q < m := by have := HM.out; omega
        have hqm' : (q : Int) < (m : Int) := by omega
        have ht8 : t < 8 := by omega
        have hcq := hrow.cell q (by rw [chop_length]; exact hqm)
        rw [chop_get] at hcq
        obtain ⟨y, hy⟩ : ∃ y, y = M / 2 ^ (8 * q) % 2 ^ 8 := ⟨_, rfl⟩
        rw [← hy] at hcq
        have hy256 : y < 256 := by rw [hy]; exact Nat.mod_lt _ (by decide)
        have hfr := hrow.frozen q
        have hlay := layBit M q t m ht8 (by rw [show 8 * q + t = k by omega]; exact hMlt) y hy
        have horb := or_bit y t hy256 ht8
        have hset := hrow.set' q (y ||| 2 ^ t) _ horb _ hlay
        have hlat2 := hlat.set_ (p := ⟨g, q, none⟩) (by have := HG.out; simp; omega) (.int .u8 (bits .or .u8 (y : Int) (2 ^ t % 256)))
        have HSET := Lib.hid hset
        have HLAT2 := Lib.hid hlat2
        have HK := Lib.hid (show 8 * q + t = k by omega)
        clear hrow hlat hq ht hlay horb hset hlat2 hy hMlt
        go_wp2_with fail
        go_region
        go_wp2_with fail
        go_roundw
        case rel => exact ⟨k + 1, by omega, by go_num, by rw [HN.out]; have := HSET.out; rw [HK.out] at this; exact Row.drew (by simpa using this), HLAT2.out.drew⟩
        case measure => simp [intOf]; omega
    · obtain rfl : k = l.length := by omega
      have HROW := Lib.hid hrow
      have HLAT := Lib.hid hlat
      clear hrow hlat R0
      go_wp2_with fail
      go_ret
      have hg := HG.out
      subst hg
      refine ⟨rfl, ?_, HLAT.out⟩
      have h := HROW.out
      rw [List.take_of_length_le (by rw [nbits_length]; exact Nat.le_refl _)] at h
      unfold packN
      rw [← HM.out]
      exact h

theorem count_any (A : Option Addr) (n c : Nat) (l : List Bool) (w : World) (hn : n = l.length) (hr : Has w A (bools l)) (hl : l.length ≤ 1000000) :
    Calls Tryz.prog 45 #[.slice A n c] w fun e w' => e = .returned (.int .i64 (l.count true : Nat)) ∧ w = w' := by
  subst hn
  go_enter Tryz.func45, Tryz.ntmps45
  go_wp2_with fail
  go_loop [3, 8] (fun x i => ∃ k u : Nat, k ≤ l.length ∧ i = .int .i64 k ∧ x = .int .i64 u ∧ u = (l.take k).count true) (fun _ i => l.length - (intOf i).toNat)
  case atStart => exact ⟨0, 0, Nat.zero_le _, rfl, rfl, rfl⟩
  case round =>
    obtain ⟨k, u, hk, rfl, rfl, hu⟩ := hrel
    by_cases hlt : k < l.length
    · obtain ⟨bb, off, hA, hbb, hc⟩ := hr.rd.at_ (k := k) (by rw [bools_length]; exact hlt)
      have hcell : w.cell? ⟨bb, off + k, none⟩ = some (.bool l[k]) := by
        rw [hc]; simp [bools]
      subst hA
      have hnext : (l.take (k + 1)).count true = (l.take k).count true + (l[k]).toNat := by
        rw [List.take_succ_eq_append_getElem hlt, List.count_append]
        cases l[k] <;> rfl
      obtain ⟨x, hx⟩ : ∃ x, x = l[k] := ⟨_, rfl⟩
      rw [← hx] at hcell hnext
      rw [← hu] at hnext
      have hu2 : u ≤ 1000000 := by
        rw [hu]; exact Nat.le_trans List.count_le_length (by rw [List.length_take]; omega)
      have HN := Lib.hid hnext
      clear hc hnext hx hr hu
      cases x
      · go_wp2_with fail
        go_round
        case rel => exact ⟨k + 1, u, by omega, by go_num, rfl, by rw [HN.out]; rfl⟩
        case measure => simp [intOf]; omega
      · go_wp2_with fail
        go_round
        case rel => exact ⟨k + 1, u + 1, by omega, by go_num, by go_num, by rw [HN.out]; rfl⟩
        case measure => simp [intOf]; omega
    · obtain rfl : k = l.length := by omega
      have HU := Lib.hid hu
      clear hu hr
      go_wp2_with fail
      go_ret
      exact ⟨ret_int (by rw [HU.out, List.take_of_length_le (Nat.le_refl _)]), rfl⟩
end Go.Proofs.YtldalkhmbpkjpaaGreatDoor

/- Walks of package nulls: check. -/

namespace Go.Proofs.YtldalkhmbpkjpaaGreatDoor
open Go.RowKit
set_option linter.unusedVariables false

/-- A sentinel's variable holds a pointer to a block of its own. -/
def SentAt (w : World) (g : Nat) (a : Addr) : Prop := CellIs w ⟨g, 0, none⟩ (.iface 164 (.pointer (some a))) ∧ ∃ c t, Blk w a.block c t
theorem SentAt.later {w w' : World} {g : Nat} {a : Addr} (h : SentAt w g a) (l : Later w w') : SentAt w' g a := by
  obtain ⟨h1, c, t, h2⟩ := h
  exact ⟨h1.later l, c, t, h2.later l⟩
theorem SentAt.cell {w : World} {g : Nat} {a : Addr} (h : SentAt w g a) : w.cell? ⟨g, 0, none⟩ = some (.iface 164 (.pointer (some a))) := h.1
/-- The two sentinels of this layer. -/
def Sn (w : World) (aB aS : Addr) : Prop := SentAt w 3 aB ∧ SentAt w 4 aS ∧ aB ≠ aS
theorem Sn.later {w w' : World} {aB aS : Addr} (h : Sn w aB aS) (l : Later w w') : Sn w' aB aS := ⟨h.1.later l, h.2.1.later l, h.2.2⟩

/-- A call that tells an error that wraps a sentinel. -/
def WrapPost (a : Addr) (w : World) (e : Ending) (w' : World) : Prop :=
  ∃ pb, e = .returned (.iface 82 (.pointer (some ⟨pb, 0, none⟩))) ∧ CellIs w' ⟨pb, 0 + 2, none⟩ (.iface 164 (.pointer (some a))) ∧ Later w w'
theorem wrapPost_new (a : Addr) (w : World) (s : ByteArray) (p : Int) : WrapPost a w (.returned (.iface 82 (.pointer (some ⟨w.heap.size, 0, none⟩)))) (w.alloc (.cells #[.string s, .int .i64 p, .iface 164 (.pointer (some a))] 84)) :=
  ⟨w.heap.size, rfl, CellIs.new _ _ _ _ 2 _ rfl rfl, Later.new _ _⟩

/-- What nulls.Take takes. -/
def NullsOK (b : List Nat) (n : Nat) : Prop := b.length = (n + 7) / 8 ∧ cat 8 b < 2 ^ n

set_option maxRecDepth 100000 in
theorem check_arg (A : Option Addr) (m c : Nat) (n : Int) (aB aS : Addr) (w : World) (hs : Sn w aB aS) (h : n < 0 ∨ 1000 < n) :
    Calls Tryz.prog 77 #[.slice A m c, .int .i64 n] w (WrapPost aB w) := by
  have hg := hs.1.cell
  have HW := Lib.hid (fun s p => wrapPost_new aB w s p)
  have h2 : n < 0 ∨ (0 ≤ n ∧ 1000 < n) := by omega
  clear h hs
  rcases h2 with h | ⟨h, h2⟩
  all_goals
    go_enter Tryz.func77, Tryz.ntmps77
    go_wp2_with (go_at_call 27; refine (at_any _ _ _ _ _ rfl).mono ?_; rintro e w' ⟨rfl, rfl⟩)
    go_ret
    exact HW.out _ _
set_option maxRecDepth 100000 in
theorem check_len (A : Option Addr) (m c : Nat) (n : Nat) (aB aS : Addr) (w : World) (hs : Sn w aB aS) (h : n ≤ 1000) (hm : m ≠ (n + 7) / 8) :
    Calls Tryz.prog 77 #[.slice A m c, .int .i64 n] w (WrapPost aB w) := by
  have hg := hs.1.cell
  have HW := Lib.hid (fun s p => wrapPost_new aB w s p)
  have HSZ := Lib.hid (nullsSize_any (n : Int) w (by omega) (by omega))
  have hne : ((m : Int) == ((n : Int) + 7) / 8) = false := by simp; omega
  have hne' : ((m : Int) != ((n : Int) + 7) / 8) = true := by simp; omega
  clear hs hm
  go_enter Tryz.func77, Tryz.ntmps77
  go_wp2_with (first | (go_at_call 50; refine HSZ.out.mono ?_; rintro e w' ⟨rfl, rfl⟩) | (go_at_call 27; refine (at_any _ _ _ _ _ rfl).mono ?_; rintro e w' ⟨rfl, rfl⟩))
  go_ret
  exact HW.out _ _
set_option maxRecDepth 100000 in
theorem check_rest (A : Option Addr) (c : Nat) (b : List Nat) (n : Nat) (aB aS : Addr) (w : World) (hs : Sn w aB aS) (h : n ≤ 1000) (hm : b.length = (n + 7) / 8) (hr : Has w A (ints .u8 b)) (h256 : ∀ x ∈ b, x < 256) :
    Calls Tryz.prog 77 #[.slice A b.length c, .int .i64 n] w fun e w' => (cat 8 b < 2 ^ n → e = .returned .nilIface ∧ w = w') ∧ (¬ cat 8 b < 2 ^ n → WrapPost aS w e w') := by
  have hg := hs.2.1.cell
  have HW := Lib.hid (fun s p => wrapPost_new aS w s p)
  have HSZ := Lib.hid (nullsSize_any (n : Int) w (by omega) (by omega))
  have hend := ended_iff b n h256 hm
  have hne : ((b.length : Int) == ((n : Int) + 7) / 8) = true := by simp; omega
  have hne' : ((b.length : Int) != ((n : Int) + 7) / 8) = false := by simp; omega
  clear hs
  by_cases h8 : n % 8 = 0
  · have h8i : (n : Int) % 8 = 0 := by omega
    have hok : cat 8 b < 2 ^ n := by simpa [h8] using hend
    have HOK := Lib.hid hok
    clear hend hok h8 hm hr
    go_enter Tryz.func77, Tryz.ntmps77
    go_wp2_with (first | (go_at_call 50; refine HSZ.out.mono ?_; rintro e w' ⟨rfl, rfl⟩))
    go_ret
    exact ⟨fun _ => ⟨rfl, rfl⟩, fun h => absurd HOK.out h⟩
  · have hq : n / 8 < b.length := by omega
    obtain ⟨bb, off, hA, hbb, hc⟩ := hr.rd.at_ (k := n / 8) (by rw [ints_length]; exact hq)
    simp only [ints, List.getElem_map] at hc
    subst hA
    have hy256 := h256 _ (List.getElem_mem hq)
    rw [List.getD_eq_getElem?_getD, List.getElem?_eq_getElem hq, Option.getD_some] at hend
    obtain ⟨y, hy⟩ : ∃ y, y = b[n / 8] := ⟨_, rfl⟩
    rw [← hy] at hc hy256 hend
    obtain ⟨q, hqe⟩ : ∃ q, q = n / 8 := ⟨_, rfl⟩
    obtain ⟨t, hte⟩ : ∃ t, t = n % 8 := ⟨_, rfl⟩
    rw [← hqe] at hc hq
    rw [← hte] at hend
    have ht8 : t < 8 := by omega
    have hkq : (n : Int) / 8 = (q : Int) := by omega
    have hkt : (n : Int) % 8 = (t : Int) := by omega
    have ht0 : ((t : Int) != 0) = true := by simp; omega
    have ht0' : ((t : Int) == 0) = false := by simp; omega
    have hqi : (q : Int) < (b.length : Int) := by omega
    have hend2 : (y / 2 ^ t == 0) = decide (cat 8 b < 2 ^ n) := by
      rw [← hend]; simp [show ¬ t = 0 by omega]
    have HEND := Lib.hid hend2
    clear hend hend2 hy h8 hqe hte hm
    by_cases hz : y / 2 ^ t = 0
    · have hz' : (y : Int) / 2 ^ t = 0 := by
        have : (y : Int) / 2 ^ t = ((y / 2 ^ t : Nat) : Int) := by simp
        rw [this, hz]; rfl
      have hok : cat 8 b < 2 ^ n := by
        have := HEND.out
        rw [hz] at this
        exact of_decide_eq_true this.symm
      have HOK := Lib.hid hok
      clear hok
      go_enter Tryz.func77, Tryz.ntmps77
      go_wp2_with (first | (go_at_call 50; refine HSZ.out.mono ?_; rintro e w' ⟨rfl, rfl⟩))
      go_ret
      exact ⟨fun _ => ⟨rfl, rfl⟩, fun h => absurd HOK.out h⟩
    · have hz' : ((y : Int) / 2 ^ t == 0) = false := by
        have : (y : Int) / 2 ^ t = ((y / 2 ^ t : Nat) : Int) := by simp
        rw [this]; simp only [beq_eq_false_iff_ne]; omega
      have hz2 : ((y : Int) / 2 ^ t != 0) = true := by simpa using hz'
      have hno : ¬ cat 8 b < 2 ^ n := by
        have := HEND.out
        rw [show (y / 2 ^ t == 0) = false by simpa using hz] at this
        exact of_decide_eq_false this.symm
      have HNO := Lib.hid hno
      clear hno
      clear hz
      go_enter Tryz.func77, Tryz.ntmps77
      go_wp2_with (first | (go_at_call 50; refine HSZ.out.mono ?_; rintro e w' ⟨rfl, rfl⟩) | (go_at_call 27; refine (at_any _ _ _ _ _ rfl).mono ?_; rintro e w' ⟨rfl, rfl⟩))
      all_goals go_ret
      all_goals exact ⟨fun h => absurd h HNO.out, fun _ => HW.out _ _⟩
end Go.Proofs.YtldalkhmbpkjpaaGreatDoor

/- The walk of nulls.Take. -/

namespace Go.Proofs.YtldalkhmbpkjpaaGreatDoor
open Go.RowKit
set_option linter.unusedVariables false

/-- The first n bits of bytes. -/
def bitsL (b : List Nat) (n : Nat) : List Bool := (chop 1 (cat 8 b) n).map fun x => x == 1
theorem bitsL_length (b : List Nat) (n : Nat) : (bitsL b n).length = n := by unfold bitsL; rw [List.length_map, chop_length]
theorem bitsL_get (b : List Nat) (n i : Nat) (h : i < n) : (bitsL b n)[i]'(by rw [bitsL_length]; exact h) = (cat 8 b / 2 ^ i % 2 == 1) := by
  unfold bitsL
  rw [List.getElem_map, chop_get, Nat.one_mul]
theorem pack_bits (l : List Bool) : cat 8 (packN l) = cat 1 (nbits l) ∧ cat 1 (nbits l) < 2 ^ l.length := by
  have h := back_bytes 1 ((l.length + 7) / 8) (nbits l) (nbits_lt l) (by rw [nbits_length, Nat.mul_one])
  rw [nbits_length, Nat.mul_one] at h
  exact ⟨h.1, h.2.1⟩
theorem bits_back (l : List Bool) : bitsL (packN l) l.length = l := by
  unfold bitsL
  rw [(pack_bits l).1]
  have := chop_cat 1 (nbits l) (nbits_lt l)
  rw [nbits_length] at this
  rw [this]
  unfold nbits
  rw [List.map_map]
  conv => rhs; rw [← List.map_id l]
  refine List.map_congr_left fun x _ => ?_
  cases x <;> rfl
theorem fillB (L : List Bool) (k n : Nat) (hL : L.length = n) (hk : k < n) : (L.take k ++ List.replicate (n - k) false).set k L[k] = L.take (k + 1) ++ List.replicate (n - (k + 1)) false := by
  rw [List.set_append_right _ _ (by simp; omega), List.length_take_of_le (by omega), Nat.sub_self, show n - k = (n - (k + 1)) + 1 by omega, List.replicate_succ, List.set_cons_zero, List.take_succ_eq_append_getElem (by omega), List.append_assoc]
  rfl
theorem info_bool : (Tryz.prog.info? 4).map (fun i => (i.zero, i.size, i.bytes)) = some (some (.bool false), 1, 1) := by kernel_rfl
theorem Blk.madeB (w : World) (n : Nat) : Blk (w.alloc (.cells (madeCells #[.bool false] n) 4)) w.heap.size (bools (List.replicate n false)).toArray 4 := by
  unfold Blk
  rw [heap_alloc_new]
  congr 2
  apply Array.ext'
  rw [toList_madeCells_one]
  simp [bools]
theorem Blk.hasB {w : World} {g : Nat} {l : List Bool} (h : Blk w g (bools l).toArray 4) : Has w (some ⟨g, 0, none⟩) (bools l) :=
  .inr ⟨g, 0, rfl, h.lt, fun i v hv => by rw [Nat.zero_add]; exact h.cell i v (by simpa using hv)⟩
set_option maxRecDepth 100000 in
theorem and_one (y : Nat) (hy : y < 256) : bits .and .u8 (y : Int) 1 = ((y % 2 : Nat) : Int) := by
  have h : ∀ a : Fin 256, a.val &&& 1 = a.val % 2 := by decide
  rw [show (1 : Int) = ((1 : Nat) : Int) from rfl, u8_and_nat _ _ hy (by decide), h ⟨y, hy⟩]
theorem bit_eq (y t : Nat) (hy : y < 256) : (bits .and .u8 ((y : Int) / 2 ^ t) 1 == 1) = (y / 2 ^ t % 2 == 1) := by
  have e : (y : Int) / 2 ^ t = ((y / 2 ^ t : Nat) : Int) := by simp
  have : y / 2 ^ t ≤ y := Nat.div_le_self _ _
  rw [e, and_one _ (by omega), Bool.eq_iff_iff]
  simp only [beq_iff_eq]
  omega

/-- What Take tells of bytes that are none. -/
def NoPost (w : World) (e : Ending) (w' : World) : Prop := e = .returned (.tuple #[.slice none 0 0, .bool false]) ∧ Later w w'
/-- What Take tells of bits. -/
def YesPost (l : List Bool) (w : World) (e : Ending) (w' : World) : Prop :=
  ∃ g, e = .returned (.tuple #[.slice (some ⟨g, 0, none⟩) l.length l.length, .bool true]) ∧ w.heap.size ≤ g ∧ Blk w' g (bools l).toArray 4 ∧ Later w w'

set_option maxRecDepth 100000 in
set_option maxHeartbeats 1000000 in
theorem nullsTake_no (a : Addr) (A : Option Addr) (m c : Nat) (n : Int) (aB aS : Addr) (w : World) (hs : Sn w aB aS) (ha : a = aB ∨ a = aS)
    (h : Calls Tryz.prog 77 #[.slice A m c, .int .i64 n] w (WrapPost a w)) :
    Calls Tryz.prog 59 #[.slice A m c, .int .i64 n] w (NoPost w) := by
  have HC := Lib.hid h
  clear h
  rcases ha with rfl | rfl
  · go_enter Tryz.func59, Tryz.ntmps59
    go_wp2_with fail
    refine HC.out.mono ?_
    rintro e w1 ⟨pb, rfl, hcell, l1⟩
    have S1 := hs.later l1
    have h1 := S1.1.cell
    have HI := Lib.hid (is_wrap_same pb 0 a w1 hcell.out)
    clear hcell HC S1
    go_wp2_with (go_at_call 78; refine HI.out.mono ?_; rintro e w' ⟨rfl, rfl⟩)
    go_ret2
    exact ⟨rfl, l1⟩
  · go_enter Tryz.func59, Tryz.ntmps59
    go_wp2_with fail
    refine HC.out.mono ?_
    rintro e w1 ⟨pb, rfl, hcell, l1⟩
    have S1 := hs.later l1
    have h1 := S1.1.cell
    have h2 := S1.2.1.cell
    obtain ⟨_, c1, t1, k1⟩ := S1.1
    obtain ⟨_, c2, t2, k2⟩ := S1.2.1
    have HI1 := Lib.hid (is_wrap_other pb 0 aB a c2 c1 t2 t1 w1 hcell.out (Ne.symm S1.2.2) k2 k1)
    have HI2 := Lib.hid (is_wrap_same pb 0 a w1 hcell.out)
    clear hcell HC S1 k1 k2
    go_wp2_with fail
    refine HI1.out.mono ?_
    rintro e w' ⟨rfl, rfl⟩
    go_wp2_with fail
    refine HI2.out.mono ?_
    rintro e w' ⟨rfl, rfl⟩
    go_wp2_with fail
    go_ret2
    exact ⟨rfl, l1⟩

set_option maxRecDepth 100000 in
set_option maxHeartbeats 1000000 in
theorem nullsTake_yes (A : Option Addr) (c : Nat) (b : List Nat) (n : Nat) (aB aS : Addr) (w : World) (hs : Sn w aB aS) (h : n ≤ 1000) (hm : b.length = (n + 7) / 8) (hr : Has w A (ints .u8 b)) (h256 : ∀ x ∈ b, x < 256) (hok : cat 8 b < 2 ^ n) :
    Calls Tryz.prog 59 #[.slice A b.length c, .int .i64 n] w (YesPost (bitsL b n) w) := by
  have HC := Lib.hid ((check_rest A c b n aB aS w hs h hm hr h256).mono fun e w' k => k.1 hok)
  have h1 := hs.1.cell
  have h2 := hs.2.1.cell
  have HN1 := Lib.hid (is_nil aB w)
  have HN2 := Lib.hid (is_nil aS w)
  have hmk := fun W => run_make_row' (P := Tryz.prog) 46 4 (.bool false) 1 Tryz.underlying46 info_bool rfl .i64 .i64 n (by omega) (by omega) W
  have HM := Lib.hid hm
  clear hs hm hok
  go_enter Tryz.func59, Tryz.ntmps59
  go_wp2_with fail
  refine HC.out.mono ?_
  rintro e w' ⟨rfl, rfl⟩
  go_wp2_with fail
  refine HN1.out.mono ?_
  rintro e w' ⟨rfl, rfl⟩
  go_wp2_with fail
  refine HN2.out.mono ?_
  rintro e w' ⟨rfl, rfl⟩
  go_wp2_with fail
  clear hmk HC HN1 HN2 h1 h2
  obtain ⟨g, hg⟩ : ∃ g, g = w.heap.size := ⟨_, rfl⟩
  have HG := Lib.hid hg
  obtain ⟨L, hLe⟩ : ∃ L, L = bitsL b n := ⟨_, rfl⟩
  have hLn : L.length = n := by rw [hLe]; exact bitsL_length b n
  have HLN := Lib.hid hLn
  have HLE := Lib.hid hLe
  have B0 : Blk (w.alloc (.cells (madeCells #[.bool false] n) 4)) g (bools (L.take 0 ++ List.replicate (n - 0) false)).toArray 4 := by
    rw [hg]; exact Blk.madeB w n
  rw [← hg]
  clear hg hLn
  go_loopw [24] (fun i wr => ∃ k : Nat, k ≤ n ∧ i = .int .i64 k ∧ Blk wr g (bools (L.take k ++ List.replicate (n - k) false)).toArray 4 ∧ Later w wr) (fun i _ => n - (intOf i).toNat)
  case atStart => exact ⟨0, Nat.zero_le _, rfl, B0, Later.new _ _⟩
  case round =>
    obtain ⟨k, hk, rfl, hblk, hlat⟩ := hrel
    by_cases hlt : k < n
    · have hq : k / 8 < b.length := by have := HM.out; omega
      obtain ⟨bb, off, hA, hbb, hc⟩ := (hr.later hlat).rd.at_ (k := k / 8) (by rw [ints_length]; exact hq)
      simp only [ints, List.getElem_map] at hc
      subst hA
      have hy256 := h256 _ (List.getElem_mem hq)
      have hcg := cat_get 8 b h256 (k / 8) hq
      have hbit := refBit (cat 8 b) (k / 8) (k % 8) (Nat.mod_lt _ (by decide))
      rw [← hcg, show 8 * (k / 8) + k % 8 = k by omega] at hbit
      have hLk : L[k]'(by rw [HLN.out]; exact hlt) = (cat 8 b / 2 ^ k % 2 == 1) := by
        have := bitsL_get b n k hlt
        simp only [HLE.out]
        exact this
      obtain ⟨y, hy⟩ : ∃ y, y = b[k / 8] := ⟨_, rfl⟩
      rw [← hy] at hc hy256 hbit
      have hbe := bit_eq y (k % 8) hy256
      rw [hbit, ← hLk] at hbe
      obtain ⟨q, hqe⟩ : ∃ q, q = k / 8 := ⟨_, rfl⟩
      obtain ⟨t, hte⟩ : ∃ t, t = k % 8 := ⟨_, rfl⟩
      rw [← hqe] at hc hq
      rw [← hte] at hbe
      have hkq : (k : Int) / 8 = (q : Int) := by omega
      have hkt : (k : Int) % 8 = (t : Int) := by omega
      have ht8 : t < 8 := by omega
      have hqi : (q : Int) < (b.length : Int) := by omega
      have hset : (bools (L.take k ++ List.replicate (n - k) false)).toArray.setIfInBounds k (.bool (L[k]'(by rw [HLN.out]; exact hlt))) = (bools (L.take (k + 1) ++ List.replicate (n - (k + 1)) false)).toArray := by
        rw [← fillB L k n HLN.out hlt]
        simp [bools]
      have hnew := hblk.set_ k (.bool (L[k]'(by rw [HLN.out]; exact hlt)))
      rw [hset] at hnew
      have hold := hblk.cell k (.bool ((L.take k ++ List.replicate (n - k) false)[k]'(by rw [List.length_append, List.length_take, List.length_replicate, HLN.out]; omega))) (by rw [List.getElem?_toArray]; exact bools_get _ _ _)
      obtain ⟨v0, hv0⟩ : ∃ v0, v0 = (L.take k ++ List.replicate (n - k) false)[k]'(by rw [List.length_append, List.length_take, List.length_replicate, HLN.out]; omega) := ⟨_, rfl⟩
      rw [← hv0] at hold
      have hfr := hblk.frozen k
      obtain ⟨v, hv⟩ : ∃ v, v = L[k]'(by rw [HLN.out]; exact hlt) := ⟨_, rfl⟩
      rw [← hv] at hbe hnew
      have hlat2 := hlat.set_ (p := ⟨g, k, none⟩) (by have := HG.out; simp; omega) (.bool v)
      have HNEW := Lib.hid hnew
      have HLAT2 := Lib.hid hlat2
      clear hcg hbit hLk hy hqe hte hset hnew hv0 hv hlat2 hblk hlat B0 hLe hr
      go_wp2_with fail
      go_roundw
      case rel => exact ⟨k + 1, by omega, by go_num, HNEW.out, HLAT2.out⟩
      case measure => simp [intOf]; omega
    · obtain rfl : k = n := by omega
      have HBLK := Lib.hid hblk
      have HLAT := Lib.hid hlat
      have hg := HG.out
      have hle := HLE.out
      clear hblk hlat B0 hLe hr
      go_wp2_with fail
      go_ret2
      refine ⟨g, ?_, by omega, ?_, HLAT.out⟩
      · rw [bitsL_length]; rfl
      · have := HBLK.out
        rw [Nat.sub_self, List.replicate_zero, List.append_nil, List.take_of_length_le (by rw [HLN.out]; exact Nat.le_refl _), HLE.out] at this
        exact this
end Go.Proofs.YtldalkhmbpkjpaaGreatDoor

/- nulls.Take at all bytes; begun of law 4. -/

namespace Go.Proofs.YtldalkhmbpkjpaaGreatDoor
open Go.RowKit
set_option linter.unusedVariables false

/-- Which bits bytes are. -/
def takeN (b : List Nat) (n : Int) : Option (List Bool) := if 0 ≤ n ∧ n ≤ 1000 ∧ b.length = (n.toNat + 7) / 8 ∧ cat 8 b < 2 ^ n.toNat then some (bitsL b n.toNat) else none
/-- What a call tells that takes bits. -/
def TakesN (o : Option (List Bool)) (w : World) (e : Ending) (w' : World) : Prop :=
  (o = none ∧ NoPost w e w') ∨ ∃ l, o = some l ∧ YesPost l w e w'
theorem TakesN.no {o : Option (List Bool)} {w w' : World} {e : Ending} (h : TakesN o w e w') (hn : o = none) : NoPost w e w' := by
  rcases h with ⟨_, h⟩ | ⟨l, h, _⟩
  · exact h
  · rw [hn] at h; cases h
theorem TakesN.yes {o : Option (List Bool)} {w w' : World} {e : Ending} {l : List Bool} (h : TakesN o w e w') (hs : o = some l) : YesPost l w e w' := by
  rcases h with ⟨h, _⟩ | ⟨l', h, k⟩
  · rw [hs] at h; cases h
  · rw [hs] at h; cases h; exact k
theorem nullsTake_any (A : Option Addr) (m c : Nat) (b : List Nat) (n : Int) (aB aS : Addr) (w : World) (hm : m = b.length) (hs : Sn w aB aS) (hr : Has w A (ints .u8 b)) (h256 : ∀ x ∈ b, x < 256) :
    Calls Tryz.prog 59 #[.slice A m c, .int .i64 n] w (TakesN (takeN b n) w) := by
  subst hm
  unfold takeN
  by_cases hn : 0 ≤ n ∧ n ≤ 1000
  · obtain ⟨k, rfl⟩ : ∃ k : Nat, n = (k : Int) := ⟨n.toNat, by omega⟩
    rw [show (k : Int).toNat = k from rfl]
    have hk : k ≤ 1000 := by omega
    by_cases hl : b.length = (k + 7) / 8
    · by_cases hc : cat 8 b < 2 ^ k
      · rw [if_pos ⟨hn.1, hn.2, hl, hc⟩]
        exact (nullsTake_yes A c b k aB aS w hs hk hl hr h256 hc).mono fun _ _ h => .inr ⟨_, rfl, h⟩
      · rw [if_neg (fun h => hc h.2.2.2)]
        exact (nullsTake_no aS A b.length c k aB aS w hs (.inr rfl) ((check_rest A c b k aB aS w hs hk hl hr h256).mono fun _ _ h => h.2 hc)).mono fun _ _ h => .inl ⟨rfl, h⟩
    · rw [if_neg (fun h => hl h.2.2.1)]
      exact (nullsTake_no aB A b.length c k aB aS w hs (.inl rfl) (check_len A b.length c k aB aS w hs hk hl)).mono fun _ _ h => .inl ⟨rfl, h⟩
  · rw [if_neg (fun h => hn ⟨h.1, h.2.1⟩)]
    exact (nullsTake_no aB A b.length c n aB aS w hs (.inl rfl) (check_arg A b.length c n aB aS w hs (by omega))).mono fun _ _ h => .inl ⟨rfl, h⟩
theorem takeN_put (l : List Bool) (h : l.length ≤ 1000) : takeN (packN l) l.length = some l := by
  unfold takeN
  have := pack_bits l
  rw [show ((l.length : Nat) : Int).toNat = l.length from rfl, if_pos ⟨by omega, by omega, packN_length l, by rw [this.1]; exact this.2⟩, bits_back]

theorem convN_str (A : Option Addr) (n c : Nat) (l : List Nat) (hn : n = l.length) (w : World) (B : Nat) (hr : Rd w B A (ints .u8 l)) :
    (convert 22 9 (.slice A n c)).run Tryz.prog w = .ok (.string (bstr l)) w :=
  run_bstr 22 5 9 Tryz.underlying22 Tryz.underlying5 Tryz.underlying9 A n c l hn w B hr
theorem litB (w : World) (l : List Bool) : Blk (w.alloc (.cells (bools l).toArray 4)) w.heap.size (bools l).toArray 4 := Blk.new _ _ _ _ rfl

end Go.Proofs.YtldalkhmbpkjpaaGreatDoor
