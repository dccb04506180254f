/- The walk of nulls.Take. -/
import Derived.Test.YtbmlipandjbbbabDoorNullsB
import Derived.Test.YtbmlipandjbbbabDoorRefMath
import Derived.Stop.IfaceNil
namespace Go.Proofs.YtbmlipandjbbbabDoor
open Go.RowKit
set_option linter.unusedVariables false

/-- The first n bits of bytes. -/
def bitsL (b : List Nat) (n : Nat) : List Bool := (chop 1 (cat 8 b) n).map fun x => x == 1
theorem bitsL_length (b : List Nat) (n : Nat) : (bitsL b n).length = n := by unfold bitsL; rw [List.length_map, chop_length]
theorem bitsL_get (b : List Nat) (n i : Nat) (h : i < n) : (bitsL b n)[i]'(by rw [bitsL_length]; exact h) = (cat 8 b / 2 ^ i % 2 == 1) := by
  unfold bitsL
  rw [List.getElem_map, chop_get, Nat.one_mul]
theorem pack_bits (l : List Bool) : cat 8 (packN l) = cat 1 (nbits l) ∧ cat 1 (nbits l) < 2 ^ l.length := by
  have h := back_bytes 1 ((l.length + 7) / 8) (nbits l) (nbits_lt l) (by rw [nbits_length, Nat.mul_one])
  rw [nbits_length, Nat.mul_one] at h
  exact ⟨h.1, h.2.1⟩
theorem bits_back (l : List Bool) : bitsL (packN l) l.length = l := by
  unfold bitsL
  rw [(pack_bits l).1]
  have := chop_cat 1 (nbits l) (nbits_lt l)
  rw [nbits_length] at this
  rw [this]
  unfold nbits
  rw [List.map_map]
  conv => rhs; rw [← List.map_id l]
  refine List.map_congr_left fun x _ => ?_
  cases x <;> rfl
theorem fillB (L : List Bool) (k n : Nat) (hL : L.length = n) (hk : k < n) : (L.take k ++ List.replicate (n - k) false).set k L[k] = L.take (k + 1) ++ List.replicate (n - (k + 1)) false := by
  rw [List.set_append_right _ _ (by simp; omega), List.length_take_of_le (by omega), Nat.sub_self, show n - k = (n - (k + 1)) + 1 by omega, List.replicate_succ, List.set_cons_zero, List.take_succ_eq_append_getElem (by omega), List.append_assoc]
  rfl
theorem info_bool : (Tryd.prog.info? 4).map (fun i => (i.zero, i.size, i.bytes)) = some (some (.bool false), 1, 1) := by kernel_rfl
theorem Blk.madeB (w : World) (n : Nat) : Blk (w.alloc (.cells (madeCells #[.bool false] n) 4)) w.heap.size (bools (List.replicate n false)).toArray 4 := by
  unfold Blk
  rw [heap_alloc_new]
  congr 2
  apply Array.ext'
  rw [toList_madeCells_one]
  simp [bools]
theorem Blk.hasB {w : World} {g : Nat} {l : List Bool} (h : Blk w g (bools l).toArray 4) : Has w (some ⟨g, 0, none⟩) (bools l) :=
  .inr ⟨g, 0, rfl, h.lt, fun i v hv => by rw [Nat.zero_add]; exact h.cell i v (by simpa using hv)⟩
set_option maxRecDepth 100000 in
theorem and_one (y : Nat) (hy : y < 256) : bits .and .u8 (y : Int) 1 = ((y % 2 : Nat) : Int) := by
  have h : ∀ a : Fin 256, a.val &&& 1 = a.val % 2 := by decide
  rw [show (1 : Int) = ((1 : Nat) : Int) from rfl, u8_and_nat _ _ hy (by decide), h ⟨y, hy⟩]
theorem bit_eq (y t : Nat) (hy : y < 256) : (bits .and .u8 ((y : Int) / 2 ^ t) 1 == 1) = (y / 2 ^ t % 2 == 1) := by
  have e : (y : Int) / 2 ^ t = ((y / 2 ^ t : Nat) : Int) := by simp
  have : y / 2 ^ t ≤ y := Nat.div_le_self _ _
  rw [e, and_one _ (by omega), Bool.eq_iff_iff]
  simp only [beq_iff_eq]
  omega

/-- What Take tells of bytes that are none. -/
def NoPost (w : World) (e : Ending) (w' : World) : Prop := e = .returned (.tuple #[.slice none 0 0, .bool false]) ∧ Later w w'
/-- What Take tells of bits. -/
def YesPost (l : List Bool) (w : World) (e : Ending) (w' : World) : Prop :=
  ∃ g, e = .returned (.tuple #[.slice (some ⟨g, 0, none⟩) l.length l.length, .bool true]) ∧ w.heap.size ≤ g ∧ Blk w' g (bools l).toArray 4 ∧ Later w w'

set_option maxRecDepth 100000 in
set_option maxHeartbeats 1000000 in
theorem take_no (a : Addr) (A : Option Addr) (m c : Nat) (n : Int) (aB aS : Addr) (w : World) (hs : Sn w aB aS) (ha : a = aB ∨ a = aS)
    (h : Calls Tryd.prog 14 #[.slice A m c, .int .i64 n] w (WrapPost a w)) :
    Calls Tryd.prog 8 #[.slice A m c, .int .i64 n] w (NoPost w) := by
  have HC := Lib.hid h
  clear h
  rcases ha with rfl | rfl
  · go_enter Tryd.func8, Tryd.ntmps8
    go_wp2_with fail
    refine HC.out.mono ?_
    rintro e w1 ⟨pb, rfl, hcell, l1⟩
    have S1 := hs.later l1
    have h1 := S1.1.cell
    have HI := Lib.hid (is_wrap_same pb 0 a w1 hcell.out)
    clear hcell HC S1
    go_wp2_with (go_at_call 15; refine HI.out.mono ?_; rintro e w' ⟨rfl, rfl⟩)
    go_ret2
    exact ⟨rfl, l1⟩
  · go_enter Tryd.func8, Tryd.ntmps8
    go_wp2_with fail
    refine HC.out.mono ?_
    rintro e w1 ⟨pb, rfl, hcell, l1⟩
    have S1 := hs.later l1
    have h1 := S1.1.cell
    have h2 := S1.2.1.cell
    obtain ⟨_, c1, t1, k1⟩ := S1.1
    obtain ⟨_, c2, t2, k2⟩ := S1.2.1
    have HI1 := Lib.hid (is_wrap_other pb 0 aB a c2 c1 t2 t1 w1 hcell.out (Ne.symm S1.2.2) k2 k1)
    have HI2 := Lib.hid (is_wrap_same pb 0 a w1 hcell.out)
    clear hcell HC S1 k1 k2
    go_wp2_with fail
    refine HI1.out.mono ?_
    rintro e w' ⟨rfl, rfl⟩
    go_wp2_with fail
    refine HI2.out.mono ?_
    rintro e w' ⟨rfl, rfl⟩
    go_wp2_with fail
    go_ret2
    exact ⟨rfl, l1⟩

set_option maxRecDepth 100000 in
set_option maxHeartbeats 1000000 in
theorem take_yes (A : Option Addr) (c : Nat) (b : List Nat) (n : Nat) (aB aS : Addr) (w : World) (hs : Sn w aB aS) (h : n ≤ 1000) (hm : b.length = (n + 7) / 8) (hr : Has w A (ints .u8 b)) (h256 : ∀ x ∈ b, x < 256) (hok : cat 8 b < 2 ^ n) :
    Calls Tryd.prog 8 #[.slice A b.length c, .int .i64 n] w (YesPost (bitsL b n) w) := by
  have HC := Lib.hid ((check_rest A c b n aB aS w hs h hm hr h256).mono fun e w' k => k.1 hok)
  have h1 := hs.1.cell
  have h2 := hs.2.1.cell
  have HN1 := Lib.hid (is_nil aB w)
  have HN2 := Lib.hid (is_nil aS w)
  have hmk := fun W => run_make_row' (P := Tryd.prog) 22 4 (.bool false) 1 Tryd.underlying22 info_bool rfl .i64 .i64 n (by omega) (by omega) W
  have HM := Lib.hid hm
  clear hs hm hok
  go_enter Tryd.func8, Tryd.ntmps8
  go_wp2_with fail
  refine HC.out.mono ?_
  rintro e w' ⟨rfl, rfl⟩
  go_wp2_with fail
  refine HN1.out.mono ?_
  rintro e w' ⟨rfl, rfl⟩
  go_wp2_with fail
  refine HN2.out.mono ?_
  rintro e w' ⟨rfl, rfl⟩
  go_wp2_with fail
  clear hmk HC HN1 HN2 h1 h2
  obtain ⟨g, hg⟩ : ∃ g, g = w.heap.size := ⟨_, rfl⟩
  have HG := Lib.hid hg
  obtain ⟨L, hLe⟩ : ∃ L, L = bitsL b n := ⟨_, rfl⟩
  have hLn : L.length = n := by rw [hLe]; exact bitsL_length b n
  have HLN := Lib.hid hLn
  have HLE := Lib.hid hLe
  have B0 : Blk (w.alloc (.cells (madeCells #[.bool false] n) 4)) g (bools (L.take 0 ++ List.replicate (n - 0) false)).toArray 4 := by
    rw [hg]; exact Blk.madeB w n
  rw [← hg]
  clear hg hLn
  go_loopw [24] (fun i wr => ∃ k : Nat, k ≤ n ∧ i = .int .i64 k ∧ Blk wr g (bools (L.take k ++ List.replicate (n - k) false)).toArray 4 ∧ Later w wr) (fun i _ => n - (intOf i).toNat)
  case atStart => exact ⟨0, Nat.zero_le _, rfl, B0, Later.new _ _⟩
  case round =>
    obtain ⟨k, hk, rfl, hblk, hlat⟩ := hrel
    by_cases hlt : k < n
    · have hq : k / 8 < b.length := by have := HM.out; omega
      obtain ⟨bb, off, hA, hbb, hc⟩ := (hr.later hlat).rd.at_ (k := k / 8) (by rw [ints_length]; exact hq)
      simp only [ints, List.getElem_map] at hc
      subst hA
      have hy256 := h256 _ (List.getElem_mem hq)
      have hcg := cat_get 8 b h256 (k / 8) hq
      have hbit := refBit (cat 8 b) (k / 8) (k % 8) (Nat.mod_lt _ (by decide))
      rw [← hcg, show 8 * (k / 8) + k % 8 = k by omega] at hbit
      have hLk : L[k]'(by rw [HLN.out]; exact hlt) = (cat 8 b / 2 ^ k % 2 == 1) := by
        have := bitsL_get b n k hlt
        simp only [HLE.out]
        exact this
      obtain ⟨y, hy⟩ : ∃ y, y = b[k / 8] := ⟨_, rfl⟩
      rw [← hy] at hc hy256 hbit
      have hbe := bit_eq y (k % 8) hy256
      rw [hbit, ← hLk] at hbe
      obtain ⟨q, hqe⟩ : ∃ q, q = k / 8 := ⟨_, rfl⟩
      obtain ⟨t, hte⟩ : ∃ t, t = k % 8 := ⟨_, rfl⟩
      rw [← hqe] at hc hq
      rw [← hte] at hbe
      have hkq : (k : Int) / 8 = (q : Int) := by omega
      have hkt : (k : Int) % 8 = (t : Int) := by omega
      have ht8 : t < 8 := by omega
      have hqi : (q : Int) < (b.length : Int) := by omega
      have hset : (bools (L.take k ++ List.replicate (n - k) false)).toArray.setIfInBounds k (.bool (L[k]'(by rw [HLN.out]; exact hlt))) = (bools (L.take (k + 1) ++ List.replicate (n - (k + 1)) false)).toArray := by
        rw [← fillB L k n HLN.out hlt]
        simp [bools]
      have hnew := hblk.set_ k (.bool (L[k]'(by rw [HLN.out]; exact hlt)))
      rw [hset] at hnew
      have hold := hblk.cell k (.bool ((L.take k ++ List.replicate (n - k) false)[k]'(by rw [List.length_append, List.length_take, List.length_replicate, HLN.out]; omega))) (by rw [List.getElem?_toArray]; exact bools_get _ _ _)
      obtain ⟨v0, hv0⟩ : ∃ v0, v0 = (L.take k ++ List.replicate (n - k) false)[k]'(by rw [List.length_append, List.length_take, List.length_replicate, HLN.out]; omega) := ⟨_, rfl⟩
      rw [← hv0] at hold
      have hfr := hblk.frozen k
      obtain ⟨v, hv⟩ : ∃ v, v = L[k]'(by rw [HLN.out]; exact hlt) := ⟨_, rfl⟩
      rw [← hv] at hbe hnew
      have hlat2 := hlat.set_ (p := ⟨g, k, none⟩) (by have := HG.out; simp; omega) (.bool v)
      have HNEW := Lib.hid hnew
      have HLAT2 := Lib.hid hlat2
      clear hcg hbit hLk hy hqe hte hset hnew hv0 hv hlat2 hblk hlat B0 hLe hr
      go_wp2_with fail
      go_roundw
      case rel => exact ⟨k + 1, by omega, by go_num, HNEW.out, HLAT2.out⟩
      case measure => simp [intOf]; omega
    · obtain rfl : k = n := by omega
      have HBLK := Lib.hid hblk
      have HLAT := Lib.hid hlat
      have hg := HG.out
      have hle := HLE.out
      clear hblk hlat B0 hLe hr
      go_wp2_with fail
      go_ret2
      refine ⟨g, ?_, by omega, ?_, HLAT.out⟩
      · rw [bitsL_length]; rfl
      · have := HBLK.out
        rw [Nat.sub_self, List.replicate_zero, List.append_nil, List.take_of_length_le (by rw [HLN.out]; exact Nat.le_refl _), HLE.out] at this
        exact this
end Go.Proofs.YtbmlipandjbbbabDoor
