
import Derived.Test.YtldalkhmbpkjpaaGreatDoorNullsD
import Derived.Test.YtldalkhmbpkjpaaGreatDoorBitsJ
/- Walks of the reference's PutNulls, TakeNulls. -/

namespace Go.Proofs.YtldalkhmbpkjpaaGreatDoor
open Go.RowKit
set_option linter.unusedVariables false

set_option maxRecDepth 100000 in
set_option maxHeartbeats 1000000 in
theorem refPutNulls_any (A : Option Addr) (n c : Nat) (l : List Bool) (w : World) (hn : n = l.length) (hr : Has w A (bools l)) (hl : l.length ≤ 1000) :
    Calls Tryz.prog 20 #[.slice A n c] w fun e w' => ∃ g, e = .returned (.slice (some ⟨g, 0, none⟩) ((l.length + 7) / 8) ((l.length + 7) / 8)) ∧ Row w' g 5 .u8 (packN l) ∧ Later w w' := by
  subst hn
  have hmk := fun W => run_make_row' (P := Tryz.prog) 62 63 (.int .u64 0) 8 Tryz.underlying62 info_u64 rfl .i64 .i64 l.length (by omega) (by omega) W
  go_enter Tryz.func20, Tryz.ntmps20
  go_wp2_with fail
  clear hmk
  obtain ⟨g, hg⟩ : ∃ g, g = w.heap.size := ⟨_, rfl⟩
  have HG := Lib.hid hg
  have R0 : Row (w.alloc (.cells (madeCells #[.int .u64 0] l.length) 63)) g 63 .u64 ((nbits l).take 0 ++ List.replicate (l.length - 0) 0) := by
    rw [hg]; exact Row.made w _ .u64 l.length
  rw [← hg]
  clear hg
  go_loopw [4] (fun i wr => ∃ k : Nat, k ≤ l.length ∧ i = .int .i64 k ∧ Row wr g 63 .u64 ((nbits l).take k ++ List.replicate (l.length - k) 0) ∧ Later w wr) (fun i _ => l.length - (intOf i).toNat)
  case atStart => exact ⟨0, Nat.zero_le _, rfl, R0, Later.new _ _⟩
  case round =>
    obtain ⟨k, hk, rfl, hrow, hlat⟩ := hrel
    by_cases hlt : k < l.length
    · obtain ⟨bb, off, hA, hbb, hc⟩ := (hr.later hlat).rd.at_ (k := k) (by rw [bools_length]; exact hlt)
      have hcell : wr.cell? ⟨bb, off + k, none⟩ = some (.bool l[k]) := by rw [hc]; simp [bools]
      subst hA
      have hfill := set_fill (nbits l) k l.length (nbits_length l) hlt (l[k]).toNat (nbits_get l k hlt).symm
      have hki : (k : Int) < (l.length : Int) := by omega
      obtain ⟨old, hold⟩ : ∃ old : Int, wr.cell? ⟨g, k, none⟩ = some (.int .u64 old) := ⟨_, hrow.cell k (by rw [List.length_append, List.length_take, List.length_replicate, nbits_length]; omega)⟩
      have hfr := hrow.frozen k
      obtain ⟨x, hx⟩ : ∃ x, x = l[k] := ⟨_, rfl⟩
      rw [← hx] at hcell hfill
      have HLAT := Lib.hid hlat
      have HLAT2 := Lib.hid (hlat.set_ (p := ⟨g, k, none⟩) (by have := HG.out; simp; omega) (.int .u64 1))
      cases x
      · have hz := set_same (nbits l) k l.length (nbits_length l) hlt
        rw [show Bool.toNat false = 0 from rfl, hz] at hfill
        rw [hfill] at hrow
        have HROW := Lib.hid hrow
        clear hrow hlat hfill hz hc hx R0 hr
        go_wp2_with fail
        go_roundw
        case rel => exact ⟨k + 1, by omega, by go_num, HROW.out, HLAT.out⟩
        case measure => simp [intOf]; omega
      · have HROW := Lib.hid (hrow.set' k 1 1 rfl _ hfill)
        clear hrow hlat hfill hc hx R0 hr
        go_wp2_with fail
        go_roundw
        case rel => exact ⟨k + 1, by omega, by go_num, HROW.out, HLAT2.out⟩
        case measure => simp [intOf]; omega
    · obtain rfl : k = l.length := by omega
      rw [Nat.sub_self, List.replicate_zero, List.append_nil, List.take_of_length_le (by rw [nbits_length]; exact Nat.le_refl _)] at hrow
      have hgl := hrow.lt
      have HC := Lib.hid (refBitsPut_yes (some ⟨g, 0, none⟩) l.length l.length (nbits l) 1 1 ((l.length + 7) / 8) wr.heap.size wr (nbits_length l).symm rfl (by rw [nbits_length, Nat.mul_one]) rfl hrow.rd (by rw [nbits_length]; exact hl)
        (fun x hx => by have := nbits_lt l x hx; omega) (by decide) ((widL_le _ _).2 (nbits_lt l)))
      have HLAT := Lib.hid hlat
      clear hrow hlat R0 hr
      go_wp2_with fail
      refine HC.out.mono ?_
      rintro e w2 ⟨rfl, r2, b2⟩
      have HR2 := Lib.hid r2
      have l2 : Later wr w2 := b2
      clear HC r2 b2
      go_wp2_with fail
      go_ret
      exact ⟨_, rfl, HR2.out, HLAT.out.trans l2⟩
end Go.Proofs.YtldalkhmbpkjpaaGreatDoor

/- The walk of the reference's TakeNulls. -/

namespace Go.Proofs.YtldalkhmbpkjpaaGreatDoor
open Go.RowKit
set_option linter.unusedVariables false

set_option maxRecDepth 100000 in
theorem refTakeNulls_no (A : Option Addr) (m c : Nat) (n : Int) (w : World) (h : Calls Tryz.prog 47 #[.slice A m c, .int .i64 n, .int .i64 1] w fun e w' => e = .returned (.tuple #[.slice none 0 0, .bool false]) ∧ Later w w') :
    Calls Tryz.prog 25 #[.slice A m c, .int .i64 n] w (NoPost w) := by
  have HC := Lib.hid h
  clear h
  go_enter Tryz.func25, Tryz.ntmps25
  go_wp2_with fail
  refine HC.out.mono ?_
  rintro e w1 ⟨rfl, l1⟩
  go_wp2_with fail
  go_ret2
  exact ⟨rfl, l1⟩

set_option maxRecDepth 100000 in
set_option maxHeartbeats 1000000 in
theorem refTakeNulls_yes (A : Option Addr) (m c : Nat) (b : List Nat) (n : Nat) (w : World) (hn : n ≤ 1000)
    (h : Calls Tryz.prog 47 #[.slice A m c, .int .i64 n, .int .i64 1] w fun e w' => ∃ g, e = .returned (.tuple #[.slice (some ⟨g, 0, none⟩) n n, .bool true]) ∧ Row w' g 63 .u64 (chop 1 (cat 8 b) n) ∧ Later w w') :
    Calls Tryz.prog 25 #[.slice A m c, .int .i64 n] w (YesPost (bitsL b n) w) := by
  have HC := Lib.hid h
  have hmk := fun W => run_make_row' (P := Tryz.prog) 46 4 (.bool false) 1 Tryz.underlying46 info_bool rfl .i64 .i64 n (by omega) (by omega) W
  clear h
  go_enter Tryz.func25, Tryz.ntmps25
  go_wp2_with fail
  refine HC.out.mono ?_
  rintro e w1 ⟨gu, rfl, ru, l1⟩
  have HRU := Lib.hid ru
  clear HC ru
  go_wp2_with fail
  clear hmk
  obtain ⟨g, hg⟩ : ∃ g, g = w1.heap.size := ⟨_, rfl⟩
  have HG := Lib.hid hg
  obtain ⟨L, hLe⟩ : ∃ L, L = bitsL b n := ⟨_, rfl⟩
  have hLn : L.length = n := by rw [hLe]; exact bitsL_length b n
  have HLN := Lib.hid hLn
  have HLE := Lib.hid hLe
  have B0 : Blk (w1.alloc (.cells (madeCells #[.bool false] n) 4)) g (bools (L.take 0 ++ List.replicate (n - 0) false)).toArray 4 := by
    rw [hg]; exact Blk.madeB w1 n
  rw [← hg]
  clear hg hLn
  go_loopw [9] (fun i wr => ∃ k : Nat, k ≤ n ∧ i = .int .i64 k ∧ Blk wr g (bools (L.take k ++ List.replicate (n - k) false)).toArray 4 ∧ Later w1 wr) (fun i _ => n - (intOf i).toNat)
  case atStart => exact ⟨0, Nat.zero_le _, rfl, B0, Later.new _ _⟩
  case round =>
    obtain ⟨k, hk, rfl, hblk, hlat⟩ := hrel
    by_cases hlt : k < n
    · have hcu := (hlat.row HRU.out).cell k (by rw [chop_length]; exact hlt)
      rw [chop_get, Nat.one_mul] at hcu
      have hLk : L[k]'(by rw [HLN.out]; exact hlt) = (cat 8 b / 2 ^ k % 2 == 1) := by
        have := bitsL_get b n k hlt
        simp only [HLE.out]
        exact this
      obtain ⟨y, hy⟩ : ∃ y, y = cat 8 b / 2 ^ k % 2 ^ 1 := ⟨_, rfl⟩
      rw [← hy] at hcu
      rw [show cat 8 b / 2 ^ k % 2 = y from hy.symm] at hLk
      have hbe : ((y : Int) == 1) = L[k]'(by rw [HLN.out]; exact hlt) := by
        rw [hLk, Bool.eq_iff_iff]; simp only [beq_iff_eq]; omega
      have hki : (k : Int) < (n : Int) := by omega
      have hset : (bools (L.take k ++ List.replicate (n - k) false)).toArray.setIfInBounds k (.bool (L[k]'(by rw [HLN.out]; exact hlt))) = (bools (L.take (k + 1) ++ List.replicate (n - (k + 1)) false)).toArray := by
        rw [← fillB L k n HLN.out hlt]
        simp [bools]
      have hnew := hblk.set_ k (.bool (L[k]'(by rw [HLN.out]; exact hlt)))
      rw [hset] at hnew
      have hold := hblk.cell k (.bool ((L.take k ++ List.replicate (n - k) false)[k]'(by rw [List.length_append, List.length_take, List.length_replicate, HLN.out]; omega))) (by rw [List.getElem?_toArray]; exact bools_get _ _ _)
      obtain ⟨v0, hv0⟩ : ∃ v0, v0 = (L.take k ++ List.replicate (n - k) false)[k]'(by rw [List.length_append, List.length_take, List.length_replicate, HLN.out]; omega) := ⟨_, rfl⟩
      rw [← hv0] at hold
      have hfr := hblk.frozen k
      obtain ⟨v, hv⟩ : ∃ v, v = L[k]'(by rw [HLN.out]; exact hlt) := ⟨_, rfl⟩
      rw [← hv] at hbe hnew
      have HNEW := Lib.hid hnew
      have HLAT2 := Lib.hid (hlat.set_ (p := ⟨g, k, none⟩) (by have := HG.out; simp; omega) (.bool v))
      clear hLk hy hset hnew hv0 hv hblk hlat B0 hLe
      go_wp2_with fail
      go_roundw
      case rel => exact ⟨k + 1, by omega, by go_num, HNEW.out, HLAT2.out⟩
      case measure => simp [intOf]; omega
    · obtain rfl : k = n := by omega
      have HBLK := Lib.hid hblk
      have HLAT := Lib.hid hlat
      clear hblk hlat B0 hLe
      go_wp2_with fail
      go_ret2
      refine ⟨g, ?_, by have := HG.out; have := l1.size; omega, ?_, l1.trans HLAT.out⟩
      · rw [bitsL_length]; rfl
      · have := HBLK.out
        rw [Nat.sub_self, List.replicate_zero, List.append_nil, List.take_of_length_le (by rw [HLN.out]; exact Nat.le_refl _), HLE.out] at this
        exact this

theorem refTakeNulls_any (A : Option Addr) (m c : Nat) (b : List Nat) (n : Int) (w : World) (hm : m = b.length) (hb : b.length ≤ 1000000) (hr : Has w A (ints .u8 b)) (h256 : ∀ x ∈ b, x < 256) :
    Calls Tryz.prog 25 #[.slice A m c, .int .i64 n] w (TakesN (takeN b n) w) := by
  subst hm
  unfold takeN
  by_cases hn : 0 ≤ n ∧ n ≤ 1000
  · obtain ⟨k, rfl⟩ : ∃ k : Nat, n = (k : Int) := ⟨n.toNat, by omega⟩
    rw [show (k : Int).toNat = k from rfl]
    have hk : k ≤ 1000 := by omega
    by_cases hl : b.length = (k + 7) / 8
    · by_cases hc : cat 8 b < 2 ^ k
      · rw [if_pos ⟨hn.1, hn.2, hl, hc⟩]
        refine (refTakeNulls_yes A b.length c b k w hk ?_).mono fun _ _ h => .inr ⟨_, rfl, h⟩
        refine (refBitsTake_body true A c b k 1 w hr h256 hk (by decide) (by rw [Nat.mul_one]; exact hl) (by rw [Nat.mul_one]; simp [hc])).mono ?_
        intro e w' h
        exact ⟨_, (h.1 rfl).1, (h.1 rfl).2, h.2.2⟩
      · rw [if_neg (fun h => hc h.2.2.2)]
        refine (refTakeNulls_no A b.length c k w ?_).mono fun _ _ h => .inl ⟨rfl, h⟩
        refine (refBitsTake_body false A c b k 1 w hr h256 hk (by decide) (by rw [Nat.mul_one]; exact hl) (by rw [Nat.mul_one]; simp; omega)).mono ?_
        intro e w' h
        exact ⟨h.2.1 rfl, h.2.2⟩
    · rw [if_neg (fun h => hl h.2.2.1)]
      refine (refTakeNulls_no A b.length c k w ?_).mono fun _ _ h => .inl ⟨rfl, h⟩
      refine (refBitsTake_len A b.length c k 1 w hk (by decide) (by rw [Nat.mul_one]; exact hl) hb).mono ?_
      rintro e w' ⟨rfl, rfl⟩
      exact ⟨rfl, Later.refl _⟩
  · rw [if_neg (fun h => hn ⟨h.1, h.2.1⟩)]
    refine (refTakeNulls_no A b.length c n w ?_).mono fun _ _ h => .inl ⟨rfl, h⟩
    refine (refBitsTake_arg A b.length c n 1 w (by omega)).mono ?_
    rintro e w' ⟨rfl, rfl⟩
    exact ⟨rfl, Later.refl _⟩
/-- What is taken, whether it is or not. -/
theorem TakesN.any {o : Option (List Bool)} {w w' : World} {e : Ending} (h : TakesN o w e w') :
    ∃ A c, e = .returned (.tuple #[.slice A (o.getD []).length c, .bool o.isSome]) ∧ Has w' A (bools (o.getD [])) ∧ Later w w' := by
  rcases h with ⟨rfl, h1, l⟩ | ⟨x, rfl, g, h1, _, hb, l⟩
  · exact ⟨none, 0, h1, Has.nil_, l⟩
  · exact ⟨_, _, h1, hb.hasB, l⟩
end Go.Proofs.YtldalkhmbpkjpaaGreatDoor
