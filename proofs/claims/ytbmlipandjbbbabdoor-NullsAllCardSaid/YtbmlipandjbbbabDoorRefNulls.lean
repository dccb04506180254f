/- Walks of the reference's PutNulls, TakeNulls. -/
import Derived.Test.YtbmlipandjbbbabDoorNullsD
import Derived.Test.YtbmlipandjbbbabDoorRefBitsB
namespace Go.Proofs.YtbmlipandjbbbabDoor
open Go.RowKit
set_option linter.unusedVariables false

set_option maxRecDepth 100000 in
set_option maxHeartbeats 1000000 in
theorem refPutNulls_any (A : Option Addr) (n c : Nat) (l : List Bool) (w : World) (hn : n = l.length) (hr : Has w A (bools l)) (hl : l.length ≤ 1000) :
    Calls Tryd.prog 11 #[.slice A n c] w fun e w' => ∃ g, e = .returned (.slice (some ⟨g, 0, none⟩) ((l.length + 7) / 8) ((l.length + 7) / 8)) ∧ Row w' g 5 .u8 (packN l) ∧ Later w w' := by
  subst hn
  have hmk := fun W => run_make_row' (P := Tryd.prog) 37 40 (.int .u64 0) 8 Tryd.underlying37 info_u64 rfl .i64 .i64 l.length (by omega) (by omega) W
  go_enter Tryd.func11, Tryd.ntmps11
  go_wp2_with fail
  clear hmk
  obtain ⟨g, hg⟩ : ∃ g, g = w.heap.size := ⟨_, rfl⟩
  have HG := Lib.hid hg
  have R0 : Row (w.alloc (.cells (madeCells #[.int .u64 0] l.length) 40)) g 40 .u64 ((nbits l).take 0 ++ List.replicate (l.length - 0) 0) := by
    rw [hg]; exact Row.made w _ .u64 l.length
  rw [← hg]
  clear hg
  go_loopw [4] (fun i wr => ∃ k : Nat, k ≤ l.length ∧ i = .int .i64 k ∧ Row wr g 40 .u64 ((nbits l).take k ++ List.replicate (l.length - k) 0) ∧ Later w wr) (fun i _ => l.length - (intOf i).toNat)
  case atStart => exact ⟨0, Nat.zero_le _, rfl, R0, Later.new _ _⟩
  case round =>
    obtain ⟨k, hk, rfl, hrow, hlat⟩ := hrel
    by_cases hlt : k < l.length
    · obtain ⟨bb, off, hA, hbb, hc⟩ := (hr.later hlat).rd.at_ (k := k) (by rw [bools_length]; exact hlt)
      have hcell : wr.cell? ⟨bb, off + k, none⟩ = some (.bool l[k]) := by rw [hc]; simp [bools]
      subst hA
      have hfill := set_fill (nbits l) k l.length (nbits_length l) hlt (l[k]).toNat (nbits_get l k hlt).symm
      have hki : (k : Int) < (l.length : Int) := by omega
      obtain ⟨old, hold⟩ : ∃ old : Int, wr.cell? ⟨g, k, none⟩ = some (.int .u64 old) := ⟨_, hrow.cell k (by rw [List.length_append, List.length_take, List.length_replicate, nbits_length]; omega)⟩
      have hfr := hrow.frozen k
      obtain ⟨x, hx⟩ : ∃ x, x = l[k] := ⟨_, rfl⟩
      rw [← hx] at hcell hfill
      have HLAT := Lib.hid hlat
      have HLAT2 := Lib.hid (hlat.set_ (p := ⟨g, k, none⟩) (by have := HG.out; simp; omega) (.int .u64 1))
      cases x
      · have hz := set_same (nbits l) k l.length (nbits_length l) hlt
        rw [show Bool.toNat false = 0 from rfl, hz] at hfill
        rw [hfill] at hrow
        have HROW := Lib.hid hrow
        clear hrow hlat hfill hz hc hx R0 hr
        go_wp2_with fail
        go_roundw
        case rel => exact ⟨k + 1, by omega, by go_num, HROW.out, HLAT.out⟩
        case measure => simp [intOf]; omega
      · have HROW := Lib.hid (hrow.set' k 1 1 rfl _ hfill)
        clear hrow hlat hfill hc hx R0 hr
        go_wp2_with fail
        go_roundw
        case rel => exact ⟨k + 1, by omega, by go_num, HROW.out, HLAT2.out⟩
        case measure => simp [intOf]; omega
    · obtain rfl : k = l.length := by omega
      rw [Nat.sub_self, List.replicate_zero, List.append_nil, List.take_of_length_le (by rw [nbits_length]; exact Nat.le_refl _)] at hrow
      have hgl := hrow.lt
      have HC := Lib.hid (refBitsPut_yes (some ⟨g, 0, none⟩) l.length l.length (nbits l) 1 1 ((l.length + 7) / 8) wr.heap.size wr (nbits_length l).symm rfl (by rw [nbits_length, Nat.mul_one]) rfl hrow.rd (by rw [nbits_length]; exact hl)
        (fun x hx => by have := nbits_lt l x hx; omega) (by decide) ((widL_le _ _).2 (nbits_lt l)))
      have HLAT := Lib.hid hlat
      clear hrow hlat R0 hr
      go_wp2_with fail
      refine HC.out.mono ?_
      rintro e w2 ⟨rfl, r2, b2⟩
      have HR2 := Lib.hid r2
      have l2 : Later wr w2 := b2
      clear HC r2 b2
      go_wp2_with fail
      go_ret
      exact ⟨_, rfl, HR2.out, HLAT.out.trans l2⟩
end Go.Proofs.YtbmlipandjbbbabDoor
