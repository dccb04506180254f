/- Walks of package bits, one contract a function: Len64 (the shelf's), Width. -/
import Derived.Test.YtfcedbhmbcbiaaaDoorBitsA
import Derived.Test.YtfcedbhmbcbiaaaDoorBitsMath
import Derived.Test.YtfcedbhmbcbiaaaDoorShelf
namespace Go.Proofs.YtfcedbhmbcbiaaaDoor
set_option linter.unusedVariables false
open Go.RowKit

theorem bitLenAux_wid : ∀ (f x : Nat), x < 2 ^ f → Lib.bitLenAux f x = wid x
  | 0, x, h => by
    have : x = 0 := by simpa using h
    subst this; rfl
  | f + 1, x, h => by
    unfold Lib.bitLenAux
    split
    · subst_vars; rfl
    · rename_i hx
      have h2 : x / 2 < 2 ^ f := by
        rw [Nat.pow_succ] at h
        exact (Nat.div_lt_iff_lt_mul (by omega)).2 h
      rw [bitLenAux_wid f _ h2, wid_half x (by omega), Nat.add_comm]

theorem len64_any (v : Nat) (hv : v < 18446744073709551616) (w : World) :
    Calls Tryd.prog 55 #[.int .u64 v] w fun e w' => e = .returned (.int .i64 (wid v : Int)) ∧ w = w' := by
  refine (Tryd.bits_Len64 (v : Int) w (by omega) (by omega)).mono fun e w' ⟨he, hw⟩ => ⟨?_, hw.symm⟩
  rw [he]
  have : Lib.bitLen (v : Int).toNat = wid v := by
    rw [Int.toNat_natCast]
    exact bitLenAux_wid 64 v (by simpa using hv)
  rw [this]


theorem width_any (A : Option Addr) (c : Nat) (l : List Nat) (w : World) (B : Nat) (hr : Rd w B A (ints .u64 l)) (hl : l.length ≤ 1000000) (h64 : ∀ x ∈ l, x < 18446744073709551616) :
    Calls Tryd.prog 39 #[.slice A l.length c] w fun e w' => e = .returned (.int .i64 (widL l : Int)) ∧ w = w' := by
  have hw := widL_le64
  have HR := Lib.hid hr
  clear hr
  go_enter Tryd.func39, Tryd.ntmps39
  go_wp2
  go_loop [3, 8] (fun m i => ∃ k : Nat, k ≤ l.length ∧ i = .int .i64 k ∧ m = .int .i64 (widL (l.take k) : Int)) (fun _ i => l.length - (intOf i).toNat)
  case atStart => exact ⟨0, Nat.zero_le _, rfl, rfl⟩
  case round =>
    obtain ⟨k, hk, rfl, rfl⟩ := hrel
    by_cases hlt : k < l.length
    · obtain ⟨b, off, rfl, hb, hc⟩ := HR.out.at_ (k := k) (by simpa [ints] using hlt)
      simp only [ints, List.getElem_map] at hc
      have hx := h64 _ (List.getElem_mem hlt)
      have HT := Lib.hid (widL_take l k hlt)
      obtain ⟨x, hxe⟩ : ∃ x, x = l[k] := ⟨_, rfl⟩
      rw [← hxe] at hc hx HT
      clear hxe
      go_wp2_with (go_at_call 55; refine (len64_any x hx _).mono ?_; rintro e w' ⟨rfl, rfl⟩)
      go_round
      case rel => exact ⟨k + 1, by omega, by go_num, by rw [HT.out, int_max]⟩
      case measure => simp [intOf]; omega
    · go_wp2
      go_ret
      exact ⟨ret_int (by rw [List.take_of_length_le (by omega)]), rfl⟩
end Go.Proofs.YtfcedbhmbcbiaaaDoor
