/- Package log: Size, blocks, block, check, slotGen, find, load. -/
import Derived.Test.YtfplppldojlanaaDoorDevG
import Derived.Test.YtfplppldojlanaaDoorDevE
import Derived.Test.YtfplppldojlanaaDoorTagB
import Derived.Test.YtfplppldojlanaaDoorLogN
import Derived.Test.YtfplppldojlanaaDoorAsL
import Derived.Test.YtfplppldojlanaaDoorIs
import Derived.Test.YtfplppldojlanaaDoorHighT
import Derived.Deep.CutBlock
import Derived.Deep.CutRange
namespace Go.Proofs.YtfplppldojlanaaDoor
open Go.RowKit
set_option linter.unusedVariables false

abbrev lptr (q : Nat) : Value := .pointer (some ⟨q, 0, none⟩)
/-- A log in memory. -/
abbrev LogBk (w : World) (q p area gen used : Nat) : Prop := Blk w q #[dptr p, .int .i64 (area : Int), .int .u32 (gen : Int), .int .i64 (used : Int)] 61
/-- The sentinels of log. -/
structure S21 (w : World) (a : Addr) : Prop where
  torn : S20 w
  err : ErrT w
  whole : w.cell? ⟨0, 0, none⟩ = some (.iface 131 (.pointer (some a)))
theorem S21.later {w w' : World} {a : Addr} (h : S21 w a) (l : Later w w') : S21 w' a := ⟨h.torn.later l, h.err.later l, l.cell h.whole⟩

theorem logSize_any (area : Nat) (w : World) (h : area ≤ 100000) : Calls Tryd.prog 10 #[.int .i64 area] w fun e w' => e = .returned (.int .i64 (2 + 2 * (area : Int))) ∧ w = w' := by
  have h1 : IntKind.i64.wrap (2 * (area : Int)) = 2 * (area : Int) := IntWalk.i64_in _ ⟨by omega, by omega⟩
  have h2 : IntKind.i64.wrap (2 + 2 * (area : Int)) = 2 + 2 * (area : Int) := IntWalk.i64_in _ ⟨by omega, by omega⟩
  go_enter Tryd.func10, Tryd.ntmps10
  go_wp2_with fail
  go_ret
  exact ⟨rfl, rfl⟩
theorem logBlocks_any (m : Nat) (w : World) (h : m ≤ 100000) : Calls Tryd.prog 37 #[.int .i64 m] w fun e w' => e = .returned (.int .i64 ((blkN m : Nat) : Int)) ∧ w = w' := by
  have h1 : IntKind.i64.wrap (4 + (m : Int)) = 4 + (m : Int) := IntWalk.i64_in _ ⟨by omega, by omega⟩
  have h2 : IntKind.i64.wrap (4 + (m : Int) + 110) = 4 + (m : Int) + 110 := IntWalk.i64_in _ ⟨by omega, by omega⟩
  have h3 : IntKind.i64.wrap (4 + (m : Int) + 110 - 1) = 4 + (m : Int) + 110 - 1 := IntWalk.i64_in _ ⟨by omega, by omega⟩
  have h4 : (4 + (m : Int) + 110 - 1).tdiv 110 = ((blkN m : Nat) : Int) := by
    rw [Int.tdiv_eq_ediv_of_nonneg (by omega)]
    unfold blkN
    omega
  have h5 : IntKind.i64.wrap ((blkN m : Nat) : Int) = ((blkN m : Nat) : Int) := IntWalk.i64_in _ (by unfold blkN; exact ⟨by omega, by omega⟩)
  go_enter Tryd.func37, Tryd.ntmps37
  go_wp2_with fail
  go_ret
  exact ⟨rfl, rfl⟩
theorem logBlock_any (q p area gen used g seq : Nat) (w : World) (h : LogBk w q p area gen used) (ha : area ≤ 100000) (hs : seq ≤ 100000) (hg : g < 4294967296) :
    Calls Tryd.prog 40 #[lptr q, .int .u32 g, .int .i64 seq] w fun e w' => e = .returned (.int .i64 ((offG area g + seq : Nat) : Int)) ∧ w = w' := by
  have c1 := h.cell 1 _ rfl
  have h1 : (g : Int).tmod 2 = ((g % 2 : Nat) : Int) := by rw [Int.tmod_eq_emod_of_nonneg (by omega)]; omega
  obtain ⟨b, hb⟩ : ∃ b, g % 2 = b := ⟨_, rfl⟩
  have hb1 : b = 0 ∨ b = 1 := by omega
  rw [hb] at h1
  have he : offG area g + seq = 2 + b * area + seq := by unfold offG; rw [hb]
  have HE := Lib.hid he
  have h2 : IntKind.u32.wrap (b : Int) = (b : Int) := by rcases hb1 with rfl | rfl <;> rfl
  have h3 : IntKind.i64.wrap (b : Int) = (b : Int) := by rcases hb1 with rfl | rfl <;> rfl
  have h4 : (b : Int) * (area : Int) = ((b * area : Nat) : Int) := by push_cast; rfl
  have hle : b * area ≤ 100000 := by rcases hb1 with rfl | rfl <;> omega
  have h5 : IntKind.i64.wrap ((b * area : Nat) : Int) = ((b * area : Nat) : Int) := IntWalk.i64_in _ ⟨by omega, by omega⟩
  have h6 : IntKind.i64.wrap (2 + ((b * area : Nat) : Int)) = 2 + ((b * area : Nat) : Int) := IntWalk.i64_in _ ⟨by omega, by omega⟩
  have h7 : IntKind.i64.wrap (2 + ((b * area : Nat) : Int) + (seq : Int)) = 2 + ((b * area : Nat) : Int) + (seq : Int) := IntWalk.i64_in _ ⟨by omega, by omega⟩
  generalize hq : b * area = x at h4 h5 h6 h7 hle
  rw [hq] at he
  have HE := Lib.hid he
  clear h hb he hq
  go_enter Tryd.func40, Tryd.ntmps40
  go_wp2_with fail
  go_ret
  rw [HE.out]
  exact ⟨by push_cast; rfl, rfl⟩
/-- Whether a device has room for a log. -/
def FitsD (B : Nat) (area : Int) : Prop := 1 ≤ area ∧ area ≤ 1000 ∧ 2 + 2 * area ≤ (B : Int)
/-- What check tells. -/
def ChkP (ok : Prop) (n : Int) (w : World) (r : Ending) (w' : World) : Prop := ((ok ∧ r = .returned .nilIface) ∨ (¬ ok ∧ ∃ v, r = .returned v ∧ WrapsE w' v n)) ∧ Later w w'
set_option maxRecDepth 100000 in
theorem logCheck_nil (area : Int) (w : World) : Calls Tryd.prog 22 #[.pointer none, .int .i64 area] w (ChkP False 1 w) := by
  have HA := Lib.hid (fun W => at_e ⟨#[97, 114, 101, 97]⟩ area 1 W)
  have HO := Lib.hid (fun W => of_some 1 W (by decide))
  go_enter Tryd.func22, Tryd.ntmps22
  go_wp2_with fail
  refine (HO.out _).mono ?_
  rintro e w1 ⟨rfl, rfl⟩
  go_wp2_with fail
  refine (HA.out _).mono ?_
  rintro e w2 ⟨v, rfl, hv, l⟩
  go_wp2_with fail
  go_ret
  exact ⟨.inr ⟨id, v, rfl, hv⟩, l⟩
set_option maxRecDepth 100000 in
theorem logCheck_any (base p gs gn B cs cn : Nat) (A : Option Addr) (cf : Nat) (d : D) (area : Int) (w : World) (h : DA w base p gs gn B cs cn A cf d) (hB : B ≤ 4000) : Calls Tryd.prog 22 #[dptr p, .int .i64 area] w (ChkP (FitsD B area) 1 w) := by
  have HA := Lib.hid (fun W => at_e ⟨#[97, 114, 101, 97]⟩ area 1 W)
  have HO := Lib.hid (fun W => of_some 1 W (by decide))
  have HBL := Lib.hid (devBlocks_any p gn B cn w h.c1)
  clear h
  by_cases h1 : area < 1
  · have d1 : decide (area < 1) = true := by simpa using h1
    have HN := Lib.hid (show ¬ FitsD B area from fun h => by have := h.1; omega)
    clear h1
    go_enter Tryd.func22, Tryd.ntmps22
    go_wp2_with fail
    refine (HO.out _).mono ?_
    rintro e w1 ⟨rfl, rfl⟩
    go_wp2_with fail
    refine (HA.out _).mono ?_
    rintro e w2 ⟨v, rfl, hv, l⟩
    go_wp2_with fail
    go_ret
    exact ⟨.inr ⟨HN.out, v, rfl, hv⟩, l⟩
  · have d1 : decide (area < 1) = false := by simpa using h1
    by_cases h2 : 1000 < area
    · have d2 : decide (1000 < area) = true := by simpa using h2
      have HN := Lib.hid (show ¬ FitsD B area from fun h => by have := h.2.1; omega)
      clear h1 h2
      go_enter Tryd.func22, Tryd.ntmps22
      go_wp2_with fail
      refine (HO.out _).mono ?_
      rintro e w1 ⟨rfl, rfl⟩
      go_wp2_with fail
      refine (HA.out _).mono ?_
      rintro e w2 ⟨v, rfl, hv, l⟩
      go_wp2_with fail
      go_ret
      exact ⟨.inr ⟨HN.out, v, rfl, hv⟩, l⟩
    · have d2 : decide (1000 < area) = false := by simpa using h2
      obtain ⟨a, rfl⟩ : ∃ a : Nat, area = (a : Int) := ⟨area.toNat, by omega⟩
      have HSZ := Lib.hid (logSize_any a w (by omega))
      by_cases h3 : (B : Int) < 2 + 2 * (a : Int)
      · have d3 : decide ((B : Int) < 2 + 2 * (a : Int)) = true := by simpa using h3
        have HN := Lib.hid (show ¬ FitsD B (a : Int) from fun h => by have := h.2.2; omega)
        clear h1 h2 h3
        go_enter Tryd.func22, Tryd.ntmps22
        go_wp2_with fail
        refine HBL.out.mono ?_
        rintro e w1 ⟨rfl, rfl⟩
        go_wp2_with fail
        refine HSZ.out.mono ?_
        rintro e w1 ⟨rfl, rfl⟩
        go_wp2_with fail
        refine (HO.out _).mono ?_
        rintro e w1 ⟨rfl, rfl⟩
        go_wp2_with fail
        refine (HA.out _).mono ?_
        rintro e w2 ⟨v, rfl, hv, l⟩
        go_wp2_with fail
        go_ret
        exact ⟨.inr ⟨HN.out, v, rfl, hv⟩, l⟩
      · have d3 : decide ((B : Int) < 2 + 2 * (a : Int)) = false := by simpa using h3
        have HY := Lib.hid (show FitsD B (a : Int) from ⟨by omega, by omega, by omega⟩)
        clear h1 h2 h3
        go_enter Tryd.func22, Tryd.ntmps22
        go_wp2_with fail
        refine HBL.out.mono ?_
        rintro e w1 ⟨rfl, rfl⟩
        go_wp2_with fail
        refine HSZ.out.mono ?_
        rintro e w1 ⟨rfl, rfl⟩
        go_wp2_with fail
        go_ret
        exact ⟨.inl ⟨HY.out, rfl⟩, Later.refl _⟩
end Go.Proofs.YtfplppldojlanaaDoor
