/- What a crash leaves of a block: slices.Grow, Concat; package dev: mixed, kept. -/
import Derived.Test.YtfplppldojlanaaDoorDevE
import Derived.Lib.AppendZeros
namespace Go.Proofs.YtfplppldojlanaaDoor
open Go.RowKit
set_option linter.unusedVariables false

/-- A row of bytes with room, none in it yet. -/
def RoomP (w : World) (e : Ending) (w' : World) : Prop := ∃ g c, e = .returned (.slice (some ⟨g, 0, none⟩) 0 c) ∧ w'.ownsRow w.heap.size 5 1 (.slice (some ⟨g, 0, none⟩) 0 c) 0 [] ∧ Later w w'
theorem grown_zeros (w : World) (n : Nat) (hn : 1 ≤ n) (hn2 : n ≤ 100000) : ∃ c w', (Builtin.append_ #[24, 3] 24 #[.slice none 0 0, .int .i64 (n : Int)]).run Tryd.prog w = .ok (.slice (some ⟨w.heap.size, 0, none⟩) n c) w' ∧ n ≤ c ∧ c ≤ maxLen ∧ Later w w' ∧ w'.ownsRow w.heap.size 5 1 (.slice (some ⟨w.heap.size, 0, none⟩) 0 c) 0 [] := by
  obtain ⟨i, hi, hz, hsz, hby⟩ := info_parts info_u8
  have hr := Lib.run_append_nil_zeros (P := Tryd.prog) w 24 3 24 5 i (.int .u8 0) .i64 .i64 Tryd.underlying24 Tryd.underlying3 hi hz n (by omega) (by omega) (by omega) (by rw [hby]; omega)
  have hge := grownCap_ge w n 0 5
  have hcm : grownCap w n 0 5 ≤ maxLen := grownCap_le_maxLen w n 0 5 (by unfold maxLen; omega)
  refine ⟨_, _, hr, hge, hcm, (Later.refl w).drew.alloc _, by simp, .inr ⟨w.heap.size, _, _, rfl, Nat.le_refl _, heap_alloc_new w.drew _, Nat.zero_le _, hcm, ?_, by simp⟩⟩
  simp only [Array.size_append, size_zeroCells, Value.cells]
  simp
  omega

set_option maxRecDepth 100000 in
set_option maxHeartbeats 1000000 in
theorem growNil_any (n : Nat) (w : World) (hn : 1 ≤ n) (hn2 : n ≤ 100000) :
    Calls Tryd.prog 58 #[.slice none 0 0, .int .i64 n] w (RoomP w) := by
  obtain ⟨c, w', hrun, h1, h2, hl, ho⟩ := grown_zeros w n hn hn2
  have HR := Lib.hid hrun
  have HL := Lib.hid hl
  have HO := Lib.hid ho
  have d1 : decide ((n : Int) < 0) = false := by simp
  have d2 : decide ((0 : Int) < (n : Int)) = true := by simp; omega
  have hc0 : (0 : Int) ≤ (c : Int) := by omega
  clear hrun hl ho
  go_enter Tryd.func58, Tryd.ntmps58
  go_wp2_with (at_builtin; refine Lib.wpList_append_run _ rfl (.tmp 20) (.tmp 21) 24 3 rfl _ _ rfl rfl _ _ HR.out ?_)
  go_ret
  exact ⟨_, c, rfl, HO.out, HL.out⟩

def catJ (l1 l2 : List Nat) : Nat → List Nat
  | 0 => []
  | 1 => l1
  | _ => l1 ++ l2
def CcA (n1 n2 : Nat) (w : World) (sv iv : Value) (wr : World) : Prop :=
  ∃ j : Nat, j ≤ 2 ∧ iv = .int .i64 j ∧ sv = .int .i64 ((if j = 0 then 0 else if j = 1 then n1 else n1 + n2 : Nat) : Int) ∧ wr = w
theorem CcA.mk {n1 n2 : Nat} {w wr : World} (s a : Int) (j : Nat) (hj : j ≤ 2) (ha : a = (j : Int)) (hs : s = ((if j = 0 then 0 else if j = 1 then n1 else n1 + n2 : Nat) : Int)) (hw : wr = w) : CcA n1 n2 w (.int .i64 s) (.int .i64 a) wr := by
  subst ha hs; exact ⟨j, hj, rfl, rfl, hw⟩
def CcB (l1 l2 : List Nat) (base : Nat) (w : World) (sv iv : Value) (wr : World) : Prop :=
  ∃ (j : Nat) (A : Option Addr) (m c : Nat), j ≤ 2 ∧ iv = .int .i64 j ∧ sv = .slice A m c ∧ m = (catJ l1 l2 j).length ∧ wr.ownsRow base 5 1 (.slice A m c) m (ints .u8 (catJ l1 l2 j)) ∧ Later w wr
theorem CcB.mk {l1 l2 : List Nat} {base : Nat} {w wr : World} {A : Option Addr} {m c : Nat} (a : Int) (j : Nat) (hj : j ≤ 2) (ha : a = (j : Int)) (hm : m = (catJ l1 l2 j).length) (ho : wr.ownsRow base 5 1 (.slice A m c) m (ints .u8 (catJ l1 l2 j))) (hl : Later w wr) : CcB l1 l2 base w (.slice A m c) (.int .i64 a) wr := by
  subst ha; exact ⟨j, A, m, c, hj, rfl, rfl, hm, ho, hl⟩
/-- What Concat of two makes. -/
def CatP (l : List Nat) (w : World) (e : Ending) (w' : World) : Prop := ∃ A c, e = .returned (.slice A l.length c) ∧ w'.ownsRow w.heap.size 5 1 (.slice A l.length c) l.length (ints .u8 l) ∧ Later w w'

set_option maxRecDepth 100000 in
set_option maxHeartbeats 4000000 in
theorem concat2_any (gl cl : Nat) (A1 A2 : Option Addr) (n1 n2 c1 c2 : Nat) (l1 l2 : List Nat) (w : World) (h1 : n1 = l1.length) (h2 : n2 = l2.length) (hn : 1 ≤ n1 + n2) (hn2 : n1 + n2 ≤ 1000) (hcl : 2 ≤ cl)
    (k0 : w.cell? ⟨gl, 0, none⟩ = some (.slice A1 n1 c1)) (k1 : w.cell? ⟨gl, 1, none⟩ = some (.slice A2 n2 c2)) (r1 : Has w A1 (ints .u8 l1)) (r2 : Has w A2 (ints .u8 l2)) (z1 : A1 = none → c1 = 0) (z2 : A2 = none → c2 = 0) :
    Calls Tryd.prog 44 #[.slice (some ⟨gl, 0, none⟩) 2 cl] w (CatP (l1 ++ l2) w) := by
  have HNB := Lib.hid hn2
  have HG := Lib.hid (growNil_any (n1 + n2) w hn (by omega))
  have H1 := Lib.hid h1
  have H2 := Lib.hid h2
  have HR1 := Lib.hid r1
  have HR2 := Lib.hid r2
  have HZ1 := Lib.hid z1
  have HZ2 := Lib.hid z2
  have HK0 := Lib.hid (show CellIs w ⟨gl, 0, none⟩ (.slice A1 n1 c1) from k0)
  have HK1 := Lib.hid (show CellIs w ⟨gl, 1, none⟩ (.slice A2 n2 c2) from k1)
  clear h1 h2 r1 r2 z1 z2
  go_enter Tryd.func44, Tryd.ntmps44
  go_wp2_with fail
  go_loopw [3, 11] (fun sv iv wr => CcA n1 n2 w sv iv wr) (fun _ iv _ => 2 - (intOf iv).toNat)
  case atStart => exact CcA.mk 0 0 0 (by decide) rfl rfl rfl
  case round =>
    obtain ⟨j, hj, rfl, rfl, hww⟩ := hrel
    have hww := hww.symm
    subst hww
    obtain rfl | rfl | rfl : j = 0 ∨ j = 1 ∨ j = 2 := by omega
    · go_wp2_with fail
      go_roundw
      case rel => exact CcA.mk _ _ 1 (by decide) (by go_num) (by go_num) rfl
      case measure => simp [intOf]
    · go_wp2_with fail
      go_roundw
      case rel => exact CcA.mk _ _ 2 (by decide) (by go_num) (by go_num) rfl
      case measure => simp [intOf]
    · have hcast : ((if (2 : Nat) = 0 then 0 else if (2 : Nat) = 1 then n1 else n1 + n2 : Nat) : Int) = ((n1 + n2 : Nat) : Int) := rfl
      rw [hcast]
      have hnn : ¬ (((n1 + n2 : Nat) : Int) < 0) := by omega
      clear hcast
      obtain ⟨nn, hnn2⟩ : ∃ nn, n1 + n2 = nn := ⟨_, rfl⟩
      rw [hnn2] at HG ⊢
      go_wp2_with fail
      refine HG.out.mono ?_
      rintro e w2 ⟨g, c, rfl, ho, l2'⟩
      have HI := Lib.hid (show CcB l1 l2 w.heap.size w (.slice (some ⟨g, 0, none⟩) 0 c) (.int .i64 0) w2 from CcB.mk 0 0 (by decide) rfl rfl ho l2')
      clear ho l2' HG k0 k1
      go_wp2_with fail
      go_loopw [6, 27] (fun sv iv wx => CcB l1 l2 w.heap.size w sv iv wx) (fun _ iv _ => 2 - (intOf iv).toNat)
      case atStart => exact HI.out
      case round =>
        obtain ⟨j, SA, m, sc, hj, rfl, rfl, hm, how, hla⟩ := hrel
        obtain rfl | rfl | rfl : j = 0 ∨ j = 1 ∨ j = 2 := by omega
        · have c0 := (HK0.out.later hla).out
          have c1' := (HK1.out.later hla).out
          have HRX := Lib.hid (HR1.out.later hla)
          have HOW := Lib.hid how
          have HLA := Lib.hid hla
          have HM := Lib.hid hm
          have hmb : m ≤ 1000 := by have := hm; simp [catJ] at this; have := H1.out; omega
          have HMB := Lib.hid hmb
          clear how hla hm hmb
          go_wp2_with (at_builtin; refine wpList_append_rd _ rfl (.tmp 31) (.tmp 32) 24 rfl w.heap.size 5 (.int .u8 0) 1 Tryd.underlying24 info_u8 rfl _ m (ints .u8 (catJ l1 l2 0)) rfl HOW.out _ A1 n1 c1 (ints .u8 l1) rfl HRX.out.rd (by rw [ints_length]; exact H1.out) HZ1.out (ints_one _ _) (by have := HMB.out; have := HNB.out; unfold maxLen; omega) (by have := HMB.out; have := HNB.out; omega) ?_ ?_; (exact HLA.out.size); intro A6 c6 w6 o6 g6 b6 n6; have HI6 := Lib.hid (show CcB l1 l2 w.heap.size w (.slice A6 (m + n1) c6) (.int .i64 (0 + 1)) w6 from CcB.mk _ (0 + 1) (by decide) (by rfl) (by rw [HM.out, H1.out]; simp [catJ]) (by rw [show catJ l1 l2 (0 + 1) = catJ l1 l2 0 ++ l1 from by simp [catJ], ints_snoc]; exact o6) (Later.of (Below.trans HLA.out.below b6))); clear o6 g6 b6 n6)
          go_roundw
          case rel => exact HI6.out
          case measure => simp [intOf]
        · have c0 := (HK0.out.later hla).out
          have c1' := (HK1.out.later hla).out
          have HRX := Lib.hid (HR2.out.later hla)
          have HOW := Lib.hid how
          have HLA := Lib.hid hla
          have HM := Lib.hid hm
          have hmb : m ≤ 1000 := by have := hm; simp [catJ] at this; have := H1.out; omega
          have HMB := Lib.hid hmb
          clear how hla hm hmb
          go_wp2_with (at_builtin; refine wpList_append_rd _ rfl (.tmp 31) (.tmp 32) 24 rfl w.heap.size 5 (.int .u8 0) 1 Tryd.underlying24 info_u8 rfl _ m (ints .u8 (catJ l1 l2 1)) rfl HOW.out _ A2 n2 c2 (ints .u8 l2) rfl HRX.out.rd (by rw [ints_length]; exact H2.out) HZ2.out (ints_one _ _) (by have := HMB.out; have := HNB.out; unfold maxLen; omega) (by have := HMB.out; have := HNB.out; omega) ?_ ?_; (exact HLA.out.size); intro A6 c6 w6 o6 g6 b6 n6; have HI6 := Lib.hid (show CcB l1 l2 w.heap.size w (.slice A6 (m + n2) c6) (.int .i64 (1 + 1)) w6 from CcB.mk _ (1 + 1) (by decide) (by rfl) (by rw [HM.out, H2.out]; simp [catJ]) (by rw [show catJ l1 l2 (1 + 1) = catJ l1 l2 1 ++ l2 from by simp [catJ], ints_snoc]; exact o6) (Later.of (Below.trans HLA.out.below b6))); clear o6 g6 b6 n6)
          go_roundw
          case rel => exact HI6.out
          case measure => simp [intOf]
        · have HP := Lib.hid (show CatP (l1 ++ l2) w (.returned (.slice SA m sc)) wr from by
            have hm2 : m = (l1 ++ l2).length := hm
            subst hm2
            exact ⟨SA, sc, rfl, how, hla⟩)
          clear how hla hm
          go_wp2_with fail
          go_ret
          exact HP.out
end Go.Proofs.YtfplppldojlanaaDoor
