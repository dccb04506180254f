/- The law's own first step: begun. -/
import Derived.Test.YtbmlipandjbbbaaBitsG
import Derived.Test.YtbmlipandjbbbaaStr
import Derived.Test.YtbmlipandjbbbaaOpen
namespace Go.Proofs.Ytbmlipandjbbbaa
open Go.RowKit
set_option linter.unusedVariables false

theorem run_cv (A : Option Addr) (n c : Nat) (l : List Nat) (hn : n = l.length) (w : World) (B : Nat) (hr : Rd w B A (ints .u8 l)) :
    (convert 23 9 (.slice A n c)).run Try.prog w = .ok (.string (bstr l)) w :=
  run_bstr 23 5 9 Try.underlying23 Try.underlying5 Try.underlying9 A n c l hn w B hr

theorem begun_any (w : World) : Calls Try.prog 7 #[] w fun e w' => e = .returned (.bool true) ∧ Below w.heap.size w w' := by
  have hs1 : (w.alloc (.cells #[.int .u64 1, .int .u64 2, .int .u64 3] 32)).heap.size = w.heap.size + 1 := by simp
  have r1 : Row (w.alloc (.cells #[.int .u64 1, .int .u64 2, .int .u64 3] 32)) w.heap.size 32 .u64 [1, 2, 3] := Row.lit w _ .u64 [1, 2, 3]
  have P1 := Lib.hid (put_yes (some ⟨w.heap.size, 0, none⟩) 3 3 [1, 2, 3] 2 2 1 (w.heap.size + 1) _ rfl rfl rfl hs1.symm (by rw [← hs1]; exact r1.rd) (by simp) (by decide) (by decide) (by decide))
  clear r1
  go_enter Try.func7, Try.ntmps7
  go_wp2_with fail
  refine P1.out.mono ?_
  rintro e w1 ⟨rfl, r1, b1⟩
  have z1 := b1.size
  rw [hs1] at z1
  obtain ⟨B1, hB1⟩ : ∃ B1, B1 = w1.heap.size := ⟨_, rfl⟩
  have l1 := r1.lt
  rw [← hB1] at l1
  have e1 : chop 8 (cat 2 [1, 2, 3]) 1 = [57] := by decide
  rw [e1] at r1
  have T1 := Lib.hid (take_yes (some ⟨w.heap.size + 1, 0, none⟩) 1 1 [57] 3 2 3 2 B1 w1 rfl rfl rfl hB1 (by rw [hB1]; exact r1.rd) (by decide) (by decide) (by decide) (by decide) (by decide) (by decide))
  have C1 := Lib.hid (b1.mono (B' := w.heap.size) (by omega))
  have R1 := Lib.hid r1
  have HB1 := Lib.hid hB1
  clear r1 b1 e1 hs1 hB1
  go_wp2_with fail
  refine T1.out.mono ?_
  rintro e w2 ⟨rfl, r2, b2⟩
  have e2 : chop 2 (cat 8 [57]) 3 = [1, 2, 3] := by decide
  rw [e2] at r2
  have z2 := b2.size
  rw [← HB1.out] at z2
  have r1' := R1.out.below b2 (by omega)
  have b2' : Below w.heap.size w1 w2 := b2.mono (by omega)
  obtain ⟨B2, hB2⟩ : ∃ B2, B2 = w2.heap.size := ⟨_, rfl⟩
  have r3 : Row (w2.alloc (.cells #[.int .u64 4] 32)) B2 32 .u64 [4] := by rw [hB2]; exact Row.lit w2 _ .u64 [4]
  have P2 := Lib.hid (put_no (some ⟨w2.heap.size, 0, none⟩) 1 1 [4] 2 _ _ rfl (by rw [← hB2]; exact r3.rd) (by simp) (by decide) (by decide))
  have hcv := run_cv (some ⟨w.heap.size + 1, 0, none⟩) 1 1 [57] rfl _ _ (r1'.alloc (.cells #[.int .u64 4] 32)).rd
  have hcell := (r2.alloc (.cells #[.int .u64 4] 32)).cell 1 (by decide)
  have hsz3 : (w2.alloc (.cells #[.int .u64 4] 32)).heap.size = w2.heap.size + 1 := by simp
  have r4 : Row ((w2.alloc (.cells #[.int .u64 4] 32)).alloc (.cells #[.int .u64 5, .int .u64 1] 32)) (w2.heap.size + 1) 32 .u64 [5, 1] := by rw [← hsz3]; exact Row.lit _ _ .u64 [5, 1]
  have W1 := Lib.hid (width_at (some ⟨w2.heap.size + 1, 0, none⟩) 2 2 [5, 1] 3 _ _ rfl (by decide) r4.rd (by decide) (by decide))
  have CC := Lib.hid (C1.out)
  have BB := Lib.hid b2'
  have SS := Lib.hid b2'.size
  have SS1 := Lib.hid b2.size
  rw [show bstr [57] = (⟨#[57]⟩ : ByteArray) from rfl] at hcv
  clear r2 b2 e2 r1' b2' r3 hsz3 r4 hB2
  go_wp2_with fail
  refine P2.out.mono ?_
  rintro e w3 ⟨rfl, rfl⟩
  go_wp2_with (go_at_call 13; refine W1.out.mono ?_; rintro e w5 ⟨rfl, rfl⟩)
  go_ret
  have q1 := SS.out
  have q2 := HB1.out
  refine ⟨rfl, ((((Below.refl _ _).alloc (Nat.le_refl _) _).trans CC.out).trans BB.out).alloc (by omega) _ |>.alloc (by simp; omega) _⟩
end Go.Proofs.Ytbmlipandjbbbaa
