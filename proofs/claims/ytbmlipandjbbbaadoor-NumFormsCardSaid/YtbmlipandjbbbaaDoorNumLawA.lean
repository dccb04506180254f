/- begun of law 2, and the walk of NumBack. -/
import Derived.Test.YtbmlipandjbbbaaDoorNumB
import Derived.Test.YtbmlipandjbbbaaDoorStr
namespace Go.Proofs.YtbmlipandjbbbaaDoor
open Go.RowKit
set_option linter.unusedVariables false

theorem Sent.more {w : World} {B B' : Nat} {a : Addr} (h : Sent w B a) (hB : B ≤ B') : Sent w B' a := ⟨h.cell, Nat.lt_of_lt_of_le h.lt hB⟩
theorem run_cv (A : Option Addr) (n c : Nat) (l : List Nat) (hn : n = l.length) (w : World) (B : Nat) (hr : Rd w B A (ints .u8 l)) :
    (convert 24 9 (.slice A n c)).run Tryd.prog w = .ok (.string (bstr l)) w :=
  run_bstr 24 5 9 Tryd.underlying24 Tryd.underlying5 Tryd.underlying9 A n c l hn w B hr

set_option maxRecDepth 100000 in
theorem begun2_any (a : Addr) (w : World) (hs : Sent w w.heap.size a) : Calls Tryd.prog 24 #[] w fun e w' => e = .returned (.bool true) ∧ Below w.heap.size w w' := by
  have HS := Lib.hid hs
  clear hs
  go_enter Tryd.func24, Tryd.ntmps24
  go_wp2_with fail
  refine (put_makes 300 (by decide) w).mono ?_
  rintro e w1 ⟨A, c, rfl, o1, b1, n1⟩
  have e1 : putNum 300 = [172, 2] := by decide
  rw [e1] at o1 ⊢
  have z1 := b1.size
  have S1 := Lib.hid ((HS.out.below b1).more z1)
  have B1 := Lib.hid b1
  have R1 := Lib.hid (Rd.own o1)
  clear e1 o1 b1 n1
  go_wp2_with fail
  refine (take_num A 2 c [172, 2] a w1 _ rfl R1.out (by decide) (by decide) S1.out).mono ?_
  rintro e w2 ⟨v, n, ok, hR, rfl, b2⟩
  have hR' : takeR [172, 2] = (300, 2, true) := by decide
  rw [hR'] at hR
  obtain ⟨rfl, rfl, rfl⟩ : v = 300 ∧ n = 2 ∧ ok = true := by
    injection hR with h1 h2; injection h2 with h2 h3; exact ⟨h1.symm, h2.symm, h3.symm⟩
  have z2 := b2.size
  have S2 := Lib.hid ((S1.out.below b2).more z2)
  have B2 := Lib.hid (B1.out.trans (b2.mono z1))
  have R2 := Lib.hid (R1.out.below b2)
  clear hR hR' b2 B1 R1 S1
  go_wp2_with fail
  have b3 : Below w2.heap.size w2 (w2.alloc (.cells #[.int .u8 128] 5)) := (Below.refl _ _).alloc (Nat.le_refl _) _
  have S3 := Lib.hid ((S2.out.below b3).more b3.size)
  have B3 := Lib.hid (B2.out.trans (b3.mono (by omega)))
  have R3 := Lib.hid ((R2.out.more z2).below b3)
  have z3 := b3.size
  have RL := Lib.hid (rd_lit w2 5 .u8 [128] _ rfl)
  clear b3 S2 B2 R2
  obtain ⟨w3, hw3⟩ : ∃ w3 : World, w2.alloc (.cells #[.int .u8 128] 5) = w3 := ⟨_, rfl⟩
  rw [hw3] at S3 B3 R3 z3 ⊢
  have RL' := Lib.hid (show Rd w3 _ _ _ from hw3 ▸ RL.out)
  clear hw3 RL
  refine (take_num (some ⟨w2.heap.size, 0, none⟩) 1 1 [128] a w3 _ rfl RL'.out (by decide) (by decide) S3.out).mono ?_
  rintro e w4 ⟨v, n, ok, hR, rfl, b4⟩
  have hR' : takeR [128] = (0, 0, false) := by decide
  rw [hR'] at hR
  obtain ⟨rfl, rfl, rfl⟩ : v = 0 ∧ n = 0 ∧ ok = false := by
    injection hR with h1 h2; injection h2 with h2 h3; exact ⟨h1.symm, h2.symm, h3.symm⟩
  have hcv := run_cv A 2 c [172, 2] rfl w4 _ ((R3.out.more z3).below b4)
  rw [show bstr [172, 2] = (⟨#[172, 2]⟩ : ByteArray) from rfl] at hcv
  have B4 := Lib.hid (B3.out.trans (b4.mono (by omega)))
  clear hR hR' b4 B3 R3 RL' S3
  go_wp2_with (first
    | (go_at_call 29; refine (zig_any (-1) w4 (by omega) (by omega)).mono ?_; rintro e w' ⟨rfl, rfl⟩)
    | (go_at_call 31; refine (zag_any 2 w4 (by omega)).mono ?_; rintro e w' ⟨rfl, rfl⟩))
  go_ret
  exact ⟨rfl, B4.out⟩
end Go.Proofs.YtbmlipandjbbbaaDoor
