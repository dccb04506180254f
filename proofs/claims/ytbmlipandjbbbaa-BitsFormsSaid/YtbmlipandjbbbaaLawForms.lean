/- The walk of BitsForms: true. -/
import Derived.Test.YtbmlipandjbbbaaLawA
namespace Go.Proofs.Ytbmlipandjbbbaa
open Go.RowKit
set_option linter.unusedVariables false

set_option maxRecDepth 100000 in
set_option maxHeartbeats 1000000 in
theorem forms_walk (w : World) : Calls Try.prog 5 #[] w fun e w' => e = .returned (.bool true) ∧ Below w.heap.size w w' := by
  go_enter Try.func5, Try.ntmps5
  go_wp2_with fail
  refine (begun_any _).mono ?_
  rintro e wb ⟨rfl, bb⟩
  have BB := Lib.hid bb
  have zb := bb.size
  clear bb
  go_wp2_with fail
  refine (put_yes (some ⟨wb.heap.size, 0, none⟩) 2 2 [18446744073709551615, 1] 64 64 16 (wb.heap.size + 1) _ rfl rfl rfl (by simp) (rd_lit wb _ .u64 [18446744073709551615, 1] _ rfl) (by simp) (by decide) (by decide) (by decide)).mono ?_
  rintro e w1 ⟨rfl, r1, b1⟩
  have B1 : Below w.heap.size w w1 := (BB.out.alloc zb _).trans (b1.mono (by omega))
  have z1 := r1.lt
  have R1 := Lib.hid (show Row w1 (wb.heap.size + 1) 5 .u8 [255, 255, 255, 255, 255, 255, 255, 255, 1, 0, 0, 0, 0, 0, 0, 0] from r1)
  have HB1 := Lib.hid B1
  clear r1 b1 B1 BB
  go_wp2_with fail
  refine (put_yes (some ⟨w1.heap.size, 0, none⟩) 4 4 [5, 0, 7, 2] 3 3 2 (w1.heap.size + 1) _ rfl rfl rfl (by simp) (rd_lit w1 _ .u64 [5, 0, 7, 2] _ rfl) (by simp) (by decide) (by decide) (by decide)).mono ?_
  rintro e w2 ⟨rfl, r2, b2⟩
  have B2 : Below w.heap.size w w2 := (HB1.out.alloc (by omega) _).trans (b2.mono (by omega))
  have z2 := r2.lt
  have R12 := Lib.hid (((R1.out).alloc _).below b2 (by omega))
  have R2 := Lib.hid (show Row w2 (w1.heap.size + 1) 5 .u8 [197, 5] from r2)
  have HB2 := Lib.hid B2
  clear r2 b2 B2 HB1 R1
  go_wp2_with fail
  refine (put_yes (some ⟨w2.heap.size, 0, none⟩) 2 2 [0, 0] 0 0 0 (w2.heap.size + 1) _ rfl rfl rfl (by simp) (rd_lit w2 _ .u64 [0, 0] _ rfl) (by simp) (by decide) (by decide) (by decide)).mono ?_
  rintro e w3 ⟨rfl, r3, b3⟩
  have B3 : Below w.heap.size w w3 := (HB2.out.alloc (by omega) _).trans (b3.mono (by omega))
  have z3 := r3.lt
  have R13 := Lib.hid (((R12.out).alloc _).below b3 (by omega))
  have R23 := Lib.hid (((R2.out).alloc _).below b3 (by omega))
  have HB3 := Lib.hid B3
  clear r3 b3 B3 HB2 R12 R2
  go_wp2_with fail
  refine (put_no none 0 0 [] 65 _ 0 rfl (.inl rfl) (by simp) (by simp) (by decide)).mono ?_
  rintro e w4 ⟨rfl, rfl⟩
  go_wp2_with fail
  refine (put_no none 0 0 [] (-1) _ 0 rfl (.inl rfl) (by simp) (by simp) (by decide)).mono ?_
  rintro e w4 ⟨rfl, rfl⟩
  go_wp2_with fail
  refine (take_no (some ⟨w3.heap.size, 0, none⟩) 1 1 [128] 7 1 _ (w3.heap.size + 1) rfl (rd_lit w3 _ .u8 [128] _ rfl) (by decide) (by decide) (notOK 7 1 rfl rfl (by decide))).mono ?_
  rintro e w4 ⟨rfl, hw4⟩
  have HB4 := Lib.hid (show Below w.heap.size w w4 from hw4 ▸ HB3.out.alloc (by omega) _)
  have R14 := Lib.hid (show Row w4 _ _ _ _ from hw4 ▸ R13.out.alloc _)
  have R24 := Lib.hid (show Row w4 _ _ _ _ from hw4 ▸ R23.out.alloc _)
  clear R13 R23 HB3
  have z4 : w4.heap.size = w3.heap.size + 1 := by rw [← hw4]; simp
  have HZ4 := Lib.hid z4
  clear hw4 z4
  go_wp2_with fail
  refine (take_yes (some ⟨w4.heap.size, 0, none⟩) 1 1 [64] 7 1 7 1 (w4.heap.size + 1) _ rfl rfl rfl (by simp) (rd_lit w4 _ .u8 [64] _ rfl) (by decide) (by decide) (by decide) (by decide) (by decide) (by decide)).mono ?_
  rintro e w5 ⟨rfl, r5, b5⟩
  have q4 := HZ4.out
  have B5 : Below w.heap.size w w5 := (HB4.out.alloc (by omega) _).trans (b5.mono (by omega))
  have z5 := r5.lt
  have R15 := Lib.hid (((R14.out).alloc _).below b5 (by omega))
  have R25 := Lib.hid (((R24.out).alloc _).below b5 (by omega))
  have HB5 := Lib.hid B5
  have z5' : w3.heap.size < w5.heap.size := by omega
  clear r5 b5 B5 HB4 R14 R24 q4 HZ4
  go_wp2_with fail
  refine (take_no none 0 0 [] 1001 0 _ 0 rfl (.inl rfl) (by simp) (by simp) (notOK_arg (by decide))).mono ?_
  rintro e w6 ⟨rfl, rfl⟩
  go_wp2_with fail
  refine (take_no none 0 0 [] (-1) 0 _ 0 rfl (.inl rfl) (by simp) (by simp) (notOK_arg (by decide))).mono ?_
  rintro e w6 ⟨rfl, rfl⟩
  go_wp2_with fail
  refine (take_yes none 0 0 [] 1000 0 1000 0 w5.heap.size _ rfl rfl rfl rfl (.inl rfl) (by simp) (by simp) (by decide) (by decide) (by decide) (by decide)).mono ?_
  rintro e w6 ⟨rfl, r6, b6⟩
  have B6 : Below w.heap.size w w6 := HB5.out.trans (b6.mono (by omega))
  have r1 := R15.out.below b6 (by omega)
  have r2 := R25.out.below b6 (by omega)
  have c7 := r1.cell 7 (by decide)
  have c8 := r1.cell 8 (by decide)
  have c9 := r1.cell 9 (by decide)
  have hcv := run_cv (some ⟨w1.heap.size + 1, 0, none⟩) 2 2 [197, 5] rfl _ _ r2.rd
  rw [show bstr [197, 5] = (⟨#[197, 5]⟩ : ByteArray) from rfl] at hcv
  have HB6 := Lib.hid B6
  have z6 := r6.lt
  have W0 := Lib.hid (width_at none 0 0 [] 0 w6 0 rfl rfl (.inl rfl) (by simp) (by simp))
  have z7 : w.heap.size ≤ w6.heap.size := by omega
  clear r1 r2 r6 b6 B6 HB5 R15 R25
  go_wp2_with fail
  refine W0.out.mono ?_
  rintro e w7 ⟨rfl, rfl⟩
  go_wp2_with fail
  refine (width_at (some ⟨w6.heap.size, 0, none⟩) 1 1 [0] 0 _ _ rfl rfl (rd_lit w6 _ .u64 [0] _ rfl) (by simp) (by decide)).mono ?_
  rintro e w7 ⟨rfl, hw7⟩
  have HB7 := Lib.hid (show Below w.heap.size w w7 from hw7 ▸ HB6.out.alloc z7 _)
  have z8 : w.heap.size ≤ w7.heap.size := by rw [← hw7]; simp; omega
  clear hw7 hcv c7 c8 c9
  go_wp2_with fail
  refine (width_at (some ⟨w7.heap.size, 0, none⟩) 1 1 [18446744073709551615] 64 _ _ rfl (by decide) (rd_lit w7 _ .u64 [18446744073709551615] _ rfl) (by simp) (by decide)).mono ?_
  rintro e w8 ⟨rfl, hw8⟩
  have HB8 := Lib.hid (show Below w.heap.size w w8 from hw8 ▸ HB7.out.alloc z8 _)
  clear hw8
  go_wp2_with fail
  go_ret
  exact ⟨rfl, HB8.out⟩
end Go.Proofs.Ytbmlipandjbbbaa
