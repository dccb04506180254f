/- Walks of package cell: Take. -/
import Derived.Test.YtifejanbgobngaaDoorCellF
namespace Go.Proofs.YtifejanbgobngaaDoor
open Go.RowKit
set_option linter.unusedVariables false

/-- What Take tells. -/
def TakesC (o : Option (Int × List Nat × Nat)) (t : Int) (w : World) (e : Ending) (w' : World) : Prop :=
  ((o = none ∧ ∃ p, e = .returned (.tuple #[vagg 0 0 ⟨#[]⟩, .int .i64 0, .iface 90 (.pointer (some p))])) ∨
    ∃ i s n, o = some (i, s, n) ∧ e = .returned (.tuple #[vagg t i (bstr s), .int .i64 (n : Int), .nilIface])) ∧ Later w w'
theorem TakesC.no {o : Option (Int × List Nat × Nat)} {t : Int} {w w' : World} (h : o = none) {p : Addr} (l : Later w w') : TakesC o t w (.returned (.tuple #[vagg 0 0 ⟨#[]⟩, .int .i64 0, .iface 90 (.pointer (some p))])) w' := ⟨.inl ⟨h, p, rfl⟩, l⟩
theorem TakesC.yes {o : Option (Int × List Nat × Nat)} {t : Int} {w w' : World} {i : Int} {s : List Nat} {n : Nat} (h : o = some (i, s, n)) (l : Later w w') : TakesC o t w (.returned (.tuple #[vagg t i (bstr s), .int .i64 (n : Int), .nilIface])) w' := ⟨.inr ⟨i, s, n, h, rfl⟩, l⟩

set_option maxRecDepth 100000 in
set_option maxHeartbeats 1000000 in
theorem cellTake_any (t : Int) (ht : 1 ≤ t ∧ t ≤ 4) (A : Option Addr) (c : Nat) (b : List Nat) (w : World) (hs : S6 w) (hr : Has w A (ints .u8 b)) (h256 : ∀ x ∈ b, x < 256) (hb : b.length ≤ 1000000) (hbc : b.length ≤ c) (hc : c ≤ 9223372036854775807) :
    Calls Tryd.prog 52 #[.int .i64 t, .slice A b.length c] w (TakesC (takeC t b) t w) := by
  have hif : Tryd.prog.isIface 50 = true := by kernel_rfl
  obtain ⟨o, ho⟩ : ∃ o, o = takeC t b := ⟨_, rfl⟩
  have HO0 := Lib.hid (fun (h : readC t b = none) => ho.trans (by unfold takeC; rw [h]))
  have HO1 := Lib.hid (fun i s n (h : readC t b = some (i, s, n)) (hm : MayV t i (bstr s).size) => ho.trans (show takeC t b = some (i, s, n) by unfold takeC; rw [h]; simp only; rw [if_pos (by rw [← bstr_size]; exact hm)]))
  have HO2 := Lib.hid (fun i s n (h : readC t b = some (i, s, n)) (hm : ¬ MayV t i (bstr s).size) => ho.trans (show takeC t b = none by unfold takeC; rw [h]; simp only; rw [if_neg (by rw [← bstr_size]; exact hm)]))
  rw [← ho]
  obtain ⟨w1, hw1⟩ : ∃ w1, w1 = w.alloc (.cells #[.int .i64 0, .int .i64 0, .string ⟨#[]⟩] 26) := ⟨_, rfl⟩
  have L1 : Later w w1 := hw1 ▸ Later.new _ _
  have R1 : Blk w1 w.heap.size #[.int .i64 0, .int .i64 0, .string ⟨#[]⟩] 26 := hw1 ▸ Blk.new w _ _ _ rfl
  have HT := Lib.hid (cellRead_any t ht A c b w1 (hs.later L1) (hr.later L1) h256 hb hbc hc)
  have HS := Lib.hid (hs.later L1)
  have HL := Lib.hid L1
  have HW := Lib.hid hw1
  obtain ⟨g, hg⟩ : ∃ g, g = w.heap.size := ⟨_, rfl⟩
  have HG := Lib.hid hg
  rw [← hg] at R1
  clear hw1 L1 hs hr ho h256 hb hbc hc ht
  go_enter Tryd.func52, Tryd.ntmps52
  go_wp2_with fail
  rw [← HW.out]
  refine HT.out.mono ?_
  rintro e w2 ⟨h2, l2⟩
  have R2 := R1.later l2
  have HL2 := Lib.hid (HL.out.trans l2)
  have HS2 := Lib.hid (HS.out.later l2)
  rw [← HG.out]
  clear hg HT HL R1 HW l2 HS
  have r0 := R2.cell 0 _ rfl
  have r1 := R2.cell 1 _ rfl
  have r2 := R2.cell 2 _ rfl
  have f0 := R2.frozen 0
  have f1 := R2.frozen 1
  have f2 := R2.frozen 2
  have zg : g < w2.heap.size := R2.lt
  rcases h2 with ⟨hn, t', i', s', v, rfl, ⟨p, rfl⟩⟩ | ⟨i, s, n, hn, rfl⟩
  · have HN := Lib.hid (HO0.out hn)
    have heq := fun w => run_eql_iface_nil (P := Tryd.prog) (w := w) 50 hif 90 (.pointer (some p))
    clear hn HO0 HO1 HO2 HS2
    go_wp2_with fail
    have R4 := three_blk R2 rfl (.int .i64 0) (.int .i64 0) (.string ⟨#[]⟩)
    have L4 := three_later HL2.out (show w.heap.size ≤ g by have := HG.out; omega) (.int .i64 0) (.int .i64 0) (.string ⟨#[]⟩)
    obtain ⟨w4, hw4⟩ : ∃ w4, w4 = (((w2.setCell ⟨g, 0, none⟩ (.int .i64 0)).setCell ⟨g, 1, none⟩ (.int .i64 0)).setCell ⟨g, 2, none⟩ (.string ⟨#[]⟩)) := ⟨_, rfl⟩
    rw [← hw4] at R4 L4 ⊢
    have l5 := Later.new w4 (.cells #[.int .i64 t', .int .i64 i', .string s'] 26)
    have R5 := R4.later l5
    have L4 := L4.trans l5
    obtain ⟨w5, hw5⟩ : ∃ w5, w5 = w4.alloc (.cells #[.int .i64 t', .int .i64 i', .string s'] 26) := ⟨_, rfl⟩
    rw [← hw5] at R5 L4 ⊢
    have x0 := R5.cell 0 _ rfl
    have x1 := R5.cell 1 _ rfl
    have x2 := R5.cell 2 _ rfl
    exact bodyPost_ret (v := .tuple #[vagg 0 0 ⟨#[]⟩, .int .i64 0, .iface 90 (.pointer (some p))]) (by simp [results, Tryd.results52, go_sem, x0, x1, x2]) rfl (TakesC.no HN.out L4)
  · have HY := Lib.hid (HO1.out i s n hn)
    have HX := Lib.hid (HO2.out i s n hn)
    obtain ⟨S, hS⟩ : ∃ S, S = bstr s := ⟨_, rfl⟩
    have HSS := Lib.hid hS
    rw [← hS] at HY HX ⊢
    obtain ⟨w3, hw3⟩ : ∃ w3, w3 = w2.alloc (.cells #[.int .i64 t, .int .i64 i, .string S] 26) := ⟨_, rfl⟩
    have l3 : Later w2 w3 := hw3 ▸ Later.new _ _
    have R3 := R2.later l3
    have V3 : Blk w3 w2.heap.size #[.int .i64 t, .int .i64 i, .string S] 26 := hw3 ▸ Blk.new w2 _ _ _ rfl
    have HL3 := Lib.hid (HL2.out.trans l3)
    have S3 := HS2.out.later l3
    have HS3 := Lib.hid S3
    obtain ⟨a0, a2, a3, a4, SS⟩ := S3.sn
    have HM := Lib.hid (may_any t i S a0 a2 a3 a4 w3 SS)
    have HW3 := Lib.hid hw3
    obtain ⟨g2, hg2⟩ : ∃ g2, g2 = w2.heap.size := ⟨_, rfl⟩
    have HG2 := Lib.hid hg2
    rw [← hg2] at V3
    clear hn hS R2 HL2 HO0 HO1 HO2 HS2 hw3 l3 S3 SS
    go_wp2_with fail
    rw [← HW3.out, ← HG2.out]
    refine HM.out.mono ?_
    rintro e w4 ⟨r, hrm, rfl, b4⟩
    have l4 : Later w3 w4 := Later.of b4
    have R4 := R3.later l4
    have V4 := V3.later l4
    have HL4 := Lib.hid (HL3.out.trans l4)
    have HS4 := Lib.hid (HS3.out.later l4)
    clear r0 r1 r2 f0 f1 f2 zg hg2 R3 V3 HL3 HS3 b4 l4 HM HW3
    have r0 := R4.cell 0 _ rfl
    have r1 := R4.cell 1 _ rfl
    have r2 := R4.cell 2 _ rfl
    have f0 := R4.frozen 0
    have f1 := R4.frozen 1
    have f2 := R4.frozen 2
    cases r with
    | true =>
      have HN := Lib.hid (HY.out (hrm.1 rfl))
      have v0 := V4.cell 0 _ rfl
      have v1 := V4.cell 1 _ rfl
      have v2 := V4.cell 2 _ rfl
      clear hrm HY HX HS4
      go_wp2_with fail
      have R5 := three_blk R4 rfl (.int .i64 t) (.int .i64 i) (.string S)
      have L5 := three_later HL4.out (show w.heap.size ≤ g by have := HG.out; omega) (.int .i64 t) (.int .i64 i) (.string S)
      obtain ⟨w5, hw5⟩ : ∃ w5, w5 = (((w4.setCell ⟨g, 0, none⟩ (.int .i64 t)).setCell ⟨g, 1, none⟩ (.int .i64 i)).setCell ⟨g, 2, none⟩ (.string S)) := ⟨_, rfl⟩
      rw [← hw5] at R5 L5 ⊢
      have x0 := R5.cell 0 _ rfl
      have x1 := R5.cell 1 _ rfl
      have x2 := R5.cell 2 _ rfl
      refine bodyPost_ret (v := .tuple #[vagg t i S, .int .i64 n, .nilIface]) (by simp [results, Tryd.results52, go_sem, x0, x1, x2]) rfl ?_
      rw [HSS.out]
      exact TakesC.yes HN.out L5
    | false =>
      have HN := Lib.hid (HX.out (fun h => by have := hrm.2 h; cases this))
      obtain ⟨sa, hsv⟩ := HS4.out.value
      clear hrm HY HX HS4 V4 r0 r1 r2 f0 f1 f2
      go_wp2_with fail
      refine (at_l _ _ _ _).mono ?_
      rintro e w5 ⟨q5, rfl, l5⟩
      have R5 := R4.later l5
      have r0 := R5.cell 0 _ rfl
      have r1 := R5.cell 1 _ rfl
      have r2 := R5.cell 2 _ rfl
      have f0 := R5.frozen 0
      have f1 := R5.frozen 1
      have f2 := R5.frozen 2
      have HL5 := Lib.hid (HL4.out.trans l5)
      clear hsv R4 HL4 l5
      go_wp2_with fail
      have R6 := three_blk R5 rfl (.int .i64 0) (.int .i64 0) (.string ⟨#[]⟩)
      have L6 := three_later HL5.out (show w.heap.size ≤ g by have := HG.out; omega) (.int .i64 0) (.int .i64 0) (.string ⟨#[]⟩)
      obtain ⟨w6, hw6⟩ : ∃ w6, w6 = (((w5.setCell ⟨g, 0, none⟩ (.int .i64 0)).setCell ⟨g, 1, none⟩ (.int .i64 0)).setCell ⟨g, 2, none⟩ (.string ⟨#[]⟩)) := ⟨_, rfl⟩
      rw [← hw6] at R6 L6 ⊢
      have x0 := R6.cell 0 _ rfl
      have x1 := R6.cell 1 _ rfl
      have x2 := R6.cell 2 _ rfl
      exact bodyPost_ret (v := .tuple #[vagg 0 0 ⟨#[]⟩, .int .i64 0, .iface 90 (.pointer (some q5))]) (by simp [results, Tryd.results52, go_sem, x0, x1, x2]) rfl (TakesC.no HN.out L6)
end Go.Proofs.YtifejanbgobngaaDoor
