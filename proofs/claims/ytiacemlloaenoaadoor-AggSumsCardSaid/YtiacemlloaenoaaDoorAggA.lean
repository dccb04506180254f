/- The walks of agg's small ones: number, least, sum. -/
import Derived.Test.YtiacemlloaenoaaDoorAggM
import Derived.Test.YtiacemlloaenoaaDoorRCmp
import Derived.Test.YtiacemlloaenoaaDoorRowsM
import Derived.Laws.Externs
import Derived.Test.YtiacemlloaenoaaDoorAggE
namespace Go.Proofs.YtiacemlloaenoaaDoor
open Go.RowKit
set_option linter.unusedVariables false

theorem number_any (n : Int) (w : World) : Calls Tryd.prog 26 #[.int .i64 n] w fun e w' => e = .returned (vagg 2 n ⟨#[]⟩) ∧ Later w w' := by
  have HL := Lib.hid (fun (o : Obj) => Later.new w o)
  go_enter Tryd.func26, Tryd.ntmps26
  go_wp2_with fail
  exact bodyPost_ret (v := .agg #[.int .i64 2, .int .i64 n, .string ⟨#[]⟩]) (by simp [results, Tryd.results26, go_sem]) rfl ⟨rfl, HL.out _⟩

/-- The least on its way. -/
def LeI (sg : Int) (l : List Val3) (w : World) (iv : Value) (wr : World) : Prop :=
  ∃ (k : Nat) (a1 a2 : Int) (a3 : ByteArray), iv = .int .i64 k ∧ k ≤ l.length ∧ (a1, a2, a3) = leastN sg l k ∧ Blk wr (w.heap.size + 1) #[.int .i64 a1, .int .i64 a2, .string a3] 40 ∧ Blk wr w.heap.size #[.int .i64 0, .int .i64 0, .string ⟨#[]⟩] 40 ∧ Later w wr
theorem LeI.mk {sg : Int} {l : List Val3} {w wr : World} (y : Int) (k : Nat) (a1 a2 : Int) (a3 : ByteArray) (hy : y = (k : Int)) (hk : k ≤ l.length) (ha : (a1, a2, a3) = leastN sg l k) (B : Blk wr (w.heap.size + 1) #[.int .i64 a1, .int .i64 a2, .string a3] 40) (R : Blk wr w.heap.size #[.int .i64 0, .int .i64 0, .string ⟨#[]⟩] 40) (L : Later w wr) : LeI sg l w (.int .i64 y) wr := by
  subst hy; exact ⟨k, a1, a2, a3, rfl, hk, ha, B, R, L⟩

set_option maxRecDepth 100000 in
set_option maxHeartbeats 4000000 in
theorem least_any (A : Option Addr) (n c : Nat) (l : List Val3) (sg : Int) (w : World) (hn : n = l.length) (hl : l.length ≤ 100000) (hr : Has w A (fl l)) (hsg : sg = 1 ∨ sg = -1) :
    Calls Tryd.prog 28 #[.slice A n c, .int .i64 sg] w fun e w' => e = .returned (vagg (leastV sg l).1 (leastV sg l).2.1 (leastV sg l).2.2) ∧ Later w w' := by
  subst hn
  have R0 := (Blk.new w #[.int .i64 0, .int .i64 0, .string ⟨#[]⟩] 40 w.heap.size rfl).later (Later.new _ (.cells #[.int .i64 0, .int .i64 0, .string ⟨#[]⟩] 40))
  have Z0 := Blk.new (w.alloc (.cells #[.int .i64 0, .int .i64 0, .string ⟨#[]⟩] 40)) #[.int .i64 0, .int .i64 0, .string ⟨#[]⟩] 40 (w.heap.size + 1) (by simp)
  have L0 := (Later.new w (.cells #[.int .i64 0, .int .i64 0, .string ⟨#[]⟩] 40)).alloc (.cells #[.int .i64 0, .int .i64 0, .string ⟨#[]⟩] 40)
  have HR := Lib.hid hr
  have HI0 := Lib.hid (LeI.mk (sg := sg) (l := l) (w := w) 0 0 0 0 ⟨#[]⟩ rfl (Nat.zero_le _) rfl Z0 R0 L0)
  have HSG := Lib.hid hsg
  clear hr R0 Z0 L0
  go_enter Tryd.func28, Tryd.ntmps28
  go_wp2_with fail
  go_loopw [10] (fun iv wr => LeI sg l w iv wr) (fun i _ => l.length - (intOf i).toNat)
  case atStart => exact HI0.out
  case round =>
    obtain ⟨k, a1, a2, a3, rfl, hk, ha, BZ, BR, lat⟩ := hrel
    obtain ⟨gz, hgz⟩ : ∃ g, g = w.heap.size + 1 := ⟨_, rfl⟩
    obtain ⟨gr, hgr⟩ : ∃ g, g = w.heap.size := ⟨_, rfl⟩
    have HGZ := Lib.hid hgz
    have HGR := Lib.hid hgr
    rw [← hgz] at BZ ⊢
    rw [← hgr] at BR ⊢
    have hzl := BZ.lt
    have HA := Lib.hid ha
    have HLAT := Lib.hid lat
    clear ha HI0 hgz hgr
    by_cases hlt : k < l.length
    · obtain ⟨bb, off, hadr, c0, c1, c2⟩ := (HR.out.later lat).val3 k hlt
      subst hadr
      have HS0 := Lib.hid (show lstep sg k (a1, a2, a3) (l[k].1, l[k].2.1, l[k].2.2) = leastN sg l (k + 1) from by rw [leastN_succ sg l k hlt, ← HA.out])
      generalize l[k].1 = t at c0 HS0
      generalize l[k].2.1 = i at c1 HS0
      generalize l[k].2.2 = s at c2 HS0
      obtain ⟨gv, hgv⟩ : ∃ g, wr.heap.size = g := ⟨_, rfl⟩
      have hvz : gv ≠ gz := by omega
      obtain ⟨w1, hw1⟩ : ∃ x, wr.alloc (.cells #[.int .i64 t, .int .i64 i, .string s] 40) = x := ⟨_, rfl⟩
      have hvr : gr ≠ gz := by have := HGZ.out; have := HGR.out; omega
      have hgz2 : w.heap.size ≤ gz := by have := HGZ.out; omega
      have BV := Blk.new wr #[.int .i64 t, .int .i64 i, .string s] 40 gv hgv.symm
      have BZ := BZ.later (Later.new wr (.cells #[.int .i64 t, .int .i64 i, .string s] 40))
      have BR := BR.later (Later.new wr (.cells #[.int .i64 t, .int .i64 i, .string s] 40))
      have LW := HLAT.out.alloc (.cells #[.int .i64 t, .int .i64 i, .string s] 40)
      rw [hw1] at BV BZ BR LW
      clear lat HA
      by_cases hk0 : k = 0
      · have HT := Lib.hid (show (t, i, s) = leastN sg l (k + 1) from by rw [← HS0.out]; unfold lstep; rw [if_pos (.inl hk0)])
        have hkt : ((k : Int) == 0) = true := by simpa using hk0
        clear hk0
        have v0 := BV.cell 0 _ rfl
        have v1 := BV.cell 1 _ rfl
        have v2 := BV.cell 2 _ rfl
        have z0 := BZ.cell 0 _ rfl
        have z1 := BZ.cell 1 _ rfl
        have z2 := BZ.cell 2 _ rfl
        have y0 := BZ.frozen 0
        have y1 := BZ.frozen 1
        have y2 := BZ.frozen 2
        have HZq := Lib.hid (three_blk BZ rfl (.int .i64 t) (.int .i64 i) (.string s))
        have HRq := Lib.hid (((BR.far hvr (p := ⟨gz, 0, none⟩) (.int .i64 t)).far hvr (p := ⟨gz, 1, none⟩) (.int .i64 i)).far hvr (p := ⟨gz, 2, none⟩) (.string s))
        have HLq := Lib.hid (three_later LW hgz2 (.int .i64 t) (.int .i64 i) (.string s))
        obtain ⟨wq, hwq⟩ : ∃ x, (((w1.setCell ⟨gz, 0, none⟩ (.int .i64 t)).setCell ⟨gz, 1, none⟩ (.int .i64 i)).setCell ⟨gz, 2, none⟩ (.string s)) = x := ⟨_, rfl⟩
        rw [hwq] at HZq HRq HLq
        clear BZ BR LW BV HS0
        go_wp2_with fail
        go_roundw
        case rel =>
          rw [HGZ.out] at HZq
          rw [HGR.out] at HRq
          exact LeI.mk _ (k + 1) t i s (by omega) hlt HT.out HZq.out HRq.out HLq.out
        case measure => simp [intOf]; omega
      · have hkt : ((k : Int) == 0) = false := by simp; omega
        have v0 := BV.cell 0 _ rfl
        have v1 := BV.cell 1 _ rfl
        have v2 := BV.cell 2 _ rfl
        have z0 := BZ.cell 0 _ rfl
        have z1 := BZ.cell 1 _ rfl
        have z2 := BZ.cell 2 _ rfl
        have HC := Lib.hid (valCmp_any t i s a1 a2 a3 w1)
        obtain ⟨cb, hcb⟩ : ∃ c, c = cmpV t i s a1 a2 a3 := ⟨_, rfl⟩
        have hcr := cmpV_in t i s a1 a2 a3
        rw [← hcb] at HC hcr
        have hwr : IntKind.i64.wrap (sg * cb) = sg * cb := by
          rcases HSG.out with rfl | rfl <;> rcases hcr with rfl | rfl | rfl <;> decide
        have HT := Lib.hid (show (if sg * cb < 0 then (t, i, s) else (a1, a2, a3)) = leastN sg l (k + 1) from by
          rw [← HS0.out]; unfold lstep
          by_cases h : sg * cb < 0
          · rw [if_pos h, if_pos (.inr (by show sg * cmpV t i s a1 a2 a3 < 0; rw [← hcb]; exact h))]
          · rw [if_neg h, if_neg (fun h' => h'.elim hk0 (fun h' => h (by rw [hcb]; exact h')))])
        have HZm := Lib.hid BZ
        have HRm := Lib.hid BR
        have HVm := Lib.hid BV
        have HLm := Lib.hid LW
        clear BZ BR LW BV HS0 hcb hcr hk0
        go_wp2_with fail
        refine HC.out.mono ?_
        rintro e wn ⟨rfl, ln⟩
        have BZ := HZm.out.later ln
        have BR := HRm.out.later ln
        have BV := HVm.out.later ln
        have LW := HLm.out.trans ln
        clear v0 v1 v2 z0 z1 z2 HC HZm HRm HVm HLm ln
        by_cases hm : sg * cb < 0
        · have HT2 := Lib.hid (show (t, i, s) = leastN sg l (k + 1) from by rw [← HT.out, if_pos hm])
          have hd : decide (sg * cb < 0) = true := by simpa using hm
          have v0 := BV.cell 0 _ rfl
          have v1 := BV.cell 1 _ rfl
          have v2 := BV.cell 2 _ rfl
          have z0 := BZ.cell 0 _ rfl
          have z1 := BZ.cell 1 _ rfl
          have z2 := BZ.cell 2 _ rfl
          have y0 := BZ.frozen 0
          have y1 := BZ.frozen 1
          have y2 := BZ.frozen 2
          have HZq := Lib.hid (three_blk BZ rfl (.int .i64 t) (.int .i64 i) (.string s))
          have HRq := Lib.hid (((BR.far hvr (p := ⟨gz, 0, none⟩) (.int .i64 t)).far hvr (p := ⟨gz, 1, none⟩) (.int .i64 i)).far hvr (p := ⟨gz, 2, none⟩) (.string s))
          have HLq := Lib.hid (three_later LW hgz2 (.int .i64 t) (.int .i64 i) (.string s))
          obtain ⟨wq, hwq⟩ : ∃ x, (((wn.setCell ⟨gz, 0, none⟩ (.int .i64 t)).setCell ⟨gz, 1, none⟩ (.int .i64 i)).setCell ⟨gz, 2, none⟩ (.string s)) = x := ⟨_, rfl⟩
          rw [hwq] at HZq HRq HLq
          clear BZ BR LW BV HT
          go_wp2_with fail
          go_roundw
          case rel =>
            rw [HGZ.out] at HZq
            rw [HGR.out] at HRq
            exact LeI.mk _ (k + 1) t i s (by omega) hlt HT2.out HZq.out HRq.out HLq.out
          case measure => simp [intOf]; omega
        · have HT2 := Lib.hid (show (a1, a2, a3) = leastN sg l (k + 1) from by rw [← HT.out, if_neg hm])
          have hd : decide (sg * cb < 0) = false := by simpa using hm
          have HZq := Lib.hid BZ
          have HRq := Lib.hid BR
          have HLq := Lib.hid LW
          clear BZ BR LW BV HT
          go_wp2_with fail
          go_roundw
          case rel =>
            rw [HGZ.out] at HZq
            rw [HGR.out] at HRq
            exact LeI.mk _ (k + 1) a1 a2 a3 (by omega) hlt HT2.out HZq.out HRq.out HLq.out
          case measure => simp [intOf]; omega
    · have HT := Lib.hid (show (a1, a2, a3) = leastV sg l from by
        rw [HA.out, show k = l.length by omega]; rfl)
      have z0 := BZ.cell 0 _ rfl
      have z1 := BZ.cell 1 _ rfl
      have z2 := BZ.cell 2 _ rfl
      have r0 := BR.cell 0 _ rfl
      have r1 := BR.cell 1 _ rfl
      have r2 := BR.cell 2 _ rfl
      have f0 := BR.frozen 0
      have f1 := BR.frozen 1
      have f2 := BR.frozen 2
      have hgr2 : w.heap.size ≤ gr := by have := HGR.out; omega
      have HB := Lib.hid (three_blk BR rfl (.int .i64 a1) (.int .i64 a2) (.string a3))
      have HL := Lib.hid (three_later lat hgr2 (.int .i64 a1) (.int .i64 a2) (.string a3))
      obtain ⟨wq, hwq⟩ : ∃ x, (((wr.setCell ⟨gr, 0, none⟩ (.int .i64 a1)).setCell ⟨gr, 1, none⟩ (.int .i64 a2)).setCell ⟨gr, 2, none⟩ (.string a3)) = x := ⟨_, rfl⟩
      rw [hwq] at HB HL
      clear BZ BR lat HA HLAT HR
      go_wp2_with fail
      have q0 := HB.out.cell 0 _ rfl
      have q1 := HB.out.cell 1 _ rfl
      have q2 := HB.out.cell 2 _ rfl
      exact bodyPost_ret (v := .agg #[.int .i64 a1, .int .i64 a2, .string a3]) (by simp [results, Tryd.results28, go_sem, q0, q1, q2]) rfl ⟨by rw [← HT.out], HL.out⟩
end Go.Proofs.YtiacemlloaenoaaDoor
