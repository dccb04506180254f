/- The walk of agg.Run. -/
import Derived.Test.YtiacemlloaenoaaDoorAggR
namespace Go.Proofs.YtiacemlloaenoaaDoor
open Go.RowKit
set_option linter.unusedVariables false

/-- What Run gives. -/
def RunP (cols : List (List Val3)) (bys : List Int) (aggs : List (Int × Int)) (W : Int) (w : World) (e : Ending) (w' : World) : Prop :=
  (¬ RunOk W bys aggs ∧ e = .returned (.tuple #[.slice none 0 0, .int .i64 1]) ∧ Later w w') ∨
  (RunOk W bys aggs ∧ ∃ R, GroupsOf cols bys (heightC cols) R ∧
    ((∃ (A : Option Addr) (c : Nat) (rs : List SlV), e = .returned (.tuple #[.slice A rs.length c, .int .i64 0]) ∧ runE cols bys aggs R = .ok (rs.map (·.l)) ∧ RowsAt w' A rs ∧ rs.length ≤ c ∧ c ≤ 9223372036854775807 ∧ Later w w') ∨
     (∃ n, runE cols bys aggs R = .error n ∧ (n = 4 ∨ n = 5) ∧ e = .returned (.tuple #[.slice none 0 0, .int .i64 n]) ∧ Later w w')))

set_option maxRecDepth 100000 in
set_option maxHeartbeats 4000000 in
theorem aggRun_any (A Bp Gp : Option Addr) (n c bn bc gn gc : Nat) (zs : List SlV) (bys : List Int) (aggs : List (Int × Int)) (a0 a1 a2 : Addr) (w : World) (hS : S24 w a0 a1 a2) (hn : n = zs.length) (hl : n ≤ 1000) (hbn : bn = bys.length) (hbl : bn ≤ 1000) (hgn : gn = aggs.length) (hgl : gn ≤ 1000) (hr : RowsAt w A zs) (hb : Has w Bp (iin bys)) (hg : Has w Gp (fa aggs)) (hlen : ∀ s ∈ zs, s.l.length ≤ 1000) (h20 : heightC (colsOf zs) ≤ 20)
    (h64 : ∀ s ∈ zs, ∀ x ∈ s.l, -9223372036854775808 ≤ x.2.1 ∧ x.2.1 ≤ 9223372036854775807) :
    Calls Tryd.prog 8 #[.slice A n c, .slice Bp bn bc, .slice Gp gn gc] w (RunP (colsOf zs) bys aggs (zs.length : Int) w) := by
  have HR := Lib.hid (run_any24 A Bp Gp n c bn bc gn gc zs bys aggs a0 a1 a2 w hS hn hl hbn hbl hgn hgl hr hb hg hlen h20 h64)
  have HS := Lib.hid hS
  clear hS hn hbn hgn hr hb hg hlen h20 h64 hl hbl hgl
  go_enter Tryd.func8, Tryd.ntmps8
  go_wp2_with fail
  refine HR.out.mono ?_
  rintro e w1 (⟨hbad, v, rfl, hv, l1⟩ | ⟨hok, R, hgo, (⟨RA, rc, rs, rfl, hrun, hat, hc1, hc2, l1⟩ | ⟨nn, v, hrun, hnn, rfl, hv, l1⟩)⟩)
  · have HBAD := Lib.hid hbad
    have HL1 := Lib.hid l1
    have x0 := (HS.out.later l1).arg
    obtain ⟨p, rfl, _, u, hu, rfl⟩ := hv
    have HI := Lib.hid (is_wrap_same p 0 a0 w1 hu)
    clear HR hbad l1 hu
    go_wp2_with fail
    refine HI.out.mono ?_
    rintro e w2 ⟨rfl, rfl⟩
    clear HI
    go_wp2_with fail
    go_ret2
    exact .inl ⟨HBAD.out, rfl, HL1.out⟩
  · have HOK := Lib.hid (show RunOk (zs.length : Int) bys aggs from hok)
    have HRUN := Lib.hid hrun
    have HGO := Lib.hid hgo
    have HAT := Lib.hid hat
    have HC := Lib.hid (And.intro hc1 hc2)
    have HL1 := Lib.hid l1
    have x0 := (HS.out.later l1).arg
    have x1 := (HS.out.later l1).type
    have x2 := (HS.out.later l1).over
    have HI := Lib.hid (fun (b : Addr) => is_nil b w1)
    clear HR hok hrun hgo hat hc1 hc2 l1
    go_wp2_with fail
    refine (HI.out a0).mono ?_
    rintro e w2 ⟨rfl, rfl⟩
    go_wp2_with fail
    refine (HI.out a1).mono ?_
    rintro e w2 ⟨rfl, rfl⟩
    go_wp2_with fail
    refine (HI.out a2).mono ?_
    rintro e w2 ⟨rfl, rfl⟩
    clear HI
    go_wp2_with fail
    go_ret2
    exact .inr ⟨HOK.out, R, HGO.out, .inl ⟨RA, rc, rs, rfl, HRUN.out, HAT.out, HC.out.1, HC.out.2, HL1.out⟩⟩
  · have HOK := Lib.hid (show RunOk (zs.length : Int) bys aggs from hok)
    have HRUN := Lib.hid hrun
    have HGO := Lib.hid hgo
    have HL1 := Lib.hid l1
    have hs := HS.out.later l1
    have x0 := hs.arg
    have x1 := hs.type
    have x2 := hs.over
    obtain ⟨cb0, tb0, hb0⟩ := hs.b0
    obtain ⟨cb1, tb1, hb1⟩ := hs.b1
    obtain ⟨cb2, tb2, hb2⟩ := hs.b2
    rcases hnn with rfl | rfl
    · have hv' : ErrD w.heap.size 3 w1 v a1 := hv
      have HI0 := Lib.hid (is_d3_other a0 a1 v cb1 cb0 tb1 tb0 w.heap.size w1 hv' (fun e => hs.n01 e.symm) hb1 hb0)
      have HI1 := Lib.hid (is_d3_same a1 v w.heap.size w1 hv')
      clear HR hok hrun hgo l1 hs hb0 hb1 hb2 hv hv'
      go_wp2_with fail
      refine HI0.out.mono ?_
      rintro e w2 ⟨rfl, rfl⟩
      go_wp2_with fail
      refine HI1.out.mono ?_
      rintro e w2 ⟨rfl, rfl⟩
      clear HI0 HI1
      go_wp2_with fail
      go_ret2
      exact .inr ⟨HOK.out, R, HGO.out, .inr ⟨4, HRUN.out, .inl rfl, rfl, HL1.out⟩⟩
    · have hv' : ErrD w.heap.size 3 w1 v a2 := hv
      have HI0 := Lib.hid (is_d3_other a0 a2 v cb2 cb0 tb2 tb0 w.heap.size w1 hv' (fun e => hs.n02 e.symm) hb2 hb0)
      have HI1 := Lib.hid (is_d3_other a1 a2 v cb2 cb1 tb2 tb1 w.heap.size w1 hv' (fun e => hs.n12 e.symm) hb2 hb1)
      have HI2 := Lib.hid (is_d3_same a2 v w.heap.size w1 hv')
      clear HR hok hrun hgo l1 hs hb0 hb1 hb2 hv hv'
      go_wp2_with fail
      refine HI0.out.mono ?_
      rintro e w2 ⟨rfl, rfl⟩
      go_wp2_with fail
      refine HI1.out.mono ?_
      rintro e w2 ⟨rfl, rfl⟩
      go_wp2_with fail
      refine HI2.out.mono ?_
      rintro e w2 ⟨rfl, rfl⟩
      clear HI0 HI1 HI2
      go_wp2_with fail
      go_ret2
      exact .inr ⟨HOK.out, R, HGO.out, .inr ⟨5, HRUN.out, .inr rfl, rfl, HL1.out⟩⟩
end Go.Proofs.YtiacemlloaenoaaDoor
