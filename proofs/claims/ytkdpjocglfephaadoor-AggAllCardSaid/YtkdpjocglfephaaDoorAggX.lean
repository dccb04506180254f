
import Derived.Test.YtkdpjocglfephaaDoorRefBef
import Derived.Test.YtkdpjocglfephaaDoorBase
import Derived.Test.YtkdpjocglfephaaDoorCell
import Derived.Test.YtkdpjocglfephaaDoorAggB
import Derived.Test.YtkdpjocglfephaaDoorTab
import Derived.Test.YtkdpjocglfephaaDoorAggS
import Derived.Test.YtkdpjocglfephaaDoorGrpT
import Derived.Test.YtkdpjocglfephaaDoorRefSum
import Derived.Laws.Externs
import Derived.Shelf.SlSortCmp.QuietGrown
import Derived.BigQuiet
import Derived.Test.YtkdpjocglfephaaDoorInsl
import Derived.WalkKit
import Derived.Laws.OwnMore
import Derived.Laws.BytesArg
import Derived.Laws.Rows
import Derived.Deep.AppendLies
import Derived.Deep.Draws
import Derived.Test.YtkdpjocglfephaaDoorChecked
import Derived.Deep.OwnRows
import Derived.Lib.Hide
import Derived.Deep.Quiet
import Derived.Laws.AppendOwnNone
import Derived.Lib.Strings
import Derived.Outline
import Derived.WalkLawsBesides
import Derived.WalkSpells
import Derived.PlainAid
import Derived.Deep.QuietTactic
import Derived.RegionTactic
import Derived.BigRegion
import Derived.Handy
import Derived.Laws.BitsAllLaws
import Derived.Deep.RegionWith
import Derived.Lib.AppendStr
import Derived.Deep.RegionLaw
import Derived.Maps.AppendAt
import Derived.OpenShut
import Derived.WideShapes
import Derived.ChangeArms
import Derived.Deep.Slices
import Derived.Sort.Grow
import Derived.OrdersHeld
import Derived.LaidEql
import Derived.Stop.Asserts
import Derived.RowKitTokens
import Derived.Laws.BitsLemmas
import Derived.Laws.Bits64
import Derived.WalkSmall
import Derived.Stop.IfaceNil
import Derived.Lib.Bytealg
import Derived.Deep.SlicePairs
import Derived.Test.YtkdpjocglfephaaDoorShelf
import Derived.Sort.LotA
/- The walk of agg.Run. -/

namespace Go.Proofs.YtkdpjocglfephaaDoor
open Go.RowKit
set_option linter.unusedVariables false

/-- What Run gives. -/
def RunP (cols : List (List Val3)) (bys : List Int) (aggs : List (Int × Int)) (W : Int) (w : World) (e : Ending) (w' : World) : Prop :=
  (¬ RunOk W bys aggs ∧ e = .returned (.tuple #[.slice none 0 0, .int .i64 1]) ∧ Later w w') ∨
  (RunOk W bys aggs ∧ ∃ R, GroupsOf cols bys (heightC cols) R ∧
    ((∃ (A : Option Addr) (c : Nat) (rs : List SlV), e = .returned (.tuple #[.slice A rs.length c, .int .i64 0]) ∧ runE cols bys aggs R = .ok (rs.map (·.l)) ∧ RowsAt w' A rs ∧ rs.length ≤ c ∧ c ≤ 9223372036854775807 ∧ Later w w') ∨
     (∃ n, runE cols bys aggs R = .error n ∧ (n = 4 ∨ n = 5) ∧ e = .returned (.tuple #[.slice none 0 0, .int .i64 n]) ∧ Later w w')))

set_option maxRecDepth 100000 in
set_option maxHeartbeats 4000000 in
theorem aggRun_any (A Bp Gp : Option Addr) (n c bn bc gn gc : Nat) (zs : List SlV) (bys : List Int) (aggs : List (Int × Int)) (a0 a1 a2 : Addr) (w : World) (hS : S24 w a0 a1 a2) (hn : n = zs.length) (hl : n ≤ 1000) (hbn : bn = bys.length) (hbl : bn ≤ 1000) (hgn : gn = aggs.length) (hgl : gn ≤ 1000) (hr : RowsAt w A zs) (hb : Has w Bp (iin bys)) (hg : Has w Gp (fa aggs)) (hlen : ∀ s ∈ zs, s.l.length ≤ 1000) (h20 : heightC (colsOf zs) ≤ 20)
    (h64 : ∀ s ∈ zs, ∀ x ∈ s.l, -9223372036854775808 ≤ x.2.1 ∧ x.2.1 ≤ 9223372036854775807) :
    Calls Tryd.prog 19 #[.slice A n c, .slice Bp bn bc, .slice Gp gn gc] w (RunP (colsOf zs) bys aggs (zs.length : Int) w) := by
  have HR := Lib.hid (run_any24 A Bp Gp n c bn bc gn gc zs bys aggs a0 a1 a2 w hS hn hl hbn hbl hgn hgl hr hb hg hlen h20 h64)
  have HS := Lib.hid hS
  clear hS hn hbn hgn hr hb hg hlen h20 h64 hl hbl hgl
  go_enter Tryd.func19, Tryd.ntmps19
  go_wp2_with fail
  refine HR.out.mono ?_
  rintro e w1 (⟨hbad, v, rfl, hv, l1⟩ | ⟨hok, R, hgo, (⟨RA, rc, rs, rfl, hrun, hat, hc1, hc2, l1⟩ | ⟨nn, v, hrun, hnn, rfl, hv, l1⟩)⟩)
  · have HBAD := Lib.hid hbad
    have HL1 := Lib.hid l1
    have x0 := (HS.out.later l1).arg
    obtain ⟨p, rfl, _, u, hu, rfl⟩ := hv
    have HI := Lib.hid (is_wrap_same p 0 a0 w1 hu)
    clear HR hbad l1 hu
    go_wp2_with fail
    refine HI.out.mono ?_
    rintro e w2 ⟨rfl, rfl⟩
    clear HI
    go_wp2_with fail
    go_ret2
    exact .inl ⟨HBAD.out, rfl, HL1.out⟩
  · have HOK := Lib.hid (show RunOk (zs.length : Int) bys aggs from hok)
    have HRUN := Lib.hid hrun
    have HGO := Lib.hid hgo
    have HAT := Lib.hid hat
    have HC := Lib.hid (And.intro hc1 hc2)
    have HL1 := Lib.hid l1
    have x0 := (HS.out.later l1).arg
    have x1 := (HS.out.later l1).type
    have x2 := (HS.out.later l1).over
    have HI := Lib.hid (fun (b : Addr) => is_nil b w1)
    clear HR hok hrun hgo hat hc1 hc2 l1
    go_wp2_with fail
    refine (HI.out a0).mono ?_
    rintro e w2 ⟨rfl, rfl⟩
    go_wp2_with fail
    refine (HI.out a1).mono ?_
    rintro e w2 ⟨rfl, rfl⟩
    go_wp2_with fail
    refine (HI.out a2).mono ?_
    rintro e w2 ⟨rfl, rfl⟩
    clear HI
    go_wp2_with fail
    go_ret2
    exact .inr ⟨HOK.out, R, HGO.out, .inl ⟨RA, rc, rs, rfl, HRUN.out, HAT.out, HC.out.1, HC.out.2, HL1.out⟩⟩
  · have HOK := Lib.hid (show RunOk (zs.length : Int) bys aggs from hok)
    have HRUN := Lib.hid hrun
    have HGO := Lib.hid hgo
    have HL1 := Lib.hid l1
    have hs := HS.out.later l1
    have x0 := hs.arg
    have x1 := hs.type
    have x2 := hs.over
    obtain ⟨cb0, tb0, hb0⟩ := hs.b0
    obtain ⟨cb1, tb1, hb1⟩ := hs.b1
    obtain ⟨cb2, tb2, hb2⟩ := hs.b2
    rcases hnn with rfl | rfl
    · have hv' : ErrD w.heap.size 3 w1 v a1 := hv
      have HI0 := Lib.hid (is_d3_other a0 a1 v cb1 cb0 tb1 tb0 w.heap.size w1 hv' (fun e => hs.n01 e.symm) hb1 hb0)
      have HI1 := Lib.hid (is_d3_same a1 v w.heap.size w1 hv')
      clear HR hok hrun hgo l1 hs hb0 hb1 hb2 hv hv'
      go_wp2_with fail
      refine HI0.out.mono ?_
      rintro e w2 ⟨rfl, rfl⟩
      go_wp2_with fail
      refine HI1.out.mono ?_
      rintro e w2 ⟨rfl, rfl⟩
      clear HI0 HI1
      go_wp2_with fail
      go_ret2
      exact .inr ⟨HOK.out, R, HGO.out, .inr ⟨4, HRUN.out, .inl rfl, rfl, HL1.out⟩⟩
    · have hv' : ErrD w.heap.size 3 w1 v a2 := hv
      have HI0 := Lib.hid (is_d3_other a0 a2 v cb2 cb0 tb2 tb0 w.heap.size w1 hv' (fun e => hs.n02 e.symm) hb2 hb0)
      have HI1 := Lib.hid (is_d3_other a1 a2 v cb2 cb1 tb2 tb1 w.heap.size w1 hv' (fun e => hs.n12 e.symm) hb2 hb1)
      have HI2 := Lib.hid (is_d3_same a2 v w.heap.size w1 hv')
      clear HR hok hrun hgo l1 hs hb0 hb1 hb2 hv hv'
      go_wp2_with fail
      refine HI0.out.mono ?_
      rintro e w2 ⟨rfl, rfl⟩
      go_wp2_with fail
      refine HI1.out.mono ?_
      rintro e w2 ⟨rfl, rfl⟩
      go_wp2_with fail
      refine HI2.out.mono ?_
      rintro e w2 ⟨rfl, rfl⟩
      clear HI0 HI1 HI2
      go_wp2_with fail
      go_ret2
      exact .inr ⟨HOK.out, R, HGO.out, .inr ⟨5, HRUN.out, .inr rfl, rfl, HL1.out⟩⟩
end Go.Proofs.YtkdpjocglfephaaDoor

/- Law 24: closed texts, and the walk of begun. -/

namespace Go.Proofs.YtkdpjocglfephaaDoor
open Go.RowKit
set_option linter.unusedVariables false

abbrev n2 (i : Int) : Val3 := (2, i, ⟨#[]⟩)
abbrev colB : List Val3 := [n2 1, n2 1, z3]
theorem begS : IsS (cmpBy [colB] [0]) 3 [2, 0, 1] := ⟨by decide, by decide⟩
theorem beg_groups {R : List (List Nat)} (h : GroupsOf [colB] [0] 3 R) : R = [[2], [0, 1]] := by
  rcases h with ⟨h, _⟩ | ⟨_, S, hS, rfl⟩
  · cases h
  · rw [IsS.one (cmpBy_turn [colB] [0]) hS begS]; rfl
theorem beg_run : runE [colB] [0] [(1, -1), (2, 0)] [[2], [0, 1]] = .ok [[z3, n2 1, z3], [n2 1, n2 2, n2 2]] := by rfl
theorem beg_run2 : runE [] [] [(1, -1)] [List.range 0] = .ok [[n2 0]] := by rfl
/-- Two rows. -/
theorem two_rows {rs : List SlV} {x y : List Val3} (h : rs.map (·.l) = [x, y]) : ∃ s t : SlV, rs = [s, t] ∧ s.l = x ∧ t.l = y := by
  rcases rs with _ | ⟨s, _ | ⟨t, _ | ⟨u, r⟩⟩⟩
  · cases h
  · cases h
  · refine ⟨s, t, rfl, ?_, ?_⟩
    · exact (List.cons.inj h).1
    · exact (List.cons.inj (List.cons.inj h).2).1
  · simp at h
theorem one_row {rs : List SlV} {x : List Val3} (h : rs.map (·.l) = [x]) : ∃ s : SlV, rs = [s] ∧ s.l = x := by
  rcases rs with _ | ⟨s, _ | ⟨t, r⟩⟩
  · cases h
  · exact ⟨s, rfl, (List.cons.inj h).1⟩
  · simp at h
/-- A row's value. -/
theorem RowsAt.val {w : World} {A : Option Addr} {ss : List SlV} (h : RowsAt w A ss) (k : Nat) (hk : k < ss.length) : ∃ b off, A = some ⟨b, off, none⟩ ∧ w.cell? ⟨b, off + k, none⟩ = some (.slice ss[k].a ss[k].l.length ss[k].c) ∧ Has w ss[k].a (fl ss[k].l) := by
  obtain ⟨b, off, h1, h2, h3, _⟩ := h.get k hk
  exact ⟨b, off, h1, h2, h3⟩

set_option maxRecDepth 100000 in
set_option maxHeartbeats 4000000 in
theorem begun24_any (a0 a1 a2 : Addr) (w : World) (hs : S24 w a0 a1 a2) : Calls Tryd.prog 18 #[] w fun e w' => e = .returned (.bool true) ∧ Later w w' := by
  obtain ⟨h0, hh0⟩ : ∃ x, w.heap.size = x := ⟨_, rfl⟩
  obtain ⟨w2, hw2⟩ : ∃ x : World, (((w.alloc (.cells #[.int .i64 2, .int .i64 1, .string ⟨#[]⟩, .int .i64 2, .int .i64 1, .string ⟨#[]⟩, .int .i64 0, .int .i64 0, .string ⟨#[]⟩] 26)).alloc (.cells #[.slice (some ⟨h0, 0, none⟩) 3 3] 52)).alloc (.cells #[.int .i64 0] 3)).alloc (.cells #[.int .i64 1, .int .i64 (-1), .int .i64 2, .int .i64 0] 65) = x := ⟨_, rfl⟩
  have l2 : Later w w2 := hw2 ▸ (((Later.new w _).alloc _).alloc _).alloc _
  have b0 : Blk w2 h0 #[.int .i64 2, .int .i64 1, .string ⟨#[]⟩, .int .i64 2, .int .i64 1, .string ⟨#[]⟩, .int .i64 0, .int .i64 0, .string ⟨#[]⟩] 26 := hw2 ▸ (Blk.new w _ _ _ hh0.symm).later (((Later.new _ _).alloc _).alloc _)
  have b1 : Blk w2 (h0 + 1) #[.slice (some ⟨h0, 0, none⟩) 3 3] 52 := hw2 ▸ (Blk.new _ _ _ _ (by simp; omega)).later ((Later.new _ _).alloc _)
  have b2 : Blk w2 (h0 + 2) #[.int .i64 0] 3 := hw2 ▸ (Blk.new _ _ _ _ (by simp; omega)).later (Later.new _ _)
  have b3 : Blk w2 (h0 + 3) #[.int .i64 1, .int .i64 (-1), .int .i64 2, .int .i64 0] 65 := hw2 ▸ Blk.new _ _ _ _ (by simp; omega)
  have HR2 := Lib.hid (show RowsAt w2 (some ⟨h0 + 1, 0, none⟩) [⟨some ⟨h0, 0, none⟩, 3, colB⟩] from ⟨b1.has, fun s hs => by
    rw [List.mem_singleton] at hs
    subst hs
    exact ⟨HasX.of b0.has, Nat.le_refl _, (by omega : (3 : Nat) ≤ 9223372036854775807), fun h => by cases h⟩⟩)
  have H64 := Lib.hid (show ∀ s ∈ ([⟨some ⟨h0, 0, none⟩, 3, colB⟩] : List SlV), ∀ x ∈ s.l, -9223372036854775808 ≤ x.2.1 ∧ x.2.1 ≤ 9223372036854775807 from fun s hs x hx => by
    rw [List.mem_singleton] at hs
    subst hs
    exact (show ∀ x ∈ colB, -9223372036854775808 ≤ x.2.1 ∧ x.2.1 ≤ 9223372036854775807 by decide) x hx)
  have HLN := Lib.hid (show ∀ s ∈ ([⟨some ⟨h0, 0, none⟩, 3, colB⟩] : List SlV), s.l.length ≤ 1000 from fun s hs => by
    rw [List.mem_singleton] at hs
    subst hs
    exact (show (3 : Nat) ≤ 1000 by omega))
  have HRUN1 := Lib.hid (aggRun_any (some ⟨h0 + 1, 0, none⟩) (some ⟨h0 + 2, 0, none⟩) (some ⟨h0 + 3, 0, none⟩) 1 1 1 1 2 2 [⟨some ⟨h0, 0, none⟩, 3, colB⟩] [0] [(1, -1), (2, 0)] a0 a1 a2 w2 (hs.later l2) rfl (by omega) rfl (by omega) rfl (by omega) HR2.out b2.has b3.has HLN.out (show (3 : Nat) ≤ 20 by omega) H64.out)
  have HS := Lib.hid hs
  have HL2 := Lib.hid l2
  have HW2 := Lib.hid hw2
  have hbase : w2.heap.size = h0 + 4 := by rw [← hw2, ← hh0]; simp
  clear hw2 l2 b0 b1 b2 b3 hs
  go_enter Tryd.func18, Tryd.ntmps18
  go_wp2_with fail
  rw [HW2.out]
  refine HRUN1.out.mono ?_
  rintro e w3 (⟨hbad, _⟩ | ⟨_, R, hgo, (⟨RA, rc, rs, rfl, hrun, hat, _, _, l3⟩ | ⟨nn, hrun, _⟩)⟩)
  · exact absurd (show RunOk 1 [0] [(1, -1), (2, 0)] from ⟨by decide, fun a ha => by
      simp only [List.mem_cons, List.not_mem_nil, or_false] at ha
      rcases ha with rfl | rfl <;> (unfold AggOk; decide)⟩) hbad
  rotate_left
  · have hR := beg_groups (show GroupsOf [colB] [0] 3 R from hgo)
    subst hR
    have h1 : runE [colB] [0] [(1, -1), (2, 0)] [[2], [0, 1]] = .error nn := hrun
    rw [beg_run] at h1
    cases h1
  · have hR := beg_groups (show GroupsOf [colB] [0] 3 R from hgo)
    subst hR
    have h1 : runE [colB] [0] [(1, -1), (2, 0)] [[2], [0, 1]] = .ok (rs.map (·.l)) := hrun
    rw [beg_run] at h1
    injection h1 with h1
    obtain ⟨s, t, rfl, hsl, htl⟩ := two_rows h1.symm
    clear hgo hrun h1 HRUN1
    obtain ⟨w4, hw4⟩ : ∃ x : World, w3.alloc (.cells #[.int .i64 1, .int .i64 (-1)] 65) = x := ⟨_, rfl⟩
    obtain ⟨h3, hh3⟩ : ∃ x, w3.heap.size = x := ⟨_, rfl⟩
    have l4 : Later w3 w4 := hw4 ▸ Later.new _ _
    have b4 : Blk w4 h3 #[.int .i64 1, .int .i64 (-1)] 65 := hw4 ▸ Blk.new _ _ _ _ hh3.symm
    have HRUN2 := Lib.hid (aggRun_any none none (some ⟨h3, 0, none⟩) 0 0 0 0 1 1 [] [] [(1, -1)] a0 a1 a2 w4 (HS.out.later (HL2.out.trans (l3.trans l4))) rfl (by omega) rfl (by omega) rfl (by omega) ⟨.inl rfl, fun s hs => by cases hs⟩ (.inl rfl) b4.has (fun s hs => by cases hs) (by decide) (fun s hs => by cases hs))
    have HL4 := Lib.hid (HL2.out.trans (l3.trans l4))
    have HR4 := Lib.hid (HR2.out.later (l3.trans l4))
    have HAT4 := Lib.hid (hat.later l4)
    clear l3 l4 b4 hat
    go_wp2_with fail
    refine HRUN2.out.mono ?_
    rintro e w5 (⟨hbad, _⟩ | ⟨_, R, hgo, (⟨RB, rbc, rs2, rfl, hrun, hat, _, _, l5⟩ | ⟨nn, hrun, _⟩)⟩)
    · exact absurd (show RunOk 0 [] [(1, -1)] from ⟨by decide, fun a ha => by
        rw [List.mem_singleton] at ha
        subst ha
        unfold AggOk; decide⟩) hbad
    rotate_left
    · have hR : R = [List.range 0] := by
        rcases hgo with ⟨_, h⟩ | ⟨h, _⟩
        · exact h
        · exact absurd rfl h
      subst hR
      have h1 : runE [] [] [(1, -1)] [List.range 0] = .error nn := hrun
      rw [beg_run2] at h1
      cases h1
    · have hR : R = [List.range 0] := by
        rcases hgo with ⟨_, h⟩ | ⟨h, _⟩
        · exact h
        · exact absurd rfl h
      subst hR
      have h1 : runE [] [] [(1, -1)] [List.range 0] = .ok (rs2.map (·.l)) := hrun
      rw [beg_run2] at h1
      injection h1 with h1
      obtain ⟨u, rfl, hul⟩ := one_row h1.symm
      clear hgo hrun h1 HRUN2
      obtain ⟨w6, hw6⟩ : ∃ x : World, w5.alloc (.cells #[.int .i64 5] 3) = x := ⟨_, rfl⟩
      obtain ⟨h5, hh5⟩ : ∃ x, w5.heap.size = x := ⟨_, rfl⟩
      have l6 : Later w5 w6 := hw6 ▸ Later.new _ _
      have b6 : Blk w6 h5 #[.int .i64 5] 3 := hw6 ▸ Blk.new _ _ _ _ hh5.symm
      have HRUN3 := Lib.hid (aggRun_any (some ⟨h0 + 1, 0, none⟩) (some ⟨h5, 0, none⟩) none 1 1 1 1 0 0 [⟨some ⟨h0, 0, none⟩, 3, colB⟩] [5] [] a0 a1 a2 w6 (HS.out.later (HL4.out.trans (l5.trans l6))) rfl (by omega) rfl (by omega) rfl (by omega) (HR4.out.later (l5.trans l6)) b6.has (.inl rfl) HLN.out (show (3 : Nat) ≤ 20 by omega) H64.out)
      have HL6 := Lib.hid (HL4.out.trans (l5.trans l6))
      have HAT6 := Lib.hid (HAT4.out.later (l5.trans l6))
      have HAU6 := Lib.hid (hat.later l6)
      clear l5 l6 b6 hat
      go_wp2_with fail
      refine HRUN3.out.mono ?_
      rintro e w7 (⟨_, rfl, l7⟩ | ⟨hok, _⟩)
      rotate_left
      · exact absurd (show (0 : Int) ≤ 5 ∧ (5 : Int) < 1 from hok.1 5 (by simp)) (by omega)
      · have HL7 := Lib.hid (HL6.out.trans l7)
        obtain ⟨rb, ro, hRA, k0, hh0'⟩ := (HAT6.out.later l7).val 0 (by simp)
        subst hRA
        obtain ⟨rb', ro', hRA, k1, hh1'⟩ := (HAT6.out.later l7).val 1 (by simp)
        injection hRA with hRA
        injection hRA with e1 e2
        subst e1 e2
        obtain ⟨ub, uo, hRB, k2, hh2'⟩ := (HAU6.out.later l7).val 0 (by simp)
        subst hRB
        simp only [List.getElem_cons_zero, List.getElem_cons_succ] at k0 k1 k2 hh0' hh1' hh2'
        rw [hsl] at k0 hh0'
        rw [htl] at k1 hh1'
        rw [hul] at k2 hh2'
        obtain ⟨sb, so, hSA, p0, _, _⟩ := hh0'.val3 0 (by decide)
        obtain ⟨sb1, so1, hSA1, _, p1, _⟩ := hh0'.val3 1 (by decide)
        obtain ⟨sb2, so2, hSA2, p2, _, _⟩ := hh0'.val3 2 (by decide)
        rw [hSA] at hSA1 hSA2 k0
        injection hSA1 with hSA1
        injection hSA1 with e1 e2
        subst e1 e2
        injection hSA2 with hSA2
        injection hSA2 with e1 e2
        subst e1 e2
        obtain ⟨tb, to_, hTA, _, q1, _⟩ := hh1'.val3 2 (by decide)
        rw [hTA] at k1
        obtain ⟨vb, vo, hVA, _, r1, _⟩ := hh2'.val3 0 (by decide)
        rw [hVA] at k2
        rw [Nat.add_zero] at k0 k2
        clear HRUN3 l7 hh0' hh1' hh2' hSA hTA hVA hsl htl hul
        have p0a : w7.cell? ⟨sb, so, none⟩ = some (.int .i64 0) := p0
        have p1a : w7.cell? ⟨sb, so + 3 + 1, none⟩ = some (.int .i64 1) := p1
        have p1b : w7.cell? ⟨sb, so + 4, none⟩ = some (.int .i64 1) := p1
        have p2a : w7.cell? ⟨sb, so + 6, none⟩ = some (.int .i64 0) := p2
        have q1a : w7.cell? ⟨tb, to_ + 6 + 1, none⟩ = some (.int .i64 2) := q1
        have q1b : w7.cell? ⟨tb, to_ + 7, none⟩ = some (.int .i64 2) := q1
        have r1a : w7.cell? ⟨vb, vo + 1, none⟩ = some (.int .i64 0) := r1
        have k0a : w7.cell? ⟨rb, ro, none⟩ = some (.slice (some ⟨sb, so, none⟩) 3 s.c) := k0
        have k1a : w7.cell? ⟨rb, ro + 1, none⟩ = some (.slice (some ⟨tb, to_, none⟩) 3 t.c) := k1
        have k2a : w7.cell? ⟨ub, uo, none⟩ = some (.slice (some ⟨vb, vo, none⟩) 1 u.c) := k2
        clear p0 p1 p2 q1 r1 k0 k1 k2
        go_wp2_with fail
        go_ret
        exact ⟨rfl, HL7.out⟩
end Go.Proofs.YtkdpjocglfephaaDoor
