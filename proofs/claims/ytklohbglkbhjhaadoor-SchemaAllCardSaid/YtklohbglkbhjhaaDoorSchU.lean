/- schema: repart, rename, widen, maySplit. (tools/gen_schU.py) -/
import Derived.Test.YtklohbglkbhjhaaDoorSchT
import Derived.Lib.QuietBelow
namespace Go.Proofs.YtklohbglkbhjhaaDoor
open Go.RowKit
set_option linter.unusedVariables false

theorem find_q (A : Option Addr) (n c : Nat) (last : Int) (l : List Col3) (nm : ByteArray) (w : World) (hn : n = l.length) (hl : n ≤ 100000) (hr : Has w A (fc l)) (d : Nat) (os : Array Obj) :
    Calls Tryd.prog 22 #[.agg #[.slice A n c, .int .i64 last], .string nm] (Go.Sort.grow (redrawn w d) os) fun e w'' => e = .returned (.tuple #[.int .i64 (((findC l nm).getD 0 : Nat) : Int), .bool (findC l nm).isSome]) ∧ ∃ p : Regrown, w'' = Go.Sort.grow (redrawn w p.d) p.os :=
  Calls.regrown_of ((find_any A n c last l nm _ hn hl (hr.later (below_regrown w d os))).mono fun _ _ h => h)
theorem byID_q (A : Option Addr) (n c : Nat) (last : Int) (l : List Col3) (id : Int) (w : World) (hn : n = l.length) (hl : n ≤ 100000) (hr : Has w A (fc l)) (d : Nat) (os : Array Obj) :
    Calls Tryd.prog 24 #[.agg #[.slice A n c, .int .i64 last], .int .i64 id] (Go.Sort.grow (redrawn w d) os) fun e w'' => e = .returned (.tuple #[.int .i64 (((findI l id).getD 0 : Nat) : Int), .bool (findI l id).isSome]) ∧ ∃ p : Regrown, w'' = Go.Sort.grow (redrawn w p.d) p.os :=
  Calls.regrown_of ((byID_any A n c last l id _ hn hl (hr.later (below_regrown w d os))).mono fun _ _ h => h)

set_option maxRecDepth 100000 in
set_option maxHeartbeats 4000000 in
theorem repart_any (W0 : World) (p : Nat) (w : World) (f : Int → Addr) (s : St3) (c : Chg) (gv vc ge ec : Nat) (hs : S15 W0 f) (hl : Later W0 w) (T : TS W0.heap.size p w s c gv vc ge ec) :
    Calls Tryd.prog 63 #[.pointer (some ⟨p, 0, none⟩), .bool (findI s.1 c.col).isSome] w (TurnP W0 p f (repartM s c)) := by
  have d7 := T.d7
  have d14 := T.d14
  have d3 := T.d3
  have d4 := T.d4
  have fz3 := T.frz 3
  have fz4 := T.frz 4
  have HT := Lib.hid T
  have HS := Lib.hid (hs.later hl)
  have HL := Lib.hid hl
  have x3 := HS.out.c3
  have x1 := HS.out.c1
  have HR := Lib.hid ((HT.out.put (s' := (s.1, s.2.1, { s.2.2 with pb := c.col })) (c' := c) 3 (.int .i64 c.col) rfl rfl rfl HT.out.last).put (s' := (s.1, s.2.1, { s.2.2 with pb := c.col, parts := c.num })) (c' := c) 4 (.int .i64 c.num) rfl rfl rfl HT.out.last)
  have HLR := Lib.hid (show Later W0 ((w.setCell ⟨p, 3, none⟩ (.int .i64 c.col)).setCell ⟨p, 4, none⟩ (.int .i64 c.num)) from (HL.out.set_ HT.out.hp _).set_ HT.out.hp _)
  clear hs hl T
  by_cases n1 : c.num < 1
  · have HX := Lib.hid (show repartM s c = .error 1 from if_pos (.inl n1))
    go_enter Tryd.func63, Tryd.ntmps63
    go_wp2_with fail
    go_region_law (go_simp; go_at_call 60; refine (at_er _ _ _ _).mono ?_; rintro e w3 ⟨v, rfl, hv, l3⟩; have HV := Lib.hid hv; have HL3 := Lib.hid (HL.out.drew.trans l3); clear hv l3)
    all_goals (try go_wp2_with fail)
    all_goals go_ret
    all_goals exact TurnP.no 1 HX.out (by decide) HV.out HL3.out
  by_cases n2 : 4 < c.num
  · have HX := Lib.hid (show repartM s c = .error 1 from if_pos (.inr n2))
    go_enter Tryd.func63, Tryd.ntmps63
    go_wp2_with fail
    go_region_law (go_simp; go_at_call 60; refine (at_er _ _ _ _).mono ?_; rintro e w3 ⟨v, rfl, hv, l3⟩; have HV := Lib.hid hv; have HL3 := Lib.hid (HL.out.drew.trans l3); clear hv l3)
    all_goals (try go_wp2_with fail)
    all_goals go_ret
    all_goals exact TurnP.no 1 HX.out (by decide) HV.out HL3.out
  have HM := Lib.hid (show repartM s c = (if (findI s.1 c.col).isSome = false ∧ (c.col ≠ 0 ∨ c.num ≠ 1) then .error 3 else .ok (s.1, s.2.1, { s.2.2 with pb := c.col, parts := c.num })) from if_neg (by omega))
  rcases hf : (findI s.1 c.col).isSome with _ | _
  · by_cases h0 : c.col = 0
    · by_cases h1 : c.num = 1
      · have HX := Lib.hid (show repartM s c = .ok (s.1, s.2.1, { s.2.2 with pb := c.col, parts := c.num }) from HM.out.trans (if_neg (fun h => by rcases h.2 with h | h; exact h h0; exact h h1)))
        rw [h0, h1] at HX HR HLR
        rw [h0] at d7
        rw [h1] at d14
        clear n1 n2 h0 h1 hf HM
        go_enter Tryd.func63, Tryd.ntmps63
        go_wp2_with fail
        go_region
        all_goals (try go_wp2_with fail)
        all_goals go_ret
        all_goals exact TurnP.yes HX.out (HR.out.later (Later.refl _).drew) HLR.out.drew
      · have HX := Lib.hid (show repartM s c = .error 3 from HM.out.trans (if_pos ⟨hf, .inr h1⟩))
        rw [h0] at d7
        clear hf HM HR HLR
        go_enter Tryd.func63, Tryd.ntmps63
        go_wp2_with fail
        go_region_law (go_simp; go_at_call 60; refine (at_er _ _ _ _).mono ?_; rintro e w3 ⟨v, rfl, hv, l3⟩; have HV := Lib.hid hv; have HL3 := Lib.hid (HL.out.drew.trans l3); clear hv l3)
        all_goals (try go_wp2_with fail)
        all_goals go_ret
        all_goals exact TurnP.no 3 HX.out (by decide) HV.out HL3.out
    · have HX := Lib.hid (show repartM s c = .error 3 from HM.out.trans (if_pos ⟨hf, .inl h0⟩))
      clear hf HM HR HLR
      go_enter Tryd.func63, Tryd.ntmps63
      go_wp2_with fail
      go_region_law (go_simp; go_at_call 60; refine (at_er _ _ _ _).mono ?_; rintro e w3 ⟨v, rfl, hv, l3⟩; have HV := Lib.hid hv; have HL3 := Lib.hid (HL.out.drew.trans l3); clear hv l3)
      all_goals (try go_wp2_with fail)
      all_goals go_ret
      all_goals exact TurnP.no 3 HX.out (by decide) HV.out HL3.out
  · have HX := Lib.hid (show repartM s c = .ok (s.1, s.2.1, { s.2.2 with pb := c.col, parts := c.num }) from HM.out.trans (if_neg (fun h => by rw [hf] at h; cases h.1)))
    clear hf HM
    go_enter Tryd.func63, Tryd.ntmps63
    go_wp2_with fail
    go_region
    all_goals (try go_wp2_with fail)
    all_goals go_ret
    all_goals exact TurnP.yes HX.out (HR.out.later (Later.refl _).drew) HLR.out.drew

/-- What maySplit tells: nothing, or why not. -/
def MayP (W0 : World) (f : Int → Addr) (w : World) (o : Option Int) (e : Ending) (w' : World) : Prop :=
  Later w w' ∧ ((o = none ∧ e = .returned .nilIface) ∨ ∃ n v, o = some n ∧ n ∈ [(1 : Int), 3, 4, 6, 9] ∧ e = .returned v ∧ Er1 w' v (f n))
/-- Why a column can't be split. -/
def splitO (s : St3) (c : Chg) (i : Nat) : Option Int := if typOf s.1 i ≠ 4 then some 4 else if heldM s c then some 1 else none
set_option maxRecDepth 100000 in
set_option maxHeartbeats 4000000 in
theorem maySplit_any (W0 : World) (p : Nat) (w : World) (f : Int → Addr) (s : St3) (c : Chg) (gv vc ge ec i : Nat) (hs : S15 W0 f) (hl : Later W0 w) (T : TS W0.heap.size p w s c gv vc ge ec) (hi : i < s.1.length) :
    Calls Tryd.prog 78 #[.pointer (some ⟨p, 0, none⟩), .int .i64 i] w (MayP W0 f w (splitO s c i)) := by
  have d0 := T.d0
  obtain ⟨_, _, c2, _, _⟩ := T.col i hi
  have HT := Lib.hid T
  have HS := Lib.hid (hs.later hl)
  have x4 := HS.out.c4
  have HLD := Lib.hid (laid_any W0.heap.size p w s c gv vc ge ec T)
  have hin : (i : Int) < (s.1.length : Int) := by omega
  have hcap := ownG_cap T.cols
  have hcm := ownG_capmax T.cols
  have HTY := Lib.hid (typOf_at hi)
  generalize s.1[i].2.2 = t at c2 HTY
  clear hs hl T
  by_cases h4 : t = 4
  · subst h4
    go_enter Tryd.func78, Tryd.ntmps78
    go_wp2_with fail
    refine HLD.out.mono ?_
    rintro e w2 ⟨rfl, l2⟩
    by_cases hh : heldM s c
    · have HX := Lib.hid (show splitO s c i = some 1 from by unfold splitO; rw [if_neg (by rw [HTY.out]; simp), if_pos hh])
      have hd : decide (heldM s c) = true := decide_eq_true hh
      rw [hd]
      have x1 := (HS.out.later l2).c1
      have HL2 := Lib.hid l2
      clear hh hd l2 HT HLD
      go_wp2_with (go_at_call 60; refine (at_er _ _ _ _).mono ?_; rintro e w3 ⟨v, rfl, hv, l3⟩; have HV := Lib.hid hv; have HL3 := Lib.hid (HL2.out.trans l3); clear hv l3)
      all_goals (try go_wp2_with fail)
      all_goals go_ret
      all_goals exact ⟨HL3.out, .inr ⟨1, v, HX.out, by decide, rfl, HV.out⟩⟩
    · have HX := Lib.hid (show splitO s c i = none from by unfold splitO; rw [if_neg (by rw [HTY.out]; simp), if_neg hh])
      have hd : decide (heldM s c) = false := decide_eq_false hh
      rw [hd]
      have HL2 := Lib.hid l2
      clear hh hd l2 HT HLD
      go_wp2_with fail
      go_ret
      exact ⟨HL2.out, .inl ⟨HX.out, rfl⟩⟩
  · have HX := Lib.hid (show splitO s c i = some 4 from if_pos (by rw [HTY.out]; exact h4))
    have HL2 := Lib.hid (Later.refl w)
    clear HT HLD
    go_enter Tryd.func78, Tryd.ntmps78
    go_wp2_with (go_at_call 60; refine (at_er _ _ _ _).mono ?_; rintro e w3 ⟨v, rfl, hv, l3⟩; have HV := Lib.hid hv; have HL3 := Lib.hid (HL2.out.trans l3); clear hv l3)
    all_goals (try go_wp2_with fail)
    all_goals go_ret
    all_goals exact ⟨HL3.out, .inr ⟨4, v, HX.out, by decide, rfl, HV.out⟩⟩

set_option maxRecDepth 100000 in
set_option maxHeartbeats 4000000 in
theorem widen_any (W0 : World) (p : Nat) (w : World) (f : Int → Addr) (s : St3) (c : Chg) (gv vc ge ec i : Nat) (hs : S15 W0 f) (hl : Later W0 w) (T : TS W0.heap.size p w s c gv vc ge ec) (hi : i < s.1.length) :
    Calls Tryd.prog 76 #[.pointer (some ⟨p, 0, none⟩), .int .i64 i] w (TurnP W0 p f (widenM s i)) := by
  have d0 := T.d0
  obtain ⟨_, _, c2, _, hfz⟩ := T.col i hi
  have HT := Lib.hid T
  have HS := Lib.hid (hs.later hl)
  have HL := Lib.hid hl
  have HI := Lib.hid hi
  have x4 := HS.out.c4
  have hin : (i : Int) < (s.1.length : Int) := by omega
  have hcap := ownG_cap T.cols
  have hcm := ownG_capmax T.cols
  have HTY := Lib.hid (typOf_at hi)
  generalize s.1[i].2.2 = t at c2 HTY
  clear hs hl T
  by_cases h3 : t = 3
  · subst h3
    have HX := Lib.hid (show widenM s i = .ok (typeAt s.1 i 1, s.2) from if_pos HTY.out)
    have HR := Lib.hid (HT.out.colSet (i * 3 + 2) (.int .i64 1) (typeAt s.1 i 1) (by unfold typeAt; simp) (fc_set2 _ _ _ HI.out))
    have HLR := Lib.hid (show Later W0 (w.setCell ⟨gv, i * 3 + 2, none⟩ (.int .i64 1)) from HL.out.set_ HT.out.gv _)
    go_enter Tryd.func76, Tryd.ntmps76
    go_wp2_with fail
    go_ret
    exact TurnP.yes HX.out HR.out HLR.out
  by_cases h1 : t = 1
  · subst h1
    have HX := Lib.hid (show widenM s i = .ok (typeAt s.1 i 2, s.2) from by unfold widenM; rw [if_neg (by rw [HTY.out]; decide), if_pos HTY.out])
    have HR := Lib.hid (HT.out.colSet (i * 3 + 2) (.int .i64 2) (typeAt s.1 i 2) (by unfold typeAt; simp) (fc_set2 _ _ _ HI.out))
    have HLR := Lib.hid (show Later W0 (w.setCell ⟨gv, i * 3 + 2, none⟩ (.int .i64 2)) from HL.out.set_ HT.out.gv _)
    go_enter Tryd.func76, Tryd.ntmps76
    go_wp2_with fail
    go_ret
    exact TurnP.yes HX.out HR.out HLR.out
  · have HX := Lib.hid (show widenM s i = .error 4 from by unfold widenM; rw [if_neg (by rw [HTY.out]; exact h3), if_neg (by rw [HTY.out]; exact h1)])
    go_enter Tryd.func76, Tryd.ntmps76
    go_wp2_with fail
    go_region_law (go_simp; go_at_call 60; refine (at_er _ _ _ _).mono ?_; rintro e w3 ⟨v, rfl, hv, l3⟩; have HV := Lib.hid hv; have HL3 := Lib.hid (HL.out.drew.trans l3); clear hv l3)
    all_goals (try go_wp2_with fail)
    all_goals go_ret
    all_goals exact TurnP.no 4 HX.out (by decide) HV.out HL3.out

set_option maxRecDepth 100000 in
set_option maxHeartbeats 4000000 in
theorem rename_any (W0 : World) (p : Nat) (w : World) (f : Int → Addr) (s : St3) (c : Chg) (gv vc ge ec i : Nat) (hs : S15 W0 f) (hl : Later W0 w) (T : TS W0.heap.size p w s c gv vc ge ec) (hi : i < s.1.length) (hnm : c.name.size ≤ 9223372036854775807) :
    Calls Tryd.prog 75 #[.pointer (some ⟨p, 0, none⟩), .int .i64 i] w (TurnP W0 p f (renameM s c i)) := by
  have d8 := T.d8
  have HT := Lib.hid T
  have HS := Lib.hid (hs.later hl)
  have HL := Lib.hid hl
  have HI := Lib.hid hi
  have x1 := HS.out.c1
  have HNC := Lib.hid (mayName_any c.name w hnm)
  have hsm := T.small.2
  clear hs hl T hnm
  go_enter Tryd.func75, Tryd.ntmps75
  go_wp2_with fail
  refine HNC.out.mono ?_
  clear HNC
  by_cases hn : NameL c.name
  rotate_left
  · rintro e w2 ht
    obtain ⟨rfl, l2⟩ := ht.no hn
    have HX := Lib.hid (show renameM s c i = .error 1 from if_pos hn)
    have HL2 := Lib.hid (HL.out.trans l2)
    have x1 := (HS.out.later l2).c1
    clear hn ht l2 HT HS
    go_wp2_with (go_at_call 60; refine (at_er _ _ _ _).mono ?_; rintro e w3 ⟨v, rfl, hv, l3⟩; have HV := Lib.hid hv; have HL3 := Lib.hid (HL2.out.trans l3); clear hv l3)
    all_goals (try go_wp2_with fail)
    all_goals go_ret
    all_goals exact TurnP.no 1 HX.out (by decide) HV.out HL3.out
  rintro e w2 ht
  obtain ⟨rfl, l2⟩ := ht.yes hn
  have HM := Lib.hid (show renameM s c i = (if (findC s.1 c.name).isSome = true ∧ findC s.1 c.name ≠ some i then .error 9 else .ok (nameAt s.1 i c.name, s.2)) from if_neg (fun h => h hn))
  have HT2 := Lib.hid (HT.out.later l2)
  have HL2 := Lib.hid (HL.out.trans l2)
  have HS2 := Lib.hid (HS.out.later l2)
  clear ht l2 hn HT HS HL d8 x1
  have k0 := cell_regrown HT2.out.d0
  have k1 := cell_regrown HT2.out.d1
  have k8 := cell_regrown HT2.out.d8
  have HFQ := Lib.hid (find_q (some ⟨gv, 0, none⟩) s.1.length vc s.2.1 s.1 c.name w2 rfl (by omega) (Has.ownG HT2.out.cols))
  go_wp2_with fail
  refine wp_region_quiet_below (by kernel_rfl) (by kernel_rfl) ?_
  repeat (quiet_step (exact HFQ.out _ _))
  refine wpQuiet_nil ?_
  intro _ hw'
  obtain ⟨⟨dq, osq⟩, hw''⟩ := hw'
  subst hw''
  have l3 := below_regrown w2 dq osq
  generalize Go.Sort.grow (redrawn w2 dq) osq = w3 at l3
  have HT3 := Lib.hid (HT2.out.later l3)
  have HL3' := Lib.hid (HL2.out.trans l3)
  have x9 := (HS2.out.later l3).c9
  have d8 := HT3.out.d8
  have d0 := HT3.out.d0
  obtain ⟨_, c1, _, hfz, _⟩ := HT3.out.col i HI.out
  generalize s.1[i].2.1 = onm at c1
  have hcap := ownG_cap HT3.out.cols
  have hcm := ownG_capmax HT3.out.cols
  have hin : (i : Int) < (s.1.length : Int) := by have := HI.out; omega
  have HR := Lib.hid (HT3.out.colSet (i * 3 + 1) (.string c.name) (nameAt s.1 i c.name) (by unfold nameAt; simp) (fc_set1 _ _ _ HI.out))
  have HLR := Lib.hid (show Later W0 (w3.setCell ⟨gv, i * 3 + 1, none⟩ (.string c.name)) from HL3'.out.set_ HT3.out.gv _)
  clear k0 k1 k8 HFQ l3 HT2 HL2 HS2
  rcases hfc : findC s.1 c.name with _ | k
  · have HX := Lib.hid (show renameM s c i = .ok (nameAt s.1 i c.name, s.2) from HM.out.trans (if_neg (fun h => by rw [hfc] at h; cases h.1)))
    clear hfc HM
    simp only [Option.getD_none, Option.isSome_none]
    go_wp2_with fail
    go_region
    all_goals (try go_wp2_with fail)
    all_goals go_ret
    all_goals exact TurnP.yes HX.out (HR.out.later (Later.refl _).drew) HLR.out.drew
  · simp only [Option.getD_some, Option.isSome_some]
    by_cases hk : k = i
    · have HX := Lib.hid (show renameM s c i = .ok (nameAt s.1 i c.name, s.2) from HM.out.trans (if_neg (fun h => by rw [hfc, hk] at h; exact h.2 rfl)))
      have hke : ((k : Int) == (i : Int)) = true := by simp; omega
      clear hfc HM
      go_wp2_with fail
      go_region
      all_goals (try go_wp2_with fail)
      all_goals go_ret
      all_goals exact TurnP.yes HX.out (HR.out.later (Later.refl _).drew) HLR.out.drew
    · have HX := Lib.hid (show renameM s c i = .error 9 from HM.out.trans (if_pos ⟨by rw [hfc]; rfl, by rw [hfc]; intro h; injection h with h; exact hk h⟩))
      have hke : ((k : Int) == (i : Int)) = false := by simp; omega
      clear hfc HM HR HLR hk
      go_wp2_with (go_at_call 60; refine (at_er _ _ _ _).mono ?_; rintro e w3 ⟨v, rfl, hv, l3⟩; have HV := Lib.hid hv; have HL3 := Lib.hid (HL3'.out.trans l3); clear hv l3)
      all_goals (try go_wp2_with fail)
      all_goals go_ret
      all_goals exact TurnP.no 9 HX.out (by decide) HV.out HL3.out
end Go.Proofs.YtklohbglkbhjhaaDoor
