/- The walks of package pred: check, Check. -/
import Derived.Test.YteiabachilpciaaDoorPredB
namespace Go.Proofs.YteiabachilpciaaDoor
open Go.RowKit
set_option linter.unusedVariables false

/-- May a test be, of whatever schema? -/
def OkT (t : Tst) : Prop := (1 ≤ t.op ∧ t.op ≤ 8) ∧ MayV t.v.1 t.v.2.1 t.v.2.2.size
instance (t i : Int) (n : Nat) : Decidable (MayV t i n) := by unfold MayV; infer_instance
instance (t : Tst) : Decidable (OkT t) := by unfold OkT; infer_instance
def check2 (cols : List Col3) : List Tst → Int
  | [] => 0
  | t :: r => match findC cols t.nm with
    | none => 3
    | some k => if meetsT (cols.getD k (0, ⟨#[]⟩, 0)).2.2 t then check2 cols r else 4
/-- Why tests may not be. -/
def checkT (cols : List Col3) (l : List Tst) : Int := if 8 < l.length then 1 else if l.all (fun t => decide (OkT t)) then check2 cols l else 1
/-- An error that tells e. -/
def ErrP (e : Int) (w : World) (r : Ending) (w' : World) : Prop := ((e = 0 ∧ r = .returned .nilIface) ∨ ∃ v, r = .returned v ∧ WrapsE w' v e) ∧ Later w w'

set_option maxRecDepth 100000 in
set_option maxHeartbeats 4000000 in
theorem predCheck_any (A : Option Addr) (n c : Nat) (last : Int) (cols : List Col3) (T : Option Addr) (tn tc : Nat) (l : List Tst) (w : World) (hs : S3 w) (hn : n = cols.length) (hl : n ≤ 100000) (hr : Has w A (fc cols)) (htn : tn = l.length) (htl : tn ≤ 100000) (hT : Has w T (ft l)) :
    Calls Tryd.prog 27 #[.agg #[.slice A n c, .int .i64 last], .slice T tn tc] w (ErrP (checkT cols l) w) := by
  obtain ⟨gz, hgz⟩ : ∃ g, w.heap.size = g := ⟨_, rfl⟩
  obtain ⟨w1, hw1⟩ : ∃ x : World, w.alloc (.cells #[.slice A n c, .int .i64 last] 33) = x := ⟨_, rfl⟩
  have BS := Blk.new w #[.slice A n c, .int .i64 last] 33 gz hgz.symm
  have L1 := Later.new w (.cells #[.slice A n c, .int .i64 last] 33)
  rw [hw1] at BS L1
  have HTN := Lib.hid htn
  have HN := Lib.hid hn
  have HBS := Lib.hid BS
  have HL1 := Lib.hid L1
  have HR := Lib.hid hr
  have HT := Lib.hid hT
  have HS := Lib.hid hs
  clear BS htn hn hr hT hs L1
  by_cases h8 : 8 < tn
  · have HE := Lib.hid (show checkT cols l = 1 by unfold checkT; rw [if_pos (by have := HTN.out; omega)])
    have h8i : (8 : Int) < (tn : Int) := by omega
    have HO := Lib.hid (fun w => of_some 1 w (by decide))
    go_enter Tryd.func27, Tryd.ntmps27
    go_wp2_with (first
      | (go_at_call 40; refine (HO.out _).mono ?_; rintro e wX ⟨rfl, rfl⟩)
      | (go_at_call 39; refine (at_e _ _ _ _).mono ?_; rintro e wX ⟨v, rfl, hv, lX⟩; have HV := Lib.hid hv; have HLX := Lib.hid (HL1.out.trans lX); clear hv lX))
    go_ret
    rw [HE.out]
    exact ⟨.inr ⟨_, rfl, HV.out⟩, HLX.out⟩
  · have h8i : ¬ (8 : Int) < (tn : Int) := by omega
    have HC0 := Lib.hid (show checkT cols l = if l.all (fun t => decide (OkT t)) then check2 cols l else 1 by unfold checkT; rw [if_neg (by have := HTN.out; omega)])
    have HO1 := Lib.hid (fun w => of_some 1 w (by decide))
    go_enter Tryd.func27, Tryd.ntmps27
    go_wp2_with fail
    clear hw1 hgz h8i
    go_loopw [20] (fun iv wr => ∃ k : Nat, k ≤ tn ∧ iv = .int .i64 k ∧ (l.take k).all (fun t => decide (OkT t)) = true ∧ Later w1 wr) (fun i _ => tn - (intOf i).toNat)
    case atStart => exact ⟨0, Nat.zero_le _, rfl, by simp, Later.refl _⟩
    case round =>
      obtain ⟨k, hk, rfl, hall, lat⟩ := hrel
      have HLAT := Lib.hid lat
      by_cases hlt : k < tn
      · have hkl : k < l.length := by have := HTN.out; omega
        obtain ⟨tb, toff, hTA, hta⟩ := (HT.out.later (HL1.out.trans lat)).tst k hkl
        subst hTA
        have HY := Lib.hid (fun (h : OkT l[k]) => show (l.take (k + 1)).all (fun t => decide (OkT t)) = true by
          rw [List.take_succ_eq_append_getElem hkl, List.all_append, hall]; simpa using h)
        have HNO := Lib.hid (fun (h : ¬ OkT l[k]) => show checkT cols l = 1 by
          rw [HC0.out, if_neg]
          intro h2
          exact h (by simpa using List.all_eq_true.1 h2 _ (List.getElem_mem hkl)))
        obtain ⟨t, ht⟩ : ∃ t, l[k] = t := ⟨_, rfl⟩
        rw [ht] at hta HY HNO
        obtain ⟨nm, op, ⟨vt, vi, vs⟩, o, nt⟩ := t
        obtain ⟨e0, e1, e2, e3, e4, e5, e6⟩ := hta
        dsimp only at e0 e1 e2 e3 e4 e5 e6
        have e0 := e0.out
        have e1 := e1.out
        have e2 := e2.out
        have e3 := e3.out
        have e4 := e4.out
        have e5 := e5.out
        have e6 := e6.out
        obtain ⟨gt, hgt⟩ : ∃ g, wr.heap.size = g := ⟨_, rfl⟩
        obtain ⟨w2, hw2⟩ : ∃ x : World, wr.alloc (.cells (tcs nm op vt vi vs o nt) 28) = x := ⟨_, rfl⟩
        have BT := Blk.new wr (tcs nm op vt vi vs o nt) 28 gt hgt.symm
        have l2 := Later.new wr (.cells (tcs nm op vt vi vs o nt) 28)
        rw [hw2] at BT l2
        have HL2 := Lib.hid l2
        have HM := Lib.hid (may3_any vt vi vs w2 (HS.out.later ((HL1.out.trans lat).trans l2)))
        have b1 := BT.cell 1 _ rfl
        have b2 := BT.cell 2 _ rfl
        have b3 := BT.cell 3 _ rfl
        have b4 := BT.cell 4 _ rfl
        have HLL := Lib.hid ((HL1.out.trans lat).trans l2)
        clear BT l2 ht hall lat
        by_cases hb : op < 1
        · have HE := Lib.hid (HNO.out (fun h => by have := h.1.1; dsimp only at this; omega))
          clear HY HNO
          go_wp2_with (first
            | (go_at_call 40; refine (HO1.out _).mono ?_; rintro e wX ⟨rfl, rfl⟩)
            | (go_at_call 39; refine (at_e _ _ _ _).mono ?_; rintro e wX ⟨v, rfl, hv, lX⟩; have HV := Lib.hid hv; have HLX := Lib.hid (HLL.out.trans lX); clear hv lX))
          go_ret
          rw [HE.out]
          exact ⟨.inr ⟨_, rfl, HV.out⟩, HLX.out⟩
        · by_cases hb2 : 8 < op
          · have HE := Lib.hid (HNO.out (fun h => by have := h.1.2; dsimp only at this; omega))
            clear HY HNO
            go_wp2_with (first
              | (go_at_call 40; refine (HO1.out _).mono ?_; rintro e wX ⟨rfl, rfl⟩)
              | (go_at_call 39; refine (at_e _ _ _ _).mono ?_; rintro e wX ⟨v, rfl, hv, lX⟩; have HV := Lib.hid hv; have HLX := Lib.hid (HLL.out.trans lX); clear hv lX))
            go_ret
            rw [HE.out]
            exact ⟨.inr ⟨_, rfl, HV.out⟩, HLX.out⟩
          · by_cases hm : MayV vt vi vs.size
            · have HE := Lib.hid (HY.out ⟨⟨show 1 ≤ op by omega, show op ≤ 8 by omega⟩, hm⟩)
              have HM2 := Lib.hid (HM.out.mono fun _ _ h => h.yes hm)
              clear HY HNO HM hm
              go_wp2_with (first
                | (go_at_call 41; refine HM2.out.mono ?_; rintro e wX ⟨rfl, lX⟩; have HLX := Lib.hid ((HLAT.out.trans HL2.out).trans lX); clear lX))
              all_goals go_wp2_with fail
              all_goals go_roundw
              all_goals first
                | exact ⟨k + 1, hlt, by go_num, HE.out, HLX.out⟩
                | (simp [intOf]; omega)
            · have HE := Lib.hid (HNO.out (fun h => hm h.2))
              have HM2 := Lib.hid (HM.out.mono fun _ _ h => h.no hm)
              clear HY HNO HM hm
              go_wp2_with (first
                | (go_at_call 41; refine HM2.out.mono ?_; rintro e wM ⟨rfl, lM⟩; have HLM := Lib.hid (HLL.out.trans lM); clear lM b1 b2 b3 b4)
                | (go_at_call 40; refine (HO1.out _).mono ?_; rintro e wX ⟨rfl, rfl⟩)
                | (go_at_call 39; refine (at_e _ _ _ _).mono ?_; rintro e wX ⟨v, rfl, hv, lX⟩; have HV := Lib.hid hv; have HLX := Lib.hid (HLM.out.trans lX); clear hv lX))
              go_ret
              rw [HE.out]
              exact ⟨.inr ⟨_, rfl, HV.out⟩, HLX.out⟩
      · have hkn : k = l.length := by have := HTN.out; omega
        have HC := Lib.hid (show checkT cols l = check2 cols (l.drop 0) by
          subst hkn
          rw [List.take_length] at hall
          rw [HC0.out, if_pos hall, List.drop_zero])
        have HLW := Lib.hid (HL1.out.trans lat)
        have HB1 := Lib.hid (HBS.out.later lat)
        obtain ⟨wo, hwo⟩ : ∃ x, x = wr := ⟨_, rfl⟩
        subst hwo
        have HO3 := Lib.hid (fun w => of_some 3 w (by decide))
        have HO4 := Lib.hid (fun w => of_some 4 w (by decide))
        clear hkn hall HC0 HO1 lat HLAT
        go_wp2_with fail
        go_loopw [45] (fun iv wr => ∃ k : Nat, k ≤ tn ∧ iv = .int .i64 k ∧ checkT cols l = check2 cols (l.drop k) ∧ Later wo wr) (fun i _ => tn - (intOf i).toNat)
        case atStart => exact ⟨0, Nat.zero_le _, rfl, HC.out, Later.refl _⟩
        case round =>
          obtain ⟨k, hk, rfl, hck, lat⟩ := hrel
          have HLAT := Lib.hid lat
          by_cases hlt : k < tn
          · have hkl : k < l.length := by have := HTN.out; omega
            obtain ⟨tb, toff, hTA, hta⟩ := (HT.out.later (HLW.out.trans lat)).tst k hkl
            subst hTA
            have hst : checkT cols l = match findC cols l[k].nm with
              | none => 3
              | some k' => if meetsT (cols.getD k' (0, ⟨#[]⟩, 0)).2.2 l[k] then check2 cols (l.drop (k + 1)) else 4 := by
              rw [hck, List.drop_eq_getElem_cons hkl]; rfl
            obtain ⟨t, ht⟩ : ∃ t, l[k] = t := ⟨_, rfl⟩
            rw [ht] at hta hst
            obtain ⟨nm, op, ⟨vt, vi, vs⟩, o, nt⟩ := t
            obtain ⟨e0, e1, e2, e3, e4, e5, e6⟩ := hta
            dsimp only at e0 e1 e2 e3 e4 e5 e6 hst
            have e0 := e0.out
            have e1 := e1.out
            have e2 := e2.out
            have e3 := e3.out
            have e4 := e4.out
            have e5 := e5.out
            have e6 := e6.out
            obtain ⟨gt, hgt⟩ : ∃ g, wr.heap.size = g := ⟨_, rfl⟩
            obtain ⟨w2, hw2⟩ : ∃ x : World, wr.alloc (.cells (tcs nm op vt vi vs o nt) 28) = x := ⟨_, rfl⟩
            have BT := Blk.new wr (tcs nm op vt vi vs o nt) 28 gt hgt.symm
            have l2 := Later.new wr (.cells (tcs nm op vt vi vs o nt) 28)
            rw [hw2] at BT l2
            have HL2 := Lib.hid l2
            have HF := Lib.hid (find_any A n c last cols nm w2 HN.out hl (HR.out.later ((HLW.out.trans lat).trans l2)))
            have HBT := Lib.hid BT
            have b0 := BT.cell 0 _ rfl
            have s0 := ((HB1.out.later lat).later l2).cell 0 _ rfl
            have s1 := ((HB1.out.later lat).later l2).cell 1 _ rfl
            have HBS2 := Lib.hid ((HB1.out.later lat).later l2)
            have HLL := Lib.hid ((HLW.out.trans lat).trans l2)
            have HLO := Lib.hid (lat.trans l2)
            have HCK := Lib.hid hck
            clear BT l2 ht lat hck
            cases hfc : findC cols nm with
            | none =>
              rw [hfc] at HF hst
              have HE := Lib.hid hst
              clear hst hfc
              go_wp2_with fail
              refine HF.out.mono ?_
              rintro e wF ⟨rfl, lF⟩
              have HLF := Lib.hid (HLL.out.trans lF)
              clear lF HF s0 s1 b0 e0 e1 e2 e3 e4 e5 e6 hw2
              simp only [Option.getD_none, Option.isSome_none]
              go_wp2_with (first
                | (go_at_call 40; refine (HO3.out _).mono ?_; rintro e wX ⟨rfl, rfl⟩)
                | (go_at_call 39; refine (at_e _ _ _ _).mono ?_; rintro e wX ⟨v, rfl, hv, lX⟩; have HV := Lib.hid hv; have HLX := Lib.hid (HLF.out.trans lX); clear hv lX))
              go_ret
              rw [HE.out]
              exact ⟨.inr ⟨_, rfl, HV.out⟩, HLX.out⟩
            | some q =>
              rw [hfc] at HF hst
              obtain ⟨hq, hq2⟩ := findC_lt hfc
              dsimp only at hst
              rw [show cols.getD q (0, ⟨#[]⟩, 0) = cols[q] by rw [List.getD_eq_getElem?_getD, List.getElem?_eq_getElem hq]; rfl] at hst
              have HHA := Lib.hid (HR.out.later HLL.out)
              obtain ⟨cb, coff, hCA, cc0, cc1, cc2⟩ := HHA.out.col3 q hq
              subst hCA
              have k2 : CellIs w2 ⟨cb, coff + q * 3 + 2, none⟩ (.int .i64 cols[q].2.2) := cc2
              obtain ⟨ty, hty⟩ : ∃ x, cols[q].2.2 = x := ⟨_, rfl⟩
              rw [hty] at k2 hst
              have hqi : (q : Int) < (n : Int) := by have := HN.out; omega
              have hqn : q < n := by have := HN.out; omega
              obtain ⟨mt, hmt⟩ : ∃ x, meetsT ty ⟨nm, op, (vt, vi, vs), o, nt⟩ = x := ⟨_, rfl⟩
              rw [hmt] at hst
              have HM := Lib.hid (fun w' => meets_any ty nm op vt vi vs o nt w')
              rw [hmt] at HM
              have HE := Lib.hid hst
              clear hst hfc hty hmt cc0 cc1 cc2 hq2 hq HHA
              go_wp2_with fail
              refine HF.out.mono ?_
              rintro e wF ⟨rfl, lF⟩
              have lf := (HLL.out.trans lF).drew
              have lo := (HLO.out.trans lF).drew
              have bt := (HBT.out.later lF).drew
              have bs := (HBS2.out.later lF).drew
              have k2 := (k2.later lF).drew
              clear lF HF s0 s1 b0 e0 e1 e2 e3 e4 e5 e6 hw2
              simp only [Option.getD_some, Option.isSome_some]
              go_wp2_with fail
              go_region_held3 (fun w' => w'.cell? ⟨gz, 0, none⟩ = some (.slice (some ⟨cb, coff, none⟩) n c) ∧ w'.cell? ⟨cb, coff + q * 3 + 2, none⟩ = some (.int .i64 ty) ∧ w'.cell? ⟨gt, 0, none⟩ = some (.string nm) ∧ w'.cell? ⟨gt, 1, none⟩ = some (.int .i64 op) ∧ w'.cell? ⟨gt, 2, none⟩ = some (.int .i64 vt) ∧ w'.cell? ⟨gt, 3, none⟩ = some (.int .i64 vi) ∧ w'.cell? ⟨gt, 4, none⟩ = some (.string vs) ∧ w'.cell? ⟨gt, 5, none⟩ = some (.bool o) ∧ w'.cell? ⟨gt, 6, none⟩ = some (.bool nt)) (exact ⟨bs.cell 0 _ rfl, k2.out, bt.cell 0 _ rfl, bt.cell 1 _ rfl, bt.cell 2 _ rfl, bt.cell 3 _ rfl, bt.cell 4 _ rfl, bt.cell 5 _ rfl, bt.cell 6 _ rfl⟩) (first | (go_at_call 43; refine (HM.out _).mono ?_; rintro e wX ⟨rfl, lX⟩; have lf := lf.trans lX; have lo := lo.trans lX; have bt := bt.later lX; have bs := bs.later lX; have k2 := k2.later lX; clear lX))
              clear k2 HM
              cases mt with
              | true =>
                go_wp2_with fail
                go_roundw
                all_goals first
                  | exact ⟨k + 1, hlt, by go_num, by rw [HE.out]; rfl, lo⟩
                  | (simp [intOf]; omega)
              | false =>
                go_wp2_with (first
                  | (go_at_call 40; refine (HO4.out _).mono ?_; rintro e wX ⟨rfl, rfl⟩)
                  | (go_at_call 39; refine (at_e _ _ _ _).mono ?_; rintro e wX ⟨v, rfl, hv, lX⟩; have HV := Lib.hid hv; have HLX := Lib.hid (lf.trans lX); clear hv lX))
                go_ret
                rw [HE.out]
                exact ⟨.inr ⟨_, rfl, HV.out⟩, HLX.out⟩
          · have HE := Lib.hid (show checkT cols l = 0 by
              have : k = l.length := by have := HTN.out; omega
              subst this
              rw [hck, List.drop_length]; rfl)
            clear hck
            go_wp2_with fail
            go_ret
            rw [HE.out]
            exact ⟨.inl ⟨rfl, rfl⟩, HLW.out.trans lat⟩

theorem predCheck2_any (A : Option Addr) (n c : Nat) (last : Int) (cols : List Col3) (T : Option Addr) (tn tc : Nat) (l : List Tst) (w : World) (hg : ErrT w) (hs : S3 w) (hn : n = cols.length) (hl : n ≤ 100000) (hr : Has w A (fc cols)) (htn : tn = l.length) (htl : tn ≤ 100000) (hT : Has w T (ft l)) :
    Calls Tryd.prog 13 #[.agg #[.slice A n c, .int .i64 last], .slice T tn tc] w fun e w' => e = .returned (.int .i64 (checkT cols l)) ∧ Later w w' := by
  have l1 := Later.new w (.cells #[.slice A n c, .int .i64 last] 33)
  have B := Blk.new w #[.slice A n c, .int .i64 last] 33 _ rfl
  have HC := Lib.hid (predCheck_any A n c last cols T tn tc l _ (hs.later l1) hn hl (hr.later l1) htn htl (hT.later l1))
  have HG := Lib.hid (hg.later l1)
  have HL := Lib.hid l1
  have b0 := B.cell 0 _ rfl
  have b1 := B.cell 1 _ rfl
  clear l1 B hg hs hn hr htn hT
  go_enter Tryd.func13, Tryd.ntmps13
  go_wp2_with fail
  refine HC.out.mono ?_
  rintro e w2 ⟨h, l2⟩
  have HL2 := Lib.hid (HL.out.trans l2)
  have HG2 := Lib.hid (HG.out.later l2)
  clear l2 b0 b1 HC
  rcases h with ⟨h0, rfl⟩ | ⟨v, rfl, hv⟩
  · have H0 := Lib.hid h0
    clear h0
    go_wp2_with (first | (go_at_call 26; refine (tell_nil _).mono ?_; rintro e wX ⟨rfl, rfl⟩))
    go_ret
    rw [H0.out]
    exact ⟨rfl, HL2.out⟩
  · have HT := Lib.hid (tell_some v _ w2 HG2.out hv)
    clear hv
    go_wp2_with fail
    refine HT.out.mono ?_
    rintro e w3 ⟨rfl, l3⟩
    have HL3 := Lib.hid (HL2.out.trans l3)
    clear l3
    go_wp2_with fail
    go_ret
    exact ⟨rfl, HL3.out⟩
end Go.Proofs.YteiabachilpciaaDoor
