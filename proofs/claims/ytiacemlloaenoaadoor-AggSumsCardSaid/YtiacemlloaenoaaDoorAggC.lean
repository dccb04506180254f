/- The walk of agg.Agg.of. -/
import Derived.Test.YtiacemlloaenoaaDoorAggB
import Derived.Test.YtiacemlloaenoaaDoorBatR
namespace Go.Proofs.YtiacemlloaenoaaDoor
open Go.RowKit
set_option linter.unusedVariables false

abbrev z3 : Val3 := (0, 0, ⟨#[]⟩)
/-- Places as cells. -/
def pin (l : List Nat) : List Value := l.map fun (x : Nat) => Value.int .i64 (x : Int)
theorem pin_len (l : List Nat) : (pin l).length = l.length := by simp [pin]
theorem pin_append (a b : List Nat) : pin (a ++ b) = pin a ++ pin b := List.map_append
theorem Has.pin {w : World} {A : Option Addr} {l : List Nat} (h : Has w A (pin l)) (k : Nat) (hk : k < l.length) : ∃ b off, A = some ⟨b, off, none⟩ ∧ w.cell? ⟨b, off + k, none⟩ = some (.int .i64 (l[k] : Nat)) := by
  obtain ⟨b, off, hA, _, hc⟩ := h.at_ (k := k) (by rw [pin_len]; exact hk)
  refine ⟨b, off, hA, ?_⟩
  rw [hc]; simp [Go.Proofs.YtiacemlloaenoaaDoor.pin]
/-- What a column has at these places, that is not nothing. -/
def pickN (col : List Val3) (ps : List Nat) : List Val3 := (ps.map fun p => col.getD p z3).filter fun x => decide (x.1 ≠ 0)
theorem pickN_len (col : List Val3) (ps : List Nat) : (pickN col ps).length ≤ ps.length := Nat.le_trans (List.length_filter_le _ _) (by simp)
theorem pickN_step (col : List Val3) (ps : List Nat) (k : Nat) (h : k < ps.length) (x : Val3) (hx : col.getD ps[k] z3 = x) : pickN col (ps.take (k + 1)) = pickN col (ps.take k) ++ (if x.1 = 0 then [] else [x]) := by
  unfold pickN
  rw [List.take_succ_eq_append_getElem h, List.map_append, List.filter_append, List.map_singleton, hx]
  by_cases e : x.1 = 0
  · rw [if_pos e, List.filter_cons_of_neg (by simp [e]), List.filter_nil]
  · rw [if_neg e, List.filter_cons_of_pos (by simp [e]), List.filter_nil]
/-- An aggregate of these places of a table. -/
def ofA (cols : List (List Val3)) (ps : List Nat) (op at_ : Int) : Except Int Val3 :=
  if at_ < 0 then .ok (2, ps.length, ⟨#[]⟩) else ofV (pickN (cols.getD at_.toNat []) ps) op
/-- Where the loop stands. -/
def OfI (W2 : World) (col : List Val3) (ps : List Nat) (rv iv : Value) (wr : World) : Prop :=
  ∃ (k : Nat) (R : Option Addr) (rn rc : Nat), rv = .slice R rn rc ∧ iv = .int .i64 k ∧ k ≤ ps.length ∧ rn = (pickN col (ps.take k)).length ∧ wr.ownsRow W2.heap.size 40 3 (.slice R rn rc) rn (fl (pickN col (ps.take k))) ∧ (R = none → rc = 0) ∧ Later W2 wr
theorem OfI.mk {W2 wr : World} {col : List Val3} {ps : List Nat} (y : Int) (k : Nat) (R : Option Addr) (rn rc : Nat) (hy : y = (k : Int)) (hk : k ≤ ps.length) (hrn : rn = (pickN col (ps.take k)).length) (ho : wr.ownsRow W2.heap.size 40 3 (.slice R rn rc) rn (fl (pickN col (ps.take k)))) (hnil : R = none → rc = 0) (L : Later W2 wr) : OfI W2 col ps (.slice R rn rc) (.int .i64 y) wr := by
  subst hy; exact ⟨k, R, rn, rc, rfl, rfl, hk, hrn, ho, hnil, L⟩
theorem own_len {w : World} {base n c : Nat} {A : Option Addr} {l : List Val3} (h : w.ownsRow base 40 3 (.slice A n c) n (fl l)) : n = l.length := by
  have := h.1
  rw [fl_length] at this; omega

set_option maxRecDepth 100000 in
set_option maxHeartbeats 4000000 in
theorem of_any (A Ap : Option Addr) (n c pn pc : Nat) (zs : List SlV) (ps : List Nat) (op at_ : Int) (a0 a1 a2 : Addr) (w : World) (hS : S24 w a0 a1 a2) (hn : n = zs.length) (hl : n ≤ 1000) (hr : RowsAt w A zs)
    (hpn : pn = ps.length) (hpl : ps.length ≤ 100000) (hp : Has w Ap (pin ps)) (hpz : ∀ p ∈ ps, ∀ s ∈ zs, p < s.l.length) (h64 : ∀ s ∈ zs, ∀ x ∈ s.l, -9223372036854775808 ≤ x.2.1 ∧ x.2.1 ≤ 9223372036854775807) (hop : 1 ≤ op ∧ op ≤ 4) (hat : at_ < (zs.length : Int)) :
    Calls Tryd.prog 17 #[.agg #[.int .i64 op, .int .i64 at_], .slice A n c, .slice Ap pn pc] w (OfP (ofA (colsOf zs) ps op at_) a0 a1 a2 w) := by
  subst hpn
  subst hn
  obtain ⟨g0, hg0⟩ : ∃ g, w.heap.size = g := ⟨_, rfl⟩
  obtain ⟨W2, hW2⟩ : ∃ x, (w.alloc (.cells #[.int .i64 op, .int .i64 at_] 42)).alloc (.cells #[.int .i64 0, .int .i64 0, .string ⟨#[]⟩] 40) = x := ⟨_, rfl⟩
  have L2 : Later w W2 := hW2 ▸ (Later.new w _).alloc _
  have B0 : Blk W2 g0 #[.int .i64 op, .int .i64 at_] 42 := hW2 ▸ (Blk.new w _ _ _ hg0.symm).later (Later.new _ _)
  have B1 : Blk W2 (g0 + 1) #[.int .i64 0, .int .i64 0, .string ⟨#[]⟩] 40 := hW2 ▸ Blk.new _ _ _ _ (by simp [hg0])
  have HSZ := Lib.hid (show w.heap.size ≤ g0 + 1 from by omega)
  have HB0 := Lib.hid B0
  have HB1 := Lib.hid B1
  have HL2 := Lib.hid L2
  have HSS := Lib.hid (hS.later L2)
  have HRR := Lib.hid (hr.later L2)
  have HPP := Lib.hid (hp.later L2)
  have HPZ := Lib.hid hpz
  have H64 := Lib.hid h64
  by_cases hneg : at_ < 0
  · have hd : decide (at_ < 0) = true := by simpa using hneg
    have HE := Lib.hid (show ofA (colsOf zs) ps op at_ = .ok (2, ps.length, ⟨#[]⟩) from if_pos hneg)
    clear hS hr hp hpz h64 L2
    have b1 := B0.cell 1 _ rfl
    clear B0 B1
    have HN := Lib.hid (number_any (ps.length : Int) W2)
    go_enter Tryd.func17, Tryd.ntmps17
    go_wp2_with fail
    refine HN.out.mono ?_
    rintro e w3 ⟨rfl, l3⟩
    have BR := HB1.out.later l3
    have r0 := BR.cell 0 _ rfl
    have r1 := BR.cell 1 _ rfl
    have r2 := BR.cell 2 _ rfl
    have f0 := BR.frozen 0
    have f1 := BR.frozen 1
    have f2 := BR.frozen 2
    have HBq := Lib.hid (three_blk BR rfl (.int .i64 2) (.int .i64 ps.length) (.string ⟨#[]⟩))
    have HLq := Lib.hid (three_later (HL2.out.trans l3) HSZ.out (.int .i64 2) (.int .i64 ps.length) (.string ⟨#[]⟩))
    obtain ⟨wq, hwq⟩ : ∃ x, (((w3.setCell ⟨g0 + 1, 0, none⟩ (.int .i64 2)).setCell ⟨g0 + 1, 1, none⟩ (.int .i64 ps.length)).setCell ⟨g0 + 1, 2, none⟩ (.string ⟨#[]⟩)) = x := ⟨_, rfl⟩
    rw [hwq] at HBq HLq
    clear BR l3 HN
    go_wp2_with fail
    have q0 := HBq.out.cell 0 _ rfl
    have q1 := HBq.out.cell 1 _ rfl
    have q2 := HBq.out.cell 2 _ rfl
    exact bodyPost_ret (v := .tuple #[.agg #[.int .i64 2, .int .i64 ps.length, .string ⟨#[]⟩], .nilIface]) (by simp [results, Tryd.results17, go_sem, q0, q1, q2]) rfl (OfP.good 2 _ ⟨#[]⟩ HE.out HLq.out)
  · obtain ⟨ai, rfl⟩ : ∃ k : Nat, at_ = (k : Int) := ⟨at_.toNat, by omega⟩
    have hai : ai < zs.length := by omega
    have hd : decide ((ai : Int) < 0) = false := by simp
    have HE := Lib.hid (show ofA (colsOf zs) ps op ai = ofV (pickN zs[ai].l ps) op from by
      unfold ofA
      rw [if_neg hneg]
      congr 2
      unfold colsOf
      rw [Int.toNat_natCast, List.getD_eq_getElem?_getD, List.getElem?_map, List.getElem?_eq_getElem hai]; rfl)
    have HI0 := Lib.hid (OfI.mk (W2 := W2) (wr := W2) (col := zs[ai].l) (ps := ps) 0 0 none 0 0 rfl (Nat.zero_le _) rfl (by rw [List.take_zero]; exact ownG_nil _ _ _ _) (fun _ => rfl) (Later.refl _))
    have HP64 := Lib.hid (show ∀ x ∈ pickN zs[ai].l ps, -9223372036854775808 ≤ x.2.1 ∧ x.2.1 ≤ 9223372036854775807 from fun x hx => by
      unfold pickN at hx
      obtain ⟨p, hp1, rfl⟩ := List.mem_map.1 (List.mem_filter.1 hx).1
      have hlt := hpz p hp1 _ (List.getElem_mem hai)
      rw [List.getD_eq_getElem?_getD, List.getElem?_eq_getElem hlt]
      exact h64 _ (List.getElem_mem hai) _ (List.getElem_mem hlt))
    have HPL := Lib.hid (show ∀ k (h : k < ps.length), ps[k] < zs[ai].l.length from fun k h => hpz _ (List.getElem_mem h) _ (List.getElem_mem hai))
    obtain ⟨b, off, hA, ck, hcol, _, _, _⟩ := HRR.out.get ai hai
    subst hA
    generalize hcl : zs[ai].l = col at ck hcol HE HI0 HP64 HPL
    generalize zs[ai].a = cA at ck hcol
    generalize zs[ai].c = cc at ck
    have HCK := Lib.hid ck
    have HCOL := Lib.hid hcol
    have b1 := B0.cell 1 _ rfl
    have hna : (ai : Int) < (zs.length : Int) := by omega
    clear hS hr hp hpz h64 L2 B0 B1 hneg ck hcol
    go_enter Tryd.func17, Tryd.ntmps17
    go_wp2_with fail
    go_loopw [8, 21] (fun rv iv wr => OfI W2 col ps rv iv wr) (fun _ i _ => ps.length - (intOf i).toNat)
    case atStart => exact HI0.out
    case round =>
      obtain ⟨k, R, rn, rc, rfl, rfl, hk, hrn, hown, hnil, lat⟩ := hrel
      have HOWN := Lib.hid hown
      have HNIL := Lib.hid hnil
      have HRN := Lib.hid hrn
      have HLAT := Lib.hid lat
      have hrb : rn ≤ 100000 := by
        have := pickN_len col (ps.take k)
        rw [List.length_take] at this
        omega
      clear HI0 hown hnil hrn b1
      have b1 := (HB0.out.later lat).cell 1 _ rfl
      by_cases hlt : k < ps.length
      · obtain ⟨pb, po, hpA, cp⟩ := (HPP.out.later lat).pin k hlt
        subst hpA
        have hpl2 := HPL.out k hlt
        have ck := lat.cell HCK.out
        obtain ⟨cb, co, hcA, c0, c1, c2⟩ := (HCOL.out.later lat).val3 ps[k] hpl2
        subst hcA
        have HST := Lib.hid (pickN_step col ps k hlt (col[ps[k]].1, col[ps[k]].2.1, col[ps[k]].2.2) (by rw [List.getD_eq_getElem?_getD, List.getElem?_eq_getElem hpl2]; rfl))
        generalize col[ps[k]].1 = t at c0 HST
        generalize col[ps[k]].2.1 = i at c1 HST
        generalize col[ps[k]].2.2 = s at c2 HST
        generalize ps[k] = p at cp c0 c1 c2 hpl2
        have hpz2 : (p : Int) < (col.length : Int) := by omega
        obtain ⟨gv, hgv⟩ : ∃ g, wr.heap.size = g := ⟨_, rfl⟩
        obtain ⟨w1, hw1⟩ : ∃ x, wr.alloc (.cells #[.int .i64 t, .int .i64 i, .string s] 40) = x := ⟨_, rfl⟩
        have BV := Blk.new wr #[.int .i64 t, .int .i64 i, .string s] 40 gv hgv.symm
        have HOA := Lib.hid (own_later HOWN.out (Later.new wr (.cells #[.int .i64 t, .int .i64 i, .string s] 40)))
        have HLW := Lib.hid (HLAT.out.alloc (.cells #[.int .i64 t, .int .i64 i, .string s] 40))
        rw [hw1] at BV HOA HLW
        have v0 := BV.cell 0 _ rfl
        have v1 := BV.cell 1 _ rfl
        have v2 := BV.cell 2 _ rfl
        clear BV lat HLAT HOWN
        by_cases ht : t = 0
        · have htt : (t != 0) = false := by simpa using ht
          rw [if_pos ht, List.append_nil] at HST
          clear ht
          go_wp2_with fail
          go_roundw
          case rel => exact OfI.mk _ (k + 1) R rn rc (by omega) hlt (by rw [HST.out]; exact HRN.out) (by rw [HST.out]; exact HOA.out) HNIL.out HLW.out
          case measure => simp [intOf]; omega
        · have htt : (t != 0) = true := by simpa using ht
          rw [if_neg ht] at HST
          clear ht
          have HBK := Lib.hid (fun (wz : World) => Blk.new wz #[.int .i64 t, .int .i64 i, .string s] 40 wz.heap.size rfl)
          have HOB := Lib.hid (fun (o : Obj) => own_later HOA.out (Later.new w1 o))
          have hs1 := HLW.out.size
          go_wp2_with (at_builtin; refine wpList_append_g _ rfl (.tmp 36) (.tmp 38) 37 rfl W2.heap.size 40 _ 3 32 Tryd.underlying37 info_v rfl (by decide) _ rn _ rfl (HOB.out _) _ 1 1 (fl [(t, i, s)]) rfl (HBK.out w1).has rfl (by intro h; cases h) (fl_one _) (by unfold maxLen; omega) (by omega) (by simp; omega) ?_; rintro A' c' wq hO _ hbel hn2; have HO2 := Lib.hid hO; have HN2 := Lib.hid hn2; have HL3 := Lib.hid (Later.of ((HLW.out.alloc _).below.trans hbel)); clear hO hn2 hbel)
          go_roundw
          case rel =>
            refine OfI.mk _ (k + 1) _ _ _ ?_ hlt ?_ ?_ HN2.out HL3.out
            · omega
            · rw [HST.out, List.length_append, ← HRN.out]; try rfl
            · rw [HST.out, fl_append]; exact HO2.out
          case measure => simp [intOf]; omega
      · have hkl : k = ps.length := by omega
        have HPK := Lib.hid (show pickN col (ps.take k) = pickN col ps from by rw [hkl, List.take_length])
        rw [HPK.out] at HOWN HRN
        have HFL := Lib.hid (Has.ownG HOWN.out)
        have HQL := Lib.hid (show (pickN col ps).length ≤ 100000 from Nat.le_trans (pickN_len _ _) hpl)
        clear hkl HOWN HPK
        generalize pickN col ps = Q at HRN HFL HQL HE HP64
        have b0 := (HB0.out.later lat).cell 0 _ rfl
        have BR := HB1.out.later lat
        have r0 := BR.cell 0 _ rfl
        have r1 := BR.cell 1 _ rfl
        have r2 := BR.cell 2 _ rfl
        have f0 := BR.frozen 0
        have f1 := BR.frozen 1
        have f2 := BR.frozen 2
        obtain ⟨g1, hg1⟩ : ∃ g, g0 + 1 = g := ⟨_, rfl⟩
        have hgz : w.heap.size ≤ g1 := by have := HSZ.out; omega
        have HLW := Lib.hid (HL2.out.trans lat)
        have HBR := Lib.hid BR
        rw [hg1] at HBR r0 r1 r2 f0 f1 f2 ⊢
        clear HB1 BR
        have hcase : op = 1 ∨ op = 2 ∨ op = 4 ∨ op = 3 := by omega
        rcases hcase with rfl | rfl | rfl | rfl
        · have HN := Lib.hid (number_any (rn : Int) wr)
          clear r0 r1 r2 f0 f1 f2
          go_wp2_with fail
          refine HN.out.mono ?_
          rintro e w3 ⟨rfl, l3⟩
          have BR3 := HBR.out.later l3
          have r0 := BR3.cell 0 _ rfl
          have r1 := BR3.cell 1 _ rfl
          have r2 := BR3.cell 2 _ rfl
          have f0 := BR3.frozen 0
          have f1 := BR3.frozen 1
          have f2 := BR3.frozen 2
          have HBq := Lib.hid (three_blk BR3 rfl (.int .i64 2) (.int .i64 rn) (.string ⟨#[]⟩))
          have HLq := Lib.hid (three_later (HLW.out.trans l3) hgz (.int .i64 2) (.int .i64 rn) (.string ⟨#[]⟩))
          obtain ⟨wq, hwq⟩ : ∃ x, (((w3.setCell ⟨g1, 0, none⟩ (.int .i64 2)).setCell ⟨g1, 1, none⟩ (.int .i64 rn)).setCell ⟨g1, 2, none⟩ (.string ⟨#[]⟩)) = x := ⟨_, rfl⟩
          rw [hwq] at HBq HLq
          clear BR3 l3
          go_wp2_with fail
          have q0 := HBq.out.cell 0 _ rfl
          have q1 := HBq.out.cell 1 _ rfl
          have q2 := HBq.out.cell 2 _ rfl
          exact bodyPost_ret (v := .tuple #[.agg #[.int .i64 2, .int .i64 rn, .string ⟨#[]⟩], .nilIface]) (by simp [results, Tryd.results17, go_sem, q0, q1, q2]) rfl (OfP.good 2 rn ⟨#[]⟩ (by rw [HE.out]; unfold ofV; rw [if_pos rfl, HRN.out]) HLq.out)
        · have HN := Lib.hid (sum_any R rn rc Q a0 a1 a2 wr (HSS.out.later lat) HRN.out HQL.out HFL.out HP64.out)
          clear r0 r1 r2 f0 f1 f2
          go_wp2_with fail
          refine HN.out.mono ?_
          have hse : ofV Q 2 = sumV Q := rfl
          rintro e w3 (⟨⟨x1, x2, x3⟩, ho, rfl, l3⟩ | ⟨nn, v, ho, hnn, rfl, hv, l3⟩)
          · dsimp only
            have BR3 := HBR.out.later l3
            have r0 := BR3.cell 0 _ rfl
            have r1 := BR3.cell 1 _ rfl
            have r2 := BR3.cell 2 _ rfl
            have f0 := BR3.frozen 0
            have f1 := BR3.frozen 1
            have f2 := BR3.frozen 2
            have HBq := Lib.hid (three_blk BR3 rfl (.int .i64 x1) (.int .i64 x2) (.string x3))
            have HLq := Lib.hid (three_later (HLW.out.trans l3) hgz (.int .i64 x1) (.int .i64 x2) (.string x3))
            obtain ⟨wq, hwq⟩ : ∃ x, (((w3.setCell ⟨g1, 0, none⟩ (.int .i64 x1)).setCell ⟨g1, 1, none⟩ (.int .i64 x2)).setCell ⟨g1, 2, none⟩ (.string x3)) = x := ⟨_, rfl⟩
            rw [hwq] at HBq HLq
            clear BR3 l3
            go_wp2_with fail
            have q0 := HBq.out.cell 0 _ rfl
            have q1 := HBq.out.cell 1 _ rfl
            have q2 := HBq.out.cell 2 _ rfl
            exact bodyPost_ret (v := .tuple #[.agg #[.int .i64 x1, .int .i64 x2, .string x3], .nilIface]) (by simp [results, Tryd.results17, go_sem, q0, q1, q2]) rfl (OfP.good x1 x2 x3 (by rw [HE.out, hse, ho]) HLq.out)
          · have hgw : g1 < wr.heap.size := HBR.out.lt
            have hv2 := (((hv.set_ (o := 0) hgw (.int .i64 0)).set_ (o := 1) hgw (.int .i64 0)).set_ (o := 2) hgw (.string ⟨#[]⟩)).mono (B' := w.heap.size) HLW.out.size
            have HV := Lib.hid hv2
            have BR3 := HBR.out.later l3
            have r0 := BR3.cell 0 _ rfl
            have r1 := BR3.cell 1 _ rfl
            have r2 := BR3.cell 2 _ rfl
            have f0 := BR3.frozen 0
            have f1 := BR3.frozen 1
            have f2 := BR3.frozen 2
            have HBq := Lib.hid (three_blk BR3 rfl (.int .i64 0) (.int .i64 0) (.string ⟨#[]⟩))
            have HLq := Lib.hid (three_later (HLW.out.trans l3) hgz (.int .i64 0) (.int .i64 0) (.string ⟨#[]⟩))
            obtain ⟨wq, hwq⟩ : ∃ x, (((w3.setCell ⟨g1, 0, none⟩ (.int .i64 0)).setCell ⟨g1, 1, none⟩ (.int .i64 0)).setCell ⟨g1, 2, none⟩ (.string ⟨#[]⟩)) = x := ⟨_, rfl⟩
            rw [hwq] at HBq HLq HV
            clear BR3 l3 hv hv2 hgw
            go_wp2_with fail
            have q0 := HBq.out.cell 0 _ rfl
            have q1 := HBq.out.cell 1 _ rfl
            have q2 := HBq.out.cell 2 _ rfl
            exact bodyPost_ret (v := .tuple #[.agg #[.int .i64 0, .int .i64 0, .string ⟨#[]⟩], v]) (by simp [results, Tryd.results17, go_sem, q0, q1, q2]) rfl (OfP.bad nn (by rw [HE.out, hse, ho]) hnn HV.out HLq.out)
        · have HN := Lib.hid (least_any R rn rc Q (-1) wr HRN.out HQL.out HFL.out (.inr rfl))
          have hse : ofV Q 4 = .ok (leastV (-1) Q) := rfl
          obtain ⟨⟨x1, x2, x3⟩, hx⟩ : ∃ x, leastV (-1) Q = x := ⟨_, rfl⟩
          rw [hx] at hse HN
          clear r0 r1 r2 f0 f1 f2
          go_wp2_with fail
          refine HN.out.mono ?_
          rintro e w3 ⟨rfl, l3⟩
          have BR3 := HBR.out.later l3
          have r0 := BR3.cell 0 _ rfl
          have r1 := BR3.cell 1 _ rfl
          have r2 := BR3.cell 2 _ rfl
          have f0 := BR3.frozen 0
          have f1 := BR3.frozen 1
          have f2 := BR3.frozen 2
          have HBq := Lib.hid (three_blk BR3 rfl (.int .i64 x1) (.int .i64 x2) (.string x3))
          have HLq := Lib.hid (three_later (HLW.out.trans l3) hgz (.int .i64 x1) (.int .i64 x2) (.string x3))
          obtain ⟨wq, hwq⟩ : ∃ x, (((w3.setCell ⟨g1, 0, none⟩ (.int .i64 x1)).setCell ⟨g1, 1, none⟩ (.int .i64 x2)).setCell ⟨g1, 2, none⟩ (.string x3)) = x := ⟨_, rfl⟩
          rw [hwq] at HBq HLq
          clear BR3 l3
          go_wp2_with fail
          have q0 := HBq.out.cell 0 _ rfl
          have q1 := HBq.out.cell 1 _ rfl
          have q2 := HBq.out.cell 2 _ rfl
          exact bodyPost_ret (v := .tuple #[.agg #[.int .i64 x1, .int .i64 x2, .string x3], .nilIface]) (by simp [results, Tryd.results17, go_sem, q0, q1, q2]) rfl (OfP.good x1 x2 x3 (by rw [HE.out, hse]) HLq.out)
        · have HN := Lib.hid (least_any R rn rc Q 1 wr HRN.out HQL.out HFL.out (.inl rfl))
          have hse : ofV Q 3 = .ok (leastV 1 Q) := rfl
          obtain ⟨⟨x1, x2, x3⟩, hx⟩ : ∃ x, leastV 1 Q = x := ⟨_, rfl⟩
          rw [hx] at hse HN
          clear r0 r1 r2 f0 f1 f2
          go_wp2_with fail
          refine HN.out.mono ?_
          rintro e w3 ⟨rfl, l3⟩
          have BR3 := HBR.out.later l3
          have r0 := BR3.cell 0 _ rfl
          have r1 := BR3.cell 1 _ rfl
          have r2 := BR3.cell 2 _ rfl
          have f0 := BR3.frozen 0
          have f1 := BR3.frozen 1
          have f2 := BR3.frozen 2
          have HBq := Lib.hid (three_blk BR3 rfl (.int .i64 x1) (.int .i64 x2) (.string x3))
          have HLq := Lib.hid (three_later (HLW.out.trans l3) hgz (.int .i64 x1) (.int .i64 x2) (.string x3))
          obtain ⟨wq, hwq⟩ : ∃ x, (((w3.setCell ⟨g1, 0, none⟩ (.int .i64 x1)).setCell ⟨g1, 1, none⟩ (.int .i64 x2)).setCell ⟨g1, 2, none⟩ (.string x3)) = x := ⟨_, rfl⟩
          rw [hwq] at HBq HLq
          clear BR3 l3
          go_wp2_with fail
          have q0 := HBq.out.cell 0 _ rfl
          have q1 := HBq.out.cell 1 _ rfl
          have q2 := HBq.out.cell 2 _ rfl
          exact bodyPost_ret (v := .tuple #[.agg #[.int .i64 x1, .int .i64 x2, .string x3], .nilIface]) (by simp [results, Tryd.results17, go_sem, q0, q1, q2]) rfl (OfP.good x1 x2 x3 (by rw [HE.out, hse]) HLq.out)
end Go.Proofs.YtiacemlloaenoaaDoor
