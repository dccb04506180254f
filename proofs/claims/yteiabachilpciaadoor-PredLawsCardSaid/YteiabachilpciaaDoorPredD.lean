/- The walk of pred.Rows. -/
import Derived.Test.YteiabachilpciaaDoorPredA
import Derived.Test.YteiabachilpciaaDoorBatR
namespace Go.Proofs.YteiabachilpciaaDoor
open Go.RowKit
set_option linter.unusedVariables false

/-- The places of the rows that pass, of the first k. -/
def passTo (cols : List Col3) (l : List Tst) (L : List (List Val3)) (k : Nat) : List Nat := (List.range k).filter fun i => decide (rowT cols l (L.getD i []) = 2)
theorem passTo_succ (cols : List Col3) (l : List Tst) (L : List (List Val3)) (k : Nat) : passTo cols l L (k + 1) = passTo cols l L k ++ (if rowT cols l (L.getD k []) = 2 then [k] else []) := by
  unfold passTo
  rw [List.range_succ, List.filter_append]
  congr 1
  by_cases h : rowT cols l (L.getD k []) = 2
  · rw [if_pos h, List.filter_cons_of_pos (by simpa using h)]; rfl
  · rw [if_neg h, List.filter_cons_of_neg (by simpa using h)]; rfl
theorem passTo_len (cols : List Col3) (l : List Tst) (L : List (List Val3)) (k : Nat) : (passTo cols l L k).length ≤ k := by
  unfold passTo
  refine Nat.le_trans (List.length_filter_le _ _) ?_
  rw [List.length_range]; exact Nat.le_refl _
/-- What a call gives that gives places. -/
def PlacesP (l : List Nat) (w : World) (e : Ending) (w' : World) : Prop :=
  ∃ (A : Option Addr) (c : Nat), e = .returned (.slice A l.length c) ∧ Has w' A (ints .i64 l) ∧ l.length ≤ c ∧ (A = none → c = 0) ∧ Later w w'
def PrI (cols : List Col3) (l : List Tst) (L : List (List Val3)) (w : World) (pv iv : Value) (wr : World) : Prop :=
  ∃ (k : Nat) (A : Option Addr) (n c : Nat), pv = .slice A n c ∧ iv = .int .i64 k ∧ k ≤ L.length ∧ n = (passTo cols l L k).length ∧ wr.ownsRow w.heap.size 3 1 (.slice A n c) n (ints .i64 (passTo cols l L k)) ∧ (A = none → c = 0) ∧ Later w wr
theorem PrI.mk {cols : List Col3} {l : List Tst} {L : List (List Val3)} {w wr : World} (y : Int) (k : Nat) (A : Option Addr) (n c : Nat) (hy : y = (k : Int)) (hk : k ≤ L.length) (hn : n = (passTo cols l L k).length) (ho : wr.ownsRow w.heap.size 3 1 (.slice A n c) n (ints .i64 (passTo cols l L k))) (hA : A = none → c = 0) (lat : Later w wr) : PrI cols l L w (.slice A n c) (.int .i64 y) wr := by
  subst hy; exact ⟨k, A, n, c, rfl, rfl, hk, hn, ho, hA, lat⟩
theorem info_int : (Tryd.prog.info? 3).map (fun i => (i.zero, i.size, i.bytes)) = some (some (.int .i64 0), 1, 8) := by kernel_rfl

set_option maxRecDepth 100000 in
set_option maxHeartbeats 4000000 in
theorem predRows_any (A : Option Addr) (n c : Nat) (last : Int) (cols : List Col3) (T : Option Addr) (tn tc : Nat) (l : List Tst) (C : Option Addr) (cn cc : Nat) (ss : List SlV) (w : World) (hn : n = cols.length) (hl : n ≤ 100000) (hr : Has w A (fc cols)) (htn : tn = l.length) (htl : tn ≤ 100000) (hT : Has w T (ft l)) (hcn : cn = ss.length) (hcl : cn ≤ 1000) (hC : RowsAt w C ss) (hb : ∀ s ∈ ss, s.l.length ≤ 1000) :
    Calls Tryd.prog 15 #[.agg #[.slice A n c, .int .i64 last], .slice T tn tc, .slice C cn cc] w (PlacesP (passTo cols l (rowsC (colsOf ss)) (rowsC (colsOf ss)).length) w) := by
  obtain ⟨gz, hgz⟩ : ∃ g, w.heap.size = g := ⟨_, rfl⟩
  obtain ⟨w1, hw1⟩ : ∃ x : World, w.alloc (.cells #[.slice A n c, .int .i64 last] 33) = x := ⟨_, rfl⟩
  have BS := Blk.new w #[.slice A n c, .int .i64 last] 33 gz hgz.symm
  have L1 := Later.new w (.cells #[.slice A n c, .int .i64 last] 33)
  rw [hw1] at BS L1
  have HBR := Lib.hid (batchRows_any C cn cc ss w1 hcn hcl (hC.later L1) hb)
  have hrb : (rowsC (colsOf ss)).length ≤ 1000 := by
    unfold rowsC
    rw [List.length_map, List.length_range]
    rcases ss with _ | ⟨s, r⟩
    · simp [colsOf, heightC]
    · exact Nat.le_trans (heightC_le (x := s.l) (by simp [colsOf])) (hb s (by simp))
  have hrw : ∀ x ∈ rowsC (colsOf ss), x.length ≤ 1000 := fun x hx => by
    obtain ⟨i, _, rfl⟩ := List.mem_map.1 hx
    rw [rowAt_len]; simp [colsOf]; omega
  have HRW := Lib.hid hrw
  obtain ⟨L, hL⟩ : ∃ x, rowsC (colsOf ss) = x := ⟨_, rfl⟩
  rw [hL] at HBR hrb HRW ⊢
  have HTN := Lib.hid htn
  have HN := Lib.hid hn
  have HBS := Lib.hid BS
  have HL1 := Lib.hid L1
  have HR := Lib.hid hr
  have HT := Lib.hid hT
  clear BS htn hn hr hT L1 hL hC hb hcn hrw
  go_enter Tryd.func15, Tryd.ntmps15
  go_wp2_with fail
  refine HBR.out.mono ?_
  rintro e w2 ⟨RA, rc, rs, rfl, hrs, hat, _, _, _, l2⟩
  have HRS := Lib.hid hrs
  have HAT := Lib.hid hat
  have HL2 := Lib.hid l2
  have hlen : rs.length = L.length := by rw [← hrs, List.length_map]
  have HLEN := Lib.hid hlen
  obtain ⟨m, hm⟩ : ∃ m, rs.length = m := ⟨_, rfl⟩
  rw [hm] at hlen ⊢
  have HM := Lib.hid hm
  have hmb : m ≤ 1000 := by omega
  have HMB := Lib.hid hlen
  have HI0 := Lib.hid (PrI.mk (cols := cols) (l := l) (L := L) (w := w2) (wr := w2) 0 0 none 0 0 rfl (Nat.zero_le _) rfl (ownG_nil _ _ _ _) (fun _ => rfl) (Later.refl _))
  clear HBR hw1 hgz hrs hat l2 hlen hm
  go_wp2_with fail
  go_loopw [7, 13] (fun pv iv wr => PrI cols l L w2 pv iv wr) (fun _ i _ => m - (intOf i).toNat)
  case atStart => exact HI0.out
  case round =>
    obtain ⟨k, P, pn, pc, rfl, rfl, hk, hpn, hown, hnil, lat⟩ := hrel
    have HOWN := Lib.hid hown
    have HNIL := Lib.hid hnil
    have HLAT := Lib.hid lat
    have HPN := Lib.hid hpn
    have hpb : pn ≤ 1000 := by have := passTo_len cols l L k; omega
    clear HI0 hown hnil hpn
    by_cases hlt : k < m
    · have hkr : k < rs.length := by have := HM.out; omega
      obtain ⟨rb, roff, hRA, ck, hrow, _, _, _⟩ := (HAT.out.later lat).get k hkr
      subst hRA
      have hLk : L.getD k [] = rs[k].l := by
        rw [← HRS.out, List.getD_eq_getElem?_getD, List.getElem?_map, List.getElem?_eq_getElem hkr]; rfl
      have hbl : rs[k].l.length ≤ 1000 := by
        refine HRW.out _ ?_
        rw [← HRS.out]
        exact List.mem_map.2 ⟨_, List.getElem_mem hkr, rfl⟩
      have HPR := Lib.hid (predRow_any A n c last cols (some ⟨0, 0, none⟩) tn tc l rs[k].a rs[k].l.length rs[k].c rs[k].l wr HN.out hl (HR.out.later ((HL1.out.trans HL2.out).trans lat)) HTN.out htl)
      have HPR2 := Lib.hid (predRow_any A n c last cols T tn tc l rs[k].a rs[k].l.length rs[k].c rs[k].l wr HN.out hl (HR.out.later ((HL1.out.trans HL2.out).trans lat)) HTN.out htl (HT.out.later ((HL1.out.trans HL2.out).trans lat)) rfl (by omega) hrow)
      have HS := Lib.hid (passTo_succ cols l L k)
      rw [hLk] at HS
      obtain ⟨x, hx⟩ : ∃ x, rowT cols l rs[k].l = x := ⟨_, rfl⟩
      rw [hx] at HPR2 HS
      clear HPR hx hLk hrow
      generalize rs[k].a = ra at ck HPR2
      generalize rs[k].c = rcc at ck HPR2
      generalize rs[k].l.length = rl at ck HPR2
      have s0 := ((HBS.out.later HL2.out).later lat).cell 0 _ rfl
      have s1 := ((HBS.out.later HL2.out).later lat).cell 1 _ rfl
      clear lat
      go_wp2_with fail
      refine HPR2.out.mono ?_
      rintro e wX ⟨rfl, lX⟩
      have HLX := Lib.hid (HLAT.out.trans lX)
      have HOX := Lib.hid (own_later HOWN.out lX)
      clear lX HPR2 s0 s1 ck
      by_cases h2 : x = 2
      · subst h2
        have HS2 := Lib.hid (show passTo cols l L (k + 1) = passTo cols l L k ++ [k] by rw [HS.out, if_pos rfl])
        have HBK := Lib.hid (fun (wz : World) => Blk.new wz #[.int .i64 (k : Int)] 3 wz.heap.size rfl)
        have HOA := Lib.hid (fun (o : Obj) => own_later HOX.out (Later.new wX o))
        have HSZ := Lib.hid (show w2.heap.size ≤ wX.heap.size from HLX.out.size)
        go_wp2_with (at_builtin; refine wpList_append_g _ rfl (.tmp 23) (.tmp 25) 34 rfl w2.heap.size 3 _ 1 8 Tryd.underlying34 info_int rfl (by decide) _ pn _ rfl (HOA.out _) _ 1 1 (ints .i64 [k]) rfl (HBK.out wX).has rfl (by intro h; cases h) (ints_one _ _) (by unfold maxLen; omega) (by omega) (by have := HSZ.out; simp; omega) ?_; rintro A' c' wq hO _ hbel hn2; have HO2 := Lib.hid hO; have HN2 := Lib.hid hn2; have HL3 := Lib.hid (Later.of ((HLX.out.alloc _).below.trans hbel)); clear hO hn2 hbel)
        all_goals go_roundw
        all_goals first
          | exact PrI.mk _ (k + 1) _ _ _ (by omega) (by have := HMB.out; omega) (by rw [HS2.out, List.length_append, ← HPN.out]; rfl) (by rw [HS2.out, ints_snoc]; exact HO2.out) HN2.out HL3.out
          | (simp [intOf]; omega)
      · have hx2 : (x == 2) = false := by simpa using h2
        have HS2 := Lib.hid (show passTo cols l L (k + 1) = passTo cols l L k by rw [HS.out, if_neg h2, List.append_nil])
        clear h2
        go_wp2_with fail
        all_goals go_roundw
        all_goals first
          | exact PrI.mk _ (k + 1) _ _ _ (by omega) (by have := HMB.out; omega) (by rw [HS2.out]; exact HPN.out) (by rw [HS2.out]; exact HOX.out) HNIL.out HLX.out
          | (simp [intOf]; omega)
    · have hkl : k = L.length := by have := HMB.out; omega
      have HF := Lib.hid (show pn = (passTo cols l L L.length).length by rw [← hkl]; exact HPN.out)
      have HFO := Lib.hid (show wr.ownsRow w2.heap.size 3 1 (.slice P pn pc) pn (ints .i64 (passTo cols l L L.length)) by rw [← hkl]; exact HOWN.out)
      clear hkl
      go_wp2_with fail
      go_ret
      exact ⟨P, pc, by rw [HF.out]; rfl, Has.own HFO.out, by rw [← HF.out]; exact ownG_cap HFO.out, HNIL.out, (HL1.out.trans HL2.out).trans HLAT.out⟩
end Go.Proofs.YteiabachilpciaaDoor
