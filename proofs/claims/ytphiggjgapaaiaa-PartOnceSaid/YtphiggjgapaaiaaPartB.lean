/- The walk of part.Apart. -/
import Derived.Test.YtphiggjgapaaiaaPartA
import Derived.Test.YtphiggjgapaaiaaPartL
import Derived.Test.YtphiggjgapaaiaaTab
namespace Go.Proofs.Ytphiggjgapaaiaa
open Go.RowKit
set_option linter.unusedVariables false

theorem info_si : (Try.prog.info? 29).map (fun i => (i.zero, i.size, i.bytes)) = some (some (.slice none 0 0), 1, 24) := by kernel_rfl
theorem info_i64 : (Try.prog.info? 3).map (fun i => (i.zero, i.size, i.bytes)) = some (some (.int .i64 0), 1, 8) := by kernel_rfl
/-- Places as cells. -/
def zinP (l : List Nat) : List Value := l.map fun (x : Nat) => Value.int .i64 (x : Int)
theorem zinP_len (l : List Nat) : (zinP l).length = l.length := by simp [zinP]
/-- The rows of each part, of the first k rows. -/
def PartT (F : Nat → Nat) (m k : Nat) (ss : List SlG) : Prop := ss.length = m ∧ ∀ p (h : p < ss.length), ss[p].cs = zinP (inPart F k p) ∧ ss[p].n = (inPart F k p).length
theorem PartT.new (F : Nat → Nat) (m : Nat) : PartT F m 0 (List.replicate m SlG.nil) := by
  refine ⟨List.length_replicate, fun p hp => ?_⟩
  rw [List.getElem_replicate]
  exact ⟨rfl, rfl⟩
theorem PartT.step {T : TypeId} {F : Nat → Nat} {m k p : Nat} {ss : List SlG} {g : Nat} {w : World} (h : PartT F m k ss) (ht : Tab T 3 1 w g ss) (hp : F k = p) (hm : p < m) :
    ∃ A n c, n ≤ k ∧ w.cell? ⟨g, p, none⟩ = some (.slice A n c) ∧ w.ownsRow (g + 1) 3 1 (.slice A n c) n (zinP (inPart F k p)) ∧
      ∀ w1 w2 A' c', Later w w1 → w2.ownsRow (g + 1) 3 1 (.slice A' (n + 1) c') (n + 1) (zinP (inPart F k p) ++ [.int .i64 k]) → w1.grownBy w2 (Value.slice A n c).ownBlock →
        ((Value.slice A' (n + 1) c').ownBlock = (Value.slice A n c).ownBlock ∨ (Value.slice A' (n + 1) c').ownBlock = some w1.heap.size) → (A' = none → c' = 0) →
        ∃ ss', PartT F m (k + 1) ss' ∧ Tab T 3 1 (w2.setCell ⟨g, p, none⟩ (.slice A' (n + 1) c')) g ss' := by
  have hps : p < ss.length := by rw [h.1]; exact hm
  obtain ⟨hc, hn⟩ := h.2 p hps
  have hcell := ht.cell p hps
  have hown := (ht.own p hps).1
  have hv : ss[p].v = .slice ss[p].a ss[p].n ss[p].c := rfl
  rw [hv, hc] at hown
  refine ⟨ss[p].a, ss[p].n, ss[p].c, by rw [hn]; exact inPart_len F k p, hcell, hown, fun w1 w2 A' c' l ho hg hat hnil => ?_⟩
  have hcs : zinP (inPart F k p) ++ [Value.int .i64 (k : Int)] = zinP (inPart F (k + 1) p) := by
    rw [inPart_succ, if_pos hp]; simp [zinP]
  rw [hcs] at ho
  refine ⟨ss.set p ⟨A', ss[p].n + 1, c', zinP (inPart F (k + 1) p)⟩, ⟨by rw [List.length_set]; exact h.1, fun j hj => ?_⟩, (ht.later l).put p hps ⟨A', ss[p].n + 1, c', zinP (inPart F (k + 1) p)⟩ ho hnil hg hat⟩
  rw [List.length_set] at hj
  rw [List.getElem_set]
  by_cases e : p = j
  · subst e
    rw [if_pos rfl]
    refine ⟨rfl, ?_⟩
    show ss[p].n + 1 = _
    rw [hn, inPart_succ, if_pos hp, List.length_append]; rfl
  · rw [if_neg e]
    have e2 : inPart F (k + 1) j = inPart F k j := by rw [inPart_succ, if_neg (fun h' => e (hp.symm.trans h')), List.append_nil]
    have h3 := h.2 j hj
    exact ⟨by rw [h3.1, e2], by rw [h3.2, e2]⟩
/-- What Apart gives. -/
def ApartP (F : Nat → Nat) (m N : Nat) (w : World) (e : Ending) (w' : World) : Prop :=
  ∃ g ss, e = .returned (.slice (some ⟨g, 0, none⟩) m m) ∧ PartT F m N ss ∧ Tab 29 3 1 w' g ss ∧ Later w w'
/-- Where the loop stands. -/
def ApI (F : Nat → Nat) (m N g : Nat) (w : World) (iv : Value) (wr : World) : Prop :=
  ∃ k ss, iv = .int .i64 (k : Nat) ∧ k ≤ N ∧ PartT F m k ss ∧ Tab 29 3 1 wr g ss ∧ Later w wr
theorem ApI.mk {F : Nat → Nat} {m N g : Nat} {w wr : World} (y : Int) (k : Nat) (ss : List SlG) (hy : y = (k : Int)) (hk : k ≤ N) (h : PartT F m k ss) (ht : Tab 29 3 1 wr g ss) (l : Later w wr) : ApI F m N g w (.int .i64 y) wr := by
  subst hy; exact ⟨k, ss, rfl, hk, h, ht, l⟩
/-- In which part each row is. -/
def partF (cols : List (List Val3)) (at_ m : Nat) (i : Nat) : Nat := partV ((cols.getD at_ []).getD i (0, 0, ⟨#[]⟩)) m
theorem partF_lt (cols : List (List Val3)) (at_ m i : Nat) (h : 1 ≤ m) : partF cols at_ m i < m := partV_lt _ _ h

set_option maxRecDepth 100000 in
set_option maxHeartbeats 2000000 in
theorem apart_any (A : Option Addr) (n c : Nat) (zs : List SlV) (at_ m : Nat) (w : World) (hn : n = zs.length) (hl : n ≤ 1000) (hr : RowsAt w A zs) (hb : ∀ s ∈ zs, s.l.length ≤ 1000 ∧ ∀ x ∈ s.l, x.2.2.size ≤ 1000) (ha : at_ < n) (hm : 1 ≤ m ∧ m ≤ 4) :
    Calls Try.prog 8 #[.slice A n c, .int .i64 at_, .int .i64 m] w (ApartP (partF (colsOf zs) at_ m) m (heightC (colsOf zs)) w) := by
  obtain ⟨F, hF⟩ : ∃ F, partF (colsOf zs) at_ m = F := ⟨_, rfl⟩
  obtain ⟨N, hN⟩ : ∃ N, heightC (colsOf zs) = N := ⟨_, rfl⟩
  have has : at_ < zs.length := by omega
  have HNL := Lib.hid (show N ≤ zs[at_].l.length from by rw [← hN]; exact heightC_le (List.mem_map.2 ⟨_, List.getElem_mem has, rfl⟩))
  have hN1 : N ≤ 1000 := Nat.le_trans HNL.out (hb _ (List.getElem_mem has)).1
  have HFK := Lib.hid (show ∀ k (h : k < zs[at_].l.length), F k = partV zs[at_].l[k] m from fun k h => by
    have h1 : (colsOf zs).getD at_ [] = zs[at_].l := by
      unfold colsOf
      rw [List.getD_eq_getElem?_getD, List.getElem?_map, List.getElem?_eq_getElem has]; rfl
    rw [← hF]; unfold partF
    rw [h1, List.getD_eq_getElem?_getD, List.getElem?_eq_getElem h]; rfl)
  have HFM := Lib.hid (show ∀ k, F k < m from fun k => by rw [← hF]; exact partF_lt _ _ _ _ hm.1)
  have HRB := Lib.hid (fun W l => batchRows_any A n c zs W hn (by omega) (hr.later l) (fun s hs => (hb s hs).1) : ∀ W, Later w W → _)
  rw [hF, hN]
  have HRL := Lib.hid (show (rowsC (colsOf zs)).length = N from by unfold rowsC; rw [List.length_map, List.length_range, hN])
  have HB := Lib.hid (fun k (h : k < zs[at_].l.length) => (hb _ (List.getElem_mem has)).2 _ (List.getElem_mem h))
  obtain ⟨rb, ro, hA, cr0, hh0, _⟩ := hr.get at_ has
  subst hA
  have HH := Lib.hid hh0
  have HCR := Lib.hid cr0
  have hmk := fun Wd => run_make_row' (P := Try.prog) 36 29 (.slice none 0 0) 24 Try.underlying36 info_si rfl .i64 .i64 m (by omega) (by omega) Wd
  obtain ⟨g, hg⟩ : ∃ x, w.heap.size = x := ⟨_, rfl⟩
  obtain ⟨w2, hw2⟩ : ∃ x, w.alloc (.cells (madeCells #[.slice none 0 0] m) 29) = x := ⟨_, rfl⟩
  have l2 : Later w w2 := hw2 ▸ Later.new _ _
  have HT2 := Lib.hid (show Tab 29 3 1 w2 g (List.replicate m SlG.nil) from hw2 ▸ Tab.new w _ _ 1 m g hg.symm)
  have HGW := Lib.hid (show w.heap.size ≤ g by rw [← hg]; exact Nat.le_refl _)
  have HL2 := Lib.hid l2
  have HW2 := Lib.hid hw2
  have HG := Lib.hid hg
  have hmin : min (m : Int) 4 = (m : Int) := by omega
  have ha0 : ¬ (at_ : Int) < 0 := by omega
  have han : ¬ (n : Int) ≤ (at_ : Int) := by omega
  clear hF hN hb hn hr cr0 hh0 hg hw2 l2
  have h1 : (1 : Int) ≤ (m : Int) := by omega
  by_cases hm2 : m < 2
  · obtain rfl : m = 1 := by omega
    clear hm2
    have hmk : ∀ Wd : World, (Instr.makeSlice 36 (.int .i64 1) (.int .i64 1)).run Try.prog Wd = .ok (.slice (some ⟨Wd.heap.size, 0, none⟩) 1 1) (Wd.alloc (.cells (madeCells #[.slice none 0 0] 1) 29)) := hmk
    go_enter Try.func8, Try.ntmps8
    go_wp2_with fail
    clear hmk
    rw [HG.out, HW2.out]
    refine (HRB.out w2 HL2.out).mono ?_
    rintro e w3 ⟨RA, rc, rs, rfl, hrs, _, _, _, _, l3⟩
    have hrl : rs.length = N := by rw [← HRL.out, ← hrs, List.length_map]
    rw [hrl]
    have HI0 := Lib.hid (ApI.mk (F := F) (m := 1) (N := N) (g := g) (w := w) (wr := w3) 0 0 _ rfl (Nat.zero_le _) (PartT.new F 1) (HT2.out.later l3) (HL2.out.trans l3))
    clear hrs hrl l3
    go_wp2_with fail
    go_loopw [28] (fun iv wr => ApI F 1 N g w iv wr) (fun i _ => N - (intOf i).toNat)
    case atStart => exact HI0.out
    case round =>
      obtain ⟨k, ss, rfl, hk, hpt, htab, lat⟩ := hrel
      clear HI0
      by_cases hlt : k < N
      · have hkl : k < zs[at_].l.length := Nat.lt_of_lt_of_le hlt HNL.out
        have hki : (k : Int) < (N : Int) := by omega
        have hwk : IntKind.i64.wrap ((k : Int) + 1) = (k : Int) + 1 := IntWalk.i64_in _ ⟨by omega, by omega⟩
        obtain ⟨vb, vo, hV, u0, u1, u2⟩ := HH.out.val3 k hkl
        have cr := lat.cell HCR.out
        rw [hV] at cr
        have v0 := lat.cell u0
        have v1 := lat.cell u1
        have v2 := lat.cell u2
        have HFk := Lib.hid (HFK.out k hkl)
        have hsz := HB.out k hkl
        have hpm := HFM.out k
        obtain ⟨TA, tn, tc, htn, ck, how, hput⟩ := hpt.step htab rfl hpm
        have HPUT := Lib.hid hput
        have HOW := Lib.hid how
        have HTAB := Lib.hid htab
        have HLAT := Lib.hid lat
        clear hV u0 u1 u2 hput how htab lat hpt
        generalize zs[at_].l[k] = x at v0 v1 v2 HFk hsz
        generalize zs[at_].c = zc at cr
        generalize zs[at_].l.length = zl at cr hkl
        obtain ⟨x0, x1, x2⟩ := x
        dsimp only at v0 v1 v2 hsz
        have hkz : (k : Int) < (zl : Int) := by omega
        have hp0 : F k = 0 := by omega
        obtain ⟨p, hp⟩ : ∃ p, F k = p := ⟨_, rfl⟩
        rw [hp] at HPUT HOW ck hpm HFk
        have hpi : (p : Int) < (1 : Int) := by omega
        obtain rfl : p = 0 := by omega
        have HCK := Lib.hid ck
        clear v0 v1 v2 cr
        go_wp2_with (at_builtin; go_loud (refine wpList_append_x _ rfl (.tmp 49) (.tmp 51) 29 rfl (g + 1) 3 _ 1 8 Try.underlying29 info_i64 rfl (by decide) _ tn (zinP (inPart F k 0)) rfl (own_later HOW.out (Later.new wr _)) wr.heap.size 0 1 1 [.int .i64 k] rfl (Blk.new wr [Value.int .i64 (k : Int)].toArray 3 wr.heap.size rfl).has rfl (by simp [Value.oneCell']) (by unfold maxLen; omega) (by omega) (by have h1 := HTAB.out.lt; have h2 := Nat.zero_le 0; simp; omega) ?_; intro A2 c2 wq ho hgr hbl hat hnl; have e0 : wq.cell? ⟨g, 0, none⟩ = some (.slice TA tn tc) := (hbl.cell (p := ⟨g, 0, none⟩) (Nat.lt_succ_self _)).trans (((Later.new wr _)).cell HCK.out); have y0 : wq.frozen? ⟨g, 0, none⟩ = false := Blk.frozen (w := wq) (g := g) (cs := (ss.map SlG.v).toArray) (t := 29) ((hbl.block g (Nat.lt_succ_self _)).trans (HTAB.out.later ((Later.new wr _))).blk) 0; have HP := Lib.hid (HPUT.out _ wq A2 c2 ((Later.new wr _)) ho hgr hat hnl); have HLq := Lib.hid (show Later w (wq.setCell ⟨g, 0, none⟩ (.slice A2 (tn + 1) c2)) from Later.of ((((HLAT.out.trans ((Later.new wr _)))).below.trans (hbl.mono (by have := HGW.out; omega))).setCell (show w.heap.size ≤ g from HGW.out) _)); clear ho hgr hbl hat hnl))
        go_roundw
        all_goals first
          | exact (let ⟨ss', h1, h2⟩ := HP.out; ApI.mk _ (k + 1) ss' (by omega) (by omega) h1 h2 HLq.out)
          | (simp [intOf]; done)
          | (simp [intOf]; omega)
          | trace_state
      · have hkn : k = N := by omega
        subst hkn
        have HP := Lib.hid (show ApartP F 1 k w (.returned (.slice (some ⟨g, 0, none⟩) 1 1)) wr from ⟨g, ss, rfl, hpt, htab, lat⟩)
        clear hpt htab lat
        go_wp2_with fail
        go_ret
        exact HP.out
  · have hm2i : ¬ (m : Int) < 2 := by omega
    go_enter Try.func8, Try.ntmps8
    go_wp2_with fail
    clear hmk
    rw [HG.out, HW2.out]
    refine (HRB.out w2 HL2.out).mono ?_
    rintro e w3 ⟨RA, rc, rs, rfl, hrs, _, _, _, _, l3⟩
    have hrl : rs.length = N := by rw [← HRL.out, ← hrs, List.length_map]
    rw [hrl]
    have HI0 := Lib.hid (ApI.mk (F := F) (m := m) (N := N) (g := g) (w := w) (wr := w3) 0 0 _ rfl (Nat.zero_le _) (PartT.new F m) (HT2.out.later l3) (HL2.out.trans l3))
    clear hrs hrl l3
    go_wp2_with fail
    go_loopw [28] (fun iv wr => ApI F m N g w iv wr) (fun i _ => N - (intOf i).toNat)
    case atStart => exact HI0.out
    case round =>
      obtain ⟨k, ss, rfl, hk, hpt, htab, lat⟩ := hrel
      clear HI0
      by_cases hlt : k < N
      · have hkl : k < zs[at_].l.length := Nat.lt_of_lt_of_le hlt HNL.out
        have hki : (k : Int) < (N : Int) := by omega
        have hwk : IntKind.i64.wrap ((k : Int) + 1) = (k : Int) + 1 := IntWalk.i64_in _ ⟨by omega, by omega⟩
        obtain ⟨vb, vo, hV, u0, u1, u2⟩ := HH.out.val3 k hkl
        have cr := lat.cell HCR.out
        rw [hV] at cr
        have v0 := lat.cell u0
        have v1 := lat.cell u1
        have v2 := lat.cell u2
        have HFk := Lib.hid (HFK.out k hkl)
        have hsz := HB.out k hkl
        have hpm := HFM.out k
        obtain ⟨TA, tn, tc, htn, ck, how, hput⟩ := hpt.step htab rfl hpm
        have HPUT := Lib.hid hput
        have HOW := Lib.hid how
        have HTAB := Lib.hid htab
        have HLAT := Lib.hid lat
        clear hV u0 u1 u2 hput how htab lat hpt
        generalize zs[at_].l[k] = x at v0 v1 v2 HFk hsz
        generalize zs[at_].c = zc at cr
        generalize zs[at_].l.length = zl at cr hkl
        obtain ⟨x0, x1, x2⟩ := x
        dsimp only at v0 v1 v2 hsz
        have hkz : (k : Int) < (zl : Int) := by omega
        have HO := Lib.hid (of_any x0 x1 x2 m wr hsz (by omega))
        obtain ⟨p, hp⟩ : ∃ p, F k = p := ⟨_, rfl⟩
        rw [hp] at HPUT HOW ck hpm HFk
        have hpi : (p : Int) < (m : Int) := by omega
        go_wp2_with fail
        refine HO.out.mono ?_
        rintro e w4 ⟨rfl, l4⟩
        rw [← HFk.out]
        have HL4 := Lib.hid l4
        have HCK := Lib.hid ck
        have ck := l4.cell ck
        clear v0 v1 v2 cr l4 HO
        go_wp2_with (at_builtin; go_loud (refine wpList_append_x _ rfl (.tmp 49) (.tmp 51) 29 rfl (g + 1) 3 _ 1 8 Try.underlying29 info_i64 rfl (by decide) _ tn (zinP (inPart F k p)) rfl (own_later HOW.out (HL4.out.trans (Later.new w4 _))) w4.heap.size 0 1 1 [.int .i64 k] rfl (Blk.new w4 [Value.int .i64 (k : Int)].toArray 3 w4.heap.size rfl).has rfl (by simp [Value.oneCell']) (by unfold maxLen; omega) (by omega) (by have h1 := HTAB.out.lt; have h2 := HL4.out.size; simp; omega) ?_; intro A2 c2 wq ho hgr hbl hat hnl; have e0 : wq.cell? ⟨g, p, none⟩ = some (.slice TA tn tc) := (hbl.cell (p := ⟨g, p, none⟩) (Nat.lt_succ_self _)).trans (((HL4.out.trans (Later.new w4 _))).cell HCK.out); have y0 : wq.frozen? ⟨g, p, none⟩ = false := Blk.frozen (w := wq) (g := g) (cs := (ss.map SlG.v).toArray) (t := 29) ((hbl.block g (Nat.lt_succ_self _)).trans (HTAB.out.later ((HL4.out.trans (Later.new w4 _)))).blk) p; have HP := Lib.hid (HPUT.out _ wq A2 c2 ((HL4.out.trans (Later.new w4 _))) ho hgr hat hnl); have HLq := Lib.hid (show Later w (wq.setCell ⟨g, p, none⟩ (.slice A2 (tn + 1) c2)) from Later.of ((((HLAT.out.trans ((HL4.out.trans (Later.new w4 _))))).below.trans (hbl.mono (by have := HGW.out; omega))).setCell (show w.heap.size ≤ g from HGW.out) _)); clear ho hgr hbl hat hnl))
        go_roundw
        all_goals first
          | exact (let ⟨ss', h1, h2⟩ := HP.out; ApI.mk _ (k + 1) ss' (by omega) (by omega) h1 h2 HLq.out)
          | (simp [intOf]; done)
          | (simp [intOf]; omega)
          | trace_state
      · have hkn : k = N := by omega
        subst hkn
        have HP := Lib.hid (show ApartP F m k w (.returned (.slice (some ⟨g, 0, none⟩) m m)) wr from ⟨g, ss, rfl, hpt, htab, lat⟩)
        clear hpt htab lat
        go_wp2_with fail
        go_ret
        exact HP.out
end Go.Proofs.Ytphiggjgapaaiaa
