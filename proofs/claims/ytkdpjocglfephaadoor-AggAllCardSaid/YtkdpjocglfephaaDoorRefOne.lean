
import Derived.Test.YtkdpjocglfephaaDoorRefOf
import Derived.Test.YtkdpjocglfephaaDoorRefSum
import Derived.Test.YtkdpjocglfephaaDoorBase
import Derived.Test.YtkdpjocglfephaaDoorCell
import Derived.Test.YtkdpjocglfephaaDoorAggB
import Derived.Test.YtkdpjocglfephaaDoorTab
import Derived.Test.YtkdpjocglfephaaDoorAggS
import Derived.Test.YtkdpjocglfephaaDoorGrpT
import Derived.Laws.Externs
import Derived.Shelf.SlSortCmp.QuietGrown
import Derived.BigQuiet
import Derived.Test.YtkdpjocglfephaaDoorInsl
import Derived.WalkKit
import Derived.Laws.OwnMore
import Derived.Laws.BytesArg
import Derived.Laws.Rows
import Derived.Deep.AppendLies
import Derived.Deep.Draws
import Derived.Test.YtkdpjocglfephaaDoorChecked
import Derived.Deep.OwnRows
import Derived.Lib.Hide
import Derived.Deep.Quiet
import Derived.Laws.AppendOwnNone
import Derived.Lib.Strings
import Derived.Outline
import Derived.WalkLawsBesides
import Derived.WalkSpells
import Derived.PlainAid
import Derived.Deep.QuietTactic
import Derived.RegionTactic
import Derived.BigRegion
import Derived.Handy
import Derived.Laws.BitsAllLaws
import Derived.Deep.RegionWith
import Derived.Lib.AppendStr
import Derived.Deep.RegionLaw
import Derived.Maps.AppendAt
import Derived.OpenShut
import Derived.WideShapes
import Derived.ChangeArms
import Derived.Deep.Slices
import Derived.Sort.Grow
import Derived.OrdersHeld
import Derived.LaidEql
import Derived.Stop.Asserts
import Derived.RowKitTokens
import Derived.Laws.BitsLemmas
import Derived.Laws.Bits64
import Derived.WalkSmall
import Derived.Stop.IfaceNil
import Derived.Lib.Bytealg
import Derived.Deep.SlicePairs
import Derived.Test.YtkdpjocglfephaaDoorShelf
import Derived.Deep.RegionHeld3
import Derived.Deep.CutBlock
import Derived.Deep.CutRange
import Derived.Sort.LotA
/- The document's one. (tools/gen_refone.py) -/



namespace Go.Proofs.YtkdpjocglfephaaDoor
open Go.RowKit
set_option linter.unusedVariables false

/-- What rows have at a column, that is not nothing. -/
def rpickC (rows : List (List Val3)) (j : Nat) : List Val3 := (rows.map fun r => r.getD j z3).filter fun x => decide (x.1 ≠ 0)
theorem rpickC_len (rows : List (List Val3)) (j : Nat) : (rpickC rows j).length ≤ rows.length := Nat.le_trans (List.length_filter_le _ _) (by simp)
theorem rpickC_step (rows : List (List Val3)) (j k : Nat) (h : k < rows.length) (x : Val3) (hx : rows[k].getD j z3 = x) : rpickC (rows.take (k + 1)) j = rpickC (rows.take k) j ++ (if x.1 = 0 then [] else [x]) := by
  unfold rpickC
  rw [List.take_succ_eq_append_getElem h, List.map_append, List.filter_append, List.map_singleton, hx]
  by_cases e : x.1 = 0
  · rw [if_pos e, List.filter_cons_of_neg (by simp [e]), List.filter_nil]
  · rw [if_neg e, List.filter_cons_of_pos (by simp [e]), List.filter_nil]
theorem rpickC_id (rows : List (List Val3)) (j : Nat) : someV (rpickC rows j) = rpickC rows j := by
  unfold someV rpickC
  rw [List.filter_filter]
  simp
/-- An aggregate of these rows. -/
def oneE (rows : List (List Val3)) (op at_ : Int) : Except Int Val3 :=
  if at_ < 0 then .ok (2, rows.length, ⟨#[]⟩) else ofV (rpickC rows at_.toNat) op
/-- Where the loop stands. -/
def OnI (W2 : World) (rows : List (List Val3)) (j : Nat) (rv iv : Value) (wr : World) : Prop :=
  ∃ (k : Nat) (R : Option Addr) (rn rc : Nat), rv = .slice R rn rc ∧ iv = .int .i64 k ∧ k ≤ rows.length ∧ rn = (rpickC (rows.take k) j).length ∧ wr.ownsRow W2.heap.size 26 3 (.slice R rn rc) rn (fl (rpickC (rows.take k) j)) ∧ (R = none → rc = 0) ∧ Later W2 wr
theorem OnI.mk {W2 wr : World} {rows : List (List Val3)} {j : Nat} (y : Int) (k : Nat) (R : Option Addr) (rn rc : Nat) (hy : y = (k : Int)) (hk : k ≤ rows.length) (hrn : rn = (rpickC (rows.take k) j).length) (ho : wr.ownsRow W2.heap.size 26 3 (.slice R rn rc) rn (fl (rpickC (rows.take k) j))) (hnil : R = none → rc = 0) (L : Later W2 wr) : OnI W2 rows j (.slice R rn rc) (.int .i64 y) wr := by
  subst hy; exact ⟨k, R, rn, rc, rfl, rfl, hk, hrn, ho, hnil, L⟩
theorem zone_all {w : World} {g : Nat} {T : TypeId} (h : Blk w g (zcells 0 z3 z3).toArray T) (n : Int) (a b : Val3) : Blk (((((((w.setCell ⟨g, 0, none⟩ (.int .i64 n)).setCell ⟨g, 1, none⟩ (.int .i64 a.1)).setCell ⟨g, 2, none⟩ (.int .i64 a.2.1)).setCell ⟨g, 3, none⟩ (.string a.2.2)).setCell ⟨g, 4, none⟩ (.int .i64 b.1)).setCell ⟨g, 5, none⟩ (.int .i64 b.2.1)).setCell ⟨g, 6, none⟩ (.string b.2.2)) g (zcells n a b).toArray T :=
  ((((((h.set_ 0 _).set_ 1 _).set_ 2 _).set_ 3 _).set_ 4 _).set_ 5 _).set_ 6 _
theorem zone_later {w : World} {wr : World} (h : Later w wr) {g : Nat} (hg : w.heap.size ≤ g) (n : Int) (a b : Val3) : Later w (((((((wr.setCell ⟨g, 0, none⟩ (.int .i64 n)).setCell ⟨g, 1, none⟩ (.int .i64 a.1)).setCell ⟨g, 2, none⟩ (.int .i64 a.2.1)).setCell ⟨g, 3, none⟩ (.string a.2.2)).setCell ⟨g, 4, none⟩ (.int .i64 b.1)).setCell ⟨g, 5, none⟩ (.int .i64 b.2.1)).setCell ⟨g, 6, none⟩ (.string b.2.2)) :=
  later_set (later_set (later_set (later_set (later_set (later_set (later_set h hg 0 _) hg 1 _) hg 2 _) hg 3 _) hg 4 _) hg 5 _) hg 6 _

set_option maxRecDepth 100000 in
set_option maxHeartbeats 4000000 in
theorem refOne_any (A : Option Addr) (n c : Nat) (zs : List SlV) (op at_ : Int) (w : World) (hn : n = zs.length) (hl : n ≤ 1000) (hr : RowsAt w A zs)
    (h64 : ∀ s ∈ zs, ∀ x ∈ s.l, -9223372036854775808 ≤ x.2.1 ∧ x.2.1 ≤ 9223372036854775807) (hop : 1 ≤ op ∧ op ≤ 4) (hneg0 : at_ < 0 → op = 1) (hat : ∀ s ∈ zs, at_ < (s.l.length : Int)) :
    Calls Tryd.prog 42 #[.slice A n c, .agg #[.int .i64 op, .int .i64 at_]] w (ErrE (oneE (zs.map (·.l)) op at_) w) := by
  subst hn
  obtain ⟨g0, hg0⟩ : ∃ g, w.heap.size = g := ⟨_, rfl⟩
  obtain ⟨W2, hW2⟩ : ∃ x, (w.alloc (.cells #[.int .i64 op, .int .i64 at_] 66)).alloc (.cells #[.int .i64 0, .int .i64 0, .string ⟨#[]⟩] 26) = x := ⟨_, rfl⟩
  have L2 : Later w W2 := hW2 ▸ (Later.new w _).alloc _
  have B0 : Blk W2 g0 #[.int .i64 op, .int .i64 at_] 66 := hW2 ▸ (Blk.new w _ _ _ hg0.symm).later (Later.new _ _)
  have B1 : Blk W2 (g0 + 1) #[.int .i64 0, .int .i64 0, .string ⟨#[]⟩] 26 := hW2 ▸ Blk.new _ _ _ _ (by simp [hg0])
  have HSZ := Lib.hid (show w.heap.size ≤ g0 + 1 from by omega)
  have HB0 := Lib.hid B0
  have HB1 := Lib.hid B1
  have HL2 := Lib.hid L2
  have HRR := Lib.hid (hr.later L2)
  have H64 := Lib.hid h64
  have HAT := Lib.hid hat
  by_cases hneg : at_ < 0
  · obtain rfl := hneg0 hneg
    have hd : decide (at_ < 0) = true := by simpa using hneg
    have HE := Lib.hid (show oneE (zs.map (·.l)) 1 at_ = .ok (2, zs.length, ⟨#[]⟩) from by unfold oneE; rw [if_pos hneg, List.length_map])
    have b0 := B0.cell 0 _ rfl
    have b1 := B0.cell 1 _ rfl
    have r0 := B1.cell 0 _ rfl
    have r1 := B1.cell 1 _ rfl
    have r2 := B1.cell 2 _ rfl
    have f0 := B1.frozen 0
    have f1 := B1.frozen 1
    have f2 := B1.frozen 2
    have HBq := Lib.hid (three_blk B1 rfl (.int .i64 2) (.int .i64 zs.length) (.string ⟨#[]⟩))
    have HLq := Lib.hid (three_later L2 HSZ.out (.int .i64 2) (.int .i64 zs.length) (.string ⟨#[]⟩))
    obtain ⟨wq, hwq⟩ : ∃ x, (((W2.setCell ⟨g0 + 1, 0, none⟩ (.int .i64 2)).setCell ⟨g0 + 1, 1, none⟩ (.int .i64 zs.length)).setCell ⟨g0 + 1, 2, none⟩ (.string ⟨#[]⟩)) = x := ⟨_, rfl⟩
    rw [hwq] at HBq HLq
    clear hr h64 hat L2 B0 B1 hneg hneg0
    go_enter Tryd.func42, Tryd.ntmps42
    go_wp2_with fail
    have q0 := HBq.out.cell 0 _ rfl
    have q1 := HBq.out.cell 1 _ rfl
    have q2 := HBq.out.cell 2 _ rfl
    exact bodyPost_ret (v := .tuple #[.agg #[.int .i64 2, .int .i64 zs.length, .string ⟨#[]⟩], .int .i64 0]) (by simp [results, Tryd.results42, go_sem, q0, q1, q2]) rfl (ErrE.good 2 _ ⟨#[]⟩ HE.out HLq.out)
  · obtain ⟨ai, rfl⟩ : ∃ k : Nat, at_ = (k : Int) := ⟨at_.toNat, by omega⟩
    have hd : decide ((ai : Int) < 0) = false := by simp
    obtain ⟨rows, hrows⟩ : ∃ x, zs.map (·.l) = x := ⟨_, rfl⟩
    have hzl : zs.length = rows.length := by rw [← hrows]; simp
    have HZL := Lib.hid hzl
    clear hzl
    have HRG := Lib.hid (show ∀ k (h : k < zs.length) (h' : k < rows.length), rows[k] = zs[k].l from fun k h h' => by subst hrows; simp)
    have HAL := Lib.hid (show ∀ k (h : k < zs.length), ai < zs[k].l.length from fun k h => by have := hat _ (List.getElem_mem h); omega)
    have HE := Lib.hid (show oneE (zs.map (·.l)) op ai = ofV (rpickC rows ai) op from by unfold oneE; rw [if_neg hneg, hrows, Int.toNat_natCast])
    have HI0 := Lib.hid (OnI.mk (W2 := W2) (wr := W2) (rows := rows) (j := ai) 0 0 none 0 0 rfl (Nat.zero_le _) rfl (by rw [List.take_zero]; exact ownG_nil _ _ _ _) (fun _ => rfl) (Later.refl _))
    have HP64 := Lib.hid (show ∀ x ∈ rpickC rows ai, -9223372036854775808 ≤ x.2.1 ∧ x.2.1 ≤ 9223372036854775807 from fun x hx => by
      unfold rpickC at hx
      obtain ⟨r, hr1, rfl⟩ := List.mem_map.1 (List.mem_filter.1 hx).1
      subst hrows
      obtain ⟨s, hs, rfl⟩ := List.mem_map.1 hr1
      have hlt : ai < s.l.length := by have := hat _ hs; omega
      rw [List.getD_eq_getElem?_getD, List.getElem?_eq_getElem hlt]
      exact h64 _ hs _ (List.getElem_mem hlt))
    rw [HE.out]
    have b0 := B0.cell 0 _ rfl
    have b1 := B0.cell 1 _ rfl
    clear hr h64 hat L2 B0 B1 hneg hneg0 hrows HE H64
    go_enter Tryd.func42, Tryd.ntmps42
    go_upto_region 1 with fail
    go_cut [16] from 9 to 16 (fun cv wx => cv = .bool false ∧ wx = W2)
    case first =>
      have hcase : op = 1 ∨ op = 2 ∨ op = 4 ∨ op = 3 := by omega
      rcases hcase with rfl | rfl | rfl | rfl
      all_goals
        go_wp2_with fail
        go_meet
        exact ⟨rfl, rfl⟩
    case rest =>
    obtain ⟨rfl, hwx⟩ := hcut
    rw [hwx]
    clear hwx
    go_wp2_with fail
    go_loopw [6, 7] (fun rv iv wr => OnI W2 rows ai rv iv wr) (fun _ i _ => zs.length - (intOf i).toNat)
    case atStart => exact HI0.out
    case round =>
      obtain ⟨k, R, rn, rc, rfl, rfl, hk, hrn, hown, hnil, lat⟩ := hrel
      have HOWN := Lib.hid hown
      have HNIL := Lib.hid hnil
      have HRN := Lib.hid hrn
      have HLAT := Lib.hid lat
      have hrb : rn ≤ 1000 := by
        have := rpickC_len (rows.take k) ai
        rw [List.length_take] at this
        have := HZL.out
        omega
      clear HI0 hown hnil hrn b0 b1
      by_cases hlt : k < zs.length
      · have hlt2 : k < rows.length := by have := HZL.out; omega
        have HK1 := Lib.hid (show k + 1 ≤ rows.length from hlt2)
        have hkz : (k : Int) < (zs.length : Int) := by omega
        obtain ⟨b, off, hA, ck, hrow, _, _, _⟩ := HRR.out.get k hlt
        subst hA
        have hal := HAL.out k hlt
        have HST := Lib.hid (show rpickC (rows.take (k + 1)) ai = rpickC (rows.take k) ai ++ (if zs[k].l[ai].1 = 0 then [] else [(zs[k].l[ai].1, zs[k].l[ai].2.1, zs[k].l[ai].2.2)]) from rpickC_step rows ai k hlt2 _ (by rw [HRG.out k hlt hlt2, List.getD_eq_getElem?_getD, List.getElem?_eq_getElem hal]; rfl))
        obtain ⟨cb, co, hcA, c0, c1, c2⟩ := hrow.val3 ai hal
        rw [hcA] at ck
        have haz : (ai : Int) < (zs[k].l.length : Int) := by omega
        generalize zs[k].l[ai].1 = t at c0 HST
        generalize zs[k].l[ai].2.1 = i at c1 HST
        generalize zs[k].l[ai].2.2 = s at c2 HST
        generalize zs[k].l.length = rl at ck haz
        generalize zs[k].c = rcap at ck
        have b1 := HB0.out.cell 1 _ rfl
        have HF1 := Lib.hid ck
        have HF2 := Lib.hid b1
        have HF3 := Lib.hid c0
        have HF4 := Lib.hid c1
        have HF5 := Lib.hid c2
        clear ck b1 c0 c1 c2 hrow hcA hal hlt2 lat
        have hkz1 : (0 : Int) ≤ (k : Int) := by omega
        obtain ⟨q, hq⟩ : ∃ q : Bool, q = (t != 0) := ⟨_, rfl⟩
        have HQ := Lib.hid hq
        clear hq
        go_upto_region 7 with fail
        go_cut [35] from 26 to 35 (fun cv wx => cv = .bool q ∧ wx = wr.drew)
        case first => as_aux_lemma =>
          refine wp_region_K (S := fun W : World => Later W2 W) (R := fun a b => a = b) (fun _ => rfl) (by kernel_rfl) ?_
          have hS : Later W2 wr.drew := HLAT.out.drew
          refine wpAnyK_take (fun _ => rfl) (fun _ _ _ h k => h.trans k) (fun _ _ h k => k ▸ h) (i := 0) (oi := { dst := some 26, op := _, type := _, pos := _, after := _, guard := _ }) (v := ?_) rfl (by kernel_rfl) (by kernel_rfl) (by kernel_rfl) (fun _ _ _ h => h) (Or.inl (Or.inl ⟨by rfl, ?_⟩)) hS ?_
          rotate_left
          focus ((intro w hSw; (try dsimp only at hSw); have f1 := hSw.cell HF1.out; have f2 := hSw.cell HF2.out; have f3 := hSw.cell HF3.out; have f4 := hSw.cell HF4.out; have f5 := hSw.cell HF5.out; go_simp); (try with_reducible rfl))
          intro wq' hwq
          subst hwq
          (try simp only [Act.put, List.setIfInBounds_toArray, List.set_cons_zero, List.set_cons_succ])
          refine wpAnyK_take (fun _ => rfl) (fun _ _ _ h k => h.trans k) (fun _ _ h k => k ▸ h) (i := 1) (oi := { dst := some 27, op := _, type := _, pos := _, after := _, guard := _ }) (v := ?_) rfl (by kernel_rfl) (by kernel_rfl) (by kernel_rfl) (fun _ _ _ h => h) (Or.inl (Or.inl ⟨by rfl, ?_⟩)) hS ?_
          rotate_left
          focus ((intro w hSw; (try dsimp only at hSw); have f1 := hSw.cell HF1.out; have f2 := hSw.cell HF2.out; have f3 := hSw.cell HF3.out; have f4 := hSw.cell HF4.out; have f5 := hSw.cell HF5.out; go_simp); (try with_reducible rfl))
          intro wq' hwq
          subst hwq
          (try simp only [Act.put, List.setIfInBounds_toArray, List.set_cons_zero, List.set_cons_succ])
          refine wpAnyK_take (fun _ => rfl) (fun _ _ _ h k => h.trans k) (fun _ _ h k => k ▸ h) (i := 2) (oi := { dst := some 28, op := _, type := _, pos := _, after := _, guard := _ }) (v := ?_) rfl (by kernel_rfl) (by kernel_rfl) (by kernel_rfl) (fun _ _ _ h => h) (Or.inl (Or.inl ⟨by rfl, ?_⟩)) hS ?_
          rotate_left
          focus ((intro w hSw; (try dsimp only at hSw); have f1 := hSw.cell HF1.out; have f2 := hSw.cell HF2.out; have f3 := hSw.cell HF3.out; have f4 := hSw.cell HF4.out; have f5 := hSw.cell HF5.out; go_simp); (try with_reducible rfl))
          intro wq' hwq
          subst hwq
          (try simp only [Act.put, List.setIfInBounds_toArray, List.set_cons_zero, List.set_cons_succ])
          refine wpAnyK_take (fun _ => rfl) (fun _ _ _ h k => h.trans k) (fun _ _ h k => k ▸ h) (i := 3) (oi := { dst := some 29, op := _, type := _, pos := _, after := _, guard := _ }) (v := ?_) rfl (by kernel_rfl) (by kernel_rfl) (by kernel_rfl) (fun _ _ _ h => h) (Or.inl (Or.inl ⟨by rfl, ?_⟩)) hS ?_
          rotate_left
          focus ((intro w hSw; (try dsimp only at hSw); have f1 := hSw.cell HF1.out; have f2 := hSw.cell HF2.out; have f3 := hSw.cell HF3.out; have f4 := hSw.cell HF4.out; have f5 := hSw.cell HF5.out; go_simp); (try with_reducible rfl))
          intro wq' hwq
          subst hwq
          (try simp only [Act.put, List.setIfInBounds_toArray, List.set_cons_zero, List.set_cons_succ])
          refine wpAnyK_take (fun _ => rfl) (fun _ _ _ h k => h.trans k) (fun _ _ h k => k ▸ h) (i := 4) (oi := { dst := some 30, op := _, type := _, pos := _, after := _, guard := _ }) (v := ?_) rfl (by kernel_rfl) (by kernel_rfl) (by kernel_rfl) (fun _ _ _ h => h) (Or.inl (Or.inl ⟨by rfl, ?_⟩)) hS ?_
          rotate_left
          focus ((intro w hSw; (try dsimp only at hSw); have f1 := hSw.cell HF1.out; have f2 := hSw.cell HF2.out; have f3 := hSw.cell HF3.out; have f4 := hSw.cell HF4.out; have f5 := hSw.cell HF5.out; go_simp); (try with_reducible rfl))
          intro wq' hwq
          subst hwq
          (try simp only [Act.put, List.setIfInBounds_toArray, List.set_cons_zero, List.set_cons_succ])
          refine wpAnyK_take (fun _ => rfl) (fun _ _ _ h k => h.trans k) (fun _ _ h k => k ▸ h) (i := 5) (oi := { dst := some 31, op := _, type := _, pos := _, after := _, guard := _ }) (v := ?_) rfl (by kernel_rfl) (by kernel_rfl) (by kernel_rfl) (fun _ _ _ h => h) (Or.inl (Or.inl ⟨by rfl, ?_⟩)) hS ?_
          rotate_left
          focus ((intro w hSw; (try dsimp only at hSw); have f1 := hSw.cell HF1.out; have f2 := hSw.cell HF2.out; have f3 := hSw.cell HF3.out; have f4 := hSw.cell HF4.out; have f5 := hSw.cell HF5.out; go_simp); (try with_reducible rfl))
          intro wq' hwq
          subst hwq
          (try simp only [Act.put, List.setIfInBounds_toArray, List.set_cons_zero, List.set_cons_succ])
          refine wpAnyK_take (fun _ => rfl) (fun _ _ _ h k => h.trans k) (fun _ _ h k => k ▸ h) (i := 6) (oi := { dst := some 32, op := _, type := _, pos := _, after := _, guard := _ }) (v := ?_) rfl (by kernel_rfl) (by kernel_rfl) (by kernel_rfl) (fun _ _ _ h => h) (Or.inl (Or.inl ⟨by rfl, ?_⟩)) hS ?_
          rotate_left
          focus ((intro w hSw; (try dsimp only at hSw); have f1 := hSw.cell HF1.out; have f2 := hSw.cell HF2.out; have f3 := hSw.cell HF3.out; have f4 := hSw.cell HF4.out; have f5 := hSw.cell HF5.out; go_simp); (try with_reducible rfl))
          intro wq' hwq
          subst hwq
          (try simp only [Act.put, List.setIfInBounds_toArray, List.set_cons_zero, List.set_cons_succ])
          refine wpAnyK_take (fun _ => rfl) (fun _ _ _ h k => h.trans k) (fun _ _ h k => k ▸ h) (i := 7) (oi := { dst := some 33, op := _, type := _, pos := _, after := _, guard := _ }) (v := ?_) rfl (by kernel_rfl) (by kernel_rfl) (by kernel_rfl) (fun _ _ _ h => h) (Or.inl (Or.inl ⟨by rfl, ?_⟩)) hS ?_
          rotate_left
          focus ((intro w hSw; (try dsimp only at hSw); have f1 := hSw.cell HF1.out; have f2 := hSw.cell HF2.out; have f3 := hSw.cell HF3.out; have f4 := hSw.cell HF4.out; have f5 := hSw.cell HF5.out; go_simp); (try with_reducible rfl))
          intro wq' hwq
          subst hwq
          (try simp only [Act.put, List.setIfInBounds_toArray, List.set_cons_zero, List.set_cons_succ])
          refine wpAnyK_take (fun _ => rfl) (fun _ _ _ h k => h.trans k) (fun _ _ h k => k ▸ h) (i := 8) (oi := { dst := some 34, op := _, type := _, pos := _, after := _, guard := _ }) (v := ?_) rfl (by kernel_rfl) (by kernel_rfl) (by kernel_rfl) (fun _ _ _ h => h) (Or.inl (Or.inl ⟨by rfl, ?_⟩)) hS ?_
          rotate_left
          focus ((intro w hSw; (try dsimp only at hSw); have f1 := hSw.cell HF1.out; have f2 := hSw.cell HF2.out; have f3 := hSw.cell HF3.out; have f4 := hSw.cell HF4.out; have f5 := hSw.cell HF5.out; go_simp); (try with_reducible rfl))
          intro wq' hwq
          subst hwq
          (try simp only [Act.put, List.setIfInBounds_toArray, List.set_cons_zero, List.set_cons_succ])
          refine wpAnyK_take (fun _ => rfl) (fun _ _ _ h k => h.trans k) (fun _ _ h k => k ▸ h) (i := 9) (oi := { dst := some 35, op := _, type := _, pos := _, after := _, guard := _ }) (v := ?_) rfl (by kernel_rfl) (by kernel_rfl) (by kernel_rfl) (fun _ _ _ h => h) (Or.inl (Or.inl ⟨by rfl, ?_⟩)) hS ?_
          rotate_left
          focus ((intro w hSw; (try dsimp only at hSw); have f1 := hSw.cell HF1.out; have f2 := hSw.cell HF2.out; have f3 := hSw.cell HF3.out; have f4 := hSw.cell HF4.out; have f5 := hSw.cell HF5.out; go_simp); (try with_reducible rfl))
          intro wq' hwq
          subst hwq
          (try simp only [Act.put, List.setIfInBounds_toArray, List.set_cons_zero, List.set_cons_succ])
          refine wpAnyK_done (by kernel_rfl) ?_ _
          go_wp2_with fail
          go_meet
          exact ⟨by rw [HQ.out], rfl⟩
        case rest =>
        obtain ⟨rfl, rfl⟩ := hcut
        rcases q with _ | _
        · have ht : t = 0 := by have h := HQ.out; simpa using h.symm
          rw [if_pos ht, List.append_nil] at HST
          go_wp2_with fail
          go_roundw
          case rel => exact OnI.mk _ (k + 1) R rn rc (by omega) HK1.out (by rw [HST.out]; exact HRN.out) (by rw [HST.out]; exact own_later HOWN.out (Later.refl wr).drew) HNIL.out HLAT.out.drew
          case measure => simp [intOf]; omega
        · have ht : ¬ t = 0 := by have h := HQ.out; simpa using h.symm
          rw [if_neg ht] at HST
          have HOWN := Lib.hid (own_later HOWN.out (Later.refl wr).drew)
          have HLAT := Lib.hid HLAT.out.drew
          obtain ⟨we, hwe⟩ : ∃ x, wr.drew = x := ⟨_, rfl⟩
          rw [hwe] at HOWN HLAT ⊢
          clear hwe HQ
          go_upto_region 8 with fail
          refine wp_region_K (S := fun W : World => Later W2 W) (R := fun a b => a = b) (fun _ => rfl) (by kernel_rfl) ?_
          have hS : Later W2 we.drew := HLAT.out.drew
          have HOD := Lib.hid (own_later HOWN.out (Later.refl we).drew)
          obtain ⟨wd, hwd⟩ : ∃ x, we.drew = x := ⟨_, rfl⟩
          rw [hwd] at hS HOD ⊢
          clear hwd
          refine wpAnyK_take (fun _ => rfl) (fun _ _ _ h k => h.trans k) (fun _ _ h k => k ▸ h) (i := 0) (oi := { dst := some 36, op := _, type := _, pos := _, after := _, guard := _ }) (v := ?_) rfl (by kernel_rfl) (by kernel_rfl) (by kernel_rfl) (fun _ _ _ h => h) (Or.inl (Or.inl ⟨by rfl, ?_⟩)) hS ?_
          rotate_left
          focus ((intro w hSw; (try dsimp only at hSw); have f1 := hSw.cell HF1.out; have f2 := hSw.cell HF2.out; have f3 := hSw.cell HF3.out; have f4 := hSw.cell HF4.out; have f5 := hSw.cell HF5.out; go_simp); (try with_reducible rfl))
          intro wq' hwq
          subst hwq
          (try simp only [Act.put, List.setIfInBounds_toArray, List.set_cons_zero, List.set_cons_succ])
          refine wpAnyK_take (fun _ => rfl) (fun _ _ _ h k => h.trans k) (fun _ _ h k => k ▸ h) (i := 1) (oi := { dst := some 37, op := _, type := _, pos := _, after := _, guard := _ }) (v := ?_) rfl (by kernel_rfl) (by kernel_rfl) (by kernel_rfl) (fun _ _ _ h => h) (Or.inl (Or.inl ⟨by rfl, ?_⟩)) hS ?_
          rotate_left
          focus ((intro w hSw; (try dsimp only at hSw); have f1 := hSw.cell HF1.out; have f2 := hSw.cell HF2.out; have f3 := hSw.cell HF3.out; have f4 := hSw.cell HF4.out; have f5 := hSw.cell HF5.out; go_simp); (try with_reducible rfl))
          intro wq' hwq
          subst hwq
          (try simp only [Act.put, List.setIfInBounds_toArray, List.set_cons_zero, List.set_cons_succ])
          refine wpAnyK_take (fun _ => rfl) (fun _ _ _ h k => h.trans k) (fun _ _ h k => k ▸ h) (i := 2) (oi := { dst := some 38, op := _, type := _, pos := _, after := _, guard := _ }) (v := ?_) rfl (by kernel_rfl) (by kernel_rfl) (by kernel_rfl) (fun _ _ _ h => h) (Or.inl (Or.inl ⟨by rfl, ?_⟩)) hS ?_
          rotate_left
          focus ((intro w hSw; (try dsimp only at hSw); have f1 := hSw.cell HF1.out; have f2 := hSw.cell HF2.out; have f3 := hSw.cell HF3.out; have f4 := hSw.cell HF4.out; have f5 := hSw.cell HF5.out; go_simp); (try with_reducible rfl))
          intro wq' hwq
          subst hwq
          (try simp only [Act.put, List.setIfInBounds_toArray, List.set_cons_zero, List.set_cons_succ])
          refine wpAnyK_take (fun _ => rfl) (fun _ _ _ h k => h.trans k) (fun _ _ h k => k ▸ h) (i := 3) (oi := { dst := some 39, op := _, type := _, pos := _, after := _, guard := _ }) (v := ?_) rfl (by kernel_rfl) (by kernel_rfl) (by kernel_rfl) (fun _ _ _ h => h) (Or.inl (Or.inl ⟨by rfl, ?_⟩)) hS ?_
          rotate_left
          focus ((intro w hSw; (try dsimp only at hSw); have f1 := hSw.cell HF1.out; have f2 := hSw.cell HF2.out; have f3 := hSw.cell HF3.out; have f4 := hSw.cell HF4.out; have f5 := hSw.cell HF5.out; go_simp); (try with_reducible rfl))
          intro wq' hwq
          subst hwq
          (try simp only [Act.put, List.setIfInBounds_toArray, List.set_cons_zero, List.set_cons_succ])
          refine wpAnyK_take (fun _ => rfl) (fun _ _ _ h k => h.trans k) (fun _ _ h k => k ▸ h) (i := 4) (oi := { dst := some 40, op := _, type := _, pos := _, after := _, guard := _ }) (v := ?_) rfl (by kernel_rfl) (by kernel_rfl) (by kernel_rfl) (fun _ _ _ h => h) (Or.inl (Or.inl ⟨by rfl, ?_⟩)) hS ?_
          rotate_left
          focus ((intro w hSw; (try dsimp only at hSw); have f1 := hSw.cell HF1.out; have f2 := hSw.cell HF2.out; have f3 := hSw.cell HF3.out; have f4 := hSw.cell HF4.out; have f5 := hSw.cell HF5.out; go_simp); (try with_reducible rfl))
          intro wq' hwq
          subst hwq
          (try simp only [Act.put, List.setIfInBounds_toArray, List.set_cons_zero, List.set_cons_succ])
          refine wpAnyK_take (fun _ => rfl) (fun _ _ _ h k => h.trans k) (fun _ _ h k => k ▸ h) (i := 5) (oi := { dst := some 41, op := _, type := _, pos := _, after := _, guard := _ }) (v := ?_) rfl (by kernel_rfl) (by kernel_rfl) (by kernel_rfl) (fun _ _ _ h => h) (Or.inl (Or.inl ⟨by rfl, ?_⟩)) hS ?_
          rotate_left
          focus ((intro w hSw; (try dsimp only at hSw); have f1 := hSw.cell HF1.out; have f2 := hSw.cell HF2.out; have f3 := hSw.cell HF3.out; have f4 := hSw.cell HF4.out; have f5 := hSw.cell HF5.out; go_simp); (try with_reducible rfl))
          intro wq' hwq
          subst hwq
          (try simp only [Act.put, List.setIfInBounds_toArray, List.set_cons_zero, List.set_cons_succ])
          refine wpAnyK_take (fun _ => rfl) (fun _ _ _ h k => h.trans k) (fun _ _ h k => k ▸ h) (i := 6) (oi := { dst := some 42, op := _, type := _, pos := _, after := _, guard := _ }) (v := ?_) rfl (by kernel_rfl) (by kernel_rfl) (by kernel_rfl) (fun _ _ _ h => h) (Or.inl (Or.inl ⟨by rfl, ?_⟩)) hS ?_
          rotate_left
          focus ((intro w hSw; (try dsimp only at hSw); have f1 := hSw.cell HF1.out; have f2 := hSw.cell HF2.out; have f3 := hSw.cell HF3.out; have f4 := hSw.cell HF4.out; have f5 := hSw.cell HF5.out; go_simp); (try with_reducible rfl))
          intro wq' hwq
          subst hwq
          (try simp only [Act.put, List.setIfInBounds_toArray, List.set_cons_zero, List.set_cons_succ])
          refine wpAnyK_take (fun _ => rfl) (fun _ _ _ h k => h.trans k) (fun _ _ h k => k ▸ h) (i := 7) (oi := { dst := some 43, op := _, type := _, pos := _, after := _, guard := _ }) (v := ?_) rfl (by kernel_rfl) (by kernel_rfl) (by kernel_rfl) (fun _ _ _ h => h) (Or.inl (Or.inl ⟨by rfl, ?_⟩)) hS ?_
          rotate_left
          focus ((intro w hSw; (try dsimp only at hSw); have f1 := hSw.cell HF1.out; have f2 := hSw.cell HF2.out; have f3 := hSw.cell HF3.out; have f4 := hSw.cell HF4.out; have f5 := hSw.cell HF5.out; go_simp); (try with_reducible rfl))
          intro wq' hwq
          subst hwq
          (try simp only [Act.put, List.setIfInBounds_toArray, List.set_cons_zero, List.set_cons_succ])
          refine wpAnyK_take (fun _ => rfl) (fun _ _ _ h k => h.trans k) (fun _ _ h k => k ▸ h) (i := 8) (oi := { dst := some 44, op := _, type := _, pos := _, after := _, guard := _ }) (v := ?_) rfl (by kernel_rfl) (by kernel_rfl) (by kernel_rfl) (fun _ _ _ h => h) (Or.inl (Or.inl ⟨by rfl, ?_⟩)) hS ?_
          rotate_left
          focus ((intro w hSw; (try dsimp only at hSw); have f1 := hSw.cell HF1.out; have f2 := hSw.cell HF2.out; have f3 := hSw.cell HF3.out; have f4 := hSw.cell HF4.out; have f5 := hSw.cell HF5.out; go_simp); (try with_reducible rfl))
          intro wq' hwq
          subst hwq
          (try simp only [Act.put, List.setIfInBounds_toArray, List.set_cons_zero, List.set_cons_succ])
          refine wpAnyK_all (rs := [9]) (by kernel_rfl) (by simp) (fun i hi => ?_)
          simp only [List.mem_cons, List.not_mem_nil, or_false] at hi
          subst hi
          refine stepK (o := { dst := some 45, op := _, type := _, pos := _, after := _, guard := _ }) rfl (fun K hK => ?_)
          go_simp
          obtain ⟨gl, hgl⟩ : ∃ x, wd.heap.size = x := ⟨_, rfl⟩
          obtain ⟨wl, hwl⟩ : ∃ x, wd.alloc (.cells #[.int .i64 t, .int .i64 i, .string s] 26) = x := ⟨_, rfl⟩
          have ll : Later wd wl := hwl ▸ Later.new _ _
          have HLT := Lib.hid (show Has wl (some ⟨gl, 0, none⟩) (fl [(t, i, s)]) from hwl ▸ (Blk.new wd [Value.int .i64 t, Value.int .i64 i, Value.string s].toArray 26 gl hgl.symm).has)
          have HOL := Lib.hid (own_later HOD.out ll)
          try rw [hgl]
          rw [hwl]
          replace hS : Later W2 wl := hS.trans ll
          refine hK _ _ hS ?_
          clear hwl hgl ll HOD
          intro wq' hwq
          subst hwq
          clear hK
          (try simp only [Act.put, List.setIfInBounds_toArray, List.set_cons_zero, List.set_cons_succ])
          refine wpAnyK_all (rs := [10]) (by kernel_rfl) (by simp) (fun i hi => ?_)
          simp only [List.mem_cons, List.not_mem_nil, or_false] at hi
          subst hi
          refine stepK (o := { dst := some 46, op := _, type := _, pos := _, after := _, guard := _ }) rfl (fun K hK => ?_)
          refine step_append_n rfl (.tmp 36) (.tmp 45) 52 rfl W2.heap.size 26 _ 3 32 Tryd.underlying52 info_v rfl (by decide) _ rn _ rfl HOL.out (some ⟨gl, 0, none⟩) 1 1 (fl [(t, i, s)]) rfl HLT.out rfl (fun h => by cases h) (fl_one _) (by unfold maxLen; omega) (by omega) hS.size ?_
          rintro A' c' wz ho hgr hbl hnl
          have HO2 := Lib.hid ho
          have HN2 := Lib.hid hnl
          replace hS : Later W2 wz := Later.of (hS.below.trans hbl)
          refine hK _ _ hS ?_
          clear ho hgr hbl hnl HLT HOL
          intro wq' hwq
          subst hwq
          clear hK
          (try simp only [Act.put, List.setIfInBounds_toArray, List.set_cons_zero, List.set_cons_succ])
          refine wpAnyK_take (fun _ => rfl) (fun _ _ _ h k => h.trans k) (fun _ _ h k => k ▸ h) (i := 11) (oi := { dst := some 6, op := _, type := _, pos := _, after := _, guard := _ }) (v := ?_) rfl (by kernel_rfl) (by kernel_rfl) (by kernel_rfl) (fun _ _ _ h => h) (Or.inl (Or.inl ⟨by rfl, ?_⟩)) hS ?_
          rotate_left
          focus ((intro w hSw; (try dsimp only at hSw); skip; go_simp); (try with_reducible rfl))
          intro wq' hwq
          subst hwq
          (try simp only [Act.put, List.setIfInBounds_toArray, List.set_cons_zero, List.set_cons_succ])
          refine wpAnyK_done (by kernel_rfl) ?_ _
          have HLZ := Lib.hid hS
          clear hS
          go_wp2_with fail
          go_roundw
          case rel =>
            refine OnI.mk _ (k + 1) _ _ _ ?_ HK1.out ?_ ?_ HN2.out HLZ.out
            · omega
            · rw [HST.out, List.length_append, ← HRN.out]; try rfl
            · rw [HST.out, fl_append]; exact HO2.out
          case measure => simp [intOf]; omega
      · have hkl : k = rows.length := by have := HZL.out; omega
        have HPK := Lib.hid (show rpickC (rows.take k) ai = rpickC rows ai from by rw [hkl, List.take_length])
        rw [HPK.out] at HOWN HRN
        have HFL := Lib.hid (Has.ownG HOWN.out)
        have HQL := Lib.hid (show (rpickC rows ai).length ≤ 1000 from Nat.le_trans (rpickC_len _ _) (by have := HZL.out; omega))
        have HSM := Lib.hid (rpickC_id rows ai)
        clear hkl HOWN HPK
        obtain ⟨Q, hQ⟩ : ∃ x, rpickC rows ai = x := ⟨_, rfl⟩
        rw [hQ] at HRN HFL HQL HP64 HSM
        have HQE := Lib.hid hQ
        clear hQ
        have b0 := (HB0.out.later lat).cell 0 _ rfl
        have HOF := Lib.hid (refOf_any R rn rc Q wr HRN.out (by have := HQL.out; omega) HFL.out)
        go_wp2_with fail
        refine HOF.out.mono ?_
        rintro e w5 ⟨rfl, l5⟩
        rw [HSM.out]
        obtain ⟨lo, hlo⟩ : ∃ x, leastV 1 Q = x := ⟨_, rfl⟩
        obtain ⟨hi, hhi⟩ : ∃ x, leastV (-1) Q = x := ⟨_, rfl⟩
        rw [hlo, hhi]
        have HLO := Lib.hid hlo
        have HHI := Lib.hid hhi
        obtain ⟨l0, l1, l2⟩ := lo
        obtain ⟨h0, h1, h2⟩ := hi
        obtain ⟨nn, hnn⟩ : ∃ x, (Q.length : Int) - (Q.length : Int) = x := ⟨_, rfl⟩
        rw [hnn]
        dsimp only [zcells]
        clear hlo hhi hnn HOF
        obtain ⟨gz, hgz⟩ : ∃ x, w5.heap.size = x := ⟨_, rfl⟩
        obtain ⟨w6, hw6⟩ : ∃ x, w5.alloc (.cells #[.int .i64 0, .int .i64 0, .int .i64 0, .string ⟨#[]⟩, .int .i64 0, .int .i64 0, .string ⟨#[]⟩] 50) = x := ⟨_, rfl⟩
        have BZ : Blk w6 gz (zcells 0 z3 z3).toArray 50 := hw6 ▸ (show Blk (w5.alloc (.cells #[.int .i64 0, .int .i64 0, .int .i64 0, .string ⟨#[]⟩, .int .i64 0, .int .i64 0, .string ⟨#[]⟩] 50)) gz (zcells 0 z3 z3).toArray 50 from Blk.new w5 _ _ gz hgz.symm)
        have l6 : Later wr w6 := hw6 ▸ l5.alloc _
        have z0 : w6.cell? ⟨gz, 0, none⟩ = some (.int .i64 0) := BZ.cell 0 _ rfl
        have z1 : w6.cell? ⟨gz, 1, none⟩ = some (.int .i64 0) := BZ.cell 1 _ rfl
        have z2 : w6.cell? ⟨gz, 2, none⟩ = some (.int .i64 0) := BZ.cell 2 _ rfl
        have z3' : w6.cell? ⟨gz, 3, none⟩ = some (.string ⟨#[]⟩) := BZ.cell 3 _ rfl
        have z4 : w6.cell? ⟨gz, 4, none⟩ = some (.int .i64 0) := BZ.cell 4 _ rfl
        have z5 : w6.cell? ⟨gz, 5, none⟩ = some (.int .i64 0) := BZ.cell 5 _ rfl
        have z6 : w6.cell? ⟨gz, 6, none⟩ = some (.string ⟨#[]⟩) := BZ.cell 6 _ rfl
        have f0 := BZ.frozen 0
        have f1 := BZ.frozen 1
        have f2 := BZ.frozen 2
        have f3 := BZ.frozen 3
        have f4 := BZ.frozen 4
        have f5 := BZ.frozen 5
        have f6 := BZ.frozen 6
        have HGZ := Lib.hid (show wr.heap.size ≤ gz from hgz ▸ l5.size)
        obtain ⟨w7, hw7⟩ : ∃ x, (((((((w6.setCell ⟨gz, 0, none⟩ (.int .i64 nn)).setCell ⟨gz, 1, none⟩ (.int .i64 l0)).setCell ⟨gz, 2, none⟩ (.int .i64 l1)).setCell ⟨gz, 3, none⟩ (.string l2)).setCell ⟨gz, 4, none⟩ (.int .i64 h0)).setCell ⟨gz, 5, none⟩ (.int .i64 h1)).setCell ⟨gz, 6, none⟩ (.string h2)) = x := ⟨_, rfl⟩
        have HZB := Lib.hid (show Blk w7 gz (zcells nn (l0, l1, l2) (h0, h1, h2)).toArray 50 from hw7 ▸ zone_all BZ nn (l0, l1, l2) (h0, h1, h2))
        have HL7 := Lib.hid (show Later wr w7 from hw7 ▸ zone_later l6 HGZ.out nn (l0, l1, l2) (h0, h1, h2))
        have b0 := HL7.out.cell b0
        clear BZ l6 l5 HGZ
        go_upto_region 10 with fail
        have HBR := Lib.hid ((HB1.out.later lat).later HL7.out)
        have HLW := Lib.hid (HL2.out.trans (lat.trans HL7.out))
        obtain ⟨g1, hg1⟩ : ∃ g, g0 + 1 = g := ⟨_, rfl⟩
        have hgw : w.heap.size ≤ g1 := by have := HSZ.out; omega
        rw [hg1] at HBR ⊢
        clear z0 z1 z2 z3' z4 z5 z6 f0 f1 f2 f3 f4 f5 f6 HB1 lat hg1
        have r0 := HBR.out.cell 0 _ rfl
        have r1 := HBR.out.cell 1 _ rfl
        have r2 := HBR.out.cell 2 _ rfl
        have f0 := HBR.out.frozen 0
        have f1 := HBR.out.frozen 1
        have f2 := HBR.out.frozen 2
        have hcase : op = 1 ∨ op = 2 ∨ op = 4 ∨ op = 3 := by omega
        rcases hcase with rfl | rfl | rfl | rfl
        · have HBq := Lib.hid (three_blk HBR.out rfl (.int .i64 2) (.int .i64 rn) (.string ⟨#[]⟩))
          have HLq := Lib.hid (three_later HLW.out hgw (.int .i64 2) (.int .i64 rn) (.string ⟨#[]⟩))
          obtain ⟨wq, hwq⟩ : ∃ x, (((w7.setCell ⟨g1, 0, none⟩ (.int .i64 2)).setCell ⟨g1, 1, none⟩ (.int .i64 rn)).setCell ⟨g1, 2, none⟩ (.string ⟨#[]⟩)) = x := ⟨_, rfl⟩
          rw [hwq] at HBq HLq
          go_wp2_with fail
          have q0 := HBq.out.cell 0 _ rfl
          have q1 := HBq.out.cell 1 _ rfl
          have q2 := HBq.out.cell 2 _ rfl
          exact bodyPost_ret (v := .tuple #[.agg #[.int .i64 2, .int .i64 rn, .string ⟨#[]⟩], .int .i64 0]) (by simp [results, Tryd.results42, go_sem, q0, q1, q2]) rfl (ErrE.good 2 rn ⟨#[]⟩ (by rw [HQE.out]; unfold ofV; rw [if_pos rfl, HRN.out]) HLq.out)
        · have HN := Lib.hid (refSum_any R rn rc Q w7 HRN.out HQL.out (HFL.out.later HL7.out) HP64.out)
          have hse : ofV Q 2 = sumV Q := rfl
          clear r0 r1 r2 f0 f1 f2
          go_wp2_with fail
          refine HN.out.mono ?_
          rintro e w3 ⟨⟨⟨x1, x2, x3⟩, ho, rfl⟩ | ⟨en, ho, hnn, rfl⟩, l3⟩
          · dsimp only
            have BR3 := HBR.out.later l3
            have r0 := BR3.cell 0 _ rfl
            have r1 := BR3.cell 1 _ rfl
            have r2 := BR3.cell 2 _ rfl
            have f0 := BR3.frozen 0
            have f1 := BR3.frozen 1
            have f2 := BR3.frozen 2
            have HBq := Lib.hid (three_blk BR3 rfl (.int .i64 x1) (.int .i64 x2) (.string x3))
            have HLq := Lib.hid (three_later (HLW.out.trans l3) hgw (.int .i64 x1) (.int .i64 x2) (.string x3))
            obtain ⟨wq, hwq⟩ : ∃ x, (((w3.setCell ⟨g1, 0, none⟩ (.int .i64 x1)).setCell ⟨g1, 1, none⟩ (.int .i64 x2)).setCell ⟨g1, 2, none⟩ (.string x3)) = x := ⟨_, rfl⟩
            rw [hwq] at HBq HLq
            clear BR3 l3
            go_wp2_with fail
            have q0 := HBq.out.cell 0 _ rfl
            have q1 := HBq.out.cell 1 _ rfl
            have q2 := HBq.out.cell 2 _ rfl
            exact bodyPost_ret (v := .tuple #[.agg #[.int .i64 x1, .int .i64 x2, .string x3], .int .i64 0]) (by simp [results, Tryd.results42, go_sem, q0, q1, q2]) rfl (ErrE.good x1 x2 x3 (by rw [HQE.out, hse, ho]) HLq.out)
          · have BR3 := HBR.out.later l3
            have r0 := BR3.cell 0 _ rfl
            have r1 := BR3.cell 1 _ rfl
            have r2 := BR3.cell 2 _ rfl
            have f0 := BR3.frozen 0
            have f1 := BR3.frozen 1
            have f2 := BR3.frozen 2
            have HBq := Lib.hid (three_blk BR3 rfl (.int .i64 0) (.int .i64 0) (.string ⟨#[]⟩))
            have HLq := Lib.hid (three_later (HLW.out.trans l3) hgw (.int .i64 0) (.int .i64 0) (.string ⟨#[]⟩))
            obtain ⟨wq, hwq⟩ : ∃ x, (((w3.setCell ⟨g1, 0, none⟩ (.int .i64 0)).setCell ⟨g1, 1, none⟩ (.int .i64 0)).setCell ⟨g1, 2, none⟩ (.string ⟨#[]⟩)) = x := ⟨_, rfl⟩
            rw [hwq] at HBq HLq
            clear BR3 l3
            go_wp2_with fail
            have q0 := HBq.out.cell 0 _ rfl
            have q1 := HBq.out.cell 1 _ rfl
            have q2 := HBq.out.cell 2 _ rfl
            exact bodyPost_ret (v := .tuple #[.agg #[.int .i64 0, .int .i64 0, .string ⟨#[]⟩], .int .i64 en]) (by simp [results, Tryd.results42, go_sem, q0, q1, q2]) rfl (ErrE.bad en (by rw [HQE.out, hse, ho]) hnn HLq.out)
        · have y4 : w7.cell? ⟨gz, 4, none⟩ = some (.int .i64 h0) := HZB.out.cell 4 _ rfl
          have y5 : w7.cell? ⟨gz, 5, none⟩ = some (.int .i64 h1) := HZB.out.cell 5 _ rfl
          have y6 : w7.cell? ⟨gz, 6, none⟩ = some (.string h2) := HZB.out.cell 6 _ rfl
          have HBq := Lib.hid (three_blk HBR.out rfl (.int .i64 h0) (.int .i64 h1) (.string h2))
          have HLq := Lib.hid (three_later HLW.out hgw (.int .i64 h0) (.int .i64 h1) (.string h2))
          obtain ⟨wq, hwq⟩ : ∃ x, (((w7.setCell ⟨g1, 0, none⟩ (.int .i64 h0)).setCell ⟨g1, 1, none⟩ (.int .i64 h1)).setCell ⟨g1, 2, none⟩ (.string h2)) = x := ⟨_, rfl⟩
          rw [hwq] at HBq HLq
          go_wp2_with fail
          have q0 := HBq.out.cell 0 _ rfl
          have q1 := HBq.out.cell 1 _ rfl
          have q2 := HBq.out.cell 2 _ rfl
          exact bodyPost_ret (v := .tuple #[.agg #[.int .i64 h0, .int .i64 h1, .string h2], .int .i64 0]) (by simp [results, Tryd.results42, go_sem, q0, q1, q2]) rfl (ErrE.good h0 h1 h2 (by rw [HQE.out]; show Except.ok (leastV (-1) Q) = _; rw [HHI.out]) HLq.out)
        · have y1 : w7.cell? ⟨gz, 1, none⟩ = some (.int .i64 l0) := HZB.out.cell 1 _ rfl
          have y2 : w7.cell? ⟨gz, 2, none⟩ = some (.int .i64 l1) := HZB.out.cell 2 _ rfl
          have y3 : w7.cell? ⟨gz, 3, none⟩ = some (.string l2) := HZB.out.cell 3 _ rfl
          have HBq := Lib.hid (three_blk HBR.out rfl (.int .i64 l0) (.int .i64 l1) (.string l2))
          have HLq := Lib.hid (three_later HLW.out hgw (.int .i64 l0) (.int .i64 l1) (.string l2))
          obtain ⟨wq, hwq⟩ : ∃ x, (((w7.setCell ⟨g1, 0, none⟩ (.int .i64 l0)).setCell ⟨g1, 1, none⟩ (.int .i64 l1)).setCell ⟨g1, 2, none⟩ (.string l2)) = x := ⟨_, rfl⟩
          rw [hwq] at HBq HLq
          go_wp2_with fail
          have q0 := HBq.out.cell 0 _ rfl
          have q1 := HBq.out.cell 1 _ rfl
          have q2 := HBq.out.cell 2 _ rfl
          exact bodyPost_ret (v := .tuple #[.agg #[.int .i64 l0, .int .i64 l1, .string l2], .int .i64 0]) (by simp [results, Tryd.results42, go_sem, q0, q1, q2]) rfl (ErrE.good l0 l1 l2 (by rw [HQE.out]; show Except.ok (leastV 1 Q) = _; rw [HLO.out]) HLq.out)
end Go.Proofs.YtkdpjocglfephaaDoor
