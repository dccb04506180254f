
import Derived.Test.YtkdpjocglfephaaDoorPredB
import Derived.Test.YtkdpjocglfephaaDoorBase
import Derived.Test.YtkdpjocglfephaaDoorZoneM
import Derived.Deep.CutBlock
import Derived.Deep.CutRange
import Derived.WalkKit
import Derived.Laws.OwnMore
import Derived.Laws.BytesArg
import Derived.Laws.Rows
import Derived.Deep.AppendLies
import Derived.Deep.Draws
import Derived.Test.YtkdpjocglfephaaDoorChecked
import Derived.Deep.OwnRows
import Derived.Lib.Hide
import Derived.Deep.Quiet
import Derived.Laws.AppendOwnNone
import Derived.Lib.Strings
import Derived.Outline
import Derived.WalkLawsBesides
import Derived.WalkSpells
import Derived.PlainAid
import Derived.Deep.QuietTactic
import Derived.BigQuiet
import Derived.RegionTactic
import Derived.BigRegion
import Derived.Handy
import Derived.Laws.BitsAllLaws
import Derived.Deep.RegionWith
import Derived.Lib.AppendStr
import Derived.Deep.RegionLaw
import Derived.Maps.AppendAt
import Derived.OpenShut
import Derived.WideShapes
import Derived.ChangeArms
import Derived.Deep.Slices
import Derived.Sort.Grow
import Derived.LaidEql
import Derived.Stop.Asserts
import Derived.RowKitTokens
import Derived.OrdersHeld
import Derived.Laws.BitsLemmas
import Derived.Laws.Bits64
import Derived.WalkSmall
import Derived.Stop.IfaceNil
import Derived.Lib.Bytealg
import Derived.Deep.SlicePairs
import Derived.Test.YtkdpjocglfephaaDoorShelf
import Derived.Deep.RegionHeld3
/- The document's Of: a zone of values. (tools/gen_refof.py) -/






namespace Go.Proofs.YtkdpjocglfephaaDoor
open Go.RowKit
set_option linter.unusedVariables false

abbrev z3 : Val3 := (0, 0, ⟨#[]⟩)
theorem leastN_app (sg : Int) (P : List Val3) (x : Val3) : ∀ k, k ≤ P.length → leastN sg (P ++ [x]) k = leastN sg P k
  | 0, _ => rfl
  | k + 1, hk => by
    have hk' : k < P.length := hk
    rw [leastN_succ sg P k hk', leastN_succ sg (P ++ [x]) k (by rw [List.length_append]; omega), leastN_app sg P x k (by omega), List.getElem_append_left hk']
theorem leastV_snoc (sg : Int) (P : List Val3) (x : Val3) : leastV sg (P ++ [x]) = if P = [] ∨ sg * cmp3 x (leastV sg P) < 0 then x else leastV sg P := by
  unfold leastV
  have hl : P.length < (P ++ [x]).length := by simp
  rw [show (P ++ [x]).length = P.length + 1 by simp, leastN_succ sg _ _ hl, leastN_app sg P x _ (Nat.le_refl _)]
  unfold lstep
  have e : (P ++ [x])[P.length]'hl = x := by simp
  rw [e]
  by_cases h : P = []
  · subst h; rw [if_pos (.inl rfl), if_pos (.inl rfl)]
  · have h0 : P.length ≠ 0 := fun e => h (List.eq_nil_of_length_eq_zero e)
    by_cases h1 : sg * cmp3 x (leastN sg P P.length) < 0
    · rw [if_pos (.inr h1), if_pos (.inr h1)]
    · rw [if_neg (by rintro (h2 | h2); exact h0 h2; exact h1 h2), if_neg (by rintro (h2 | h2); exact h h2; exact h1 h2)]
/-- The values that are there. -/
def someV (l : List Val3) : List Val3 := l.filter fun x => decide (x.1 ≠ 0)
theorem someV_snoc (l : List Val3) (x : Val3) : someV (l ++ [x]) = someV l ++ (if x.1 = 0 then [] else [x]) := by
  unfold someV
  rw [List.filter_append]
  by_cases e : x.1 = 0
  · rw [if_pos e, List.filter_cons_of_neg (by simp [e]), List.filter_nil]
  · rw [if_neg e, List.filter_cons_of_pos (by simp [e]), List.filter_nil]
theorem someV_len (l : List Val3) : (someV l).length ≤ l.length := List.length_filter_le _ _
/-- A zone's cells. -/
def zcells (n : Int) (a b : Val3) : List Value := [.int .i64 n, .int .i64 a.1, .int .i64 a.2.1, .string a.2.2, .int .i64 b.1, .int .i64 b.2.1, .string b.2.2]
theorem zone_null {w : World} {g : Nat} {n : Int} {a b : Val3} {T : TypeId} (h : Blk w g (zcells n a b).toArray T) (m : Int) : Blk (w.setCell ⟨g, 0, none⟩ (.int .i64 m)) g (zcells m a b).toArray T := h.set_ 0 _
theorem zone_min {w : World} {g : Nat} {n : Int} {a b : Val3} {T : TypeId} (h : Blk w g (zcells n a b).toArray T) (x : Val3) : Blk (((w.setCell ⟨g, 1, none⟩ (.int .i64 x.1)).setCell ⟨g, 2, none⟩ (.int .i64 x.2.1)).setCell ⟨g, 3, none⟩ (.string x.2.2)) g (zcells n x b).toArray T := ((h.set_ 1 _).set_ 2 _).set_ 3 _
theorem zone_max {w : World} {g : Nat} {n : Int} {a b : Val3} {T : TypeId} (h : Blk w g (zcells n a b).toArray T) (x : Val3) : Blk (((w.setCell ⟨g, 4, none⟩ (.int .i64 x.1)).setCell ⟨g, 5, none⟩ (.int .i64 x.2.1)).setCell ⟨g, 6, none⟩ (.string x.2.2)) g (zcells n a x).toArray T := ((h.set_ 4 _).set_ 5 _).set_ 6 _
theorem later_set {w wr : World} (h : Later w wr) {g : Nat} (hg : w.heap.size ≤ g) (k : Nat) (v : Value) : Later w (wr.setCell ⟨g, k, none⟩ v) := Later.of (h.below.setCell (p := ⟨g, k, none⟩) hg v)
/-- Where the loop stands. -/
def OfR (l : List Val3) (w : World) (sv iv : Value) (wr : World) : Prop :=
  ∃ (k : Nat) (b : Bool), sv = .bool b ∧ iv = .int .i64 k ∧ k ≤ l.length ∧ (b = true ↔ someV (l.take k) ≠ []) ∧ Blk wr (w.heap.size + 1) (zcells ((k : Int) - ((someV (l.take k)).length : Int)) (leastV 1 (someV (l.take k))) (leastV (-1) (someV (l.take k)))).toArray 50 ∧ Blk wr w.heap.size (zcells 0 z3 z3).toArray 50 ∧ Later w wr
theorem OfR.mk {l : List Val3} {w wr : World} (y : Int) (k : Nat) (b : Bool) (hy : y = (k : Int)) (hk : k ≤ l.length) (hb : b = true ↔ someV (l.take k) ≠ []) (Z : Blk wr (w.heap.size + 1) (zcells ((k : Int) - ((someV (l.take k)).length : Int)) (leastV 1 (someV (l.take k))) (leastV (-1) (someV (l.take k)))).toArray 50) (R : Blk wr w.heap.size (zcells 0 z3 z3).toArray 50) (L : Later w wr) : OfR l w (.bool b) (.int .i64 y) wr := by
  subst hy; exact ⟨k, b, rfl, rfl, hk, hb, Z, R, L⟩
/-- What Of gives. -/
def ZoneP (l : List Val3) (w : World) (e : Ending) (w' : World) : Prop :=
  e = .returned (.agg (zcells ((l.length : Int) - ((someV l).length : Int)) (leastV 1 (someV l)) (leastV (-1) (someV l))).toArray) ∧ Later w w'

set_option maxRecDepth 100000 in
set_option maxHeartbeats 4000000 in
theorem refOf_any (A : Option Addr) (n c : Nat) (l : List Val3) (w : World) (hn : n = l.length) (hl : l.length ≤ 100000) (hr : Has w A (fl l)) :
    Calls Tryd.prog 10 #[.slice A n c] w (ZoneP l w) := by
  subst hn
  have HR := Lib.hid hr
  have R0 : Blk ((w.alloc (.cells (zcells 0 z3 z3).toArray 50)).alloc (.cells (zcells 0 z3 z3).toArray 50)) w.heap.size (zcells 0 z3 z3).toArray 50 := (Blk.new w _ _ _ rfl).later (Later.new _ _)
  have Z0 : Blk ((w.alloc (.cells (zcells 0 z3 z3).toArray 50)).alloc (.cells (zcells 0 z3 z3).toArray 50)) (w.heap.size + 1) (zcells 0 z3 z3).toArray 50 := Blk.new _ _ _ _ (by simp)
  have HI0 := Lib.hid (OfR.mk (l := l) (w := w) 0 0 false rfl (Nat.zero_le _) (by simp [someV]) Z0 R0 ((Later.new w _).alloc _))
  clear hr R0 Z0
  go_enter Tryd.func10, Tryd.ntmps10
  go_wp2_with fail
  go_loopw [4, 5] (fun sv iv wr => OfR l w sv iv wr) (fun _ i _ => l.length - (intOf i).toNat)
  case atStart => exact HI0.out
  case round =>
    obtain ⟨k, b, rfl, rfl, hk, hb, hz, hres, lat⟩ := hrel
    have HB := Lib.hid hb
    have HZ := Lib.hid hz
    have HRES := Lib.hid hres
    have HLAT := Lib.hid lat
    obtain ⟨gr, hgr⟩ : ∃ g, g = w.heap.size := ⟨_, rfl⟩
    obtain ⟨gz, hgz⟩ : ∃ g, g = w.heap.size + 1 := ⟨_, rfl⟩
    have HGR := Lib.hid hgr
    have HGZ := Lib.hid hgz
    rw [← hgz] at HZ ⊢
    rw [← hgr] at HRES ⊢
    have HNE := Lib.hid (show gr ≠ gz by omega)
    have HGW := Lib.hid (show w.heap.size ≤ gz by omega)
    clear HI0 hb hz hres hgr hgz
    by_cases hlt : k < l.length
    · have hkz : (k : Int) < (l.length : Int) := by omega
      obtain ⟨bb, off, hA, c0, c1, c2⟩ := HR.out.val3 k hlt
      subst hA
      have HBZ := Lib.hid (show bb ≠ gz from by have h1 : bb < w.heap.size := block_lt_of_cell c0; have h2 : gz = w.heap.size + 1 := HGZ.out; omega)
      replace c0 := lat.cell c0
      replace c1 := lat.cell c1
      replace c2 := lat.cell c2
      have HX := Lib.hid (show someV (l.take (k + 1)) = someV (l.take k) ++ (if l[k].1 = 0 then [] else [(l[k].1, l[k].2.1, l[k].2.2)]) from by rw [List.take_succ_eq_append_getElem hlt, someV_snoc])
      have HPL := Lib.hid (show (someV (l.take k)).length ≤ k from Nat.le_trans (someV_len _) (by rw [List.length_take]; omega))
      generalize l[k].1 = t at c0 HX
      generalize l[k].2.1 = i at c1 HX
      generalize l[k].2.2 = s at c2 HX
      have hkb : (k : Int) ≤ 100000 := by omega
      obtain ⟨P, hP⟩ : ∃ P, someV (l.take k) = P := ⟨_, rfl⟩
      rw [hP] at HB HZ HX HPL
      clear lat hP
      by_cases ht : t = 0
      · have htb : (t == 0) = true := by simp [ht]
        have HX2 := Lib.hid (show someV (l.take (k + 1)) = P from by rw [HX.out, if_pos ht, List.append_nil])
        obtain ⟨m, hm⟩ : ∃ m, (k : Int) - (P.length : Int) = m := ⟨_, rfl⟩
        rw [hm] at HZ
        have hwm : IntKind.i64.wrap (m + 1) = m + 1 := IntWalk.i64_in _ ⟨by have := HPL.out; omega, by have := HPL.out; omega⟩
        have HMM := Lib.hid (show ((k + 1 : Nat) : Int) - (P.length : Int) = m + 1 by omega)
        have y0 : wr.cell? ⟨gz, 0, none⟩ = some (.int .i64 m) := HZ.out.cell 0 _ rfl
        have f0 := HZ.out.frozen 0
        have HZ2 := Lib.hid (zone_null HZ.out (m + 1))
        have HR2 := Lib.hid (HRES.out.far (p := ⟨gz, 0, none⟩) HNE.out (.int .i64 (m + 1)))
        have HL2 := Lib.hid (later_set HLAT.out HGW.out 0 (.int .i64 (m + 1)))
        clear hm ht c1 c2
        go_wp2_with fail
        go_roundw
        case rel =>
          rw [HGR.out] at HR2
          rw [HGZ.out] at HZ2
          rw [HGZ.out] at HR2 HL2 ⊢
          exact OfR.mk _ (k + 1) _ (by go_num) hlt (by rw [HX2.out]; exact HB.out) (by rw [HX2.out, HMM.out]; exact HZ2.out) HR2.out HL2.out
        case measure => simp [intOf]; omega
      · have htb : (t == 0) = false := by simp [ht]
        have HX2 := Lib.hid (show someV (l.take (k + 1)) = P ++ [(t, i, s)] from by rw [HX.out, if_neg ht])
        have HMM := Lib.hid (show ((k + 1 : Nat) : Int) - ((P ++ [(t, i, s)]).length : Int) = (k : Int) - (P.length : Int) by rw [List.length_append, List.length_singleton]; omega)
        have HMIN := Lib.hid (leastV_snoc 1 P (t, i, s))
        have HMAX := Lib.hid (leastV_snoc (-1) P (t, i, s))
        generalize (k : Int) - (P.length : Int) = m at HZ HMM
        have HX0 := Lib.hid (show CellIs wr _ _ from c0)
        have HX1 := Lib.hid (show CellIs wr _ _ from c1)
        have HX2c := Lib.hid (show CellIs wr _ _ from c2)
        have HN0 := Lib.hid (show (k : Nat) + 1 ≤ l.length from hlt)
        obtain ⟨lo, hlo⟩ : ∃ x, leastV 1 P = x := ⟨_, rfl⟩
        obtain ⟨hi, hhi⟩ : ∃ x, leastV (-1) P = x := ⟨_, rfl⟩
        rw [hlo, hhi] at HZ
        rw [hlo] at HMIN
        rw [hhi] at HMAX
        clear hlo hhi HX HPL c0 c1 c2
        obtain ⟨l0, l1, l2⟩ := lo
        obtain ⟨h0, h1, h2⟩ := hi
        have HSB := Lib.hid (show b = false → P = [] from fun h => by
          by_cases h1 : P = []
          · exact h1
          · rw [HB.out.2 h1] at h; cases h)
        have HSN := Lib.hid (show b = true → P ≠ [] from HB.out.1)
        obtain ⟨v1, hv1⟩ : ∃ v, cmp3 (t, i, s) (l0, l1, l2) = v := ⟨_, rfl⟩
        obtain ⟨v2, hv2⟩ : ∃ v, cmp3 (t, i, s) (h0, h1, h2) = v := ⟨_, rfl⟩
        have hv1x : cmpV t i s l0 l1 l2 = v1 := hv1
        have hv2x : cmpV t i s h0 h1 h2 = v2 := hv2
        have HC1 := Lib.hid (fun (W : World) (l : Later wr W) => (hv1x ▸ refCmp_any t i s l0 l1 l2 W))
        have HC2 := Lib.hid (fun (W : World) => hv2x ▸ refCmp_any t i s h0 h1 h2 W)
        rw [hv1] at HMIN
        rw [hv2] at HMAX
        obtain ⟨q1, hq1⟩ : ∃ q : Bool, q = (!b || decide (v1 < 0)) := ⟨_, rfl⟩
        obtain ⟨q2, hq2⟩ : ∃ q : Bool, q = (!b || decide (0 < v2)) := ⟨_, rfl⟩
        have HQ1 := Lib.hid hq1
        have HQ2 := Lib.hid hq2
        have HM1 := Lib.hid (show leastV 1 (P ++ [(t, i, s)]) = if q1 = true then (t, i, s) else (l0, l1, l2) from by
          rw [HMIN.out]
          cases b with
          | false => rw [if_pos (.inl (HSB.out rfl)), if_pos (by rw [hq1]; rfl)]
          | true =>
            have hp := HSN.out rfl
            by_cases h : v1 < 0
            · rw [if_pos (.inr (by omega)), if_pos (by rw [hq1]; simp [h])]
            · rw [if_neg (by rintro (h2 | h2); exact hp h2; omega), if_neg (by rw [hq1]; simp; omega)])
        have HM2 := Lib.hid (show leastV (-1) (P ++ [(t, i, s)]) = if q2 = true then (t, i, s) else (h0, h1, h2) from by
          rw [HMAX.out]
          cases b with
          | false => rw [if_pos (.inl (HSB.out rfl)), if_pos (by rw [hq2]; rfl)]
          | true =>
            have hp := HSN.out rfl
            by_cases h : 0 < v2
            · rw [if_pos (.inr (by omega)), if_pos (by rw [hq2]; simp [h])]
            · rw [if_neg (by rintro (h2 | h2); exact hp h2; omega), if_neg (by rw [hq2]; simp; omega)])
        clear hv1 hv2 hv1x hv2x hq1 hq2 HMIN HMAX HSB HSN HB ht
        have e0 := HX0.out.out
        go_upto_region 8 with fail
        clear e0
        go_cut [34] from 23 to 34 (fun cv wx => cv = .bool q1 ∧ Later wr wx)
        case first => as_aux_lemma =>
          rcases b with _ | _
          · have hq := HQ1.out
            rw [show (!false || _) = true from rfl] at hq
            subst hq
            refine wp_region_K (S := fun W : World => Later wr W) (R := Later) (fun _ => Later.refl _) (by kernel_rfl) ?_
            have hS : (fun W : World => Later wr W) wr.drew := (Later.refl wr).drew
            refine wpAnyK_take Later.refl (fun _ _ _ h k => h.trans k) (fun _ _ h k => h.trans k) (i := 0) (oi := { dst := some 23, op := _, type := _, pos := _, after := _, guard := _ }) (v := ?_) rfl (by kernel_rfl) (by kernel_rfl) (by kernel_rfl) (fun _ _ _ h => h) (Or.inl (Or.inl ⟨by rfl, ?_⟩)) hS ?_
            rotate_left
            focus ((intro w hSw; (try dsimp only at hSw); skip; go_simp); (try with_reducible rfl))
            intro wq hwq
            replace hS := hS.trans hwq
            (try simp only [Act.put, List.setIfInBounds_toArray, List.set_cons_zero, List.set_cons_succ])
            clear hwq
            refine wpAnyK_take Later.refl (fun _ _ _ h k => h.trans k) (fun _ _ h k => h.trans k) (i := 1) (oi := { dst := some 24, op := _, type := _, pos := _, after := _, guard := _ }) (v := ?_) rfl (by kernel_rfl) (by kernel_rfl) (by kernel_rfl) (fun _ _ _ h => h) (Or.inl (Or.inl ⟨by rfl, ?_⟩)) hS ?_
            rotate_left
            focus ((intro w hSw; (try dsimp only at hSw); skip; go_simp); (try with_reducible rfl))
            intro wq hwq
            replace hS := hS.trans hwq
            (try simp only [Act.put, List.setIfInBounds_toArray, List.set_cons_zero, List.set_cons_succ])
            clear hwq
            refine wpAnyK_take Later.refl (fun _ _ _ h k => h.trans k) (fun _ _ h k => h.trans k) (i := 2) (oi := { dst := some 25, op := _, type := _, pos := _, after := _, guard := _ }) (v := ?_) rfl (by kernel_rfl) (by kernel_rfl) (by kernel_rfl) (fun _ _ _ h => h) (Or.inl (Or.inl ⟨by rfl, ?_⟩)) hS ?_
            rotate_left
            focus ((intro w hSw; (try dsimp only at hSw); skip; go_simp); (try with_reducible rfl))
            intro wq hwq
            replace hS := hS.trans hwq
            (try simp only [Act.put, List.setIfInBounds_toArray, List.set_cons_zero, List.set_cons_succ])
            clear hwq
            refine wpAnyK_take Later.refl (fun _ _ _ h k => h.trans k) (fun _ _ h k => h.trans k) (i := 3) (oi := { dst := some 26, op := _, type := _, pos := _, after := _, guard := _ }) (v := undef) rfl (by kernel_rfl) (by kernel_rfl) (by kernel_rfl) (fun _ _ _ h => h) (Or.inl (Or.inr ⟨by rfl, rfl⟩)) hS ?_
            intro wq hwq
            replace hS := hS.trans hwq
            (try simp only [Act.put, List.setIfInBounds_toArray, List.set_cons_zero, List.set_cons_succ])
            clear hwq
            refine wpAnyK_take Later.refl (fun _ _ _ h k => h.trans k) (fun _ _ h k => h.trans k) (i := 4) (oi := { dst := some 27, op := _, type := _, pos := _, after := _, guard := _ }) (v := undef) rfl (by kernel_rfl) (by kernel_rfl) (by kernel_rfl) (fun _ _ _ h => h) (Or.inl (Or.inr ⟨by rfl, rfl⟩)) hS ?_
            intro wq hwq
            replace hS := hS.trans hwq
            (try simp only [Act.put, List.setIfInBounds_toArray, List.set_cons_zero, List.set_cons_succ])
            clear hwq
            refine wpAnyK_take Later.refl (fun _ _ _ h k => h.trans k) (fun _ _ h k => h.trans k) (i := 5) (oi := { dst := some 28, op := _, type := _, pos := _, after := _, guard := _ }) (v := undef) rfl (by kernel_rfl) (by kernel_rfl) (by kernel_rfl) (fun _ _ _ h => h) (Or.inl (Or.inr ⟨by rfl, rfl⟩)) hS ?_
            intro wq hwq
            replace hS := hS.trans hwq
            (try simp only [Act.put, List.setIfInBounds_toArray, List.set_cons_zero, List.set_cons_succ])
            clear hwq
            refine wpAnyK_take Later.refl (fun _ _ _ h k => h.trans k) (fun _ _ h k => h.trans k) (i := 6) (oi := { dst := some 29, op := _, type := _, pos := _, after := _, guard := _ }) (v := undef) rfl (by kernel_rfl) (by kernel_rfl) (by kernel_rfl) (fun _ _ _ h => h) (Or.inl (Or.inr ⟨by rfl, rfl⟩)) hS ?_
            intro wq hwq
            replace hS := hS.trans hwq
            (try simp only [Act.put, List.setIfInBounds_toArray, List.set_cons_zero, List.set_cons_succ])
            clear hwq
            refine wpAnyK_take Later.refl (fun _ _ _ h k => h.trans k) (fun _ _ h k => h.trans k) (i := 7) (oi := { dst := some 30, op := _, type := _, pos := _, after := _, guard := _ }) (v := undef) rfl (by kernel_rfl) (by kernel_rfl) (by kernel_rfl) (fun _ _ _ h => h) (Or.inl (Or.inr ⟨by rfl, rfl⟩)) hS ?_
            intro wq hwq
            replace hS := hS.trans hwq
            (try simp only [Act.put, List.setIfInBounds_toArray, List.set_cons_zero, List.set_cons_succ])
            clear hwq
            refine wpAnyK_take Later.refl (fun _ _ _ h k => h.trans k) (fun _ _ h k => h.trans k) (i := 8) (oi := { dst := some 31, op := _, type := _, pos := _, after := _, guard := _ }) (v := undef) rfl (by kernel_rfl) (by kernel_rfl) (by kernel_rfl) (fun _ _ _ h => h) (Or.inl (Or.inr ⟨by rfl, rfl⟩)) hS ?_
            intro wq hwq
            replace hS := hS.trans hwq
            (try simp only [Act.put, List.setIfInBounds_toArray, List.set_cons_zero, List.set_cons_succ])
            clear hwq
            refine wpAnyK_take Later.refl (fun _ _ _ h k => h.trans k) (fun _ _ h k => h.trans k) (i := 9) (oi := { dst := some 32, op := _, type := _, pos := _, after := _, guard := _ }) (v := undef) rfl (by kernel_rfl) (by kernel_rfl) (by kernel_rfl) (fun _ _ _ h => h) (Or.inl (Or.inr ⟨by rfl, rfl⟩)) hS ?_
            intro wq hwq
            replace hS := hS.trans hwq
            (try simp only [Act.put, List.setIfInBounds_toArray, List.set_cons_zero, List.set_cons_succ])
            clear hwq
            refine wpAnyK_take Later.refl (fun _ _ _ h k => h.trans k) (fun _ _ h k => h.trans k) (i := 10) (oi := { dst := some 33, op := _, type := _, pos := _, after := _, guard := _ }) (v := undef) rfl (by kernel_rfl) (by kernel_rfl) (by kernel_rfl) (fun _ _ _ h => h) (Or.inl (Or.inr ⟨by rfl, rfl⟩)) hS ?_
            intro wq hwq
            replace hS := hS.trans hwq
            (try simp only [Act.put, List.setIfInBounds_toArray, List.set_cons_zero, List.set_cons_succ])
            clear hwq
            refine wpAnyK_take Later.refl (fun _ _ _ h k => h.trans k) (fun _ _ h k => h.trans k) (i := 11) (oi := { dst := some 34, op := _, type := _, pos := _, after := _, guard := _ }) (v := ?_) rfl (by kernel_rfl) (by kernel_rfl) (by kernel_rfl) (fun _ _ _ h => h) (Or.inl (Or.inl ⟨by rfl, ?_⟩)) hS ?_
            rotate_left
            focus ((intro w hSw; (try dsimp only at hSw); skip; go_simp); (try with_reducible rfl))
            intro wq hwq
            replace hS := hS.trans hwq
            (try simp only [Act.put, List.setIfInBounds_toArray, List.set_cons_zero, List.set_cons_succ])
            clear hwq
            refine wpAnyK_done (by kernel_rfl) ?_ _
            go_wp2_with fail
            go_meet
            exact ⟨rfl, hS⟩
          · have hq : _ = q1 := (show _ = (!true || _) from HQ1.out).symm
            rw [show (!true) = false from rfl, Bool.false_or] at hq
            have HQD := Lib.hid hq
            clear hq
            refine wp_region_K (S := fun W : World => Later wr W) (R := Later) (fun _ => Later.refl _) (by kernel_rfl) ?_
            have hS : (fun W : World => Later wr W) wr.drew := (Later.refl wr).drew
            refine wpAnyK_take Later.refl (fun _ _ _ h k => h.trans k) (fun _ _ h k => h.trans k) (i := 0) (oi := { dst := some 23, op := _, type := _, pos := _, after := _, guard := _ }) (v := ?_) rfl (by kernel_rfl) (by kernel_rfl) (by kernel_rfl) (fun _ _ _ h => h) (Or.inl (Or.inl ⟨by rfl, ?_⟩)) hS ?_
            rotate_left
            focus ((intro w hSw; (try dsimp only at hSw); skip; go_simp); (try with_reducible rfl))
            intro wq hwq
            replace hS := hS.trans hwq
            (try simp only [Act.put, List.setIfInBounds_toArray, List.set_cons_zero, List.set_cons_succ])
            clear hwq
            refine wpAnyK_take Later.refl (fun _ _ _ h k => h.trans k) (fun _ _ h k => h.trans k) (i := 1) (oi := { dst := some 24, op := _, type := _, pos := _, after := _, guard := _ }) (v := ?_) rfl (by kernel_rfl) (by kernel_rfl) (by kernel_rfl) (fun _ _ _ h => h) (Or.inl (Or.inl ⟨by rfl, ?_⟩)) hS ?_
            rotate_left
            focus ((intro w hSw; (try dsimp only at hSw); skip; go_simp); (try with_reducible rfl))
            intro wq hwq
            replace hS := hS.trans hwq
            (try simp only [Act.put, List.setIfInBounds_toArray, List.set_cons_zero, List.set_cons_succ])
            clear hwq
            refine wpAnyK_take Later.refl (fun _ _ _ h k => h.trans k) (fun _ _ h k => h.trans k) (i := 2) (oi := { dst := some 25, op := _, type := _, pos := _, after := _, guard := _ }) (v := ?_) rfl (by kernel_rfl) (by kernel_rfl) (by kernel_rfl) (fun _ _ _ h => h) (Or.inl (Or.inl ⟨by rfl, ?_⟩)) hS ?_
            rotate_left
            focus ((intro w hSw; (try dsimp only at hSw); skip; go_simp); (try with_reducible rfl))
            intro wq hwq
            replace hS := hS.trans hwq
            (try simp only [Act.put, List.setIfInBounds_toArray, List.set_cons_zero, List.set_cons_succ])
            clear hwq
            refine wpAnyK_take Later.refl (fun _ _ _ h k => h.trans k) (fun _ _ h k => h.trans k) (i := 3) (oi := { dst := some 26, op := _, type := _, pos := _, after := _, guard := _ }) (v := ?_) rfl (by kernel_rfl) (by kernel_rfl) (by kernel_rfl) (fun _ _ _ h => h) (Or.inl (Or.inl ⟨by rfl, ?_⟩)) hS ?_
            rotate_left
            focus ((intro w hSw; (try dsimp only at hSw); skip; go_simp); (try with_reducible rfl))
            intro wq hwq
            replace hS := hS.trans hwq
            (try simp only [Act.put, List.setIfInBounds_toArray, List.set_cons_zero, List.set_cons_succ])
            clear hwq
            refine wpAnyK_take Later.refl (fun _ _ _ h k => h.trans k) (fun _ _ h k => h.trans k) (i := 4) (oi := { dst := some 27, op := _, type := _, pos := _, after := _, guard := _ }) (v := ?_) rfl (by kernel_rfl) (by kernel_rfl) (by kernel_rfl) (fun _ _ _ h => h) (Or.inl (Or.inl ⟨by rfl, ?_⟩)) hS ?_
            rotate_left
            focus ((intro w hSw; (try dsimp only at hSw); skip; go_simp); (try with_reducible rfl))
            intro wq hwq
            replace hS := hS.trans hwq
            (try simp only [Act.put, List.setIfInBounds_toArray, List.set_cons_zero, List.set_cons_succ])
            clear hwq
            refine wpAnyK_take Later.refl (fun _ _ _ h k => h.trans k) (fun _ _ h k => h.trans k) (i := 5) (oi := { dst := some 28, op := _, type := _, pos := _, after := _, guard := _ }) (v := ?_) rfl (by kernel_rfl) (by kernel_rfl) (by kernel_rfl) (fun _ _ _ h => h) (Or.inl (Or.inl ⟨by rfl, ?_⟩)) hS ?_
            rotate_left
            focus ((intro w hSw; (try dsimp only at hSw); skip; go_simp); (try with_reducible rfl))
            intro wq hwq
            replace hS := hS.trans hwq
            (try simp only [Act.put, List.setIfInBounds_toArray, List.set_cons_zero, List.set_cons_succ])
            clear hwq
            refine wpAnyK_take Later.refl (fun _ _ _ h k => h.trans k) (fun _ _ h k => h.trans k) (i := 6) (oi := { dst := some 29, op := _, type := _, pos := _, after := _, guard := _ }) (v := ?_) rfl (by kernel_rfl) (by kernel_rfl) (by kernel_rfl) (fun _ _ _ h => h) (Or.inl (Or.inl ⟨by rfl, ?_⟩)) hS ?_
            rotate_left
            focus ((intro w hSw; (try dsimp only at hSw); have e0 := HX0.out.later hSw; have e0 := e0.out; have e1 := HX1.out.later hSw; have e1 := e1.out; have e2 := HX2c.out.later hSw; have e2 := e2.out; go_simp); (try with_reducible rfl))
            intro wq hwq
            replace hS := hS.trans hwq
            (try simp only [Act.put, List.setIfInBounds_toArray, List.set_cons_zero, List.set_cons_succ])
            clear hwq
            refine wpAnyK_take Later.refl (fun _ _ _ h k => h.trans k) (fun _ _ h k => h.trans k) (i := 7) (oi := { dst := some 30, op := _, type := _, pos := _, after := _, guard := _ }) (v := ?_) rfl (by kernel_rfl) (by kernel_rfl) (by kernel_rfl) (fun _ _ _ h => h) (Or.inl (Or.inl ⟨by rfl, ?_⟩)) hS ?_
            rotate_left
            focus ((intro w hSw; (try dsimp only at hSw); skip; go_simp); (try with_reducible rfl))
            intro wq hwq
            replace hS := hS.trans hwq
            (try simp only [Act.put, List.setIfInBounds_toArray, List.set_cons_zero, List.set_cons_succ])
            clear hwq
            refine wpAnyK_take Later.refl (fun _ _ _ h k => h.trans k) (fun _ _ h k => h.trans k) (i := 8) (oi := { dst := some 31, op := _, type := _, pos := _, after := _, guard := _ }) (v := ?_) rfl (by kernel_rfl) (by kernel_rfl) (by kernel_rfl) (fun _ _ _ h => h) (Or.inl (Or.inl ⟨by rfl, ?_⟩)) hS ?_
            rotate_left
            focus ((intro w hSw; (try dsimp only at hSw); have z1 : w.cell? ⟨gz, 1, none⟩ = some (.int .i64 l0) := (HZ.out.later hSw).cell 1 _ rfl; have z2 : w.cell? ⟨gz, 2, none⟩ = some (.int .i64 l1) := (HZ.out.later hSw).cell 2 _ rfl; have z3 : w.cell? ⟨gz, 3, none⟩ = some (.string l2) := (HZ.out.later hSw).cell 3 _ rfl; go_simp); (try with_reducible rfl))
            intro wq hwq
            replace hS := hS.trans hwq
            (try simp only [Act.put, List.setIfInBounds_toArray, List.set_cons_zero, List.set_cons_succ])
            clear hwq
            refine wpAnyK_take Later.refl (fun _ _ _ h k => h.trans k) (fun _ _ h k => h.trans k) (i := 9) (oi := { dst := some 32, op := _, type := _, pos := _, after := _, guard := _ }) (v := .int .i64 v1) rfl (by kernel_rfl) (by kernel_rfl) (by kernel_rfl) (fun _ _ _ h => h) (Or.inr ⟨by rfl, 26, #[.agg #[.int .i64 t, .int .i64 i, .string s], .agg #[.int .i64 l0, .int .i64 l1, .string l2]], fun W hW => ⟨?_, HC1.out W hW⟩⟩) hS ?_
            · first | rfl | (go_simp; done)
            intro wq hwq
            replace hS := hS.trans hwq
            (try simp only [Act.put, List.setIfInBounds_toArray, List.set_cons_zero, List.set_cons_succ])
            clear hwq
            refine wpAnyK_take Later.refl (fun _ _ _ h k => h.trans k) (fun _ _ h k => h.trans k) (i := 10) (oi := { dst := some 33, op := _, type := _, pos := _, after := _, guard := _ }) (v := ?_) rfl (by kernel_rfl) (by kernel_rfl) (by kernel_rfl) (fun _ _ _ h => h) (Or.inl (Or.inl ⟨by rfl, ?_⟩)) hS ?_
            rotate_left
            focus ((intro w hSw; (try dsimp only at hSw); have hd := HQD.out; go_simp); (try with_reducible rfl))
            intro wq hwq
            replace hS := hS.trans hwq
            (try simp only [Act.put, List.setIfInBounds_toArray, List.set_cons_zero, List.set_cons_succ])
            clear hwq
            refine wpAnyK_take Later.refl (fun _ _ _ h k => h.trans k) (fun _ _ h k => h.trans k) (i := 11) (oi := { dst := some 34, op := _, type := _, pos := _, after := _, guard := _ }) (v := ?_) rfl (by kernel_rfl) (by kernel_rfl) (by kernel_rfl) (fun _ _ _ h => h) (Or.inl (Or.inl ⟨by rfl, ?_⟩)) hS ?_
            rotate_left
            focus ((intro w hSw; (try dsimp only at hSw); skip; go_simp); (try with_reducible rfl))
            intro wq hwq
            replace hS := hS.trans hwq
            (try simp only [Act.put, List.setIfInBounds_toArray, List.set_cons_zero, List.set_cons_succ])
            clear hwq
            refine wpAnyK_done (by kernel_rfl) ?_ _
            go_wp2_with fail
            go_meet
            exact ⟨rfl, hS⟩
        case rest =>
        obtain ⟨rfl, lx⟩ := hcut
        have HZ := Lib.hid (HZ.out.later lx)
        have HRES := Lib.hid (HRES.out.later lx)
        have HX0 := Lib.hid (HX0.out.later lx)
        have HX1 := Lib.hid (HX1.out.later lx)
        have HX2c := Lib.hid (HX2c.out.later lx)
        have HLAT := Lib.hid (HLAT.out.trans lx)
        clear lx HC1 HQ1
        obtain ⟨wd, hwd⟩ : ∃ x, x = wc := ⟨_, rfl⟩
        subst hwd
        rcases q1 with _ | _
        · have HM1 := Lib.hid (show leastV 1 (P ++ [(t, i, s)]) = (l0, l1, l2) from HM1.out)
          go_upto_region 10 with fail
          obtain ⟨wn, hwn⟩ : ∃ x, x = wd := ⟨_, rfl⟩
          subst hwn
          go_cut [51] from 40 to 51 (fun cv wx => cv = .bool q2 ∧ Later wn wx)
          case first => as_aux_lemma =>
            rcases b with _ | _
            · have hq := HQ2.out
              rw [show (!false || _) = true from rfl] at hq
              subst hq
              refine wp_region_K (S := fun W : World => Later wn W) (R := Later) (fun _ => Later.refl _) (by kernel_rfl) ?_
              have hS : (fun W : World => Later wn W) wn.drew := (Later.refl wn).drew
              refine wpAnyK_take Later.refl (fun _ _ _ h k => h.trans k) (fun _ _ h k => h.trans k) (i := 0) (oi := { dst := some 40, op := _, type := _, pos := _, after := _, guard := _ }) (v := ?_) rfl (by kernel_rfl) (by kernel_rfl) (by kernel_rfl) (fun _ _ _ h => h) (Or.inl (Or.inl ⟨by rfl, ?_⟩)) hS ?_
              rotate_left
              focus ((intro w hSw; (try dsimp only at hSw); skip; go_simp); (try with_reducible rfl))
              intro wq hwq
              replace hS := hS.trans hwq
              (try simp only [Act.put, List.setIfInBounds_toArray, List.set_cons_zero, List.set_cons_succ])
              clear hwq
              refine wpAnyK_take Later.refl (fun _ _ _ h k => h.trans k) (fun _ _ h k => h.trans k) (i := 1) (oi := { dst := some 41, op := _, type := _, pos := _, after := _, guard := _ }) (v := ?_) rfl (by kernel_rfl) (by kernel_rfl) (by kernel_rfl) (fun _ _ _ h => h) (Or.inl (Or.inl ⟨by rfl, ?_⟩)) hS ?_
              rotate_left
              focus ((intro w hSw; (try dsimp only at hSw); skip; go_simp); (try with_reducible rfl))
              intro wq hwq
              replace hS := hS.trans hwq
              (try simp only [Act.put, List.setIfInBounds_toArray, List.set_cons_zero, List.set_cons_succ])
              clear hwq
              refine wpAnyK_take Later.refl (fun _ _ _ h k => h.trans k) (fun _ _ h k => h.trans k) (i := 2) (oi := { dst := some 42, op := _, type := _, pos := _, after := _, guard := _ }) (v := ?_) rfl (by kernel_rfl) (by kernel_rfl) (by kernel_rfl) (fun _ _ _ h => h) (Or.inl (Or.inl ⟨by rfl, ?_⟩)) hS ?_
              rotate_left
              focus ((intro w hSw; (try dsimp only at hSw); skip; go_simp); (try with_reducible rfl))
              intro wq hwq
              replace hS := hS.trans hwq
              (try simp only [Act.put, List.setIfInBounds_toArray, List.set_cons_zero, List.set_cons_succ])
              clear hwq
              refine wpAnyK_take Later.refl (fun _ _ _ h k => h.trans k) (fun _ _ h k => h.trans k) (i := 3) (oi := { dst := some 43, op := _, type := _, pos := _, after := _, guard := _ }) (v := undef) rfl (by kernel_rfl) (by kernel_rfl) (by kernel_rfl) (fun _ _ _ h => h) (Or.inl (Or.inr ⟨by rfl, rfl⟩)) hS ?_
              intro wq hwq
              replace hS := hS.trans hwq
              (try simp only [Act.put, List.setIfInBounds_toArray, List.set_cons_zero, List.set_cons_succ])
              clear hwq
              refine wpAnyK_take Later.refl (fun _ _ _ h k => h.trans k) (fun _ _ h k => h.trans k) (i := 4) (oi := { dst := some 44, op := _, type := _, pos := _, after := _, guard := _ }) (v := undef) rfl (by kernel_rfl) (by kernel_rfl) (by kernel_rfl) (fun _ _ _ h => h) (Or.inl (Or.inr ⟨by rfl, rfl⟩)) hS ?_
              intro wq hwq
              replace hS := hS.trans hwq
              (try simp only [Act.put, List.setIfInBounds_toArray, List.set_cons_zero, List.set_cons_succ])
              clear hwq
              refine wpAnyK_take Later.refl (fun _ _ _ h k => h.trans k) (fun _ _ h k => h.trans k) (i := 5) (oi := { dst := some 45, op := _, type := _, pos := _, after := _, guard := _ }) (v := undef) rfl (by kernel_rfl) (by kernel_rfl) (by kernel_rfl) (fun _ _ _ h => h) (Or.inl (Or.inr ⟨by rfl, rfl⟩)) hS ?_
              intro wq hwq
              replace hS := hS.trans hwq
              (try simp only [Act.put, List.setIfInBounds_toArray, List.set_cons_zero, List.set_cons_succ])
              clear hwq
              refine wpAnyK_take Later.refl (fun _ _ _ h k => h.trans k) (fun _ _ h k => h.trans k) (i := 6) (oi := { dst := some 46, op := _, type := _, pos := _, after := _, guard := _ }) (v := undef) rfl (by kernel_rfl) (by kernel_rfl) (by kernel_rfl) (fun _ _ _ h => h) (Or.inl (Or.inr ⟨by rfl, rfl⟩)) hS ?_
              intro wq hwq
              replace hS := hS.trans hwq
              (try simp only [Act.put, List.setIfInBounds_toArray, List.set_cons_zero, List.set_cons_succ])
              clear hwq
              refine wpAnyK_take Later.refl (fun _ _ _ h k => h.trans k) (fun _ _ h k => h.trans k) (i := 7) (oi := { dst := some 47, op := _, type := _, pos := _, after := _, guard := _ }) (v := undef) rfl (by kernel_rfl) (by kernel_rfl) (by kernel_rfl) (fun _ _ _ h => h) (Or.inl (Or.inr ⟨by rfl, rfl⟩)) hS ?_
              intro wq hwq
              replace hS := hS.trans hwq
              (try simp only [Act.put, List.setIfInBounds_toArray, List.set_cons_zero, List.set_cons_succ])
              clear hwq
              refine wpAnyK_take Later.refl (fun _ _ _ h k => h.trans k) (fun _ _ h k => h.trans k) (i := 8) (oi := { dst := some 48, op := _, type := _, pos := _, after := _, guard := _ }) (v := undef) rfl (by kernel_rfl) (by kernel_rfl) (by kernel_rfl) (fun _ _ _ h => h) (Or.inl (Or.inr ⟨by rfl, rfl⟩)) hS ?_
              intro wq hwq
              replace hS := hS.trans hwq
              (try simp only [Act.put, List.setIfInBounds_toArray, List.set_cons_zero, List.set_cons_succ])
              clear hwq
              refine wpAnyK_take Later.refl (fun _ _ _ h k => h.trans k) (fun _ _ h k => h.trans k) (i := 9) (oi := { dst := some 49, op := _, type := _, pos := _, after := _, guard := _ }) (v := undef) rfl (by kernel_rfl) (by kernel_rfl) (by kernel_rfl) (fun _ _ _ h => h) (Or.inl (Or.inr ⟨by rfl, rfl⟩)) hS ?_
              intro wq hwq
              replace hS := hS.trans hwq
              (try simp only [Act.put, List.setIfInBounds_toArray, List.set_cons_zero, List.set_cons_succ])
              clear hwq
              refine wpAnyK_take Later.refl (fun _ _ _ h k => h.trans k) (fun _ _ h k => h.trans k) (i := 10) (oi := { dst := some 50, op := _, type := _, pos := _, after := _, guard := _ }) (v := undef) rfl (by kernel_rfl) (by kernel_rfl) (by kernel_rfl) (fun _ _ _ h => h) (Or.inl (Or.inr ⟨by rfl, rfl⟩)) hS ?_
              intro wq hwq
              replace hS := hS.trans hwq
              (try simp only [Act.put, List.setIfInBounds_toArray, List.set_cons_zero, List.set_cons_succ])
              clear hwq
              refine wpAnyK_take Later.refl (fun _ _ _ h k => h.trans k) (fun _ _ h k => h.trans k) (i := 11) (oi := { dst := some 51, op := _, type := _, pos := _, after := _, guard := _ }) (v := ?_) rfl (by kernel_rfl) (by kernel_rfl) (by kernel_rfl) (fun _ _ _ h => h) (Or.inl (Or.inl ⟨by rfl, ?_⟩)) hS ?_
              rotate_left
              focus ((intro w hSw; (try dsimp only at hSw); skip; go_simp); (try with_reducible rfl))
              intro wq hwq
              replace hS := hS.trans hwq
              (try simp only [Act.put, List.setIfInBounds_toArray, List.set_cons_zero, List.set_cons_succ])
              clear hwq
              refine wpAnyK_done (by kernel_rfl) ?_ _
              go_wp2_with fail
              go_meet
              exact ⟨rfl, hS⟩
            · have hq : _ = q2 := (show _ = (!true || _) from HQ2.out).symm
              rw [show (!true) = false from rfl, Bool.false_or] at hq
              have HQD := Lib.hid hq
              clear hq
              refine wp_region_K (S := fun W : World => Later wn W) (R := Later) (fun _ => Later.refl _) (by kernel_rfl) ?_
              have hS : (fun W : World => Later wn W) wn.drew := (Later.refl wn).drew
              refine wpAnyK_take Later.refl (fun _ _ _ h k => h.trans k) (fun _ _ h k => h.trans k) (i := 0) (oi := { dst := some 40, op := _, type := _, pos := _, after := _, guard := _ }) (v := ?_) rfl (by kernel_rfl) (by kernel_rfl) (by kernel_rfl) (fun _ _ _ h => h) (Or.inl (Or.inl ⟨by rfl, ?_⟩)) hS ?_
              rotate_left
              focus ((intro w hSw; (try dsimp only at hSw); skip; go_simp); (try with_reducible rfl))
              intro wq hwq
              replace hS := hS.trans hwq
              (try simp only [Act.put, List.setIfInBounds_toArray, List.set_cons_zero, List.set_cons_succ])
              clear hwq
              refine wpAnyK_take Later.refl (fun _ _ _ h k => h.trans k) (fun _ _ h k => h.trans k) (i := 1) (oi := { dst := some 41, op := _, type := _, pos := _, after := _, guard := _ }) (v := ?_) rfl (by kernel_rfl) (by kernel_rfl) (by kernel_rfl) (fun _ _ _ h => h) (Or.inl (Or.inl ⟨by rfl, ?_⟩)) hS ?_
              rotate_left
              focus ((intro w hSw; (try dsimp only at hSw); skip; go_simp); (try with_reducible rfl))
              intro wq hwq
              replace hS := hS.trans hwq
              (try simp only [Act.put, List.setIfInBounds_toArray, List.set_cons_zero, List.set_cons_succ])
              clear hwq
              refine wpAnyK_take Later.refl (fun _ _ _ h k => h.trans k) (fun _ _ h k => h.trans k) (i := 2) (oi := { dst := some 42, op := _, type := _, pos := _, after := _, guard := _ }) (v := ?_) rfl (by kernel_rfl) (by kernel_rfl) (by kernel_rfl) (fun _ _ _ h => h) (Or.inl (Or.inl ⟨by rfl, ?_⟩)) hS ?_
              rotate_left
              focus ((intro w hSw; (try dsimp only at hSw); skip; go_simp); (try with_reducible rfl))
              intro wq hwq
              replace hS := hS.trans hwq
              (try simp only [Act.put, List.setIfInBounds_toArray, List.set_cons_zero, List.set_cons_succ])
              clear hwq
              refine wpAnyK_take Later.refl (fun _ _ _ h k => h.trans k) (fun _ _ h k => h.trans k) (i := 3) (oi := { dst := some 43, op := _, type := _, pos := _, after := _, guard := _ }) (v := ?_) rfl (by kernel_rfl) (by kernel_rfl) (by kernel_rfl) (fun _ _ _ h => h) (Or.inl (Or.inl ⟨by rfl, ?_⟩)) hS ?_
              rotate_left
              focus ((intro w hSw; (try dsimp only at hSw); skip; go_simp); (try with_reducible rfl))
              intro wq hwq
              replace hS := hS.trans hwq
              (try simp only [Act.put, List.setIfInBounds_toArray, List.set_cons_zero, List.set_cons_succ])
              clear hwq
              refine wpAnyK_take Later.refl (fun _ _ _ h k => h.trans k) (fun _ _ h k => h.trans k) (i := 4) (oi := { dst := some 44, op := _, type := _, pos := _, after := _, guard := _ }) (v := ?_) rfl (by kernel_rfl) (by kernel_rfl) (by kernel_rfl) (fun _ _ _ h => h) (Or.inl (Or.inl ⟨by rfl, ?_⟩)) hS ?_
              rotate_left
              focus ((intro w hSw; (try dsimp only at hSw); skip; go_simp); (try with_reducible rfl))
              intro wq hwq
              replace hS := hS.trans hwq
              (try simp only [Act.put, List.setIfInBounds_toArray, List.set_cons_zero, List.set_cons_succ])
              clear hwq
              refine wpAnyK_take Later.refl (fun _ _ _ h k => h.trans k) (fun _ _ h k => h.trans k) (i := 5) (oi := { dst := some 45, op := _, type := _, pos := _, after := _, guard := _ }) (v := ?_) rfl (by kernel_rfl) (by kernel_rfl) (by kernel_rfl) (fun _ _ _ h => h) (Or.inl (Or.inl ⟨by rfl, ?_⟩)) hS ?_
              rotate_left
              focus ((intro w hSw; (try dsimp only at hSw); skip; go_simp); (try with_reducible rfl))
              intro wq hwq
              replace hS := hS.trans hwq
              (try simp only [Act.put, List.setIfInBounds_toArray, List.set_cons_zero, List.set_cons_succ])
              clear hwq
              refine wpAnyK_take Later.refl (fun _ _ _ h k => h.trans k) (fun _ _ h k => h.trans k) (i := 6) (oi := { dst := some 46, op := _, type := _, pos := _, after := _, guard := _ }) (v := ?_) rfl (by kernel_rfl) (by kernel_rfl) (by kernel_rfl) (fun _ _ _ h => h) (Or.inl (Or.inl ⟨by rfl, ?_⟩)) hS ?_
              rotate_left
              focus ((intro w hSw; (try dsimp only at hSw); have e0 := HX0.out.later hSw; have e0 := e0.out; have e1 := HX1.out.later hSw; have e1 := e1.out; have e2 := HX2c.out.later hSw; have e2 := e2.out; go_simp); (try with_reducible rfl))
              intro wq hwq
              replace hS := hS.trans hwq
              (try simp only [Act.put, List.setIfInBounds_toArray, List.set_cons_zero, List.set_cons_succ])
              clear hwq
              refine wpAnyK_take Later.refl (fun _ _ _ h k => h.trans k) (fun _ _ h k => h.trans k) (i := 7) (oi := { dst := some 47, op := _, type := _, pos := _, after := _, guard := _ }) (v := ?_) rfl (by kernel_rfl) (by kernel_rfl) (by kernel_rfl) (fun _ _ _ h => h) (Or.inl (Or.inl ⟨by rfl, ?_⟩)) hS ?_
              rotate_left
              focus ((intro w hSw; (try dsimp only at hSw); skip; go_simp); (try with_reducible rfl))
              intro wq hwq
              replace hS := hS.trans hwq
              (try simp only [Act.put, List.setIfInBounds_toArray, List.set_cons_zero, List.set_cons_succ])
              clear hwq
              refine wpAnyK_take Later.refl (fun _ _ _ h k => h.trans k) (fun _ _ h k => h.trans k) (i := 8) (oi := { dst := some 48, op := _, type := _, pos := _, after := _, guard := _ }) (v := ?_) rfl (by kernel_rfl) (by kernel_rfl) (by kernel_rfl) (fun _ _ _ h => h) (Or.inl (Or.inl ⟨by rfl, ?_⟩)) hS ?_
              rotate_left
              focus ((intro w hSw; (try dsimp only at hSw); have z4 : w.cell? ⟨gz, 4, none⟩ = some (.int .i64 h0) := (HZ.out.later hSw).cell 4 _ rfl; have z5 : w.cell? ⟨gz, 5, none⟩ = some (.int .i64 h1) := (HZ.out.later hSw).cell 5 _ rfl; have z6 : w.cell? ⟨gz, 6, none⟩ = some (.string h2) := (HZ.out.later hSw).cell 6 _ rfl; go_simp); (try with_reducible rfl))
              intro wq hwq
              replace hS := hS.trans hwq
              (try simp only [Act.put, List.setIfInBounds_toArray, List.set_cons_zero, List.set_cons_succ])
              clear hwq
              refine wpAnyK_take Later.refl (fun _ _ _ h k => h.trans k) (fun _ _ h k => h.trans k) (i := 9) (oi := { dst := some 49, op := _, type := _, pos := _, after := _, guard := _ }) (v := .int .i64 v2) rfl (by kernel_rfl) (by kernel_rfl) (by kernel_rfl) (fun _ _ _ h => h) (Or.inr ⟨by rfl, 26, #[.agg #[.int .i64 t, .int .i64 i, .string s], .agg #[.int .i64 h0, .int .i64 h1, .string h2]], fun W hW => ⟨?_, HC2.out W⟩⟩) hS ?_
              · first | rfl | (go_simp; done)
              intro wq hwq
              replace hS := hS.trans hwq
              (try simp only [Act.put, List.setIfInBounds_toArray, List.set_cons_zero, List.set_cons_succ])
              clear hwq
              refine wpAnyK_take Later.refl (fun _ _ _ h k => h.trans k) (fun _ _ h k => h.trans k) (i := 10) (oi := { dst := some 50, op := _, type := _, pos := _, after := _, guard := _ }) (v := ?_) rfl (by kernel_rfl) (by kernel_rfl) (by kernel_rfl) (fun _ _ _ h => h) (Or.inl (Or.inl ⟨by rfl, ?_⟩)) hS ?_
              rotate_left
              focus ((intro w hSw; (try dsimp only at hSw); have hd := HQD.out; go_simp); (try with_reducible rfl))
              intro wq hwq
              replace hS := hS.trans hwq
              (try simp only [Act.put, List.setIfInBounds_toArray, List.set_cons_zero, List.set_cons_succ])
              clear hwq
              refine wpAnyK_take Later.refl (fun _ _ _ h k => h.trans k) (fun _ _ h k => h.trans k) (i := 11) (oi := { dst := some 51, op := _, type := _, pos := _, after := _, guard := _ }) (v := ?_) rfl (by kernel_rfl) (by kernel_rfl) (by kernel_rfl) (fun _ _ _ h => h) (Or.inl (Or.inl ⟨by rfl, ?_⟩)) hS ?_
              rotate_left
              focus ((intro w hSw; (try dsimp only at hSw); skip; go_simp); (try with_reducible rfl))
              intro wq hwq
              replace hS := hS.trans hwq
              (try simp only [Act.put, List.setIfInBounds_toArray, List.set_cons_zero, List.set_cons_succ])
              clear hwq
              refine wpAnyK_done (by kernel_rfl) ?_ _
              go_wp2_with fail
              go_meet
              exact ⟨rfl, hS⟩
          case rest =>
          obtain ⟨rfl, lx⟩ := hcut
          have HZ := Lib.hid (HZ.out.later lx)
          have HRES := Lib.hid (HRES.out.later lx)
          have HX0 := Lib.hid (HX0.out.later lx)
          have HX1 := Lib.hid (HX1.out.later lx)
          have HX2c := Lib.hid (HX2c.out.later lx)
          have HLAT := Lib.hid (HLAT.out.trans lx)
          clear lx HC2 HQ2
          rcases q2 with _ | _
          · have HM2 := Lib.hid (show leastV (-1) (P ++ [(t, i, s)]) = (h0, h1, h2) from HM2.out)
            go_wp2_with fail
            go_roundw
            case rel =>
              rw [HGR.out] at HRES
              rw [HGZ.out] at HZ
              exact OfR.mk _ (k + 1) _ (by go_num) hlt (by rw [HX2.out]; simp) (by rw [HX2.out, HMM.out, HM1.out, HM2.out]; exact HZ.out) HRES.out HLAT.out
            case measure => simp [intOf]; omega
          · have HM2 := Lib.hid (show leastV (-1) (P ++ [(t, i, s)]) = (t, i, s) from HM2.out)
            have e0 := HX0.out.out
            have e1 := HX1.out.out
            have e2 := HX2c.out.out
            have y1 : wc.cell? ⟨gz, 4, none⟩ = some (.int .i64 h0) := HZ.out.cell 4 _ rfl
            have y2 : wc.cell? ⟨gz, 5, none⟩ = some (.int .i64 h1) := HZ.out.cell 5 _ rfl
            have y3 : wc.cell? ⟨gz, 6, none⟩ = some (.string h2) := HZ.out.cell 6 _ rfl
            have f1 := HZ.out.frozen 4
            have f2 := HZ.out.frozen 5
            have f3 := HZ.out.frozen 6
            have HZ := Lib.hid (zone_max HZ.out (t, i, s))
            have HRES := Lib.hid (((HRES.out.far (p := ⟨gz, 4, none⟩) HNE.out (.int .i64 t)).far (p := ⟨gz, 5, none⟩) HNE.out (.int .i64 i)).far (p := ⟨gz, 6, none⟩) HNE.out (.string s))
            have HLAT := Lib.hid (later_set (later_set (later_set HLAT.out HGW.out 4 (.int .i64 t)) HGW.out 5 (.int .i64 i)) HGW.out 6 (.string s))
            go_wp2_with fail
            go_roundw
            case rel =>
              rw [HGZ.out] at HZ
              rw [HGR.out, HGZ.out] at HRES
              rw [HGZ.out] at HLAT ⊢
              exact OfR.mk _ (k + 1) _ (by go_num) hlt (by rw [HX2.out]; simp) (by rw [HX2.out, HMM.out, HM1.out, HM2.out]; exact HZ.out) HRES.out HLAT.out
            case measure => simp [intOf]; omega
        · have HM1 := Lib.hid (show leastV 1 (P ++ [(t, i, s)]) = (t, i, s) from HM1.out)
          have e0 := HX0.out.out
          have e1 := HX1.out.out
          have e2 := HX2c.out.out
          have y1 : wd.cell? ⟨gz, 1, none⟩ = some (.int .i64 l0) := HZ.out.cell 1 _ rfl
          have y2 : wd.cell? ⟨gz, 2, none⟩ = some (.int .i64 l1) := HZ.out.cell 2 _ rfl
          have y3 : wd.cell? ⟨gz, 3, none⟩ = some (.string l2) := HZ.out.cell 3 _ rfl
          have f1 := HZ.out.frozen 1
          have f2 := HZ.out.frozen 2
          have f3 := HZ.out.frozen 3
          obtain ⟨wn, hwn⟩ : ∃ x, ((wd.setCell ⟨gz, 1, none⟩ (.int .i64 t)).setCell ⟨gz, 2, none⟩ (.int .i64 i)).setCell ⟨gz, 3, none⟩ (.string s) = x := ⟨_, rfl⟩
          have HZ := Lib.hid (show Blk wn gz (zcells m (t, i, s) (h0, h1, h2)).toArray 50 from hwn ▸ zone_min HZ.out (t, i, s))
          have HRES := Lib.hid (show Blk wn gr (zcells 0 z3 z3).toArray 50 from hwn ▸ ((HRES.out.far (p := ⟨gz, 1, none⟩) HNE.out _).far (p := ⟨gz, 2, none⟩) HNE.out _).far (p := ⟨gz, 3, none⟩) HNE.out _)
          have HX0 := Lib.hid (show CellIs wn ⟨bb, off + k * 3, none⟩ (.int .i64 t) from hwn ▸ ((HX0.out.far (q := ⟨gz, 1, none⟩) HBZ.out).far (q := ⟨gz, 2, none⟩) HBZ.out).far (q := ⟨gz, 3, none⟩) HBZ.out)
          have HX1 := Lib.hid (show CellIs wn ⟨bb, off + k * 3 + 1, none⟩ (.int .i64 i) from hwn ▸ ((HX1.out.far (q := ⟨gz, 1, none⟩) HBZ.out).far (q := ⟨gz, 2, none⟩) HBZ.out).far (q := ⟨gz, 3, none⟩) HBZ.out)
          have HX2c := Lib.hid (show CellIs wn ⟨bb, off + k * 3 + 2, none⟩ (.string s) from hwn ▸ ((HX2c.out.far (q := ⟨gz, 1, none⟩) HBZ.out).far (q := ⟨gz, 2, none⟩) HBZ.out).far (q := ⟨gz, 3, none⟩) HBZ.out)
          have HLAT := Lib.hid (show Later w wn from hwn ▸ later_set (later_set (later_set HLAT.out HGW.out 1 _) HGW.out 2 _) HGW.out 3 _)
          have HWN := Lib.hid hwn
          clear hwn
          go_upto_region 10 with fail
          rw [HWN.out]
          clear HWN e0 e1 e2 y1 y2 y3 f1 f2 f3
          go_cut [51] from 40 to 51 (fun cv wx => cv = .bool q2 ∧ Later wn wx)
          case first => as_aux_lemma =>
            rcases b with _ | _
            · have hq := HQ2.out
              rw [show (!false || _) = true from rfl] at hq
              subst hq
              refine wp_region_K (S := fun W : World => Later wn W) (R := Later) (fun _ => Later.refl _) (by kernel_rfl) ?_
              have hS : (fun W : World => Later wn W) wn.drew := (Later.refl wn).drew
              refine wpAnyK_take Later.refl (fun _ _ _ h k => h.trans k) (fun _ _ h k => h.trans k) (i := 0) (oi := { dst := some 40, op := _, type := _, pos := _, after := _, guard := _ }) (v := ?_) rfl (by kernel_rfl) (by kernel_rfl) (by kernel_rfl) (fun _ _ _ h => h) (Or.inl (Or.inl ⟨by rfl, ?_⟩)) hS ?_
              rotate_left
              focus ((intro w hSw; (try dsimp only at hSw); skip; go_simp); (try with_reducible rfl))
              intro wq hwq
              replace hS := hS.trans hwq
              (try simp only [Act.put, List.setIfInBounds_toArray, List.set_cons_zero, List.set_cons_succ])
              clear hwq
              refine wpAnyK_take Later.refl (fun _ _ _ h k => h.trans k) (fun _ _ h k => h.trans k) (i := 1) (oi := { dst := some 41, op := _, type := _, pos := _, after := _, guard := _ }) (v := ?_) rfl (by kernel_rfl) (by kernel_rfl) (by kernel_rfl) (fun _ _ _ h => h) (Or.inl (Or.inl ⟨by rfl, ?_⟩)) hS ?_
              rotate_left
              focus ((intro w hSw; (try dsimp only at hSw); skip; go_simp); (try with_reducible rfl))
              intro wq hwq
              replace hS := hS.trans hwq
              (try simp only [Act.put, List.setIfInBounds_toArray, List.set_cons_zero, List.set_cons_succ])
              clear hwq
              refine wpAnyK_take Later.refl (fun _ _ _ h k => h.trans k) (fun _ _ h k => h.trans k) (i := 2) (oi := { dst := some 42, op := _, type := _, pos := _, after := _, guard := _ }) (v := ?_) rfl (by kernel_rfl) (by kernel_rfl) (by kernel_rfl) (fun _ _ _ h => h) (Or.inl (Or.inl ⟨by rfl, ?_⟩)) hS ?_
              rotate_left
              focus ((intro w hSw; (try dsimp only at hSw); skip; go_simp); (try with_reducible rfl))
              intro wq hwq
              replace hS := hS.trans hwq
              (try simp only [Act.put, List.setIfInBounds_toArray, List.set_cons_zero, List.set_cons_succ])
              clear hwq
              refine wpAnyK_take Later.refl (fun _ _ _ h k => h.trans k) (fun _ _ h k => h.trans k) (i := 3) (oi := { dst := some 43, op := _, type := _, pos := _, after := _, guard := _ }) (v := undef) rfl (by kernel_rfl) (by kernel_rfl) (by kernel_rfl) (fun _ _ _ h => h) (Or.inl (Or.inr ⟨by rfl, rfl⟩)) hS ?_
              intro wq hwq
              replace hS := hS.trans hwq
              (try simp only [Act.put, List.setIfInBounds_toArray, List.set_cons_zero, List.set_cons_succ])
              clear hwq
              refine wpAnyK_take Later.refl (fun _ _ _ h k => h.trans k) (fun _ _ h k => h.trans k) (i := 4) (oi := { dst := some 44, op := _, type := _, pos := _, after := _, guard := _ }) (v := undef) rfl (by kernel_rfl) (by kernel_rfl) (by kernel_rfl) (fun _ _ _ h => h) (Or.inl (Or.inr ⟨by rfl, rfl⟩)) hS ?_
              intro wq hwq
              replace hS := hS.trans hwq
              (try simp only [Act.put, List.setIfInBounds_toArray, List.set_cons_zero, List.set_cons_succ])
              clear hwq
              refine wpAnyK_take Later.refl (fun _ _ _ h k => h.trans k) (fun _ _ h k => h.trans k) (i := 5) (oi := { dst := some 45, op := _, type := _, pos := _, after := _, guard := _ }) (v := undef) rfl (by kernel_rfl) (by kernel_rfl) (by kernel_rfl) (fun _ _ _ h => h) (Or.inl (Or.inr ⟨by rfl, rfl⟩)) hS ?_
              intro wq hwq
              replace hS := hS.trans hwq
              (try simp only [Act.put, List.setIfInBounds_toArray, List.set_cons_zero, List.set_cons_succ])
              clear hwq
              refine wpAnyK_take Later.refl (fun _ _ _ h k => h.trans k) (fun _ _ h k => h.trans k) (i := 6) (oi := { dst := some 46, op := _, type := _, pos := _, after := _, guard := _ }) (v := undef) rfl (by kernel_rfl) (by kernel_rfl) (by kernel_rfl) (fun _ _ _ h => h) (Or.inl (Or.inr ⟨by rfl, rfl⟩)) hS ?_
              intro wq hwq
              replace hS := hS.trans hwq
              (try simp only [Act.put, List.setIfInBounds_toArray, List.set_cons_zero, List.set_cons_succ])
              clear hwq
              refine wpAnyK_take Later.refl (fun _ _ _ h k => h.trans k) (fun _ _ h k => h.trans k) (i := 7) (oi := { dst := some 47, op := _, type := _, pos := _, after := _, guard := _ }) (v := undef) rfl (by kernel_rfl) (by kernel_rfl) (by kernel_rfl) (fun _ _ _ h => h) (Or.inl (Or.inr ⟨by rfl, rfl⟩)) hS ?_
              intro wq hwq
              replace hS := hS.trans hwq
              (try simp only [Act.put, List.setIfInBounds_toArray, List.set_cons_zero, List.set_cons_succ])
              clear hwq
              refine wpAnyK_take Later.refl (fun _ _ _ h k => h.trans k) (fun _ _ h k => h.trans k) (i := 8) (oi := { dst := some 48, op := _, type := _, pos := _, after := _, guard := _ }) (v := undef) rfl (by kernel_rfl) (by kernel_rfl) (by kernel_rfl) (fun _ _ _ h => h) (Or.inl (Or.inr ⟨by rfl, rfl⟩)) hS ?_
              intro wq hwq
              replace hS := hS.trans hwq
              (try simp only [Act.put, List.setIfInBounds_toArray, List.set_cons_zero, List.set_cons_succ])
              clear hwq
              refine wpAnyK_take Later.refl (fun _ _ _ h k => h.trans k) (fun _ _ h k => h.trans k) (i := 9) (oi := { dst := some 49, op := _, type := _, pos := _, after := _, guard := _ }) (v := undef) rfl (by kernel_rfl) (by kernel_rfl) (by kernel_rfl) (fun _ _ _ h => h) (Or.inl (Or.inr ⟨by rfl, rfl⟩)) hS ?_
              intro wq hwq
              replace hS := hS.trans hwq
              (try simp only [Act.put, List.setIfInBounds_toArray, List.set_cons_zero, List.set_cons_succ])
              clear hwq
              refine wpAnyK_take Later.refl (fun _ _ _ h k => h.trans k) (fun _ _ h k => h.trans k) (i := 10) (oi := { dst := some 50, op := _, type := _, pos := _, after := _, guard := _ }) (v := undef) rfl (by kernel_rfl) (by kernel_rfl) (by kernel_rfl) (fun _ _ _ h => h) (Or.inl (Or.inr ⟨by rfl, rfl⟩)) hS ?_
              intro wq hwq
              replace hS := hS.trans hwq
              (try simp only [Act.put, List.setIfInBounds_toArray, List.set_cons_zero, List.set_cons_succ])
              clear hwq
              refine wpAnyK_take Later.refl (fun _ _ _ h k => h.trans k) (fun _ _ h k => h.trans k) (i := 11) (oi := { dst := some 51, op := _, type := _, pos := _, after := _, guard := _ }) (v := ?_) rfl (by kernel_rfl) (by kernel_rfl) (by kernel_rfl) (fun _ _ _ h => h) (Or.inl (Or.inl ⟨by rfl, ?_⟩)) hS ?_
              rotate_left
              focus ((intro w hSw; (try dsimp only at hSw); skip; go_simp); (try with_reducible rfl))
              intro wq hwq
              replace hS := hS.trans hwq
              (try simp only [Act.put, List.setIfInBounds_toArray, List.set_cons_zero, List.set_cons_succ])
              clear hwq
              refine wpAnyK_done (by kernel_rfl) ?_ _
              go_wp2_with fail
              go_meet
              exact ⟨rfl, hS⟩
            · have hq : _ = q2 := (show _ = (!true || _) from HQ2.out).symm
              rw [show (!true) = false from rfl, Bool.false_or] at hq
              have HQD := Lib.hid hq
              clear hq
              refine wp_region_K (S := fun W : World => Later wn W) (R := Later) (fun _ => Later.refl _) (by kernel_rfl) ?_
              have hS : (fun W : World => Later wn W) wn.drew := (Later.refl wn).drew
              refine wpAnyK_take Later.refl (fun _ _ _ h k => h.trans k) (fun _ _ h k => h.trans k) (i := 0) (oi := { dst := some 40, op := _, type := _, pos := _, after := _, guard := _ }) (v := ?_) rfl (by kernel_rfl) (by kernel_rfl) (by kernel_rfl) (fun _ _ _ h => h) (Or.inl (Or.inl ⟨by rfl, ?_⟩)) hS ?_
              rotate_left
              focus ((intro w hSw; (try dsimp only at hSw); skip; go_simp); (try with_reducible rfl))
              intro wq hwq
              replace hS := hS.trans hwq
              (try simp only [Act.put, List.setIfInBounds_toArray, List.set_cons_zero, List.set_cons_succ])
              clear hwq
              refine wpAnyK_take Later.refl (fun _ _ _ h k => h.trans k) (fun _ _ h k => h.trans k) (i := 1) (oi := { dst := some 41, op := _, type := _, pos := _, after := _, guard := _ }) (v := ?_) rfl (by kernel_rfl) (by kernel_rfl) (by kernel_rfl) (fun _ _ _ h => h) (Or.inl (Or.inl ⟨by rfl, ?_⟩)) hS ?_
              rotate_left
              focus ((intro w hSw; (try dsimp only at hSw); skip; go_simp); (try with_reducible rfl))
              intro wq hwq
              replace hS := hS.trans hwq
              (try simp only [Act.put, List.setIfInBounds_toArray, List.set_cons_zero, List.set_cons_succ])
              clear hwq
              refine wpAnyK_take Later.refl (fun _ _ _ h k => h.trans k) (fun _ _ h k => h.trans k) (i := 2) (oi := { dst := some 42, op := _, type := _, pos := _, after := _, guard := _ }) (v := ?_) rfl (by kernel_rfl) (by kernel_rfl) (by kernel_rfl) (fun _ _ _ h => h) (Or.inl (Or.inl ⟨by rfl, ?_⟩)) hS ?_
              rotate_left
              focus ((intro w hSw; (try dsimp only at hSw); skip; go_simp); (try with_reducible rfl))
              intro wq hwq
              replace hS := hS.trans hwq
              (try simp only [Act.put, List.setIfInBounds_toArray, List.set_cons_zero, List.set_cons_succ])
              clear hwq
              refine wpAnyK_take Later.refl (fun _ _ _ h k => h.trans k) (fun _ _ h k => h.trans k) (i := 3) (oi := { dst := some 43, op := _, type := _, pos := _, after := _, guard := _ }) (v := ?_) rfl (by kernel_rfl) (by kernel_rfl) (by kernel_rfl) (fun _ _ _ h => h) (Or.inl (Or.inl ⟨by rfl, ?_⟩)) hS ?_
              rotate_left
              focus ((intro w hSw; (try dsimp only at hSw); skip; go_simp); (try with_reducible rfl))
              intro wq hwq
              replace hS := hS.trans hwq
              (try simp only [Act.put, List.setIfInBounds_toArray, List.set_cons_zero, List.set_cons_succ])
              clear hwq
              refine wpAnyK_take Later.refl (fun _ _ _ h k => h.trans k) (fun _ _ h k => h.trans k) (i := 4) (oi := { dst := some 44, op := _, type := _, pos := _, after := _, guard := _ }) (v := ?_) rfl (by kernel_rfl) (by kernel_rfl) (by kernel_rfl) (fun _ _ _ h => h) (Or.inl (Or.inl ⟨by rfl, ?_⟩)) hS ?_
              rotate_left
              focus ((intro w hSw; (try dsimp only at hSw); skip; go_simp); (try with_reducible rfl))
              intro wq hwq
              replace hS := hS.trans hwq
              (try simp only [Act.put, List.setIfInBounds_toArray, List.set_cons_zero, List.set_cons_succ])
              clear hwq
              refine wpAnyK_take Later.refl (fun _ _ _ h k => h.trans k) (fun _ _ h k => h.trans k) (i := 5) (oi := { dst := some 45, op := _, type := _, pos := _, after := _, guard := _ }) (v := ?_) rfl (by kernel_rfl) (by kernel_rfl) (by kernel_rfl) (fun _ _ _ h => h) (Or.inl (Or.inl ⟨by rfl, ?_⟩)) hS ?_
              rotate_left
              focus ((intro w hSw; (try dsimp only at hSw); skip; go_simp); (try with_reducible rfl))
              intro wq hwq
              replace hS := hS.trans hwq
              (try simp only [Act.put, List.setIfInBounds_toArray, List.set_cons_zero, List.set_cons_succ])
              clear hwq
              refine wpAnyK_take Later.refl (fun _ _ _ h k => h.trans k) (fun _ _ h k => h.trans k) (i := 6) (oi := { dst := some 46, op := _, type := _, pos := _, after := _, guard := _ }) (v := ?_) rfl (by kernel_rfl) (by kernel_rfl) (by kernel_rfl) (fun _ _ _ h => h) (Or.inl (Or.inl ⟨by rfl, ?_⟩)) hS ?_
              rotate_left
              focus ((intro w hSw; (try dsimp only at hSw); have e0 := HX0.out.later hSw; have e0 := e0.out; have e1 := HX1.out.later hSw; have e1 := e1.out; have e2 := HX2c.out.later hSw; have e2 := e2.out; go_simp); (try with_reducible rfl))
              intro wq hwq
              replace hS := hS.trans hwq
              (try simp only [Act.put, List.setIfInBounds_toArray, List.set_cons_zero, List.set_cons_succ])
              clear hwq
              refine wpAnyK_take Later.refl (fun _ _ _ h k => h.trans k) (fun _ _ h k => h.trans k) (i := 7) (oi := { dst := some 47, op := _, type := _, pos := _, after := _, guard := _ }) (v := ?_) rfl (by kernel_rfl) (by kernel_rfl) (by kernel_rfl) (fun _ _ _ h => h) (Or.inl (Or.inl ⟨by rfl, ?_⟩)) hS ?_
              rotate_left
              focus ((intro w hSw; (try dsimp only at hSw); skip; go_simp); (try with_reducible rfl))
              intro wq hwq
              replace hS := hS.trans hwq
              (try simp only [Act.put, List.setIfInBounds_toArray, List.set_cons_zero, List.set_cons_succ])
              clear hwq
              refine wpAnyK_take Later.refl (fun _ _ _ h k => h.trans k) (fun _ _ h k => h.trans k) (i := 8) (oi := { dst := some 48, op := _, type := _, pos := _, after := _, guard := _ }) (v := ?_) rfl (by kernel_rfl) (by kernel_rfl) (by kernel_rfl) (fun _ _ _ h => h) (Or.inl (Or.inl ⟨by rfl, ?_⟩)) hS ?_
              rotate_left
              focus ((intro w hSw; (try dsimp only at hSw); have z4 : w.cell? ⟨gz, 4, none⟩ = some (.int .i64 h0) := (HZ.out.later hSw).cell 4 _ rfl; have z5 : w.cell? ⟨gz, 5, none⟩ = some (.int .i64 h1) := (HZ.out.later hSw).cell 5 _ rfl; have z6 : w.cell? ⟨gz, 6, none⟩ = some (.string h2) := (HZ.out.later hSw).cell 6 _ rfl; go_simp); (try with_reducible rfl))
              intro wq hwq
              replace hS := hS.trans hwq
              (try simp only [Act.put, List.setIfInBounds_toArray, List.set_cons_zero, List.set_cons_succ])
              clear hwq
              refine wpAnyK_take Later.refl (fun _ _ _ h k => h.trans k) (fun _ _ h k => h.trans k) (i := 9) (oi := { dst := some 49, op := _, type := _, pos := _, after := _, guard := _ }) (v := .int .i64 v2) rfl (by kernel_rfl) (by kernel_rfl) (by kernel_rfl) (fun _ _ _ h => h) (Or.inr ⟨by rfl, 26, #[.agg #[.int .i64 t, .int .i64 i, .string s], .agg #[.int .i64 h0, .int .i64 h1, .string h2]], fun W hW => ⟨?_, HC2.out W⟩⟩) hS ?_
              · first | rfl | (go_simp; done)
              intro wq hwq
              replace hS := hS.trans hwq
              (try simp only [Act.put, List.setIfInBounds_toArray, List.set_cons_zero, List.set_cons_succ])
              clear hwq
              refine wpAnyK_take Later.refl (fun _ _ _ h k => h.trans k) (fun _ _ h k => h.trans k) (i := 10) (oi := { dst := some 50, op := _, type := _, pos := _, after := _, guard := _ }) (v := ?_) rfl (by kernel_rfl) (by kernel_rfl) (by kernel_rfl) (fun _ _ _ h => h) (Or.inl (Or.inl ⟨by rfl, ?_⟩)) hS ?_
              rotate_left
              focus ((intro w hSw; (try dsimp only at hSw); have hd := HQD.out; go_simp); (try with_reducible rfl))
              intro wq hwq
              replace hS := hS.trans hwq
              (try simp only [Act.put, List.setIfInBounds_toArray, List.set_cons_zero, List.set_cons_succ])
              clear hwq
              refine wpAnyK_take Later.refl (fun _ _ _ h k => h.trans k) (fun _ _ h k => h.trans k) (i := 11) (oi := { dst := some 51, op := _, type := _, pos := _, after := _, guard := _ }) (v := ?_) rfl (by kernel_rfl) (by kernel_rfl) (by kernel_rfl) (fun _ _ _ h => h) (Or.inl (Or.inl ⟨by rfl, ?_⟩)) hS ?_
              rotate_left
              focus ((intro w hSw; (try dsimp only at hSw); skip; go_simp); (try with_reducible rfl))
              intro wq hwq
              replace hS := hS.trans hwq
              (try simp only [Act.put, List.setIfInBounds_toArray, List.set_cons_zero, List.set_cons_succ])
              clear hwq
              refine wpAnyK_done (by kernel_rfl) ?_ _
              go_wp2_with fail
              go_meet
              exact ⟨rfl, hS⟩
          case rest =>
          obtain ⟨rfl, lx⟩ := hcut
          have HZ := Lib.hid (HZ.out.later lx)
          have HRES := Lib.hid (HRES.out.later lx)
          have HX0 := Lib.hid (HX0.out.later lx)
          have HX1 := Lib.hid (HX1.out.later lx)
          have HX2c := Lib.hid (HX2c.out.later lx)
          have HLAT := Lib.hid (HLAT.out.trans lx)
          clear lx HC2 HQ2
          rcases q2 with _ | _
          · have HM2 := Lib.hid (show leastV (-1) (P ++ [(t, i, s)]) = (h0, h1, h2) from HM2.out)
            go_wp2_with fail
            go_roundw
            case rel =>
              rw [HGR.out] at HRES
              rw [HGZ.out] at HZ
              exact OfR.mk _ (k + 1) _ (by go_num) hlt (by rw [HX2.out]; simp) (by rw [HX2.out, HMM.out, HM1.out, HM2.out]; exact HZ.out) HRES.out HLAT.out
            case measure => simp [intOf]; omega
          · have HM2 := Lib.hid (show leastV (-1) (P ++ [(t, i, s)]) = (t, i, s) from HM2.out)
            have e0 := HX0.out.out
            have e1 := HX1.out.out
            have e2 := HX2c.out.out
            have y1 : wc.cell? ⟨gz, 4, none⟩ = some (.int .i64 h0) := HZ.out.cell 4 _ rfl
            have y2 : wc.cell? ⟨gz, 5, none⟩ = some (.int .i64 h1) := HZ.out.cell 5 _ rfl
            have y3 : wc.cell? ⟨gz, 6, none⟩ = some (.string h2) := HZ.out.cell 6 _ rfl
            have f1 := HZ.out.frozen 4
            have f2 := HZ.out.frozen 5
            have f3 := HZ.out.frozen 6
            have HZ := Lib.hid (zone_max HZ.out (t, i, s))
            have HRES := Lib.hid (((HRES.out.far (p := ⟨gz, 4, none⟩) HNE.out (.int .i64 t)).far (p := ⟨gz, 5, none⟩) HNE.out (.int .i64 i)).far (p := ⟨gz, 6, none⟩) HNE.out (.string s))
            have HLAT := Lib.hid (later_set (later_set (later_set HLAT.out HGW.out 4 (.int .i64 t)) HGW.out 5 (.int .i64 i)) HGW.out 6 (.string s))
            go_wp2_with fail
            go_roundw
            case rel =>
              rw [HGZ.out] at HZ
              rw [HGR.out, HGZ.out] at HRES
              rw [HGZ.out] at HLAT ⊢
              exact OfR.mk _ (k + 1) _ (by go_num) hlt (by rw [HX2.out]; simp) (by rw [HX2.out, HMM.out, HM1.out, HM2.out]; exact HZ.out) HRES.out HLAT.out
            case measure => simp [intOf]; omega
    · have hkz : ¬ (k : Int) < (l.length : Int) := by omega
      obtain rfl : k = l.length := by omega
      rw [List.take_length] at HB HZ
      obtain ⟨n0, hn0⟩ : ∃ x, (l.length : Int) - ((someV l).length : Int) = x := ⟨_, rfl⟩
      obtain ⟨lo, hlo⟩ : ∃ x, leastV 1 (someV l) = x := ⟨_, rfl⟩
      obtain ⟨hi, hhi⟩ : ∃ x, leastV (-1) (someV l) = x := ⟨_, rfl⟩
      have HG := Lib.hid (show ZoneP l w (.returned (.agg (zcells n0 lo hi).toArray)) = fun w' => Later w w' from by funext w'; unfold ZoneP; rw [hn0, hlo, hhi]; simp)
      rw [hn0, hlo, hhi] at HZ
      clear hn0 hlo hhi HB
      have HGW2 := Lib.hid (show w.heap.size ≤ gr by have h := HGR.out; omega)
      obtain ⟨l0, l1, l2⟩ := lo
      obtain ⟨h0, h1, h2⟩ := hi
      have y0 : wr.cell? ⟨gz, 0, none⟩ = some (.int .i64 n0) := HZ.out.cell 0 _ rfl
      have y1 : wr.cell? ⟨gz, 1, none⟩ = some (.int .i64 l0) := HZ.out.cell 1 _ rfl
      have y2 : wr.cell? ⟨gz, 2, none⟩ = some (.int .i64 l1) := HZ.out.cell 2 _ rfl
      have y3 : wr.cell? ⟨gz, 3, none⟩ = some (.string l2) := HZ.out.cell 3 _ rfl
      have y4 : wr.cell? ⟨gz, 4, none⟩ = some (.int .i64 h0) := HZ.out.cell 4 _ rfl
      have y5 : wr.cell? ⟨gz, 5, none⟩ = some (.int .i64 h1) := HZ.out.cell 5 _ rfl
      have y6 : wr.cell? ⟨gz, 6, none⟩ = some (.string h2) := HZ.out.cell 6 _ rfl
      have r0 : wr.cell? ⟨gr, 0, none⟩ = some (.int .i64 0) := HRES.out.cell 0 _ rfl
      have f0 := HRES.out.frozen 0
      have r1 : wr.cell? ⟨gr, 1, none⟩ = some (.int .i64 0) := HRES.out.cell 1 _ rfl
      have f1 := HRES.out.frozen 1
      have r2 : wr.cell? ⟨gr, 2, none⟩ = some (.int .i64 0) := HRES.out.cell 2 _ rfl
      have f2 := HRES.out.frozen 2
      have r3 : wr.cell? ⟨gr, 3, none⟩ = some (.string ⟨#[]⟩) := HRES.out.cell 3 _ rfl
      have f3 := HRES.out.frozen 3
      have r4 : wr.cell? ⟨gr, 4, none⟩ = some (.int .i64 0) := HRES.out.cell 4 _ rfl
      have f4 := HRES.out.frozen 4
      have r5 : wr.cell? ⟨gr, 5, none⟩ = some (.int .i64 0) := HRES.out.cell 5 _ rfl
      have f5 := HRES.out.frozen 5
      have r6 : wr.cell? ⟨gr, 6, none⟩ = some (.string ⟨#[]⟩) := HRES.out.cell 6 _ rfl
      have f6 := HRES.out.frozen 6
      go_wp2_with fail
      obtain ⟨wf, hwf⟩ : ∃ x, (((((((wr.setCell ⟨gr, 0, none⟩ (.int .i64 n0)).setCell ⟨gr, 1, none⟩ (.int .i64 l0)).setCell ⟨gr, 2, none⟩ (.int .i64 l1)).setCell ⟨gr, 3, none⟩ (.string l2)).setCell ⟨gr, 4, none⟩ (.int .i64 h0)).setCell ⟨gr, 5, none⟩ (.int .i64 h1)).setCell ⟨gr, 6, none⟩ (.string h2)) = x := ⟨_, rfl⟩
      have BF : Blk wf gr (zcells n0 (l0, l1, l2) (h0, h1, h2)).toArray 50 := hwf ▸ ((((((HRES.out.set_ 0 _).set_ 1 _).set_ 2 _).set_ 3 _).set_ 4 _).set_ 5 _).set_ 6 _
      have LF : Later w wf := hwf ▸ later_set (later_set (later_set (later_set (later_set (later_set (later_set HLAT.out HGW2.out 0 _) HGW2.out 1 _) HGW2.out 2 _) HGW2.out 3 _) HGW2.out 4 _) HGW2.out 5 _) HGW2.out 6 _
      have r0 := BF.cell 0 _ rfl
      have r1 := BF.cell 1 _ rfl
      have r2 := BF.cell 2 _ rfl
      have r3 := BF.cell 3 _ rfl
      have r4 := BF.cell 4 _ rfl
      have r5 := BF.cell 5 _ rfl
      have r6 := BF.cell 6 _ rfl
      rw [hwf]
      exact bodyPost_ret (v := .agg (zcells n0 (l0, l1, l2) (h0, h1, h2)).toArray) (by simp [results, Tryd.results10, go_sem, r0, r1, r2, r3, r4, r5, r6, zcells]) rfl (by rw [HG.out]; exact LF)
end Go.Proofs.YtkdpjocglfephaaDoor
