/- The walk of ColumnAll. -/
import Derived.Test.YtldalkhmbpkjpaaGreatDoorRefColV
import Derived.Test.YtldalkhmbpkjpaaGreatDoorCol10
import Derived.Test.YtldalkhmbpkjpaaGreatDoorKripke
import Derived.Deep.CutBlock
import Derived.Deep.CutRange
import Derived.Deep.RegionHeld3
namespace Go.Proofs.YtldalkhmbpkjpaaGreatDoor
open Go.RowKit
set_option linter.unusedVariables false

def tys10 (t : Int) : List Value := [.int .i64 t, .int .i64 1, .int .i64 2, .int .i64 3, .int .i64 4]
theorem tys10_get (t : Int) (i : Nat) (h : i < 5) : ∃ T : Int, (tys10 t)[i]? = some (.int .i64 T) := by
 obtain rfl | rfl | rfl | rfl | rfl : i = 0 ∨ i = 1 ∨ i = 2 ∨ i = 3 ∨ i = 4 := by omega
 all_goals exact ⟨_, rfl⟩
def ens10 (t : Int) : List Value := [.int .i64 t, .int .i64 1, .int .i64 2, .int .i64 3, .int .i64 4, .int .i64 5]
theorem ens10_get (t : Int) (i : Nat) (h : i < 6) : ∃ T : Int, (ens10 t)[i]? = some (.int .i64 T) := by
 obtain rfl | rfl | rfl | rfl | rfl | rfl : i = 0 ∨ i = 1 ∨ i = 2 ∨ i = 3 ∨ i = 4 ∨ i = 5 := by omega
 all_goals exact ⟨_, rfl⟩
theorem PutsB.uni {o : Option (List Nat)} {w w' : World} {e : Ending} (h : PutsB o w e w') (r : Bool) (b : List Nat) (m : Nat) (hr : o.isSome = r) (hb : o.getD [] = b) (hm : b.length = m) :
  ∃ A c, e = .returned (.tuple #[.slice A m c, .bool r]) ∧ Has w' A (ints .u8 b) ∧ Later w w' := by
 subst hm hr hb
 obtain ⟨⟨rfl, rfl⟩ | ⟨l, A, c, rfl, rfl, h, _⟩, L⟩ := h
 ·exact ⟨none, 0, rfl, .inl rfl, L⟩
 ·exact ⟨A, c, rfl, h, L⟩
theorem colUsed_uni (enc t U : Int) (P : Bool) (hU : (usedC enc t).getD 0 = U) (hP : (usedC enc t).isSome = P) (w : World) (hs : S6 w) : Calls Tryz.prog 5 #[.int .i64 enc, .int .i64 t] w fun e w' => e = .returned (.tuple #[.int .i64 U, .bool P]) ∧ Later w w' := by
 subst hU hP
 cases h : usedC enc t with
 | none => exact colUsed_no enc t w hs h
 | some u =>
  refine (colUsed_yes enc t u w h).mono ?_
  rintro e w' ⟨rfl, rfl⟩
  exact ⟨rfl, Later.refl _⟩
theorem refUsed_uni (enc t U : Int) (P : Bool) (hU : (usedC enc t).getD 0 = U) (hP : (usedC enc t).isSome = P) (w : World) : Calls Tryz.prog 6 #[.int .i64 enc, .int .i64 t] w fun e w' => e = .returned (.tuple #[.int .i64 U, .bool P]) ∧ Later w w' := by
 subst hU hP
 exact refUsed_any enc t w
theorem uni_get {o : Option (List Nat)} : ∃ (r : Bool) (b : List Nat), o.isSome = r ∧ o.getD [] = b ∧ (r = false → b.length = 0) := by
 cases o with
 | none => exact ⟨false, [], rfl, rfl, fun _ => rfl⟩
 | some b => exact ⟨true, b, rfl, rfl, fun h => by cases h⟩

set_option maxRecDepth 100000 in
theorem columnAll_long (en t : Int) (A : Option Addr) (n c : Nat) (L0 : Option Addr) (m0 c0 : Nat) (nn : Int) (B : Option Addr) (mb cb : Nat) (w : World) (hs : S10 w) (h : ¬ (n ≤ 60 ∧ m0 ≤ 10 ∧ mb ≤ 60)) :
  Calls Tryz.prog 3 #[.int .i64 en, .int .i64 t, .slice A n c, .slice L0 m0 c0, .int .i64 nn, .slice B mb cb] w fun e w' => e = .returned (.bool true) ∧ Later w w' := by
 have HB := Lib.hid (begun10_any w hs)
 clear hs
 go_enter Tryz.func3, Tryz.ntmps3
 go_wp2_with fail
 refine HB.out.mono ?_
 rintro e w1 ⟨rfl, l1⟩
 by_cases h1 : n ≤ 60
 ·by_cases h2 : m0 ≤ 10
  ·have h3 : 60 < mb := by omega
   have d1 : decide ((60 : Int) < (n : Int)) = false := by simp; omega
   have d2 : decide ((10 : Int) < (m0 : Int)) = false := by simp; omega
   have d3 : decide ((60 : Int) < (mb : Int)) = true := by simp; omega
   clear h
   go_wp2_with fail
   go_ret
   exact ⟨rfl, l1⟩
  ·have d1 : decide ((60 : Int) < (n : Int)) = false := by simp; omega
   have d2 : decide ((10 : Int) < (m0 : Int)) = true := by simp; omega
   clear h
   go_wp2_with fail
   go_ret
   exact ⟨rfl, l1⟩
 ·have d1 : decide ((60 : Int) < (n : Int)) = true := by simp; omega
  clear h
  go_wp2_with fail
  go_ret
  exact ⟨rfl, l1⟩

set_option maxRecDepth 100000 in
set_option maxHeartbeats 16000000 in
theorem columnAll_walk (en t : Int) (A : Option Addr) (n c : Nat) (bs : List Nat) (L0 : Option Addr) (c0 : Nat) (l : List Val3) (nn : Int) (B : Option Addr) (cb : Nat) (b : List Nat) (w : World) (hs : S10 w) (hb : bs.length = n) (hn : n ≤ 60) (hr : Has w A (ints .u8 bs)) (h256 : ∀ x ∈ bs, x < 256) (hl20 : l.length ≤ 10) (hl : Has w L0 (fl l)) (h64 : All64 l) (hb60 : b.length ≤ 60) (hrb : Has w B (ints .u8 b)) (hb256 : ∀ x ∈ b, x < 256) (hbc : b.length ≤ cb) (hcb : cb ≤ 9223372036854775807) :
  Calls Tryz.prog 3 #[.int .i64 en, .int .i64 t, .slice A n c, .slice L0 l.length c0, .int .i64 nn, .slice B b.length cb] w fun e w' => e = .returned (.bool true) ∧ Later w w' := by
 have HB := Lib.hid (begun10_any w hs)
 have HS := Lib.hid hs
 have HR := Lib.hid hr
 have H256 := Lib.hid h256
 have HBS := Lib.hid hb
 have HL := Lib.hid hl
 have H64 := Lib.hid h64
 have HRB := Lib.hid hrb
 have HB256 := Lib.hid hb256
 have d1 : decide ((60 : Int) < (n : Int)) = false := by simp; omega
 have d2 : decide ((10 : Int) < (l.length : Int)) = false := by simp; omega
 have d3 : decide ((60 : Int) < (b.length : Int)) = false := by simp; omega
 clear hs hr h256 hb hl h64 hrb hb256
 go_enter Tryz.func3, Tryz.ntmps3
 go_wp2_with fail
 refine HB.out.mono ?_
 rintro e w1 ⟨rfl, l1⟩
 have HL1 := Lib.hid l1
 clear l1 HB
 go_wp2_with fail
 go_loopw [13] (fun i wr => ∃ j : Nat, j ≤ l.length ∧ i = .int .i64 j ∧ Later w wr) (fun i _ => l.length - (intOf i).toNat)
 case atStart => exact ⟨0, Nat.zero_le _, rfl, HL1.out⟩
 case round =>
  obtain ⟨j, hj, rfl, lat⟩ := hrel
  by_cases hlt : j < l.length
  ·obtain ⟨bb, off, hadr, e0, e1, e2⟩ := (HL.out.later lat).val3 j hlt
   subst hadr
   generalize l[j].2.2 = s at e2
   have LAT := Lib.hid lat
   clear lat e0 e1
   by_cases h40 : 40 < s.size
   ·have h40' : decide ((40 : Int) < (s.size : Int)) = true := by simp; omega
    go_wp2_with fail
    go_ret
    exact ⟨rfl, LAT.out⟩
   ·have h40' : decide ((40 : Int) < (s.size : Int)) = false := by simp; omega
    go_wp2_with fail
    go_roundw
    case rel => exact ⟨j + 1, hlt, by go_num, LAT.out⟩
    case measure => simp [intOf]; omega
  ·have LAT := Lib.hid lat
   clear lat HL1 d1 d2 d3
   go_wp2_with fail
   obtain ⟨w2, hw2⟩ : ∃ w2, w2 = (wr.alloc (.cells (tys10 t).toArray 3)).alloc (.cells (ens10 en).toArray 3) := ⟨_, rfl⟩
   have BT : Blk w2 wr.heap.size (tys10 t).toArray 3 := hw2 ▸ (Blk.new wr _ _ _ rfl).later (Later.new _ _)
   have BE : Blk w2 (wr.heap.size + 1) (ens10 en).toArray 3 := hw2 ▸ Blk.new _ _ _ _ (by simp)
   have L2 : Later w w2 := LAT.out.trans (hw2 ▸ (Later.new _ _).trans (Later.new _ _))
   obtain ⟨gT, hgT⟩ : ∃ g, g = wr.heap.size := ⟨_, rfl⟩
   obtain ⟨gE, hgE⟩ : ∃ g, g = wr.heap.size + 1 := ⟨_, rfl⟩
   rw [← hgT] at BT
   rw [← hgE] at BE
   change Code.wp _ _ _ _ ((wr.alloc (.cells (tys10 t).toArray 3)).alloc (.cells (ens10 en).toArray 3))
   rw [← hw2, ← hgE, ← hgT]
   have HBT := Lib.hid BT
   have HBE := Lib.hid BE
   have HL2 := Lib.hid L2
   clear hw2 hgE hgT BT BE L2 LAT
   go_loopw [16] (fun i wi => ∃ k : Nat, k ≤ 5 ∧ i = .int .i64 k ∧ Later w2 wi) (fun i _ => 5 - (intOf i).toNat)
   case atStart => exact ⟨0, by omega, rfl, Later.refl _⟩
   case round =>
    obtain ⟨i, hi, rfl, lat⟩ := hrel
    by_cases hi5 : i < 5
    ·obtain ⟨T, hT⟩ := tys10_get t i hi5
     have CT := Lib.hid (show CellIs w2 ⟨gT, i, none⟩ (.int .i64 T) from HBT.out.cell i _ (by rw [List.getElem?_toArray]; exact hT))
     obtain ⟨wo, hwo⟩ : ∃ wo, wo = wr := ⟨_, rfl⟩
     rw [← hwo] at lat ⊢
     have LATI := Lib.hid lat
     clear lat hT hwo
     have hii : (i : Int) < 5 := by omega
     go_wp2_with fail
     go_loopw [17] (fun i wi => ∃ k : Nat, k ≤ 6 ∧ i = .int .i64 k ∧ Later w2 wi) (fun i _ => 6 - (intOf i).toNat)
     case atStart => exact ⟨0, by omega, rfl, LATI.out⟩
     case round =>
      obtain ⟨k, hk, rfl, lat⟩ := hrel
      by_cases hk6 : k < 6
      ·obtain ⟨E, hE⟩ := ens10_get en k hk6
       have CE := show CellIs w2 ⟨gE, k, none⟩ (.int .i64 E) from HBE.out.cell k _ (by rw [List.getElem?_toArray]; exact hE)
       have d0 := CT.out.later lat
       have d1 := CE.later lat
       have LAT := Lib.hid lat
       obtain ⟨U, hU⟩ : ∃ U, (usedC E T).getD 0 = U := ⟨_, rfl⟩
       obtain ⟨P, hP⟩ : ∃ P, (usedC E T).isSome = P := ⟨_, rfl⟩
       obtain ⟨r1, b1, hr1, hb1, hz1⟩ := uni_get (o := putC E T l)
       have HUS := Lib.hid (fun w' (lz : Later wr w') => colUsed_uni E T U P hU hP w' (HS.out.later ((HL2.out.trans LAT.out).trans lz)).s6)
       have HUR := Lib.hid (fun w' (lz : Later wr w') => refUsed_uni E T U P hU hP w')
       have HPL := Lib.hid (fun w' (lz : Later wr w') => colPut_any E T L0 l.length c0 l w' rfl (HS.out.later ((HL2.out.trans LAT.out).trans lz)).s6 (by omega) (HL.out.later ((HL2.out.trans LAT.out).trans lz)) H64.out)
       have HEL := Lib.hid (fun w' (lz : Later wr w') => refPutColumn_any E T L0 l.length c0 l w' rfl (by omega) (HL.out.later ((HL2.out.trans LAT.out).trans lz)) H64.out)
       have HCO := Lib.hid (fun w' (lz : Later wr w') => col_10 T 20 A n c bs w' (by omega) (by omega) HBS.out (HR.out.later ((HL2.out.trans LAT.out).trans lz)) H256.out)
       obtain ⟨m1, hm1⟩ : ∃ m, b1.length = m := ⟨_, rfl⟩
       have HM1 := Lib.hid hm1
       rw [hm1] at hz1
       have HR1 := Lib.hid hr1
       have HB1 := Lib.hid hb1
       have HZ1 := Lib.hid hz1
       have lz := Later.refl wr
       have hkk : (k : Int) < 6 := by omega
       have hii : (i : Int) < 5 := by omega
       have HSR := Lib.hid (HS.out.later (HL2.out.trans LAT.out))
       clear lat hE CE hU hP hr1 hb1 hz1 hm1 HRB HB256 HBT HBE CT HL H64 HR H256 HBS HS hbc hcb hb60 hl20 hn hlt hj hi hi5 hk LATI
       have HD0 := Lib.hid d0
       have HD1 := Lib.hid d1
       have LZ := Lib.hid lz
       clear d0 d1 lz
       go_upto_region 17 with fail
       go_cut [18, 19] from 82 to 93 (fun p1 p2 wx => p1 = .int .i64 U ∧ p2 = .bool P ∧ Later wr wx)
       case first => as_aux_lemma =>
        refine wp_region_K (S := (fun W : World => Later wr W)) (R := fun a b => a = b) (fun _ => rfl) (by kernel_rfl) ?_
        obtain ⟨y0, hy0⟩ : ∃ x, (wr).drew = x := ⟨_, rfl⟩
        have ly0 : Later wr y0 := hy0 ▸ (Later.refl wr).drew
        have hS : (fun W : World => Later wr W) y0 := ly0
        
        rw [hy0]
        clear hy0
        refine wpAnyK_take (fun _ => rfl) (fun _ _ _ h k => h.trans k) (fun _ _ h k => k ▸ h) (i := 0) (oi := { dst := some 83, op := _, type := _, pos := _, after := _, guard := _ }) (v := ?_) rfl (by kernel_rfl) (by kernel_rfl) (by kernel_rfl) (fun _ _ _ h => h) (Or.inl (Or.inl ⟨by rfl, ?_⟩)) hS ?_
        rotate_left
        focus ((intro w hSw; (try dsimp only at hSw); skip; go_simp); (try with_reducible rfl))
        intro wq hwq
        subst hwq
        (try simp only [Act.put, List.setIfInBounds_toArray, List.set_cons_zero, List.set_cons_succ])
        refine wpAnyK_take (fun _ => rfl) (fun _ _ _ h k => h.trans k) (fun _ _ h k => k ▸ h) (i := 1) (oi := { dst := some 84, op := _, type := _, pos := _, after := _, guard := _ }) (v := ?_) rfl (by kernel_rfl) (by kernel_rfl) (by kernel_rfl) (fun _ _ _ h => h) (Or.inl (Or.inl ⟨by rfl, ?_⟩)) hS ?_
        rotate_left
        focus ((intro w hSw; (try dsimp only at hSw); skip; go_simp); (try with_reducible rfl))
        intro wq hwq
        subst hwq
        (try simp only [Act.put, List.setIfInBounds_toArray, List.set_cons_zero, List.set_cons_succ])
        refine wpAnyK_take (fun _ => rfl) (fun _ _ _ h k => h.trans k) (fun _ _ h k => k ▸ h) (i := 2) (oi := { dst := some 85, op := _, type := _, pos := _, after := _, guard := _ }) (v := ?_) rfl (by kernel_rfl) (by kernel_rfl) (by kernel_rfl) (fun _ _ _ h => h) (Or.inl (Or.inl ⟨by rfl, ?_⟩)) hS ?_
        rotate_left
        focus ((intro w hSw; (try dsimp only at hSw); skip; go_simp); (try with_reducible rfl))
        intro wq hwq
        subst hwq
        (try simp only [Act.put, List.setIfInBounds_toArray, List.set_cons_zero, List.set_cons_succ])
        refine wpAnyK_take (fun _ => rfl) (fun _ _ _ h k => h.trans k) (fun _ _ h k => k ▸ h) (i := 3) (oi := { dst := some 86, op := _, type := _, pos := _, after := _, guard := _ }) (v := ?_) rfl (by kernel_rfl) (by kernel_rfl) (by kernel_rfl) (fun _ _ _ h => h) (Or.inl (Or.inl ⟨by rfl, ?_⟩)) hS ?_
        rotate_left
        focus ((intro w hSw; (try dsimp only at hSw); have d0 := HD0.out.later hSw; have d1 := HD1.out.later hSw; have d0 := d0.out; have d1 := d1.out; go_simp); (try with_reducible rfl))
        intro wq hwq
        subst hwq
        (try simp only [Act.put, List.setIfInBounds_toArray, List.set_cons_zero, List.set_cons_succ])
        refine wpAnyK_take (fun _ => rfl) (fun _ _ _ h k => h.trans k) (fun _ _ h k => k ▸ h) (i := 4) (oi := { dst := some 87, op := _, type := _, pos := _, after := _, guard := _ }) (v := ?_) rfl (by kernel_rfl) (by kernel_rfl) (by kernel_rfl) (fun _ _ _ h => h) (Or.inl (Or.inl ⟨by rfl, ?_⟩)) hS ?_
        rotate_left
        focus ((intro w hSw; (try dsimp only at hSw); skip; go_simp); (try with_reducible rfl))
        intro wq hwq
        subst hwq
        (try simp only [Act.put, List.setIfInBounds_toArray, List.set_cons_zero, List.set_cons_succ])
        refine wpAnyK_take (fun _ => rfl) (fun _ _ _ h k => h.trans k) (fun _ _ h k => k ▸ h) (i := 5) (oi := { dst := some 88, op := _, type := _, pos := _, after := _, guard := _ }) (v := ?_) rfl (by kernel_rfl) (by kernel_rfl) (by kernel_rfl) (fun _ _ _ h => h) (Or.inl (Or.inl ⟨by rfl, ?_⟩)) hS ?_
        rotate_left
        focus ((intro w hSw; (try dsimp only at hSw); skip; go_simp); (try with_reducible rfl))
        intro wq hwq
        subst hwq
        (try simp only [Act.put, List.setIfInBounds_toArray, List.set_cons_zero, List.set_cons_succ])
        refine wpAnyK_take (fun _ => rfl) (fun _ _ _ h k => h.trans k) (fun _ _ h k => k ▸ h) (i := 6) (oi := { dst := some 89, op := _, type := _, pos := _, after := _, guard := _ }) (v := ?_) rfl (by kernel_rfl) (by kernel_rfl) (by kernel_rfl) (fun _ _ _ h => h) (Or.inl (Or.inl ⟨by rfl, ?_⟩)) hS ?_
        rotate_left
        focus ((intro w hSw; (try dsimp only at hSw); skip; go_simp); (try with_reducible rfl))
        intro wq hwq
        subst hwq
        (try simp only [Act.put, List.setIfInBounds_toArray, List.set_cons_zero, List.set_cons_succ])
        refine wpAnyK_take (fun _ => rfl) (fun _ _ _ h k => h.trans k) (fun _ _ h k => k ▸ h) (i := 7) (oi := { dst := some 90, op := _, type := _, pos := _, after := _, guard := _ }) (v := ?_) rfl (by kernel_rfl) (by kernel_rfl) (by kernel_rfl) (fun _ _ _ h => h) (Or.inl (Or.inl ⟨by rfl, ?_⟩)) hS ?_
        rotate_left
        focus ((intro w hSw; (try dsimp only at hSw); have d0 := HD0.out.later hSw; have d1 := HD1.out.later hSw; have d0 := d0.out; have d1 := d1.out; go_simp); (try with_reducible rfl))
        intro wq hwq
        subst hwq
        (try simp only [Act.put, List.setIfInBounds_toArray, List.set_cons_zero, List.set_cons_succ])
        refine wpAnyK_all (rs := [8]) (by kernel_rfl) (by simp) (fun i hi => ?_)
        simp only [List.mem_cons, List.not_mem_nil, or_false] at hi
        subst hi
        refine stepK (o := { dst := some 91, op := _, type := _, pos := _, after := _, guard := _ }) rfl (fun K hK => ?_)
        go_simp
        refine (HUS.out _ (LZ.out.trans hS)).mono ?_
        rintro e y1 ⟨rfl, lc⟩
        replace hS : (fun W : World => Later wr W) y1 := Later.trans hS lc
        refine hK _ _ hS fun wq hwq => ?_
        subst hwq
        clear hK lc
        (try simp only [Act.put, List.setIfInBounds_toArray, List.set_cons_zero, List.set_cons_succ])
        refine wpAnyK_take (fun _ => rfl) (fun _ _ _ h k => h.trans k) (fun _ _ h k => k ▸ h) (i := 9) (oi := { dst := some 82, op := _, type := _, pos := _, after := _, guard := _ }) (v := ?_) rfl (by kernel_rfl) (by kernel_rfl) (by kernel_rfl) (fun _ _ _ h => h) (Or.inl (Or.inl ⟨by rfl, ?_⟩)) hS ?_
        rotate_left
        focus ((intro w hSw; (try dsimp only at hSw); skip; go_simp); (try with_reducible rfl))
        intro wq hwq
        subst hwq
        (try simp only [Act.put, List.setIfInBounds_toArray, List.set_cons_zero, List.set_cons_succ])
        refine wpAnyK_take (fun _ => rfl) (fun _ _ _ h k => h.trans k) (fun _ _ h k => k ▸ h) (i := 10) (oi := { dst := some 92, op := _, type := _, pos := _, after := _, guard := _ }) (v := ?_) rfl (by kernel_rfl) (by kernel_rfl) (by kernel_rfl) (fun _ _ _ h => h) (Or.inl (Or.inl ⟨by rfl, ?_⟩)) hS ?_
        rotate_left
        focus ((intro w hSw; (try dsimp only at hSw); skip; go_simp); (try with_reducible rfl))
        intro wq hwq
        subst hwq
        (try simp only [Act.put, List.setIfInBounds_toArray, List.set_cons_zero, List.set_cons_succ])
        refine wpAnyK_take (fun _ => rfl) (fun _ _ _ h k => h.trans k) (fun _ _ h k => k ▸ h) (i := 11) (oi := { dst := some 93, op := _, type := _, pos := _, after := _, guard := _ }) (v := ?_) rfl (by kernel_rfl) (by kernel_rfl) (by kernel_rfl) (fun _ _ _ h => h) (Or.inl (Or.inl ⟨by rfl, ?_⟩)) hS ?_
        rotate_left
        focus ((intro w hSw; (try dsimp only at hSw); skip; go_simp); (try with_reducible rfl))
        intro wq hwq
        subst hwq
        (try simp only [Act.put, List.setIfInBounds_toArray, List.set_cons_zero, List.set_cons_succ])
        refine wpAnyK_take (fun _ => rfl) (fun _ _ _ h k => h.trans k) (fun _ _ h k => k ▸ h) (i := 12) (oi := { dst := some 18, op := _, type := _, pos := _, after := _, guard := _ }) (v := ?_) rfl (by kernel_rfl) (by kernel_rfl) (by kernel_rfl) (fun _ _ _ h => h) (Or.inl (Or.inl ⟨by rfl, ?_⟩)) hS ?_
        rotate_left
        focus ((intro w hSw; (try dsimp only at hSw); skip; go_simp); (try with_reducible rfl))
        intro wq hwq
        subst hwq
        (try simp only [Act.put, List.setIfInBounds_toArray, List.set_cons_zero, List.set_cons_succ])
        refine wpAnyK_take (fun _ => rfl) (fun _ _ _ h k => h.trans k) (fun _ _ h k => k ▸ h) (i := 13) (oi := { dst := some 19, op := _, type := _, pos := _, after := _, guard := _ }) (v := ?_) rfl (by kernel_rfl) (by kernel_rfl) (by kernel_rfl) (fun _ _ _ h => h) (Or.inl (Or.inl ⟨by rfl, ?_⟩)) hS ?_
        rotate_left
        focus ((intro w hSw; (try dsimp only at hSw); skip; go_simp); (try with_reducible rfl))
        intro wq hwq
        subst hwq
        (try simp only [Act.put, List.setIfInBounds_toArray, List.set_cons_zero, List.set_cons_succ])
        refine wpAnyK_done (by kernel_rfl) ?_ _
        go_wp2_with fail
        go_meet
        exact ⟨rfl, rfl, hS⟩
       case rest =>
       obtain ⟨rfl, rfl, lx⟩ := hcut
       replace HD0 := Lib.hid (HD0.out.later lx)
       replace HD1 := Lib.hid (HD1.out.later lx)
       replace LZ := Lib.hid (LZ.out.trans lx)
       clear lx HUS
       go_upto_region 18 with fail
       go_cut [20, 21] from 94 to 105 (fun p1 p2 wx => p1 = .int .i64 U ∧ p2 = .bool P ∧ Later wc wx)
       case first => as_aux_lemma =>
        refine wp_region_K (S := (fun W : World => Later wc W)) (R := fun a b => a = b) (fun _ => rfl) (by kernel_rfl) ?_
        obtain ⟨y0, hy0⟩ : ∃ x, (wc).drew = x := ⟨_, rfl⟩
        have ly0 : Later wc y0 := hy0 ▸ (Later.refl wc).drew
        have hS : (fun W : World => Later wc W) y0 := ly0
        
        rw [hy0]
        clear hy0
        refine wpAnyK_take (fun _ => rfl) (fun _ _ _ h k => h.trans k) (fun _ _ h k => k ▸ h) (i := 0) (oi := { dst := some 95, op := _, type := _, pos := _, after := _, guard := _ }) (v := ?_) rfl (by kernel_rfl) (by kernel_rfl) (by kernel_rfl) (fun _ _ _ h => h) (Or.inl (Or.inl ⟨by rfl, ?_⟩)) hS ?_
        rotate_left
        focus ((intro w hSw; (try dsimp only at hSw); skip; go_simp); (try with_reducible rfl))
        intro wq hwq
        subst hwq
        (try simp only [Act.put, List.setIfInBounds_toArray, List.set_cons_zero, List.set_cons_succ])
        refine wpAnyK_take (fun _ => rfl) (fun _ _ _ h k => h.trans k) (fun _ _ h k => k ▸ h) (i := 1) (oi := { dst := some 96, op := _, type := _, pos := _, after := _, guard := _ }) (v := ?_) rfl (by kernel_rfl) (by kernel_rfl) (by kernel_rfl) (fun _ _ _ h => h) (Or.inl (Or.inl ⟨by rfl, ?_⟩)) hS ?_
        rotate_left
        focus ((intro w hSw; (try dsimp only at hSw); skip; go_simp); (try with_reducible rfl))
        intro wq hwq
        subst hwq
        (try simp only [Act.put, List.setIfInBounds_toArray, List.set_cons_zero, List.set_cons_succ])
        refine wpAnyK_take (fun _ => rfl) (fun _ _ _ h k => h.trans k) (fun _ _ h k => k ▸ h) (i := 2) (oi := { dst := some 97, op := _, type := _, pos := _, after := _, guard := _ }) (v := ?_) rfl (by kernel_rfl) (by kernel_rfl) (by kernel_rfl) (fun _ _ _ h => h) (Or.inl (Or.inl ⟨by rfl, ?_⟩)) hS ?_
        rotate_left
        focus ((intro w hSw; (try dsimp only at hSw); skip; go_simp); (try with_reducible rfl))
        intro wq hwq
        subst hwq
        (try simp only [Act.put, List.setIfInBounds_toArray, List.set_cons_zero, List.set_cons_succ])
        refine wpAnyK_take (fun _ => rfl) (fun _ _ _ h k => h.trans k) (fun _ _ h k => k ▸ h) (i := 3) (oi := { dst := some 98, op := _, type := _, pos := _, after := _, guard := _ }) (v := ?_) rfl (by kernel_rfl) (by kernel_rfl) (by kernel_rfl) (fun _ _ _ h => h) (Or.inl (Or.inl ⟨by rfl, ?_⟩)) hS ?_
        rotate_left
        focus ((intro w hSw; (try dsimp only at hSw); have d0 := HD0.out.later hSw; have d1 := HD1.out.later hSw; have d0 := d0.out; have d1 := d1.out; go_simp); (try with_reducible rfl))
        intro wq hwq
        subst hwq
        (try simp only [Act.put, List.setIfInBounds_toArray, List.set_cons_zero, List.set_cons_succ])
        refine wpAnyK_take (fun _ => rfl) (fun _ _ _ h k => h.trans k) (fun _ _ h k => k ▸ h) (i := 4) (oi := { dst := some 99, op := _, type := _, pos := _, after := _, guard := _ }) (v := ?_) rfl (by kernel_rfl) (by kernel_rfl) (by kernel_rfl) (fun _ _ _ h => h) (Or.inl (Or.inl ⟨by rfl, ?_⟩)) hS ?_
        rotate_left
        focus ((intro w hSw; (try dsimp only at hSw); skip; go_simp); (try with_reducible rfl))
        intro wq hwq
        subst hwq
        (try simp only [Act.put, List.setIfInBounds_toArray, List.set_cons_zero, List.set_cons_succ])
        refine wpAnyK_take (fun _ => rfl) (fun _ _ _ h k => h.trans k) (fun _ _ h k => k ▸ h) (i := 5) (oi := { dst := some 100, op := _, type := _, pos := _, after := _, guard := _ }) (v := ?_) rfl (by kernel_rfl) (by kernel_rfl) (by kernel_rfl) (fun _ _ _ h => h) (Or.inl (Or.inl ⟨by rfl, ?_⟩)) hS ?_
        rotate_left
        focus ((intro w hSw; (try dsimp only at hSw); skip; go_simp); (try with_reducible rfl))
        intro wq hwq
        subst hwq
        (try simp only [Act.put, List.setIfInBounds_toArray, List.set_cons_zero, List.set_cons_succ])
        refine wpAnyK_take (fun _ => rfl) (fun _ _ _ h k => h.trans k) (fun _ _ h k => k ▸ h) (i := 6) (oi := { dst := some 101, op := _, type := _, pos := _, after := _, guard := _ }) (v := ?_) rfl (by kernel_rfl) (by kernel_rfl) (by kernel_rfl) (fun _ _ _ h => h) (Or.inl (Or.inl ⟨by rfl, ?_⟩)) hS ?_
        rotate_left
        focus ((intro w hSw; (try dsimp only at hSw); skip; go_simp); (try with_reducible rfl))
        intro wq hwq
        subst hwq
        (try simp only [Act.put, List.setIfInBounds_toArray, List.set_cons_zero, List.set_cons_succ])
        refine wpAnyK_take (fun _ => rfl) (fun _ _ _ h k => h.trans k) (fun _ _ h k => k ▸ h) (i := 7) (oi := { dst := some 102, op := _, type := _, pos := _, after := _, guard := _ }) (v := ?_) rfl (by kernel_rfl) (by kernel_rfl) (by kernel_rfl) (fun _ _ _ h => h) (Or.inl (Or.inl ⟨by rfl, ?_⟩)) hS ?_
        rotate_left
        focus ((intro w hSw; (try dsimp only at hSw); have d0 := HD0.out.later hSw; have d1 := HD1.out.later hSw; have d0 := d0.out; have d1 := d1.out; go_simp); (try with_reducible rfl))
        intro wq hwq
        subst hwq
        (try simp only [Act.put, List.setIfInBounds_toArray, List.set_cons_zero, List.set_cons_succ])
        refine wpAnyK_all (rs := [8]) (by kernel_rfl) (by simp) (fun i hi => ?_)
        simp only [List.mem_cons, List.not_mem_nil, or_false] at hi
        subst hi
        refine stepK (o := { dst := some 103, op := _, type := _, pos := _, after := _, guard := _ }) rfl (fun K hK => ?_)
        go_simp
        refine (HUR.out _ (LZ.out.trans hS)).mono ?_
        rintro e y1 ⟨rfl, lc⟩
        replace hS : (fun W : World => Later wc W) y1 := Later.trans hS lc
        refine hK _ _ hS fun wq hwq => ?_
        subst hwq
        clear hK lc
        (try simp only [Act.put, List.setIfInBounds_toArray, List.set_cons_zero, List.set_cons_succ])
        refine wpAnyK_take (fun _ => rfl) (fun _ _ _ h k => h.trans k) (fun _ _ h k => k ▸ h) (i := 9) (oi := { dst := some 94, op := _, type := _, pos := _, after := _, guard := _ }) (v := ?_) rfl (by kernel_rfl) (by kernel_rfl) (by kernel_rfl) (fun _ _ _ h => h) (Or.inl (Or.inl ⟨by rfl, ?_⟩)) hS ?_
        rotate_left
        focus ((intro w hSw; (try dsimp only at hSw); skip; go_simp); (try with_reducible rfl))
        intro wq hwq
        subst hwq
        (try simp only [Act.put, List.setIfInBounds_toArray, List.set_cons_zero, List.set_cons_succ])
        refine wpAnyK_take (fun _ => rfl) (fun _ _ _ h k => h.trans k) (fun _ _ h k => k ▸ h) (i := 10) (oi := { dst := some 104, op := _, type := _, pos := _, after := _, guard := _ }) (v := ?_) rfl (by kernel_rfl) (by kernel_rfl) (by kernel_rfl) (fun _ _ _ h => h) (Or.inl (Or.inl ⟨by rfl, ?_⟩)) hS ?_
        rotate_left
        focus ((intro w hSw; (try dsimp only at hSw); skip; go_simp); (try with_reducible rfl))
        intro wq hwq
        subst hwq
        (try simp only [Act.put, List.setIfInBounds_toArray, List.set_cons_zero, List.set_cons_succ])
        refine wpAnyK_take (fun _ => rfl) (fun _ _ _ h k => h.trans k) (fun _ _ h k => k ▸ h) (i := 11) (oi := { dst := some 105, op := _, type := _, pos := _, after := _, guard := _ }) (v := ?_) rfl (by kernel_rfl) (by kernel_rfl) (by kernel_rfl) (fun _ _ _ h => h) (Or.inl (Or.inl ⟨by rfl, ?_⟩)) hS ?_
        rotate_left
        focus ((intro w hSw; (try dsimp only at hSw); skip; go_simp); (try with_reducible rfl))
        intro wq hwq
        subst hwq
        (try simp only [Act.put, List.setIfInBounds_toArray, List.set_cons_zero, List.set_cons_succ])
        refine wpAnyK_take (fun _ => rfl) (fun _ _ _ h k => h.trans k) (fun _ _ h k => k ▸ h) (i := 12) (oi := { dst := some 20, op := _, type := _, pos := _, after := _, guard := _ }) (v := ?_) rfl (by kernel_rfl) (by kernel_rfl) (by kernel_rfl) (fun _ _ _ h => h) (Or.inl (Or.inl ⟨by rfl, ?_⟩)) hS ?_
        rotate_left
        focus ((intro w hSw; (try dsimp only at hSw); skip; go_simp); (try with_reducible rfl))
        intro wq hwq
        subst hwq
        (try simp only [Act.put, List.setIfInBounds_toArray, List.set_cons_zero, List.set_cons_succ])
        refine wpAnyK_take (fun _ => rfl) (fun _ _ _ h k => h.trans k) (fun _ _ h k => k ▸ h) (i := 13) (oi := { dst := some 21, op := _, type := _, pos := _, after := _, guard := _ }) (v := ?_) rfl (by kernel_rfl) (by kernel_rfl) (by kernel_rfl) (fun _ _ _ h => h) (Or.inl (Or.inl ⟨by rfl, ?_⟩)) hS ?_
        rotate_left
        focus ((intro w hSw; (try dsimp only at hSw); skip; go_simp); (try with_reducible rfl))
        intro wq hwq
        subst hwq
        (try simp only [Act.put, List.setIfInBounds_toArray, List.set_cons_zero, List.set_cons_succ])
        refine wpAnyK_done (by kernel_rfl) ?_ _
        go_wp2_with fail
        go_meet
        exact ⟨rfl, rfl, hS⟩
       case rest =>
       obtain ⟨rfl, rfl, lx⟩ := hcut
       replace HD0 := Lib.hid (HD0.out.later lx)
       replace HD1 := Lib.hid (HD1.out.later lx)
       replace LZ := Lib.hid (LZ.out.trans lx)
       clear lx HUR
       go_upto_region 19 with fail
       go_cut [22, 23] from 106 to 118 (fun p1 p2 wx => ∃ A c, p1 = .slice A m1 c ∧ p2 = .bool r1 ∧ Has wx A (ints .u8 b1) ∧ Later wc wx)
       case first => as_aux_lemma =>
        refine wp_region_K (S := (fun W : World => Later wc W)) (R := fun a b => a = b) (fun _ => rfl) (by kernel_rfl) ?_
        obtain ⟨y0, hy0⟩ : ∃ x, (wc).drew = x := ⟨_, rfl⟩
        have ly0 : Later wc y0 := hy0 ▸ (Later.refl wc).drew
        have hS : (fun W : World => Later wc W) y0 := ly0
        
        rw [hy0]
        clear hy0
        refine wpAnyK_take (fun _ => rfl) (fun _ _ _ h k => h.trans k) (fun _ _ h k => k ▸ h) (i := 0) (oi := { dst := some 107, op := _, type := _, pos := _, after := _, guard := _ }) (v := ?_) rfl (by kernel_rfl) (by kernel_rfl) (by kernel_rfl) (fun _ _ _ h => h) (Or.inl (Or.inl ⟨by rfl, ?_⟩)) hS ?_
        rotate_left
        focus ((intro w hSw; (try dsimp only at hSw); skip; go_simp); (try with_reducible rfl))
        intro wq hwq
        subst hwq
        (try simp only [Act.put, List.setIfInBounds_toArray, List.set_cons_zero, List.set_cons_succ])
        refine wpAnyK_take (fun _ => rfl) (fun _ _ _ h k => h.trans k) (fun _ _ h k => k ▸ h) (i := 1) (oi := { dst := some 108, op := _, type := _, pos := _, after := _, guard := _ }) (v := ?_) rfl (by kernel_rfl) (by kernel_rfl) (by kernel_rfl) (fun _ _ _ h => h) (Or.inl (Or.inl ⟨by rfl, ?_⟩)) hS ?_
        rotate_left
        focus ((intro w hSw; (try dsimp only at hSw); skip; go_simp); (try with_reducible rfl))
        intro wq hwq
        subst hwq
        (try simp only [Act.put, List.setIfInBounds_toArray, List.set_cons_zero, List.set_cons_succ])
        refine wpAnyK_take (fun _ => rfl) (fun _ _ _ h k => h.trans k) (fun _ _ h k => k ▸ h) (i := 2) (oi := { dst := some 109, op := _, type := _, pos := _, after := _, guard := _ }) (v := ?_) rfl (by kernel_rfl) (by kernel_rfl) (by kernel_rfl) (fun _ _ _ h => h) (Or.inl (Or.inl ⟨by rfl, ?_⟩)) hS ?_
        rotate_left
        focus ((intro w hSw; (try dsimp only at hSw); skip; go_simp); (try with_reducible rfl))
        intro wq hwq
        subst hwq
        (try simp only [Act.put, List.setIfInBounds_toArray, List.set_cons_zero, List.set_cons_succ])
        refine wpAnyK_take (fun _ => rfl) (fun _ _ _ h k => h.trans k) (fun _ _ h k => k ▸ h) (i := 3) (oi := { dst := some 110, op := _, type := _, pos := _, after := _, guard := _ }) (v := ?_) rfl (by kernel_rfl) (by kernel_rfl) (by kernel_rfl) (fun _ _ _ h => h) (Or.inl (Or.inl ⟨by rfl, ?_⟩)) hS ?_
        rotate_left
        focus ((intro w hSw; (try dsimp only at hSw); have d0 := HD0.out.later hSw; have d1 := HD1.out.later hSw; have d0 := d0.out; have d1 := d1.out; go_simp); (try with_reducible rfl))
        intro wq hwq
        subst hwq
        (try simp only [Act.put, List.setIfInBounds_toArray, List.set_cons_zero, List.set_cons_succ])
        refine wpAnyK_take (fun _ => rfl) (fun _ _ _ h k => h.trans k) (fun _ _ h k => k ▸ h) (i := 4) (oi := { dst := some 111, op := _, type := _, pos := _, after := _, guard := _ }) (v := ?_) rfl (by kernel_rfl) (by kernel_rfl) (by kernel_rfl) (fun _ _ _ h => h) (Or.inl (Or.inl ⟨by rfl, ?_⟩)) hS ?_
        rotate_left
        focus ((intro w hSw; (try dsimp only at hSw); skip; go_simp); (try with_reducible rfl))
        intro wq hwq
        subst hwq
        (try simp only [Act.put, List.setIfInBounds_toArray, List.set_cons_zero, List.set_cons_succ])
        refine wpAnyK_take (fun _ => rfl) (fun _ _ _ h k => h.trans k) (fun _ _ h k => k ▸ h) (i := 5) (oi := { dst := some 112, op := _, type := _, pos := _, after := _, guard := _ }) (v := ?_) rfl (by kernel_rfl) (by kernel_rfl) (by kernel_rfl) (fun _ _ _ h => h) (Or.inl (Or.inl ⟨by rfl, ?_⟩)) hS ?_
        rotate_left
        focus ((intro w hSw; (try dsimp only at hSw); skip; go_simp); (try with_reducible rfl))
        intro wq hwq
        subst hwq
        (try simp only [Act.put, List.setIfInBounds_toArray, List.set_cons_zero, List.set_cons_succ])
        refine wpAnyK_take (fun _ => rfl) (fun _ _ _ h k => h.trans k) (fun _ _ h k => k ▸ h) (i := 6) (oi := { dst := some 113, op := _, type := _, pos := _, after := _, guard := _ }) (v := ?_) rfl (by kernel_rfl) (by kernel_rfl) (by kernel_rfl) (fun _ _ _ h => h) (Or.inl (Or.inl ⟨by rfl, ?_⟩)) hS ?_
        rotate_left
        focus ((intro w hSw; (try dsimp only at hSw); skip; go_simp); (try with_reducible rfl))
        intro wq hwq
        subst hwq
        (try simp only [Act.put, List.setIfInBounds_toArray, List.set_cons_zero, List.set_cons_succ])
        refine wpAnyK_take (fun _ => rfl) (fun _ _ _ h k => h.trans k) (fun _ _ h k => k ▸ h) (i := 7) (oi := { dst := some 114, op := _, type := _, pos := _, after := _, guard := _ }) (v := ?_) rfl (by kernel_rfl) (by kernel_rfl) (by kernel_rfl) (fun _ _ _ h => h) (Or.inl (Or.inl ⟨by rfl, ?_⟩)) hS ?_
        rotate_left
        focus ((intro w hSw; (try dsimp only at hSw); have d0 := HD0.out.later hSw; have d1 := HD1.out.later hSw; have d0 := d0.out; have d1 := d1.out; go_simp); (try with_reducible rfl))
        intro wq hwq
        subst hwq
        (try simp only [Act.put, List.setIfInBounds_toArray, List.set_cons_zero, List.set_cons_succ])
        refine wpAnyK_take (fun _ => rfl) (fun _ _ _ h k => h.trans k) (fun _ _ h k => k ▸ h) (i := 8) (oi := { dst := some 115, op := _, type := _, pos := _, after := _, guard := _ }) (v := ?_) rfl (by kernel_rfl) (by kernel_rfl) (by kernel_rfl) (fun _ _ _ h => h) (Or.inl (Or.inl ⟨by rfl, ?_⟩)) hS ?_
        rotate_left
        focus ((intro w hSw; (try dsimp only at hSw); skip; go_simp); (try with_reducible rfl))
        intro wq hwq
        subst hwq
        (try simp only [Act.put, List.setIfInBounds_toArray, List.set_cons_zero, List.set_cons_succ])
        refine wpAnyK_all (rs := [9]) (by kernel_rfl) (by simp) (fun i hi => ?_)
        simp only [List.mem_cons, List.not_mem_nil, or_false] at hi
        subst hi
        refine stepK (o := { dst := some 116, op := _, type := _, pos := _, after := _, guard := _ }) rfl (fun K hK => ?_)
        go_simp
        refine (HPL.out _ (LZ.out.trans hS)).mono ?_
        intro e y1 h
        obtain ⟨QA, qc, rfl, ph, lc⟩ := h.uni r1 b1 m1 HR1.out HB1.out HM1.out
        clear h
        have HPH := Lib.hid ph
        clear ph
        replace hS : (fun W : World => Later wc W) y1 := Later.trans hS lc
        refine hK _ _ hS fun wq hwq => ?_
        subst hwq
        clear hK lc
        (try simp only [Act.put, List.setIfInBounds_toArray, List.set_cons_zero, List.set_cons_succ])
        refine wpAnyK_take (fun _ => rfl) (fun _ _ _ h k => h.trans k) (fun _ _ h k => k ▸ h) (i := 10) (oi := { dst := some 106, op := _, type := _, pos := _, after := _, guard := _ }) (v := ?_) rfl (by kernel_rfl) (by kernel_rfl) (by kernel_rfl) (fun _ _ _ h => h) (Or.inl (Or.inl ⟨by rfl, ?_⟩)) hS ?_
        rotate_left
        focus ((intro w hSw; (try dsimp only at hSw); skip; go_simp); (try with_reducible rfl))
        intro wq hwq
        subst hwq
        (try simp only [Act.put, List.setIfInBounds_toArray, List.set_cons_zero, List.set_cons_succ])
        refine wpAnyK_take (fun _ => rfl) (fun _ _ _ h k => h.trans k) (fun _ _ h k => k ▸ h) (i := 11) (oi := { dst := some 117, op := _, type := _, pos := _, after := _, guard := _ }) (v := ?_) rfl (by kernel_rfl) (by kernel_rfl) (by kernel_rfl) (fun _ _ _ h => h) (Or.inl (Or.inl ⟨by rfl, ?_⟩)) hS ?_
        rotate_left
        focus ((intro w hSw; (try dsimp only at hSw); skip; go_simp); (try with_reducible rfl))
        intro wq hwq
        subst hwq
        (try simp only [Act.put, List.setIfInBounds_toArray, List.set_cons_zero, List.set_cons_succ])
        refine wpAnyK_take (fun _ => rfl) (fun _ _ _ h k => h.trans k) (fun _ _ h k => k ▸ h) (i := 12) (oi := { dst := some 118, op := _, type := _, pos := _, after := _, guard := _ }) (v := ?_) rfl (by kernel_rfl) (by kernel_rfl) (by kernel_rfl) (fun _ _ _ h => h) (Or.inl (Or.inl ⟨by rfl, ?_⟩)) hS ?_
        rotate_left
        focus ((intro w hSw; (try dsimp only at hSw); skip; go_simp); (try with_reducible rfl))
        intro wq hwq
        subst hwq
        (try simp only [Act.put, List.setIfInBounds_toArray, List.set_cons_zero, List.set_cons_succ])
        refine wpAnyK_take (fun _ => rfl) (fun _ _ _ h k => h.trans k) (fun _ _ h k => k ▸ h) (i := 13) (oi := { dst := some 22, op := _, type := _, pos := _, after := _, guard := _ }) (v := ?_) rfl (by kernel_rfl) (by kernel_rfl) (by kernel_rfl) (fun _ _ _ h => h) (Or.inl (Or.inl ⟨by rfl, ?_⟩)) hS ?_
        rotate_left
        focus ((intro w hSw; (try dsimp only at hSw); skip; go_simp); (try with_reducible rfl))
        intro wq hwq
        subst hwq
        (try simp only [Act.put, List.setIfInBounds_toArray, List.set_cons_zero, List.set_cons_succ])
        refine wpAnyK_take (fun _ => rfl) (fun _ _ _ h k => h.trans k) (fun _ _ h k => k ▸ h) (i := 14) (oi := { dst := some 23, op := _, type := _, pos := _, after := _, guard := _ }) (v := ?_) rfl (by kernel_rfl) (by kernel_rfl) (by kernel_rfl) (fun _ _ _ h => h) (Or.inl (Or.inl ⟨by rfl, ?_⟩)) hS ?_
        rotate_left
        focus ((intro w hSw; (try dsimp only at hSw); skip; go_simp); (try with_reducible rfl))
        intro wq hwq
        subst hwq
        (try simp only [Act.put, List.setIfInBounds_toArray, List.set_cons_zero, List.set_cons_succ])
        refine wpAnyK_done (by kernel_rfl) ?_ _
        go_wp2_with fail
        go_meet
        exact ⟨QA, qc, rfl, rfl, HPH.out, hS⟩
       case rest =>
       obtain ⟨A1, c1, rfl, rfl, ph, lx⟩ := hcut
       replace HD0 := Lib.hid (HD0.out.later lx)
       replace HD1 := Lib.hid (HD1.out.later lx)
       replace LZ := Lib.hid (LZ.out.trans lx)
       have P1 := Lib.hid ph
       clear lx ph HPL
       go_upto_region 20 with fail
       go_cut [24, 25] from 119 to 131 (fun p1 p2 wx => ∃ A c, p1 = .slice A m1 c ∧ p2 = .bool r1 ∧ Has wx A (ints .u8 b1) ∧ Later wc wx)
       case first => as_aux_lemma =>
        refine wp_region_K (S := (fun W : World => Later wc W)) (R := fun a b => a = b) (fun _ => rfl) (by kernel_rfl) ?_
        obtain ⟨y0, hy0⟩ : ∃ x, (wc).drew = x := ⟨_, rfl⟩
        have ly0 : Later wc y0 := hy0 ▸ (Later.refl wc).drew
        have hS : (fun W : World => Later wc W) y0 := ly0
        
        rw [hy0]
        clear hy0
        refine wpAnyK_take (fun _ => rfl) (fun _ _ _ h k => h.trans k) (fun _ _ h k => k ▸ h) (i := 0) (oi := { dst := some 120, op := _, type := _, pos := _, after := _, guard := _ }) (v := ?_) rfl (by kernel_rfl) (by kernel_rfl) (by kernel_rfl) (fun _ _ _ h => h) (Or.inl (Or.inl ⟨by rfl, ?_⟩)) hS ?_
        rotate_left
        focus ((intro w hSw; (try dsimp only at hSw); skip; go_simp); (try with_reducible rfl))
        intro wq hwq
        subst hwq
        (try simp only [Act.put, List.setIfInBounds_toArray, List.set_cons_zero, List.set_cons_succ])
        refine wpAnyK_take (fun _ => rfl) (fun _ _ _ h k => h.trans k) (fun _ _ h k => k ▸ h) (i := 1) (oi := { dst := some 121, op := _, type := _, pos := _, after := _, guard := _ }) (v := ?_) rfl (by kernel_rfl) (by kernel_rfl) (by kernel_rfl) (fun _ _ _ h => h) (Or.inl (Or.inl ⟨by rfl, ?_⟩)) hS ?_
        rotate_left
        focus ((intro w hSw; (try dsimp only at hSw); skip; go_simp); (try with_reducible rfl))
        intro wq hwq
        subst hwq
        (try simp only [Act.put, List.setIfInBounds_toArray, List.set_cons_zero, List.set_cons_succ])
        refine wpAnyK_take (fun _ => rfl) (fun _ _ _ h k => h.trans k) (fun _ _ h k => k ▸ h) (i := 2) (oi := { dst := some 122, op := _, type := _, pos := _, after := _, guard := _ }) (v := ?_) rfl (by kernel_rfl) (by kernel_rfl) (by kernel_rfl) (fun _ _ _ h => h) (Or.inl (Or.inl ⟨by rfl, ?_⟩)) hS ?_
        rotate_left
        focus ((intro w hSw; (try dsimp only at hSw); skip; go_simp); (try with_reducible rfl))
        intro wq hwq
        subst hwq
        (try simp only [Act.put, List.setIfInBounds_toArray, List.set_cons_zero, List.set_cons_succ])
        refine wpAnyK_take (fun _ => rfl) (fun _ _ _ h k => h.trans k) (fun _ _ h k => k ▸ h) (i := 3) (oi := { dst := some 123, op := _, type := _, pos := _, after := _, guard := _ }) (v := ?_) rfl (by kernel_rfl) (by kernel_rfl) (by kernel_rfl) (fun _ _ _ h => h) (Or.inl (Or.inl ⟨by rfl, ?_⟩)) hS ?_
        rotate_left
        focus ((intro w hSw; (try dsimp only at hSw); have d0 := HD0.out.later hSw; have d1 := HD1.out.later hSw; have d0 := d0.out; have d1 := d1.out; go_simp); (try with_reducible rfl))
        intro wq hwq
        subst hwq
        (try simp only [Act.put, List.setIfInBounds_toArray, List.set_cons_zero, List.set_cons_succ])
        refine wpAnyK_take (fun _ => rfl) (fun _ _ _ h k => h.trans k) (fun _ _ h k => k ▸ h) (i := 4) (oi := { dst := some 124, op := _, type := _, pos := _, after := _, guard := _ }) (v := ?_) rfl (by kernel_rfl) (by kernel_rfl) (by kernel_rfl) (fun _ _ _ h => h) (Or.inl (Or.inl ⟨by rfl, ?_⟩)) hS ?_
        rotate_left
        focus ((intro w hSw; (try dsimp only at hSw); skip; go_simp); (try with_reducible rfl))
        intro wq hwq
        subst hwq
        (try simp only [Act.put, List.setIfInBounds_toArray, List.set_cons_zero, List.set_cons_succ])
        refine wpAnyK_take (fun _ => rfl) (fun _ _ _ h k => h.trans k) (fun _ _ h k => k ▸ h) (i := 5) (oi := { dst := some 125, op := _, type := _, pos := _, after := _, guard := _ }) (v := ?_) rfl (by kernel_rfl) (by kernel_rfl) (by kernel_rfl) (fun _ _ _ h => h) (Or.inl (Or.inl ⟨by rfl, ?_⟩)) hS ?_
        rotate_left
        focus ((intro w hSw; (try dsimp only at hSw); skip; go_simp); (try with_reducible rfl))
        intro wq hwq
        subst hwq
        (try simp only [Act.put, List.setIfInBounds_toArray, List.set_cons_zero, List.set_cons_succ])
        refine wpAnyK_take (fun _ => rfl) (fun _ _ _ h k => h.trans k) (fun _ _ h k => k ▸ h) (i := 6) (oi := { dst := some 126, op := _, type := _, pos := _, after := _, guard := _ }) (v := ?_) rfl (by kernel_rfl) (by kernel_rfl) (by kernel_rfl) (fun _ _ _ h => h) (Or.inl (Or.inl ⟨by rfl, ?_⟩)) hS ?_
        rotate_left
        focus ((intro w hSw; (try dsimp only at hSw); skip; go_simp); (try with_reducible rfl))
        intro wq hwq
        subst hwq
        (try simp only [Act.put, List.setIfInBounds_toArray, List.set_cons_zero, List.set_cons_succ])
        refine wpAnyK_take (fun _ => rfl) (fun _ _ _ h k => h.trans k) (fun _ _ h k => k ▸ h) (i := 7) (oi := { dst := some 127, op := _, type := _, pos := _, after := _, guard := _ }) (v := ?_) rfl (by kernel_rfl) (by kernel_rfl) (by kernel_rfl) (fun _ _ _ h => h) (Or.inl (Or.inl ⟨by rfl, ?_⟩)) hS ?_
        rotate_left
        focus ((intro w hSw; (try dsimp only at hSw); have d0 := HD0.out.later hSw; have d1 := HD1.out.later hSw; have d0 := d0.out; have d1 := d1.out; go_simp); (try with_reducible rfl))
        intro wq hwq
        subst hwq
        (try simp only [Act.put, List.setIfInBounds_toArray, List.set_cons_zero, List.set_cons_succ])
        refine wpAnyK_take (fun _ => rfl) (fun _ _ _ h k => h.trans k) (fun _ _ h k => k ▸ h) (i := 8) (oi := { dst := some 128, op := _, type := _, pos := _, after := _, guard := _ }) (v := ?_) rfl (by kernel_rfl) (by kernel_rfl) (by kernel_rfl) (fun _ _ _ h => h) (Or.inl (Or.inl ⟨by rfl, ?_⟩)) hS ?_
        rotate_left
        focus ((intro w hSw; (try dsimp only at hSw); skip; go_simp); (try with_reducible rfl))
        intro wq hwq
        subst hwq
        (try simp only [Act.put, List.setIfInBounds_toArray, List.set_cons_zero, List.set_cons_succ])
        refine wpAnyK_all (rs := [9]) (by kernel_rfl) (by simp) (fun i hi => ?_)
        simp only [List.mem_cons, List.not_mem_nil, or_false] at hi
        subst hi
        refine stepK (o := { dst := some 129, op := _, type := _, pos := _, after := _, guard := _ }) rfl (fun K hK => ?_)
        go_simp
        refine (HEL.out _ (LZ.out.trans hS)).mono ?_
        intro e y1 h
        obtain ⟨QA, qc, rfl, ph, lc⟩ := h.uni r1 b1 m1 HR1.out HB1.out HM1.out
        clear h
        have HPH := Lib.hid ph
        clear ph
        replace hS : (fun W : World => Later wc W) y1 := Later.trans hS lc
        refine hK _ _ hS fun wq hwq => ?_
        subst hwq
        clear hK lc
        (try simp only [Act.put, List.setIfInBounds_toArray, List.set_cons_zero, List.set_cons_succ])
        refine wpAnyK_take (fun _ => rfl) (fun _ _ _ h k => h.trans k) (fun _ _ h k => k ▸ h) (i := 10) (oi := { dst := some 119, op := _, type := _, pos := _, after := _, guard := _ }) (v := ?_) rfl (by kernel_rfl) (by kernel_rfl) (by kernel_rfl) (fun _ _ _ h => h) (Or.inl (Or.inl ⟨by rfl, ?_⟩)) hS ?_
        rotate_left
        focus ((intro w hSw; (try dsimp only at hSw); skip; go_simp); (try with_reducible rfl))
        intro wq hwq
        subst hwq
        (try simp only [Act.put, List.setIfInBounds_toArray, List.set_cons_zero, List.set_cons_succ])
        refine wpAnyK_take (fun _ => rfl) (fun _ _ _ h k => h.trans k) (fun _ _ h k => k ▸ h) (i := 11) (oi := { dst := some 130, op := _, type := _, pos := _, after := _, guard := _ }) (v := ?_) rfl (by kernel_rfl) (by kernel_rfl) (by kernel_rfl) (fun _ _ _ h => h) (Or.inl (Or.inl ⟨by rfl, ?_⟩)) hS ?_
        rotate_left
        focus ((intro w hSw; (try dsimp only at hSw); skip; go_simp); (try with_reducible rfl))
        intro wq hwq
        subst hwq
        (try simp only [Act.put, List.setIfInBounds_toArray, List.set_cons_zero, List.set_cons_succ])
        refine wpAnyK_take (fun _ => rfl) (fun _ _ _ h k => h.trans k) (fun _ _ h k => k ▸ h) (i := 12) (oi := { dst := some 131, op := _, type := _, pos := _, after := _, guard := _ }) (v := ?_) rfl (by kernel_rfl) (by kernel_rfl) (by kernel_rfl) (fun _ _ _ h => h) (Or.inl (Or.inl ⟨by rfl, ?_⟩)) hS ?_
        rotate_left
        focus ((intro w hSw; (try dsimp only at hSw); skip; go_simp); (try with_reducible rfl))
        intro wq hwq
        subst hwq
        (try simp only [Act.put, List.setIfInBounds_toArray, List.set_cons_zero, List.set_cons_succ])
        refine wpAnyK_take (fun _ => rfl) (fun _ _ _ h k => h.trans k) (fun _ _ h k => k ▸ h) (i := 13) (oi := { dst := some 24, op := _, type := _, pos := _, after := _, guard := _ }) (v := ?_) rfl (by kernel_rfl) (by kernel_rfl) (by kernel_rfl) (fun _ _ _ h => h) (Or.inl (Or.inl ⟨by rfl, ?_⟩)) hS ?_
        rotate_left
        focus ((intro w hSw; (try dsimp only at hSw); skip; go_simp); (try with_reducible rfl))
        intro wq hwq
        subst hwq
        (try simp only [Act.put, List.setIfInBounds_toArray, List.set_cons_zero, List.set_cons_succ])
        refine wpAnyK_take (fun _ => rfl) (fun _ _ _ h k => h.trans k) (fun _ _ h k => k ▸ h) (i := 14) (oi := { dst := some 25, op := _, type := _, pos := _, after := _, guard := _ }) (v := ?_) rfl (by kernel_rfl) (by kernel_rfl) (by kernel_rfl) (fun _ _ _ h => h) (Or.inl (Or.inl ⟨by rfl, ?_⟩)) hS ?_
        rotate_left
        focus ((intro w hSw; (try dsimp only at hSw); skip; go_simp); (try with_reducible rfl))
        intro wq hwq
        subst hwq
        (try simp only [Act.put, List.setIfInBounds_toArray, List.set_cons_zero, List.set_cons_succ])
        refine wpAnyK_done (by kernel_rfl) ?_ _
        go_wp2_with fail
        go_meet
        exact ⟨QA, qc, rfl, rfl, HPH.out, hS⟩
       case rest =>
       obtain ⟨A2, c2, rfl, rfl, ph, lx⟩ := hcut
       replace HD0 := Lib.hid (HD0.out.later lx)
       replace HD1 := Lib.hid (HD1.out.later lx)
       replace LZ := Lib.hid (LZ.out.trans lx)
       replace P1 := Lib.hid (P1.out.later lx)
       have P2 := Lib.hid ph
       clear lx ph HEL
       have hct := HD0.out.out
       go_wp2_with fail
       refine (HCO.out _ LZ.out).mono ?_
       rintro e w5 ⟨lc, Lc, cc, rfl, hlc, _, h64c, hlc20, _, _, _, l5⟩
       have LZ5 := Lib.hid (LZ.out.trans l5)
       replace HD0 := Lib.hid (HD0.out.later l5)
       replace HD1 := Lib.hid (HD1.out.later l5)
       replace P1 := Lib.hid (P1.out.later l5)
       replace P2 := Lib.hid (P2.out.later l5)
       obtain ⟨r2, b2, hr2, hb2, hz2⟩ := uni_get (o := putC E T lc)
       have HLC := Lib.hid hlc
       have H64C := Lib.hid h64c
       have hlc9 : lc.length ≤ 1000 := by omega
       have HPC := Lib.hid (fun w' (lz : Later w5 w') => colPut_any E T Lc lc.length cc lc w' rfl (HSR.out.later (LZ5.out.trans lz)).s6 hlc9 (HLC.out.later lz) H64C.out)
       have HEC := Lib.hid (fun w' (lz : Later w5 w') => refPutColumn_any E T Lc lc.length cc lc w' rfl hlc9 (HLC.out.later lz) H64C.out)
       obtain ⟨m2, hm2⟩ : ∃ m, b2.length = m := ⟨_, rfl⟩
       have HM2 := Lib.hid hm2
       rw [hm2] at hz2
       have HR2 := Lib.hid hr2
       have HB2 := Lib.hid hb2
       have HZ2 := Lib.hid hz2
       clear LZ
       have LZ := Lib.hid (Later.refl w5)
       clear hct hlc h64c l5 hr2 hb2 hz2 hm2 HCO hlc20 hlc9
       go_upto_region 22 with fail
       go_cut [27, 28] from 138 to 150 (fun p1 p2 wx => ∃ A c, p1 = .slice A m2 c ∧ p2 = .bool r2 ∧ Has wx A (ints .u8 b2) ∧ Later w5 wx)
       case first => as_aux_lemma =>
        refine wp_region_K (S := (fun W : World => Later w5 W)) (R := fun a b => a = b) (fun _ => rfl) (by kernel_rfl) ?_
        obtain ⟨y0, hy0⟩ : ∃ x, (w5).drew = x := ⟨_, rfl⟩
        have ly0 : Later w5 y0 := hy0 ▸ (Later.refl w5).drew
        have hS : (fun W : World => Later w5 W) y0 := ly0
        
        rw [hy0]
        clear hy0
        refine wpAnyK_take (fun _ => rfl) (fun _ _ _ h k => h.trans k) (fun _ _ h k => k ▸ h) (i := 0) (oi := { dst := some 139, op := _, type := _, pos := _, after := _, guard := _ }) (v := ?_) rfl (by kernel_rfl) (by kernel_rfl) (by kernel_rfl) (fun _ _ _ h => h) (Or.inl (Or.inl ⟨by rfl, ?_⟩)) hS ?_
        rotate_left
        focus ((intro w hSw; (try dsimp only at hSw); skip; go_simp); (try with_reducible rfl))
        intro wq hwq
        subst hwq
        (try simp only [Act.put, List.setIfInBounds_toArray, List.set_cons_zero, List.set_cons_succ])
        refine wpAnyK_take (fun _ => rfl) (fun _ _ _ h k => h.trans k) (fun _ _ h k => k ▸ h) (i := 1) (oi := { dst := some 140, op := _, type := _, pos := _, after := _, guard := _ }) (v := ?_) rfl (by kernel_rfl) (by kernel_rfl) (by kernel_rfl) (fun _ _ _ h => h) (Or.inl (Or.inl ⟨by rfl, ?_⟩)) hS ?_
        rotate_left
        focus ((intro w hSw; (try dsimp only at hSw); skip; go_simp); (try with_reducible rfl))
        intro wq hwq
        subst hwq
        (try simp only [Act.put, List.setIfInBounds_toArray, List.set_cons_zero, List.set_cons_succ])
        refine wpAnyK_take (fun _ => rfl) (fun _ _ _ h k => h.trans k) (fun _ _ h k => k ▸ h) (i := 2) (oi := { dst := some 141, op := _, type := _, pos := _, after := _, guard := _ }) (v := ?_) rfl (by kernel_rfl) (by kernel_rfl) (by kernel_rfl) (fun _ _ _ h => h) (Or.inl (Or.inl ⟨by rfl, ?_⟩)) hS ?_
        rotate_left
        focus ((intro w hSw; (try dsimp only at hSw); skip; go_simp); (try with_reducible rfl))
        intro wq hwq
        subst hwq
        (try simp only [Act.put, List.setIfInBounds_toArray, List.set_cons_zero, List.set_cons_succ])
        refine wpAnyK_take (fun _ => rfl) (fun _ _ _ h k => h.trans k) (fun _ _ h k => k ▸ h) (i := 3) (oi := { dst := some 142, op := _, type := _, pos := _, after := _, guard := _ }) (v := ?_) rfl (by kernel_rfl) (by kernel_rfl) (by kernel_rfl) (fun _ _ _ h => h) (Or.inl (Or.inl ⟨by rfl, ?_⟩)) hS ?_
        rotate_left
        focus ((intro w hSw; (try dsimp only at hSw); have d0 := HD0.out.later hSw; have d1 := HD1.out.later hSw; have d0 := d0.out; have d1 := d1.out; go_simp); (try with_reducible rfl))
        intro wq hwq
        subst hwq
        (try simp only [Act.put, List.setIfInBounds_toArray, List.set_cons_zero, List.set_cons_succ])
        refine wpAnyK_take (fun _ => rfl) (fun _ _ _ h k => h.trans k) (fun _ _ h k => k ▸ h) (i := 4) (oi := { dst := some 143, op := _, type := _, pos := _, after := _, guard := _ }) (v := ?_) rfl (by kernel_rfl) (by kernel_rfl) (by kernel_rfl) (fun _ _ _ h => h) (Or.inl (Or.inl ⟨by rfl, ?_⟩)) hS ?_
        rotate_left
        focus ((intro w hSw; (try dsimp only at hSw); skip; go_simp); (try with_reducible rfl))
        intro wq hwq
        subst hwq
        (try simp only [Act.put, List.setIfInBounds_toArray, List.set_cons_zero, List.set_cons_succ])
        refine wpAnyK_take (fun _ => rfl) (fun _ _ _ h k => h.trans k) (fun _ _ h k => k ▸ h) (i := 5) (oi := { dst := some 144, op := _, type := _, pos := _, after := _, guard := _ }) (v := ?_) rfl (by kernel_rfl) (by kernel_rfl) (by kernel_rfl) (fun _ _ _ h => h) (Or.inl (Or.inl ⟨by rfl, ?_⟩)) hS ?_
        rotate_left
        focus ((intro w hSw; (try dsimp only at hSw); skip; go_simp); (try with_reducible rfl))
        intro wq hwq
        subst hwq
        (try simp only [Act.put, List.setIfInBounds_toArray, List.set_cons_zero, List.set_cons_succ])
        refine wpAnyK_take (fun _ => rfl) (fun _ _ _ h k => h.trans k) (fun _ _ h k => k ▸ h) (i := 6) (oi := { dst := some 145, op := _, type := _, pos := _, after := _, guard := _ }) (v := ?_) rfl (by kernel_rfl) (by kernel_rfl) (by kernel_rfl) (fun _ _ _ h => h) (Or.inl (Or.inl ⟨by rfl, ?_⟩)) hS ?_
        rotate_left
        focus ((intro w hSw; (try dsimp only at hSw); skip; go_simp); (try with_reducible rfl))
        intro wq hwq
        subst hwq
        (try simp only [Act.put, List.setIfInBounds_toArray, List.set_cons_zero, List.set_cons_succ])
        refine wpAnyK_take (fun _ => rfl) (fun _ _ _ h k => h.trans k) (fun _ _ h k => k ▸ h) (i := 7) (oi := { dst := some 146, op := _, type := _, pos := _, after := _, guard := _ }) (v := ?_) rfl (by kernel_rfl) (by kernel_rfl) (by kernel_rfl) (fun _ _ _ h => h) (Or.inl (Or.inl ⟨by rfl, ?_⟩)) hS ?_
        rotate_left
        focus ((intro w hSw; (try dsimp only at hSw); have d0 := HD0.out.later hSw; have d1 := HD1.out.later hSw; have d0 := d0.out; have d1 := d1.out; go_simp); (try with_reducible rfl))
        intro wq hwq
        subst hwq
        (try simp only [Act.put, List.setIfInBounds_toArray, List.set_cons_zero, List.set_cons_succ])
        refine wpAnyK_take (fun _ => rfl) (fun _ _ _ h k => h.trans k) (fun _ _ h k => k ▸ h) (i := 8) (oi := { dst := some 147, op := _, type := _, pos := _, after := _, guard := _ }) (v := ?_) rfl (by kernel_rfl) (by kernel_rfl) (by kernel_rfl) (fun _ _ _ h => h) (Or.inl (Or.inl ⟨by rfl, ?_⟩)) hS ?_
        rotate_left
        focus ((intro w hSw; (try dsimp only at hSw); skip; go_simp); (try with_reducible rfl))
        intro wq hwq
        subst hwq
        (try simp only [Act.put, List.setIfInBounds_toArray, List.set_cons_zero, List.set_cons_succ])
        refine wpAnyK_all (rs := [9]) (by kernel_rfl) (by simp) (fun i hi => ?_)
        simp only [List.mem_cons, List.not_mem_nil, or_false] at hi
        subst hi
        refine stepK (o := { dst := some 148, op := _, type := _, pos := _, after := _, guard := _ }) rfl (fun K hK => ?_)
        go_simp
        refine (HPC.out _ (LZ.out.trans hS)).mono ?_
        intro e y1 h
        obtain ⟨QA, qc, rfl, ph, lc⟩ := h.uni r2 b2 m2 HR2.out HB2.out HM2.out
        clear h
        have HPH := Lib.hid ph
        clear ph
        replace hS : (fun W : World => Later w5 W) y1 := Later.trans hS lc
        refine hK _ _ hS fun wq hwq => ?_
        subst hwq
        clear hK lc
        (try simp only [Act.put, List.setIfInBounds_toArray, List.set_cons_zero, List.set_cons_succ])
        refine wpAnyK_take (fun _ => rfl) (fun _ _ _ h k => h.trans k) (fun _ _ h k => k ▸ h) (i := 10) (oi := { dst := some 138, op := _, type := _, pos := _, after := _, guard := _ }) (v := ?_) rfl (by kernel_rfl) (by kernel_rfl) (by kernel_rfl) (fun _ _ _ h => h) (Or.inl (Or.inl ⟨by rfl, ?_⟩)) hS ?_
        rotate_left
        focus ((intro w hSw; (try dsimp only at hSw); skip; go_simp); (try with_reducible rfl))
        intro wq hwq
        subst hwq
        (try simp only [Act.put, List.setIfInBounds_toArray, List.set_cons_zero, List.set_cons_succ])
        refine wpAnyK_take (fun _ => rfl) (fun _ _ _ h k => h.trans k) (fun _ _ h k => k ▸ h) (i := 11) (oi := { dst := some 149, op := _, type := _, pos := _, after := _, guard := _ }) (v := ?_) rfl (by kernel_rfl) (by kernel_rfl) (by kernel_rfl) (fun _ _ _ h => h) (Or.inl (Or.inl ⟨by rfl, ?_⟩)) hS ?_
        rotate_left
        focus ((intro w hSw; (try dsimp only at hSw); skip; go_simp); (try with_reducible rfl))
        intro wq hwq
        subst hwq
        (try simp only [Act.put, List.setIfInBounds_toArray, List.set_cons_zero, List.set_cons_succ])
        refine wpAnyK_take (fun _ => rfl) (fun _ _ _ h k => h.trans k) (fun _ _ h k => k ▸ h) (i := 12) (oi := { dst := some 150, op := _, type := _, pos := _, after := _, guard := _ }) (v := ?_) rfl (by kernel_rfl) (by kernel_rfl) (by kernel_rfl) (fun _ _ _ h => h) (Or.inl (Or.inl ⟨by rfl, ?_⟩)) hS ?_
        rotate_left
        focus ((intro w hSw; (try dsimp only at hSw); skip; go_simp); (try with_reducible rfl))
        intro wq hwq
        subst hwq
        (try simp only [Act.put, List.setIfInBounds_toArray, List.set_cons_zero, List.set_cons_succ])
        refine wpAnyK_take (fun _ => rfl) (fun _ _ _ h k => h.trans k) (fun _ _ h k => k ▸ h) (i := 13) (oi := { dst := some 27, op := _, type := _, pos := _, after := _, guard := _ }) (v := ?_) rfl (by kernel_rfl) (by kernel_rfl) (by kernel_rfl) (fun _ _ _ h => h) (Or.inl (Or.inl ⟨by rfl, ?_⟩)) hS ?_
        rotate_left
        focus ((intro w hSw; (try dsimp only at hSw); skip; go_simp); (try with_reducible rfl))
        intro wq hwq
        subst hwq
        (try simp only [Act.put, List.setIfInBounds_toArray, List.set_cons_zero, List.set_cons_succ])
        refine wpAnyK_take (fun _ => rfl) (fun _ _ _ h k => h.trans k) (fun _ _ h k => k ▸ h) (i := 14) (oi := { dst := some 28, op := _, type := _, pos := _, after := _, guard := _ }) (v := ?_) rfl (by kernel_rfl) (by kernel_rfl) (by kernel_rfl) (fun _ _ _ h => h) (Or.inl (Or.inl ⟨by rfl, ?_⟩)) hS ?_
        rotate_left
        focus ((intro w hSw; (try dsimp only at hSw); skip; go_simp); (try with_reducible rfl))
        intro wq hwq
        subst hwq
        (try simp only [Act.put, List.setIfInBounds_toArray, List.set_cons_zero, List.set_cons_succ])
        refine wpAnyK_done (by kernel_rfl) ?_ _
        go_wp2_with fail
        go_meet
        exact ⟨QA, qc, rfl, rfl, HPH.out, hS⟩
       case rest =>
       obtain ⟨A3, c3, rfl, rfl, ph, lx⟩ := hcut
       replace HD0 := Lib.hid (HD0.out.later lx)
       replace HD1 := Lib.hid (HD1.out.later lx)
       replace LZ := Lib.hid (LZ.out.trans lx)
       replace P1 := Lib.hid (P1.out.later lx)
       replace P2 := Lib.hid (P2.out.later lx)
       have P3 := Lib.hid ph
       clear lx ph HPC
       go_upto_region 23 with fail
       go_cut [29, 30] from 151 to 163 (fun p1 p2 wx => ∃ A c, p1 = .slice A m2 c ∧ p2 = .bool r2 ∧ Has wx A (ints .u8 b2) ∧ Later wc wx)
       case first => as_aux_lemma =>
        refine wp_region_K (S := (fun W : World => Later wc W)) (R := fun a b => a = b) (fun _ => rfl) (by kernel_rfl) ?_
        obtain ⟨y0, hy0⟩ : ∃ x, (wc).drew = x := ⟨_, rfl⟩
        have ly0 : Later wc y0 := hy0 ▸ (Later.refl wc).drew
        have hS : (fun W : World => Later wc W) y0 := ly0
        
        rw [hy0]
        clear hy0
        refine wpAnyK_take (fun _ => rfl) (fun _ _ _ h k => h.trans k) (fun _ _ h k => k ▸ h) (i := 0) (oi := { dst := some 152, op := _, type := _, pos := _, after := _, guard := _ }) (v := ?_) rfl (by kernel_rfl) (by kernel_rfl) (by kernel_rfl) (fun _ _ _ h => h) (Or.inl (Or.inl ⟨by rfl, ?_⟩)) hS ?_
        rotate_left
        focus ((intro w hSw; (try dsimp only at hSw); skip; go_simp); (try with_reducible rfl))
        intro wq hwq
        subst hwq
        (try simp only [Act.put, List.setIfInBounds_toArray, List.set_cons_zero, List.set_cons_succ])
        refine wpAnyK_take (fun _ => rfl) (fun _ _ _ h k => h.trans k) (fun _ _ h k => k ▸ h) (i := 1) (oi := { dst := some 153, op := _, type := _, pos := _, after := _, guard := _ }) (v := ?_) rfl (by kernel_rfl) (by kernel_rfl) (by kernel_rfl) (fun _ _ _ h => h) (Or.inl (Or.inl ⟨by rfl, ?_⟩)) hS ?_
        rotate_left
        focus ((intro w hSw; (try dsimp only at hSw); skip; go_simp); (try with_reducible rfl))
        intro wq hwq
        subst hwq
        (try simp only [Act.put, List.setIfInBounds_toArray, List.set_cons_zero, List.set_cons_succ])
        refine wpAnyK_take (fun _ => rfl) (fun _ _ _ h k => h.trans k) (fun _ _ h k => k ▸ h) (i := 2) (oi := { dst := some 154, op := _, type := _, pos := _, after := _, guard := _ }) (v := ?_) rfl (by kernel_rfl) (by kernel_rfl) (by kernel_rfl) (fun _ _ _ h => h) (Or.inl (Or.inl ⟨by rfl, ?_⟩)) hS ?_
        rotate_left
        focus ((intro w hSw; (try dsimp only at hSw); skip; go_simp); (try with_reducible rfl))
        intro wq hwq
        subst hwq
        (try simp only [Act.put, List.setIfInBounds_toArray, List.set_cons_zero, List.set_cons_succ])
        refine wpAnyK_take (fun _ => rfl) (fun _ _ _ h k => h.trans k) (fun _ _ h k => k ▸ h) (i := 3) (oi := { dst := some 155, op := _, type := _, pos := _, after := _, guard := _ }) (v := ?_) rfl (by kernel_rfl) (by kernel_rfl) (by kernel_rfl) (fun _ _ _ h => h) (Or.inl (Or.inl ⟨by rfl, ?_⟩)) hS ?_
        rotate_left
        focus ((intro w hSw; (try dsimp only at hSw); have d0 := HD0.out.later hSw; have d1 := HD1.out.later hSw; have d0 := d0.out; have d1 := d1.out; go_simp); (try with_reducible rfl))
        intro wq hwq
        subst hwq
        (try simp only [Act.put, List.setIfInBounds_toArray, List.set_cons_zero, List.set_cons_succ])
        refine wpAnyK_take (fun _ => rfl) (fun _ _ _ h k => h.trans k) (fun _ _ h k => k ▸ h) (i := 4) (oi := { dst := some 156, op := _, type := _, pos := _, after := _, guard := _ }) (v := ?_) rfl (by kernel_rfl) (by kernel_rfl) (by kernel_rfl) (fun _ _ _ h => h) (Or.inl (Or.inl ⟨by rfl, ?_⟩)) hS ?_
        rotate_left
        focus ((intro w hSw; (try dsimp only at hSw); skip; go_simp); (try with_reducible rfl))
        intro wq hwq
        subst hwq
        (try simp only [Act.put, List.setIfInBounds_toArray, List.set_cons_zero, List.set_cons_succ])
        refine wpAnyK_take (fun _ => rfl) (fun _ _ _ h k => h.trans k) (fun _ _ h k => k ▸ h) (i := 5) (oi := { dst := some 157, op := _, type := _, pos := _, after := _, guard := _ }) (v := ?_) rfl (by kernel_rfl) (by kernel_rfl) (by kernel_rfl) (fun _ _ _ h => h) (Or.inl (Or.inl ⟨by rfl, ?_⟩)) hS ?_
        rotate_left
        focus ((intro w hSw; (try dsimp only at hSw); skip; go_simp); (try with_reducible rfl))
        intro wq hwq
        subst hwq
        (try simp only [Act.put, List.setIfInBounds_toArray, List.set_cons_zero, List.set_cons_succ])
        refine wpAnyK_take (fun _ => rfl) (fun _ _ _ h k => h.trans k) (fun _ _ h k => k ▸ h) (i := 6) (oi := { dst := some 158, op := _, type := _, pos := _, after := _, guard := _ }) (v := ?_) rfl (by kernel_rfl) (by kernel_rfl) (by kernel_rfl) (fun _ _ _ h => h) (Or.inl (Or.inl ⟨by rfl, ?_⟩)) hS ?_
        rotate_left
        focus ((intro w hSw; (try dsimp only at hSw); skip; go_simp); (try with_reducible rfl))
        intro wq hwq
        subst hwq
        (try simp only [Act.put, List.setIfInBounds_toArray, List.set_cons_zero, List.set_cons_succ])
        refine wpAnyK_take (fun _ => rfl) (fun _ _ _ h k => h.trans k) (fun _ _ h k => k ▸ h) (i := 7) (oi := { dst := some 159, op := _, type := _, pos := _, after := _, guard := _ }) (v := ?_) rfl (by kernel_rfl) (by kernel_rfl) (by kernel_rfl) (fun _ _ _ h => h) (Or.inl (Or.inl ⟨by rfl, ?_⟩)) hS ?_
        rotate_left
        focus ((intro w hSw; (try dsimp only at hSw); have d0 := HD0.out.later hSw; have d1 := HD1.out.later hSw; have d0 := d0.out; have d1 := d1.out; go_simp); (try with_reducible rfl))
        intro wq hwq
        subst hwq
        (try simp only [Act.put, List.setIfInBounds_toArray, List.set_cons_zero, List.set_cons_succ])
        refine wpAnyK_take (fun _ => rfl) (fun _ _ _ h k => h.trans k) (fun _ _ h k => k ▸ h) (i := 8) (oi := { dst := some 160, op := _, type := _, pos := _, after := _, guard := _ }) (v := ?_) rfl (by kernel_rfl) (by kernel_rfl) (by kernel_rfl) (fun _ _ _ h => h) (Or.inl (Or.inl ⟨by rfl, ?_⟩)) hS ?_
        rotate_left
        focus ((intro w hSw; (try dsimp only at hSw); skip; go_simp); (try with_reducible rfl))
        intro wq hwq
        subst hwq
        (try simp only [Act.put, List.setIfInBounds_toArray, List.set_cons_zero, List.set_cons_succ])
        refine wpAnyK_all (rs := [9]) (by kernel_rfl) (by simp) (fun i hi => ?_)
        simp only [List.mem_cons, List.not_mem_nil, or_false] at hi
        subst hi
        refine stepK (o := { dst := some 161, op := _, type := _, pos := _, after := _, guard := _ }) rfl (fun K hK => ?_)
        go_simp
        refine (HEC.out _ (LZ.out.trans hS)).mono ?_
        intro e y1 h
        obtain ⟨QA, qc, rfl, ph, lc⟩ := h.uni r2 b2 m2 HR2.out HB2.out HM2.out
        clear h
        have HPH := Lib.hid ph
        clear ph
        replace hS : (fun W : World => Later wc W) y1 := Later.trans hS lc
        refine hK _ _ hS fun wq hwq => ?_
        subst hwq
        clear hK lc
        (try simp only [Act.put, List.setIfInBounds_toArray, List.set_cons_zero, List.set_cons_succ])
        refine wpAnyK_take (fun _ => rfl) (fun _ _ _ h k => h.trans k) (fun _ _ h k => k ▸ h) (i := 10) (oi := { dst := some 151, op := _, type := _, pos := _, after := _, guard := _ }) (v := ?_) rfl (by kernel_rfl) (by kernel_rfl) (by kernel_rfl) (fun _ _ _ h => h) (Or.inl (Or.inl ⟨by rfl, ?_⟩)) hS ?_
        rotate_left
        focus ((intro w hSw; (try dsimp only at hSw); skip; go_simp); (try with_reducible rfl))
        intro wq hwq
        subst hwq
        (try simp only [Act.put, List.setIfInBounds_toArray, List.set_cons_zero, List.set_cons_succ])
        refine wpAnyK_take (fun _ => rfl) (fun _ _ _ h k => h.trans k) (fun _ _ h k => k ▸ h) (i := 11) (oi := { dst := some 162, op := _, type := _, pos := _, after := _, guard := _ }) (v := ?_) rfl (by kernel_rfl) (by kernel_rfl) (by kernel_rfl) (fun _ _ _ h => h) (Or.inl (Or.inl ⟨by rfl, ?_⟩)) hS ?_
        rotate_left
        focus ((intro w hSw; (try dsimp only at hSw); skip; go_simp); (try with_reducible rfl))
        intro wq hwq
        subst hwq
        (try simp only [Act.put, List.setIfInBounds_toArray, List.set_cons_zero, List.set_cons_succ])
        refine wpAnyK_take (fun _ => rfl) (fun _ _ _ h k => h.trans k) (fun _ _ h k => k ▸ h) (i := 12) (oi := { dst := some 163, op := _, type := _, pos := _, after := _, guard := _ }) (v := ?_) rfl (by kernel_rfl) (by kernel_rfl) (by kernel_rfl) (fun _ _ _ h => h) (Or.inl (Or.inl ⟨by rfl, ?_⟩)) hS ?_
        rotate_left
        focus ((intro w hSw; (try dsimp only at hSw); skip; go_simp); (try with_reducible rfl))
        intro wq hwq
        subst hwq
        (try simp only [Act.put, List.setIfInBounds_toArray, List.set_cons_zero, List.set_cons_succ])
        refine wpAnyK_take (fun _ => rfl) (fun _ _ _ h k => h.trans k) (fun _ _ h k => k ▸ h) (i := 13) (oi := { dst := some 29, op := _, type := _, pos := _, after := _, guard := _ }) (v := ?_) rfl (by kernel_rfl) (by kernel_rfl) (by kernel_rfl) (fun _ _ _ h => h) (Or.inl (Or.inl ⟨by rfl, ?_⟩)) hS ?_
        rotate_left
        focus ((intro w hSw; (try dsimp only at hSw); skip; go_simp); (try with_reducible rfl))
        intro wq hwq
        subst hwq
        (try simp only [Act.put, List.setIfInBounds_toArray, List.set_cons_zero, List.set_cons_succ])
        refine wpAnyK_take (fun _ => rfl) (fun _ _ _ h k => h.trans k) (fun _ _ h k => k ▸ h) (i := 14) (oi := { dst := some 30, op := _, type := _, pos := _, after := _, guard := _ }) (v := ?_) rfl (by kernel_rfl) (by kernel_rfl) (by kernel_rfl) (fun _ _ _ h => h) (Or.inl (Or.inl ⟨by rfl, ?_⟩)) hS ?_
        rotate_left
        focus ((intro w hSw; (try dsimp only at hSw); skip; go_simp); (try with_reducible rfl))
        intro wq hwq
        subst hwq
        (try simp only [Act.put, List.setIfInBounds_toArray, List.set_cons_zero, List.set_cons_succ])
        refine wpAnyK_done (by kernel_rfl) ?_ _
        go_wp2_with fail
        go_meet
        exact ⟨QA, qc, rfl, rfl, HPH.out, hS⟩
       case rest =>
       obtain ⟨A4, c4, rfl, rfl, ph, lx⟩ := hcut
       replace HD0 := Lib.hid (HD0.out.later lx)
       replace HD1 := Lib.hid (HD1.out.later lx)
       replace LZ := Lib.hid (LZ.out.trans lx)
       replace P1 := Lib.hid (P1.out.later lx)
       replace P2 := Lib.hid (P2.out.later lx)
       replace P3 := Lib.hid (P3.out.later lx)
       have P4 := Lib.hid ph
       clear lx ph HEC
       obtain ⟨S1, hS1⟩ : ∃ S, S = bstr b1 := ⟨_, rfl⟩
       obtain ⟨S2, hS2⟩ : ∃ S, S = bstr b2 := ⟨_, rfl⟩
       have cv1 := conv_str A1 m1 c1 b1 HM1.out.symm _ _ P1.out
       have cv2 := conv_str A2 m1 c2 b1 HM1.out.symm _ _ P2.out
       have cv3 := conv_str A3 m2 c3 b2 HM2.out.symm _ _ P3.out
       have cv4 := conv_str A4 m2 c4 b2 HM2.out.symm _ _ P4.out
       rw [← hS1] at cv1 cv2
       rw [← hS2] at cv3 cv4
       have hUU : (U != U) = false := by simp
       have hPP : (P != P) = false := by simp
       have hs1 : (S1.toList == S1.toList) = true := by simp
       have hs2 : (S2.toList == S2.toList) = true := by simp
       have LF := Lib.hid (LAT.out.trans (LZ5.out.trans LZ.out))
       clear hS1 hS2 LZ P1 P2 P3 P4 HB1 HB2 HR1 HR2 HLC H64C LZ5 HD0 HD1
       go_upto_region 24 with fail
       go_cut [219] from 164 to 219 (fun p1 wx => p1 = .bool false ∧ wx = wc)
       case first => as_aux_lemma =>
        rcases r1 with _ | _
        ·obtain rfl := HZ1.out rfl
         rcases r2 with _ | _
         ·obtain rfl := HZ2.out rfl
          go_wp2_with fail
          go_meet
          exact ⟨rfl, rfl⟩
         ·skip
          go_wp2_with fail
          go_meet
          exact ⟨rfl, rfl⟩
        ·rcases r2 with _ | _
         ·obtain rfl := HZ2.out rfl
          go_wp2_with fail
          go_meet
          exact ⟨rfl, rfl⟩
         ·skip
          go_wp2_with fail
          go_meet
          exact ⟨rfl, rfl⟩
       case rest =>
       obtain ⟨rfl, rfl⟩ := hcut
       clear cv1 cv2 cv3 cv4 hUU hPP hs1 hs2 HZ1 HZ2 HM1 HM2
       go_wp2_with fail
       go_roundw
       case rel => exact ⟨k + 1, by omega, by go_num, LF.out⟩
       case measure => simp [intOf]; omega
      ·have hkk : ¬ (k : Int) < 6 := by omega
       have CT5 := CT.out.later lat
       have LAT := Lib.hid lat
       have LW := Lib.hid (HL2.out.trans lat)
       have HH := Lib.hid (handed_any B b.length cb b wr rfl (HRB.out.later LW.out) (by omega))
       clear lat
       go_wp2_with fail
       refine HH.out.mono ?_
       rintro e w6 ⟨rfl, row, b6⟩
       have l6 : Later wr w6 := Later.of b6
       obtain ⟨gh, hgh⟩ : ∃ gh, gh = wr.heap.size := ⟨_, rfl⟩
       rw [← hgh] at row ⊢
       have HH6 : Has w6 (some ⟨gh, 0, none⟩) (ints .u8 b) := by
        have h := row.rd.take b.length
        rw [ints_take, List.take_left] at h
        exact h
       have CT6 := CT5.later l6
       have hct := CT6.out
       have LW6 := Lib.hid (LW.out.trans l6)
       have LI6 := Lib.hid (LAT.out.trans l6)
       have HROW := Lib.hid row
       have HTK := Lib.hid (colTake_any T nn (some ⟨gh, 0, none⟩) b.length (b.length + 5) b w6 (HS.out.later LW6.out) rfl HH6 HB256.out (by omega) (by omega) (by omega))
       have HDC := Lib.hid (fun w' (lz : Later w6 w') => refTakeColumn_any T nn B b.length cb b w' rfl (HRB.out.later (LW6.out.trans lz)) HB256.out (by omega) hbc hcb)
       have HSA := Lib.hid (fun w' (lz : Later w6 w') => same_any gh B b.length cb (b.length + 5) b w' rfl rfl (lz.row HROW.out) (HRB.out.later (LW6.out.trans lz)) (by omega))
       clear row hgh b6 l6 HH6 CT5 LW HH LAT
       cases htk : takeC10 T nn b with
       | none =>
        have HTN := Lib.hid htk
        clear htk
        go_wp2_with fail
        refine HTK.out.mono ?_
        intro e w7 h
        obtain ⟨rfl, l7⟩ := h.no HTN.out
        have hct := (CT6.later l7).out
        clear h HTK
        go_wp2_with fail
        refine (HDC.out w7 l7).mono ?_
        intro e w8 h
        obtain ⟨rfl, l8⟩ := h.no HTN.out
        have L8 := Lib.hid (l7.trans l8)
        clear h l7 l8 hct CT6
        go_wp2_with fail
        refine (sameValues_len none none 0 0 0 [] [] w8 rfl rfl Has.nil_ Has.nil_ (by omega)).mono ?_
        intro e w9 h
        obtain ⟨rfl, l9⟩ := h.yes (by first | rfl | trivial)
        have L9 := Lib.hid (L8.out.trans l9)
        clear h l9
        go_wp2_with fail
        refine (HSA.out w9 L9.out).mono ?_
        rintro e w' ⟨rfl, rfl⟩
        go_wp2_with fail
        go_roundw
        case rel => exact ⟨i + 1, by omega, by go_num, LI6.out.trans L9.out⟩
        case measure => simp [intOf]; omega
       | some p =>
        obtain ⟨l', f'⟩ := p
        have HTN := Lib.hid htk
        have hl'0 : l'.length ≤ 1000 := by have := takeC10_is HB256.out htk; omega
        have hff : (f' != f') = false := by simp
        clear htk
        go_wp2_with fail
        refine HTK.out.mono ?_
        intro e w7 h
        obtain ⟨XA, xc, rfl, xh, l7⟩ := h.yes HTN.out
        have hct := (CT6.later l7).out
        have XH := Lib.hid xh
        clear h HTK xh
        go_wp2_with fail
        refine (HDC.out w7 l7).mono ?_
        intro e w8 h
        obtain ⟨YA, yc, rfl, yh, l8⟩ := h.yes HTN.out
        have L8 := Lib.hid (l7.trans l8)
        have HSV := Lib.hid (sameValues_any XA YA xc yc l' l' w8 (XH.out.later l8) yh (by omega) (by omega))
        clear h l7 l8 hct CT6 yh XH
        go_wp2_with fail
        refine HSV.out.mono ?_
        intro e w9 h
        obtain ⟨rfl, l9⟩ := h.yes (by first | rfl | trivial)
        have L9 := Lib.hid (L8.out.trans l9)
        clear h l9 HSV
        go_wp2_with fail
        refine (HSA.out w9 L9.out).mono ?_
        rintro e w' ⟨rfl, rfl⟩
        go_wp2_with fail
        go_roundw
        case rel => exact ⟨i + 1, by omega, by go_num, LI6.out.trans L9.out⟩
        case measure => simp [intOf]; omega
    ·obtain rfl : i = 5 := by omega
     have LZ := Lib.hid (HL2.out.trans lat)
     clear lat
     go_wp2_with fail
     go_ret
     exact ⟨rfl, LZ.out⟩
end Go.Proofs.YtldalkhmbpkjpaaGreatDoor
