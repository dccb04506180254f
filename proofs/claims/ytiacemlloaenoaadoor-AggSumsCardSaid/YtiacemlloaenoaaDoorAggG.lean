/- The order of the groups: agg.groups$1. -/
import Derived.Test.YtiacemlloaenoaaDoorAggD
import Derived.Shelf.SlSortCmp.QuietGrown
import Derived.BigQuiet
namespace Go.Proofs.YtiacemlloaenoaaDoor
open Go.RowKit
set_option linter.unusedVariables false

/-- A table's value. -/
def cellAt (cols : List (List Val3)) (c : Int) (p : Nat) : Val3 := (cols.getD c.toNat []).getD p z3
/-- How two rows stand, by these columns. -/
def cmpBy (cols : List (List Val3)) : List Int → Nat → Nat → Int
  | [], _, _ => 0
  | c :: r, x, y => if cmp3 (cellAt cols c x) (cellAt cols c y) = 0 then cmpBy cols r x y else cmp3 (cellAt cols c x) (cellAt cols c y)
theorem cmpBy_drop (cols : List (List Val3)) (bys : List Int) (k : Nat) (h : k < bys.length) (x y : Nat) : cmpBy cols (bys.drop k) x y = if cmp3 (cellAt cols bys[k] x) (cellAt cols bys[k] y) = 0 then cmpBy cols (bys.drop (k + 1)) x y else cmp3 (cellAt cols bys[k] x) (cellAt cols bys[k] y) := by
  rw [List.drop_eq_getElem_cons h]; rfl
theorem cellAt_get (zs : List SlV) (c p : Nat) (hc : c < zs.length) (hp : p < zs[c].l.length) : cellAt (colsOf zs) (c : Int) p = zs[c].l[p] := by
  unfold cellAt colsOf
  rw [Int.toNat_natCast, List.getD_eq_getElem?_getD, List.getD_eq_getElem?_getD, List.getElem?_map, List.getElem?_eq_getElem hc]
  show (zs[c].l[p]?).getD z3 = _
  rw [List.getElem?_eq_getElem hp]; rfl
def CbI (v : Int) (cols : List (List Val3)) (bys : List Int) (x y : Nat) (w : World) (iv : Value) (wr : World) : Prop := ∃ k : Nat, iv = .int .i64 k ∧ k ≤ bys.length ∧ v = cmpBy cols (bys.drop k) x y ∧ Grows w wr
theorem CbI.mk {v : Int} {cols : List (List Val3)} {bys : List Int} {x y : Nat} {w wr : World} (z : Int) (k : Nat) (hz : z = (k : Int)) (hk : k ≤ bys.length) (h : v = cmpBy cols (bys.drop k) x y) (g : Grows w wr) : CbI v cols bys x y w (.int .i64 z) wr := by
  subst hz; exact ⟨k, rfl, hk, h, g⟩
theorem val3_lt {w : World} {A : Option Addr} {l : List Val3} (h : Has w A (fl l)) (k : Nat) (hk : k < l.length) :
    ∃ b off, A = some ⟨b, off, none⟩ ∧ b < w.heap.size ∧ w.cell? ⟨b, off + k * 3, none⟩ = some (.int .i64 l[k].1) ∧ w.cell? ⟨b, off + k * 3 + 1, none⟩ = some (.int .i64 l[k].2.1) ∧ w.cell? ⟨b, off + k * 3 + 2, none⟩ = some (.string l[k].2.2) := by
  obtain ⟨b, off, hA, c0, c1, c2⟩ := h.val3 k hk
  exact ⟨b, off, hA, block_lt_of_cell c0, c0, c1, c2⟩

set_option maxRecDepth 100000 in
set_option maxHeartbeats 4000000 in
theorem groupsCmp_any (gb gc : Nat) (A Bp : Option Addr) (n c bn bc : Nat) (zs : List SlV) (bys : List Int) (x y : Nat) (w : World) (hbx : w.cell? ⟨gb, 0, none⟩ = some (.slice Bp bn bc)) (hcx : w.cell? ⟨gc, 0, none⟩ = some (.slice A n c)) (hn : n = zs.length) (hl : n ≤ 1000) (hbn : bn = bys.length) (hbl : bn ≤ 1000) (hb : Has w Bp (iin bys)) (hr : RowsAt w A zs)
    (hby : ∀ c ∈ bys, 0 ≤ c ∧ c < (zs.length : Int)) (hxy : ∀ s ∈ zs, x < s.l.length ∧ y < s.l.length) :
    Calls Tryd.prog 23 #[.int .i64 x, .int .i64 y, .pointer (some ⟨gb, 0, none⟩), .pointer (some ⟨gc, 0, none⟩)] w (GrowsInt (cmpBy (colsOf zs) bys x y) w) := by
  subst hn hbn
  obtain ⟨v, hv⟩ : ∃ v, cmpBy (colsOf zs) bys x y = v := ⟨_, rfl⟩
  rw [hv]
  have HI0 := Lib.hid (CbI.mk (v := v) (cols := colsOf zs) (bys := bys) (x := x) (y := y) (w := w) (wr := w) 0 0 rfl (Nat.zero_le _) hv.symm (Grows.refl w))
  have HB := Lib.hid hb
  have HR := Lib.hid hr
  have HBX := Lib.hid hbx
  have HCX := Lib.hid hcx
  have HBY := Lib.hid hby
  have HXY := Lib.hid hxy
  clear hb hr hcx hby hxy hv
  go_enter Tryd.func23, Tryd.ntmps23
  go_wp2_with fail
  clear hbx
  go_loopw [12] (fun iv wr => CbI v (colsOf zs) bys x y w iv wr) (fun i _ => bys.length - (intOf i).toNat)
  case atStart => exact HI0.out
  case round =>
    obtain ⟨k, rfl, hk, hvv, gr⟩ := hrel
    have HGR := Lib.hid gr
    clear HI0
    by_cases hlt : k < bys.length
    · obtain ⟨b, off, hA, c0⟩ := (HB.out.later gr.later).iin k hlt
      subst hA
      have hin := HBY.out _ (List.getElem_mem hlt)
      rw [cmpBy_drop _ _ k hlt] at hvv
      generalize bys[k] = cc at c0 hin hvv
      obtain ⟨ci, rfl⟩ : ∃ q : Nat, cc = (q : Int) := ⟨cc.toNat, by omega⟩
      have hci : ci < zs.length := by omega
      have hciz : (ci : Int) < (zs.length : Int) := by omega
      obtain ⟨hx, hy⟩ := HXY.out _ (List.getElem_mem hci)
      rw [cellAt_get zs ci x hci hx, cellAt_get zs ci y hci hy] at hvv
      obtain ⟨tb, to_, hA2, ck, hcol, _, _, _⟩ := (HR.out.later gr.later).get ci hci
      subst hA2
      obtain ⟨vb, vo, hV, hvb, x0, x1, x2⟩ := val3_lt hcol x hx
      obtain ⟨vb', vo', hV', _, y0, y1, y2⟩ := val3_lt hcol y hy
      rw [hV] at hV'
      injection hV' with hV'
      injection hV' with e1 e2
      subst e1 e2
      rw [hV] at ck
      obtain ⟨d, hd⟩ : ∃ d, d = cmp3 zs[ci].l[x] zs[ci].l[y] := ⟨_, rfl⟩
      have HCG := Lib.hid (fun (q : Nat) (os : Array Obj) => valCmp_g zs[ci].l[x].1 zs[ci].l[x].2.1 zs[ci].l[x].2.2 zs[ci].l[y].1 zs[ci].l[y].2.1 zs[ci].l[y].2.2 (Go.Sort.grow (wr.drewN q) os))
      rw [show cmpV zs[ci].l[x].1 zs[ci].l[x].2.1 zs[ci].l[x].2.2 zs[ci].l[y].1 zs[ci].l[y].2.1 zs[ci].l[y].2.2 = d from hd.symm] at HCG
      rw [← hd] at hvv
      have hxz : (x : Int) < (zs[ci].l.length : Int) := by omega
      have hyz : (y : Int) < (zs[ci].l.length : Int) := by omega
      generalize zs[ci].l[x].1 = t1 at x0 HCG
      generalize zs[ci].l[x].2.1 = i1 at x1 HCG
      generalize zs[ci].l[x].2.2 = s1 at x2 HCG
      generalize zs[ci].l[y].1 = t2 at y0 HCG
      generalize zs[ci].l[y].2.1 = i2 at y1 HCG
      generalize zs[ci].l[y].2.2 = s2 at y2 HCG
      clear hd hcol hx hy
      generalize zs[ci].l.length = ln at ck hxz hyz
      generalize zs[ci].c = lc at ck
      have hcb := gr.later.cell HCX.out
      have k0 := fun (q : Nat) (os : Array Obj) => Go.cell_grown (w := wr) (block_lt_of_cell hcb) hcb q os
      have k1 := fun (q : Nat) (os : Array Obj) => Go.cell_grown (w := wr) (block_lt_of_cell ck) ck q os
      have m0 := fun (q : Nat) (os : Array Obj) => Go.cell_grown (w := wr) hvb x0 q os
      have m1 := fun (q : Nat) (os : Array Obj) => Go.cell_grown (w := wr) hvb x1 q os
      have m2 := fun (q : Nat) (os : Array Obj) => Go.cell_grown (w := wr) hvb x2 q os
      have n0 := fun (q : Nat) (os : Array Obj) => Go.cell_grown (w := wr) hvb y0 q os
      have n1 := fun (q : Nat) (os : Array Obj) => Go.cell_grown (w := wr) hvb y1 q os
      have n2 := fun (q : Nat) (os : Array Obj) => Go.cell_grown (w := wr) hvb y2 q os
      have mixed : Tryd.prog.follows .mixedOrders = true := by kernel_rfl
      have HVV := Lib.hid hvv
      clear hcb ck x0 x1 x2 y0 y1 y2 hvb hvv hV hin gr
      by_cases h0 : d = 0
      · have hd0 : (d != 0) = false := by simpa using h0
        rw [if_pos h0] at HVV
        clear h0
        go_wp2_with fail
        go_quiet_grown (first | (go_at_call 24; refine Go.Calls.grown_of (HCG.out _ _)))
        go_wp2_with fail
        go_roundw
        case rel => exact CbI.mk _ (k + 1) (by omega) hlt HVV.out (HGR.out.trans ⟨_, _, rfl⟩)
        case measure => simp [intOf]; omega
      · have hd0 : (d != 0) = true := by simpa using h0
        rw [if_neg h0] at HVV
        clear h0
        go_wp2_with fail
        go_quiet_grown (first | (go_at_call 24; refine Go.Calls.grown_of (HCG.out _ _)))
        go_wp2_with fail
        go_ret
        exact ⟨by rw [HVV.out]; rfl, HGR.out.trans ⟨_, _, rfl⟩⟩
    · have HV := Lib.hid (show v = 0 from by rw [hvv, show k = bys.length by omega, List.drop_length]; rfl)
      clear hvv
      go_wp2_with fail
      go_ret
      exact ⟨by rw [HV.out]; rfl, HGR.out⟩
end Go.Proofs.YtiacemlloaenoaaDoor
