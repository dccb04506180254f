
import Derived.Test.YtjphfdjijmpicaaDoorZoneA
import Derived.Test.YtjphfdjijmpicaaDoorValZ
/- The walks of package zone: Put, Take of one zone, Same; begun. -/
namespace Go.Proofs.YtjphfdjijmpicaaDoor
open Go.RowKit
set_option linter.unusedVariables false

/-- The sentinels that zones lean on. -/
structure S11 (w : World) : Prop where
  sn : V1.Sn w
  num : ∃ a, Sent w w.heap.size a
theorem S11.later {w w' : World} (h : S11 w) (l : Later w w') : S11 w' := by
  obtain ⟨h1, a, h2⟩ := h
  exact ⟨V1.Sn.later h1 l, ⟨a, (h2.below l).cell, Nat.lt_of_lt_of_le h2.lt l.size⟩⟩

theorem setCell_same {w : World} {g k : Nat} {cs : Array Value} {t : TypeId} {v : Value} (h : Blk w g cs t) (hk : cs[k]? = some v) : w.setCell ⟨g, k, none⟩ v = w := by
  have e : cs.setIfInBounds k v = cs := by
    have hl : k < cs.size := by
      rcases Nat.lt_or_ge k cs.size with h' | h'
      · exact h'
      · rw [Array.getElem?_eq_none h'] at hk; cases hk
    have hv : cs[k] = v := by rw [Array.getElem?_eq_getElem hl] at hk; injection hk
    apply Array.ext
    · simp
    · intro j h3 h4
      rw [Array.getElem_setIfInBounds]
      split
      · rename_i hj; subst hj; exact hv.symm
      · rfl
  have hs := h.set_ k v
  rw [e] at hs
  have hh : (w.setCell ⟨g, k, none⟩ v).heap = w.heap := by
    apply Array.ext
    · simp [World.setCell]
    · intro i h1 h2
      have e3 : (w.setCell ⟨g, k, none⟩ v).heap[i]? = w.heap[i]? := by
        by_cases hi : i = g
        · subst hi; exact Eq.trans hs h.symm
        · exact Below.heap_setCell w ⟨g, k, none⟩ v i hi
      rw [Array.getElem?_eq_getElem h1, Array.getElem?_eq_getElem h2] at e3
      injection e3
  have h2 : w.setCell ⟨g, k, none⟩ v = { w with heap := (w.setCell ⟨g, k, none⟩ v).heap } := rfl
  rw [h2, hh]

def zb9a : List Nat := [2, 0, 0, 0, 0, 0, 0, 0, 2]
def zb9b : List Nat := [2, 0, 0, 0, 0, 0, 0, 0, 5]
def zb19 : List Nat := [1, 2, 0, 0, 0, 0, 0, 0, 0, 2, 2, 0, 0, 0, 0, 0, 0, 0, 5]
theorem zb_a : V1.putB 2 2 ⟨#[]⟩ = zb9a := by decide
theorem zb_b : V1.putB 2 5 ⟨#[]⟩ = zb9b := by decide
theorem zb_n : putNum 1 = [1] := by decide

set_option maxRecDepth 100000 in
set_option maxHeartbeats 4000000 in
theorem zonePut_b (w : World) (hs : V1.Sn w) :
    Calls Tryd.prog 8 #[.agg (zc 1 2 2 ⟨#[]⟩ 2 5 ⟨#[]⟩)] w fun e w' => ∃ A c, e = .returned (.slice A 19 c) ∧ Has w' A (ints .u8 zb19) ∧ 19 ≤ c ∧ c ≤ 9223372036854775807 ∧ Later w w' := by
  obtain ⟨a0, a2, a3, a4, S⟩ := hs
  obtain ⟨gz, hgz⟩ : ∃ g, w.heap.size = g := ⟨_, rfl⟩
  obtain ⟨w1, hw1⟩ : ∃ x, w.alloc (.cells (zc 1 2 2 ⟨#[]⟩ 2 5 ⟨#[]⟩) 31) = x := ⟨_, rfl⟩
  have BZ := Blk.new w (zc 1 2 2 ⟨#[]⟩ 2 5 ⟨#[]⟩) 31 gz hgz.symm
  have L1 := Later.new w (.cells (zc 1 2 2 ⟨#[]⟩ 2 5 ⟨#[]⟩) 31)
  rw [hw1] at BZ L1
  have HL1 := Lib.hid L1
  have HBZ := Lib.hid BZ
  have HS := Lib.hid S
  have HMY := Lib.hid (fun (i : Int) w' (lz : Later w w') => may_any 2 i ⟨#[]⟩ a0 a2 a3 a4 w' ((S.below lz).more lz.size))
  have HVP := Lib.hid (fun (i : Int) w' (lz : Later w w') => V1.valPut_yes 2 i ⟨#[]⟩ a0 a2 a3 a4 w' ((S.below lz).more lz.size) (.inr (.inr (.inl ⟨rfl, rfl⟩))))
  have z0 := BZ.cell 0 _ rfl
  have z1 := BZ.cell 1 _ rfl
  have z2 := BZ.cell 2 _ rfl
  have z3 := BZ.cell 3 _ rfl
  clear L1 BZ S
  go_enter Tryd.func8, Tryd.ntmps8
  go_wp2_with fail
  refine (HMY.out 2 _ HL1.out).mono ?_
  rintro e w2 ⟨r, hr, rfl, b2⟩
  obtain rfl : r = true := hr.2 (.inr (.inr (.inl ⟨rfl, rfl⟩)))
  have HL2 := Lib.hid (HL1.out.trans (Later.of b2))
  have HBZ2 := Lib.hid (HBZ.out.later (Later.of b2))
  have z4 := HBZ2.out.cell 4 _ rfl
  have z5 := HBZ2.out.cell 5 _ rfl
  have z6 := HBZ2.out.cell 6 _ rfl
  clear hr b2 z0 z1 z2 z3 hw1 HL1 HBZ
  go_wp2_with fail
  refine (HMY.out 5 _ HL2.out).mono ?_
  rintro e w3 ⟨r, hr, rfl, b3⟩
  obtain rfl : r = true := hr.2 (.inr (.inr (.inl ⟨rfl, rfl⟩)))
  have HL3 := Lib.hid (HL2.out.trans (Later.of b3))
  have HBZ3 := Lib.hid (HBZ2.out.later (Later.of b3))
  have z0 := HBZ3.out.cell 0 _ rfl
  have hw64 : IntKind.u64.wrap 1 = 1 := by rw [IntKind.wrap_u64]; rfl
  have HGZ3 := Lib.hid HBZ3.out.lt
  clear hr b3 z4 z5 z6 HL2 HBZ2
  go_wp2_with fail
  refine (put_makes 1 (by decide) _).mono ?_
  intro e w4 h
  rw [zb_n] at h
  obtain ⟨A4, c4, rfl, o4, b4, n4⟩ := h
  have HO4 := Lib.hid (show w4.ownsRow w3.heap.size 5 1 (.slice A4 1 c4) 1 (ints .u8 [1]) from o4)
  have l4 := Later.of b4
  have HL4 := Lib.hid (HL3.out.trans l4)
  have HB34 := Lib.hid l4
  have HBZ4 := Lib.hid (HBZ3.out.later l4)
  have z1 := HBZ4.out.cell 1 _ rfl
  have z2 := HBZ4.out.cell 2 _ rfl
  have z3 := HBZ4.out.cell 3 _ rfl
  have hlen : ([1] : List Nat).length = 1 := rfl
  clear o4 b4 l4 z0 hw64 HBZ3 n4
  go_wp2_with fail
  refine (HVP.out 2 _ HL4.out).mono ?_
  intro e w5 h
  rw [zb_a] at h
  obtain ⟨A5, c5, rfl, o5, b5, n5⟩ := h
  have HR5 := Lib.hid (Has.own o5)
  have HN5 := Lib.hid n5
  have l5 := Later.of b5
  have HO5 := Lib.hid (own_later HO4.out l5)
  have HL35 := Lib.hid (HB34.out.trans l5)
  have HBZ5 := Lib.hid (HBZ4.out.later l5)
  have hlen9 : zb9a.length = 9 := rfl
  clear o5 b5 n5 l5 z1 z2 z3 HO4 HB34 HBZ4 hlen
  have hg3 := HGZ3.out
  go_wp2_with (at_builtin; refine wpList_append_rd _ rfl (.tmp 23) (.tmp 26) 22 rfl w3.heap.size 5 (.int .u8 0) 1 Tryd.underlying22 info_u8 rfl _ 1 (ints .u8 [1]) rfl HO5.out _ A5 9 c5 (ints .u8 zb9a) rfl HR5.out ?_ HN5.out (ints_one _ _) ?_ ?_ ?_ ?_; rfl; (unfold maxLen; omega); omega; (exact HL35.out.size); intro A6 c6 w6 o6 g6 b6 n6; have O6 := Lib.hid o6; have L36 := Lib.hid (Later.of (HL35.out.below.trans b6)); have HBZ6 := Lib.hid (show Blk w6 gz (zc 1 2 2 ⟨#[]⟩ 2 5 ⟨#[]⟩) 31 from (Below.block b6 gz hg3).trans HBZ5.out); have z4 := HBZ6.out.cell 4 _ rfl; have z5 := HBZ6.out.cell 5 _ rfl; have z6 := HBZ6.out.cell 6 _ rfl; clear o6 g6 b6 n6)
  have HL6 := Lib.hid (HL3.out.trans L36.out)
  refine (HVP.out 5 _ HL6.out).mono ?_
  intro e w7 h
  rw [zb_b] at h
  obtain ⟨A7, c7, rfl, o7, b7, n7⟩ := h
  have HR7 := Lib.hid (Has.own o7)
  have HN7 := Lib.hid n7
  have l7 := Later.of b7
  have HO7 := Lib.hid (own_later O6.out l7)
  have HL37 := Lib.hid (L36.out.trans l7)
  have hlen9b : zb9b.length = 9 := rfl
  clear o7 b7 n7 l7 z4 z5 z6 O6 HBZ6 HBZ5 hg3 hlen9
  go_wp2_with (at_builtin; refine wpList_append_rd _ rfl (.tmp 28) (.tmp 31) 22 rfl w3.heap.size 5 (.int .u8 0) 1 Tryd.underlying22 info_u8 rfl _ (1 + 9) (ints .u8 [1] ++ ints .u8 zb9a) rfl HO7.out _ A7 9 c7 (ints .u8 zb9b) rfl HR7.out ?_ HN7.out (ints_one _ _) ?_ ?_ ?_ ?_; rfl; (unfold maxLen; omega); omega; (exact HL37.out.size); intro A8 c8 w8 o8 g8 b8 n8; have O8 := Lib.hid o8; have L38 := Lib.hid (Later.of (HL37.out.below.trans b8)); clear o8 g8 b8 n8)
  go_ret
  refine ⟨A8, c8, rfl, ?_, ?_, ownG_capmax O8.out, HL3.out.trans L38.out⟩
  · have h := Has.own O8.out
    rwa [show ints .u8 [1] ++ ints .u8 zb9a ++ ints .u8 zb9b = ints .u8 zb19 from rfl] at h
  · have h := ownG_cap O8.out
    exact h

set_option maxRecDepth 100000 in
set_option maxHeartbeats 4000000 in
theorem zoneTake_b (A : Option Addr) (c : Nat) (w : World) (hs : S11 w) (hr : Has w A (ints .u8 zb19)) (hc : 19 ≤ c) (hcm : c ≤ 9223372036854775807) :
    Calls Tryd.prog 9 #[.slice A 19 c] w fun e w' => e = .returned (.tuple #[.agg (zc 1 2 2 ⟨#[]⟩ 2 5 ⟨#[]⟩), .int .i64 19, .bool true]) ∧ Later w w' := by
  obtain ⟨bb, off, rfl, hlt0⟩ : ∃ bb off, A = some ⟨bb, off, none⟩ ∧ bb < w.heap.size := by
    rcases hr with h | ⟨b, o, h, hl, _⟩
    · cases h
    · exact ⟨b, o, h, hl⟩
  obtain ⟨hsn, a, hsa⟩ := hs
  obtain ⟨gr, hgr⟩ : ∃ g, w.heap.size = g := ⟨_, rfl⟩
  obtain ⟨w1, hw1⟩ : ∃ x, w.alloc (.cells (zc 0 0 0 ⟨#[]⟩ 0 0 ⟨#[]⟩) 31) = x := ⟨_, rfl⟩
  have BR := Blk.new w (zc 0 0 0 ⟨#[]⟩ 0 0 ⟨#[]⟩) 31 gr hgr.symm
  have L1 := Later.new w (.cells (zc 0 0 0 ⟨#[]⟩ 0 0 ⟨#[]⟩) 31)
  rw [hw1] at BR L1
  have HL1 := Lib.hid L1
  have HBR := Lib.hid BR
  have HR := Lib.hid hr
  have HSN := Lib.hid hsn
  have hge : w.heap.size ≤ gr := by omega
  have hd1 : (Has.drop hr 1) = (Has.drop hr 1) := rfl
  have HT := Lib.hid (take_num (some ⟨bb, off, none⟩) 19 c zb19 a w1 w1.heap.size rfl (hr.later L1) (by decide) (by decide) ⟨(hsa.below L1).cell, Nat.lt_of_lt_of_le hsa.lt L1.size⟩)
  have ht1 : takeR zb19 = (1, 1, true) := by decide
  have HT1 := Lib.hid ht1
  have hq1 : zb9a.drop 1 = [0, 0, 0, 0, 0, 0, 0, 2] := rfl
  have HV1 := Lib.hid (fun w' (lz : Later w w') => V1.valTake_int bb (off + 1) 18 (c - 1) [0, 0, 0, 0, 0, 0, 0, 2] zb9b 2 w' (V1.Sn.later hsn lz) rfl rfl (Has.drop (hr.later lz) 1) (by decide) (by decide) (by omega) (by omega) (by decide))
  have HV2 := Lib.hid (fun w' (lz : Later w w') => V1.valTake_int bb (off + 10) 9 (c - 10) [0, 0, 0, 0, 0, 0, 0, 5] [] 5 w' (V1.Sn.later hsn lz) rfl rfl (Has.drop (hr.later lz) 10) (by decide) (by decide) (by omega) (by omega) (by decide))
  have hcc1 : ((c : Int) - 1) = ((c - 1 : Nat) : Int) := by omega
  clear hr hsn hsa L1 BR hd1 ht1 hq1
  go_enter Tryd.func9, Tryd.ntmps9
  go_wp2_with fail
  refine HT.out.mono ?_
  rintro e w2 ⟨v, n, ok, hv, rfl, b2⟩
  rw [HT1.out] at hv
  injection hv with hv1 hv2
  injection hv2 with hv2 hv3
  subst hv1 hv2 hv3
  have HL2 := Lib.hid (HL1.out.trans (Later.of b2))
  have HBR2 := Lib.hid (HBR.out.later (Later.of b2))
  clear b2 HT HT1 HBR HL1 hw1
  go_wp2_with fail
  refine (HV1.out w2 HL2.out).mono ?_
  rintro e w3 ⟨rfl, l3⟩
  obtain ⟨gl, hgl⟩ : ∃ g, w3.heap.size = g := ⟨_, rfl⟩
  obtain ⟨w4, hw4⟩ : ∃ x, w3.alloc (.cells #[.int .i64 2, .int .i64 2, .string ⟨#[]⟩] 28) = x := ⟨_, rfl⟩
  have l4 := Later.new w3 (.cells #[.int .i64 2, .int .i64 2, .string ⟨#[]⟩] 28)
  have BL := Blk.new w3 #[.int .i64 2, .int .i64 2, .string ⟨#[]⟩] 28 gl hgl.symm
  rw [hw4] at l4 BL
  have hsl := setCell_same BL (k := 2) (v := .string ⟨#[]⟩) rfl
  have q2 := BL.cell 2 _ rfl
  have qf := BL.frozen 2
  have HL4 := Lib.hid ((HL2.out.trans l3).trans l4)
  have HBR4 := Lib.hid (HBR2.out.later (l3.trans l4))
  have HBL := Lib.hid BL
  clear l3 l4 BL HL2 HBR2 HV1
  go_wp2_with fail
  refine (HV2.out w4 HL4.out).mono ?_
  rintro e w5 ⟨rfl, l5⟩
  clear hw4 hgl hsl q2 qf
  obtain ⟨gm, hgm⟩ : ∃ g, w5.heap.size = g := ⟨_, rfl⟩
  obtain ⟨w6, hw6⟩ : ∃ x, w5.alloc (.cells #[.int .i64 2, .int .i64 5, .string ⟨#[]⟩] 28) = x := ⟨_, rfl⟩
  have l6 := Later.new w5 (.cells #[.int .i64 2, .int .i64 5, .string ⟨#[]⟩] 28)
  have BM := Blk.new w5 #[.int .i64 2, .int .i64 5, .string ⟨#[]⟩] 28 gm hgm.symm
  rw [hw6] at l6 BM
  have hsm := setCell_same BM (k := 2) (v := .string ⟨#[]⟩) rfl
  have qf := BM.frozen 2
  have HL6 := Lib.hid ((HL4.out.trans l5).trans l6)
  have BR6 := HBR4.out.later (l5.trans l6)
  have BL6 := HBL.out.later (l5.trans l6)
  have m0 := BM.cell 0 _ rfl
  have m1 := BM.cell 1 _ rfl
  have m2 := BM.cell 2 _ rfl
  have k0 := BL6.cell 0 _ rfl
  have k1 := BL6.cell 1 _ rfl
  have k2 := BL6.cell 2 _ rfl
  have x0 := BR6.cell 0 _ rfl
  have x1 := BR6.cell 1 _ rfl
  have x2 := BR6.cell 2 _ rfl
  have x3 := BR6.cell 3 _ rfl
  have x4 := BR6.cell 4 _ rfl
  have x5 := BR6.cell 5 _ rfl
  have x6 := BR6.cell 6 _ rfl
  have y0 := BR6.frozen 0
  have y1 := BR6.frozen 1
  have y2 := BR6.frozen 2
  have y3 := BR6.frozen 3
  have y4 := BR6.frozen 4
  have y5 := BR6.frozen 5
  have y6 := BR6.frozen 6
  have HRN := Lib.hid (zc_max (zc_min (zc_null BR6 1) 2 2 ⟨#[]⟩) 2 5 ⟨#[]⟩)
  have HLN := Lib.hid (three_at (g := gr) (three_at (g := gr) (HL6.out.set_ (p := ⟨gr, 0, none⟩) hge (.int .i64 1)) hge 1 2 3 (.int .i64 2) (.int .i64 2) (.string ⟨#[]⟩)) hge 4 5 6 (.int .i64 2) (.int .i64 5) (.string ⟨#[]⟩))
  clear l5 l6 BM BR6 BL6 HV2 HBL HBR4
  go_wp2_with fail
  obtain ⟨wf, hwf⟩ : ∃ x, x = (((((((w6.setCell ⟨gr, 0, none⟩ (.int .i64 1)).setCell ⟨gr, 1, none⟩ (.int .i64 2)).setCell ⟨gr, 2, none⟩ (.int .i64 2)).setCell ⟨gr, 3, none⟩ (.string ⟨#[]⟩)).setCell ⟨gr, 4, none⟩ (.int .i64 2)).setCell ⟨gr, 5, none⟩ (.int .i64 5)).setCell ⟨gr, 6, none⟩ (.string ⟨#[]⟩)) := ⟨_, rfl⟩
  rw [← hwf] at HRN HLN ⊢
  have r0 := HRN.out.cell 0 _ rfl
  have r1 := HRN.out.cell 1 _ rfl
  have r2 := HRN.out.cell 2 _ rfl
  have r3 := HRN.out.cell 3 _ rfl
  have r4 := HRN.out.cell 4 _ rfl
  have r5 := HRN.out.cell 5 _ rfl
  have r6 := HRN.out.cell 6 _ rfl
  exact bodyPost_ret (v := .tuple #[.agg #[.int .i64 1, .int .i64 2, .int .i64 2, .string ⟨#[]⟩, .int .i64 2, .int .i64 5, .string ⟨#[]⟩], .int .i64 19, .bool true]) (by simp [results, Tryd.results9, go_sem, r0, r1, r2, r3, r4, r5, r6]) rfl ⟨rfl, HLN.out⟩

set_option maxRecDepth 100000 in
theorem zoneSame_b (w : World) :
    Calls Tryd.prog 10 #[.agg (zc 1 2 2 ⟨#[]⟩ 2 5 ⟨#[]⟩), .agg (zc 1 2 2 ⟨#[]⟩ 2 5 ⟨#[]⟩)] w fun e w' => e = .returned (.bool true) ∧ Later w w' := by
  have L1 := (Later.new w (.cells (zc 1 2 2 ⟨#[]⟩ 2 5 ⟨#[]⟩) 31)).alloc (.cells (zc 1 2 2 ⟨#[]⟩ 2 5 ⟨#[]⟩) 31)
  have HL1 := Lib.hid L1
  clear L1
  go_enter Tryd.func10, Tryd.ntmps10
  go_wp2_with fail
  go_ret
  exact ⟨rfl, HL1.out⟩

def two11 : List Val3 := [(2, 5, ⟨#[]⟩), (0, 0, ⟨#[]⟩), (2, 2, ⟨#[]⟩)]
theorem two11_n : nullsZ two11 = 1 := by decide
theorem two11_lo : lowZs none3 two11 = (2, 2, ⟨#[]⟩) := by rfl
theorem two11_hi : topZs none3 two11 = (2, 5, ⟨#[]⟩) := by rfl
theorem two11_c1 : canZ 1 (2, 2, ⟨#[]⟩) (2, 5, ⟨#[]⟩) 3 1 (2, 3, ⟨#[]⟩) = true := by decide
theorem two11_c2 : canZ 1 (2, 2, ⟨#[]⟩) (2, 5, ⟨#[]⟩) 3 5 (2, 5, ⟨#[]⟩) = false := by decide

set_option maxRecDepth 100000 in
set_option maxHeartbeats 4000000 in
theorem begun11_any (w : World) (hs : S11 w) : Calls Tryd.prog 4 #[] w fun e w' => e = .returned (.bool true) ∧ Later w w' := by
  have l1 := Later.new w (.cells (fl two11).toArray 28)
  have B1 := Blk.new w (fl two11).toArray 28 _ rfl
  have ho := zoneOf_any (some ⟨w.heap.size, 0, none⟩) 3 3 two11 _ rfl (by decide) B1.has
  rw [two11_n, two11_lo, two11_hi] at ho
  have HO : Hid (Calls Tryd.prog 7 #[.slice (some ⟨w.heap.size, 0, none⟩) 3 3] (w.alloc (.cells (fl two11).toArray 28)) fun e w' => e = .returned (.agg (zc 1 2 2 ⟨#[]⟩ 2 5 ⟨#[]⟩)) ∧ Later (w.alloc (.cells (fl two11).toArray 28)) w') := Lib.hid ho
  have HL := Lib.hid l1
  have HS := Lib.hid hs
  clear l1 B1 hs ho
  go_enter Tryd.func4, Tryd.ntmps4
  go_wp2_with fail
  refine HO.out.mono ?_
  rintro e w2 ⟨rfl, l2⟩
  obtain ⟨gz, hgz⟩ : ∃ g, g = w2.heap.size := ⟨_, rfl⟩
  obtain ⟨w3, hw3⟩ : ∃ x, x = w2.alloc (.cells (zc 1 2 2 ⟨#[]⟩ 2 5 ⟨#[]⟩) 31) := ⟨_, rfl⟩
  have l3 := Later.new w2 (.cells (zc 1 2 2 ⟨#[]⟩ 2 5 ⟨#[]⟩) 31)
  have BZ := Blk.new w2 (zc 1 2 2 ⟨#[]⟩ 2 5 ⟨#[]⟩) 31 gz hgz
  rw [← hw3] at l3 BZ
  have HHw3 := Lib.hid hw3
  have HHgz := Lib.hid hgz
  clear hw3 hgz
  have HL3 := Lib.hid ((HL.out.trans l2).trans l3)
  have HBZ := Lib.hid BZ
  have z0 := BZ.cell 0 _ rfl
  have z1 := BZ.cell 1 _ rfl
  have z2 := BZ.cell 2 _ rfl
  have z3 := BZ.cell 3 _ rfl
  have z4 := BZ.cell 4 _ rfl
  have z5 := BZ.cell 5 _ rfl
  have z6 := BZ.cell 6 _ rfl
  have HP := Lib.hid (zonePut_b w3 (HS.out.later HL3.out).sn)
  clear l2 l3 BZ HO HL
  go_wp2_with fail
  rw [← HHw3.out, ← HHgz.out]
  refine HP.out.mono ?_
  rintro e w4 ⟨A, c, rfl, hr4, hc4, hcm4, l4⟩
  have HL4 := Lib.hid (HL3.out.trans l4)
  have HBZ4 := Lib.hid (HBZ.out.later l4)
  have HT := Lib.hid (zoneTake_b A c w4 (HS.out.later HL4.out) hr4 hc4 hcm4)
  clear z0 z1 z2 z3 z4 z5 z6 hr4 hc4 hcm4 l4 HP HBZ HL3
  go_wp2_with fail
  refine HT.out.mono ?_
  rintro e w5 ⟨rfl, l5⟩
  have l6 := Later.new w5 (.cells #[.int .i64 1, .int .i64 2, .int .i64 2, .string ⟨#[]⟩, .int .i64 2, .int .i64 5, .string ⟨#[]⟩] 31)
  have BZ := HBZ4.out.later (l5.trans l6)
  have HBZ6 := Lib.hid BZ
  have HL6 := Lib.hid ((HL4.out.trans l5).trans l6)
  have z0 := BZ.cell 0 _ rfl
  have z1 := BZ.cell 1 _ rfl
  have z2 := BZ.cell 2 _ rfl
  have z3 := BZ.cell 3 _ rfl
  have z4 := BZ.cell 4 _ rfl
  have z5 := BZ.cell 5 _ rfl
  have z6 := BZ.cell 6 _ rfl
  clear l5 l6 BZ HT HBZ4 HL4
  go_wp2_with fail
  refine (zoneSame_b _).mono ?_
  rintro e w7 ⟨rfl, l7⟩
  have HL7 := Lib.hid (HL6.out.trans l7)
  have HBZ7 := Lib.hid (HBZ6.out.later l7)
  clear z0 z1 z2 z3 z4 z5 z6 HL6 HBZ6 l7
  have z0 := HBZ7.out.cell 0 _ rfl
  have z1 := HBZ7.out.cell 1 _ rfl
  have z2 := HBZ7.out.cell 2 _ rfl
  have z3 := HBZ7.out.cell 3 _ rfl
  have z4 := HBZ7.out.cell 4 _ rfl
  have z5 := HBZ7.out.cell 5 _ rfl
  have z6 := HBZ7.out.cell 6 _ rfl
  go_wp2_with fail
  refine (zoneCan_c 1 3 1 2 2 ⟨#[]⟩ 2 5 ⟨#[]⟩ 2 3 ⟨#[]⟩ w7).mono ?_
  rintro e w8 ⟨rfl, l8⟩
  rw [two11_c1]
  have HL8 := Lib.hid (HL7.out.trans l8)
  have HBZ8 := Lib.hid (HBZ7.out.later l8)
  clear z0 z1 z2 z3 z4 z5 z6 HL7 HBZ7 l8
  have z0 := HBZ8.out.cell 0 _ rfl
  have z1 := HBZ8.out.cell 1 _ rfl
  have z2 := HBZ8.out.cell 2 _ rfl
  have z3 := HBZ8.out.cell 3 _ rfl
  have z4 := HBZ8.out.cell 4 _ rfl
  have z5 := HBZ8.out.cell 5 _ rfl
  have z6 := HBZ8.out.cell 6 _ rfl
  go_wp2_with fail
  refine (zoneCan_c 1 3 5 2 2 ⟨#[]⟩ 2 5 ⟨#[]⟩ 2 5 ⟨#[]⟩ w8).mono ?_
  rintro e w9 ⟨rfl, l9⟩
  rw [two11_c2]
  have HL9 := Lib.hid (HL8.out.trans l9)
  clear z0 z1 z2 z3 z4 z5 z6 HL8 HBZ8 l9
  go_wp2_with fail
  go_ret
  exact ⟨rfl, HL9.out⟩
end Go.Proofs.YtjphfdjijmpicaaDoor
