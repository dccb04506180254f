/- The walk of ColumnBack. -/
import Derived.Test.YtnfomdjcpkgdpaaGreatDoorCol10
namespace Go.Proofs.YtnfomdjcpkgdpaaGreatDoor
open Go.RowKit
set_option linter.unusedVariables false

set_option maxRecDepth 100000 in
theorem columnBack_long (en t : Int) (A : Option Addr) (n c : Nat) (cut more : Int) (w : World) (hs : S10 w) (h : 60 < n) :
    Calls Tryz.prog 4 #[.int .u8 en, .int .u8 t, .slice A n c, .int .u16 cut, .int .u8 more] w fun e w' => e = .returned (.bool true) ∧ Later w w' := by
  have HB := Lib.hid (begun10_any w hs)
  clear hs
  go_enter Tryz.func4, Tryz.ntmps4
  go_wp2_with fail
  refine HB.out.mono ?_
  rintro e w1 ⟨rfl, l1⟩
  go_wp2_with fail
  go_ret
  exact ⟨rfl, l1⟩

theorem usedC_some {e t : Int} (he : 1 ≤ e ∧ e ≤ 5) (ht : 1 ≤ t ∧ t ≤ 4) : ∃ u, usedC e t = some u := by
  unfold usedC
  rw [if_pos ⟨ht, he⟩]
  exact ⟨_, rfl⟩

set_option maxRecDepth 100000 in
set_option maxHeartbeats 2000000 in
theorem columnBack_walk (en t : Nat) (A : Option Addr) (n c : Nat) (bs : List Nat) (cut more : Nat) (w : World) (hs : S10 w) (hen : en < 256) (ht : t < 256) (hb : bs.length = n) (hn : n ≤ 60) (hr : Has w A (ints .u8 bs)) (h256 : ∀ x ∈ bs, x < 256) (hcut : cut < 65536) (hmore : more < 256) :
    Calls Tryz.prog 4 #[.int .u8 en, .int .u8 t, .slice A n c, .int .u16 cut, .int .u8 more] w fun e w' => e = .returned (.bool true) ∧ Later w w' := by
  have HB := Lib.hid (begun10_any w hs)
  have HS := Lib.hid hs
  have HR := Lib.hid hr
  have H256 := Lib.hid h256
  have HBS := Lib.hid hb
  obtain ⟨T, hT⟩ : ∃ T : Int, T = 1 + (t : Int) % 4 := ⟨_, rfl⟩
  obtain ⟨E, hE⟩ : ∃ E : Int, E = 1 + (en : Int) % 5 := ⟨_, rfl⟩
  have hT4 : 1 ≤ T ∧ T ≤ 4 := by omega
  have hE5 : 1 ≤ E ∧ E ≤ 5 := by omega
  obtain ⟨u, hu⟩ := usedC_some hE5 hT4
  have HTY := Lib.hid (show tyOf T = T by unfold tyOf; split <;> omega)
  have HT := Lib.hid hT.symm
  have HE := Lib.hid hE.symm
  have HUU := Lib.hid hu
  obtain ⟨N, hN⟩ : ∃ N, N = n / 3 := ⟨_, rfl⟩
  have hN3 : (n : Int) / 3 = (N : Int) := by omega
  have hNl : N ≤ 20 := by omega
  have HNL := Lib.hid hNl
  clear hs hr h256 hb hT hE hN hu
  go_enter Tryz.func4, Tryz.ntmps4
  go_wp2_with fail
  refine HB.out.mono ?_
  rintro e w1 ⟨rfl, l1⟩
  have HSM := Lib.hid (col_10 T N A n c bs w1 (by omega) (by omega) HBS.out (HR.out.later l1) H256.out)
  have HS1 := Lib.hid (HS.out.later l1)
  have HL1 := Lib.hid l1
  clear l1 HB HS
  go_wp2_with fail
  rw [HT.out, HE.out]
  refine HSM.out.mono ?_
  rintro e w2 ⟨l, L, cl, rfl, hl, hok, h64, hl30, _, _, _, l2⟩
  rw [HTY.out] at hok
  obtain ⟨cb, hcb, hput⟩ := putC_some HUU.out hok
  obtain ⟨by_, hby⟩ : ∃ by_, by_ = headC u l ++ cb := ⟨_, rfl⟩
  rw [← hby] at hput
  have hll : l.length ≤ 1000 := by omega
  have hby256 := putC_lt hll h64 hput
  have hbyl := putC_le hll h64 hput
  have HS2 := Lib.hid (HS1.out.later l2)
  have HL2 := Lib.hid (HL1.out.trans l2)
  have HP := Lib.hid (colPut_any E T L l.length cl l w2 rfl HS2.out.s6 hll hl h64)
  have HPUT := Lib.hid hput
  have HLL := Lib.hid hl
  have H64 := Lib.hid h64
  have HTAKE := Lib.hid (takeC10_put HUU.out h64 hll hput)
  have HBY := Lib.hid hby256
  have hb2 : 2 ≤ by_.length := hbyl.1
  have hbi : (2 : Int) ≤ (by_.length : Int) := by omega
  have hbu : by_.length ≤ 1000 := by have := hbyl.2; omega
  have HLN := Lib.hid hll
  clear hl hok h64 l2 HSM HS1 HL1 hput hby256 hbyl hby hcb hl30
  go_wp2_with fail
  refine HP.out.mono ?_
  intro e w3 h
  obtain ⟨P, cp, rfl, r3, hc1, hc2, hc3, l3⟩ := h.yes HPUT.out
  have HS3 := Lib.hid (HS2.out.later l3)
  have HL3 := Lib.hid (HL2.out.trans l3)
  have HLL3 := Lib.hid (HLL.out.later l3)
  have HTK := Lib.hid (colTake_any T l.length P by_.length cp by_ w3 HS3.out rfl r3 HBY.out (by omega) hc1 hc2)
  have HR3 := Lib.hid r3
  have HC3 := Lib.hid hc3
  clear h r3 l3 HP HS2 HL2 HLL hc3
  go_wp2_with fail
  refine HTK.out.mono ?_
  intro e w4 h
  obtain ⟨X, cx, rfl, hx, l4⟩ := h.yes HTAKE.out
  have HS4 := Lib.hid (HS3.out.later l4)
  have HL4 := Lib.hid (HL3.out.trans l4)
  have HR4 := Lib.hid (HR3.out.later l4)
  have HX4 := Lib.hid hx
  have HLL4 := Lib.hid (HLL3.out.later l4)
  have HUS := Lib.hid (colUsed_yes E T u w4 HUU.out)
  have l6 := Later.new w4 (.cells ([] : List Value).toArray 5)
  have OW := Lib.hid ((Blk.new w4 ([] : List Value).toArray 5 _ rfl).ownG (base := w4.heap.size) (size := 1) (n := 0) (Nat.le_refl _) rfl (by decide))
  have HR6 := Lib.hid (HR4.out.later l6)
  have z5 : w4.heap.size ≤ (w4.alloc (.cells ([] : List Value).toArray 5)).heap.size := l6.size
  have HZ5 := Lib.hid z5
  clear h hx l4 l6 HTK HS3 HL3 HR3 HLL3 z5
  go_wp2_with (first
    | (go_at_call 8; refine HUS.out.mono ?_; rintro e w' ⟨rfl, rfl⟩)
    | (at_builtin; refine wpList_append_rd _ rfl (.tmp 79) (.tmp 80) 22 rfl w4.heap.size 5 (.int .u8 0) 1 Tryz.underlying22 info_u8 rfl _ 0 [] rfl OW.out _ P by_.length cp (ints .u8 by_) rfl HR6.out ?_ HC3.out (ints_one _ _) ?_ ?_ ?_ ?_; (rw [ints_length]); (unfold maxLen; omega); omega; (exact HZ5.out); intro A6 c6 w6 o6 g6 b6 n6; simp only [Nat.zero_add, List.nil_append] at o6; have HO6 := Lib.hid o6; have HB6 := Lib.hid b6; clear o6 g6 b6 n6)
    | (at_builtin; refine wpList_append_rd _ rfl (.tmp 81) (.tmp 83) 22 rfl w4.heap.size 5 (.int .u8 0) 1 Tryz.underlying22 info_u8 rfl _ by_.length (ints .u8 by_) rfl (HO6.out.alloc _) _ _ 1 1 (ints .u8 [more]) rfl (rd_lit w6 _ .u8 [more] _ rfl) ?_ ?_ (ints_one _ _) ?_ ?_ ?_ ?_; rfl; (intro h; cases h); (unfold maxLen; omega); omega; (have := HB6.out.size; have := HZ5.out; simp; omega); intro A7 c7 w7 o7 g7 b7 n7; have HO7 := Lib.hid o7; have HB7 := Lib.hid b7; clear o7 g7 b7 n7))
  have L7 : Later w4 w7 := Later.of (Below.trans (Below.alloc (Below.trans (Below.alloc (Below.refl _ _) (Nat.le_refl _) _) HB6.out) (by have := HB6.out.size; have := HZ5.out; omega) _) HB7.out)
  have HR7 : Has w7 A7 (ints .u8 (by_ ++ [more])) := by
    have h := Has.own HO7.out
    rw [← ints_snoc] at h
    exact h
  have hlen7 : by_.length + 1 = (by_ ++ [more]).length := by rw [List.length_append]; simp
  have cap7 := own_cap HO7.out
  have HTN := Lib.hid (colTake_any T l.length A7 (by_.length + 1) c7 (by_ ++ [more]) w7 (HS4.out.later L7) hlen7 HR7 (fun x hx => by
    rcases List.mem_append.1 hx with hx | hx
    · exact HBY.out x hx
    · rw [List.mem_singleton] at hx; omega) (by omega) (by omega) (own_capmax HO7.out))
  have HNO := Lib.hid (takeC10_more H64.out HLN.out HPUT.out (x := more) hmore)
  have HS7 := Lib.hid (HS4.out.later L7)
  have HL7 := Lib.hid (HL4.out.trans L7)
  have HR8 := Lib.hid (HR4.out.later L7)
  have HX7 := Lib.hid (HX4.out.later L7)
  have HLL7 := Lib.hid (HLL4.out.later L7)
  clear L7 HR7 hlen7 cap7 HO6 HB6 HO7 HB7 HR4 HR6 HZ5 OW HS4 HL4 HX4 HLL4 HUS
  go_wp2_with fail
  refine HTN.out.mono ?_
  intro e w8 h
  obtain ⟨rfl, l8⟩ := h.no HNO.out
  have HS8 := Lib.hid (HS7.out.later l8)
  have HL8 := Lib.hid (HL7.out.trans l8)
  have HR9 := Lib.hid (HR8.out.later l8)
  have HX8 := Lib.hid (HX7.out.later l8)
  have HLL8 := Lib.hid (HLL7.out.later l8)
  have h0' : ((by_.length : Int) == 0) = false := by rw [beq_eq_false_iff_ne]; omega
  obtain ⟨q, hq, hql⟩ : ∃ q : Nat, (cut : Int) % (by_.length : Int) = (q : Int) ∧ q < by_.length := ⟨cut % by_.length, by simp, Nat.mod_lt _ (by omega)⟩
  have HTN2 := Lib.hid (colTake_any T l.length P q cp (by_.take q) w8 HS8.out (by rw [List.length_take]; omega) (by have h := HR9.out.take q; rw [ints_take] at h; exact h) (fun x hx => HBY.out x (List.mem_of_mem_take hx)) (by rw [List.length_take]; omega) (by omega) hc2)
  have HNO2 := Lib.hid (takeC10_cut H64.out HLN.out HPUT.out hql)
  clear h l8 HTN HNO HS7 HL7 HR8 HX7 HLL7 HR9 HS8
  go_wp2_with fail
  refine HTN2.out.mono ?_
  intro e w9 h
  obtain ⟨rfl, l9⟩ := h.no HNO2.out
  have HL9 := Lib.hid (HL8.out.trans l9)
  have HSV := Lib.hid (sameValues_any X L cx cl l l w9 (HX8.out.later l9) (HLL8.out.later l9) (by have := HLN.out; omega) (by have := HLN.out; omega))
  clear h l9 HTN2 HNO2 HX8 HLL8 HL8
  go_wp2_with (go_at_call 16; refine HSV.out.mono ?_; intro e w5 h; obtain ⟨rfl, l5⟩ := h.yes (by first | rfl | trivial); have HL10 := Lib.hid (HL9.out.trans l5); clear h l5)
  go_ret
  exact ⟨rfl, HL10.out⟩
end Go.Proofs.YtnfomdjcpkgdpaaGreatDoor
