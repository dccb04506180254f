/- begun of law 7, and the walk of DictBack. -/
import Derived.Test.YtfcedbhmbcbiaaaDoorDictD
import Derived.Test.YtfcedbhmbcbiaaaDoorSome7
import Derived.Test.YtfcedbhmbcbiaaaDoorLists
namespace Go.Proofs.YtfcedbhmbcbiaaaDoor
open Go.RowKit
set_option linter.unusedVariables false

def two7 : List Val3 := [(2, 5, ⟨#[]⟩), (2, 5, ⟨#[]⟩)]
theorem two7_put : putT 2 two7 = some [1, 10] := by decide
theorem two7_ok : OkL 2 two7 := by decide
theorem two7_64 : All64 two7 := by unfold All64 In64 two7; decide
theorem two7_none : putT 2 [(0, 0, ⟨#[]⟩)] = none := by decide
theorem zero7_64 : All64 [(0, 0, ⟨#[]⟩)] := by unfold All64 In64; decide
theorem two7_take : takeT 2 2 [1, 10] = some two7 := takeT_put (l := two7) two7_64 (by decide) two7_put

set_option maxRecDepth 100000 in
set_option maxHeartbeats 1000000 in
theorem begun7_any (w : World) (hs : S6 w) : Calls Tryd.prog 6 #[] w fun e w' => e = .returned (.bool true) ∧ Later w w' := by
  have l1 := Later.new w (.cells (fl two7).toArray 34)
  have B1 := Blk.new w (fl two7).toArray 34 _ rfl
  have HP := Lib.hid (dictPut_any 2 (some ⟨w.heap.size, 0, none⟩) 2 two7 _ (hs.later l1) (by decide) B1.has two7_64)
  have HL := Lib.hid l1
  have HS := Lib.hid (hs.later l1)
  clear l1 B1 hs
  go_enter Tryd.func6, Tryd.ntmps6
  go_wp2_with fail
  refine HP.out.mono ?_
  intro e w2 h
  obtain ⟨A, c, rfl, r2, hc1, hc2, hc3, l2⟩ := h.yes two7_put
  have HL2 := Lib.hid (HL.out.trans l2)
  have S2 := HS.out.later l2
  have HT := Lib.hid (dictTake_any 2 2 A c [1, 10] w2 S2 r2 (by decide) (by decide) hc1 hc2)
  have HS2 := Lib.hid S2
  clear h r2 hc1 hc2 hc3 l2 S2 HP HS HL
  go_wp2_with fail
  refine HT.out.mono ?_
  intro e w3 h
  obtain ⟨X, cx, rfl, hx, l3⟩ := h.yes two7_take
  obtain ⟨b, off, rfl, _, d1, _⟩ := hx.val3 1 (by decide)
  have D1 : CellIs w3 ⟨b, off + 3 + 1, none⟩ (.int .i64 5) := d1
  have HL3 := Lib.hid (HL2.out.trans l3)
  have S3 := HS2.out.later l3
  have l4 := Later.new w3 (.cells (fl [(0, 0, ⟨#[]⟩)]).toArray 34)
  have B4 := Blk.new w3 (fl [(0, 0, ⟨#[]⟩)]).toArray 34 _ rfl
  have HP2 := Lib.hid (dictPut_any 2 (some ⟨w3.heap.size, 0, none⟩) 1 [(0, 0, ⟨#[]⟩)] _ (S3.later l4) (by decide) B4.has zero7_64)
  have HL4 := Lib.hid (HL3.out.trans l4)
  have D4 := D1.later l4
  clear h hx d1 D1 l3 S3 l4 B4 HT HS2 HL2 HL3
  go_wp2_with fail
  refine HP2.out.mono ?_
  intro e w5 h
  obtain ⟨rfl, l5⟩ := h.no two7_none
  have d5 := (D4.later l5).out
  have HL5 := Lib.hid (HL4.out.trans l5)
  clear h l5 D4 HP2 HL4
  have hlen2 : ([1, 10] : List Nat).length = 2 := by decide
  have hlen3 : two7.length = 2 := by decide
  go_wp2_with fail
  go_ret
  exact ⟨rfl, HL5.out⟩

theorem dictTake_n (t n : Int) (A : Option Addr) (m c : Nat) (b : List Nat) (w : World) (hm : m = b.length) (hs : S6 w) (hr : Has w A (ints .u8 b)) (h256 : ∀ x ∈ b, x < 256) (hb : b.length ≤ 1000000) (hbc : b.length ≤ c) (hc : c ≤ 9223372036854775807) :
    Calls Tryd.prog 9 #[.int .i64 t, .int .i64 n, .slice A m c] w (PutsV (takeT t n b) w) := by
  subst hm; exact dictTake_any t n A c b w hs hr h256 hb hbc hc

set_option maxRecDepth 100000 in
theorem dictBack_long (t : Int) (A : Option Addr) (n c : Nat) (cut more : Int) (w : World) (hs : S6 w) (h : 60 < n) :
    Calls Tryd.prog 3 #[.int .u8 t, .slice A n c, .int .u16 cut, .int .u8 more] w fun e w' => e = .returned (.bool true) ∧ Later w w' := by
  have HB := Lib.hid (begun7_any w hs)
  clear hs
  go_enter Tryd.func3, Tryd.ntmps3
  go_wp2_with fail
  refine HB.out.mono ?_
  rintro e w1 ⟨rfl, l1⟩
  go_wp2_with fail
  go_ret
  exact ⟨rfl, l1⟩

set_option maxRecDepth 100000 in
set_option maxHeartbeats 2000000 in
theorem dictBack_walk (t : Nat) (A : Option Addr) (n c : Nat) (bs : List Nat) (cut more : Nat) (w : World) (hs : S6 w) (ht : t < 256) (hb : bs.length = n) (hn : n ≤ 60) (hr : Has w A (ints .u8 bs)) (h256 : ∀ x ∈ bs, x < 256) (hcut : cut < 65536) (hmore : more < 256) :
    Calls Tryd.prog 3 #[.int .u8 t, .slice A n c, .int .u16 cut, .int .u8 more] w fun e w' => e = .returned (.bool true) ∧ Later w w' := by
  have HB := Lib.hid (begun7_any w hs)
  have HS := Lib.hid hs
  have HR := Lib.hid hr
  have H256 := Lib.hid h256
  have HBS := Lib.hid hb
  obtain ⟨T, hT⟩ : ∃ T : Int, T = 1 + (t : Int) % 4 := ⟨_, rfl⟩
  have hT4 : 1 ≤ T ∧ T ≤ 4 := by omega
  have HTY := Lib.hid (show tyOf T = T by unfold tyOf; split <;> omega)
  have HT := Lib.hid hT.symm
  clear hs hr h256 hb hT
  go_enter Tryd.func3, Tryd.ntmps3
  go_wp2_with fail
  refine HB.out.mono ?_
  rintro e w1 ⟨rfl, l1⟩
  have HSM := Lib.hid (some_7 T 30 A n c bs w1 (by omega) (by omega) HBS.out (HR.out.later l1) H256.out)
  have HS1 := Lib.hid (HS.out.later l1)
  have HL1 := Lib.hid l1
  clear l1 HB HS
  go_wp2_with fail
  rw [HT.out]
  refine HSM.out.mono ?_
  rintro e w2 ⟨l, L, cl, rfl, hl, hok, h64, hl30, _, _, _, l2⟩
  rw [HTY.out] at hok
  obtain ⟨by_, hput⟩ : ∃ by_, putT T l = some by_ := putT_some hT4 hok
  have hby256 := putT_lt (by omega) h64 hput
  have hbyl := putT_le (by omega) hput
  have HS2 := Lib.hid (HS1.out.later l2)
  have HL2 := Lib.hid (HL1.out.trans l2)
  have HP := Lib.hid (dictPut_any T L cl l w2 HS2.out (by omega) hl h64)
  have HPUT := Lib.hid hput
  have HLL := Lib.hid hl
  have HOK := Lib.hid hok
  have H64 := Lib.hid h64
  have HTAKE := Lib.hid (takeT_put h64 (by omega) hput)
  have HBY := Lib.hid hby256
  clear hl hok h64 l2 HSM HS1 HL1 hput hby256
  go_wp2_with fail
  refine HP.out.mono ?_
  intro e w3 h
  obtain ⟨P, cp, rfl, r3, hc1, hc2, hc3, l3⟩ := h.yes HPUT.out
  have HS3 := Lib.hid (HS2.out.later l3)
  have HL3 := Lib.hid (HL2.out.trans l3)
  have HLL3 := Lib.hid (HLL.out.later l3)
  have HTK := Lib.hid (dictTake_any T l.length P cp by_ w3 HS3.out r3 HBY.out (by omega) hc1 hc2)
  have HR3 := Lib.hid r3
  have HC3 := Lib.hid hc3
  clear h r3 l3 HP HS2 HL2 HLL hc3
  go_wp2_with fail
  refine HTK.out.mono ?_
  intro e w4 h
  obtain ⟨X, cx, rfl, hx, l4⟩ := h.yes HTAKE.out
  have HS4 := Lib.hid (HS3.out.later l4)
  have HL4 := Lib.hid (HL3.out.trans l4)
  have HR4 := Lib.hid (HR3.out.later l4)
  have HSV := Lib.hid (sameValues_any X L cx cl l l w4 hx (HLL3.out.later l4) (by omega) (by omega))
  clear h hx l4 HTK HS3 HL3 HR3 HLL3
  go_wp2_with fail
  refine HSV.out.mono ?_
  intro e w5 h
  obtain ⟨rfl, l5⟩ := h.yes (by first | rfl | trivial)
  have HS5 := Lib.hid (HS4.out.later l5)
  have HL5 := Lib.hid (HL4.out.trans l5)
  have HR5 := Lib.hid (HR4.out.later l5)
  have l6 := Later.new w5 (.cells ([] : List Value).toArray 5)
  have OW := Lib.hid ((Blk.new w5 ([] : List Value).toArray 5 _ rfl).ownG (base := w5.heap.size) (size := 1) (n := 0) (Nat.le_refl _) rfl (by decide))
  have HR6 := Lib.hid (HR5.out.later l6)
  have z5 : w5.heap.size ≤ (w5.alloc (.cells ([] : List Value).toArray 5)).heap.size := l6.size
  have HZ5 := Lib.hid z5
  clear h l5 l6 HSV HS4 HL4 HR4 z5
  go_wp2_with (first
    | (at_builtin; refine wpList_append_rd _ rfl (.tmp 68) (.tmp 69) 22 rfl w5.heap.size 5 (.int .u8 0) 1 Tryd.underlying22 info_u8 rfl _ 0 [] rfl OW.out _ P by_.length cp (ints .u8 by_) rfl HR6.out ?_ HC3.out (ints_one _ _) ?_ ?_ ?_ ?_; (rw [ints_length]); (unfold maxLen; omega); omega; (exact HZ5.out); intro A6 c6 w6 o6 g6 b6 n6; simp only [Nat.zero_add, List.nil_append] at o6; have HO6 := Lib.hid o6; have HB6 := Lib.hid b6; clear o6 g6 b6 n6)
    | (at_builtin; refine wpList_append_rd _ rfl (.tmp 70) (.tmp 72) 22 rfl w5.heap.size 5 (.int .u8 0) 1 Tryd.underlying22 info_u8 rfl _ by_.length (ints .u8 by_) rfl (HO6.out.alloc _) _ _ 1 1 (ints .u8 [more]) rfl (rd_lit w6 _ .u8 [more] _ rfl) ?_ ?_ (ints_one _ _) ?_ ?_ ?_ ?_; rfl; (intro h; cases h); (unfold maxLen; omega); omega; (have := HB6.out.size; have := HZ5.out; simp; omega); intro A7 c7 w7 o7 g7 b7 n7; have HO7 := Lib.hid o7; have HB7 := Lib.hid b7; clear o7 g7 b7 n7))
  have L7 : Later w5 w7 := Later.of (Below.trans (Below.alloc (Below.trans (Below.alloc (Below.refl _ _) (Nat.le_refl _) _) HB6.out) (by have := HB6.out.size; have := HZ5.out; omega) _) HB7.out)
  have HR7 : Has w7 A7 (ints .u8 (by_ ++ [more])) := by
    have h := Has.own HO7.out
    rw [← ints_snoc] at h
    exact h
  have hlen7 : by_.length + 1 = (by_ ++ [more]).length := by rw [List.length_append]; simp
  have cap7 := own_cap HO7.out
  have HTN := Lib.hid (dictTake_n T l.length A7 (by_.length + 1) c7 (by_ ++ [more]) w7 hlen7 (HS5.out.later L7) HR7 (fun x hx => by
    rcases List.mem_append.1 hx with hx | hx
    · exact HBY.out x hx
    · rw [List.mem_singleton] at hx; omega) (by omega) (by omega) (own_capmax HO7.out))
  have HNO := Lib.hid (takeT_more (by omega) H64.out HPUT.out (x := more) hmore)
  have HS7 := Lib.hid (HS5.out.later L7)
  have HL7 := Lib.hid (HL5.out.trans L7)
  have HR8 := Lib.hid (HR5.out.later L7)
  clear L7 HR7 hlen7 cap7 HO6 HB6 HO7 HB7 HR5 HR6 HZ5 OW HS5 HL5
  go_wp2_with fail
  refine HTN.out.mono ?_
  intro e w8 h
  obtain ⟨rfl, l8⟩ := h.no HNO.out
  have HS8 := Lib.hid (HS7.out.later l8)
  have HL8 := Lib.hid (HL7.out.trans l8)
  have HR9 := Lib.hid (HR8.out.later l8)
  clear h l8 HTN HNO HS7 HL7 HR8
  by_cases h0 : by_.length = 0
  · have h0' : ((by_.length : Int) == 0) = true := by simp [h0]
    have HH0 := Lib.hid h0
    clear h0
    go_wp2_with fail
    go_ret
    exact ⟨rfl, HL8.out⟩
  · have h0' : ((by_.length : Int) == 0) = false := by rw [beq_eq_false_iff_ne]; omega
    obtain ⟨q, hq, hql⟩ : ∃ q : Nat, (cut : Int) % (by_.length : Int) = (q : Int) ∧ q < by_.length := ⟨cut % by_.length, by simp, Nat.mod_lt _ (by omega)⟩
    have HTN := Lib.hid (dictTake_n T l.length P q cp (by_.take q) w8 (by rw [List.length_take]; omega) HS8.out (by have h := HR9.out.take q; rw [ints_take] at h; exact h) (fun x hx => HBY.out x (List.mem_of_mem_take hx)) (by rw [List.length_take]; omega) (by rw [List.length_take]; omega) hc2)
    have HNO := Lib.hid (takeT_cut (by omega) H64.out HPUT.out hql)
    clear HR9 HS8
    go_wp2_with fail
    refine HTN.out.mono ?_
    intro e w9 h
    obtain ⟨rfl, l9⟩ := h.no HNO.out
    have HL9 := Lib.hid (HL8.out.trans l9)
    clear h l9 HTN HNO
    go_wp2_with fail
    go_ret
    exact ⟨rfl, HL9.out⟩
end Go.Proofs.YtfcedbhmbcbiaaaDoor
