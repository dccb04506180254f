/- The walk of ValueBack. -/
import Derived.Test.YtbmlipandjbbbaaDoorValTypes
namespace Go.Proofs.YtbmlipandjbbbaaDoor
open Go.RowKit
set_option linter.unusedVariables false

theorem putB_lt (t i : Int) (s : ByteArray) (h0 : 0 ≤ t) (h4 : t ≤ 4) (hs : s.size < 256) : ∀ x ∈ putB t i s, x < 256 := by
  intro x hx
  unfold putB at hx
  rcases List.mem_cons.1 hx with rfl | hx
  · omega
  · split at hx
    · rcases List.mem_cons.1 hx with rfl | hx
      · exact hs
      · exact nums_lt s x hx
    · exact topB_lt _ _ x hx
theorem valTake_n (A : Option Addr) (n c : Nat) (b : List Nat) (w : World) (hn : n = b.length) (hs : Sn w) (hr : Has w A (ints .u8 b)) (h256 : ∀ x ∈ b, x < 256) (hb : b.length ≤ 1000000) (hcap : b.length ≤ c) (hc : c ≤ 9223372036854775807) :
    Calls Tryd.prog 13 #[.slice A n c] w (TakesV b w) := by
  subst hn; exact valTake_any A c b w hs hr h256 hb hcap hc
theorem bstr_nums (s : ByteArray) : bstr (nums s) = s := by
  have h : (bstr (nums s)).data.toList = s.data.toList := by
    rw [bstr_toList]
    unfold nums
    rw [List.map_map]
    conv => rhs; rw [← List.map_id s.data.toList]
    refine List.map_congr_left fun x _ => ?_
    simp
  have e : (bstr (nums s)).data = s.data := Array.ext' h
  cases hb : bstr (nums s)
  rw [hb] at e
  cases s
  simp only at e
  rw [e]

set_option maxRecDepth 100000 in
theorem valBack_long (t i : Int) (s : ByteArray) (A : Option Addr) (n c : Nat) (k : Int) (w : World) (hs : Sn w) (h : 20 < n ∨ 40 < s.size) :
    Calls Tryd.prog 5 #[vagg t i s, .slice A n c, .int .u8 k] w fun e w' => e = .returned (.bool true) ∧ Later w w' := by
  obtain ⟨w1, hw1⟩ : ∃ w1 : World, w.alloc (.cells #[.int .i64 t, .int .i64 i, .string s] 23) = w1 := ⟨_, rfl⟩
  have L1 : Later w w1 := hw1 ▸ Later.new _ _
  have V1 : Blk w1 w.heap.size #[.int .i64 t, .int .i64 i, .string s] 23 := hw1 ▸ Blk.new w _ _ _ rfl
  have HW := Lib.hid hw1
  clear hw1
  by_cases hn : 20 < n
  · clear h
    go_enter Tryd.func5, Tryd.ntmps5
    go_wp2_with fail
    rw [HW.out]
    refine (begun1_any w1 (hs.later L1)).mono ?_
    rintro e w2 ⟨rfl, l2⟩
    have L2 := L1.trans l2
    clear HW V1 L1 l2
    go_wp2_with fail
    go_ret
    exact ⟨rfl, L2⟩
  · have hs40 : 40 < s.size := by omega
    clear h
    go_enter Tryd.func5, Tryd.ntmps5
    go_wp2_with fail
    rw [HW.out]
    refine (begun1_any w1 (hs.later L1)).mono ?_
    rintro e w2 ⟨rfl, l2⟩
    have V2 := V1.later l2
    have L2 := L1.trans l2
    have a2 := V2.cell 2 _ rfl
    clear HW V1 L1 l2
    go_wp2_with fail
    go_ret
    exact ⟨rfl, L2⟩

set_option maxRecDepth 100000 in
set_option maxHeartbeats 2000000 in
theorem valBack_walk (t i : Int) (s : ByteArray) (A : Option Addr) (c : Nat) (b : List Nat) (cut : Nat) (w : World) (hs : Sn w) (hr : Has w A (ints .u8 b)) (hnil : A = none → c = 0) (h256 : ∀ x ∈ b, x < 256) (hb : b.length ≤ 20) (hs40 : s.size ≤ 40) (hcut : cut < 256)
    (h0 : -9223372036854775808 ≤ i) (h1 : i ≤ 9223372036854775807) :
    Calls Tryd.prog 5 #[vagg t i s, .slice A b.length c, .int .u8 cut] w fun e w' => e = .returned (.bool true) ∧ Later w w' := by
  obtain ⟨w1, hw1⟩ : ∃ w1 : World, w.alloc (.cells #[.int .i64 t, .int .i64 i, .string s] 23) = w1 := ⟨_, rfl⟩
  have L1 : Later w w1 := hw1 ▸ Later.new _ _
  have V1 : Blk w1 w.heap.size #[.int .i64 t, .int .i64 i, .string s] 23 := hw1 ▸ Blk.new w _ _ _ rfl
  have HW := Lib.hid hw1
  clear hw1
  have HNIL := Lib.hid hnil
  clear hnil
  go_enter Tryd.func5, Tryd.ntmps5
  go_wp2_with fail
  rw [HW.out]
  refine (begun1_any w1 (hs.later L1)).mono ?_
  rintro e w2 ⟨rfl, l2⟩
  have V2 := V1.later l2
  have L2 := L1.trans l2
  have a0 := V2.cell 0 _ rfl
  have a1 := V2.cell 1 _ rfl
  have a2 := V2.cell 2 _ rfl
  clear HW V1 L1 l2
  go_wp2_with fail
  by_cases hm : MayV t i s.size
  · refine (valPut_l t i s w2 (hs.later L2) hm).mono ?_
    rintro e w3 ⟨P, cp, rfl, r3, hc1, hc2, hPn, l3⟩
    have V3 := V2.later l3
    have L3 := L2.trans l3
    have b0 := V3.cell 0 _ rfl
    have b1 := V3.cell 1 _ rfl
    have b2 := V3.cell 2 _ rfl
    clear a0 a1 a2 V2 L2 l3
    go_wp2_with fail
    refine (may_l t i s w3 (hs.later L3)).mono ?_
    intro e w4 h
    obtain ⟨rfl, l4⟩ := h.yes hm
    have V4 := V3.later l4
    have L4 := L3.trans l4
    have R4 := r3.later l4
    have hm0 : 0 ≤ t ∧ t ≤ 4 := by unfold MayV at hm; omega
    obtain ⟨bs, hbs⟩ : ∃ bs, bs = putB t i s := ⟨_, rfl⟩
    have hlen := putB_length t i s
    have hw8 := widthV_le t
    have hbs256 : ∀ x ∈ bs, x < 256 := by rw [hbs]; exact putB_lt t i s hm0.1 hm0.2 (by omega)
    rw [← hbs] at R4 hc1 hlen ⊢
    have hL1 : 1 ≤ bs.length := by rw [hlen]; split <;> omega
    have hL50 : bs.length ≤ 50 := by rw [hlen]; split <;> omega
    have HT1 := Lib.hid (takeV_put t i s b hm h0 h1)
    have HT2 := Lib.hid (fun k hk => takeV_cut t i s k hm hk)
    rw [← hbs] at HT1 HT2
    have HBS := Lib.hid hbs
    have HPN := Lib.hid hPn
    obtain ⟨tn, rfl⟩ : ∃ tn : Nat, t = (tn : Int) := ⟨t.toNat, by omega⟩
    have hR : Has (w4.alloc (.cells #[] 5)) P (ints .u8 bs) := R4.later (Later.new _ _)
    have HR := Lib.hid hR
    have HB := Lib.hid (hr.later L4)
    have HO := Lib.hid (show (w4.alloc (.cells #[] 5)).ownsRow w4.heap.size 5 1 (.slice (some ⟨w4.heap.size, 0, none⟩) 0 0) 0 [] from (Row.lit w4 5 .u8 []).own (Nat.le_refl _) (by simp))
    clear b0 b1 b2 V3 L3 l4 r3 h hm hlen hw8 hbs hPn hr hR
    go_wp2_with (first
      | (at_builtin; refine wpList_append_rd _ rfl (.tmp 37) (.tmp 38) 24 rfl w4.heap.size 5 (.int .u8 0) 1 Tryd.underlying24 info_u8 rfl _ 0 [] rfl HO.out _ _ bs.length cp (ints .u8 bs) rfl HR.out.rd ?_ HPN.out (ints_one _ _) ?_ ?_ ?_ ?_; (rw [ints_length]); (unfold maxLen; omega); omega; (simp); intro A1 c1 w5 o1 g1 lb1 n1; simp only [Nat.zero_add, List.nil_append] at o1; have HO1 := Lib.hid o1; have l5 : Later w4 w5 := Later.of ((Later.new w4 _).below.trans lb1); clear o1 g1 lb1 n1)
      | (at_builtin; refine wpList_append_rd _ rfl (.tmp 39) (.tmp 40) 24 rfl w4.heap.size 5 (.int .u8 0) 1 Tryd.underlying24 info_u8 rfl _ bs.length (ints .u8 bs) rfl HO1.out _ _ b.length c (ints .u8 b) rfl (HB.out.later l5).rd ?_ HNIL.out (ints_one _ _) ?_ ?_ ?_ ?_; (rw [ints_length]); (unfold maxLen; omega); omega; exact l5.size; intro A2 c2 w6 o2 g2 lb2 n2; have HO2 := Lib.hid o2; have l6 : Later w4 w6 := Later.of (l5.below.trans lb2); clear o2 g2 lb2 n2))
    refine (valTake_n A2 (bs.length + b.length) c2 (bs ++ b) w6 (by rw [List.length_append]) (hs.later (L4.trans l6)) (by rw [ints_snoc]; exact Has.own HO2.out) (by intro x hx; rcases List.mem_append.1 hx with h | h; exact hbs256 x h; exact h256 x h) (by rw [List.length_append]; omega) (by rw [List.length_append]; exact own_cap HO2.out) (own_capmax HO2.out)).mono ?_
    intro e w7 h
    obtain ⟨he, l7⟩ := h.yes HT1.out
    rw [bstr_nums] at he
    subst he
    have V7 := V4.later (l6.trans l7)
    have L7 := (L4.trans l6).trans l7
    have R7 := R4.later (l6.trans l7)
    have X8 := Blk.new w7 #[.int .i64 tn, .int .i64 i, .string s] 23 _ rfl
    have l8 := Later.new w7 (.cells #[.int .i64 tn, .int .i64 i, .string s] 23)
    obtain ⟨w8, hw8⟩ : ∃ w8 : World, w7.alloc (.cells #[.int .i64 tn, .int .i64 i, .string s] 23) = w8 := ⟨_, rfl⟩
    rw [hw8] at X8 l8
    have HW8 := Lib.hid hw8
    have V8 := V7.later l8
    have L8 := L7.trans l8
    have R8 := R7.later l8
    have hk : cut % bs.length < bs.length := Nat.mod_lt _ (by omega)
    obtain ⟨k, hke⟩ : ∃ k, k = cut % bs.length := ⟨_, rfl⟩
    have hkm : (cut : Int) % (bs.length : Int) = (k : Int) := by rw [hke]; simp
    rw [← hke] at hk
    have hkc : k ≤ cp := by omega
    clear h hw8 V7 L7 R7 l8 l7 l6 l5 HO1 HO2 HR HB HO V4 L4 R4 hke
    go_wp2_with fail
    rw [HW8.out]
    refine (valTake_n P k cp (bs.take k) w8 (by rw [List.length_take]; omega) (hs.later L8) (by rw [← ints_take']; exact R8.take k) (fun x hx => hbs256 x (List.mem_of_mem_take hx)) (by rw [List.length_take]; omega) (by rw [List.length_take]; omega) hc2).mono ?_
    intro e w9 h
    obtain ⟨rfl, l9⟩ := h.no (HT2.out k hk)
    have V9 := V8.later l9
    have X9 := X8.later l9
    have L9 := L8.trans l9
    have x0 := X9.cell 0 _ rfl
    have x1 := X9.cell 1 _ rfl
    have x2 := X9.cell 2 _ rfl
    have y0 := V9.cell 0 _ rfl
    have y1 := V9.cell 1 _ rfl
    have y2 := V9.cell 2 _ rfl
    have zx := X9.lt
    have zy := V9.lt
    clear h l9 HW8 V8 X8 L8 R8 hkm hk hkc
    go_wp2_with fail
    go_ret
    exact ⟨rfl, L9.alloc _⟩
  · refine (valPut_n t i s w2 (hs.later L2) hm).mono ?_
    rintro e w3 ⟨rfl, l3⟩
    have V3 := V2.later l3
    have L3 := L2.trans l3
    have b0 := V3.cell 0 _ rfl
    have b1 := V3.cell 1 _ rfl
    have b2 := V3.cell 2 _ rfl
    clear a0 a1 a2 V2 L2 l3
    go_wp2_with fail
    refine (may_l t i s w3 (hs.later L3)).mono ?_
    intro e w4 h
    obtain ⟨rfl, l4⟩ := h.no hm
    have L4 := L3.trans l4
    clear b0 b1 b2 V3 L3 l4 h
    go_wp2_with fail
    go_ret
    exact ⟨rfl, L4⟩
end Go.Proofs.YtbmlipandjbbbaaDoor
