/- The reference's PutTag, TakeTag. -/
import Derived.Test.YtnmldploafpbdaaDoorTagB
namespace Go.Proofs.YtnmldploafpbdaaDoor
open Go.RowKit
set_option linter.unusedVariables false

set_option maxRecDepth 100000 in
theorem refPutTag_long (g s : Nat) (A : Option Addr) (n c : Nat) (w : World) (h : 110 < n) :
    Calls Tryd.prog 25 #[.int .u32 g, .int .u32 s, .slice A n c] w fun e w' => e = .returned (.tuple #[.slice none 0 0, .bool false]) ∧ w = w' := by
  have hd : decide ((110 : Int) < (n : Int)) = true := by simp; omega
  go_enter Tryd.func25, Tryd.ntmps25
  go_wp2_with fail
  go_ret2
  exact ⟨rfl, rfl⟩

set_option maxRecDepth 100000 in
set_option maxHeartbeats 4000000 in
theorem refPutTag_any (g s : Nat) (A : Option Addr) (n c : Nat) (l : List Nat) (w : World) (hg : g < 4294967296) (hs : s < 4294967296) (hn : n = l.length) (hr : Has w A (ints .u8 l)) (hnil : A = none → c = 0) :
    Calls Tryd.prog 25 #[.int .u32 g, .int .u32 s, .slice A n c] w (PutsT (putT20 g s l) w) := by
  by_cases h110 : l.length ≤ 110
  · have hp : putT20 g s l = some (tagB g s l) := if_pos h110
    rw [hp]
    have e1 : IntKind.u8.wrap (n : Int) = (n : Int) := by rw [IntKind.wrap_u8]; omega
    have e2 : IntKind.u64.wrap (g : Int) = (g : Int) := by rw [IntKind.wrap_u64]; omega
    have e3 : IntKind.u64.wrap (s : Int) = (s : Int) := by rw [IntKind.wrap_u64]; omega
    have HR := Lib.hid hr
    have HN := Lib.hid hn
    have HNIL := Lib.hid hnil
    have hn9 : n ≤ 110 := by omega
    have hd : decide ((110 : Int) < (n : Int)) = false := by simp; omega
    obtain ⟨N, hN⟩ : ∃ N, 0 + 8 + 1 + n = N := ⟨_, rfl⟩
    obtain ⟨K, hK⟩ : ∃ K, K = 111 - n := ⟨_, rfl⟩
    have HN8 := Lib.hid hN
    have HK := Lib.hid hK
    have HSUB := Lib.hid (show (120 : Int) - (N : Int) = (K : Int) by omega)
    have HNK := Lib.hid (show N + K = 120 by omega)
    have HK0 := Lib.hid (show 0 < K by omega)
    clear hp hr hn hnil h110 hN hK
    go_enter Tryd.func25, Tryd.ntmps25
    go_wp2_with fail
    refine (refHigh_makes g 4 (by omega) (by decide) w).mono ?_
    rintro e w1 ⟨rfl, r1, b1⟩
    have HO1 := Lib.hid (Row.own r1 (base := w.heap.size) (Nat.le_refl _) (by rw [topB_length]; decide))
    have HL1 := Lib.hid (Later.of b1)
    clear r1 b1 hd
    go_wp2_with fail
    refine (refHigh_makes s 4 (by omega) (by decide) w1).mono ?_
    rintro e w2 ⟨rfl, r2, b2⟩
    have HR2 := Lib.hid (Has.row r2)
    have HO2 := Lib.hid (own_later HO1.out (Later.of b2))
    have HL2 := Lib.hid (HL1.out.trans (Later.of b2))
    rw [topB_length] at HO2
    have hsub := HSUB.out
    clear r2 b2 HO1 HL1
    go_wp2_with (first
      | (at_builtin; refine wpList_append_rd _ rfl (.tmp 15) (.tmp 18) 39 rfl w.heap.size 5 (.int .u8 0) 1 Tryd.underlying39 info_u8 rfl _ 4 (ints .u8 (topB g 4)) rfl HO2.out _ (some ⟨w1.heap.size, 0, none⟩) 4 4 (ints .u8 (topB s 4)) rfl HR2.out ?_ (by intro h; cases h) (ints_one _ _) ?_ ?_ ?_ ?_; (rw [ints_length, topB_length]); (unfold maxLen; omega); omega; (exact HL2.out.size); intro A3 c3 w3 o3 g3 b3 n3; have HT3 := Lib.hid (show Has w3 A3 (ints .u8 (nums8 g s)) from by have h := Has.own o3; rw [← ints_snoc] at h; exact h); have HN3 := Lib.hid n3; have HL3 := Lib.hid (Later.of (HL2.out.below.trans b3)); clear o3 g3 b3 n3)
      | (at_builtin; refine wpList_append_rd _ rfl (.tmp 20) (.tmp 21) 39 rfl w3.heap.size 5 (.int .u8 0) 1 Tryd.underlying39 info_u8 rfl _ 0 [] rfl ((Blk.new w3 ([] : List Value).toArray 5 _ rfl).ownG (base := w3.heap.size) (size := 1) (n := 0) (Nat.le_refl _) rfl (by decide)) _ A3 8 c3 (ints .u8 (nums8 g s)) rfl (HT3.out.later (Later.new _ _)).rd ?_ HN3.out (ints_one _ _) ?_ ?_ ?_ ?_; (rw [ints_length, nums8_len]); (unfold maxLen; omega); omega; (exact (Later.new _ _).size); intro A4 c4 w4 o4 g4 b4 n4; have HO4 := Lib.hid o4; have HL34 := Lib.hid (show Later w3 w4 from Later.of ((Later.new w3 _).below.trans b4)); clear o4 g4 b4 n4)
      | (at_builtin; refine wpList_append_rd _ rfl (.tmp 22) (.tmp 26) 39 rfl w3.heap.size 5 (.int .u8 0) 1 Tryd.underlying39 info_u8 rfl _ (0 + 8) ([] ++ ints .u8 (nums8 g s)) rfl (own_later HO4.out (Later.new _ _)) _ _ 1 1 (ints .u8 [n]) rfl (rd_lit w4 _ .u8 [n] _ rfl) ?_ ?_ (ints_one _ _) ?_ ?_ ?_ ?_; rfl; (intro h; cases h); (unfold maxLen; omega); omega; (exact Nat.le_trans HL34.out.size (by simp)); intro A5 c5 w5 o5 g5 b5 n5; have HO5 := Lib.hid o5; have HL35 := Lib.hid (show Later w3 w5 from Later.of ((HL34.out.alloc _).below.trans b5)); clear o5 g5 b5 n5)
      | (at_builtin; refine wpList_append_rd _ rfl (.tmp 27) (.tmp 28) 39 rfl w3.heap.size 5 (.int .u8 0) 1 Tryd.underlying39 info_u8 rfl _ (0 + 8 + 1) ([] ++ ints .u8 (nums8 g s) ++ ints .u8 [n]) rfl HO5.out _ A n c (ints .u8 l) rfl (HR.out.later (HL3.out.trans HL35.out)).rd ?_ HNIL.out (ints_one _ _) ?_ ?_ ?_ ?_; (rw [ints_length]; exact HN.out); (unfold maxLen; omega); omega; (exact HL35.out.size); intro A6 c6 w6 o6 g6 b6 n6; rw [HN8.out] at o6 ⊢; obtain ⟨gb, rfl⟩ := own_some o6 (by have := HN8.out; omega); have HO6 := Lib.hid o6; have HL36 := Lib.hid (show Later w3 w6 from Later.of (HL35.out.below.trans b6)); clear o6 g6 b6 n6)
      | (at_builtin; refine wpList_append_zeros _ rfl (.tmp 30) (.tmp 33) 39 3 rfl w3.heap.size 5 Tryd.underlying39 Tryd.underlying3 info_u8 gb N c6 _ rfl HO6.out K rfl HK0.out (by have := HNK.out; omega) HL36.out.size ?_; intro A7 c7 w7 o7 b7 n7; rw [HNK.out] at o7 ⊢; have HO7 := Lib.hid o7; have HL37 := Lib.hid (show Later w3 w7 from Later.of (HL36.out.below.trans b7)); clear o7 b7 n7)
      | (at_builtin; refine wpList_append_rd _ rfl (.tmp 35) (.tmp 36) 39 rfl w3.heap.size 5 (.int .u8 0) 1 Tryd.underlying39 info_u8 rfl _ 120 _ rfl HO7.out _ A3 8 c3 (ints .u8 (nums8 g s)) rfl (HT3.out.later HL37.out).rd ?_ HN3.out (ints_one _ _) ?_ ?_ ?_ ?_; (rw [ints_length, nums8_len]); (unfold maxLen; omega); omega; (exact HL37.out.size); intro A8 c8 w8 o8 g8 b8 n8; have HO8 := Lib.hid o8; have HL38 := Lib.hid (show Later w3 w8 from Later.of (HL37.out.below.trans b8)); clear o8 g8 b8 n8))
    go_ret2
    refine ⟨.inr ⟨A8, c8, _, rfl, ?_, rfl, ?_⟩, HL3.out.trans HL38.out⟩
    · exact tagB_len (by have := HN.out; omega)
    · have h := own_mono HO8.out HL3.out.size
      have e : [] ++ ints .u8 (nums8 g s) ++ ints .u8 [n] ++ ints .u8 l ++ ints .u8 (List.replicate K 0) ++ ints .u8 (nums8 g s) = ints .u8 (tagB g s l) := by
        rw [List.nil_append, ← ints_snoc, ← ints_snoc, ← ints_snoc, ← ints_snoc]
        unfold tagB tagHead
        rw [← HN.out, ← HK.out]
        simp
      rw [e] at h
      exact h
  · have hp : putT20 g s l = none := if_neg h110
    rw [hp]
    refine (refPutTag_long g s A n c w (by omega)).mono ?_
    rintro e w' ⟨rfl, rfl⟩
    exact ⟨.inl ⟨rfl, rfl⟩, Later.refl _⟩

set_option maxRecDepth 100000 in
set_option maxHeartbeats 4000000 in
theorem refTakeTag_any (g s : Nat) (A : Option Addr) (n c : Nat) (b : List Nat) (w : World) (hg : g < 4294967296) (hs : s < 4294967296) (hn : n = b.length) (hr : Has w A (ints .u8 b)) (h256 : ∀ x ∈ b, x < 256) (hb : b.length ≤ 1000) (hnc : n ≤ c) (hcm : c ≤ 9223372036854775807) :
    Calls Tryd.prog 27 #[.int .u32 g, .int .u32 s, .slice A n c] w (TakesT (takeT20 g s b) w) := by
  by_cases h128 : b.length = 128
  · obtain ⟨bb, off, rfl, hlt, hcell⟩ : ∃ bb off, A = some ⟨bb, off, none⟩ ∧ bb < w.heap.size ∧ w.cell? ⟨bb, off + 8, none⟩ = some (.int .u8 ((b[8]'(by omega) : Nat) : Int)) := by
      rcases hr with h | ⟨bb, off, h1, h2, h3⟩
      · have := congrArg List.length h
        rw [ints_length, h128] at this
        cases this
      · exact ⟨bb, off, h1, h2, h3 8 _ (ints_get .u8 b 8 (by omega))⟩
    obtain rfl : n = 128 := by omega
    obtain ⟨x, hx⟩ : ∃ x, x = b[8]'(by omega) := ⟨_, rfl⟩
    have hat : at8 b = x := by unfold at8; rw [List.getD_eq_getElem?_getD, List.getElem?_eq_getElem (by omega), hx]; rfl
    rw [← hx] at hcell
    have hx256 : x < 256 := by rw [hx]; exact h256 _ (List.getElem_mem _)
    have hxw : IntKind.i64.wrap (x : Int) = (x : Int) := IntWalk.i64_in _ ⟨by omega, by omega⟩
    by_cases h110 : x ≤ 110
    · have hd : decide ((110 : Int) < (x : Int)) = false := by simp; omega
      obtain ⟨l, hl⟩ : ∃ l, l = loadT b := ⟨_, rfl⟩
      have hll : l.length = x := by rw [hl, ← hat]; exact loadT_len h128 (by omega)
      have hld : Has w (some ⟨bb, off + 9, none⟩) (ints .u8 l) := by
        have h := (hr.drop 9).take x
        have e : ((ints .u8 b).drop 9).take x = ints .u8 l := by
          rw [hl]; unfold loadT; rw [hat]; simp [ints, List.map_take, List.map_drop]
        rwa [e] at h
      have ht : takeT20 g s b = if tagB g s l = b then some l else none := by
        unfold takeT20
        rw [← hl]
        by_cases he : tagB g s l = b
        · rw [if_pos ⟨h128, by omega, he⟩, if_pos he]
        · rw [if_neg (fun h => he h.2.2), if_neg he]
      have hp : putT20 g s l = some (tagB g s l) := if_pos (by omega)
      have hl256 : ∀ y ∈ l, y < 256 := fun y hy => by
        rw [hl] at hy
        exact h256 y (List.mem_of_mem_drop (List.mem_of_mem_take hy))
      have HTL := Lib.hid (tagB_lt (g := g) (s := s) (l := l) (by omega) hl256)
      have HTN := Lib.hid (tagB_len (g := g) (s := s) (l := l) (by omega))
      have HPP := Lib.hid hp
      have HTT := Lib.hid ht
      have HR := Lib.hid hr
      have H256 := Lib.hid h256
      have HLL := Lib.hid hll
      have HLD := Lib.hid hld
      have hi1 : (0 : Int) ≤ (x : Int) := by omega
      have hi2 : 9 + (x : Int) ≤ (c : Int) := by omega
      have hi3 : (9 : Int) ≤ 9 + (x : Int) := by omega
      have hi4 : (9 : Int) + (x : Int) - 9 = (x : Int) := by omega
      have hi5 : (c : Int) - 9 = ((c - 9 : Nat) : Int) := by omega
      have hi6 : (9 : Int) ≤ (c : Int) := by omega
      have HB8 := Lib.hid h128
      have hcw : (w.alloc (.cells #[] 5)).cell? ⟨bb, off + 8, none⟩ = some (.int .u8 (x : Int)) := (Later.new w (.cells #[] 5)).cell hcell
      have OW := Lib.hid ((Blk.new w ([] : List Value).toArray 5 _ rfl).ownG (base := w.heap.size) (size := 1) (n := 0) (Nat.le_refl _) rfl (by decide))
      clear hl hll hld ht hp hl256 hr h256 hx hat hb hn h128
      go_enter Tryd.func27, Tryd.ntmps27
      go_wp2_with (at_builtin; refine wpList_append_rd _ rfl (.tmp 21) (.tmp 28) 39 rfl w.heap.size 5 (.int .u8 0) 1 Tryd.underlying39 info_u8 rfl _ 0 [] rfl OW.out _ (some ⟨bb, off + 9, none⟩) (9 + x - 9) (c - 9) (ints .u8 l) rfl (HLD.out.later (Later.new _ _)).rd ?_ (by intro h; cases h) (ints_one _ _) ?_ ?_ ?_ ?_; (rw [ints_length]; have := HLL.out; omega); (unfold maxLen; omega); omega; (exact (Later.new _ _).size); intro A1 c1 w1 o1 g1 b1 n1; rw [show 0 + (9 + x - 9) = x by omega] at o1 ⊢; rw [List.nil_append] at o1; have HH1 := Lib.hid (Has.own o1); have HN1 := Lib.hid n1; have HL1 := Lib.hid (show Later w w1 from Later.of ((Later.new w _).below.trans b1)); clear o1 g1 b1 n1)
      refine (refPutTag_any g s A1 x c1 l w1 hg hs HLL.out.symm HH1.out HN1.out).mono ?_
      intro e w2 h
      obtain ⟨A2, c2, rfl, o2, l2⟩ := h.yes HPP.out
      have HL2 := Lib.hid (HL1.out.trans l2)
      have HH1b := Lib.hid (HH1.out.later l2)
      have cv1 := conv_str A2 128 c2 (tagB g s l) HTN.out.symm w2 _ (Has.own o2)
      have cv2 := conv_str (some ⟨bb, off, none⟩) 128 c b HB8.out.symm w2 _ (HR.out.later HL2.out)
      clear h o2 l2 HH1 HL1 hcell hcw OW
      by_cases he : tagB g s l = b
      · have ht := HTT.out
        rw [if_pos he] at ht
        have HT := Lib.hid ht
        rw [he] at cv1
        obtain ⟨S, hS⟩ : ∃ S, S = bstr b := ⟨_, rfl⟩
        rw [← hS] at cv1 cv2
        have hss : (S.toList == S.toList) = true := by simp
        clear ht he hS
        go_wp2_with fail
        go_ret2
        rw [HT.out]
        refine ⟨A1, c1, ?_, HH1b.out, HL2.out⟩
        show _ = Ending.returned (.tuple #[.slice A1 l.length c1, .bool true])
        rw [HLL.out]; rfl
      · have ht := HTT.out
        rw [if_neg he] at ht
        have HT := Lib.hid ht
        have hss := bstr_ne HTL.out H256.out he
        obtain ⟨S1, hS1⟩ : ∃ S, S = bstr (tagB g s l) := ⟨_, rfl⟩
        obtain ⟨S2, hS2⟩ : ∃ S, S = bstr b := ⟨_, rfl⟩
        rw [← hS1] at cv1 hss
        rw [← hS2] at cv2 hss
        clear ht he hS1 hS2
        go_wp2_with fail
        go_ret2
        rw [HT.out]
        exact ⟨none, 0, rfl, .inl rfl, HL2.out⟩
    · have hd : decide ((110 : Int) < (x : Int)) = true := by simp; omega
      have ht : takeT20 g s b = none := if_neg (fun h => h110 (by rw [← hat]; exact h.2.1))
      rw [ht]
      have hx2 : 110 < x := by omega
      clear hx hat ht h110 h128 hn hb hr h256
      go_enter Tryd.func27, Tryd.ntmps27
      go_wp2_with fail
      go_ret2
      exact ⟨none, 0, rfl, .inl rfl, Later.refl _⟩
  · have ht : takeT20 g s b = none := if_neg (fun h => h128 h.1)
    have hne : ((n : Int) == 128) = false := by rw [beq_eq_false_iff_ne]; omega
    have hne2 : ¬ n = 128 := by omega
    have hne3 : ((n : Int) != 128) = true := by simp; omega
    rw [ht]
    clear ht h128 hn hb hr h256
    go_enter Tryd.func27, Tryd.ntmps27
    go_wp2_with fail
    go_ret2
    exact ⟨none, 0, rfl, .inl rfl, Later.refl _⟩

theorem PutsT.takes {o : Option (List Nat)} {w w' : World} {e : Ending} (h : PutsT o w e w') : TakesT o w e w' := by
  obtain ⟨⟨rfl, rfl⟩ | ⟨A, c, l, rfl, h1, rfl, h2⟩, L⟩ := h
  · exact ⟨none, 0, rfl, .inl rfl, L⟩
  · refine ⟨A, c, ?_, Has.own h2, L⟩
    show _ = Ending.returned (.tuple #[.slice A l.length c, .bool true])
    rw [h1]
/-- .. by names. -/
def TakesU (m : Nat) (r : Bool) (q : List Nat) (w : World) (e : Ending) (w' : World) : Prop :=
  ∃ (A : Option Addr) (c : Nat), e = .returned (.tuple #[.slice A m c, .bool r]) ∧ Has w' A (ints .u8 q) ∧ Later w w'
theorem TakesT.u {o : Option (List Nat)} {w w' : World} {e : Ending} (h : TakesT o w e w') {m : Nat} {r : Bool} {q : List Nat} (hq : o.getD [] = q) (hm : q.length = m) (hr : o.isSome = r) : TakesU m r q w e w' := by
  subst hq hm hr; exact h
end Go.Proofs.YtnmldploafpbdaaDoor
