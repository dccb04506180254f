/- Package cell: read, Take. -/
import Derived.Test.YtldalkhmbpkjpaaGreatDoorCell
import Derived.Lib.AppendStr
import Derived.Deep.RegionWith
import Derived.Deep.RegionLaw
namespace Go.Proofs.YtldalkhmbpkjpaaGreatDoor
open Go.RowKit
set_option linter.unusedVariables false

/-- What a reader of one value tells. -/
def ReadsC (o : Option (Int × List Nat × Nat)) (t : Int) (w : World) (e : Ending) (w' : World) : Prop :=
  ((o = none ∧ ∃ (t' i' : Int) (s' : ByteArray) (v : Value), e = .returned (.tuple #[vagg t' i' s', .int .i64 0, v]) ∧ Where v) ∨
    ∃ i s n, o = some (i, s, n) ∧ e = .returned (.tuple #[vagg t i (bstr s), .int .i64 (n : Int), .nilIface])) ∧ Later w w'
theorem ReadsC.no {o : Option (Int × List Nat × Nat)} {t : Int} {w w' : World} (h : o = none) (t' i' : Int) (s' : ByteArray) {v : Value} (hv : Where v) (l : Later w w') : ReadsC o t w (.returned (.tuple #[vagg t' i' s', .int .i64 0, v])) w' := ⟨.inl ⟨h, t', i', s', v, rfl, hv⟩, l⟩
theorem ReadsC.yes {o : Option (Int × List Nat × Nat)} {t : Int} {w w' : World} {i : Int} {s : List Nat} {n : Nat} (h : o = some (i, s, n)) (l : Later w w') : ReadsC o t w (.returned (.tuple #[vagg t i (bstr s), .int .i64 (n : Int), .nilIface])) w' := ⟨.inr ⟨i, s, n, h, rfl⟩, l⟩

set_option maxRecDepth 100000 in
set_option maxHeartbeats 1000000 in
theorem readBytes_nil (t : Int) (A : Option Addr) (c : Nat) (w : World) (hs : CSent w 2) :
    Calls Tryz.prog 132 #[vagg t 0 ⟨#[]⟩, .slice A 0 c] w (ReadsC none t w) := by
  obtain ⟨a, hs⟩ := hs
  have hg : 2 < w.heap.size := block_lt_of_cell hs
  go_enter Tryz.func132, Tryz.ntmps132
  go_wp2_with fail
  obtain ⟨w1, hw1, L1, B1, R1, z1⟩ := two_new w #[.int .i64 t, .int .i64 0, .string ⟨#[]⟩] #[.int .i64 0, .int .i64 0, .string ⟨#[]⟩] 26 26
  rw [← hw1]
  have hs1 := L1.cell hs
  have b0 := B1.cell 0 _ rfl
  have b1 := B1.cell 1 _ rfl
  have b2 := B1.cell 2 _ rfl
  have HL := Lib.hid L1
  obtain ⟨g, hg⟩ : ∃ g, g = w.heap.size := ⟨_, rfl⟩
  obtain ⟨g1, hg1⟩ : ∃ g1, g1 = w.heap.size + 1 := ⟨_, rfl⟩
  have HG := Lib.hid hg1
  rw [← hg1] at R1 ⊢
  rw [← hg] at B1 b0 b1 b2 ⊢
  clear hs hw1 L1 z1 hg hg1
  go_region_law (first
    | (go_simp; go_at_call 27; refine (at_l _ _ _ _).mono ?_; rintro e w2 ⟨q2, rfl, l2⟩; have B2 := B1.drew.later l2; have R2 := R1.drew.later l2; have d0 := B2.cell 0 _ rfl; have d1 := B2.cell 1 _ rfl; have d2 := B2.cell 2 _ rfl; have r0 := R2.cell 0 _ rfl; have r1 := R2.cell 1 _ rfl; have r2 := R2.cell 2 _ rfl; have f0 := R2.frozen 0; have f1 := R2.frozen 1; have f2 := R2.frozen 2; have HL2 := Lib.hid (HL.out.drew.trans l2); clear l2))
  all_goals go_wp2_with fail
  all_goals
    have R3 := three_blk R2 rfl (.int .i64 t) (.int .i64 0) (.string ⟨#[]⟩)
    have L3 := three_later HL2.out (show w.heap.size ≤ g1 by have := HG.out; omega) (.int .i64 t) (.int .i64 0) (.string ⟨#[]⟩)
    obtain ⟨w3, hw3⟩ : ∃ w3, w3 = (((w2.setCell ⟨g1, 0, none⟩ (.int .i64 t)).setCell ⟨g1, 1, none⟩ (.int .i64 0)).setCell ⟨g1, 2, none⟩ (.string ⟨#[]⟩)) := ⟨_, rfl⟩
    rw [← hw3] at R3 L3 ⊢
    have x0 := R3.cell 0 _ rfl
    have x1 := R3.cell 1 _ rfl
    have x2 := R3.cell 2 _ rfl
    exact bodyPost_ret (v := .tuple #[vagg t 0 ⟨#[]⟩, .int .i64 0, .iface 82 (.pointer (some q2))]) (by simp [results, Tryz.results132, go_sem, x0, x1, x2]) rfl (ReadsC.no rfl _ _ _ ⟨_, rfl⟩ L3)

set_option maxRecDepth 100000 in
set_option maxHeartbeats 1000000 in
theorem readBytes_truth (b off n c x : Nat) (w : World) (hn : 1 ≤ n) (hb : b < w.heap.size) (hc0 : w.cell? ⟨b, off, none⟩ = some (.int .u8 (x : Int))) (hx : x < 256) :
    Calls Tryz.prog 132 #[vagg 3 0 ⟨#[]⟩, .slice (some ⟨b, off, none⟩) n c] w (ReadsC (some ((x : Int), [], 1)) 3 w) := by
  have hn0 : ((n : Int) == 0) = false := by simp; omega
  go_enter Tryz.func132, Tryz.ntmps132
  go_wp2_with fail
  exact bodyPost_ret (v := .tuple #[vagg 3 (x : Int) (bstr []), .int .i64 1, .nilIface]) (by simp [results, Tryz.results132, go_sem, show bstr [] = (⟨#[]⟩ : ByteArray) from rfl]) rfl (ReadsC.yes rfl (((Later.refl w).alloc _).alloc _))

set_option maxRecDepth 100000 in
set_option maxHeartbeats 1000000 in
theorem readBytes_short (b off n c x : Nat) (w : World) (hn : 1 ≤ n) (hn2 : n ≤ 1000000) (hb : b < w.heap.size) (hc0 : w.cell? ⟨b, off, none⟩ = some (.int .u8 (x : Int))) (hx : x < 256) (hs : CSent w 2) (hlt : (n : Int) < 1 + (x : Int)) :
    Calls Tryz.prog 132 #[vagg 4 0 ⟨#[]⟩, .slice (some ⟨b, off, none⟩) n c] w (ReadsC none 4 w) := by
  obtain ⟨a, hs⟩ := hs
  have hg : 2 < w.heap.size := block_lt_of_cell hs
  have hn0 : ((n : Int) == 0) = false := by simp; omega
  go_enter Tryz.func132, Tryz.ntmps132
  go_wp2_with fail
  obtain ⟨w1, hw1, L1, B1, R1, z1⟩ := two_new w #[.int .i64 4, .int .i64 0, .string ⟨#[]⟩] #[.int .i64 0, .int .i64 0, .string ⟨#[]⟩] 26 26
  rw [← hw1]
  have hs1 := L1.cell hs
  have b0 := B1.cell 0 _ rfl
  have b1 := B1.cell 1 _ rfl
  have b2 := B1.cell 2 _ rfl
  have HL := Lib.hid L1
  obtain ⟨g, hg⟩ : ∃ g, g = w.heap.size := ⟨_, rfl⟩
  obtain ⟨g1, hg1⟩ : ∃ g1, g1 = w.heap.size + 1 := ⟨_, rfl⟩
  have HG := Lib.hid hg1
  rw [← hg1] at R1 ⊢
  rw [← hg] at B1 b0 b1 b2 ⊢
  clear hs hw1 L1 z1 hg hg1
  go_region_law (first
    | (go_simp; go_at_call 27; refine (at_l _ _ _ _).mono ?_; rintro e w2 ⟨q2, rfl, l2⟩; have B2 := B1.drew.later l2; have R2 := R1.drew.later l2; have d0 := B2.cell 0 _ rfl; have d1 := B2.cell 1 _ rfl; have d2 := B2.cell 2 _ rfl; have r0 := R2.cell 0 _ rfl; have r1 := R2.cell 1 _ rfl; have r2 := R2.cell 2 _ rfl; have f0 := R2.frozen 0; have f1 := R2.frozen 1; have f2 := R2.frozen 2; have HL2 := Lib.hid (HL.out.drew.trans l2); clear l2))
  all_goals go_wp2_with fail
  all_goals
    have R3 := three_blk R2 rfl (.int .i64 4) (.int .i64 0) (.string ⟨#[]⟩)
    have L3 := three_later HL2.out (show w.heap.size ≤ g1 by have := HG.out; omega) (.int .i64 4) (.int .i64 0) (.string ⟨#[]⟩)
    obtain ⟨w3, hw3⟩ : ∃ w3, w3 = (((w2.setCell ⟨g1, 0, none⟩ (.int .i64 4)).setCell ⟨g1, 1, none⟩ (.int .i64 0)).setCell ⟨g1, 2, none⟩ (.string ⟨#[]⟩)) := ⟨_, rfl⟩
    rw [← hw3] at R3 L3 ⊢
    have x0 := R3.cell 0 _ rfl
    have x1 := R3.cell 1 _ rfl
    have x2 := R3.cell 2 _ rfl
    exact bodyPost_ret (v := .tuple #[vagg 4 0 ⟨#[]⟩, .int .i64 0, .iface 82 (.pointer (some q2))]) (by simp [results, Tryz.results132, go_sem, x0, x1, x2]) rfl (ReadsC.no rfl _ _ _ ⟨_, rfl⟩ L3)

set_option maxRecDepth 100000 in
set_option maxHeartbeats 1000000 in
theorem readBytes_text (b off n c x : Nat) (q : List Nat) (w : World) (hn : 1 ≤ n) (hn2 : n ≤ 1000000) (hnc : n ≤ c) (hc : c ≤ 9223372036854775807) (hb : b < w.heap.size) (hc0 : w.cell? ⟨b, off, none⟩ = some (.int .u8 (x : Int))) (hx : x < 256) (hlt : ¬ (n : Int) < 1 + (x : Int)) (hq : q.length = x) (hr : Has w (some ⟨b, off + 1, none⟩) (ints .u8 q)) :
    Calls Tryz.prog 132 #[vagg 4 0 ⟨#[]⟩, .slice (some ⟨b, off, none⟩) n c] w (ReadsC (some (0, q, 1 + x)) 4 w) := by
  have hn0 : ((n : Int) == 0) = false := by simp; omega
  have L2 : Later w ((w.alloc (.cells #[.int .i64 4, .int .i64 0, .string ⟨#[]⟩] 26)).alloc (.cells #[.int .i64 0, .int .i64 0, .string ⟨#[]⟩] 26)) := ((Later.refl w).alloc _).alloc _
  have HZ : ((1 + x : Nat) : Int) = 1 + (x : Int) := by omega
  by_cases h2 : c = 1
  · subst h2
    obtain rfl : x = 0 := by omega
    obtain rfl : q = [] := List.eq_nil_of_length_eq_zero hq
    obtain rfl : n = 1 := by omega
    have hcv := fun cc => conv_str (some ⟨b, off, none⟩) 0 cc [] rfl _ _ (Has.later (w := w) .nil_ L2)
    have hcv2 := fun cc => conv_str (some ⟨b, off + 1, none⟩) 0 cc [] rfl _ _ (Has.later (w := w) .nil_ L2)
    clear hr HZ
    go_enter Tryz.func132, Tryz.ntmps132
    go_wp2_with fail
    exact bodyPost_ret (v := .tuple #[vagg 4 0 (bstr []), .int .i64 1, .nilIface]) (by simp [results, Tryz.results132, go_sem]) rfl (ReadsC.yes rfl (((Later.refl w).alloc _).alloc _))
  · have hcv := fun cc => conv_str (some ⟨b, off + 1, none⟩) x cc q hq.symm _ _ (hr.later L2)
    have HQ := Lib.hid hq
    have HZ := Lib.hid HZ
    clear hr hq
    go_enter Tryz.func132, Tryz.ntmps132
    go_wp2_with fail
    refine bodyPost_ret (v := .tuple #[vagg 4 0 (bstr q), .int .i64 (1 + x), .nilIface]) (by simp [results, Tryz.results132, go_sem]) rfl ?_
    rw [← HZ.out]
    exact ReadsC.yes rfl (((Later.refl w).alloc _).alloc _)
set_option maxRecDepth 100000 in
set_option maxHeartbeats 1000000 in
theorem cellRead_num1 (A : Option Addr) (c : Nat) (b : List Nat) (w : World) (hs : S6 w) (hr : Has w A (ints .u8 b)) (h256 : ∀ x ∈ b, x < 256) (hb : b.length ≤ 1000000) :
    Calls Tryz.prog 125 #[.int .i64 1, .slice A b.length c] w (ReadsC (readC 1 b) 1 w) := by
  have HO := Lib.hid (readC_num (t := 1) (b := b) (by omega))
  obtain ⟨o, ho⟩ : ∃ o, o = readC 1 b := ⟨_, rfl⟩
  rw [← ho] at HO ⊢
  clear ho
  obtain ⟨w1, hw1, L1, R1, V1, z1⟩ := two_new w #[.int .i64 0, .int .i64 0, .string ⟨#[]⟩] #[.int .i64 1, .int .i64 0, .string ⟨#[]⟩] 26 26
  have S1 := hs.later L1
  obtain ⟨a, hn⟩ := S1.num
  have HT := Lib.hid (take_num A b.length c b a w1 w1.heap.size rfl (hr.later L1) h256 hb hn)
  have HS := Lib.hid S1
  have HL := Lib.hid L1
  have HW := Lib.hid hw1
  have HM := Lib.hid (fun u n (h : takeNum b = some (u, n)) => (takeNum_is h256 h).1)
  obtain ⟨g, hg⟩ : ∃ g, g = w.heap.size := ⟨_, rfl⟩
  obtain ⟨g1, hg1⟩ : ∃ g1, g1 = w.heap.size + 1 := ⟨_, rfl⟩
  have HG := Lib.hid hg
  have HG1 := Lib.hid hg1
  rw [← hg1] at V1
  rw [← hg] at R1
  clear hs hr hn S1 hw1 L1 z1 h256
  go_enter Tryz.func125, Tryz.ntmps125
  go_wp2_with fail
  rw [← HW.out]
  refine HT.out.mono ?_
  rintro e w2 ⟨u, n, ok, hT0, rfl, b2⟩
  have l2 : Later w1 w2 := Later.of b2
  have V2 := V1.later l2
  have R2 := R1.later l2
  have HL2 := Lib.hid (HL.out.trans l2)
  have HS2 := Lib.hid (HS.out.later l2)
  rw [← HG1.out, ← HG.out]
  clear hg hg1 HT HL V1 R1 HW b2 l2 HS
  rcases takeR_some hT0 with ⟨rfl, hT⟩ | ⟨rfl, hT⟩
  · have HO := Lib.hid (HO.out.trans (by rw [hT]))
    have hu := HM.out u n hT
    have d0 := V2.cell 0 _ rfl
    have d1 := V2.cell 1 _ rfl
    have d2 := V2.cell 2 _ rfl
    have f1 := V2.frozen 1
    have V3 := V2.set_ 1 (.int .i64 (zag u))
    have R3 := R2.far (p := ⟨g1, 1, none⟩) (show g ≠ g1 by have := HG.out; have := HG1.out; omega) (.int .i64 (zag u))
    have L3 := HL2.out.set_ (p := ⟨g1, 1, none⟩) (show w.heap.size ≤ g1 by have := HG1.out; omega) (.int .i64 (zag u))
    have r0 := R2.cell 0 _ rfl
    have r1 := R2.cell 1 _ rfl
    have r2 := R2.cell 2 _ rfl
    have q0 := R2.frozen 0
    have q1 := R2.frozen 1
    have q2 := R2.frozen 2
    have hne : g ≠ g1 := by have := HG.out; have := HG1.out; omega
    have hne2 : g1 ≠ g := Ne.symm hne
    clear hT hT0 HS2 HM
    go_wp2_with (go_at_call 107; refine (zag_any u _ hu).mono ?_; rintro e w' ⟨rfl, rfl⟩)
    obtain ⟨w3, hw3⟩ : ∃ w3, w3 = w2.setCell ⟨g1, 1, none⟩ (.int .i64 (zag u)) := ⟨_, rfl⟩
    rw [← hw3] at V3 R3 L3 ⊢
    have R4 := three_blk R3 rfl (.int .i64 1) (.int .i64 (zag u)) (.string ⟨#[]⟩)
    have L4 := three_later L3 (show w.heap.size ≤ g by have := HG.out; omega) (.int .i64 1) (.int .i64 (zag u)) (.string ⟨#[]⟩)
    obtain ⟨w4, hw4⟩ : ∃ w4, w4 = (((w3.setCell ⟨g, 0, none⟩ (.int .i64 1)).setCell ⟨g, 1, none⟩ (.int .i64 (zag u))).setCell ⟨g, 2, none⟩ (.string ⟨#[]⟩)) := ⟨_, rfl⟩
    rw [← hw4] at R4 L4 ⊢
    have x0 := R4.cell 0 _ rfl
    have x1 := R4.cell 1 _ rfl
    have x2 := R4.cell 2 _ rfl
    exact bodyPost_ret (v := .tuple #[vagg 1 (zag u) (bstr []), .int .i64 n, .nilIface]) (by simp [results, Tryz.results125, go_sem, x0, x1, x2, show bstr [] = (⟨#[]⟩ : ByteArray) from rfl]) rfl (ReadsC.yes HO.out L4)
  · have HO := Lib.hid (HO.out.trans (by rw [hT]))
    obtain ⟨sa, hsh⟩ := HS2.out.short
    have HLL := Lib.hid HL2.out
    have d0 := V2.cell 0 _ rfl
    have d1 := V2.cell 1 _ rfl
    have d2 := V2.cell 2 _ rfl
    have B2 := V2
    have Q2 := R2
    clear hT hT0 HS2 HM HL2
    go_wp2_with fail
    go_region_law (first
      | (go_simp; go_at_call 27; refine (at_l _ _ _ _).mono ?_; rintro e w3 ⟨q2, rfl, l3⟩; have V3 := B2.drew.later l3; have R3 := Q2.drew.later l3; have e0 := V3.cell 0 _ rfl; have e1 := V3.cell 1 _ rfl; have e2 := V3.cell 2 _ rfl; have r0 := R3.cell 0 _ rfl; have r1 := R3.cell 1 _ rfl; have r2 := R3.cell 2 _ rfl; have f0 := R3.frozen 0; have f1 := R3.frozen 1; have f2 := R3.frozen 2; have L3 := HLL.out.drew.trans l3; clear l3))
    all_goals go_wp2_with fail
    all_goals
      have R4 := three_blk R3 rfl (.int .i64 1) (.int .i64 0) (.string ⟨#[]⟩)
      have L4 := three_later L3 (show w.heap.size ≤ g by have := HG.out; omega) (.int .i64 1) (.int .i64 0) (.string ⟨#[]⟩)
      obtain ⟨w4, hw4⟩ : ∃ w4, w4 = (((w3.setCell ⟨g, 0, none⟩ (.int .i64 1)).setCell ⟨g, 1, none⟩ (.int .i64 0)).setCell ⟨g, 2, none⟩ (.string ⟨#[]⟩)) := ⟨_, rfl⟩
      rw [← hw4] at R4 L4 ⊢
      have x0 := R4.cell 0 _ rfl
      have x1 := R4.cell 1 _ rfl
      have x2 := R4.cell 2 _ rfl
      exact bodyPost_ret (v := .tuple #[vagg 1 0 ⟨#[]⟩, .int .i64 0, .iface 82 (.pointer (some q2))]) (by simp [results, Tryz.results125, go_sem, x0, x1, x2]) rfl (ReadsC.no HO.out _ _ _ ⟨_, rfl⟩ L4)

set_option maxRecDepth 100000 in
set_option maxHeartbeats 1000000 in
theorem cellRead_num2 (A : Option Addr) (c : Nat) (b : List Nat) (w : World) (hs : S6 w) (hr : Has w A (ints .u8 b)) (h256 : ∀ x ∈ b, x < 256) (hb : b.length ≤ 1000000) :
    Calls Tryz.prog 125 #[.int .i64 2, .slice A b.length c] w (ReadsC (readC 2 b) 2 w) := by
  have HO := Lib.hid (readC_num (t := 2) (b := b) (by omega))
  obtain ⟨o, ho⟩ : ∃ o, o = readC 2 b := ⟨_, rfl⟩
  rw [← ho] at HO ⊢
  clear ho
  obtain ⟨w1, hw1, L1, R1, V1, z1⟩ := two_new w #[.int .i64 0, .int .i64 0, .string ⟨#[]⟩] #[.int .i64 2, .int .i64 0, .string ⟨#[]⟩] 26 26
  have S1 := hs.later L1
  obtain ⟨a, hn⟩ := S1.num
  have HT := Lib.hid (take_num A b.length c b a w1 w1.heap.size rfl (hr.later L1) h256 hb hn)
  have HS := Lib.hid S1
  have HL := Lib.hid L1
  have HW := Lib.hid hw1
  have HM := Lib.hid (fun u n (h : takeNum b = some (u, n)) => (takeNum_is h256 h).1)
  obtain ⟨g, hg⟩ : ∃ g, g = w.heap.size := ⟨_, rfl⟩
  obtain ⟨g1, hg1⟩ : ∃ g1, g1 = w.heap.size + 1 := ⟨_, rfl⟩
  have HG := Lib.hid hg
  have HG1 := Lib.hid hg1
  rw [← hg1] at V1
  rw [← hg] at R1
  clear hs hr hn S1 hw1 L1 z1 h256
  go_enter Tryz.func125, Tryz.ntmps125
  go_wp2_with fail
  rw [← HW.out]
  refine HT.out.mono ?_
  rintro e w2 ⟨u, n, ok, hT0, rfl, b2⟩
  have l2 : Later w1 w2 := Later.of b2
  have V2 := V1.later l2
  have R2 := R1.later l2
  have HL2 := Lib.hid (HL.out.trans l2)
  have HS2 := Lib.hid (HS.out.later l2)
  rw [← HG1.out, ← HG.out]
  clear hg hg1 HT HL V1 R1 HW b2 l2 HS
  rcases takeR_some hT0 with ⟨rfl, hT⟩ | ⟨rfl, hT⟩
  · have HO := Lib.hid (HO.out.trans (by rw [hT]))
    have hu := HM.out u n hT
    have d0 := V2.cell 0 _ rfl
    have d1 := V2.cell 1 _ rfl
    have d2 := V2.cell 2 _ rfl
    have f1 := V2.frozen 1
    have V3 := V2.set_ 1 (.int .i64 (zag u))
    have R3 := R2.far (p := ⟨g1, 1, none⟩) (show g ≠ g1 by have := HG.out; have := HG1.out; omega) (.int .i64 (zag u))
    have L3 := HL2.out.set_ (p := ⟨g1, 1, none⟩) (show w.heap.size ≤ g1 by have := HG1.out; omega) (.int .i64 (zag u))
    have r0 := R2.cell 0 _ rfl
    have r1 := R2.cell 1 _ rfl
    have r2 := R2.cell 2 _ rfl
    have q0 := R2.frozen 0
    have q1 := R2.frozen 1
    have q2 := R2.frozen 2
    have hne : g ≠ g1 := by have := HG.out; have := HG1.out; omega
    have hne2 : g1 ≠ g := Ne.symm hne
    clear hT hT0 HS2 HM
    go_wp2_with (go_at_call 107; refine (zag_any u _ hu).mono ?_; rintro e w' ⟨rfl, rfl⟩)
    obtain ⟨w3, hw3⟩ : ∃ w3, w3 = w2.setCell ⟨g1, 1, none⟩ (.int .i64 (zag u)) := ⟨_, rfl⟩
    rw [← hw3] at V3 R3 L3 ⊢
    have R4 := three_blk R3 rfl (.int .i64 2) (.int .i64 (zag u)) (.string ⟨#[]⟩)
    have L4 := three_later L3 (show w.heap.size ≤ g by have := HG.out; omega) (.int .i64 2) (.int .i64 (zag u)) (.string ⟨#[]⟩)
    obtain ⟨w4, hw4⟩ : ∃ w4, w4 = (((w3.setCell ⟨g, 0, none⟩ (.int .i64 2)).setCell ⟨g, 1, none⟩ (.int .i64 (zag u))).setCell ⟨g, 2, none⟩ (.string ⟨#[]⟩)) := ⟨_, rfl⟩
    rw [← hw4] at R4 L4 ⊢
    have x0 := R4.cell 0 _ rfl
    have x1 := R4.cell 1 _ rfl
    have x2 := R4.cell 2 _ rfl
    exact bodyPost_ret (v := .tuple #[vagg 2 (zag u) (bstr []), .int .i64 n, .nilIface]) (by simp [results, Tryz.results125, go_sem, x0, x1, x2, show bstr [] = (⟨#[]⟩ : ByteArray) from rfl]) rfl (ReadsC.yes HO.out L4)
  · have HO := Lib.hid (HO.out.trans (by rw [hT]))
    obtain ⟨sa, hsh⟩ := HS2.out.short
    have HLL := Lib.hid HL2.out
    have d0 := V2.cell 0 _ rfl
    have d1 := V2.cell 1 _ rfl
    have d2 := V2.cell 2 _ rfl
    have B2 := V2
    have Q2 := R2
    clear hT hT0 HS2 HM HL2
    go_wp2_with fail
    go_region_law (first
      | (go_simp; go_at_call 27; refine (at_l _ _ _ _).mono ?_; rintro e w3 ⟨q2, rfl, l3⟩; have V3 := B2.drew.later l3; have R3 := Q2.drew.later l3; have e0 := V3.cell 0 _ rfl; have e1 := V3.cell 1 _ rfl; have e2 := V3.cell 2 _ rfl; have r0 := R3.cell 0 _ rfl; have r1 := R3.cell 1 _ rfl; have r2 := R3.cell 2 _ rfl; have f0 := R3.frozen 0; have f1 := R3.frozen 1; have f2 := R3.frozen 2; have L3 := HLL.out.drew.trans l3; clear l3))
    all_goals go_wp2_with fail
    all_goals
      have R4 := three_blk R3 rfl (.int .i64 2) (.int .i64 0) (.string ⟨#[]⟩)
      have L4 := three_later L3 (show w.heap.size ≤ g by have := HG.out; omega) (.int .i64 2) (.int .i64 0) (.string ⟨#[]⟩)
      obtain ⟨w4, hw4⟩ : ∃ w4, w4 = (((w3.setCell ⟨g, 0, none⟩ (.int .i64 2)).setCell ⟨g, 1, none⟩ (.int .i64 0)).setCell ⟨g, 2, none⟩ (.string ⟨#[]⟩)) := ⟨_, rfl⟩
      rw [← hw4] at R4 L4 ⊢
      have x0 := R4.cell 0 _ rfl
      have x1 := R4.cell 1 _ rfl
      have x2 := R4.cell 2 _ rfl
      exact bodyPost_ret (v := .tuple #[vagg 2 0 ⟨#[]⟩, .int .i64 0, .iface 82 (.pointer (some q2))]) (by simp [results, Tryz.results125, go_sem, x0, x1, x2]) rfl (ReadsC.no HO.out _ _ _ ⟨_, rfl⟩ L4)

set_option maxRecDepth 100000 in
set_option maxHeartbeats 1000000 in
theorem cellRead_bytes3 (A : Option Addr) (n c : Nat) (o : Option (Int × List Nat × Nat)) (w : World) (h : ∀ w1, Later w w1 → Calls Tryz.prog 132 #[vagg 3 0 ⟨#[]⟩, .slice A n c] w1 (ReadsC o 3 w1)) :
    Calls Tryz.prog 125 #[.int .i64 3, .slice A n c] w (ReadsC o 3 w) := by
  obtain ⟨w1, hw1, L1, R1, V1, z1⟩ := two_new w #[.int .i64 0, .int .i64 0, .string ⟨#[]⟩] #[.int .i64 3, .int .i64 0, .string ⟨#[]⟩] 26 26
  have HT := Lib.hid (h w1 L1)
  have HL := Lib.hid L1
  have HW := Lib.hid hw1
  obtain ⟨g, hg⟩ : ∃ g, g = w.heap.size := ⟨_, rfl⟩
  have HG := Lib.hid hg
  rw [← hg] at R1
  clear hw1 L1 z1 h V1
  go_enter Tryz.func125, Tryz.ntmps125
  go_wp2_with fail
  rw [← HW.out]
  refine HT.out.mono ?_
  rintro e w2 ⟨h2, l2⟩
  have R2 := R1.later l2
  have HL2 := Lib.hid (HL.out.trans l2)
  rw [← HG.out]
  have r0 := R2.cell 0 _ rfl
  have r1 := R2.cell 1 _ rfl
  have r2 := R2.cell 2 _ rfl
  have f0 := R2.frozen 0
  have f1 := R2.frozen 1
  have f2 := R2.frozen 2
  have B2 := R2
  clear hg HT HL R1 HW l2 R2
  rcases h2 with ⟨rfl, t', i', s', v, rfl, ⟨p, rfl⟩⟩ | ⟨i, s, n, rfl, rfl⟩
  · go_wp2_with fail
    have R4 := three_blk B2 rfl (.int .i64 t') (.int .i64 i') (.string s')
    have L4 := three_later HL2.out (show w.heap.size ≤ g by have := HG.out; omega) (.int .i64 t') (.int .i64 i') (.string s')
    obtain ⟨w4, hw4⟩ : ∃ w4, w4 = (((w2.setCell ⟨g, 0, none⟩ (.int .i64 t')).setCell ⟨g, 1, none⟩ (.int .i64 i')).setCell ⟨g, 2, none⟩ (.string s')) := ⟨_, rfl⟩
    rw [← hw4] at R4 L4 ⊢
    have x0 := R4.cell 0 _ rfl
    have x1 := R4.cell 1 _ rfl
    have x2 := R4.cell 2 _ rfl
    exact bodyPost_ret (v := .tuple #[vagg t' i' s', .int .i64 0, .iface 82 (.pointer (some p))]) (by simp [results, Tryz.results125, go_sem, x0, x1, x2]) rfl (ReadsC.no rfl _ _ _ ⟨_, rfl⟩ L4)
  · obtain ⟨S, hS⟩ : ∃ S, S = bstr s := ⟨_, rfl⟩
    rw [← hS]
    have HSS := Lib.hid hS
    clear hS
    go_wp2_with fail
    have R4 := three_blk B2 rfl (.int .i64 3) (.int .i64 i) (.string S)
    have L4 := three_later HL2.out (show w.heap.size ≤ g by have := HG.out; omega) (.int .i64 3) (.int .i64 i) (.string S)
    obtain ⟨w4, hw4⟩ : ∃ w4, w4 = (((w2.setCell ⟨g, 0, none⟩ (.int .i64 3)).setCell ⟨g, 1, none⟩ (.int .i64 i)).setCell ⟨g, 2, none⟩ (.string S)) := ⟨_, rfl⟩
    rw [← hw4] at R4 L4 ⊢
    have x0 := R4.cell 0 _ rfl
    have x1 := R4.cell 1 _ rfl
    have x2 := R4.cell 2 _ rfl
    refine bodyPost_ret (v := .tuple #[vagg 3 i S, .int .i64 n, .nilIface]) (by simp [results, Tryz.results125, go_sem, x0, x1, x2]) rfl ?_
    rw [HSS.out]
    exact ReadsC.yes rfl L4

set_option maxRecDepth 100000 in
set_option maxHeartbeats 1000000 in
theorem cellRead_bytes4 (A : Option Addr) (n c : Nat) (o : Option (Int × List Nat × Nat)) (w : World) (h : ∀ w1, Later w w1 → Calls Tryz.prog 132 #[vagg 4 0 ⟨#[]⟩, .slice A n c] w1 (ReadsC o 4 w1)) :
    Calls Tryz.prog 125 #[.int .i64 4, .slice A n c] w (ReadsC o 4 w) := by
  obtain ⟨w1, hw1, L1, R1, V1, z1⟩ := two_new w #[.int .i64 0, .int .i64 0, .string ⟨#[]⟩] #[.int .i64 4, .int .i64 0, .string ⟨#[]⟩] 26 26
  have HT := Lib.hid (h w1 L1)
  have HL := Lib.hid L1
  have HW := Lib.hid hw1
  obtain ⟨g, hg⟩ : ∃ g, g = w.heap.size := ⟨_, rfl⟩
  have HG := Lib.hid hg
  rw [← hg] at R1
  clear hw1 L1 z1 h V1
  go_enter Tryz.func125, Tryz.ntmps125
  go_wp2_with fail
  rw [← HW.out]
  refine HT.out.mono ?_
  rintro e w2 ⟨h2, l2⟩
  have R2 := R1.later l2
  have HL2 := Lib.hid (HL.out.trans l2)
  rw [← HG.out]
  have r0 := R2.cell 0 _ rfl
  have r1 := R2.cell 1 _ rfl
  have r2 := R2.cell 2 _ rfl
  have f0 := R2.frozen 0
  have f1 := R2.frozen 1
  have f2 := R2.frozen 2
  have B2 := R2
  clear hg HT HL R1 HW l2 R2
  rcases h2 with ⟨rfl, t', i', s', v, rfl, ⟨p, rfl⟩⟩ | ⟨i, s, n, rfl, rfl⟩
  · go_wp2_with fail
    have R4 := three_blk B2 rfl (.int .i64 t') (.int .i64 i') (.string s')
    have L4 := three_later HL2.out (show w.heap.size ≤ g by have := HG.out; omega) (.int .i64 t') (.int .i64 i') (.string s')
    obtain ⟨w4, hw4⟩ : ∃ w4, w4 = (((w2.setCell ⟨g, 0, none⟩ (.int .i64 t')).setCell ⟨g, 1, none⟩ (.int .i64 i')).setCell ⟨g, 2, none⟩ (.string s')) := ⟨_, rfl⟩
    rw [← hw4] at R4 L4 ⊢
    have x0 := R4.cell 0 _ rfl
    have x1 := R4.cell 1 _ rfl
    have x2 := R4.cell 2 _ rfl
    exact bodyPost_ret (v := .tuple #[vagg t' i' s', .int .i64 0, .iface 82 (.pointer (some p))]) (by simp [results, Tryz.results125, go_sem, x0, x1, x2]) rfl (ReadsC.no rfl _ _ _ ⟨_, rfl⟩ L4)
  · obtain ⟨S, hS⟩ : ∃ S, S = bstr s := ⟨_, rfl⟩
    rw [← hS]
    have HSS := Lib.hid hS
    clear hS
    go_wp2_with fail
    have R4 := three_blk B2 rfl (.int .i64 4) (.int .i64 i) (.string S)
    have L4 := three_later HL2.out (show w.heap.size ≤ g by have := HG.out; omega) (.int .i64 4) (.int .i64 i) (.string S)
    obtain ⟨w4, hw4⟩ : ∃ w4, w4 = (((w2.setCell ⟨g, 0, none⟩ (.int .i64 4)).setCell ⟨g, 1, none⟩ (.int .i64 i)).setCell ⟨g, 2, none⟩ (.string S)) := ⟨_, rfl⟩
    rw [← hw4] at R4 L4 ⊢
    have x0 := R4.cell 0 _ rfl
    have x1 := R4.cell 1 _ rfl
    have x2 := R4.cell 2 _ rfl
    refine bodyPost_ret (v := .tuple #[vagg 4 i S, .int .i64 n, .nilIface]) (by simp [results, Tryz.results125, go_sem, x0, x1, x2]) rfl ?_
    rw [HSS.out]
    exact ReadsC.yes rfl L4

theorem cellRead_any (t : Int) (ht : 1 ≤ t ∧ t ≤ 4) (A : Option Addr) (c : Nat) (b : List Nat) (w : World) (hs : S6 w) (hr : Has w A (ints .u8 b)) (h256 : ∀ x ∈ b, x < 256) (hb : b.length ≤ 1000000) (hbc : b.length ≤ c) (hc : c ≤ 9223372036854775807) :
    Calls Tryz.prog 125 #[.int .i64 t, .slice A b.length c] w (ReadsC (readC t b) t w) := by
  obtain rfl | rfl | rfl | rfl : t = 1 ∨ t = 2 ∨ t = 3 ∨ t = 4 := by omega
  · exact cellRead_num1 A c b w hs hr h256 hb
  · exact cellRead_num2 A c b w hs hr h256 hb
  · match b, hr, h256, hb, hbc with
    | [], hr, h256, hb, hbc => exact cellRead_bytes3 A 0 c none w fun w1 l => readBytes_nil 3 A c w1 (hs.short.later l)
    | x :: r, hr, h256, hb, hbc =>
      rcases hr with hr | ⟨bb, off, rfl, hbb, hcell⟩
      · cases hr
      · have h0 := hcell 0 _ rfl
        have e : readC 3 (x :: r) = some ((x : Int), [], 1) := rfl
        rw [e]
        exact cellRead_bytes3 _ _ c _ w fun w1 l => readBytes_truth bb off (x :: r).length c x w1 (by simp) (Nat.lt_of_lt_of_le hbb l.size) (l.cell h0) (h256 x (by simp))
  · match b, hr, h256, hb, hbc with
    | [], hr, h256, hb, hbc => exact cellRead_bytes4 A 0 c none w fun w1 l => readBytes_nil 4 A c w1 (hs.short.later l)
    | x :: r, hr, h256, hb, hbc =>
      have hr0 := hr
      rcases hr with hr | ⟨bb, off, rfl, hbb, hcell⟩
      · cases hr
      · have h0 := hcell 0 _ rfl
        have e : readC 4 (x :: r) = if x ≤ r.length then some (0, r.take x, 1 + x) else none := rfl
        rw [e]
        rw [List.length_cons] at hb hbc ⊢
        by_cases hx : x ≤ r.length
        · rw [if_pos hx]
          refine cellRead_bytes4 _ _ c _ w fun w1 l => readBytes_text bb off (r.length + 1) c x (r.take x) w1 (by omega) hb hbc hc (Nat.lt_of_lt_of_le hbb l.size) (l.cell h0) (h256 x (by simp)) (by omega) (by rw [List.length_take]; omega) ?_
          have h1 := (Has.take (Has.drop (hr0.later l) 1) x)
          rw [show (ints .u8 (x :: r)).drop 1 = ints .u8 r from rfl, ints_take] at h1
          exact h1
        · rw [if_neg hx]
          exact cellRead_bytes4 _ _ c _ w fun w1 l => readBytes_short bb off (r.length + 1) c x w1 (by omega) hb (Nat.lt_of_lt_of_le hbb l.size) (l.cell h0) (h256 x (by simp)) (hs.short.later l) (by omega)
end Go.Proofs.YtldalkhmbpkjpaaGreatDoor

/- Walks of package cell: Take. -/

namespace Go.Proofs.YtldalkhmbpkjpaaGreatDoor
open Go.RowKit
set_option linter.unusedVariables false

/-- What Take tells. -/
def TakesC (o : Option (Int × List Nat × Nat)) (t : Int) (w : World) (e : Ending) (w' : World) : Prop :=
  ((o = none ∧ ∃ p, e = .returned (.tuple #[vagg 0 0 ⟨#[]⟩, .int .i64 0, .iface 82 (.pointer (some p))])) ∨
    ∃ i s n, o = some (i, s, n) ∧ e = .returned (.tuple #[vagg t i (bstr s), .int .i64 (n : Int), .nilIface])) ∧ Later w w'
theorem TakesC.no {o : Option (Int × List Nat × Nat)} {t : Int} {w w' : World} (h : o = none) {p : Addr} (l : Later w w') : TakesC o t w (.returned (.tuple #[vagg 0 0 ⟨#[]⟩, .int .i64 0, .iface 82 (.pointer (some p))])) w' := ⟨.inl ⟨h, p, rfl⟩, l⟩
theorem TakesC.yes {o : Option (Int × List Nat × Nat)} {t : Int} {w w' : World} {i : Int} {s : List Nat} {n : Nat} (h : o = some (i, s, n)) (l : Later w w') : TakesC o t w (.returned (.tuple #[vagg t i (bstr s), .int .i64 (n : Int), .nilIface])) w' := ⟨.inr ⟨i, s, n, h, rfl⟩, l⟩

set_option maxRecDepth 100000 in
set_option maxHeartbeats 1000000 in
theorem cellTake_any (t : Int) (ht : 1 ≤ t ∧ t ≤ 4) (A : Option Addr) (c : Nat) (b : List Nat) (w : World) (hs : S6 w) (hr : Has w A (ints .u8 b)) (h256 : ∀ x ∈ b, x < 256) (hb : b.length ≤ 1000000) (hbc : b.length ≤ c) (hc : c ≤ 9223372036854775807) :
    Calls Tryz.prog 108 #[.int .i64 t, .slice A b.length c] w (TakesC (takeC t b) t w) := by
  have hif : Tryz.prog.isIface 40 = true := by kernel_rfl
  obtain ⟨o, ho⟩ : ∃ o, o = takeC t b := ⟨_, rfl⟩
  have HO0 := Lib.hid (fun (h : readC t b = none) => ho.trans (by unfold takeC; rw [h]))
  have HO1 := Lib.hid (fun i s n (h : readC t b = some (i, s, n)) (hm : MayV t i (bstr s).size) => ho.trans (show takeC t b = some (i, s, n) by unfold takeC; rw [h]; simp only; rw [if_pos (by rw [← bstr_size]; exact hm)]))
  have HO2 := Lib.hid (fun i s n (h : readC t b = some (i, s, n)) (hm : ¬ MayV t i (bstr s).size) => ho.trans (show takeC t b = none by unfold takeC; rw [h]; simp only; rw [if_neg (by rw [← bstr_size]; exact hm)]))
  rw [← ho]
  obtain ⟨w1, hw1⟩ : ∃ w1, w1 = w.alloc (.cells #[.int .i64 0, .int .i64 0, .string ⟨#[]⟩] 26) := ⟨_, rfl⟩
  have L1 : Later w w1 := hw1 ▸ Later.new _ _
  have R1 : Blk w1 w.heap.size #[.int .i64 0, .int .i64 0, .string ⟨#[]⟩] 26 := hw1 ▸ Blk.new w _ _ _ rfl
  have HT := Lib.hid (cellRead_any t ht A c b w1 (hs.later L1) (hr.later L1) h256 hb hbc hc)
  have HS := Lib.hid (hs.later L1)
  have HL := Lib.hid L1
  have HW := Lib.hid hw1
  obtain ⟨g, hg⟩ : ∃ g, g = w.heap.size := ⟨_, rfl⟩
  have HG := Lib.hid hg
  rw [← hg] at R1
  clear hw1 L1 hs hr ho h256 hb hbc hc ht
  go_enter Tryz.func108, Tryz.ntmps108
  go_wp2_with fail
  rw [← HW.out]
  refine HT.out.mono ?_
  rintro e w2 ⟨h2, l2⟩
  have R2 := R1.later l2
  have HL2 := Lib.hid (HL.out.trans l2)
  have HS2 := Lib.hid (HS.out.later l2)
  rw [← HG.out]
  clear hg HT HL R1 HW l2 HS
  have r0 := R2.cell 0 _ rfl
  have r1 := R2.cell 1 _ rfl
  have r2 := R2.cell 2 _ rfl
  have f0 := R2.frozen 0
  have f1 := R2.frozen 1
  have f2 := R2.frozen 2
  have zg : g < w2.heap.size := R2.lt
  rcases h2 with ⟨hn, t', i', s', v, rfl, ⟨p, rfl⟩⟩ | ⟨i, s, n, hn, rfl⟩
  · have HN := Lib.hid (HO0.out hn)
    have heq := fun w => run_eql_iface_nil (P := Tryz.prog) (w := w) 40 hif 82 (.pointer (some p))
    clear hn HO0 HO1 HO2 HS2
    go_wp2_with fail
    have R4 := three_blk R2 rfl (.int .i64 0) (.int .i64 0) (.string ⟨#[]⟩)
    have L4 := three_later HL2.out (show w.heap.size ≤ g by have := HG.out; omega) (.int .i64 0) (.int .i64 0) (.string ⟨#[]⟩)
    obtain ⟨w4, hw4⟩ : ∃ w4, w4 = (((w2.setCell ⟨g, 0, none⟩ (.int .i64 0)).setCell ⟨g, 1, none⟩ (.int .i64 0)).setCell ⟨g, 2, none⟩ (.string ⟨#[]⟩)) := ⟨_, rfl⟩
    rw [← hw4] at R4 L4 ⊢
    have l5 := Later.new w4 (.cells #[.int .i64 t', .int .i64 i', .string s'] 26)
    have R5 := R4.later l5
    have L4 := L4.trans l5
    obtain ⟨w5, hw5⟩ : ∃ w5, w5 = w4.alloc (.cells #[.int .i64 t', .int .i64 i', .string s'] 26) := ⟨_, rfl⟩
    rw [← hw5] at R5 L4 ⊢
    have x0 := R5.cell 0 _ rfl
    have x1 := R5.cell 1 _ rfl
    have x2 := R5.cell 2 _ rfl
    exact bodyPost_ret (v := .tuple #[vagg 0 0 ⟨#[]⟩, .int .i64 0, .iface 82 (.pointer (some p))]) (by simp [results, Tryz.results108, go_sem, x0, x1, x2]) rfl (TakesC.no HN.out L4)
  · have HY := Lib.hid (HO1.out i s n hn)
    have HX := Lib.hid (HO2.out i s n hn)
    obtain ⟨S, hS⟩ : ∃ S, S = bstr s := ⟨_, rfl⟩
    have HSS := Lib.hid hS
    rw [← hS] at HY HX ⊢
    obtain ⟨w3, hw3⟩ : ∃ w3, w3 = w2.alloc (.cells #[.int .i64 t, .int .i64 i, .string S] 26) := ⟨_, rfl⟩
    have l3 : Later w2 w3 := hw3 ▸ Later.new _ _
    have R3 := R2.later l3
    have V3 : Blk w3 w2.heap.size #[.int .i64 t, .int .i64 i, .string S] 26 := hw3 ▸ Blk.new w2 _ _ _ rfl
    have HL3 := Lib.hid (HL2.out.trans l3)
    have S3 := HS2.out.later l3
    have HS3 := Lib.hid S3
    obtain ⟨a0, a2, a3, a4, SS⟩ := S3.sn
    have HM := Lib.hid (may_any t i S a0 a2 a3 a4 w3 SS)
    have HW3 := Lib.hid hw3
    obtain ⟨g2, hg2⟩ : ∃ g2, g2 = w2.heap.size := ⟨_, rfl⟩
    have HG2 := Lib.hid hg2
    rw [← hg2] at V3
    clear hn hS R2 HL2 HO0 HO1 HO2 HS2 hw3 l3 S3 SS
    go_wp2_with fail
    rw [← HW3.out, ← HG2.out]
    refine HM.out.mono ?_
    rintro e w4 ⟨r, hrm, rfl, b4⟩
    have l4 : Later w3 w4 := Later.of b4
    have R4 := R3.later l4
    have V4 := V3.later l4
    have HL4 := Lib.hid (HL3.out.trans l4)
    have HS4 := Lib.hid (HS3.out.later l4)
    clear r0 r1 r2 f0 f1 f2 zg hg2 R3 V3 HL3 HS3 b4 l4 HM HW3
    have r0 := R4.cell 0 _ rfl
    have r1 := R4.cell 1 _ rfl
    have r2 := R4.cell 2 _ rfl
    have f0 := R4.frozen 0
    have f1 := R4.frozen 1
    have f2 := R4.frozen 2
    cases r with
    | true =>
      have HN := Lib.hid (HY.out (hrm.1 rfl))
      have v0 := V4.cell 0 _ rfl
      have v1 := V4.cell 1 _ rfl
      have v2 := V4.cell 2 _ rfl
      clear hrm HY HX HS4
      go_wp2_with fail
      have R5 := three_blk R4 rfl (.int .i64 t) (.int .i64 i) (.string S)
      have L5 := three_later HL4.out (show w.heap.size ≤ g by have := HG.out; omega) (.int .i64 t) (.int .i64 i) (.string S)
      obtain ⟨w5, hw5⟩ : ∃ w5, w5 = (((w4.setCell ⟨g, 0, none⟩ (.int .i64 t)).setCell ⟨g, 1, none⟩ (.int .i64 i)).setCell ⟨g, 2, none⟩ (.string S)) := ⟨_, rfl⟩
      rw [← hw5] at R5 L5 ⊢
      have x0 := R5.cell 0 _ rfl
      have x1 := R5.cell 1 _ rfl
      have x2 := R5.cell 2 _ rfl
      refine bodyPost_ret (v := .tuple #[vagg t i S, .int .i64 n, .nilIface]) (by simp [results, Tryz.results108, go_sem, x0, x1, x2]) rfl ?_
      rw [HSS.out]
      exact TakesC.yes HN.out L5
    | false =>
      have HN := Lib.hid (HX.out (fun h => by have := hrm.2 h; cases this))
      obtain ⟨sa, hsv⟩ := HS4.out.value
      clear hrm HY HX HS4 V4 r0 r1 r2 f0 f1 f2
      go_wp2_with fail
      refine (at_l _ _ _ _).mono ?_
      rintro e w5 ⟨q5, rfl, l5⟩
      have R5 := R4.later l5
      have r0 := R5.cell 0 _ rfl
      have r1 := R5.cell 1 _ rfl
      have r2 := R5.cell 2 _ rfl
      have f0 := R5.frozen 0
      have f1 := R5.frozen 1
      have f2 := R5.frozen 2
      have HL5 := Lib.hid (HL4.out.trans l5)
      clear hsv R4 HL4 l5
      go_wp2_with fail
      have R6 := three_blk R5 rfl (.int .i64 0) (.int .i64 0) (.string ⟨#[]⟩)
      have L6 := three_later HL5.out (show w.heap.size ≤ g by have := HG.out; omega) (.int .i64 0) (.int .i64 0) (.string ⟨#[]⟩)
      obtain ⟨w6, hw6⟩ : ∃ w6, w6 = (((w5.setCell ⟨g, 0, none⟩ (.int .i64 0)).setCell ⟨g, 1, none⟩ (.int .i64 0)).setCell ⟨g, 2, none⟩ (.string ⟨#[]⟩)) := ⟨_, rfl⟩
      rw [← hw6] at R6 L6 ⊢
      have x0 := R6.cell 0 _ rfl
      have x1 := R6.cell 1 _ rfl
      have x2 := R6.cell 2 _ rfl
      exact bodyPost_ret (v := .tuple #[vagg 0 0 ⟨#[]⟩, .int .i64 0, .iface 82 (.pointer (some q5))]) (by simp [results, Tryz.results108, go_sem, x0, x1, x2]) rfl (TakesC.no HN.out L6)
end Go.Proofs.YtldalkhmbpkjpaaGreatDoor
