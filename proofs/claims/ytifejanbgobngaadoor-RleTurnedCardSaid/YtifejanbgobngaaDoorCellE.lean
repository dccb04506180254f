/- Walks of package cell: readBytes. -/
import Derived.Test.YtifejanbgobngaaDoorCellD
import Derived.Test.YtifejanbgobngaaDoorNumB
import Derived.Deep.RegionWith
import Derived.Deep.RegionLaw
namespace Go.Proofs.YtifejanbgobngaaDoor
open Go.RowKit
set_option linter.unusedVariables false

theorem conv_str (A : Option Addr) (n c : Nat) (l : List Nat) (hn : n = l.length) (w : World) (B : Nat) (hr : Rd w B A (ints .u8 l)) :
    (convert 22 9 (.slice A n c)).run Tryd.prog w = .ok (.string (bstr l)) w :=
  run_bstr 22 5 9 Tryd.underlying22 Tryd.underlying5 Tryd.underlying9 A n c l hn w B hr
theorem three_blk {w : World} {g : Nat} {cs : Array Value} {t : TypeId} (h : Blk w g cs t) (hs : cs.size = 3) (x y z : Value) : Blk (((w.setCell ⟨g, 0, none⟩ x).setCell ⟨g, 1, none⟩ y).setCell ⟨g, 2, none⟩ z) g #[x, y, z] t := by
  have := ((h.set_ 0 x).set_ 1 y).set_ 2 z
  have e : ((cs.setIfInBounds 0 x).setIfInBounds 1 y).setIfInBounds 2 z = #[x, y, z] := by
    match cs, hs with
    | ⟨[a, b, c]⟩, _ => rfl
  rwa [e] at this
theorem three_later {w w' : World} {g : Nat} (h : Later w w') (hg : w.heap.size ≤ g) (x y z : Value) : Later w (((w'.setCell ⟨g, 0, none⟩ x).setCell ⟨g, 1, none⟩ y).setCell ⟨g, 2, none⟩ z) := ((h.set_ hg _).set_ hg _).set_ hg _
theorem three_far {w : World} {g : Nat} {p : Addr} {v : Value} (h : CellIs w p v) (hne : p.block ≠ g) (x y z : Value) : CellIs (((w.setCell ⟨g, 0, none⟩ x).setCell ⟨g, 1, none⟩ y).setCell ⟨g, 2, none⟩ z) p v := ((h.far hne).far hne).far hne
/-- The worlds that a reader begins in: the box, the result. -/
theorem two_new (w : World) (cs ds : Array Value) (t u : TypeId) : ∃ w1, w1 = (w.alloc (.cells cs t)).alloc (.cells ds u) ∧ Later w w1 ∧ Blk w1 w.heap.size cs t ∧ Blk w1 (w.heap.size + 1) ds u ∧ w1.heap.size = w.heap.size + 2 :=
  ⟨_, rfl, ((Later.refl w).alloc _).alloc _, (Blk.new w cs t _ rfl).later (Later.new _ _), Blk.new _ ds u _ (by simp), by simp⟩
/-- fault.At of a sentinel. -/
theorem at_l (s : ByteArray) (p : Int) (x : Value) (w : World) :
    Calls Tryd.prog 53 #[.string s, .int .i64 p, .iface 121 x] w fun r w' => ∃ q, r = .returned (.iface 90 (.pointer (some q))) ∧ Later w w' :=
  (at_any s p _ x w rfl).mono fun r w' ⟨h1, h2⟩ => ⟨_, h1, h2 ▸ Later.new _ _⟩
/-- fault.At of an error of fault.At. -/
theorem at_w (s : ByteArray) (p : Int) (x : Addr) (w : World) :
    Calls Tryd.prog 53 #[.string s, .int .i64 p, .iface 90 (.pointer (some x))] w fun r w' => ∃ q, r = .returned (.iface 90 (.pointer (some q))) ∧ Later w w' := by
  have hif : Tryd.prog.isIface 50 = true := by kernel_rfl
  have heq := run_eql_iface_nil (P := Tryd.prog) (w := w.alloc (.cells #[.iface 90 (.pointer (some x))] 50)) 50 hif 90 (.pointer (some x))
  have heq2 := run_eql_iface_nil (P := Tryd.prog) (w := w) 50 hif 90 (.pointer (some x))
  go_enter Tryd.func53, Tryd.ntmps53
  go_wp2
  go_ret
  exact ⟨_, rfl, Later.new _ _⟩
/-- What a reader of one value tells. -/
def ReadsC (o : Option (Int × List Nat × Nat)) (t : Int) (w : World) (e : Ending) (w' : World) : Prop :=
  ((o = none ∧ ∃ (t' i' : Int) (s' : ByteArray) (v : Value), e = .returned (.tuple #[vagg t' i' s', .int .i64 0, v]) ∧ Where v) ∨
    ∃ i s n, o = some (i, s, n) ∧ e = .returned (.tuple #[vagg t i (bstr s), .int .i64 (n : Int), .nilIface])) ∧ Later w w'
theorem ReadsC.no {o : Option (Int × List Nat × Nat)} {t : Int} {w w' : World} (h : o = none) (t' i' : Int) (s' : ByteArray) {v : Value} (hv : Where v) (l : Later w w') : ReadsC o t w (.returned (.tuple #[vagg t' i' s', .int .i64 0, v])) w' := ⟨.inl ⟨h, t', i', s', v, rfl, hv⟩, l⟩
theorem ReadsC.yes {o : Option (Int × List Nat × Nat)} {t : Int} {w w' : World} {i : Int} {s : List Nat} {n : Nat} (h : o = some (i, s, n)) (l : Later w w') : ReadsC o t w (.returned (.tuple #[vagg t i (bstr s), .int .i64 (n : Int), .nilIface])) w' := ⟨.inr ⟨i, s, n, h, rfl⟩, l⟩

set_option maxRecDepth 100000 in
set_option maxHeartbeats 1000000 in
theorem readBytes_nil (t : Int) (A : Option Addr) (c : Nat) (w : World) (hs : CSent w 1) :
    Calls Tryd.prog 78 #[vagg t 0 ⟨#[]⟩, .slice A 0 c] w (ReadsC none t w) := by
  obtain ⟨a, hs⟩ := hs
  have hg : 1 < w.heap.size := block_lt_of_cell hs
  go_enter Tryd.func78, Tryd.ntmps78
  go_wp2_with fail
  obtain ⟨w1, hw1, L1, B1, R1, z1⟩ := two_new w #[.int .i64 t, .int .i64 0, .string ⟨#[]⟩] #[.int .i64 0, .int .i64 0, .string ⟨#[]⟩] 26 26
  rw [← hw1]
  have hs1 := L1.cell hs
  have b0 := B1.cell 0 _ rfl
  have b1 := B1.cell 1 _ rfl
  have b2 := B1.cell 2 _ rfl
  have HL := Lib.hid L1
  obtain ⟨g, hg⟩ : ∃ g, g = w.heap.size := ⟨_, rfl⟩
  obtain ⟨g1, hg1⟩ : ∃ g1, g1 = w.heap.size + 1 := ⟨_, rfl⟩
  have HG := Lib.hid hg1
  rw [← hg1] at R1 ⊢
  rw [← hg] at B1 b0 b1 b2 ⊢
  clear hs hw1 L1 z1 hg hg1
  go_region_law (first
    | (go_simp; go_at_call 53; refine (at_l _ _ _ _).mono ?_; rintro e w2 ⟨q2, rfl, l2⟩; have B2 := B1.drew.later l2; have R2 := R1.drew.later l2; have d0 := B2.cell 0 _ rfl; have d1 := B2.cell 1 _ rfl; have d2 := B2.cell 2 _ rfl; have r0 := R2.cell 0 _ rfl; have r1 := R2.cell 1 _ rfl; have r2 := R2.cell 2 _ rfl; have f0 := R2.frozen 0; have f1 := R2.frozen 1; have f2 := R2.frozen 2; have HL2 := Lib.hid (HL.out.drew.trans l2); clear l2))
  all_goals go_wp2_with fail
  all_goals
    have R3 := three_blk R2 rfl (.int .i64 t) (.int .i64 0) (.string ⟨#[]⟩)
    have L3 := three_later HL2.out (show w.heap.size ≤ g1 by have := HG.out; omega) (.int .i64 t) (.int .i64 0) (.string ⟨#[]⟩)
    obtain ⟨w3, hw3⟩ : ∃ w3, w3 = (((w2.setCell ⟨g1, 0, none⟩ (.int .i64 t)).setCell ⟨g1, 1, none⟩ (.int .i64 0)).setCell ⟨g1, 2, none⟩ (.string ⟨#[]⟩)) := ⟨_, rfl⟩
    rw [← hw3] at R3 L3 ⊢
    have x0 := R3.cell 0 _ rfl
    have x1 := R3.cell 1 _ rfl
    have x2 := R3.cell 2 _ rfl
    exact bodyPost_ret (v := .tuple #[vagg t 0 ⟨#[]⟩, .int .i64 0, .iface 90 (.pointer (some q2))]) (by simp [results, Tryd.results78, go_sem, x0, x1, x2]) rfl (ReadsC.no rfl _ _ _ ⟨_, rfl⟩ L3)

set_option maxRecDepth 100000 in
set_option maxHeartbeats 1000000 in
theorem readBytes_truth (b off n c x : Nat) (w : World) (hn : 1 ≤ n) (hb : b < w.heap.size) (hc0 : w.cell? ⟨b, off, none⟩ = some (.int .u8 (x : Int))) (hx : x < 256) :
    Calls Tryd.prog 78 #[vagg 3 0 ⟨#[]⟩, .slice (some ⟨b, off, none⟩) n c] w (ReadsC (some ((x : Int), [], 1)) 3 w) := by
  have hn0 : ((n : Int) == 0) = false := by simp; omega
  go_enter Tryd.func78, Tryd.ntmps78
  go_wp2_with fail
  exact bodyPost_ret (v := .tuple #[vagg 3 (x : Int) (bstr []), .int .i64 1, .nilIface]) (by simp [results, Tryd.results78, go_sem, show bstr [] = (⟨#[]⟩ : ByteArray) from rfl]) rfl (ReadsC.yes rfl (((Later.refl w).alloc _).alloc _))

set_option maxRecDepth 100000 in
set_option maxHeartbeats 1000000 in
theorem readBytes_short (b off n c x : Nat) (w : World) (hn : 1 ≤ n) (hn2 : n ≤ 1000000) (hb : b < w.heap.size) (hc0 : w.cell? ⟨b, off, none⟩ = some (.int .u8 (x : Int))) (hx : x < 256) (hs : CSent w 1) (hlt : (n : Int) < 1 + (x : Int)) :
    Calls Tryd.prog 78 #[vagg 4 0 ⟨#[]⟩, .slice (some ⟨b, off, none⟩) n c] w (ReadsC none 4 w) := by
  obtain ⟨a, hs⟩ := hs
  have hg : 1 < w.heap.size := block_lt_of_cell hs
  have hn0 : ((n : Int) == 0) = false := by simp; omega
  go_enter Tryd.func78, Tryd.ntmps78
  go_wp2_with fail
  obtain ⟨w1, hw1, L1, B1, R1, z1⟩ := two_new w #[.int .i64 4, .int .i64 0, .string ⟨#[]⟩] #[.int .i64 0, .int .i64 0, .string ⟨#[]⟩] 26 26
  rw [← hw1]
  have hs1 := L1.cell hs
  have b0 := B1.cell 0 _ rfl
  have b1 := B1.cell 1 _ rfl
  have b2 := B1.cell 2 _ rfl
  have HL := Lib.hid L1
  obtain ⟨g, hg⟩ : ∃ g, g = w.heap.size := ⟨_, rfl⟩
  obtain ⟨g1, hg1⟩ : ∃ g1, g1 = w.heap.size + 1 := ⟨_, rfl⟩
  have HG := Lib.hid hg1
  rw [← hg1] at R1 ⊢
  rw [← hg] at B1 b0 b1 b2 ⊢
  clear hs hw1 L1 z1 hg hg1
  go_region_law (first
    | (go_simp; go_at_call 53; refine (at_l _ _ _ _).mono ?_; rintro e w2 ⟨q2, rfl, l2⟩; have B2 := B1.drew.later l2; have R2 := R1.drew.later l2; have d0 := B2.cell 0 _ rfl; have d1 := B2.cell 1 _ rfl; have d2 := B2.cell 2 _ rfl; have r0 := R2.cell 0 _ rfl; have r1 := R2.cell 1 _ rfl; have r2 := R2.cell 2 _ rfl; have f0 := R2.frozen 0; have f1 := R2.frozen 1; have f2 := R2.frozen 2; have HL2 := Lib.hid (HL.out.drew.trans l2); clear l2))
  all_goals go_wp2_with fail
  all_goals
    have R3 := three_blk R2 rfl (.int .i64 4) (.int .i64 0) (.string ⟨#[]⟩)
    have L3 := three_later HL2.out (show w.heap.size ≤ g1 by have := HG.out; omega) (.int .i64 4) (.int .i64 0) (.string ⟨#[]⟩)
    obtain ⟨w3, hw3⟩ : ∃ w3, w3 = (((w2.setCell ⟨g1, 0, none⟩ (.int .i64 4)).setCell ⟨g1, 1, none⟩ (.int .i64 0)).setCell ⟨g1, 2, none⟩ (.string ⟨#[]⟩)) := ⟨_, rfl⟩
    rw [← hw3] at R3 L3 ⊢
    have x0 := R3.cell 0 _ rfl
    have x1 := R3.cell 1 _ rfl
    have x2 := R3.cell 2 _ rfl
    exact bodyPost_ret (v := .tuple #[vagg 4 0 ⟨#[]⟩, .int .i64 0, .iface 90 (.pointer (some q2))]) (by simp [results, Tryd.results78, go_sem, x0, x1, x2]) rfl (ReadsC.no rfl _ _ _ ⟨_, rfl⟩ L3)

set_option maxRecDepth 100000 in
set_option maxHeartbeats 1000000 in
theorem readBytes_text (b off n c x : Nat) (q : List Nat) (w : World) (hn : 1 ≤ n) (hn2 : n ≤ 1000000) (hnc : n ≤ c) (hc : c ≤ 9223372036854775807) (hb : b < w.heap.size) (hc0 : w.cell? ⟨b, off, none⟩ = some (.int .u8 (x : Int))) (hx : x < 256) (hlt : ¬ (n : Int) < 1 + (x : Int)) (hq : q.length = x) (hr : Has w (some ⟨b, off + 1, none⟩) (ints .u8 q)) :
    Calls Tryd.prog 78 #[vagg 4 0 ⟨#[]⟩, .slice (some ⟨b, off, none⟩) n c] w (ReadsC (some (0, q, 1 + x)) 4 w) := by
  have hn0 : ((n : Int) == 0) = false := by simp; omega
  have L2 : Later w ((w.alloc (.cells #[.int .i64 4, .int .i64 0, .string ⟨#[]⟩] 26)).alloc (.cells #[.int .i64 0, .int .i64 0, .string ⟨#[]⟩] 26)) := ((Later.refl w).alloc _).alloc _
  have HZ : ((1 + x : Nat) : Int) = 1 + (x : Int) := by omega
  by_cases h2 : c = 1
  · subst h2
    obtain rfl : x = 0 := by omega
    obtain rfl : q = [] := List.eq_nil_of_length_eq_zero hq
    obtain rfl : n = 1 := by omega
    have hcv := fun cc => conv_str (some ⟨b, off, none⟩) 0 cc [] rfl _ _ (Has.later (w := w) .nil_ L2)
    have hcv2 := fun cc => conv_str (some ⟨b, off + 1, none⟩) 0 cc [] rfl _ _ (Has.later (w := w) .nil_ L2)
    clear hr HZ
    go_enter Tryd.func78, Tryd.ntmps78
    go_wp2_with fail
    exact bodyPost_ret (v := .tuple #[vagg 4 0 (bstr []), .int .i64 1, .nilIface]) (by simp [results, Tryd.results78, go_sem]) rfl (ReadsC.yes rfl (((Later.refl w).alloc _).alloc _))
  · have hcv := fun cc => conv_str (some ⟨b, off + 1, none⟩) x cc q hq.symm _ _ (hr.later L2)
    have HQ := Lib.hid hq
    have HZ := Lib.hid HZ
    clear hr hq
    go_enter Tryd.func78, Tryd.ntmps78
    go_wp2_with fail
    refine bodyPost_ret (v := .tuple #[vagg 4 0 (bstr q), .int .i64 (1 + x), .nilIface]) (by simp [results, Tryd.results78, go_sem]) rfl ?_
    rw [← HZ.out]
    exact ReadsC.yes rfl (((Later.refl w).alloc _).alloc _)
end Go.Proofs.YtifejanbgobngaaDoor
