/- The walk of value.read. -/
import Derived.Test.YtbmlipandjbbbaaDoorValTake
namespace Go.Proofs.YtbmlipandjbbbaaDoor
open Go.RowKit
set_option linter.unusedVariables false

set_option maxRecDepth 100000 in
set_option maxHeartbeats 1000000 in
theorem valRead_nil (A : Option Addr) (c : Nat) (a0 : Addr) (w : World) (hg : 0 < w.heap.size) (hs : w.cell? ⟨0, 0, none⟩ = some (.iface 86 (.pointer (some a0)))) :
    Calls Tryd.prog 33 #[.slice A 0 c] w (ShortPost a0 w) := by
  go_enter Tryd.func33, Tryd.ntmps33
  go_wp2_with (go_at_call 48; refine (at_any _ _ _ _ _ rfl).mono ?_; rintro e w' ⟨rfl, rfl⟩)
  all_goals refine bodyPost_ret (v := .tuple #[vagg 0 0 ⟨#[]⟩, .int .i64 0, .iface 72 (.pointer (some ⟨w.heap.size + 1, 0, none⟩))]) (by simp [results, Tryd.results33, go_sem]) rfl ⟨0, 0, ⟨#[]⟩, w.heap.size + 1, rfl, by omega, (CellIs.new _ _ _ _ 2 _ (by simp) rfl), (((Later.refl w).alloc _).alloc _)⟩

set_option maxRecDepth 100000 in
set_option maxHeartbeats 1000000 in
theorem valRead_text (b off n c : Nat) (w : World) (hb : b < w.heap.size) (hn : 1 ≤ n) (hn2 : n ≤ 1000000)
    (hc0 : w.cell? ⟨b, off, none⟩ = some (.int .u8 4)) (R : Int → Int → ByteArray → Int → Value → World → Prop)
    (h : ∀ W1, W1 = (w.alloc (.cells #[.int .i64 0, .int .i64 0, .string ⟨#[]⟩] 23)).alloc (.cells #[.int .i64 4, .int .i64 0, .string ⟨#[]⟩] 23) → Calls Tryd.prog 49 #[.slice (some ⟨b, off, none⟩) n c] W1 fun e w' => ∃ (t i k : Int) (s : ByteArray) (er : Value), e = .returned (.tuple #[vagg t i s, .int .i64 k, er]) ∧ Later W1 w' ∧ R t i s k er w') :
    Calls Tryd.prog 33 #[.slice (some ⟨b, off, none⟩) n c] w fun e w3 => ∃ (t i k : Int) (s : ByteArray) (er : Value) (w2 : World), e = .returned (.tuple #[vagg t i s, .int .i64 k, er]) ∧ R t i s k er w2 ∧ Later w w3 ∧ ∀ g, w.heap.size < g → w3.heap[g]? = w2.heap[g]? := by
  have HC := Lib.hid (h _ rfl)
  have B1 := (Blk.new w #[.int .i64 0, .int .i64 0, .string ⟨#[]⟩] 23 _ rfl).later (Later.new _ (.cells #[.int .i64 4, .int .i64 0, .string ⟨#[]⟩] 23))
  have L1 : Later w ((w.alloc (.cells #[.int .i64 0, .int .i64 0, .string ⟨#[]⟩] 23)).alloc (.cells #[.int .i64 4, .int .i64 0, .string ⟨#[]⟩] 23)) := ((Later.refl w).alloc _).alloc _
  clear h
  have hn0 : ((n : Int) == 0) = false := by simp; omega
  go_enter Tryd.func33, Tryd.ntmps33
  go_wp2_with fail
  refine HC.out.mono ?_
  rintro e w2 ⟨t, i, k, s, er, rfl, l2, hR⟩
  have HR := Lib.hid hR
  have b2 := B1.later l2
  have L2 := L1.trans l2
  have hc0 := b2.cell 0 _ rfl
  have hc1 := b2.cell 1 _ rfl
  have hc2 := b2.cell 2 _ rfl
  have hf0 := b2.frozen 0
  have hf1 := b2.frozen 1
  have hf2 := b2.frozen 2
  have B2 := b2
  clear hR HC B1 L1 b2 l2
  go_wp2_with fail
  obtain ⟨w3, hw3⟩ : ∃ w3, w3 = (((w2.setCell ⟨w.heap.size, 0, none⟩ (.int .i64 t)).setCell ⟨w.heap.size, 1, none⟩ (.int .i64 i)).setCell ⟨w.heap.size, 2, none⟩ (.string s)) := ⟨_, rfl⟩
  have b3 : Blk w3 w.heap.size #[.int .i64 t, .int .i64 i, .string s] 23 := by rw [hw3]; exact ((B2.set_ 0 _).set_ 1 _).set_ 2 _
  have L3 : Later w w3 := by rw [hw3]; exact ((L2.set_ (Nat.le_refl _) _).set_ (Nat.le_refl _) _).set_ (Nat.le_refl _) _
  have far : ∀ g, w.heap.size < g → w3.heap[g]? = w2.heap[g]? := fun g hg => by
    rw [hw3, Below.heap_setCell _ _ _ _ (by simp; omega), Below.heap_setCell _ _ _ _ (by simp; omega), Below.heap_setCell _ _ _ _ (by simp; omega)]
  rw [← hw3]
  have r0 := b3.cell 0 _ rfl
  have r1 := b3.cell 1 _ rfl
  have r2 := b3.cell 2 _ rfl
  exact bodyPost_ret (v := .tuple #[vagg t i s, .int .i64 k, er]) (by simp [results, Tryd.results33, go_sem, r0, r1, r2]) rfl ⟨t, i, k, s, er, w2, rfl, HR.out, L3, far⟩

set_option maxRecDepth 100000 in
set_option maxHeartbeats 1000000 in
theorem valRead_cut (t : Nat) (wd : Nat) (hwd : widthV t = wd) (b off n c : Nat) (a0 : Addr) (w : World) (hg : 0 < w.heap.size) (hs : w.cell? ⟨0, 0, none⟩ = some (.iface 86 (.pointer (some a0)))) (hb : b < w.heap.size) (hn : 1 ≤ n) (hn2 : n ≤ 1000000)
    (hc0 : w.cell? ⟨b, off, none⟩ = some (.int .u8 (t : Int))) (ht : t < 256) (h4 : t ≠ 4) (hshort : (n : Int) < 1 + (wd : Int)) :
    Calls Tryd.prog 33 #[.slice (some ⟨b, off, none⟩) n c] w (ShortPost a0 w) := by
  have hw8 : wd ≤ 8 := hwd ▸ widthV_le t
  have HW := Lib.hid hwd
  have hn0 : ((n : Int) == 0) = false := by simp; omega
  have ht4 : ((t : Int) == 4) = false := by simp; omega
  have hp := (Later.new w (.cells #[.int .i64 0, .int .i64 0, .string ⟨#[]⟩] 23)).cell hs
  clear hwd h4
  go_enter Tryd.func33, Tryd.ntmps33
  go_wp2_with (go_at_call 40; refine (width_any (t : Int) _).mono ?_; rintro e w' ⟨rfl, rfl⟩; rw [HW.out])
  go_region_with (go_at_call 48; refine (at_any _ _ _ _ _ rfl).mono ?_; rintro e w' ⟨rfl, rfl⟩)
  all_goals go_wp2_with fail
  all_goals refine bodyPost_ret (v := .tuple #[vagg t 0 ⟨#[]⟩, .int .i64 0, .iface 72 (.pointer (some ⟨w.heap.size + 1 + 1, 0, none⟩))]) (by simp [results, Tryd.results33, go_sem]) rfl ⟨t, 0, ⟨#[]⟩, w.heap.size + 1 + 1, rfl, by omega, (CellIs.new _ _ _ _ 2 _ (by simp) rfl).drew, ((((Later.refl w).alloc _).alloc _).alloc _).drew⟩

theorem widthV_in (t : Int) : widthV t = 0 ∨ widthV t = 1 ∨ widthV t = 2 ∨ widthV t = 8 := by unfold widthV; split <;> (try split) <;> (try split) <;> omega
theorem shift_sgn (wd u : Nat) (hw8 : wd ≤ 8) (hi : wd = 0 ∨ wd = 1 ∨ wd = 2 ∨ wd = 8) (hu : u < 2 ^ (8 * wd)) : wrap64 (IntKind.u64.wrap ((u : Int) * 2 ^ (64 - 8 * wd))) / 2 ^ (64 - 8 * wd) = sgn wd u := by
  rw [IntKind.wrap_u64]
  rcases hi with rfl | rfl | rfl | rfl
  · obtain rfl : u = 0 := by simpa using hu
    simp [wrap64, sgn]
  · simp only [sgn, wrap64]
    rw [if_neg (by decide)]
    simp at hu ⊢
    split <;> omega
  · simp only [sgn, wrap64]
    rw [if_neg (by decide)]
    simp at hu ⊢
    split <;> omega
  · simp only [sgn, wrap64]
    rw [if_neg (by decide)]
    simp at hu ⊢
    split <;> omega

set_option maxRecDepth 100000 in
set_option maxHeartbeats 1000000 in
theorem valRead_num (t : Nat) (wd : Nat) (hwd : widthV t = wd) (b off n c : Nat) (w : World) (hb : b < w.heap.size) (hn : 1 ≤ n) (hn2 : n ≤ 1000000) (hnc : n ≤ c) (hc : c ≤ 9223372036854775807)
    (hc0 : w.cell? ⟨b, off, none⟩ = some (.int .u8 (t : Int))) (ht : t < 256) (h4 : t ≠ 4) (hlong : ¬ (n : Int) < 1 + (wd : Int)) (q : List Nat) (hq : q.length = wd) (h256 : ∀ x ∈ q, x < 256) (hr : Has w (some ⟨b, off + 1, none⟩) (ints .u8 q)) :
    Calls Tryd.prog 33 #[.slice (some ⟨b, off, none⟩) n c] w (ReadsPost t (sgn wd (numH q)) [] (1 + wd) w) := by
  have hw8 : wd ≤ 8 := hwd ▸ widthV_le t
  have HW := Lib.hid hwd
  have hn0 : ((n : Int) == 0) = false := by simp; omega
  have ht4 : ((t : Int) == 4) = false := by simp; omega
  clear hwd h4
  by_cases hc1 : c = 1
  · subst hc1
    obtain rfl : wd = 0 := by omega
    obtain rfl : n = 1 := by omega
    obtain rfl : q = [] := List.eq_nil_of_length_eq_zero hq
    go_enter Tryd.func33, Tryd.ntmps33
    go_wp2_with (go_at_call 40; refine (width_any (t : Int) _).mono ?_; rintro e w' ⟨rfl, rfl⟩; rw [HW.out])
    refine (highTake_any (some ⟨b, off, none⟩) 0 0 [] _ _ rfl (Has.nil_) h256 (by simp)).mono ?_
    rintro e w' ⟨rfl, rfl⟩
    have hz0 : numH [] = 0 := rfl
    have hz1 : wrap64 (IntKind.u64.wrap 0) = 0 := by rw [IntKind.wrap_u64]; simp [wrap64]
    go_wp2_with fail
    refine bodyPost_ret (v := .tuple #[vagg t 0 ⟨#[]⟩, .int .i64 1, .nilIface]) (by simp [results, Tryd.results33, go_sem]) rfl ⟨?_, ((Later.refl w).alloc _).alloc _⟩
    rfl
  · go_enter Tryd.func33, Tryd.ntmps33
    go_wp2_with (go_at_call 40; refine (width_any (t : Int) _).mono ?_; rintro e w' ⟨rfl, rfl⟩; rw [HW.out])
    refine (highTake_any (some ⟨b, off + 1, none⟩) wd (c - 1) q _ _ hq.symm (hr.later (((Later.refl w).alloc _).alloc _)) h256 (by omega)).mono ?_
    rintro e w' ⟨rfl, rfl⟩
    have hu := numH_lt' q h256 wd hq
    obtain ⟨u, hue⟩ : ∃ u, u = numH q := ⟨_, rfl⟩
    rw [← hue] at hu ⊢
    have HU := Lib.hid hue
    have HL := Lib.hid hu
    clear hue hu hq h256 hr
    go_wp2_with fail
    have e := shift_sgn wd u hw8 (HW.out ▸ widthV_in t) HL.out
    rw [e]
    refine bodyPost_ret (v := .tuple #[vagg t (sgn wd u) ⟨#[]⟩, .int .i64 (1 + wd), .nilIface]) (by simp [results, Tryd.results33, go_sem]) rfl ⟨?_, ((Later.refl w).alloc _).alloc _⟩
    rw [HU.out]; simp; try rfl
end Go.Proofs.YtbmlipandjbbbaaDoor
