/- Walks of package value: readText, read. -/
import Derived.Test.YtbmlipandjbbbaaDoorValSpec
import Derived.Test.YtbmlipandjbbbaaDoorLater
import Derived.Deep.RegionWith
namespace Go.Proofs.YtbmlipandjbbbaaDoor
open Go.RowKit
set_option linter.unusedVariables false

theorem conv_str (A : Option Addr) (n c : Nat) (l : List Nat) (hn : n = l.length) (w : World) (B : Nat) (hr : Rd w B A (ints .u8 l)) :
    (convert 24 9 (.slice A n c)).run Tryd.prog w = .ok (.string (bstr l)) w :=
  run_bstr 24 5 9 Tryd.underlying24 Tryd.underlying5 Tryd.underlying9 A n c l hn w B hr
abbrev vagg (t i : Int) (s : ByteArray) : Value := .agg #[.int .i64 t, .int .i64 i, .string s]
/-- What a reader tells of bytes that end too soon. -/
def ShortPost (a : Addr) (w : World) (e : Ending) (w' : World) : Prop :=
  ∃ (t i : Int) (s : ByteArray) (pb : Nat), e = .returned (.tuple #[vagg t i s, .int .i64 0, .iface 72 (.pointer (some ⟨pb, 0, none⟩))]) ∧ w.heap.size ≤ pb ∧ CellIs w' ⟨pb, 0 + 2, none⟩ (.iface 86 (.pointer (some a))) ∧ Later w w'
/-- What a reader tells of a value. -/
def ReadsPost (t i : Int) (l : List Nat) (n : Nat) (w : World) (e : Ending) (w' : World) : Prop :=
  e = .returned (.tuple #[vagg t i (bstr l), .int .i64 (n : Int), .nilIface]) ∧ Later w w'

set_option maxRecDepth 100000 in
set_option maxHeartbeats 1000000 in
theorem readText_nil (A : Option Addr) (c : Nat) (a0 : Addr) (w : World) (hg : 0 < w.heap.size) (hs : w.cell? ⟨0, 0, none⟩ = some (.iface 86 (.pointer (some a0)))) :
    Calls Tryd.prog 49 #[.slice A 1 c] w (ShortPost a0 w) := by
  go_enter Tryd.func49, Tryd.ntmps49
  go_wp2_with fail
  go_region_with (go_at_call 48; refine (at_any _ _ _ _ _ rfl).mono ?_; rintro e w' ⟨rfl, rfl⟩)
  all_goals go_wp2_with fail
  all_goals refine bodyPost_ret (v := .tuple #[vagg 4 0 ⟨#[]⟩, .int .i64 0, .iface 72 (.pointer (some ⟨w.heap.size + 1 + 1, 0, none⟩))]) (by simp [results, Tryd.results49, go_sem]) rfl ⟨4, 0, ⟨#[]⟩, w.heap.size + 1 + 1, rfl, by omega, (CellIs.new _ _ _ _ 2 _ (by simp) rfl).drew, ((((Later.refl w).alloc _).alloc _).alloc _).drew⟩

set_option maxRecDepth 100000 in
set_option maxHeartbeats 1000000 in
theorem readText_no (b off n c : Nat) (x : Nat) (a0 : Addr) (w : World) (hg : 0 < w.heap.size) (hs : w.cell? ⟨0, 0, none⟩ = some (.iface 86 (.pointer (some a0)))) (hb : b < w.heap.size)
    (hc1 : w.cell? ⟨b, off + 1, none⟩ = some (.int .u8 (x : Int))) (h256 : x < 256) (hn : 2 ≤ n) (hn2 : n ≤ 1000000) (hx : (n : Int) - 2 < (x : Int)) :
    Calls Tryd.prog 49 #[.slice (some ⟨b, off, none⟩) n c] w (ShortPost a0 w) := by
  go_enter Tryd.func49, Tryd.ntmps49
  go_wp2_with fail
  go_region_with (go_at_call 48; refine (at_any _ _ _ _ _ rfl).mono ?_; rintro e w' ⟨rfl, rfl⟩)
  all_goals go_wp2_with fail
  all_goals refine bodyPost_ret (v := .tuple #[vagg 4 0 ⟨#[]⟩, .int .i64 0, .iface 72 (.pointer (some ⟨w.heap.size + 1 + 1, 0, none⟩))]) (by simp [results, Tryd.results49, go_sem]) rfl ⟨4, 0, ⟨#[]⟩, w.heap.size + 1 + 1, rfl, by omega, (CellIs.new _ _ _ _ 2 _ (by simp) rfl).drew, ((((Later.refl w).alloc _).alloc _).alloc _).drew⟩

set_option maxRecDepth 100000 in
set_option maxHeartbeats 1000000 in
theorem readText_yes (b off n c : Nat) (x : Nat) (w : World) (hb : b < w.heap.size)
    (hc1 : w.cell? ⟨b, off + 1, none⟩ = some (.int .u8 (x : Int))) (h256 : x < 256) (hn : 2 ≤ n) (hn2 : n ≤ 1000000) (hnc : n ≤ c) (hc : c ≤ 9223372036854775807) (hx : ¬ (n : Int) - 2 < (x : Int)) (q : List Nat) (hq : q.length = x) (hr : Has w (some ⟨b, off + 2, none⟩) (ints .u8 q)) :
    Calls Tryd.prog 49 #[.slice (some ⟨b, off, none⟩) n c] w (ReadsPost 4 0 q (x + 2) w) := by
  have HX := Lib.hid hx
  have L2 : Later w ((w.alloc (.cells #[.int .i64 0, .int .i64 0, .string ⟨#[]⟩] 23)).alloc (.cells #[.int .i64 4, .int .i64 0, .string ⟨#[]⟩] 23)) := ((Later.refl w).alloc _).alloc _
  have HZ : ((2 + x : Nat) : Int) = 2 + (x : Int) := by omega
  by_cases h2 : c = 2
  · subst h2
    obtain rfl : x = 0 := by omega
    obtain rfl : q = [] := List.eq_nil_of_length_eq_zero hq
    obtain rfl : n = 2 := by omega
    have hcv := fun cc => conv_str (some ⟨b, off, none⟩) 0 cc [] rfl _ _ (Has.later (w := w) .nil_ L2)
    have hcv2 := fun cc => conv_str (some ⟨b, off + 2, none⟩) 0 cc [] rfl _ _ (Has.later (w := w) .nil_ L2)
    go_enter Tryd.func49, Tryd.ntmps49
    go_wp2_with fail
    exact bodyPost_ret (v := .tuple #[vagg 4 0 (bstr []), .int .i64 2, .nilIface]) (by simp [results, Tryd.results49, go_sem]) rfl ⟨rfl, ((Later.refl w).alloc _).alloc _⟩
  · have hcv := fun cc => conv_str (some ⟨b, off + 2, none⟩) x cc q hq.symm _ _ (hr.later L2)
    have HQ := Lib.hid hq
    go_enter Tryd.func49, Tryd.ntmps49
    go_wp2_with fail
    refine bodyPost_ret (v := .tuple #[vagg 4 0 (bstr q), .int .i64 (2 + x), .nilIface]) (by simp [results, Tryd.results49, go_sem]) rfl ⟨?_, ((Later.refl w).alloc _).alloc _⟩
    rw [Nat.add_comm, HZ]
end Go.Proofs.YtbmlipandjbbbaaDoor
