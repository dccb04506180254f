/- Package dev: Write, Flush, Stop of a device that may have stopped. -/
import Derived.Test.YtfplppldojlanaaDoorDevHg
import Derived.Test.YtfplppldojlanaaDoorLogF
namespace Go.Proofs.YtfplppldojlanaaDoor
open Go.RowKit
set_option linter.unusedVariables false

def D.wrT (d : D) (i : Nat) (b : List Nat) : D := if d.stopped then d else d.wr i b
def D.flT (d : D) : D := if d.stopped then d else d.fl
/-- What is on the way, and how many writes were done. -/
structure DW (B f n : Nat) (d : D) : Prop where
  fly : d.fly.length ≤ f
  at_ : ∀ x ∈ d.fly, x.1 < B
  lo : 0 ≤ d.writes
  hi : d.writes ≤ (n : Int)
theorem DOk.dw {B f n : Nat} {d : D} (h : DOk B f n d) : DW B f n d := ⟨h.fly, h.at_, h.lo, h.hi⟩
theorem DW.more {B f n f' n' : Nat} {d : D} (h : DW B f n d) (hf : f ≤ f') (hn : n ≤ n') : DW B f' n' d := ⟨Nat.le_trans h.fly hf, h.at_, h.lo, by have := h.hi; omega⟩
theorem DW.wrT {B f n : Nat} {d : D} (h : DW B f n d) {i : Nat} (hi : i < B) (b : List Nat) : DW B (f + 1) (n + 1) (d.wrT i b) := by
  unfold D.wrT
  split
  · exact h.more (by omega) (by omega)
  · exact ⟨by have := h.fly; show (d.fly ++ [(i, b)]).length ≤ f + 1; rw [List.length_append]; simpa using this, fun x hx => by
      rcases List.mem_append.1 hx with hx | hx
      · exact h.at_ x hx
      · rw [List.mem_singleton] at hx; subst hx; exact hi, by have := h.lo; show 0 ≤ d.writes + 1; omega, by have := h.hi; show d.writes + 1 ≤ ((n + 1 : Nat) : Int); push_cast; omega⟩
theorem DW.flT {B f n : Nat} {d : D} (h : DW B f n d) : DW B f n d.flT := by
  unfold D.flT
  split
  · exact h
  · exact ⟨Nat.zero_le _, (fun x hx => by cases hx), h.lo, h.hi⟩
theorem DW.st {B f n : Nat} {d : D} (h : DW B f n d) (k : Int) : DW B f n (d.st k) := ⟨h.fly, h.at_, h.lo, h.hi⟩
theorem DW.cr {B f n : Nat} {d : D} (h : DW B f n d) (keep : List Nat) (torn at_ : Int) : DW B 0 n (d.cr keep torn at_) := ⟨Nat.le_refl _, (fun x hx => by cases hx), h.lo, h.hi⟩
theorem devWrite_t (base p gs gn B cs cn : Nat) (A : Option Addr) (cf : Nat) (d : D) (i : Nat) (A2 : Option Addr) (c : Nat) (b : List Nat) (w : World) (h : DA w base p gs gn B cs cn A cf d) (hi : i < B) (hB : B ≤ 4000) (hb : b.length = 128) (hr : Has w A2 (ints .u8 b)) (h256 : ∀ x ∈ b, x < 256) (hf : d.fly.length ≤ 100000) (hw : d.writes ≤ 100000 ∧ 0 ≤ d.writes) (hbase : base ≤ w.heap.size) (hnil : A2 = none → c = 0) :
    Calls Tryd.prog 39 #[dptr p, .int .i64 i, .slice A2 128 c] w fun e w' => e = .returned (.bool true) ∧ DoneG base p gs gn B (d.wrT i b) w w' := by
  rcases hs : d.stopped with _ | _
  · have e : d.wrT i b = d.wr i b := by unfold D.wrT; rw [hs]; rfl
    rw [e]
    exact devWrite_g base p gs gn B cs cn A cf d i A2 c b w h hi hB hs hb hr h256 hf hw hbase hnil
  · have e : d.wrT i b = d := by unfold D.wrT; rw [hs]; rfl
    rw [e]
    refine (devWrite_stopped base p gs gn B cs cn A cf d i A2 c w h hi hs).mono ?_
    rintro e w' ⟨he, rfl⟩
    exact ⟨he, ⟨cs, cn, A, cf, h⟩, KG.refl _, Below.refl _ _⟩
set_option maxRecDepth 100000 in
theorem devFlush_none (p : Nat) (s : Bool) (n : Int) (w : World) (h4 : w.cell? ⟨p, 4, none⟩ = some (.bool s)) (h5 : w.cell? ⟨p, 5, none⟩ = some (.int .i64 n)) (hs : (s && decide (n ≤ 0)) = true) :
    Calls Tryd.prog 41 #[dptr p] w fun e w' => e = .returned (.tuple #[]) ∧ w' = w := by
  have HST := Lib.hid (devStopped_any p s n w h4 h5)
  rw [hs] at HST
  clear h4 h5 hs
  go_enter Tryd.func41, Tryd.ntmps41
  go_wp2_with fail
  refine HST.out.mono ?_
  rintro e w' ⟨rfl, rfl⟩
  go_wp2_with fail
  first
    | (go_end0; exact ⟨rfl, rfl⟩)
    | exact bodyPost_ret (v := .tuple #[]) (by simp [results, Tryd.results41, go_sem]) rfl ⟨rfl, rfl⟩
theorem devFlush_t (base p gs gn B cs cn : Nat) (A : Option Addr) (cf : Nat) (d : D) (w : World) (h : DA w base p gs gn B cs cn A cf d) (hB : B ≤ 4000) (hf : d.fly.length ≤ 100000) (hfl : ∀ x ∈ d.fly, x.1 < B) (hbase : base ≤ w.heap.size) :
    Calls Tryd.prog 41 #[dptr p] w fun e w' => e = .returned (.tuple #[]) ∧ DoneG base p gs gn B d.flT w w' := by
  rcases hs : d.stopped with _ | _
  · have e : d.flT = d.fl := by unfold D.flT; rw [hs]; rfl
    rw [e]
    exact devFlush_g base p gs gn B cs cn A cf d w h hB hs hf hfl hbase
  · have e : d.flT = d := by unfold D.flT; rw [hs]; rfl
    rw [e]
    refine (devFlush_none p d.stops d.left w h.c4 h.c5 hs).mono ?_
    rintro e w' ⟨he, rfl⟩
    exact ⟨he, ⟨cs, cn, A, cf, h⟩, KG.refl _, Below.refl _ _⟩
set_option maxRecDepth 100000 in
theorem devStop_g (base p gs gn B cs cn : Nat) (A : Option Addr) (cf : Nat) (d : D) (n : Int) (w : World) (h : DA w base p gs gn B cs cn A cf d) (hbase : base ≤ w.heap.size) :
    Calls Tryd.prog 13 #[dptr p, .int .i64 n] w fun e w' => e = .returned (.tuple #[]) ∧ DoneG base p gs gn B (d.st n) w w' := by
  have HDR := Lib.hid (show DR w base p gs gn B cs cn A d.fly.length cf d.sure d.now d.fly _ from h)
  have k4 := h.c4
  have k5 := h.c5
  have f4 := h.1.frozen 4
  have f5 := h.1.frozen 5
  have HBASE := Lib.hid hbase
  clear h hbase
  go_enter Tryd.func13, Tryd.ntmps13
  go_wp2_with fail
  have K5 := KG.setp HDR.out HBASE.out 4 (.bool (decide (0 ≤ n)))
  have D5 := HDR.out.setp 4 (.bool (decide (0 ≤ n)))
  have K6 := KG.setp D5 (Nat.le_trans HBASE.out K5.1.2.2.2.1) 5 (.int .i64 n)
  have D6 := D5.setp 5 (.int .i64 n)
  go_end0
  exact ⟨rfl, ⟨_, _, _, _, DA.of (d := d.st n) (nf := d.fly.length) D6 rfl rfl⟩, K5.1.trans K6.1, K5.2.trans K6.2⟩
end Go.Proofs.YtfplppldojlanaaDoor
