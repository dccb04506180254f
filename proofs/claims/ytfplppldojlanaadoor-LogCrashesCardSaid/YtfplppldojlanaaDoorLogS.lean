/- Package log: a record that has no room; a log beside a table that grows. -/
import Derived.Test.YtfplppldojlanaaDoorLogR
namespace Go.Proofs.YtfplppldojlanaaDoor
open Go.RowKit
set_option linter.unusedVariables false

theorem Blk.grownBy {w w' : World} {g : Nat} {cs : Array Value} {t : TypeId} {row : Option Nat} (h : Blk w g cs t) (hg : w.grownBy w' row) (hr : ∀ x, row = some x → ∃ (cs2 : Array Value) (t2 : TypeId), w.heap[x]? = some (Obj.cells cs2 t2 (0, 0)) ∧ t2 ≠ t) : Blk w' g cs t :=
  (hg.block g h.lt (fun e => by
    obtain ⟨c2, t2, h1, h2⟩ := hr g e.symm
    exact typed_no h h1 (fun e => h2 e.symm))).trans h
theorem LayP.grown {base p gs gn B q area gen used f wn : Nat} {now : List (List Nat)} {w0 w w' : World} {row : Option Nat} (h : LayP base p gs gn B q area gen used f wn now w0 w) (hg : w.grownBy w' row)
    (hr : ∀ x, row = some x → x ≠ gs ∧ x ≠ gn ∧ ∃ (cs : Array Value), w.heap[x]? = some (Obj.cells cs 24 (0, 0))) : LayP base p gs gn B q area gen used f wn now w' w' := by
  obtain ⟨d, cs, cn, A, cf, ⟨a1, a2, a3, a4, a5, a6⟩, h2, h3, h4, h5, h6⟩ := h
  refine ⟨d, cs, cn, A, cf, ⟨Blk.grownBy a1 hg fun x hx => ?_, a2.grown hg (fun x hx => ?_) (fun e => (hr gs e.symm).1 rfl), a3.grown hg (fun x hx => ?_) (fun e => (hr gn e.symm).2.1 rfl), a4.grown hg fun x hx => ?_, a5, a6⟩, Blk.grownBy h2 hg fun x hx => ?_, h3, h4, KL.refl _, Below.refl _ _⟩
  all_goals obtain ⟨_, _, c, hc⟩ := hr x hx
  · exact ⟨c, _, hc, by decide⟩
  · exact ⟨c, _, hc, by decide⟩
  · exact ⟨c, _, hc, by decide⟩
  · exact ⟨c, _, hc, by decide, by decide⟩
  · exact ⟨c, _, hc, by decide⟩
set_option maxRecDepth 100000 in
set_option maxHeartbeats 1000000 in
theorem logMore_long (q p area gen used : Nat) (A2 : Option Addr) (c : Nat) (r : List Nat) (w : World) (hqb : LogBk w q p area gen used) (ha : area ≤ 100000) (hu : used ≤ 100000) (hz : fitsE ((area : Int) - (used : Int)) [r] ≠ 0) (hr : r.length ≤ 9223372036854775807) :
    Calls Tryd.prog 27 #[lptr q, .slice A2 r.length c] w fun e w' => (∃ v, e = .returned v ∧ WrapsE w' v (fitsE ((area : Int) - (used : Int)) [r])) ∧ Later w w' := by
  have HRM := Lib.hid (logRoom_any q p area gen used w hqb (by omega) (by omega))
  have HZ := Lib.hid hz
  have hif : Tryd.prog.isIface 57 = true := by kernel_rfl
  have HEQ := Lib.hid (fun (w : World) (v : Value) => run_eql_iface_nil (P := Tryd.prog) (w := w) 57 hif 86 v)
  clear hqb hz hif
  go_enter Tryd.func27, Tryd.ntmps27
  go_wp2_with fail
  refine HRM.out.mono ?_
  rintro e w1 ⟨rfl, l1⟩
  obtain ⟨gl, hgl⟩ : ∃ x, w1.heap.size = x := ⟨_, rfl⟩
  obtain ⟨w2, hw2⟩ : ∃ x, w1.alloc (.cells #[.slice A2 r.length c] 24) = x := ⟨_, rfl⟩
  have l2 : Later w1 w2 := hw2 ▸ Later.new _ _
  have hbl : Blk w2 gl [Value.slice A2 r.length c].toArray 24 := hw2 ▸ Blk.new w1 _ _ gl hgl.symm
  obtain ⟨rm, hrm⟩ : ∃ x, (area : Int) - (used : Int) = x := ⟨_, rfl⟩
  have HFT := Lib.hid (logFits_any rm (some ⟨gl, 0, none⟩) 1 1 [⟨A2, c, r⟩] w2 rfl (by simp) (blk_hasL hbl) (fun s hs => by rw [List.mem_singleton] at hs; subst hs; exact hr))
  have HL2 := Lib.hid (l1.trans l2)
  have HW2 := Lib.hid hw2
  have HGL := Lib.hid hgl
  have HRMM := Lib.hid hrm
  rw [hrm]
  rw [hrm] at HZ
  clear l1 l2 hbl hw2 hgl hrm HRM
  go_wp2_with fail
  try rw [HGL.out]
  rw [HW2.out]
  refine HFT.out.mono ?_
  rintro e w3 ⟨⟨hz, rfl⟩ | ⟨hz, v, rfl, hv⟩, l3⟩
  · exact absurd hz HZ.out
  · obtain ⟨b, o, rfl, hc⟩ := id hv
    have hq := HEQ.out w3 (.pointer (some ⟨b, o, none⟩))
    have HV := Lib.hid hv
    have HL3 := Lib.hid (HL2.out.trans l3)
    clear hc hz hv l3 HFT
    go_wp2_with fail
    go_ret
    rw [HRMM.out]
    exact ⟨⟨_, rfl, HV.out⟩, HL3.out⟩
set_option maxRecDepth 100000 in
theorem logAppend_long (q p area gen used : Nat) (A2 : Option Addr) (c : Nat) (r : List Nat) (w : World) (hqb : LogBk w q p area gen used) (ha : area ≤ 100000) (hu : used ≤ 100000) (hz : fitsE ((area : Int) - (used : Int)) [r] ≠ 0) (hr : r.length ≤ 9223372036854775807) (hg : ErrT w) :
    Calls Tryd.prog 16 #[lptr q, .slice A2 r.length c] w fun e w' => e = .returned (.int .i64 (fitsE ((area : Int) - (used : Int)) [r])) ∧ Later w w' := by
  have HM := Lib.hid (logMore_long q p area gen used A2 c r w hqb ha hu hz hr)
  have HG := Lib.hid hg
  clear hqb hz hg
  go_enter Tryd.func16, Tryd.ntmps16
  go_wp2_with fail
  refine HM.out.mono ?_
  rintro e w1 ⟨⟨v, rfl, hv⟩, l1⟩
  have HT := Lib.hid (tell_some v _ w1 (HG.out.later l1) hv)
  have HL := Lib.hid l1
  clear hv l1 HM
  go_wp2_with fail
  refine HT.out.mono ?_
  rintro e w2 ⟨rfl, l2⟩
  have HL2 := Lib.hid (HL.out.trans l2)
  clear l2 HT
  go_wp2_with fail
  go_ret
  exact ⟨rfl, HL2.out⟩
theorem fitsE_over {n : Int} {N : Nat} (h : 65536 < N) : fitsE n [List.replicate N 0] = 1 := by
  unfold fitsE
  rw [if_neg]
  rw [List.all_cons, List.length_replicate, decide_eq_false (by omega)]
  decide
/-- A record that is too long. -/
theorem logAppend_over (q p area gen used N : Nat) (A2 : Option Addr) (c : Nat) (w : World) (hqb : LogBk w q p area gen used) (ha : area ≤ 100000) (hu : used ≤ 100000) (h1 : 65536 < N) (h2 : N ≤ 9223372036854775807) (hg : ErrT w) :
    Calls Tryd.prog 16 #[lptr q, .slice A2 N c] w fun e w' => e = .returned (.int .i64 1) ∧ Later w w' := by
  have h := logAppend_long q p area gen used A2 c (List.replicate N 0) w hqb ha hu (by rw [fitsE_over h1]; decide) (by rw [List.length_replicate]; exact h2) hg
  rw [List.length_replicate, fitsE_over h1] at h
  exact h
end Go.Proofs.YtfplppldojlanaaDoor
