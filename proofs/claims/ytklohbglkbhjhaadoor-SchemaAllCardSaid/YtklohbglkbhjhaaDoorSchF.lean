/- schema.Find: first, and its closure. -/
import Derived.Test.YtklohbglkbhjhaaDoorRowsM
import Derived.Shelf.Abstract
namespace Go.Proofs.YtklohbglkbhjhaaDoor
open Go.RowKit
set_option linter.unusedVariables false

theorem str_beq (a b : ByteArray) : (a.toList == b.toList) = decide (a = b) := by
  by_cases h : a = b
  · subst h; simp
  · rw [bytes_ne h]; simp [h]

/-- The closure of Find: is it of that name? -/
theorem find1_any (x : Int) (s : ByteArray) (t : Int) (nm : ByteArray) (q : Addr) (w : World) (hc : w.cell? q = some (.string nm)) :
    Calls Tryd.prog 52 #[cagg x s t, .pointer (some q)] w fun e w' => e = .returned (.bool (decide (s = nm))) ∧ Later w w' := by
  have l1 : Later w (w.alloc (.cells #[.int .i64 x, .string s, .int .i64 t] 59)) := Later.new w _
  have hc1 := l1.cell hc
  have HE := Lib.hid (str_beq s nm)
  have HL := Lib.hid l1
  clear l1 hc
  go_enter Tryd.func52, Tryd.ntmps52
  go_wp2_with fail
  go_ret
  rw [HE.out]
  exact ⟨rfl, HL.out⟩

/-- A place, and whether there is one. -/
def FoundP (o : Option Nat) (w : World) (e : Ending) (w' : World) : Prop := e = .returned (.tuple #[.int .i64 ((o.getD 0 : Nat) : Int), .bool o.isSome]) ∧ Later w w'

set_option maxRecDepth 100000 in
set_option maxHeartbeats 1000000 in
theorem firstFind_any (A : Option Addr) (n c : Nat) (last : Int) (l : List Col3) (nm : ByteArray) (q : Addr) (w : World) (hn : n = l.length) (hl : n ≤ 100000) (hr : Has w A (fc l)) (hc : CellIs w q (.string nm)) :
    Calls Tryd.prog 51 #[.agg #[.slice A n c, .int .i64 last], .func (.func 52) #[] #[.pointer (some q)]] w (FoundP (findC l nm) w) := by
  have eg : ∀ args w, (callFunc 52 args).run Tryd.prog w = .ok (.enter 52 args) w := enters_of Tryd.func52 (by kernel_rfl) rfl
  have l1 : Later w (w.alloc (.cells #[.slice A n c, .int .i64 last] 24)) := Later.new w _
  have HL1 := Lib.hid l1
  have HN := Lib.hid hn
  clear l1 hn
  go_enter Tryd.func51, Tryd.ntmps51
  go_wp2_with fail
  go_loopw [11] (fun i wr => ∃ k : Nat, k ≤ n ∧ i = .int .i64 k ∧ (∀ j (hj : j < l.length), j < k → decide (l[j].2.1 = nm) = false) ∧ Later w wr) (fun i _ => n - (intOf i).toNat)
  case atStart => exact ⟨0, Nat.zero_le _, rfl, fun j hj h => absurd h (Nat.not_lt_zero _), HL1.out⟩
  case round =>
    obtain ⟨k, hk, rfl, hb, lat⟩ := hrel
    by_cases hlt : k < n
    · have hkl : k < l.length := by have := HN.out; omega
      obtain ⟨b, off, rfl, c0, c1, c2⟩ := (hr.later lat).col3 k hkl
      have HB := Lib.hid hb
      have HR := Lib.hid hr
      have HY := Lib.hid (fun (h : decide (l[k].2.1 = nm) = true) => show findC l nm = some k from firstAt hkl h hb)
      have HM := Lib.hid (fun (h : decide (l[k].2.1 = nm) = false) => show ∀ j (hj : j < l.length), j < k + 1 → decide (l[j].2.1 = nm) = false from fun j hj hjk => by
        rcases Nat.lt_or_ge j k with h1 | h1
        · exact hb j hj h1
        · obtain rfl : j = k := by omega
          exact h)
      generalize l[k].1 = x at c0 HY HM
      generalize l[k].2.1 = s at c1 HY HM
      generalize l[k].2.2 = t at c2 HY HM
      have l2 : Later w (wr.alloc (.cells #[.int .i64 x, .string s, .int .i64 t] 59)) := lat.alloc _
      have HC := Lib.hid (find1_any x s t nm q _ (hc.later l2).out)
      have HL2 := Lib.hid l2
      clear lat l2 hb hr hc
      go_wp2_with fail
      refine HC.out.mono ?_
      rintro e wX ⟨rfl, lX⟩
      have HLX := Lib.hid (HL2.out.trans lX)
      clear lX HC HL2
      by_cases he : s = nm
      · have hd : decide (s = nm) = true := by simpa using he
        have HF := Lib.hid (HY.out hd)
        clear he HY HM
        go_wp2_with fail
        go_ret2
        unfold FoundP
        rw [HF.out]
        exact ⟨rfl, HLX.out⟩
      · have hd : decide (s = nm) = false := by simpa using he
        have HF := Lib.hid (HM.out hd)
        clear he HY HM
        go_wp2_with fail
        go_roundw
        case rel => exact ⟨k + 1, hlt, by go_num, HF.out, HLX.out⟩
        case measure => simp [intOf]; omega
    · have HF := Lib.hid (show findC l nm = none from firstNo fun i hi => hb i hi (by have := HN.out; omega))
      clear hb
      go_wp2_with fail
      go_ret2
      unfold FoundP
      rw [HF.out]
      exact ⟨rfl, lat⟩

theorem find_any (A : Option Addr) (n c : Nat) (last : Int) (l : List Col3) (nm : ByteArray) (w : World) (hn : n = l.length) (hl : n ≤ 100000) (hr : Has w A (fc l)) :
    Calls Tryd.prog 22 #[.agg #[.slice A n c, .int .i64 last], .string nm] w (FoundP (findC l nm) w) := by
  have hmf : ∀ (fn : Fn) (first cap : Array Value) (w : World), (Instr.makeFunc fn first cap).run Tryd.prog w = .ok (.func fn first cap) w := fun _ _ _ _ => rfl
  obtain ⟨w1, hw1⟩ : ∃ x : World, (w.alloc (.cells #[.slice A n c, .int .i64 last] 24)).alloc (.cells #[.string nm] 9) = x := ⟨_, rfl⟩
  have l1 : Later w w1 := hw1 ▸ (Later.new w _).alloc _
  have b1 : CellIs w1 ⟨w.heap.size + 1, 0, none⟩ (.string nm) := hw1 ▸ CellIs.new _ _ _ _ _ _ (by simp) rfl
  have b0 : CellIs w1 ⟨w.heap.size, 0, none⟩ (.slice A n c) := hw1 ▸ (CellIs.new w _ _ _ _ _ rfl rfl).later (Later.new _ _)
  have b2 : CellIs w1 ⟨w.heap.size, 1, none⟩ (.int .i64 last) := hw1 ▸ (CellIs.new w _ _ _ _ _ rfl rfl).later (Later.new _ _)
  have HC := Lib.hid (firstFind_any A n c last l nm ⟨w.heap.size + 1, 0, none⟩ w1 hn hl (hr.later l1) b1)
  have HL := Lib.hid l1
  have HW := Lib.hid hw1
  clear l1 b1 hw1 hn hr
  have e0 := b0.out
  have e2 := b2.out
  clear b0 b2
  go_enter Tryd.func22, Tryd.ntmps22
  go_wp2_with fail
  rw [HW.out]
  refine HC.out.mono ?_
  rintro e w2 ⟨rfl, l2⟩
  have HL2 := Lib.hid (HL.out.trans l2)
  clear l2 HC
  go_wp2_with fail
  go_ret2
  exact ⟨rfl, HL2.out⟩
end Go.Proofs.YtklohbglkbhjhaaDoor
