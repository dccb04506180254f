/- Walks of package cell: All. -/
import Derived.Test.YtifejanbgobngaaDoorCellA
import Derived.Test.YtifejanbgobngaaDoorValMay
import Derived.Test.YtifejanbgobngaaDoorFlat
import Derived.Test.YtifejanbgobngaaDoorPlainMath
import Derived.Test.YtifejanbgobngaaDoorTac
namespace Go.Proofs.YtifejanbgobngaaDoor
open Go.RowKit
set_option linter.unusedVariables false


set_option maxRecDepth 100000 in
set_option maxHeartbeats 1000000 in
theorem all_yes (t : Int) (A : Option Addr) (c : Nat) (l : List Val3) (a0 a2 a3 a4 : Addr) (w : World) (hs : Sents w w.heap.size a0 a2 a3 a4) (ht : 1 ≤ t ∧ t ≤ 4) (hl : l.length ≤ 1000000) (hr : Has w A (fl l)) (ho : OkL t l) :
    Calls Tryd.prog 44 #[.int .i64 t, .slice A l.length c] w fun e w' => e = .returned .nilIface ∧ Later w w' := by
  have HT := Lib.hid (type_yes t w ht)
  go_enter Tryd.func44, Tryd.ntmps44
  go_wp2_with (go_at_call 63; refine HT.out.mono ?_; rintro e w' ⟨rfl, rfl⟩)
  go_loopw [15] (fun i wr => ∃ k : Nat, k ≤ l.length ∧ i = .int .i64 k ∧ Later w wr) (fun i _ => l.length - (intOf i).toNat)
  case atStart => exact ⟨0, Nat.zero_le _, rfl, Later.refl _⟩
  case round =>
    obtain ⟨k, hk, rfl, lat⟩ := hrel
    by_cases hlt : k < l.length
    · obtain ⟨b, off, rfl, c0, c1, c2⟩ := (hr.later lat).val3 k hlt
      obtain ⟨hx, hm⟩ := ho _ (List.getElem_mem hlt)
      rw [hx] at c0 hm
      generalize l[k].2.1 = i at c1 hm
      generalize l[k].2.2 = s at c2 hm
      have HM := Lib.hid hm
      have HS := Lib.hid hs
      have HR := Lib.hid hr
      have HLAT := Lib.hid lat
      clear hm hs hr lat hx ho
      go_wp2_with fail
      have l2 : Later w (wr.alloc (.cells #[.int .i64 t, .int .i64 i, .string s] 26)) := HLAT.out.alloc _
      have HL2 := Lib.hid l2
      refine (may_any t i s a0 a2 a3 a4 _ ((HS.out.below l2).more l2.size)).mono ?_
      rintro e wX ⟨r, hrm, rfl, bX⟩
      have hrt : r = true := hrm.2 HM.out
      subst hrt
      have lX := Lib.hid (HL2.out.trans (Later.of bX))
      clear bX hrm l2
      go_wp2_with fail
      go_roundw
      case rel => exact ⟨k + 1, hlt, by go_num, lX.out⟩
      case measure => simp [intOf]; omega
    · go_wp2_with fail
      go_ret
      exact ⟨rfl, lat⟩

set_option maxRecDepth 100000 in
set_option maxHeartbeats 1000000 in
theorem all_no (t : Int) (A : Option Addr) (c : Nat) (l : List Val3) (a0 a2 a3 a4 : Addr) (w : World) (hs : Sents w w.heap.size a0 a2 a3 a4) (hl : l.length ≤ 1000000) (hr : Has w A (fl l)) (ho : ¬ ((1 ≤ t ∧ t ≤ 4) ∧ OkL t l)) :
    Calls Tryd.prog 44 #[.int .i64 t, .slice A l.length c] w fun e w' => ∃ v, e = .returned v ∧ Where v ∧ Later w w' := by
  have hif : Tryd.prog.isIface 50 = true := by kernel_rfl
  by_cases ht : 1 ≤ t ∧ t ≤ 4
  · have HT := Lib.hid (type_yes t w ht)
    have HO := Lib.hid (show ¬ OkL t l from fun h => ho ⟨ht, h⟩)
    clear ho
    go_enter Tryd.func44, Tryd.ntmps44
    go_wp2_with (go_at_call 63; refine HT.out.mono ?_; rintro e w' ⟨rfl, rfl⟩)
    go_loopw [15] (fun i wr => ∃ k : Nat, k ≤ l.length ∧ i = .int .i64 k ∧ OkL t (l.take k) ∧ Later w wr) (fun i _ => l.length - (intOf i).toNat)
    case atStart => exact ⟨0, Nat.zero_le _, rfl, by intro x hx; simp at hx, Later.refl _⟩
    case round =>
      obtain ⟨k, hk, rfl, hok, lat⟩ := hrel
      by_cases hlt : k < l.length
      · obtain ⟨b, off, rfl, c0, c1, c2⟩ := (hr.later lat).val3 k hlt
        have HK := Lib.hid (show (l[k].1 = t ∧ MayV l[k].1 l[k].2.1 l[k].2.2.size) → OkL t (l.take (k + 1)) from fun h x hx => by
          rw [List.take_succ_eq_append_getElem hlt] at hx
          rcases List.mem_append.1 hx with hx | hx
          · exact hok x hx
          · rw [List.mem_singleton] at hx; rw [hx]; exact h)
        generalize l[k].1 = t' at c0 HK
        generalize l[k].2.1 = i at c1 HK
        generalize l[k].2.2 = s at c2 HK
        have HS := Lib.hid hs
        have HR := Lib.hid hr
        have HLAT := Lib.hid lat
        have l2 : Later w (wr.alloc (.cells #[.int .i64 t', .int .i64 i, .string s] 26)) := HLAT.out.alloc _
        have HL2 := Lib.hid l2
        have HS2 := Lib.hid ((HS.out.below l2).more l2.size)
        have hval := HS2.out.value
        clear hs hr lat hok l2
        by_cases he : t' = t
        · subst he
          go_wp2_with fail
          refine (may_any t' i s a0 a2 a3 a4 _ HS2.out).mono ?_
          rintro e wX ⟨r, hrm, rfl, bX⟩
          have lX := Lib.hid (HL2.out.trans (Later.of bX))
          have hv2 := (HS.out.below lX.out).value
          clear bX
          cases r with
          | true =>
            have HM := Lib.hid (HK.out ⟨by first | rfl | trivial, hrm.1 rfl⟩)
            clear hrm
            go_wp2_with fail
            go_roundw
            case rel => exact ⟨k + 1, hlt, by go_num, HM.out, lX.out⟩
            case measure => simp [intOf]; omega
          | false =>
            clear hrm hval
            go_wp2_with (go_at_call 53; refine (at_any _ _ _ _ _ rfl).mono ?_; rintro e w' ⟨rfl, rfl⟩)
            go_ret
            first
              | exact ⟨_, rfl, ⟨_, rfl⟩, lX.out.alloc _⟩
              | exact ⟨_, ⟨rfl, trivial⟩, ⟨_, rfl⟩, lX.out.alloc _⟩
        · have hbe : ((t' : Int) != t) = true := by simp [he]
          go_wp2_with (go_at_call 53; refine (at_any _ _ _ _ _ rfl).mono ?_; rintro e w' ⟨rfl, rfl⟩)
          go_ret
          exact ⟨_, rfl, ⟨_, rfl⟩, HL2.out.alloc _⟩
      · exact absurd (by rw [List.take_of_length_le (by omega)] at hok; exact hok) HO.out
  · have HT := Lib.hid (type_no t w ht ⟨a4, hs.type⟩)
    clear ho hs
    go_enter Tryd.func44, Tryd.ntmps44
    go_wp2_with fail
    refine HT.out.mono ?_
    rintro e w2 ⟨v, rfl, ⟨p, rfl⟩, L⟩
    have heq := run_eql_iface_nil (P := Tryd.prog) (w := w2) 50 hif 90 (.pointer (some p))
    go_wp2_with fail
    go_ret
    exact ⟨_, rfl, ⟨_, rfl⟩, L⟩
end Go.Proofs.YtifejanbgobngaaDoor
