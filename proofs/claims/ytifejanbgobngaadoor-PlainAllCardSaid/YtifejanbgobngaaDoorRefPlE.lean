/- The walk of the reference's Encode of plain. -/
import Derived.Test.YtifejanbgobngaaDoorRefL
namespace Go.Proofs.YtifejanbgobngaaDoor
open Go.RowKit
set_option linter.unusedVariables false

/-- What Encode tells of bytes that it has: they are its own. -/
def OwnB (pb : List Nat) (w : World) (e : Ending) (w' : World) : Prop :=
  ∃ A c, e = .returned (.tuple #[.slice A pb.length c, .bool true]) ∧ w'.ownsRow w.heap.size 5 1 (.slice A pb.length c) pb.length (ints .u8 pb) ∧ (A = none → c = 0) ∧ Later w w'
theorem OwnB.puts {pb : List Nat} {w w' : World} {e : Ending} (h : OwnB pb w e w') : PutsB (some pb) w e w' := by
  obtain ⟨A, c, rfl, ho, hn, l⟩ := h
  exact ⟨.inr ⟨pb, A, c, rfl, rfl, Has.own ho, own_cap ho, own_capmax ho, hn⟩, l⟩

set_option maxRecDepth 100000 in
set_option maxHeartbeats 1000000 in
theorem refEncP_yes (t : Int) (A : Option Addr) (c : Nat) (l : List Val3) (w : World) (ht : 1 ≤ t ∧ t ≤ 4) (hl : l.length ≤ 2000) (hr : Has w A (fl l)) (ho : OkL t l) (h64 : All64 l) :
    Calls Tryd.prog 15 #[.int .i64 1, .int .i64 t, .slice A l.length c] w (OwnB (plainB l) w) := by
  have HA := Lib.hid (refRight_any t A c l w hl hr)
  have HT := Lib.hid ht
  have HOK := Lib.hid ho
  clear ht
  go_enter Tryd.func15, Tryd.ntmps15
  go_wp2_with fail
  refine HA.out.mono ?_
  intro e w1 h
  obtain ⟨rfl, L1⟩ := h.yes ⟨HT.out, HOK.out⟩
  clear h HA
  go_wp2_with fail
  go_loopw [8, 9] (fun bv i wr => ∃ (B : Option Addr) (n cb k : Nat), k ≤ l.length ∧ i = .int .i64 k ∧ bv = .slice B n cb ∧ n = (plainB (l.take k)).length ∧ wr.ownsRow w.heap.size 5 1 (.slice B n cb) n (ints .u8 (plainB (l.take k))) ∧ (B = none → cb = 0) ∧ Later w wr) (fun _ i _ => l.length - (intOf i).toNat)
  case atStart => exact ⟨none, 0, 0, 0, Nat.zero_le _, rfl, rfl, rfl, World.ownsRow_nil _ _ _ _, fun _ => rfl, L1⟩
  case round =>
    obtain ⟨B, n, cb, k, hk, rfl, rfl, hn, hown, hnil, lat⟩ := hrel
    by_cases hlt : k < l.length
    · obtain ⟨b, off, rfl, c0, c1, c2⟩ := (hr.later lat).val3 k hlt
      obtain ⟨hx, hm⟩ := ho _ (List.getElem_mem hlt)
      have hi := h64 _ (List.getElem_mem hlt)
      have HK := Lib.hid (show plainB (l.take (k + 1)) = plainB (l.take k) ++ oneB l[k].1 l[k].2.1 l[k].2.2 by
        rw [List.take_succ_eq_append_getElem hlt, plainB_append]; simp [plainB])
      have HLE := Lib.hid (plainB_le (t := t) (l := l.take k) fun x hx => ho x (List.mem_of_mem_take hx))
      have HO1 := Lib.hid (oneB_le hm)
      rw [hx] at c0 hm HK HO1
      generalize l[k].2.1 = i at c1 hm hi HK HO1
      generalize l[k].2.2 = s at c2 hm HK HO1
      have HM := Lib.hid hm
      have HI := Lib.hid hi
      have HR := Lib.hid hr
      have HLAT := Lib.hid lat
      have HN := Lib.hid hn
      have HOWN := Lib.hid hown
      have HNIL := Lib.hid hnil
      clear hm hr lat hx ho hi hn hown hnil h64 L1
      go_wp2_with (first
        | (go_at_call 31; refine (refOne_any t i s _ HT.out HM.out HI.out).mono ?_; rintro e w5 ⟨P, cp, rfl, r5, b5, m5, n5, l5⟩; have HR5 := Lib.hid r5; have HL5 := Lib.hid (HLAT.out.trans l5); have HW5 := Lib.hid (own_later HOWN.out l5); have HN5 := Lib.hid n5; clear r5 b5 m5 l5 n5)
        | (at_builtin; refine wpList_append_rd _ rfl (.tmp 48) (.tmp 53) 22 rfl w.heap.size 5 (.int .u8 0) 1 Tryd.underlying22 info_u8 rfl _ n (ints .u8 (plainB (l.take k))) rfl HW5.out _ P (oneB t i s).length cp (ints .u8 (oneB t i s)) rfl HR5.out ?_ HN5.out (ints_one _ _) ?_ ?_ ?_ ?_; (rw [ints_length]); (have h1 := HLE.out; have h2 := HO1.out; have h3 := HN.out; rw [List.length_take] at h1; unfold maxLen; omega); (have h1 := HLE.out; have h2 := HO1.out; have h3 := HN.out; rw [List.length_take] at h1; omega); (exact HL5.out.size); intro A2 c2 w6 o2 g2 b2 n2; have HO2 := Lib.hid o2; have HB6 := Lib.hid b2; have HN2 := Lib.hid n2; clear o2 g2 b2 n2))
      go_roundw
      case rel =>
        refine ⟨A2, _, c2, k + 1, hlt, by go_num, rfl, ?_, ?_, HN2.out, Later.of (HL5.out.below.trans HB6.out)⟩
        · rw [HK.out, List.length_append, HN.out]
        · rw [HK.out, ints_snoc]; exact HO2.out
      case measure => simp [intOf]; omega
    · obtain rfl : k = l.length := by omega
      rw [List.take_of_length_le (Nat.le_refl _)] at hn hown
      subst hn
      have HR := Lib.hid hown
      have H3 := Lib.hid hnil
      have H4 := Lib.hid lat
      clear hown hnil lat hr ho h64 L1
      go_wp2_with fail
      go_ret2
      exact ⟨_, _, rfl, HR.out, H3.out, H4.out⟩

set_option maxRecDepth 100000 in
theorem refEnc_no (en t : Int) (A : Option Addr) (c : Nat) (l : List Val3) (w : World) (hl : l.length ≤ 2000) (hr : Has w A (fl l)) (ho : ¬ ((1 ≤ t ∧ t ≤ 4) ∧ OkL t l)) :
    Calls Tryd.prog 15 #[.int .i64 en, .int .i64 t, .slice A l.length c] w (PutsB none w) := by
  have HA := Lib.hid (refRight_any t A c l w hl hr)
  have HO := Lib.hid ho
  clear ho hr
  go_enter Tryd.func15, Tryd.ntmps15
  go_wp2_with fail
  refine HA.out.mono ?_
  intro e w1 h
  obtain ⟨rfl, L1⟩ := h.no HO.out
  clear h HA
  go_wp2_with fail
  go_ret2
  exact ⟨.inl ⟨rfl, rfl⟩, L1⟩

theorem refEncP_any (t : Int) (A : Option Addr) (c : Nat) (l : List Val3) (w : World) (hl : l.length ≤ 2000) (hr : Has w A (fl l)) (h64 : All64 l) :
    Calls Tryd.prog 15 #[.int .i64 1, .int .i64 t, .slice A l.length c] w (PutsB (putP t l) w) := by
  unfold putP
  by_cases h : (1 ≤ t ∧ t ≤ 4) ∧ OkL t l
  · rw [if_pos h]; exact (refEncP_yes t A c l w h.1 hl hr h.2 h64).mono fun _ _ h => h.puts
  · rw [if_neg h]; exact refEnc_no 1 t A c l w hl hr h
theorem refEncP_own (t : Int) (A : Option Addr) (c : Nat) (l : List Val3) (pb : List Nat) (w : World) (hl : l.length ≤ 2000) (hr : Has w A (fl l)) (h64 : All64 l) (hp : putP t l = some pb) :
    Calls Tryd.prog 15 #[.int .i64 1, .int .i64 t, .slice A l.length c] w (OwnB pb w) := by
  obtain ⟨h1, h2, rfl⟩ := putP_is hp
  exact refEncP_yes t A c l w h1 hl hr h2 h64
end Go.Proofs.YtifejanbgobngaaDoor
