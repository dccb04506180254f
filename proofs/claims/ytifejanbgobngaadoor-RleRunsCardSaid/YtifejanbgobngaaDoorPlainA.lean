/- Walks of fault.List; of package plain: write, Put. -/
import Derived.Test.YtifejanbgobngaaDoorCellG
import Derived.Test.YtifejanbgobngaaDoorAppendG
namespace Go.Proofs.YtifejanbgobngaaDoor
open Go.RowKit
set_option linter.unusedVariables false

instance (t : Int) (l : List Val3) : Decidable (OkL t l) := by unfold OkL; infer_instance
theorem own_later {w w' : World} {base : Nat} {e : TypeId} {k : Nat} {v : Value} {n : Nat} {xs : List Value} (h : w.ownsRow base e k v n xs) (l : Later w w') : w'.ownsRow base e k v n xs := by
  obtain ⟨h1, h2⟩ := h
  refine ⟨h1, ?_⟩
  rcases h2 with h2 | ⟨g, cap, cur, ha, hb, hg, hrest⟩
  · exact .inl h2
  · refine .inr ⟨g, cap, cur, ha, hb, (Below.block l g ?_).trans hg, hrest⟩
    rcases Nat.lt_or_ge g w.heap.size with h' | h'
    · exact h'
    · rw [Array.getElem?_eq_none h'] at hg; cases hg

/-- What a call tells that gives a list, or an error. -/
def WritesB (o : Option (List Nat)) (w : World) (e : Ending) (w' : World) : Prop :=
  ((o = none ∧ ∃ p, e = .returned (.tuple #[.slice none 0 0, .iface 90 (.pointer (some p))])) ∨
    ∃ l A c, o = some l ∧ e = .returned (.tuple #[.slice A l.length c, .nilIface]) ∧ Has w' A (ints .u8 l) ∧ l.length ≤ c ∧ c ≤ 9223372036854775807 ∧ (A = none → c = 0)) ∧ Later w w'
def WritesV (o : Option (List Val3)) (w : World) (e : Ending) (w' : World) : Prop :=
  ((o = none ∧ ∃ p, e = .returned (.tuple #[.slice none 0 0, .iface 90 (.pointer (some p))])) ∨
    ∃ l A c, o = some l ∧ e = .returned (.tuple #[.slice A l.length c, .nilIface]) ∧ Has w' A (fl l)) ∧ Later w w'
/-- What a face tells: a list, or a no. -/
def PutsB (o : Option (List Nat)) (w : World) (e : Ending) (w' : World) : Prop :=
  ((o = none ∧ e = .returned (.tuple #[.slice none 0 0, .bool false])) ∨
    ∃ l A c, o = some l ∧ e = .returned (.tuple #[.slice A l.length c, .bool true]) ∧ Has w' A (ints .u8 l) ∧ l.length ≤ c ∧ c ≤ 9223372036854775807 ∧ (A = none → c = 0)) ∧ Later w w'
def PutsV (o : Option (List Val3)) (w : World) (e : Ending) (w' : World) : Prop :=
  ((o = none ∧ e = .returned (.tuple #[.slice none 0 0, .bool false])) ∨
    ∃ l A c, o = some l ∧ e = .returned (.tuple #[.slice A l.length c, .bool true]) ∧ Has w' A (fl l)) ∧ Later w w'
theorem PutsB.no {o : Option (List Nat)} {w w' : World} {e : Ending} (h : PutsB o w e w') (hn : o = none) : e = .returned (.tuple #[.slice none 0 0, .bool false]) ∧ Later w w' := by
  obtain ⟨⟨_, h⟩ | ⟨l, A, c, h, _⟩, L⟩ := h
  · exact ⟨h, L⟩
  · rw [hn] at h; cases h
theorem PutsB.yes {o : Option (List Nat)} {w w' : World} {e : Ending} {l : List Nat} (h : PutsB o w e w') (hs : o = some l) : ∃ A c, e = .returned (.tuple #[.slice A l.length c, .bool true]) ∧ Has w' A (ints .u8 l) ∧ l.length ≤ c ∧ c ≤ 9223372036854775807 ∧ (A = none → c = 0) ∧ Later w w' := by
  obtain ⟨⟨h, _⟩ | ⟨l', A, c, h, h1, h2, h3, h4, h5⟩, L⟩ := h
  · rw [hs] at h; cases h
  · rw [hs] at h; cases h; exact ⟨A, c, h1, h2, h3, h4, h5, L⟩
theorem PutsV.no {o : Option (List Val3)} {w w' : World} {e : Ending} (h : PutsV o w e w') (hn : o = none) : e = .returned (.tuple #[.slice none 0 0, .bool false]) ∧ Later w w' := by
  obtain ⟨⟨_, h⟩ | ⟨l, A, c, h, _⟩, L⟩ := h
  · exact ⟨h, L⟩
  · rw [hn] at h; cases h
theorem PutsV.yes {o : Option (List Val3)} {w w' : World} {e : Ending} {l : List Val3} (h : PutsV o w e w') (hs : o = some l) : ∃ A c, e = .returned (.tuple #[.slice A l.length c, .bool true]) ∧ Has w' A (fl l) ∧ Later w w' := by
  obtain ⟨⟨h, _⟩ | ⟨l', A, c, h, h1, h2⟩, L⟩ := h
  · rw [hs] at h; cases h
  · rw [hs] at h; cases h; exact ⟨A, c, h1, h2, L⟩

theorem listB_yes (A : Option Addr) (n c : Nat) (w : World) : Calls Tryd.prog 27 #[.slice A n c, .nilIface] w fun e w' => e = .returned (.tuple #[.slice A n c, .bool true]) ∧ w = w' := by
  go_enter Tryd.func27, Tryd.ntmps27
  go_wp2_with fail
  go_ret2
  exact ⟨rfl, rfl⟩
theorem listB_no (A : Option Addr) (n c : Nat) (p : Addr) (w : World) : Calls Tryd.prog 27 #[.slice A n c, .iface 90 (.pointer (some p))] w fun e w' => e = .returned (.tuple #[.slice none 0 0, .bool false]) ∧ w = w' := by
  have hif : Tryd.prog.isIface 50 = true := by kernel_rfl
  have heq := run_eql_iface_nil (P := Tryd.prog) (w := w) 50 hif 90 (.pointer (some p))
  go_enter Tryd.func27, Tryd.ntmps27
  go_wp2_with fail
  go_ret2
  exact ⟨rfl, rfl⟩
theorem listV_yes (A : Option Addr) (n c : Nat) (w : World) : Calls Tryd.prog 36 #[.slice A n c, .nilIface] w fun e w' => e = .returned (.tuple #[.slice A n c, .bool true]) ∧ w = w' := by
  go_enter Tryd.func36, Tryd.ntmps36
  go_wp2_with fail
  go_ret2
  exact ⟨rfl, rfl⟩
theorem listV_no (A : Option Addr) (n c : Nat) (p : Addr) (w : World) : Calls Tryd.prog 36 #[.slice A n c, .iface 90 (.pointer (some p))] w fun e w' => e = .returned (.tuple #[.slice none 0 0, .bool false]) ∧ w = w' := by
  have hif : Tryd.prog.isIface 50 = true := by kernel_rfl
  have heq := run_eql_iface_nil (P := Tryd.prog) (w := w) 50 hif 90 (.pointer (some p))
  go_enter Tryd.func36, Tryd.ntmps36
  go_wp2_with fail
  go_ret2
  exact ⟨rfl, rfl⟩

/-- The bytes of a list of type t. -/
def putP (t : Int) (l : List Val3) : Option (List Nat) := if (1 ≤ t ∧ t ≤ 4) ∧ OkL t l then some (plainB l) else none

set_option maxRecDepth 100000 in
set_option maxHeartbeats 1000000 in
theorem plainWrite_yes (t : Int) (A : Option Addr) (c : Nat) (l : List Val3) (w : World) (hs : S6 w) (ht : 1 ≤ t ∧ t ≤ 4) (hl : l.length ≤ 2000) (hr : Has w A (fl l)) (ho : OkL t l) (h64 : All64 l) :
    Calls Tryd.prog 28 #[.int .i64 t, .slice A l.length c] w (WritesB (some (plainB l)) w) := by
  obtain ⟨a0, a2, a3, a4, S⟩ := hs.sn
  have HA := Lib.hid (all_yes t A c l a0 a2 a3 a4 w S ht (by omega) hr ho)
  have HT := Lib.hid ht
  clear S hs ht
  go_enter Tryd.func28, Tryd.ntmps28
  go_wp2_with fail
  refine HA.out.mono ?_
  rintro e w1 ⟨rfl, l1⟩
  have L1 := l1
  clear l1 HA
  go_wp2_with fail
  go_loopw [7, 18] (fun bv i wr => ∃ (B : Option Addr) (n cb k : Nat), k ≤ l.length ∧ i = .int .i64 k ∧ bv = .slice B n cb ∧ n = (plainB (l.take k)).length ∧ wr.ownsRow w.heap.size 5 1 (.slice B n cb) n (ints .u8 (plainB (l.take k))) ∧ (B = none → cb = 0) ∧ Later w wr) (fun _ i _ => l.length - (intOf i).toNat)
  case atStart => exact ⟨none, 0, 0, 0, Nat.zero_le _, rfl, rfl, rfl, World.ownsRow_nil _ _ _ _, fun _ => rfl, L1⟩
  case round =>
    obtain ⟨B, n, cb, k, hk, rfl, rfl, hn, hown, hnil, lat⟩ := hrel
    by_cases hlt : k < l.length
    · obtain ⟨b, off, rfl, c0, c1, c2⟩ := (hr.later lat).val3 k hlt
      obtain ⟨hx, hm⟩ := ho _ (List.getElem_mem hlt)
      have hi := h64 _ (List.getElem_mem hlt)
      have HK := Lib.hid (show plainB (l.take (k + 1)) = plainB (l.take k) ++ oneB l[k].1 l[k].2.1 l[k].2.2 by
        rw [List.take_succ_eq_append_getElem hlt, plainB_append]; simp [plainB])
      have HLE := Lib.hid (plainB_le (t := t) (l := l.take k) fun x hx => ho x (List.mem_of_mem_take hx))
      have HO1 := Lib.hid (oneB_le hm)
      rw [hx] at c0 hm HK HO1
      generalize l[k].2.1 = i at c1 hm hi HK HO1
      generalize l[k].2.2 = s at c2 hm HK HO1
      have HM := Lib.hid hm
      have HI := Lib.hid hi
      have HR := Lib.hid hr
      have HLAT := Lib.hid lat
      have HN := Lib.hid hn
      have HOWN := Lib.hid hown
      have HNIL := Lib.hid hnil
      clear hm hr lat hx ho hi hn hown hnil h64
      go_wp2_with (first
        | (go_at_call 45; refine (cellPut_any t i s _ HT.out HM.out HI.out).mono ?_; rintro e w5 ⟨P, cp, rfl, r5, b5, m5, n5, l5⟩; have HR5 := Lib.hid r5; have HL5 := Lib.hid ((HLAT.out.alloc _).trans l5); have HW5 := Lib.hid (own_later (HOWN.out.alloc _) l5); have HN5 := Lib.hid n5; clear r5 b5 m5 l5 n5)
        | (at_builtin; refine wpList_append_rd _ rfl (.tmp 22) (.tmp 24) 22 rfl w.heap.size 5 (.int .u8 0) 1 Tryd.underlying22 info_u8 rfl _ n (ints .u8 (plainB (l.take k))) rfl HW5.out _ P (oneB t i s).length cp (ints .u8 (oneB t i s)) rfl HR5.out ?_ HN5.out (ints_one _ _) ?_ ?_ ?_ ?_; (rw [ints_length]); (have h1 := HLE.out; have h2 := HO1.out; have h3 := HN.out; rw [List.length_take] at h1; unfold maxLen; omega); (have h1 := HLE.out; have h2 := HO1.out; have h3 := HN.out; rw [List.length_take] at h1; omega); (exact HL5.out.size); intro A2 c2 w6 o2 g2 b2 n2; have HO2 := Lib.hid o2; have HB6 := Lib.hid b2; have HN2 := Lib.hid n2; clear o2 g2 b2 n2))
      go_roundw
      case rel =>
        refine ⟨A2, _, c2, k + 1, hlt, by go_num, rfl, ?_, ?_, HN2.out, Later.of (HL5.out.below.trans HB6.out)⟩
        · rw [HK.out, List.length_append, HN.out]
        · rw [HK.out, ints_snoc]; exact HO2.out
      case measure => simp [intOf]; omega
    · obtain rfl : k = l.length := by omega
      rw [List.take_of_length_le (Nat.le_refl _)] at hn hown
      subst hn
      have HR := Lib.hid (Has.own hown)
      have H1 := Lib.hid (own_cap hown)
      have H2 := Lib.hid (own_capmax hown)
      have H3 := Lib.hid hnil
      have H4 := Lib.hid lat
      clear hown hnil lat hr ho h64
      go_wp2_with fail
      go_ret2
      exact ⟨.inr ⟨_, _, _, rfl, rfl, HR.out, H1.out, H2.out, H3.out⟩, H4.out⟩

set_option maxRecDepth 100000 in
theorem plainWrite_no (t : Int) (A : Option Addr) (c : Nat) (l : List Val3) (w : World) (hs : S6 w) (hl : l.length ≤ 2000) (hr : Has w A (fl l)) (ho : ¬ ((1 ≤ t ∧ t ≤ 4) ∧ OkL t l)) :
    Calls Tryd.prog 28 #[.int .i64 t, .slice A l.length c] w (WritesB none w) := by
  have hif : Tryd.prog.isIface 50 = true := by kernel_rfl
  obtain ⟨a0, a2, a3, a4, S⟩ := hs.sn
  have HA := Lib.hid (all_no t A c l a0 a2 a3 a4 w S (by omega) hr ho)
  clear S hs ho hr
  go_enter Tryd.func28, Tryd.ntmps28
  go_wp2_with fail
  refine HA.out.mono ?_
  rintro e w1 ⟨v, rfl, ⟨p, rfl⟩, l1⟩
  have heq := run_eql_iface_nil (P := Tryd.prog) (w := w1) 50 hif 90 (.pointer (some p))
  go_wp2_with fail
  go_ret2
  exact ⟨.inl ⟨rfl, p, rfl⟩, l1⟩

theorem plainWrite_any (t : Int) (A : Option Addr) (c : Nat) (l : List Val3) (w : World) (hs : S6 w) (hl : l.length ≤ 2000) (hr : Has w A (fl l)) (h64 : All64 l) :
    Calls Tryd.prog 28 #[.int .i64 t, .slice A l.length c] w (WritesB (putP t l) w) := by
  unfold putP
  by_cases h : (1 ≤ t ∧ t ≤ 4) ∧ OkL t l
  · rw [if_pos h]; exact plainWrite_yes t A c l w hs h.1 hl hr h.2 h64
  · rw [if_neg h]; exact plainWrite_no t A c l w hs hl hr h

set_option maxRecDepth 100000 in
theorem plainPut_any (t : Int) (A : Option Addr) (c : Nat) (l : List Val3) (w : World) (hs : S6 w) (hl : l.length ≤ 2000) (hr : Has w A (fl l)) (h64 : All64 l) :
    Calls Tryd.prog 14 #[.int .i64 t, .slice A l.length c] w (PutsB (putP t l) w) := by
  have HC := Lib.hid (plainWrite_any t A c l w hs hl hr h64)
  clear hs hr h64 hl
  go_enter Tryd.func14, Tryd.ntmps14
  go_wp2_with fail
  refine HC.out.mono ?_
  rintro e w1 ⟨⟨ho, p, rfl⟩ | ⟨b, B, cb, ho, rfl, h1, h2, h3, h4⟩, l1⟩
  · go_wp2_with (go_at_call 27; refine (listB_no _ _ _ p _).mono ?_; rintro e w' ⟨rfl, rfl⟩)
    go_ret2
    exact ⟨.inl ⟨ho, rfl⟩, l1⟩
  · have H := Lib.hid (show PutsB (putP t l) w (.returned (.tuple #[.slice B b.length cb, .bool true])) w1 from ⟨.inr ⟨b, B, cb, ho, rfl, h1, h2, h3, h4⟩, l1⟩)
    clear ho h1 h2 h3 h4 l1
    go_wp2_with (go_at_call 27; refine (listB_yes _ _ _ _).mono ?_; rintro e w' ⟨rfl, rfl⟩)
    go_ret2
    exact H.out
end Go.Proofs.YtifejanbgobngaaDoor
