/- Walks of package delta: check, write, Put. -/
import Derived.Test.YtdhaagooiioglaaDoorDeltaM
import Derived.Test.YtdhaagooiioglaaDoorLists
namespace Go.Proofs.YtdhaagooiioglaaDoor
open Go.RowKit
set_option linter.unusedVariables false

theorem deltaCheck_yes (t : Int) (w : World) (h : t = 1 ∨ t = 2) :
    Calls Tryd.prog 67 #[.int .i64 t] w fun e w' => e = .returned .nilIface ∧ w = w' := by
  rcases h with rfl | rfl
  all_goals go_enter Tryd.func67, Tryd.ntmps67
  all_goals go_wp2_with fail
  all_goals go_ret
  all_goals exact ⟨rfl, rfl⟩
theorem deltaCheck_no (t : Int) (w : World) (h : ¬ (t = 1 ∨ t = 2)) (hs : CSent w 0) :
    Calls Tryd.prog 67 #[.int .i64 t] w fun e w' => ∃ v, e = .returned v ∧ Where v ∧ Later w w' := by
  obtain ⟨a, hc⟩ := hs
  have L := Lib.hid fun o => Later.new w o
  have d1 : (t != 1) = true := by simp; omega
  have d2 : (t != 2) = true := by simp; omega
  clear h
  go_enter Tryd.func67, Tryd.ntmps67
  go_wp2_with (go_at_call 45; refine (at_any _ _ _ _ _ rfl).mono ?_; rintro e w' ⟨rfl, rfl⟩)
  go_ret
  exact ⟨_, rfl, ⟨_, rfl⟩, L.out _⟩

/-- Where write's loop stands. -/
def DInv (l : List Val3) (w : World) (bv lv iv : Value) (wr : World) : Prop :=
  ∃ (B : Option Addr) (n cb k : Nat) (p : Int), k ≤ l.length ∧ iv = .int .i64 k ∧ bv = .slice B n cb ∧ lv = .int .i64 p ∧ p = lastI 0 (l.take k) ∧ n = (stepsB 0 (l.take k)).length ∧ wr.ownsRow w.heap.size 5 1 (.slice B n cb) n (ints .u8 (stepsB 0 (l.take k))) ∧ (B = none → cb = 0) ∧ Later w wr
theorem DInv.mk {l : List Val3} {w wr : World} (B : Option Addr) (n cb k : Nat) (p i : Int) (hk : k ≤ l.length) (hi : i = (k : Int)) (hp : p = lastI 0 (l.take k)) (hn : n = (stepsB 0 (l.take k)).length) (ho : wr.ownsRow w.heap.size 5 1 (.slice B n cb) n (ints .u8 (stepsB 0 (l.take k)))) (hb : B = none → cb = 0) (lat : Later w wr) : DInv l w (.slice B n cb) (.int .i64 p) (.int .i64 i) wr := by
  subst hi; exact ⟨B, n, cb, k, p, hk, rfl, rfl, rfl, hp, hn, ho, hb, lat⟩

set_option maxRecDepth 100000 in
set_option maxHeartbeats 1000000 in
theorem deltaWrite_yes (t : Int) (A : Option Addr) (c : Nat) (l : List Val3) (w : World) (hs : S6 w) (ht : t = 1 ∨ t = 2) (hl : l.length ≤ 2000) (hr : Has w A (fl l)) (ho : OkL t l) (h64 : All64 l) :
    Calls Tryd.prog 41 #[.int .i64 t, .slice A l.length c] w (WritesB (some (stepsB 0 l)) w) := by
  obtain ⟨a0, a2, a3, a4, S⟩ := hs.sn
  have HA := Lib.hid (all_yes t A c l a0 a2 a3 a4 w S (by omega) (by omega) hr ho)
  have HC := Lib.hid (deltaCheck_yes t w ht)
  clear S hs ht ho
  go_enter Tryd.func41, Tryd.ntmps41
  go_wp2_with (go_at_call 67; refine HC.out.mono ?_; rintro e w' ⟨rfl, rfl⟩)
  refine HA.out.mono ?_
  rintro e w1 ⟨rfl, l1⟩
  have L1 := l1
  clear l1 HA HC
  go_wp2_with fail
  go_loopw [8, 9, 25] (fun bv lv i wr => DInv l w bv lv i wr) (fun _ _ i _ => l.length - (intOf i).toNat)
  case atStart => exact DInv.mk none 0 0 0 0 0 (Nat.zero_le _) rfl rfl rfl (World.ownsRow_nil _ _ _ _) (fun _ => rfl) L1
  case round =>
    obtain ⟨B, n, cb, k, p, hk, rfl, rfl, rfl, hp, hn, hown, hnil, lat⟩ := hrel
    by_cases hlt : k < l.length
    · obtain ⟨b, off, rfl, c0, c1, c2⟩ := (hr.later lat).val3 k hlt
      have hi := h64 _ (List.getElem_mem hlt)
      have HK := Lib.hid (show stepsB 0 (l.take (k + 1)) = stepsB 0 (l.take k) ++ putNum (zig (w64 (l[k].2.1 - lastI 0 (l.take k)))) by
        rw [List.take_succ_eq_append_getElem hlt, stepsB_snoc])
      have HLI := Lib.hid (show lastI 0 (l.take (k + 1)) = l[k].2.1 by rw [List.take_succ_eq_append_getElem hlt, lastI_snoc])
      have HLE := Lib.hid (stepsB_le 0 (l.take k))
      rw [← hp] at HK
      generalize l[k].1 = tt at c0
      generalize l[k].2.1 = i at c1 hi HK HLI
      generalize l[k].2.2 = s at c2
      obtain ⟨z, hz⟩ : ∃ z, z = w64 (i - p) := ⟨_, rfl⟩
      rw [← hz] at HK
      have HZI := Lib.hid (hz ▸ w64_in (i - p) : In64 z)
      have HZL := Lib.hid (hz ▸ zig_w64_lt (i - p) : zig z < 18446744073709551616)
      have HO1 := Lib.hid (putNum_le (zig z))
      have hzw : IntKind.i64.wrap (i - p) = z := hz.symm
      have HR := Lib.hid hr
      have HLAT := Lib.hid lat
      have HN := Lib.hid hn
      have HOWN := Lib.hid hown
      have HNIL := Lib.hid hnil
      have BX := Lib.hid (Blk.new wr #[.int .i64 tt, .int .i64 i, .string s] 26 _ rfl)
      have HB0 := Lib.hid (fun k hk => (hown.lt k hk).2 : ∀ k, (Value.slice B n cb).ownBlock = some k → k < wr.heap.size)
      clear hr lat hi hn hown hnil h64 hp hz
      go_wp2_with (first
        | (go_at_call 51; refine (zig_any z _ HZI.out.1 HZI.out.2).mono ?_; rintro e w' ⟨rfl, rfl⟩)
        | (go_at_call 50; refine (put_makes (zig z) HZL.out _).mono ?_; intro e w5 h; obtain ⟨P, cp, rfl, r5, b5, m5, n5, l5⟩ := Makes.gives h; have HR5 := Lib.hid r5; have HL5 := Lib.hid ((HLAT.out.alloc _).trans l5); have HW5 := Lib.hid (own_later (HOWN.out.alloc _) l5); have HN5 := Lib.hid n5; have V5 := Lib.hid (BX.out.later l5); clear h r5 b5 m5 l5 n5)
        | (at_builtin; refine wpList_append_rd _ rfl (.tmp 29) (.tmp 35) 22 rfl w.heap.size 5 (.int .u8 0) 1 Tryd.underlying22 info_u8 rfl _ n (ints .u8 (stepsB 0 (l.take k))) rfl HW5.out _ P (putNum (zig z)).length cp (ints .u8 (putNum (zig z))) rfl HR5.out ?_ HN5.out (ints_one _ _) ?_ ?_ ?_ ?_; (rw [ints_length]); (have h1 := HLE.out; have h2 := HO1.out; have h3 := HN.out; rw [List.length_take] at h1; unfold maxLen; omega); (have h1 := HLE.out; have h2 := HO1.out; have h3 := HN.out; rw [List.length_take] at h1; omega); (exact HL5.out.size); intro A2 c2 w6 o2 g2 b2 n2; have HO2 := Lib.hid o2; have HB6 := Lib.hid b2; have HN2 := Lib.hid n2; have V6 : Blk w6 wr.heap.size #[.int .i64 tt, .int .i64 i, .string s] 26 := (g2.block _ V5.out.lt (fun e => absurd (HB0.out _ e.symm) (Nat.lt_irrefl _))).trans V5.out; have c6 := V6.cell 1 _ rfl; clear o2 g2 b2 n2 V6))
      go_roundw
      case rel =>
        refine DInv.mk A2 _ c2 (k + 1) _ _ hlt (by go_num) HLI.out.symm ?_ ?_ HN2.out (Later.of (HL5.out.below.trans HB6.out))
        · rw [HK.out, List.length_append, HN.out]
        · rw [HK.out, ints_snoc]; exact HO2.out
      case measure => simp [intOf]; omega
    · obtain rfl : k = l.length := by omega
      rw [List.take_of_length_le (Nat.le_refl _)] at hn hown
      subst hn
      have HR := Lib.hid (Has.own hown)
      have H1 := Lib.hid (own_cap hown)
      have H2 := Lib.hid (own_capmax hown)
      have H3 := Lib.hid hnil
      have H4 := Lib.hid lat
      clear hown hnil lat hr h64 hp
      go_wp2_with fail
      go_ret2
      exact ⟨.inr ⟨_, _, _, rfl, rfl, HR.out, H1.out, H2.out, H3.out⟩, H4.out⟩

set_option maxRecDepth 100000 in
theorem deltaWrite_no (t : Int) (A : Option Addr) (c : Nat) (l : List Val3) (w : World) (hs : S6 w) (hl : l.length ≤ 2000) (hr : Has w A (fl l)) (ho : ¬ ((t = 1 ∨ t = 2) ∧ OkL t l)) :
    Calls Tryd.prog 41 #[.int .i64 t, .slice A l.length c] w (WritesB none w) := by
  have hif : Tryd.prog.isIface 52 = true := by kernel_rfl
  by_cases ht : t = 1 ∨ t = 2
  · obtain ⟨a0, a2, a3, a4, S⟩ := hs.sn
    have HA := Lib.hid (all_no t A c l a0 a2 a3 a4 w S (by omega) hr fun h => ho ⟨ht, h.2⟩)
    have HC := Lib.hid (deltaCheck_yes t w ht)
    clear S hs ho hr ht
    go_enter Tryd.func41, Tryd.ntmps41
    go_wp2_with (go_at_call 67; refine HC.out.mono ?_; rintro e w' ⟨rfl, rfl⟩)
    refine HA.out.mono ?_
    rintro e w1 ⟨v, rfl, ⟨p, rfl⟩, l1⟩
    have heq := run_eql_iface_nil (P := Tryd.prog) (w := w1) 52 hif 90 (.pointer (some p))
    go_wp2_with fail
    go_ret2
    exact ⟨.inl ⟨rfl, p, rfl⟩, l1⟩
  · have HC := Lib.hid (deltaCheck_no t w ht hs.type)
    clear hs ho hr ht
    go_enter Tryd.func41, Tryd.ntmps41
    go_wp2_with fail
    refine HC.out.mono ?_
    rintro e w1 ⟨v, rfl, ⟨p, rfl⟩, l1⟩
    have heq := run_eql_iface_nil (P := Tryd.prog) (w := w1) 52 hif 90 (.pointer (some p))
    go_wp2_with fail
    go_ret2
    exact ⟨.inl ⟨rfl, p, rfl⟩, l1⟩

theorem deltaWrite_any (t : Int) (A : Option Addr) (c : Nat) (l : List Val3) (w : World) (hs : S6 w) (hl : l.length ≤ 2000) (hr : Has w A (fl l)) (h64 : All64 l) :
    Calls Tryd.prog 41 #[.int .i64 t, .slice A l.length c] w (WritesB (putD t l) w) := by
  unfold putD
  by_cases h : (t = 1 ∨ t = 2) ∧ OkL t l
  · rw [if_pos h]; exact deltaWrite_yes t A c l w hs h.1 hl hr h.2 h64
  · rw [if_neg h]; exact deltaWrite_no t A c l w hs hl hr h

set_option maxRecDepth 100000 in
theorem deltaPut_any (t : Int) (A : Option Addr) (c : Nat) (l : List Val3) (w : World) (hs : S6 w) (hl : l.length ≤ 2000) (hr : Has w A (fl l)) (h64 : All64 l) :
    Calls Tryd.prog 24 #[.int .i64 t, .slice A l.length c] w (PutsB (putD t l) w) := by
  have HC := Lib.hid (deltaWrite_any t A c l w hs hl hr h64)
  clear hs hr h64 hl
  go_enter Tryd.func24, Tryd.ntmps24
  go_wp2_with fail
  refine HC.out.mono ?_
  rintro e w1 ⟨⟨ho, p, rfl⟩ | ⟨b, B, cb, ho, rfl, h1, h2, h3, h4⟩, l1⟩
  · go_wp2_with (go_at_call 28; refine (listB_no _ _ _ p _).mono ?_; rintro e w' ⟨rfl, rfl⟩)
    go_ret2
    exact ⟨.inl ⟨ho, rfl⟩, l1⟩
  · have H := Lib.hid (show PutsB (putD t l) w (.returned (.tuple #[.slice B b.length cb, .bool true])) w1 from ⟨.inr ⟨b, B, cb, ho, rfl, h1, h2, h3, h4⟩, l1⟩)
    clear ho h1 h2 h3 h4 l1
    go_wp2_with (go_at_call 28; refine (listB_yes _ _ _ _).mono ?_; rintro e w' ⟨rfl, rfl⟩)
    go_ret2
    exact H.out
end Go.Proofs.YtdhaagooiioglaaDoor
