/- The walk of the reference's Encode by steps. -/
import Derived.Test.YtdhaagooiioglaaDoorRefL
import Derived.Test.YtdhaagooiioglaaDoorDeltaM
import Derived.Test.YtdhaagooiioglaaDoorBase
import Derived.BigQuiet
namespace Go.Proofs.YtdhaagooiioglaaDoor
open Go.RowKit
set_option linter.unusedVariables false

/-- Where Encode's loop stands. -/
def EDInv (l : List Val3) (w : World) (bv iv : Value) (wr : World) : Prop :=
  ∃ (B : Option Addr) (n cb k : Nat), k ≤ l.length ∧ iv = .int .i64 k ∧ bv = .slice B n cb ∧ n = (stepsB 0 (l.take k)).length ∧ wr.ownsRow w.heap.size 5 1 (.slice B n cb) n (ints .u8 (stepsB 0 (l.take k))) ∧ (B = none → cb = 0) ∧ Later w wr
theorem EDInv.mk {l : List Val3} {w wr : World} (B : Option Addr) (n cb k : Nat) (i : Int) (hk : k ≤ l.length) (hi : i = (k : Int)) (hn : n = (stepsB 0 (l.take k)).length) (ho : wr.ownsRow w.heap.size 5 1 (.slice B n cb) n (ints .u8 (stepsB 0 (l.take k)))) (hb : B = none → cb = 0) (lat : Later w wr) : EDInv l w (.slice B n cb) (.int .i64 i) wr := by
  subst hi; exact ⟨B, n, cb, k, hk, rfl, rfl, hn, ho, hb, lat⟩

set_option maxRecDepth 100000 in
set_option maxHeartbeats 2000000 in
theorem refEncD_yes (t : Int) (A : Option Addr) (c m : Nat) (l : List Val3) (w : World) (hm : m = l.length) (ht : t = 1 ∨ t = 2) (hl : m ≤ 2000) (hr : Has w A (fl l)) (ho : OkL t l) (h64 : All64 l) :
    Calls Tryd.prog 16 #[.int .i64 5, .int .i64 t, .slice A m c] w (OwnB (stepsB 0 l) w) := by
  have HA := Lib.hid (refRight_any t A c l w (by omega) hr)
  rw [← hm] at HA
  have HT := Lib.hid ht
  have HOK := Lib.hid ho
  have H64 := Lib.hid h64
  have HHAS := Lib.hid hr
  have HML := Lib.hid hm
  have HTD : (t = 1 ∧ (t != 1) = false) ∨ (t = 2 ∧ (t != 1) = true ∧ (t != 2) = false) := by
    rcases ht with rfl | rfl
    · exact .inl ⟨rfl, rfl⟩
    · exact .inr ⟨rfl, rfl, rfl⟩
  have HD := Lib.hid HTD
  clear ht ho h64 hr hm HTD
  go_enter Tryd.func16, Tryd.ntmps16
  go_wp2_with fail
  refine HA.out.mono ?_
  intro e w1 h
  obtain ⟨rfl, l1⟩ := h.yes ⟨by have := HT.out; omega, HOK.out⟩
  have L1 := Lib.hid l1
  clear h HA l1
  rcases HD.out with ⟨ht1, d1⟩ | ⟨ht1, d1, d2⟩
  all_goals have HT1 := Lib.hid ht1
  all_goals clear ht1 HD
  all_goals go_wp2_with fail
  all_goals go_loopw [8, 12] (fun bv iv wr => EDInv l w bv iv wr) (fun _ iv _ => m - (intOf iv).toNat)
  case atStart => exact EDInv.mk none 0 0 0 0 (Nat.zero_le _) rfl rfl (World.ownsRow_nil _ _ _ _) (fun _ => rfl) L1.out
  case atStart => exact EDInv.mk none 0 0 0 0 (Nat.zero_le _) rfl rfl (World.ownsRow_nil _ _ _ _) (fun _ => rfl) L1.out
  all_goals case round =>
    obtain ⟨B, n, cb, k, hk, rfl, rfl, hn, hown, hnil, lat⟩ := hrel
    by_cases hlt : k < l.length
    · obtain ⟨b, off, rfl, c0, c1, c2⟩ := HHAS.out.val3 k hlt
      have hi := H64.out _ (List.getElem_mem hlt)
      have HK := Lib.hid (show stepsB 0 (l.take (k + 1)) = stepsB 0 (l.take k) ++ putNum (zig (w64 (l[k].2.1 - lastI 0 (l.take k)))) by
        rw [List.take_succ_eq_append_getElem hlt, stepsB_snoc])
      have HLE := Lib.hid (stepsB_le 0 (l.take k))
      obtain ⟨x, hx⟩ : ∃ x, x = l[k] := ⟨_, rfl⟩
      rw [← hx] at c0 c1 c2 hi HK
      clear hx
      have HKM := Lib.hid (show k < m by have := HML.out; omega)
      have hkm : (k : Int) < (m : Int) := by have := HML.out; omega
      have hk0 : (0 : Int) ≤ (k : Int) := by omega
      obtain ⟨z, hz⟩ : ∃ z, z = w64 (x.2.1 - lastI 0 (l.take k)) := ⟨_, rfl⟩
      have HZI := Lib.hid (hz ▸ w64_in (x.2.1 - lastI 0 (l.take k)) : In64 z)
      have HZL := Lib.hid (hz ▸ zig_w64_lt (x.2.1 - lastI 0 (l.take k)) : zig z < 18446744073709551616)
      have HO1 := Lib.hid (putNum_le (zig z))
      rw [← hz] at HK
      have HHK := Lib.hid hlt
      have HLAT := Lib.hid lat
      have HN := Lib.hid hn
      have HOWN := Lib.hid hown
      have HNIL := Lib.hid hnil
      have e1 := lat.cell c1
      have hd : decide ((k : Int) < (m : Int)) = true := decide_eq_true hkm
      by_cases h0 : k = 0
      · have hzi : z = x.2.1 := by
          have h00 : lastI 0 (l.take k) = 0 := by rw [h0]; rfl
          rw [hz, h00, Int.sub_zero]
          exact w64_of hi
        have d0 : decide ((0 : Int) < (k : Int)) = false := by simp; omega
        have d0n : decide (0 < k) = false := by simp; omega
        have d0m : ¬ 0 < k := by omega
        rw [← hzi] at e1
        clear lat hn hown hnil hz hzi c0 c1 c2 h0 hi hlt hk
        go_wp2_with (first
          | (go_at_call 36; refine (refZig_any z _ HZI.out.1 HZI.out.2).mono ?_; rintro e w' ⟨rfl, rfl⟩)
          | (go_at_call 33; refine (refPut_makes (zig z) HZL.out _).mono ?_; intro e w5 h; obtain ⟨P, cp, rfl, r5, b5, m5, n5, l5⟩ := Makes.gives h; have HR5 := Lib.hid r5; have HL5 := Lib.hid (HLAT.out.trans l5); have HW5 := Lib.hid (own_later HOWN.out l5); have HN5 := Lib.hid n5; clear h r5 b5 m5 l5 n5)
          | (at_builtin; refine wpList_append_rd _ rfl (.tmp 131) (.tmp 134) 22 rfl w.heap.size 5 (.int .u8 0) 1 Tryd.underlying22 info_u8 rfl _ n (ints .u8 (stepsB 0 (l.take k))) rfl HW5.out _ P (putNum (zig z)).length cp (ints .u8 (putNum (zig z))) rfl HR5.out ?_ HN5.out (ints_one _ _) ?_ ?_ ?_ ?_; (rw [ints_length]); (have h1 := HLE.out; have h2 := HO1.out; have h3 := HN.out; rw [List.length_take] at h1; unfold maxLen; omega); (have h1 := HLE.out; have h2 := HO1.out; have h3 := HN.out; rw [List.length_take] at h1; omega); (exact HL5.out.size); intro A2 c2 w6 o2 g2 b2 n2; have HO2 := Lib.hid o2; have HB6 := Lib.hid b2; have HN2 := Lib.hid n2; clear o2 g2 b2 n2))
        go_roundw
        case rel =>
          refine EDInv.mk A2 _ c2 (k + 1) _ HHK.out (by go_num) ?_ ?_ HN2.out (Later.of (HL5.out.below.trans HB6.out))
          · rw [HK.out, List.length_append, HN.out]
          · rw [HK.out, ints_snoc]; exact HO2.out
        case measure => simp [intOf]; omega
      · obtain ⟨j, hj⟩ : ∃ j, k = j + 1 := ⟨k - 1, by omega⟩
        have hjl : j < l.length := by omega
        obtain ⟨b', off', hadr, f0, f1, f2⟩ := HHAS.out.val3 j hjl
        obtain ⟨rfl, rfl⟩ : b = b' ∧ off = off' := by injection hadr with h; injection h with h1 h2; exact ⟨h1, h2⟩
        have hlast : lastI 0 (l.take k) = l[j].2.1 := by
          subst hj
          rw [List.take_succ_eq_append_getElem hjl, lastI_snoc]
        have e2 := lat.cell f1
        rw [hlast] at hz
        generalize x.2.1 = i at e1 hz
        generalize l[j].2.1 = p at e2 hz
        have hzw : IntKind.i64.wrap (i - p) = z := hz.symm
        have hjk : (k : Int) - 1 = (j : Int) := by omega
        have hjw : IntKind.i64.wrap ((k : Int) - 1) = (j : Int) := by rw [hjk]; exact IntWalk.i64_in _ ⟨by omega, by omega⟩
        have hj0 : (0 : Int) ≤ (j : Int) := by omega
        have hjm : (j : Int) < (m : Int) := by omega
        have d0 : decide ((0 : Int) < (k : Int)) = true := decide_eq_true (by omega)
        have d0n : decide (0 < k) = true := decide_eq_true (by omega)
        have d0m : 0 < k := by omega
        have HKJ := Lib.hid hj
        clear lat hn hown hnil hz c0 c1 c2 f0 f1 f2 h0 hi hlt hk hadr hlast hjl hj hjk
        go_wp2_with fail
        go_quiet (fail)
        rename_i nq
        obtain ⟨wz, hwz⟩ : ∃ wz, wz = wr.drewN nq := ⟨_, rfl⟩
        have LZ := Lib.hid (show Later w wz from hwz ▸ (HLAT.out.drewN nq))
        have OZ := Lib.hid (own_later HOWN.out (show Later wr wz from hwz ▸ ((Later.refl _).drewN nq)))
        rw [← hwz]
        clear hwz e1 e2
        go_wp2_with (first
          | (go_at_call 36; refine (refZig_any z _ HZI.out.1 HZI.out.2).mono ?_; rintro e w' ⟨rfl, rfl⟩)
          | (go_at_call 33; refine (refPut_makes (zig z) HZL.out _).mono ?_; intro e w5 h; obtain ⟨P, cp, rfl, r5, b5, m5, n5, l5⟩ := Makes.gives h; have HR5 := Lib.hid r5; have HL5 := Lib.hid (LZ.out.trans l5); have HW5 := Lib.hid (own_later OZ.out l5); have HN5 := Lib.hid n5; clear h r5 b5 m5 l5 n5)
          | (at_builtin; refine wpList_append_rd _ rfl (.tmp 131) (.tmp 134) 22 rfl w.heap.size 5 (.int .u8 0) 1 Tryd.underlying22 info_u8 rfl _ n (ints .u8 (stepsB 0 (l.take k))) rfl HW5.out _ P (putNum (zig z)).length cp (ints .u8 (putNum (zig z))) rfl HR5.out ?_ HN5.out (ints_one _ _) ?_ ?_ ?_ ?_; (rw [ints_length]); (have h1 := HLE.out; have h2 := HO1.out; have h3 := HN.out; rw [List.length_take] at h1; unfold maxLen; omega); (have h1 := HLE.out; have h2 := HO1.out; have h3 := HN.out; rw [List.length_take] at h1; omega); (exact HL5.out.size); intro A2 c2 w6 o2 g2 b2 n2; have HO2 := Lib.hid o2; have HB6 := Lib.hid b2; have HN2 := Lib.hid n2; clear o2 g2 b2 n2))
        go_roundw
        case rel =>
          refine EDInv.mk A2 _ c2 (k + 1) _ HHK.out (by go_num) ?_ ?_ HN2.out (Later.of (HL5.out.below.trans HB6.out))
          · rw [HK.out, List.length_append, HN.out]
          · rw [HK.out, ints_snoc]; exact HO2.out
        case measure => simp [intOf]; omega
    · obtain rfl : k = m := by have := HML.out; omega
      rw [List.take_of_length_le (by have := HML.out; omega)] at hn hown
      subst hn
      have HR := Lib.hid hown
      have H3 := Lib.hid hnil
      have H4 := Lib.hid lat
      clear hown hnil lat hlt hk
      go_wp2_with fail
      go_ret2
      exact ⟨_, _, rfl, HR.out, H3.out, H4.out⟩

set_option maxRecDepth 100000 in
theorem refEncD_not (t : Int) (A : Option Addr) (c : Nat) (l : List Val3) (w : World) (ht : ¬ (t = 1 ∨ t = 2)) (hl : l.length ≤ 2000) (hr : Has w A (fl l)) :
    Calls Tryd.prog 16 #[.int .i64 5, .int .i64 t, .slice A l.length c] w (PutsB none w) := by
  by_cases ho : (1 ≤ t ∧ t ≤ 4) ∧ OkL t l
  · have HA := Lib.hid (refRight_any t A c l w hl hr)
    have HO := Lib.hid ho
    have d1 : (t != 1) = true := by simp; omega
    have d2 : (t != 2) = true := by simp; omega
    clear ho hr ht
    go_enter Tryd.func16, Tryd.ntmps16
    go_wp2_with fail
    refine HA.out.mono ?_
    intro e w1 h
    obtain ⟨rfl, L1⟩ := h.yes HO.out
    clear h HA
    go_wp2_with fail
    go_ret2
    exact ⟨.inl ⟨rfl, rfl⟩, L1⟩
  · exact refEnc_no 5 t A c l w hl hr ho

theorem refEncD_any (t : Int) (A : Option Addr) (c : Nat) (l : List Val3) (w : World) (hl : l.length ≤ 2000) (hr : Has w A (fl l)) (h64 : All64 l) :
    Calls Tryd.prog 16 #[.int .i64 5, .int .i64 t, .slice A l.length c] w (PutsB (putD t l) w) := by
  unfold putD
  by_cases ht : t = 1 ∨ t = 2
  · by_cases ho : OkL t l
    · rw [if_pos ⟨ht, ho⟩]; exact (refEncD_yes t A c l.length l w rfl ht hl hr ho h64).mono fun _ _ h => h.puts
    · rw [if_neg fun h => ho h.2]; exact refEnc_no 5 t A c l w hl hr fun h => ho h.2
  · rw [if_neg fun h => ht h.1]; exact refEncD_not t A c l w ht hl hr
theorem refEncD_own (t : Int) (A : Option Addr) (c : Nat) (l : List Val3) (pb : List Nat) (w : World) (hl : l.length ≤ 2000) (hr : Has w A (fl l)) (h64 : All64 l) (hp : putD t l = some pb) :
    Calls Tryd.prog 16 #[.int .i64 5, .int .i64 t, .slice A l.length c] w (OwnB pb w) := by
  obtain ⟨h1, h2, rfl⟩ := putD_is hp
  exact refEncD_yes t A c l.length l w rfl h1 hl hr h2 h64
end Go.Proofs.YtdhaagooiioglaaDoor
