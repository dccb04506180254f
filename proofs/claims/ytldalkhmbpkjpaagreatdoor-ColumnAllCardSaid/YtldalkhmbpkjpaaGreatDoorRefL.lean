
import Derived.Test.YtldalkhmbpkjpaaGreatDoorNumB
import Derived.Test.YtldalkhmbpkjpaaGreatDoorCell
import Derived.Test.YtldalkhmbpkjpaaGreatDoorNumMath
import Derived.Test.YtldalkhmbpkjpaaGreatDoorBase
import Derived.Deep.RegionWith
import Derived.Test.YtldalkhmbpkjpaaGreatDoorPlainMath
import Derived.Lib.Strings
/- Walks of the reference's numbers: PutNum, TakeNum, Zig, Zag (in a seat without law 2). -/

namespace Go.Proofs.YtldalkhmbpkjpaaGreatDoor
open Go.RowKit
set_option linter.unusedVariables false

theorem run_cv (A : Option Addr) (n c : Nat) (l : List Nat) (hn : n = l.length) (w : World) (B : Nat) (hr : Rd w B A (ints .u8 l)) :
    (convert 22 9 (.slice A n c)).run Tryz.prog w = .ok (.string (bstr l)) w :=
  run_bstr 22 5 9 Tryz.underlying22 Tryz.underlying5 Tryz.underlying9 A n c l hn w B hr

set_option maxRecDepth 100000 in
theorem refPut_makes (v : Nat) (hv : v < 18446744073709551616) (w : World) : Calls Tryz.prog 36 #[.int .u64 v] w (Makes (putNum v) w) := by
  go_enter Tryz.func36, Tryz.ntmps36
  go_wp2_with fail
  go_loopw [3, 0] (fun bv x wr => ∃ (A : Option Addr) (n c f y : Nat) (xs : List Nat), bv = .slice A n c ∧ n = xs.length ∧ x = .int .u64 y ∧ f ≤ 9 ∧ n + f = 9 ∧ wr.ownsRow w.heap.size 5 1 (.slice A n c) n (ints .u8 xs) ∧ (A = none → c = 0) ∧ xs ++ putAux f y = putNum v ∧ y < 2 ^ (7 * f + 1) ∧ Below w.heap.size w wr) (fun _ x _ => (intOf x).toNat)
  case atStart => exact ⟨none, 0, 0, 9, v, [], rfl, rfl, rfl, by omega, by omega, World.ownsRow_nil _ _ _ _, fun _ => rfl, rfl, by simpa using hv, Below.refl _ _⟩
  case round =>
    obtain ⟨A, n, c, f, y, xs, rfl, hn, rfl, hf9, hnf, hown, hnil, hput, hy, hbel⟩ := hrel
    have HN := Lib.hid hn
    have HOWN := Lib.hid hown
    have HNIL := Lib.hid hnil
    have HPUT := Lib.hid hput
    have HY := Lib.hid hy
    have hy64 : y < 18446744073709551616 := Nat.lt_of_lt_of_le hy (by
      have : 2 ^ (7 * f + 1) ≤ 2 ^ 64 := Nat.pow_le_pow_right (by omega) (by omega)
      simpa using this)
    have HB := Lib.hid hbel
    have hz := hbel.size
    clear hn hown hnil hput hy hbel
    by_cases h128 : 128 ≤ y
    · obtain ⟨f, rfl⟩ : ∃ g, f = g + 1 := ⟨f - 1, by
        have := HY.out
        rcases f with _ | f
        · simp at this; omega
        · omega⟩
      go_wp2_with (at_builtin; refine wpList_append_rd _ rfl (.tmp 6) (.tmp 11) 22 rfl w.heap.size 5 (.int .u8 0) 1 Tryz.underlying22 info_u8 rfl _ n (ints .u8 xs) rfl (HOWN.out.alloc _) _ _ 1 1 (ints .u8 [y % 128 + 128]) rfl (rd_lit wr _ .u8 [y % 128 + 128] _ rfl) ?_ ?_ (ints_one _ _) ?_ ?_ ?_ ?_; rfl; (intro h; cases h); (unfold maxLen; omega); omega; (simp; omega); intro A2 c2 w5 o2 g2 b2 n2; have HO2 := Lib.hid o2; have HB5 := Lib.hid b2; have HN2 := Lib.hid n2; clear o2 g2 b2 n2)
      go_wp2_with fail
      go_roundw
      case rel =>
        refine ⟨A2, n + 1, c2, f, y / 128, xs ++ [y % 128 + 128], rfl, by rw [List.length_append, HN.out]; rfl, by simp, by omega, by omega, ?_, HN2.out, ?_, ?_, (HB.out.alloc (by omega) _).trans HB5.out⟩
        · rw [ints_snoc]; exact HO2.out
        · rw [← HPUT.out]
          conv => rhs; unfold putAux
          rw [if_pos h128, List.append_assoc]
          rfl
        · have := HY.out
          rw [show 7 * (f + 1) + 1 = 7 * f + 1 + 7 by omega, Nat.pow_add] at this
          rw [Nat.div_lt_iff_lt_mul (by omega)]
          exact this
      case measure => simp [intOf]; omega
    · have hy256 : (y : Int) % 256 = (y : Int) := by omega
      go_wp2_with (at_builtin; refine wpList_append_rd _ rfl (.tmp 15) (.tmp 18) 22 rfl w.heap.size 5 (.int .u8 0) 1 Tryz.underlying22 info_u8 rfl _ n (ints .u8 xs) rfl (HOWN.out.alloc _) _ _ 1 1 (ints .u8 [y]) rfl (rd_lit wr _ .u8 [y] _ rfl) ?_ ?_ (ints_one _ _) ?_ ?_ ?_ ?_; rfl; (intro h; cases h); (unfold maxLen; omega); omega; (simp; omega); intro A2 c2 w5 o2 g2 b2 n2; have HO2 := Lib.hid o2; have HB5 := Lib.hid b2; have HN2 := Lib.hid n2; clear o2 g2 b2 n2)
      go_ret
      have hp : xs ++ [y] = putNum v := by
        rw [← HPUT.out]
        cases f with
        | zero => rfl
        | succ f => unfold putAux; rw [if_neg h128]
      have hl : n + 1 = (putNum v).length := by rw [← hp, List.length_append, HN.out]; rfl
      have ho := HO2.out
      rw [← ints_snoc, hp, hl] at ho
      refine ⟨A2, c2, ?_, ho, (HB.out.alloc (by omega) _).trans HB5.out, HN2.out⟩
      rw [← hl]
      rfl

theorem refZig_any (v : Int) (w : World) (h0 : -9223372036854775808 ≤ v) (h1 : v ≤ 9223372036854775807) : Calls Tryz.prog 39 #[.int .i64 v] w fun e w' => e = .returned (.int .u64 (zig v : Nat)) ∧ w = w' := by
  go_enter Tryz.func39, Tryz.ntmps39
  by_cases hv : v < 0
  · go_wp2_with fail
    go_ret
    exact ⟨ret_int (by unfold zig; split <;> omega), rfl⟩
  · go_wp2_with fail
    go_ret
    exact ⟨ret_int (by unfold zig; split <;> omega), rfl⟩
theorem refZag_any (u : Nat) (w : World) (h1 : u < 18446744073709551616) : Calls Tryz.prog 69 #[.int .u64 u] w fun e w' => e = .returned (.int .i64 (zag u)) ∧ w = w' := by
  go_enter Tryz.func69, Tryz.ntmps69
  by_cases hu : u % 2 = 1
  · have he : ((u : Int) % 2 == 1) = true := by rw [beq_iff_eq]; omega
    go_wp2_with fail
    go_ret
    exact ⟨ret_int (by unfold zag; split <;> omega), rfl⟩
  · have he : ((u : Int) % 2 == 1) = false := by rw [beq_eq_false_iff_ne]; omega
    go_wp2_with fail
    go_ret
    exact ⟨ret_int (by unfold zag; split <;> omega), rfl⟩

set_option maxRecDepth 100000 in
set_option maxHeartbeats 2000000 in
theorem refTake_num (A : Option Addr) (n c : Nat) (b : List Nat) (w : World) (hn : n = b.length) (hlc : b.length ≤ c) (hr : Rd w w.heap.size A (ints .u8 b)) (h256 : ∀ x ∈ b, x < 256) (hb : b.length ≤ 1000000) :
    Calls Tryz.prog 66 #[.slice A n c] w (TakePost b w) := by
  subst hn
  have HR := Lib.hid hr
  clear hr
  go_enter Tryz.func66, Tryz.ntmps66
  go_wp2_with fail
  go_loopw [5] (fun i wr => ∃ k : Nat, i = .int .i64 ((k : Int) + 1) ∧ k ≤ 10 ∧ k ≤ b.length ∧ (∀ j, j < k → ∃ x, b[j]? = some x ∧ 128 ≤ x) ∧ w = wr) (fun i _ => 11 - (intOf i).toNat)
  case atStart => exact ⟨0, rfl, by omega, by omega, fun j hj => by omega, rfl⟩
  case round =>
    obtain ⟨k, rfl, hk10, hkb, hhigh, rfl⟩ := hrel
    have HH := Lib.hid hhigh
    clear hhigh
    by_cases hgo : k < 10 ∧ k < b.length
    · obtain ⟨hk, hkl⟩ := hgo
      obtain ⟨bb, off, rfl, hbb, hc⟩ := HR.out.at_ (k := k) (by rw [ints_length]; exact hkl)
      simp only [ints, List.getElem_map] at hc
      by_cases h128 : 128 ≤ b[k]
      · go_wp2_with fail
        go_roundw
        case rel =>
          refine ⟨k + 1, by go_num, by omega, by omega, fun j hj => ?_, by first | rfl | trivial⟩
          by_cases e : j = k
          · subst e; exact ⟨_, List.getElem?_eq_getElem hkl, h128⟩
          · exact HH.out j (by omega)
        case measure => simp [intOf]; omega
      · go_wp2_with fail
        go_loop [6, 7] (fun v i => ∃ (m : Nat) (z z2 : Int), v = .int .u64 z ∧ z = ((low7 ((b.take (k + 1)).drop m) % 18446744073709551616 : Nat) : Int) ∧ i = .int .i64 z2 ∧ z2 = (m : Int) - 1 ∧ m ≤ k + 1) (fun _ i => (intOf i + 1).toNat)
        case atStart => exact ⟨k + 1, _, _, rfl, by rw [List.drop_of_length_le (by rw [List.length_take]; omega)]; rfl, rfl, by omega, by omega⟩
        case round =>
          obtain ⟨m, z, z2, rfl, hz, rfl, hz2, hm⟩ := hrel
          by_cases hm0 : 0 < m
          · obtain ⟨m, rfl⟩ : ∃ m', m = m' + 1 := ⟨m - 1, by omega⟩
            obtain rfl : z2 = (m : Int) := by omega
            have hmb : m < b.length := by omega
            obtain ⟨b2, off2, hA2, _, hc2⟩ := HR.out.at_ (k := m) (by rw [ints_length]; exact hmb)
            obtain ⟨rfl, rfl⟩ : bb = b2 ∧ off = off2 := by injection hA2 with h; injection h with h1 h2; exact ⟨h1, h2⟩
            simp only [ints, List.getElem_map] at hc2
            have hd := low7_drop (b.take (k + 1)) m (by rw [List.length_take]; omega)
            rw [List.getElem_take] at hd
            have HD := Lib.hid hd
            have HZ := Lib.hid hz
            have hzb : 0 ≤ z ∧ z < 18446744073709551616 := by rw [hz]; omega
            clear hz hz2 hd hA2
            go_wp2_with fail
            go_round
            case rel =>
              refine ⟨m, _, _, rfl, ?_, rfl, by omega, by omega⟩
              rw [HD.out, HZ.out]
              rw [IntKind.wrap_u64, IntKind.wrap_u64]; omega
            case measure => simp [intOf]
          · obtain rfl : m = 0 := by omega
            obtain rfl : z2 = -1 := by omega
            rw [List.drop_zero] at hz
            obtain ⟨v, hv⟩ : ∃ v, v = low7 (b.take (k + 1)) % 18446744073709551616 := ⟨_, rfl⟩
            rw [← hv] at hz
            subst hz
            have hv64 : v < 18446744073709551616 := by omega
            have HV := Lib.hid hv
            have h256t : ∀ x ∈ b.take (k + 1), x < 256 := fun x hx => h256 x (List.mem_of_mem_take hx)
            have hlow : LowAt b (k + 1) := ⟨by omega, ⟨_, List.getElem?_eq_getElem hkl, by omega⟩, fun j hj => HH.out j (by omega)⟩
            have HTY := Lib.hid fun h => takeNum_yes (b := b) (n := k + 1) hv64 h
            have HTN := Lib.hid fun h => takeNum_no h256 hlow hv h
            have hrt : Rd w w.heap.size (some ⟨bb, off, none⟩) (ints .u8 (b.take (k + 1))) := by
              rw [← ints_take]; exact HR.out.take (k + 1)
            have HRT := Lib.hid hrt
            have hlt1 : k + 1 = (b.take (k + 1)).length := by rw [List.length_take]; omega
            have HLT := Lib.hid hlt1
            have hcv0 := run_cv (some ⟨bb, off, none⟩) (k + 1) c (b.take (k + 1)) hlt1 w.drew _ (hrt.keep fun _ _ => rfl)
            obtain ⟨S, hS⟩ : ∃ S, S = bstr (b.take (k + 1)) := ⟨_, rfl⟩
            rw [← hS] at hcv0
            have HS := Lib.hid hS
            obtain ⟨T, hT⟩ : ∃ T, T = bstr (putNum v) := ⟨_, rfl⟩
            have HT := Lib.hid hT
            have htn : ((k : Int) + 1).toNat = k + 1 := by omega
            have hk0 : (0 : Int) ≤ (k : Int) + 1 := by omega
            have hkc : (k : Int) + 1 ≤ (c : Int) := by omega
            have HB0 := Lib.hid (show Below w.heap.size w w.drew from (Below.refl _ _).drew)
            by_cases heq : b.take (k + 1) = putNum v
            · have hTS : (T.toList == S.toList) = true := by rw [hT, hS, heq]; simp
              have hkl1 : k + 1 = (putNum v).length := by rw [← heq]; exact hlt1
              have hfin : ∀ w' (z : Int), z = ((k + 1 : Nat) : Int) → Below w.heap.size w w' → TakePost b w (.returned (.tuple #[.int .u64 (v : Nat), .int .i64 z, .bool true])) w' := fun w' z hz hb => by
                subst hz; rw [hkl1]; exact takePost_some (HTY.out heq) hb
              have HF := Lib.hid hfin
              clear hv hz2 hm hm0 hlow hrt hlt1 hS hT heq HTY HTN h256t hkl1 hfin
              go_wp2_with fail
              go_region_with (first
                | (go_at_call 36; refine (refPut_makes v hv64 _).mono ?_; rintro e w1 ⟨P, cp, rfl, o1, b1, n1⟩; have hcv1 := run_cv P (putNum v).length cp (putNum v) rfl w1 _ (Rd.own o1); have hcv2 := run_cv (some ⟨bb, off, none⟩) (k + 1) c (b.take (k + 1)) HLT.out w1 _ ((HRT.out.keep (w' := w.drew) fun _ _ => rfl).below b1); rw [← HS.out] at hcv2; rw [← HT.out] at hcv1; have BB := Lib.hid b1; clear o1 b1 n1))
              all_goals go_wp2_with fail
              all_goals go_ret3
              all_goals (refine HF.out _ _ ?_ (HB0.out.trans BB.out); simp)
            · have hTS : (T.toList == S.toList) = false := by
                rw [hT, hS]; exact bstr_ne (putNum_lt hv64) h256t (fun h => heq h.symm)
              have hfin : ∀ w', Below w.heap.size w w' → TakePost b w (.returned (.tuple #[.int .u64 0, .int .i64 0, .bool false])) w' := fun w' hb => takePost_none (HTN.out heq) hb
              have HF := Lib.hid hfin
              clear hv hz2 hm hm0 hlow hrt hlt1 hS hT heq HTY HTN h256t hfin
              go_wp2_with fail
              go_region_with (first
                | (go_at_call 36; refine (refPut_makes v hv64 _).mono ?_; rintro e w1 ⟨P, cp, rfl, o1, b1, n1⟩; have hcv1 := run_cv P (putNum v).length cp (putNum v) rfl w1 _ (Rd.own o1); have hcv2 := run_cv (some ⟨bb, off, none⟩) (k + 1) c (b.take (k + 1)) HLT.out w1 _ ((HRT.out.keep (w' := w.drew) fun _ _ => rfl).below b1); rw [← HS.out] at hcv2; rw [← HT.out] at hcv1; have BB := Lib.hid b1; clear o1 b1 n1))
              all_goals go_wp2_with fail
              all_goals go_ret3
              all_goals exact HF.out _ (HB0.out.trans BB.out)
    · have hnone : takeNum b = none := takeNum_high h256 k (by omega) HH.out
      have HN := Lib.hid hnone
      clear hnone
      by_cases hk : k = 10
      · subst hk
        go_wp2_with fail
        go_ret3
        exact takePost_none HN.out (Below.refl _ _)
      · have h1 : (k : Int) + 1 ≤ 10 := by omega
        have h2 : decide ((k : Int) + 1 ≤ (b.length : Int)) = false := decide_eq_false (by omega)
        go_wp2_with fail
        go_ret3
        exact takePost_none HN.out (Below.refl _ _)
end Go.Proofs.YtldalkhmbpkjpaaGreatDoor

/- Walks of the reference's May, isType, Fits (in a seat without value.width, where XValB, XValC do not serve; never beside them). -/

namespace Go.Proofs.YtldalkhmbpkjpaaGreatDoor
open Go.RowKit
set_option linter.unusedVariables false

set_option maxRecDepth 100000 in
theorem refMay_any (t i : Int) (s : ByteArray) (w : World) :
    Calls Tryz.prog 31 #[.agg #[.int .i64 t, .int .i64 i, .string s]] w (SaysP (MayV t i s.size) w) := by
  have HE1 := Lib.hid (fun o : Obj => (Below.refl w.heap.size w).alloc (Nat.le_refl _) o)
  by_cases hz : s.size = 0
  · have hse : s.toList.isEmpty = true := by
      rw [Lib.toList_data]; cases s with | mk d => simpa [ByteArray.size] using hz
    go_enter Tryz.func31, Tryz.ntmps31
    go_wp2_with fail
    all_goals go_ret
    all_goals simp only [ne_eq, beq_iff_eq, beq_eq_false_iff_ne] at *
    all_goals first
      | exact SaysP.yes (by unfold MayV; omega) (HE1.out _)
      | exact SaysP.no (by unfold MayV; omega) (HE1.out _)
      | exact ⟨_, by unfold MayV; simp; omega, rfl, HE1.out _⟩
  · have hse : s.toList.isEmpty = false := by
      rw [Lib.toList_data]; cases s with | mk d => simpa [ByteArray.size] using hz
    go_enter Tryz.func31, Tryz.ntmps31
    go_wp2_with fail
    all_goals go_ret
    all_goals simp only [ne_eq, beq_iff_eq, beq_eq_false_iff_ne] at *
    all_goals first
      | exact SaysP.yes (by unfold MayV; omega) (HE1.out _)
      | exact SaysP.no (by unfold MayV; omega) (HE1.out _)
      | exact ⟨_, by unfold MayV; simp; omega, rfl, HE1.out _⟩

theorem isType_any (t : Int) (w : World) : Calls Tryz.prog 16 #[.int .i64 t] w (SaysP (1 ≤ t ∧ t ≤ 4) w) := by
  go_enter Tryz.func16, Tryz.ntmps16
  go_wp2_with fail
  all_goals go_ret
  all_goals first
    | exact SaysP.yes (by omega) (Below.refl _ _)
    | exact SaysP.no (by omega) (Below.refl _ _)
    | exact ⟨_, by simp; omega, rfl, Below.refl _ _⟩

/-- Which values fit a column of a type. -/
def FitsV (t vt i : Int) (n : Nat) : Prop := 1 ≤ t ∧ t ≤ 4 ∧ (vt = 0 ∨ vt = t) ∧ MayV vt i n

set_option maxRecDepth 100000 in
theorem refFits_any (t vt i : Int) (s : ByteArray) (w : World) :
    Calls Tryz.prog 19 #[.int .i64 t, .agg #[.int .i64 vt, .int .i64 i, .string s]] w (SaysP (FitsV t vt i s.size) w) := by
  obtain ⟨w1, hw1⟩ : ∃ w1 : World, w.alloc (.cells #[.int .i64 vt, .int .i64 i, .string s] 26) = w1 := ⟨_, rfl⟩
  have b1 : Below w.heap.size w w1 := hw1 ▸ (Below.refl _ _).alloc (Nat.le_refl _) _
  have hlt : w.heap.size < w1.heap.size := by rw [← hw1]; simp
  have hc : w1.cell? ⟨w.heap.size, 0, none⟩ = some (.int .i64 vt) := by rw [← hw1, World.cell?_alloc_at _ _ _ _ rfl]; rfl
  have HC := Lib.hid (refMay_any vt i s w1)
  have HB := Lib.hid b1
  have HCELL := Lib.hid hc
  have HW := Lib.hid hw1
  clear hw1 b1 hc
  go_enter Tryz.func19, Tryz.ntmps19
  go_wp2_with fail
  rw [HW.out]
  refine HC.out.mono ?_
  rintro e w2 ⟨r, hr, rfl, b2⟩
  have HB2 := Lib.hid (HB.out.trans (b2.mono HB.out.size))
  have hc2 := (b2.cell (p := ⟨w.heap.size, 0, none⟩) hlt).trans HCELL.out
  have z2 := HB2.out.size
  have HR := Lib.hid hr
  clear b2 hr HC HCELL HW HB
  cases r with
  | false =>
    have HN := Lib.hid (show ¬ FitsV t vt i s.size from fun h => by have := HR.out.2 h.2.2.2; cases this)
    go_wp2_with fail
    go_ret
    exact SaysP.no HN.out HB2.out
  | true =>
    have HM := Lib.hid (HR.out.1 rfl)
    go_wp2_with fail
    refine (isType_any t w2).mono ?_
    rintro e w3 ⟨r3, hr3, rfl, b3⟩
    have HB3 := Lib.hid (HB2.out.trans (b3.mono z2))
    have hlt2 : w.heap.size < w2.heap.size := block_lt_of_cell hc2
    have hc3 := (b3.cell (p := ⟨w.heap.size, 0, none⟩) hlt2).trans hc2
    have HR3 := Lib.hid hr3
    clear b3 hr3 hc2 HB2
    cases r3 with
    | false =>
      have HN := Lib.hid (show ¬ FitsV t vt i s.size from fun h => by have := HR3.out.2 ⟨h.1, h.2.1⟩; cases this)
      go_wp2_with fail
      go_ret
      exact SaysP.no HN.out HB3.out
    | true =>
      have HT := Lib.hid (HR3.out.1 rfl)
      by_cases h4 : vt = 0
      · have h5 : (vt == 0) = true := by simp [h4]
        have HY := Lib.hid (show FitsV t vt i s.size from ⟨HT.out.1, HT.out.2, .inl h4, HM.out⟩)
        clear h4
        go_wp2_with fail
        go_ret
        exact SaysP.yes HY.out HB3.out
      · have h5 : (vt == 0) = false := by simp [h4]
        by_cases h6 : vt = t
        · have h7 : (vt == t) = true := by simp [h6]
          have HY := Lib.hid (show FitsV t vt i s.size from ⟨HT.out.1, HT.out.2, .inr h6, HM.out⟩)
          clear h4 h6
          go_wp2_with fail
          go_ret
          exact SaysP.yes HY.out HB3.out
        · have h7 : (vt == t) = false := by simp [h6]
          have HY := Lib.hid (show ¬ FitsV t vt i s.size from fun h => h.2.2.1.elim h4 h6)
          clear h4 h6
          go_wp2_with fail
          go_ret
          exact SaysP.no HY.out HB3.out
end Go.Proofs.YtldalkhmbpkjpaaGreatDoor

/- Walks of the reference's right, one. -/

namespace Go.Proofs.YtldalkhmbpkjpaaGreatDoor
open Go.RowKit
set_option linter.unusedVariables false

theorem SaysP.tells {p : Prop} {w w' : World} {e : Ending} (h : SaysP p w e w') : TellsP p w e w' := h
theorem fits_right {t vt i : Int} {n : Nat} : (FitsV t vt i n ∧ vt = t) ↔ ((1 ≤ t ∧ t ≤ 4) ∧ vt = t ∧ MayV vt i n) := by
  unfold FitsV
  constructor
  · rintro ⟨⟨h1, h2, _, h3⟩, h4⟩
    exact ⟨⟨h1, h2⟩, h4, h3⟩
  · rintro ⟨⟨h1, h2⟩, h4, h3⟩
    exact ⟨⟨h1, h2, .inr h4, h3⟩, h4⟩

set_option maxRecDepth 100000 in
set_option maxHeartbeats 1000000 in
theorem refRight_any (t : Int) (A : Option Addr) (c : Nat) (l : List Val3) (w : World) (hl : l.length ≤ 2000) (hr : Has w A (fl l)) :
    Calls Tryz.prog 33 #[.int .i64 t, .slice A l.length c] w (TellsP ((1 ≤ t ∧ t ≤ 4) ∧ OkL t l) w) := by
  go_enter Tryz.func33, Tryz.ntmps33
  go_wp2_with fail
  go_loopw [5] (fun i wr => ∃ j : Nat, j ≤ l.length ∧ i = .int .i64 j ∧ OkL t (l.take j) ∧ Later w wr) (fun i _ => l.length - (intOf i).toNat)
  case atStart => exact ⟨0, Nat.zero_le _, rfl, by intro x hx; simp at hx, Later.refl _⟩
  case round =>
    obtain ⟨j, hj, rfl, hok, lat⟩ := hrel
    by_cases hlt : j < l.length
    · obtain ⟨b, off, rfl, c0, c1, c2⟩ := (hr.later lat).val3 j hlt
      have HY := Lib.hid (show (FitsV t l[j].1 l[j].2.1 l[j].2.2.size ∧ l[j].1 = t) → OkL t (l.take (j + 1)) from fun h x hx => by
        rw [List.take_succ_eq_append_getElem hlt] at hx
        rcases List.mem_append.1 hx with hx | hx
        · exact hok x hx
        · rw [List.mem_singleton] at hx; rw [hx]; exact (fits_right.1 h).2)
      have HN := Lib.hid (show ¬ (FitsV t l[j].1 l[j].2.1 l[j].2.2.size ∧ l[j].1 = t) → ¬ ((1 ≤ t ∧ t ≤ 4) ∧ OkL t l) from fun h ho => h (fits_right.2 ⟨ho.1, ho.2 _ (List.getElem_mem hlt)⟩))
      generalize l[j].1 = t' at c0 HY HN
      generalize l[j].2.1 = i at c1 HY HN
      generalize l[j].2.2 = s at c2 HY HN
      have C0 : CellIs wr ⟨b, off + j * 3, none⟩ (.int .i64 t') := c0
      have LAT := Lib.hid lat
      have HR := Lib.hid hr
      clear hok lat hr
      go_wp2_with fail
      refine (refFits_any t t' i s wr).mono ?_
      rintro e w2 ⟨r, hr, rfl, b2⟩
      have l2 : Later wr w2 := Later.of b2
      have d0 := (C0.later l2).out
      have LAT2 := Lib.hid (LAT.out.trans l2)
      clear c0 c1 c2 C0 l2 b2 LAT
      cases r with
      | false =>
        have HX := Lib.hid (HN.out (fun h => by have := hr.2 h.1; cases this))
        clear hr
        go_wp2_with fail
        go_ret
        exact TellsP.f HX.out LAT2.out
      | true =>
        have HF := Lib.hid (hr.1 rfl)
        clear hr
        by_cases he : t' = t
        · have hbe : ((t' : Int) != t) = false := by simp [he]
          have HZ := Lib.hid (HY.out ⟨HF.out, he⟩)
          clear he
          go_wp2_with fail
          go_roundw
          case rel => exact ⟨j + 1, hlt, by go_num, HZ.out, LAT2.out⟩
          case measure => simp [intOf]; omega
        · have hbe : ((t' : Int) != t) = true := by simp [he]
          have HX := Lib.hid (HN.out (fun h => he h.2))
          clear he
          go_wp2_with fail
          go_ret
          exact TellsP.f HX.out LAT2.out
    · have HOK := Lib.hid (show OkL t l by rw [List.take_of_length_le (by omega)] at hok; exact hok)
      have LAT := Lib.hid lat
      clear hok lat hr
      go_wp2_with fail
      refine (isType_any t wr).mono ?_
      rintro e w2 ⟨r, hr, rfl, b2⟩
      have HR := Lib.hid hr
      clear hr
      go_wp2_with fail
      go_ret
      exact ⟨r, ⟨fun h => ⟨HR.out.1 h, HOK.out⟩, fun h => HR.out.2 h.1⟩, rfl, LAT.out.trans (Later.of b2)⟩

set_option maxRecDepth 100000 in
theorem refOne_num (t i : Int) (s : ByteArray) (w : World) (ht : t = 1 ∨ t = 2) (h0 : -9223372036854775808 ≤ i) (h1 : i ≤ 9223372036854775807) :
    Calls Tryz.prog 35 #[.agg #[.int .i64 t, .int .i64 i, .string s]] w (Makes (putNum (zig i)) w) := by
  have h4 : t ≠ 4 := by omega
  have h3 : t ≠ 3 := by omega
  have hb : Below w.heap.size w (w.alloc (.cells #[.int .i64 t, .int .i64 i, .string s] 26)) := (Below.refl _ _).alloc (Nat.le_refl _) _
  have HB := Lib.hid hb
  have hz := zig_lt i h0 h1
  clear ht hb
  go_enter Tryz.func35, Tryz.ntmps35
  go_wp2_with (go_at_call 39; refine (refZig_any i _ h0 h1).mono ?_; rintro e w' ⟨rfl, rfl⟩)
  refine (refPut_makes (zig i) hz _).mono ?_
  rintro e w2 ⟨A, c, rfl, o, b, n⟩
  have O := Lib.hid (show w2.ownsRow w.heap.size 5 1 (.slice A (putNum (zig i)).length c) (putNum (zig i)).length (ints .u8 (putNum (zig i))) from by
    obtain ⟨p1, p2⟩ := o
    refine ⟨p1, ?_⟩
    rcases p2 with p2 | ⟨g, cap, cur, ha, hb2, hrest⟩
    · exact .inl p2
    · exact .inr ⟨g, cap, cur, ha, Nat.le_trans HB.out.size hb2, hrest⟩)
  have B := Lib.hid (HB.out.trans (b.mono HB.out.size))
  have NN := Lib.hid n
  clear o b n
  go_wp2_with fail
  go_ret
  exact ⟨A, c, rfl, O.out, B.out, NN.out⟩

set_option maxRecDepth 100000 in
theorem refOne_truth (i : Int) (s : ByteArray) (u : Nat) (w : World) (hi : i = (u : Int)) (hu : u < 256) :
    Calls Tryz.prog 35 #[.agg #[.int .i64 3, .int .i64 i, .string s]] w (Makes [u] w) := by
  subst hi
  obtain ⟨w1, hw1⟩ : ∃ w1 : World, w.alloc (.cells #[.int .i64 3, .int .i64 (u : Int), .string s] 26) = w1 := ⟨_, rfl⟩
  have b1 : Below w.heap.size w w1 := hw1 ▸ (Below.refl _ _).alloc (Nat.le_refl _) _
  have c1 : w1.cell? ⟨w.heap.size, 1, none⟩ = some (.int .i64 (u : Int)) := by rw [← hw1, World.cell?_alloc_at _ _ _ _ rfl]; rfl
  have c0 : w1.cell? ⟨w.heap.size, 0, none⟩ = some (.int .i64 3) := by rw [← hw1, World.cell?_alloc_at _ _ _ _ rfl]; rfl
  have hwr : IntKind.u8.wrap (u : Int) = (u : Int) := by rw [IntKind.wrap_u8]; omega
  have HW := Lib.hid hw1
  have HB := Lib.hid b1
  have O := Lib.hid ((Row.lit w1 5 .u8 [u]).own (base := w.heap.size) b1.size (by simp [maxLen]))
  clear hw1 b1 c0 c1
  go_enter Tryz.func35, Tryz.ntmps35
  go_wp2_with fail
  go_ret
  have e := HW.out
  subst e
  have h := O.out
  rw [show (w.alloc (.cells #[.int .i64 3, .int .i64 (u : Int), .string s] 26)).heap.size = w.heap.size + 1 by simp] at h
  exact ⟨_, _, rfl, h, HB.out.alloc HB.out.size _, by intro h; cases h⟩
set_option maxRecDepth 100000 in
theorem refOne_text (i : Int) (s : ByteArray) (w : World) (hs : s.size ≤ 20) :
    Calls Tryz.prog 35 #[vagg 4 i s] w (Makes (s.size :: nums s) w) := by
  have hz : (w.alloc (.cells #[.int .i64 4, .int .i64 i, .string s] 26)).heap.size = w.heap.size + 1 := by simp
  have b1 : Below w.heap.size w (w.alloc (.cells #[.int .i64 4, .int .i64 i, .string s] 26)) := (Below.refl _ _).alloc (Nat.le_refl _) _
  have hwr : IntKind.u8.wrap (s.size : Int) = (s.size : Int) := by rw [IntKind.wrap_u8]; omega
  have HO := Lib.hid (show ((w.alloc (.cells #[.int .i64 4, .int .i64 i, .string s] 26)).alloc (.cells (ints .u8 [s.size]).toArray 5)).ownsRow w.heap.size 5 1 (.slice (some ⟨w.heap.size + 1, 0, none⟩) 1 1) 1 (ints .u8 [s.size]) from by
    have h := (Row.lit (w.alloc (.cells #[.int .i64 4, .int .i64 i, .string s] 26)) 5 .u8 [s.size]).own (base := w.heap.size) b1.size (by simp [maxLen])
    rw [hz] at h
    exact h)
  have B2 := Lib.hid ((b1.alloc b1.size (.cells (ints .u8 [s.size]).toArray 5)))
  clear b1 hz
  go_enter Tryz.func35, Tryz.ntmps35
  go_wp2_with (at_builtin; refine wpList_append_str _ rfl (.tmp 17) (.tmp 19) 22 9 rfl w.heap.size 5 Tryz.underlying22 Tryz.underlying9 info_u8 _ 1 (ints .u8 [s.size]) rfl HO.out s rfl ?_ ?_ ?_ ?_; (unfold maxLen; omega); omega; (exact B2.out.size); intro A2 c2 w5 o2 b2 n2; have HO2 := Lib.hid o2; have HB5 := Lib.hid b2; have HN2 := Lib.hid n2; clear o2 b2 n2)
  go_ret
  have hl : (s.size :: nums s).length = 1 + s.size := by rw [List.length_cons, nums_length]; omega
  have h := HO2.out
  rw [strCells_nums] at h
  refine ⟨A2, c2, by rw [hl]; rfl, by rw [hl]; exact h, B2.out.trans HB5.out, HN2.out⟩

/-- Put, of a value that may be. -/
theorem refOne_any (t i : Int) (s : ByteArray) (w : World) (ht : 1 ≤ t ∧ t ≤ 4) (hm : MayV t i s.size) (h64 : In64 i) :
    Calls Tryz.prog 35 #[vagg t i s] w (Gives (oneB t i s) w) := by
  unfold oneB
  by_cases h4 : t = 4
  · subst h4
    rw [if_pos rfl]
    exact (refOne_text i s w (by unfold MayV at hm; omega)).mono fun _ _ h => h.gives
  · rw [if_neg h4]
    by_cases h3 : t = 3
    · subst h3
      rw [if_pos rfl]
      exact (refOne_truth i s i.toNat w (by unfold MayV at hm; omega) (by unfold MayV at hm; omega)).mono fun _ _ h => h.gives
    · rw [if_neg h3]
      exact (refOne_num t i s w (by omega) h64.1 h64.2).mono fun _ _ h => h.gives
end Go.Proofs.YtldalkhmbpkjpaaGreatDoor

/- The walk of the reference's takeOne. -/

namespace Go.Proofs.YtldalkhmbpkjpaaGreatDoor
open Go.RowKit
set_option linter.unusedVariables false

/-- What takeOne tells. -/
def TakesO (o : Option (Int × List Nat × Nat)) (t : Int) (w : World) (e : Ending) (w' : World) : Prop :=
  ((o = none ∧ ∃ (t' i' n' : Int) (s' : ByteArray), e = .returned (.tuple #[vagg t' i' s', .int .i64 n', .bool false])) ∨
    ∃ i s n, o = some (i, s, n) ∧ e = .returned (.tuple #[vagg t i (bstr s), .int .i64 (n : Int), .bool true])) ∧ Later w w'
theorem TakesO.no {o : Option (Int × List Nat × Nat)} {t : Int} {w w' : World} (h : o = none) (t' i' n' : Int) (s' : ByteArray) (l : Later w w') : TakesO o t w (.returned (.tuple #[vagg t' i' s', .int .i64 n', .bool false])) w' := ⟨.inl ⟨h, t', i', n', s', rfl⟩, l⟩
theorem TakesO.yes {o : Option (Int × List Nat × Nat)} {t : Int} {w w' : World} {i : Int} {s : List Nat} {n : Nat} (h : o = some (i, s, n)) (l : Later w w') : TakesO o t w (.returned (.tuple #[vagg t i (bstr s), .int .i64 (n : Int), .bool true])) w' := ⟨.inr ⟨i, s, n, h, rfl⟩, l⟩
theorem takeC_may {t : Int} {b : List Nat} {i : Int} {s : List Nat} {n : Nat} (h : readC t b = some (i, s, n)) (hm : MayV t i (bstr s).size) : takeC t b = some (i, s, n) := by
  unfold takeC; rw [h]; simp only; rw [if_pos (by rw [← bstr_size]; exact hm)]
theorem takeC_not {t : Int} {b : List Nat} {i : Int} {s : List Nat} {n : Nat} (h : readC t b = some (i, s, n)) (hm : ¬ MayV t i (bstr s).size) : takeC t b = none := by
  unfold takeC; rw [h]; simp only; rw [if_neg (by rw [← bstr_size]; exact hm)]
theorem takeC_none {t : Int} {b : List Nat} (h : readC t b = none) : takeC t b = none := by unfold takeC; rw [h]
theorem bstr_nil : bstr [] = (⟨#[]⟩ : ByteArray) := rfl

theorem takeOne_nil (t : Int) (ht : 1 ≤ t ∧ t ≤ 4) (A : Option Addr) (c : Nat) (w : World) :
    Calls Tryz.prog 65 #[.int .i64 t, .slice A 0 c] w (TakesO (takeC t []) t w) := by
  have hn : takeC t [] = none := by
    obtain rfl | rfl | rfl | rfl : t = 1 ∨ t = 2 ∨ t = 3 ∨ t = 4 := by omega
    all_goals rfl
  rw [hn]
  clear hn
  go_enter Tryz.func65, Tryz.ntmps65
  go_wp2_with fail
  exact bodyPost_ret (v := .tuple #[vagg 0 0 ⟨#[]⟩, .int .i64 0, .bool false]) (by simp [results, Tryz.results65, go_sem]) rfl (TakesO.no rfl _ _ _ _ (((Later.refl w).alloc _).alloc _))
end Go.Proofs.YtldalkhmbpkjpaaGreatDoor

namespace Go.Proofs.YtldalkhmbpkjpaaGreatDoor
open Go.RowKit
set_option linter.unusedVariables false

/-- What Encode tells of bytes that it has: they are its own. -/
def OwnB (pb : List Nat) (w : World) (e : Ending) (w' : World) : Prop :=
  ∃ A c, e = .returned (.tuple #[.slice A pb.length c, .bool true]) ∧ w'.ownsRow w.heap.size 5 1 (.slice A pb.length c) pb.length (ints .u8 pb) ∧ (A = none → c = 0) ∧ Later w w'
theorem OwnB.puts {pb : List Nat} {w w' : World} {e : Ending} (h : OwnB pb w e w') : PutsB (some pb) w e w' := by
  obtain ⟨A, c, rfl, ho, hn, l⟩ := h
  exact ⟨.inr ⟨pb, A, c, rfl, rfl, Has.own ho, own_cap ho, own_capmax ho, hn⟩, l⟩

set_option maxRecDepth 100000 in
theorem refEnc_no (en t : Int) (A : Option Addr) (c : Nat) (l : List Val3) (w : World) (hl : l.length ≤ 2000) (hr : Has w A (fl l)) (ho : ¬ ((1 ≤ t ∧ t ≤ 4) ∧ OkL t l)) :
    Calls Tryz.prog 21 #[.int .i64 en, .int .i64 t, .slice A l.length c] w (PutsB none w) := by
  have HA := Lib.hid (refRight_any t A c l w hl hr)
  have HO := Lib.hid ho
  clear ho hr
  go_enter Tryz.func21, Tryz.ntmps21
  go_wp2_with fail
  refine HA.out.mono ?_
  intro e w1 h
  obtain ⟨rfl, L1⟩ := h.no HO.out
  clear h HA
  go_wp2_with fail
  go_ret2
  exact ⟨.inl ⟨rfl, rfl⟩, L1⟩


set_option maxRecDepth 100000 in
theorem refDec_no (en t n : Int) (A : Option Addr) (m c : Nat) (w : World) (h : ¬ ((1 ≤ t ∧ t ≤ 4) ∧ 0 ≤ n ∧ n ≤ 1000)) :
    Calls Tryz.prog 26 #[.int .i64 en, .int .i64 t, .int .i64 n, .slice A m c] w (PutsV none w) := by
  by_cases h1 : n < 0
  · clear h
    go_enter Tryz.func26, Tryz.ntmps26
    go_wp2_with fail
    go_ret2
    exact ⟨.inl ⟨rfl, rfl⟩, Later.refl _⟩
  · by_cases h2 : 1000 < n
    · clear h
      go_enter Tryz.func26, Tryz.ntmps26
      go_wp2_with fail
      go_ret2
      exact ⟨.inl ⟨rfl, rfl⟩, Later.refl _⟩
    · have HT := Lib.hid (show ¬ (1 ≤ t ∧ t ≤ 4) by omega)
      clear h
      go_enter Tryz.func26, Tryz.ntmps26
      go_wp2_with fail
      refine (isType_any t w).mono ?_
      intro e w1 h
      obtain ⟨rfl, L1⟩ := TellsP.no HT.out (SaysP.tells h)
      clear h
      go_wp2_with fail
      go_ret2
      exact ⟨.inl ⟨rfl, rfl⟩, L1⟩



/-- What read tells. -/
def ReadsQ (o : Option (List Val3 × List Nat)) (w : World) (e : Ending) (w' : World) : Prop :=
  ((o = none ∧ e = .returned (.tuple #[.slice none 0 0, .bool false])) ∨
    ∃ l r L cl, o = some (l, r) ∧ e = .returned (.tuple #[.slice L l.length cl, .bool true]) ∧ Has w' L (fl l)) ∧ Later w w'
def lenOf : Value → Nat
  | .slice _ n _ => n
  | _ => 0

end Go.Proofs.YtldalkhmbpkjpaaGreatDoor
