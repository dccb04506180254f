/- Walks of the reference's numbers: PutNum, TakeNum, Zig, Zag (in a seat without law 2). -/
import Derived.Test.YtifejanbgobngaaDoorNumB
import Derived.Test.YtifejanbgobngaaDoorCellF
import Derived.Test.YtifejanbgobngaaDoorRefNumMath
import Derived.Test.YtifejanbgobngaaDoorHand
import Derived.Deep.RegionWith
namespace Go.Proofs.YtifejanbgobngaaDoor
open Go.RowKit
set_option linter.unusedVariables false

theorem run_cv (A : Option Addr) (n c : Nat) (l : List Nat) (hn : n = l.length) (w : World) (B : Nat) (hr : Rd w B A (ints .u8 l)) :
    (convert 22 9 (.slice A n c)).run Tryd.prog w = .ok (.string (bstr l)) w :=
  run_bstr 22 5 9 Tryd.underlying22 Tryd.underlying5 Tryd.underlying9 A n c l hn w B hr

set_option maxRecDepth 100000 in
theorem refPut_makes (v : Nat) (hv : v < 18446744073709551616) (w : World) : Calls Tryd.prog 32 #[.int .u64 v] w (Makes (putNum v) w) := by
  go_enter Tryd.func32, Tryd.ntmps32
  go_wp2_with fail
  go_loopw [3, 0] (fun bv x wr => ∃ (A : Option Addr) (n c f y : Nat) (xs : List Nat), bv = .slice A n c ∧ n = xs.length ∧ x = .int .u64 y ∧ f ≤ 9 ∧ n + f = 9 ∧ wr.ownsRow w.heap.size 5 1 (.slice A n c) n (ints .u8 xs) ∧ (A = none → c = 0) ∧ xs ++ putAux f y = putNum v ∧ y < 2 ^ (7 * f + 1) ∧ Below w.heap.size w wr) (fun _ x _ => (intOf x).toNat)
  case atStart => exact ⟨none, 0, 0, 9, v, [], rfl, rfl, rfl, by omega, by omega, World.ownsRow_nil _ _ _ _, fun _ => rfl, rfl, by simpa using hv, Below.refl _ _⟩
  case round =>
    obtain ⟨A, n, c, f, y, xs, rfl, hn, rfl, hf9, hnf, hown, hnil, hput, hy, hbel⟩ := hrel
    have HN := Lib.hid hn
    have HOWN := Lib.hid hown
    have HNIL := Lib.hid hnil
    have HPUT := Lib.hid hput
    have HY := Lib.hid hy
    have hy64 : y < 18446744073709551616 := Nat.lt_of_lt_of_le hy (by
      have : 2 ^ (7 * f + 1) ≤ 2 ^ 64 := Nat.pow_le_pow_right (by omega) (by omega)
      simpa using this)
    have HB := Lib.hid hbel
    have hz := hbel.size
    clear hn hown hnil hput hy hbel
    by_cases h128 : 128 ≤ y
    · obtain ⟨f, rfl⟩ : ∃ g, f = g + 1 := ⟨f - 1, by
        have := HY.out
        rcases f with _ | f
        · simp at this; omega
        · omega⟩
      go_wp2_with (at_builtin; refine wpList_append_rd _ rfl (.tmp 6) (.tmp 11) 22 rfl w.heap.size 5 (.int .u8 0) 1 Tryd.underlying22 info_u8 rfl _ n (ints .u8 xs) rfl (HOWN.out.alloc _) _ _ 1 1 (ints .u8 [y % 128 + 128]) rfl (rd_lit wr _ .u8 [y % 128 + 128] _ rfl) ?_ ?_ (ints_one _ _) ?_ ?_ ?_ ?_; rfl; (intro h; cases h); (unfold maxLen; omega); omega; (simp; omega); intro A2 c2 w5 o2 g2 b2 n2; have HO2 := Lib.hid o2; have HB5 := Lib.hid b2; have HN2 := Lib.hid n2; clear o2 g2 b2 n2)
      go_wp2_with fail
      go_roundw
      case rel =>
        refine ⟨A2, n + 1, c2, f, y / 128, xs ++ [y % 128 + 128], rfl, by rw [List.length_append, HN.out]; rfl, by simp, by omega, by omega, ?_, HN2.out, ?_, ?_, (HB.out.alloc (by omega) _).trans HB5.out⟩
        · rw [ints_snoc]; exact HO2.out
        · rw [← HPUT.out]
          conv => rhs; unfold putAux
          rw [if_pos h128, List.append_assoc]
          rfl
        · have := HY.out
          rw [show 7 * (f + 1) + 1 = 7 * f + 1 + 7 by omega, Nat.pow_add] at this
          rw [Nat.div_lt_iff_lt_mul (by omega)]
          exact this
      case measure => simp [intOf]; omega
    · have hy256 : (y : Int) % 256 = (y : Int) := by omega
      go_wp2_with (at_builtin; refine wpList_append_rd _ rfl (.tmp 15) (.tmp 18) 22 rfl w.heap.size 5 (.int .u8 0) 1 Tryd.underlying22 info_u8 rfl _ n (ints .u8 xs) rfl (HOWN.out.alloc _) _ _ 1 1 (ints .u8 [y]) rfl (rd_lit wr _ .u8 [y] _ rfl) ?_ ?_ (ints_one _ _) ?_ ?_ ?_ ?_; rfl; (intro h; cases h); (unfold maxLen; omega); omega; (simp; omega); intro A2 c2 w5 o2 g2 b2 n2; have HO2 := Lib.hid o2; have HB5 := Lib.hid b2; have HN2 := Lib.hid n2; clear o2 g2 b2 n2)
      go_ret
      have hp : xs ++ [y] = putNum v := by
        rw [← HPUT.out]
        cases f with
        | zero => rfl
        | succ f => unfold putAux; rw [if_neg h128]
      have hl : n + 1 = (putNum v).length := by rw [← hp, List.length_append, HN.out]; rfl
      have ho := HO2.out
      rw [← ints_snoc, hp, hl] at ho
      refine ⟨A2, c2, ?_, ho, (HB.out.alloc (by omega) _).trans HB5.out, HN2.out⟩
      rw [← hl]
      rfl

theorem refZig_any (v : Int) (w : World) (h0 : -9223372036854775808 ≤ v) (h1 : v ≤ 9223372036854775807) : Calls Tryd.prog 35 #[.int .i64 v] w fun e w' => e = .returned (.int .u64 (zig v : Nat)) ∧ w = w' := by
  go_enter Tryd.func35, Tryd.ntmps35
  by_cases hv : v < 0
  · go_wp2_with fail
    go_ret
    exact ⟨ret_int (by unfold zig; split <;> omega), rfl⟩
  · go_wp2_with fail
    go_ret
    exact ⟨ret_int (by unfold zig; split <;> omega), rfl⟩
theorem refZag_any (u : Nat) (w : World) (h1 : u < 18446744073709551616) : Calls Tryd.prog 58 #[.int .u64 u] w fun e w' => e = .returned (.int .i64 (zag u)) ∧ w = w' := by
  go_enter Tryd.func58, Tryd.ntmps58
  by_cases hu : u % 2 = 1
  · have he : ((u : Int) % 2 == 1) = true := by rw [beq_iff_eq]; omega
    go_wp2_with fail
    go_ret
    exact ⟨ret_int (by unfold zag; split <;> omega), rfl⟩
  · have he : ((u : Int) % 2 == 1) = false := by rw [beq_eq_false_iff_ne]; omega
    go_wp2_with fail
    go_ret
    exact ⟨ret_int (by unfold zag; split <;> omega), rfl⟩

set_option maxRecDepth 100000 in
set_option maxHeartbeats 2000000 in
theorem refTake_num (A : Option Addr) (n c : Nat) (b : List Nat) (w : World) (hn : n = b.length) (hlc : b.length ≤ c) (hr : Rd w w.heap.size A (ints .u8 b)) (h256 : ∀ x ∈ b, x < 256) (hb : b.length ≤ 1000000) :
    Calls Tryd.prog 55 #[.slice A n c] w (TakePost b w) := by
  subst hn
  have HR := Lib.hid hr
  clear hr
  go_enter Tryd.func55, Tryd.ntmps55
  go_wp2_with fail
  go_loopw [5] (fun i wr => ∃ k : Nat, i = .int .i64 ((k : Int) + 1) ∧ k ≤ 10 ∧ k ≤ b.length ∧ (∀ j, j < k → ∃ x, b[j]? = some x ∧ 128 ≤ x) ∧ w = wr) (fun i _ => 11 - (intOf i).toNat)
  case atStart => exact ⟨0, rfl, by omega, by omega, fun j hj => by omega, rfl⟩
  case round =>
    obtain ⟨k, rfl, hk10, hkb, hhigh, rfl⟩ := hrel
    have HH := Lib.hid hhigh
    clear hhigh
    by_cases hgo : k < 10 ∧ k < b.length
    · obtain ⟨hk, hkl⟩ := hgo
      obtain ⟨bb, off, rfl, hbb, hc⟩ := HR.out.at_ (k := k) (by rw [ints_length]; exact hkl)
      simp only [ints, List.getElem_map] at hc
      by_cases h128 : 128 ≤ b[k]
      · go_wp2_with fail
        go_roundw
        case rel =>
          refine ⟨k + 1, by go_num, by omega, by omega, fun j hj => ?_, by first | rfl | trivial⟩
          by_cases e : j = k
          · subst e; exact ⟨_, List.getElem?_eq_getElem hkl, h128⟩
          · exact HH.out j (by omega)
        case measure => simp [intOf]; omega
      · go_wp2_with fail
        go_loop [6, 7] (fun v i => ∃ (m : Nat) (z z2 : Int), v = .int .u64 z ∧ z = ((low7 ((b.take (k + 1)).drop m) % 18446744073709551616 : Nat) : Int) ∧ i = .int .i64 z2 ∧ z2 = (m : Int) - 1 ∧ m ≤ k + 1) (fun _ i => (intOf i + 1).toNat)
        case atStart => exact ⟨k + 1, _, _, rfl, by rw [List.drop_of_length_le (by rw [List.length_take]; omega)]; rfl, rfl, by omega, by omega⟩
        case round =>
          obtain ⟨m, z, z2, rfl, hz, rfl, hz2, hm⟩ := hrel
          by_cases hm0 : 0 < m
          · obtain ⟨m, rfl⟩ : ∃ m', m = m' + 1 := ⟨m - 1, by omega⟩
            obtain rfl : z2 = (m : Int) := by omega
            have hmb : m < b.length := by omega
            obtain ⟨b2, off2, hA2, _, hc2⟩ := HR.out.at_ (k := m) (by rw [ints_length]; exact hmb)
            obtain ⟨rfl, rfl⟩ : bb = b2 ∧ off = off2 := by injection hA2 with h; injection h with h1 h2; exact ⟨h1, h2⟩
            simp only [ints, List.getElem_map] at hc2
            have hd := low7_drop (b.take (k + 1)) m (by rw [List.length_take]; omega)
            rw [List.getElem_take] at hd
            have HD := Lib.hid hd
            have HZ := Lib.hid hz
            have hzb : 0 ≤ z ∧ z < 18446744073709551616 := by rw [hz]; omega
            clear hz hz2 hd hA2
            go_wp2_with fail
            go_round
            case rel =>
              refine ⟨m, _, _, rfl, ?_, rfl, by omega, by omega⟩
              rw [HD.out, HZ.out]
              rw [IntKind.wrap_u64, IntKind.wrap_u64]; omega
            case measure => simp [intOf]
          · obtain rfl : m = 0 := by omega
            obtain rfl : z2 = -1 := by omega
            rw [List.drop_zero] at hz
            obtain ⟨v, hv⟩ : ∃ v, v = low7 (b.take (k + 1)) % 18446744073709551616 := ⟨_, rfl⟩
            rw [← hv] at hz
            subst hz
            have hv64 : v < 18446744073709551616 := by omega
            have HV := Lib.hid hv
            have h256t : ∀ x ∈ b.take (k + 1), x < 256 := fun x hx => h256 x (List.mem_of_mem_take hx)
            have hlow : LowAt b (k + 1) := ⟨by omega, ⟨_, List.getElem?_eq_getElem hkl, by omega⟩, fun j hj => HH.out j (by omega)⟩
            have HTY := Lib.hid fun h => takeNum_yes (b := b) (n := k + 1) hv64 h
            have HTN := Lib.hid fun h => takeNum_no h256 hlow hv h
            have hrt : Rd w w.heap.size (some ⟨bb, off, none⟩) (ints .u8 (b.take (k + 1))) := by
              rw [← ints_take]; exact HR.out.take (k + 1)
            have HRT := Lib.hid hrt
            have hlt1 : k + 1 = (b.take (k + 1)).length := by rw [List.length_take]; omega
            have HLT := Lib.hid hlt1
            have hcv0 := run_cv (some ⟨bb, off, none⟩) (k + 1) c (b.take (k + 1)) hlt1 w.drew _ (hrt.keep fun _ _ => rfl)
            obtain ⟨S, hS⟩ : ∃ S, S = bstr (b.take (k + 1)) := ⟨_, rfl⟩
            rw [← hS] at hcv0
            have HS := Lib.hid hS
            obtain ⟨T, hT⟩ : ∃ T, T = bstr (putNum v) := ⟨_, rfl⟩
            have HT := Lib.hid hT
            have htn : ((k : Int) + 1).toNat = k + 1 := by omega
            have hk0 : (0 : Int) ≤ (k : Int) + 1 := by omega
            have hkc : (k : Int) + 1 ≤ (c : Int) := by omega
            have HB0 := Lib.hid (show Below w.heap.size w w.drew from (Below.refl _ _).drew)
            by_cases heq : b.take (k + 1) = putNum v
            · have hTS : (T.toList == S.toList) = true := by rw [hT, hS, heq]; simp
              have hkl1 : k + 1 = (putNum v).length := by rw [← heq]; exact hlt1
              have hfin : ∀ w' (z : Int), z = ((k + 1 : Nat) : Int) → Below w.heap.size w w' → TakePost b w (.returned (.tuple #[.int .u64 (v : Nat), .int .i64 z, .bool true])) w' := fun w' z hz hb => by
                subst hz; rw [hkl1]; exact takePost_some (HTY.out heq) hb
              have HF := Lib.hid hfin
              clear hv hz2 hm hm0 hlow hrt hlt1 hS hT heq HTY HTN h256t hkl1 hfin
              go_wp2_with fail
              go_region_with (first
                | (go_at_call 32; refine (refPut_makes v hv64 _).mono ?_; rintro e w1 ⟨P, cp, rfl, o1, b1, n1⟩; have hcv1 := run_cv P (putNum v).length cp (putNum v) rfl w1 _ (Rd.own o1); have hcv2 := run_cv (some ⟨bb, off, none⟩) (k + 1) c (b.take (k + 1)) HLT.out w1 _ ((HRT.out.keep (w' := w.drew) fun _ _ => rfl).below b1); rw [← HS.out] at hcv2; rw [← HT.out] at hcv1; have BB := Lib.hid b1; clear o1 b1 n1))
              all_goals go_wp2_with fail
              all_goals go_ret3
              all_goals (refine HF.out _ _ ?_ (HB0.out.trans BB.out); simp)
            · have hTS : (T.toList == S.toList) = false := by
                rw [hT, hS]; exact bstr_ne (putNum_lt hv64) h256t (fun h => heq h.symm)
              have hfin : ∀ w', Below w.heap.size w w' → TakePost b w (.returned (.tuple #[.int .u64 0, .int .i64 0, .bool false])) w' := fun w' hb => takePost_none (HTN.out heq) hb
              have HF := Lib.hid hfin
              clear hv hz2 hm hm0 hlow hrt hlt1 hS hT heq HTY HTN h256t hfin
              go_wp2_with fail
              go_region_with (first
                | (go_at_call 32; refine (refPut_makes v hv64 _).mono ?_; rintro e w1 ⟨P, cp, rfl, o1, b1, n1⟩; have hcv1 := run_cv P (putNum v).length cp (putNum v) rfl w1 _ (Rd.own o1); have hcv2 := run_cv (some ⟨bb, off, none⟩) (k + 1) c (b.take (k + 1)) HLT.out w1 _ ((HRT.out.keep (w' := w.drew) fun _ _ => rfl).below b1); rw [← HS.out] at hcv2; rw [← HT.out] at hcv1; have BB := Lib.hid b1; clear o1 b1 n1))
              all_goals go_wp2_with fail
              all_goals go_ret3
              all_goals exact HF.out _ (HB0.out.trans BB.out)
    · have hnone : takeNum b = none := takeNum_high h256 k (by omega) HH.out
      have HN := Lib.hid hnone
      clear hnone
      by_cases hk : k = 10
      · subst hk
        go_wp2_with fail
        go_ret3
        exact takePost_none HN.out (Below.refl _ _)
      · have h1 : (k : Int) + 1 ≤ 10 := by omega
        have h2 : decide ((k : Int) + 1 ≤ (b.length : Int)) = false := decide_eq_false (by omega)
        go_wp2_with fail
        go_ret3
        exact takePost_none HN.out (Below.refl _ _)
end Go.Proofs.YtifejanbgobngaaDoor
