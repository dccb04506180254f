/- The walk of BitsJoin. -/
import Derived.Test.YtbmlipandjbbbaaLawBack
import Derived.Test.YtbmlipandjbbbaaLater
import Derived.Test.YtbmlipandjbbbaaTac
import Derived.Test.YtbmlipandjbbbaaStep
import Derived.Test.YtbmlipandjbbbaaRefMath
namespace Go.Proofs.Ytbmlipandjbbbaa
open Go.RowKit
set_option linter.unusedVariables false

/-- Numbers, each of k bits. -/
def low (k : Nat) (l : List Nat) : List Nat := if k < 64 then l.map fun x => x % 2 ^ k else l
theorem low_length (k : Nat) (l : List Nat) : (low k l).length = l.length := by unfold low; split <;> simp
theorem low_lt (k : Nat) (l : List Nat) (hk : k ≤ 64) (h : ∀ x ∈ l, x < 18446744073709551616) : ∀ x ∈ low k l, x < 2 ^ k := by
  intro x hx
  unfold low at hx
  split at hx
  · obtain ⟨y, _, rfl⟩ := List.mem_map.1 hx
    exact Nat.mod_lt _ (Nat.two_pow_pos _)
  · have : k = 64 := by omega
    subst this
    have := h x hx
    simpa using this
theorem low_64 (k : Nat) (l : List Nat) (h : ∀ x ∈ l, x < 18446744073709551616) : ∀ x ∈ low k l, x < 18446744073709551616 := by
  intro x hx
  unfold low at hx
  split at hx
  · obtain ⟨y, hy, rfl⟩ := List.mem_map.1 hx
    exact Nat.lt_of_le_of_lt (Nat.mod_le _ _) (h y hy)
  · exact h x hx
theorem bstr_len (l : List Nat) : (bstr l).size = l.length := by
  have h := congrArg List.length (bstr_toList l)
  rw [List.length_map, Array.length_toList] at h
  exact h
theorem bstr_append (a b : List Nat) : bstr (a ++ b) = bstr a ++ bstr b := by
  have h : (bstr (a ++ b)).data.toList = (bstr a ++ bstr b).data.toList := by
    rw [bstr_toList, List.map_append, ByteArray.data_append, Array.toList_append, bstr_toList, bstr_toList]
  have e : (bstr (a ++ b)).data = (bstr a ++ bstr b).data := Array.ext' h
  cases h1 : bstr (a ++ b)
  cases h2 : bstr a ++ bstr b
  rw [h1, h2] at e
  exact congrArg _ e
/-- Eight numbers and eight more. -/
theorem join_bytes (k : Nat) (a b : List Nat) (ha : a.length = 8) (hb : b.length = 8) (h1 : ∀ x ∈ a, x < 2 ^ k) (h2 : ∀ x ∈ b, x < 2 ^ k) :
    chop 8 (cat k (a ++ b)) (2 * k) = chop 8 (cat k a) k ++ chop 8 (cat k b) k := by
  have hl := cat_lt k a h1
  rw [ha, Nat.mul_comm] at hl
  rw [cat_append, ha, show k * 8 = 8 * k by omega, show 2 * k = k + k by omega, chop_append]
  congr 1
  · rw [← chop_mod 8 _ k k (Nat.le_refl _), Nat.add_mul_mod_self_left, Nat.mod_eq_of_lt hl]
  · rw [Nat.add_mul_div_left _ _ (Nat.two_pow_pos _), Nat.div_eq_of_lt hl, Nat.zero_add]

theorem low_set (k : Nat) (l : List Nat) (i : Nat) (h : i < l.length) : (low k (l.take i) ++ l.drop i).set i (if k < 64 then l[i] % 2 ^ k else l[i]) = low k (l.take (i + 1)) ++ l.drop (i + 1) := by
  rw [List.set_append_right _ _ (by rw [low_length, List.length_take]; omega), low_length, List.length_take, Nat.min_eq_left (by omega), Nat.sub_self, List.drop_eq_getElem_cons h, List.set_cons_zero, List.take_succ_eq_append_getElem h]
  unfold low
  split
  · rw [List.map_append, List.append_assoc]; rfl
  · rw [List.append_assoc]; rfl
theorem low_same (k : Nat) (l : List Nat) (i : Nat) (h : i < l.length) (hk : ¬ k < 64) : low k (l.take i) ++ l.drop i = low k (l.take (i + 1)) ++ l.drop (i + 1) := by
  unfold low
  rw [if_neg hk, if_neg hk, List.take_append_drop, List.take_append_drop]

set_option maxRecDepth 100000 in
set_option maxHeartbeats 2000000 in
theorem bitsJoin_walk (a b : List Nat) (r : Nat) (w : World) (ha : a.length = 8) (hb : b.length = 8) (h64a : ∀ x ∈ a, x < 18446744073709551616) (h64b : ∀ x ∈ b, x < 18446744073709551616) (hr : r < 256) :
    Calls Try.prog 6 #[.agg (ints .u64 a).toArray, .agg (ints .u64 b).toArray, .int .u8 r] w fun e w' => e = .returned (.bool true) ∧ Later w w' := by
  obtain ⟨w1, hw1⟩ : ∃ w1 : World, (w.alloc (.cells (ints .u64 a).toArray 35)).alloc (.cells (ints .u64 b).toArray 35) = w1 := ⟨_, rfl⟩
  have L : Later w w1 := hw1 ▸ ((Later.refl w).alloc _).alloc _
  have RA : Row w1 w.heap.size 35 .u64 a := hw1 ▸ (Row.lit w _ .u64 a).alloc _
  have RB : Row w1 (w.heap.size + 1) 35 .u64 b := by
    have h := Row.lit (w.alloc (.cells (ints .u64 a).toArray 35)) 35 .u64 b
    rw [hw1] at h
    have e : (w.alloc (.cells (ints .u64 a).toArray 35)).heap.size = w.heap.size + 1 := by simp
    rwa [e] at h
  have HW := Lib.hid hw1
  obtain ⟨k, hk⟩ : ∃ k, k = r % 65 := ⟨_, rfl⟩
  have hki : (r : Int) % 65 = (k : Int) := by omega
  have hk64 : k ≤ 64 := by omega
  have HA := Lib.hid ha
  have HB := Lib.hid hb
  clear hw1 hk ha hb
  go_enter Try.func6, Try.ntmps6
  go_wp2_with fail
  rw [HW.out]
  refine (begun_any w1).mono ?_
  rintro e w2 ⟨rfl, b2⟩
  have l2 : Later w1 w2 := b2
  have RA := l2.row RA
  have RB := l2.row RB
  have L := L.trans l2
  clear HW b2 l2
  go_wp2_with fail
  go_loopw [8] (fun i wr => ∃ j : Nat, j ≤ 8 ∧ i = .int .i64 j ∧ Row wr w.heap.size 35 .u64 (low k (a.take j) ++ a.drop j) ∧ Row wr (w.heap.size + 1) 35 .u64 (low k (b.take j) ++ b.drop j) ∧ Later w wr) (fun i _ => 8 - (intOf i).toNat)
  case atStart => exact ⟨0, Nat.zero_le _, rfl, by simpa [low] using RA, by simpa [low] using RB, L⟩
  case round =>
    obtain ⟨j, hj, rfl, ra, rb, lat⟩ := hrel
    by_cases hlt : j < 8
    · have HL := Lib.hid lat
      clear lat
      by_cases hk6 : k < 64
      · have hja : j < a.length := by rw [HA.out]; exact hlt
        have hjb : j < b.length := by rw [HB.out]; exact hlt
        obtain ⟨P, hP⟩ : ∃ P, P = 2 ^ k := ⟨_, rfl⟩
        have hP0 : 0 < P := by rw [hP]; exact Nat.two_pow_pos _
        have hPlt : P < 18446744073709551616 := by
          rw [hP]; exact Nat.lt_of_lt_of_eq (Nat.pow_lt_pow_right (by decide) hk6) (by decide)
        have hpow : (2 : Int) ^ k % 18446744073709551616 = (P : Int) := by
          have e : ((2 : Int) ^ k) = (P : Int) := by rw [hP]; simp
          rw [e]; omega
        have hpow2 : (2 : Int) ^ k = (P : Int) := by rw [hP]; simp
        have ca := ra.cell j (by simp [low_length]; omega)
        have cb := rb.cell j (by simp [low_length]; omega)
        have fa := ra.frozen j
        have fb := rb.frozen j
        rw [List.getElem_append_right (by simp [low_length]; omega)] at ca cb
        simp only [low_length, List.length_take, Nat.min_eq_left (Nat.le_of_lt hja), Nat.min_eq_left (Nat.le_of_lt hjb), Nat.sub_self, List.getElem_drop, Nat.add_zero] at ca cb
        have sa := low_set k a j hja
        have sb := low_set k b j hjb
        rw [if_pos hk6, ← hP] at sa sb
        obtain ⟨x, hx⟩ : ∃ x, x = a[j] := ⟨_, rfl⟩
        obtain ⟨y, hy⟩ : ∃ y, y = b[j] := ⟨_, rfl⟩
        have hx64 : x < 18446744073709551616 := hx ▸ h64a _ (List.getElem_mem _)
        have hy64 : y < 18446744073709551616 := hy ▸ h64b _ (List.getElem_mem _)
        rw [← hx] at ca sa
        rw [← hy] at cb sb
        have RA := Lib.hid ra
        have RB := Lib.hid rb
        have SA := Lib.hid sa
        have SB := Lib.hid sb
        clear ra rb sa sb hx hy hP
        go_wp2_with fail
        go_region
        all_goals go_wp2_with fail
        all_goals go_roundw
        case rel =>
          refine ⟨j + 1, hlt, by go_num, ?_, ?_, ((HL.out.set_ (p := ⟨w.heap.size, j, none⟩) (Nat.le_refl _) _).set_ (p := ⟨w.heap.size + 1, j, none⟩) (Nat.le_succ _) _).drew⟩
          · exact ((RA.out.set' j (x % P) ((x : Int) % (P : Int)) (by simp) _ SA.out).far (p := ⟨w.heap.size + 1, j, none⟩) (by show w.heap.size ≠ w.heap.size + 1; omega) _).drew
          · exact ((RB.out.far (p := ⟨w.heap.size, j, none⟩) (by show w.heap.size + 1 ≠ w.heap.size; omega) _).set' j (y % P) ((y : Int) % (P : Int)) (by simp) _ SB.out).drew
        case measure => simp [intOf]; omega
      · have RA := Lib.hid (low_same k a j (by rw [HA.out]; exact hlt) hk6 ▸ ra)
        have RB := Lib.hid (low_same k b j (by rw [HB.out]; exact hlt) hk6 ▸ rb)
        clear ra rb
        go_wp2_with fail
        go_roundw
        case rel => exact ⟨j + 1, hlt, by go_num, RA.out, RB.out, HL.out⟩
        case measure => simp [intOf]; omega
    · have e8a : low k (a.take j) ++ a.drop j = low k a := by
        rw [List.take_of_length_le (by rw [HA.out]; omega), List.drop_of_length_le (by rw [HA.out]; omega), List.append_nil]
      have e8b : low k (b.take j) ++ b.drop j = low k b := by
        rw [List.take_of_length_le (by rw [HB.out]; omega), List.drop_of_length_le (by rw [HB.out]; omega), List.append_nil]
      rw [e8a] at ra
      rw [e8b] at rb
      clear e8a e8b
      have hn8 : ¬ (j : Int) < 8 := by omega
      obtain ⟨x, hx⟩ : ∃ x, x = low k a := ⟨_, rfl⟩
      obtain ⟨y, hy⟩ : ∃ y, y = low k b := ⟨_, rfl⟩
      have lx : x.length = 8 := by rw [hx, low_length]; exact HA.out
      have ly : y.length = 8 := by rw [hy, low_length]; exact HB.out
      have kx : ∀ v ∈ x, v < 2 ^ k := by rw [hx]; exact low_lt k a hk64 h64a
      have ky : ∀ v ∈ y, v < 2 ^ k := by rw [hy]; exact low_lt k b hk64 h64b
      have x64 : ∀ v ∈ x, v < 18446744073709551616 := by rw [hx]; exact low_64 k a h64a
      have y64 : ∀ v ∈ y, v < 18446744073709551616 := by rw [hy]; exact low_64 k b h64b
      rw [← hx] at ra
      rw [← hy] at rb
      have HRA := Lib.hid ra
      have HRB := Lib.hid rb
      have HL := Lib.hid lat
      have KX := Lib.hid kx
      have KY := Lib.hid ky
      have LX := Lib.hid lx
      have LY := Lib.hid ly
      have X64 := Lib.hid x64
      have Y64 := Lib.hid y64
      have HZ := Lib.hid lat.size
      clear ra rb lat hx hy kx ky lx ly x64 y64
      go_wp2_with fail
      refine (put_yes (some ⟨w.heap.size, 0, none⟩) 8 8 x k k k wr.heap.size wr LX.out.symm rfl (by rw [LX.out]; omega) rfl HRA.out.rd (by rw [LX.out]; omega) X64.out hk64 ((widL_le x k).2 KX.out)).mono ?_
      rintro e wp ⟨rfl, rp, bp⟩
      have lp : Later wr wp := bp
      have HRA := Lib.hid (lp.row HRA.out)
      have HRB := Lib.hid (lp.row HRB.out)
      have HL := Lib.hid (HL.out.trans lp)
      have HRP := Lib.hid rp
      clear rp bp lp
      go_wp2_with fail
      refine (put_yes (some ⟨w.heap.size + 1, 0, none⟩) 8 8 y k k k wp.heap.size wp LY.out.symm rfl (by rw [LY.out]; omega) rfl HRB.out.rd (by rw [LY.out]; omega) Y64.out hk64 ((widL_le y k).2 KY.out)).mono ?_
      rintro e wq ⟨rfl, rq, bq⟩
      have lq : Later wp wq := bq
      have HRA := Lib.hid (lq.row HRA.out)
      have HRB := Lib.hid (lq.row HRB.out)
      have HL := Lib.hid (HL.out.trans lq)
      have HRP := Lib.hid (lq.row HRP.out)
      have HRQ := Lib.hid rq
      clear rq bq lq
      go_wp2_with fail
      have OWN := Lib.hid (((Row.lit wq 32 .u64 []).drew).own (base := wq.heap.size) (Nat.le_refl _) (by simp [maxLen]))
      have L0 : Later wq (wq.alloc (.cells (ints .u64 []).toArray 32)).drew := ((Later.refl wq).alloc _).drew
      have RX := Lib.hid ((L0.row HRA.out).rd)
      have HZ0 := Lib.hid L0.size
      have HL0 := Lib.hid L0
      clear L0
      go_region_law (first
        | (refine step_append_rd (by rfl) (.tmp 55) (.tmp 56) 22 (by rfl) wq.heap.size 32 (.int .u64 0) 8 Try.underlying22 info_u64 rfl _ 0 (ints .u64 []) (by rfl) OWN.out _ _ 8 8 (ints .u64 x) (by rfl) RX.out ?_ ?_ (ints_one _ _) ?_ ?_ ?_ ?_; (rw [ints_length, LX.out]); (intro h; cases h); (simp [maxLen]); (simp); (exact HZ0.out); intro A2 c2 w6 o2 g2 b2 n2; have HO2 := Lib.hid o2; have HL6 := Lib.hid (show Later wq w6 from Below.trans HL0.out b2); have RY := Lib.hid ((HL6.out.row HRB.out).rd); have HZ6 := Lib.hid b2.size; clear o2 g2 b2 n2)
        | (refine step_append_rd (by rfl) (.tmp 57) (.tmp 58) 22 (by rfl) wq.heap.size 32 (.int .u64 0) 8 Try.underlying22 info_u64 rfl _ 8 (ints .u64 [] ++ ints .u64 x) (by rfl) HO2.out _ _ 8 8 (ints .u64 y) (by rfl) RY.out ?_ ?_ (ints_one _ _) ?_ ?_ ?_ ?_; (rw [ints_length, LY.out]); (intro h; cases h); (simp [maxLen]); (simp); (exact Nat.le_trans HZ0.out HZ6.out); intro A3 c3 w7 o3 g3 b3 n3; have RZ := Lib.hid (show Rd w7 w7.heap.size A3 (ints .u64 (x ++ y)) from by unfold ints; rw [List.map_append]; exact Rd.own o3); have HL7 := Lib.hid (show Later wq w7 from Below.trans HL6.out b3); clear o3 g3 b3 n3)
        | (go_simp; go_at_call 9; refine (put_yes A3 _ c3 (x ++ y) k k (2 * k) w7.heap.size w7 (by rw [List.length_append, LX.out, LY.out]) rfl (by rw [List.length_append, LX.out, LY.out]; omega) rfl RZ.out (by rw [List.length_append, LX.out, LY.out]; omega) (fun v hv => (List.mem_append.1 hv).elim (X64.out v) (Y64.out v)) hk64 ((widL_le _ k).2 fun v hv => (List.mem_append.1 hv).elim (KX.out v) (KY.out v))).mono ?_; rintro e w8 ⟨rfl, r8, b8⟩; have R8 := Lib.hid r8; have HL8 := Lib.hid (show Later wq w8 from HL7.out.trans (Later.of b8)); clear r8 b8))
      have HRP := Lib.hid (HL8.out.row HRP.out)
      have HRQ := Lib.hid (HL8.out.row HRQ.out)
      have HL := Lib.hid (HL.out.trans HL8.out)
      have hj8 := join_bytes k x y LX.out LY.out KX.out KY.out
      obtain ⟨X, hX⟩ : ∃ X, X = chop 8 (cat k x) k := ⟨_, rfl⟩
      obtain ⟨Y, hY⟩ : ∃ Y, Y = chop 8 (cat k y) k := ⟨_, rfl⟩
      have lX : k = X.length := by rw [hX, chop_length]
      have lY : k = Y.length := by rw [hY, chop_length]
      rw [← hX, ← hY] at hj8
      rw [← hX] at HRP
      rw [← hY] at HRQ
      have RZ := R8.out
      rw [hj8] at RZ
      have hc1 := run_cv _ k k X lX w8 _ HRP.out.rd
      have hc2 := run_cv _ k k Y lY w8 _ HRQ.out.rd
      have hc3 := run_cv _ (2 * k) (2 * k) (X ++ Y) (by rw [List.length_append, ← lX, ← lY]; omega) w8 _ RZ.rd
      rw [bstr_append] at hc3
      obtain ⟨S, hS⟩ : ∃ S, S = bstr X := ⟨_, rfl⟩
      obtain ⟨T, hT⟩ : ∃ T, T = bstr Y := ⟨_, rfl⟩
      have hsz : ¬ 9223372036854775807 < S.size + T.size := by rw [hS, hT, bstr_len, bstr_len, ← lX, ← lY]; omega
      rw [← hS] at hc1 hc3
      rw [← hT] at hc2 hc3
      clear RZ hX hY hj8 lX lY hS hT
      all_goals go_wp2_with fail
      go_ret
      exact ⟨rfl, HL.out⟩
end Go.Proofs.Ytbmlipandjbbbaa
