/- The walks of the reference's number, pack, and of Encode of few bits. -/
import Derived.Test.YtdhaagooiioglaaDoorRefL
import Derived.Test.YtdhaagooiioglaaDoorBitsJ
import Derived.BigQuiet
namespace Go.Proofs.YtdhaagooiioglaaDoor
open Go.RowKit
set_option linter.unusedVariables false

theorem refNumber_yes (t : Int) (w : World) (h : KT t) : Calls Tryd.prog 31 #[.int .i64 t] w fun e w' => e = .returned (.bool true) ∧ w = w' := by
  rcases h with rfl | rfl | rfl
  all_goals go_enter Tryd.func31, Tryd.ntmps31
  all_goals go_wp2_with fail
  all_goals go_ret
  all_goals exact ⟨rfl, rfl⟩
theorem refNumber_no (t : Int) (w : World) (h : ¬ KT t) : Calls Tryd.prog 31 #[.int .i64 t] w fun e w' => e = .returned (.bool false) ∧ w = w' := by
  have d1 : (t == 1) = false := by rw [beq_eq_false_iff_ne]; exact fun e => h (.inl e)
  have d2 : (t == 2) = false := by rw [beq_eq_false_iff_ne]; exact fun e => h (.inr (.inl e))
  have d3 : (t == 3) = false := by rw [beq_eq_false_iff_ne]; exact fun e => h (.inr (.inr e))
  clear h
  go_enter Tryd.func31, Tryd.ntmps31
  go_wp2_with fail
  go_ret
  exact ⟨rfl, rfl⟩

/-- Where pack's first loop stands. -/
def RPInv (x0 : Int) (l : List Val3) (w : World) (pv iv : Value) (wr : World) : Prop :=
  ∃ (k : Nat) (p : Int), k ≤ l.length ∧ iv = .int .i64 k ∧ pv = .int .i64 p ∧ p = lowF x0 (l.take k) ∧ Later w wr
theorem RPInv.mk {x0 : Int} {l : List Val3} {w wr : World} (k : Nat) (p i : Int) (hk : k ≤ l.length) (hi : i = (k : Int)) (hp : p = lowF x0 (l.take k)) (lat : Later w wr) : RPInv x0 l w (.int .i64 p) (.int .i64 i) wr := by
  subst hi; exact ⟨k, p, hk, rfl, rfl, hp, lat⟩
/-- Where its second loop stands. -/
def RUInv (U : List Nat) (w : World) (uv iv : Value) (wr : World) : Prop :=
  ∃ (B : Option Addr) (cb j : Nat), j ≤ U.length ∧ iv = .int .i64 j ∧ uv = .slice B j cb ∧ wr.ownsRow w.heap.size 59 1 (.slice B j cb) j (ints .u64 (U.take j)) ∧ Later w wr
theorem RUInv.mk {U : List Nat} {w wr : World} (B : Option Addr) (m cb j : Nat) (i : Int) (hm : m = j) (hj : j ≤ U.length) (hi : i = (j : Int)) (ho : wr.ownsRow w.heap.size 59 1 (.slice B m cb) m (ints .u64 (U.take j))) (lat : Later w wr) : RUInv U w (.slice B m cb) (.int .i64 i) wr := by
  subst hm hi; exact ⟨B, cb, m, hj, rfl, rfl, ho, lat⟩

set_option maxRecDepth 100000 in
set_option maxHeartbeats 2000000 in
theorem refPack_yes (A : Option Addr) (c : Nat) (l : List Val3) (w : World) (h0 : 0 < l.length) (hl : l.length ≤ 1000) (hr : Has w A (fl l)) (h64 : All64 l) :
    Calls Tryd.prog 35 #[.slice A l.length c] w (Makes (packB l) w) := by
  obtain ⟨b, off, rfl, c0, c1, c2⟩ := hr.val3 0 h0
  obtain ⟨x0, hx0⟩ : ∃ x0, x0 = l[0].2.1 := ⟨_, rfl⟩
  have HLOW := Lib.hid (show lowI l = lowF x0 l by
    match l, h0, hx0 with
    | x :: r, _, hx0 => rw [hx0]; rfl)
  rw [← hx0] at c1
  have c1' : w.cell? ⟨b, off + 1, none⟩ = some (.int .i64 x0) := by simpa using c1
  obtain ⟨n, hn⟩ : ∃ n, n = l.length := ⟨_, rfl⟩
  obtain ⟨m, hm⟩ : ∃ m, m = lowI l := ⟨_, rfl⟩
  obtain ⟨U, hU⟩ : ∃ U, U = aboveL m l := ⟨_, rfl⟩
  obtain ⟨wd, hwd⟩ : ∃ wd, wd = widL U := ⟨_, rfl⟩
  obtain ⟨Q, hQ⟩ : ∃ Q, Q = putBits U wd := ⟨_, rfl⟩
  have HBYTES := Lib.hid (show packB l = (putNum (zig m) ++ [wd]) ++ Q by
    unfold packB
    rw [if_neg (by intro e; rw [e] at h0; cases h0), List.append_assoc, hQ, hwd, hU, hm]; rfl)
  have HMI := Lib.hid (show In64 m by rw [hm]; exact lowI_in h64)
  have HMLE := Lib.hid (show ∀ v ∈ l, m ≤ v.2.1 by rw [hm]; exact lowI_le)
  have HU64 := Lib.hid (show ∀ x ∈ U, x < 18446744073709551616 by rw [hU, hm]; exact aboveL_lt (lowI_in h64) h64)
  have HUL := Lib.hid (show U.length = n by rw [hU, hn]; exact aboveL_len m l)
  have HUG := Lib.hid (fun (j : Nat) (hj : j < l.length) (hj' : j < U.length) => (show U[j] = (l[j].2.1 - m).toNat by subst hU; simp [aboveL]))
  have HWD := Lib.hid (show wd ≤ 64 by rw [hwd]; exact widL_le64 U HU64.out)
  have HWE := Lib.hid hwd
  have HQL := Lib.hid (show Q.length ≤ 8001 by
    have h1 := HWD.out
    have h2 := HUL.out
    have h3 : U.length * wd ≤ 1000 * 64 := Nat.mul_le_mul (by omega) h1
    rw [hQ, putBits_len]; omega)
  have H64 := Lib.hid h64
  have HNL := Lib.hid hn
  have HRL := Lib.hid hr
  have HMM := Lib.hid hm
  have HQQ := Lib.hid hQ
  have hn0 : 0 < n := by omega
  have hn9 : n ≤ 1000 := by omega
  have d0 : ((n : Int) == 0) = false := by rw [beq_eq_false_iff_ne]; omega
  have i0 : (0 : Int) < (n : Int) := by omega
  rw [← hn]
  clear hr h64 h0 hl hn hm hU hwd hQ c0 c1 c2 hx0
  go_enter Tryd.func35, Tryd.ntmps35
  go_wp2_with fail
  go_loopw [3, 4] (fun pv iv wr => RPInv x0 l w pv iv wr) (fun _ i _ => n - (intOf i).toNat)
  case atStart => exact RPInv.mk 0 _ _ (Nat.zero_le _) rfl rfl (Later.refl _)
  case round =>
    obtain ⟨k, p, hk, rfl, rfl, hp, lat⟩ := hrel
    by_cases hlt : k < n
    · have hkl : k < l.length := by have := HNL.out; omega
      obtain ⟨b', off', hadr, e0, e1, e2⟩ := (HRL.out.later lat).val3 k hkl
      obtain ⟨rfl, rfl⟩ : b = b' ∧ off = off' := by injection hadr with h; injection h with h1 h2; exact ⟨h1, h2⟩
      have HK := Lib.hid (show lowF x0 (l.take (k + 1)) = min (lowF x0 (l.take k)) l[k].2.1 by rw [List.take_succ_eq_append_getElem hkl, lowF_snoc])
      rw [← hp] at HK
      generalize l[k].2.1 = i at e1 HK
      have HLAT := Lib.hid lat
      have hki : (k : Int) < (n : Int) := by omega
      have hk0 : (0 : Int) ≤ (k : Int) := by omega
      have HKL := Lib.hid hkl
      clear lat hp hadr c1' e0 e2 hkl hk
      go_wp2_with fail
      go_roundw
      case rel => exact RPInv.mk (k + 1) _ _ HKL.out (by go_num) (by first | exact HK.out.symm | (rw [HK.out, Int.min_def]; split <;> split <;> omega)) HLAT.out
      case measure => simp [intOf]; omega
    · obtain rfl : k = n := by have := HNL.out; omega
      have hpm : p = m := by rw [hp, HMM.out, HLOW.out, List.take_of_length_le (by have := HNL.out; omega)]
      subst hpm
      have L1 := Lib.hid lat
      obtain ⟨wo, hwo⟩ : ∃ wo, wo = wr := ⟨_, rfl⟩
      subst hwo
      clear hp lat c1' hk hlt
      go_wp2_with fail
      go_loopw [5, 6] (fun uv iv wr => RUInv U wo uv iv wr) (fun _ i _ => k - (intOf i).toNat)
      case atStart => exact RUInv.mk none 0 0 0 _ rfl (Nat.zero_le _) rfl (World.ownsRow_nil _ _ _ _) (Later.refl _)
      case round =>
        obtain ⟨B, cb, j, hj, rfl, rfl, hown, lat⟩ := hrel
        by_cases hlt : j < k
        · have hjl : j < l.length := by have := HNL.out; omega
          have hju : j < U.length := by have := HUL.out; omega
          obtain ⟨b', off', hadr, e0, e1, e2⟩ := (HRL.out.later (L1.out.trans lat)).val3 j hjl
          obtain ⟨rfl, rfl⟩ : b = b' ∧ off = off' := by injection hadr with h; injection h with h1 h2; exact ⟨h1, h2⟩
          have hq := HUG.out j hjl hju
          have hi := H64.out _ (List.getElem_mem hjl)
          have hmle := HMLE.out _ (List.getElem_mem hjl)
          have HREP0 := (show U.take (j + 1) = U.take j ++ [U[j]] from List.take_succ_eq_append_getElem hju)
          generalize l[j].2.1 = i at e1 hi hmle hq
          obtain ⟨q, hqq⟩ : ∃ q : Nat, q = (i - p).toNat := ⟨_, rfl⟩
          rw [hq, ← hqq] at HREP0
          have HREP := Lib.hid HREP0
          have hsub : IntKind.u64.wrap (IntKind.u64.wrap i - IntKind.u64.wrap p) = (q : Int) := by
            have h1 := HMI.out
            unfold In64 at hi h1
            rw [IntKind.wrap_u64, IntKind.wrap_u64, IntKind.wrap_u64]
            omega
          have O2 := Lib.hid (hown.alloc (.cells (ints .u64 [q]).toArray 59))
          have LT := Lib.hid (lat.alloc (.cells (ints .u64 [q]).toArray 59))
          have hji : (j : Int) < (k : Int) := by omega
          have hj0 : (0 : Int) ≤ (j : Int) := by omega
          have HJU := Lib.hid hju
          have hjk : j < 1000 := by omega
          clear hq hqq hi hmle HREP0 e0 e2 hadr hown lat hjl hju hj
          go_wp2_with (at_builtin; refine wpList_append_rd _ rfl (.tmp 35) (.tmp 45) 73 rfl wo.heap.size 59 (.int .u64 0) 8 Tryd.underlying73 info_u64 rfl _ j (ints .u64 (U.take j)) rfl O2.out _ _ 1 1 (ints .u64 [q]) rfl (rd_lit _ _ .u64 [q] _ rfl) ?_ ?_ (ints_one _ _) ?_ ?_ ?_ ?_; rfl; (intro h; cases h); (unfold maxLen; omega); omega; (exact LT.out.size); intro A2 c2 w6 o2 g2 b2 n2; have HO2 := Lib.hid o2; have HB6 := Lib.hid (Later.of (LT.out.below.trans b2)); clear o2 g2 b2 n2)
          go_roundw
          case rel => exact RUInv.mk A2 _ c2 (j + 1) _ rfl HJU.out (by go_num) (by rw [HREP.out, ints_snoc]; exact HO2.out) HB6.out
          case measure => simp [intOf]; omega
        · obtain rfl : j = k := by have := HUL.out; omega
          rw [List.take_of_length_le (by have := HUL.out; omega)] at hown
          have L2 := Lib.hid (L1.out.trans lat)
          have HUH := Lib.hid (Has.own hown)
          have HW := Lib.hid (show ∀ w', Later wr w' → Calls Tryd.prog 56 #[.slice B j cb] w' (fun e w'' => e = .returned (.int .i64 (wd : Int)) ∧ w' = w'') from fun w' lz => by
            have h := refWidth_o B j cb U w' HUL.out.symm (HUH.out.later lz) (by have := HUL.out; omega) HU64.out
            rw [← HWE.out] at h
            exact h)
          have HPT := Lib.hid (refBitsPut_o B j cb U (wd : Int) wd wr HUL.out.symm rfl HUH.out (by have := HUL.out; omega) HU64.out HWD.out (by rw [HWE.out]; exact Nat.le_refl _))
          rw [← HQQ.out] at HPT
          have HZL := Lib.hid (zig_lt p HMI.out.1 HMI.out.2)
          have HPL := Lib.hid (putNum_le (zig p))
          have hwdw : IntKind.u8.wrap (wd : Int) = (wd : Int) := by have := HWD.out; rw [IntKind.wrap_u8]; omega
          clear hown lat hj hlt
          go_wp2_with (go_at_call 56; refine (HW.out _ (Later.refl _)).mono ?_; rintro e w' ⟨rfl, rfl⟩)
          refine HPT.out.mono ?_
          intro e w3 h
          obtain ⟨QA, qc, rfl, qh, hqc1, hqc2, hqn, l3⟩ := h.yes rfl
          have L3 := Lib.hid (L2.out.trans l3)
          have LQ3 := Lib.hid l3
          have HQH := Lib.hid qh
          have HQN := Lib.hid hqn
          clear h l3 L2 HPT qh hqn
          go_wp2_with (first
            | (go_at_call 36; refine (refZig_any p _ HMI.out.1 HMI.out.2).mono ?_; rintro e w' ⟨rfl, rfl⟩)
            | (go_at_call 33; refine (refPut_makes (zig p) HZL.out _).mono ?_; rintro e w5 ⟨P, cp, rfl, o5, b5, n5⟩; have O5 := Lib.hid o5; have L5 := Lib.hid (Later.of b5); clear o5 b5 n5)
            | (go_at_call 56; refine (HW.out _ (LQ3.out.trans L5.out)).mono ?_; rintro e w' ⟨rfl, rfl⟩)
            | (at_builtin; refine wpList_append_rd _ rfl (.tmp 56) (.tmp 60) 22 rfl w3.heap.size 5 (.int .u8 0) 1 Tryd.underlying22 info_u8 rfl _ (putNum (zig p)).length (ints .u8 (putNum (zig p))) rfl (O5.out.alloc _) _ _ 1 1 (ints .u8 [wd]) rfl (rd_lit w5 _ .u8 [wd] _ rfl) ?_ ?_ (ints_one _ _) ?_ ?_ ?_ ?_; rfl; (intro h; cases h); (have := HPL.out; unfold maxLen; omega); (have := HPL.out; omega); (have := L5.out.size; simp; omega); intro A6 c6 w6 o6 g6 b6 n6; have O6 := Lib.hid o6; have L6 := Lib.hid (Later.of ((L5.out.alloc (.cells (ints .u8 [wd]).toArray 5)).below.trans b6)); have HQ6 := Lib.hid (HQH.out.later L6.out); clear o6 g6 b6 n6)
            | (at_builtin; refine wpList_append_rd _ rfl (.tmp 61) (.tmp 62) 22 rfl w3.heap.size 5 (.int .u8 0) 1 Tryd.underlying22 info_u8 rfl _ ((putNum (zig p)).length + 1) (ints .u8 (putNum (zig p)) ++ ints .u8 [wd]) rfl O6.out _ QA Q.length qc (ints .u8 Q) rfl HQ6.out ?_ HQN.out (ints_one _ _) ?_ ?_ ?_ ?_; (rw [ints_length]); (have h1 := HPL.out; have h2 := HQL.out; unfold maxLen; omega); (have h1 := HPL.out; have h2 := HQL.out; omega); (exact L6.out.size); intro A7 c7 w7 o7 g7 b7 n7; have O7 := Lib.hid o7; have L7 := Lib.hid (Later.of (L6.out.below.trans b7)); have N7 := Lib.hid n7; clear o7 g7 b7 n7))
          go_ret
          have hlen : (putNum (zig p)).length + 1 + Q.length = (packB l).length := by
            rw [HBYTES.out, List.length_append, List.length_append]; rfl
          have hcells : ints .u8 (putNum (zig p)) ++ ints .u8 [wd] ++ ints .u8 Q = ints .u8 (packB l) := by rw [HBYTES.out]; simp [ints]
          have o := O7.out
          rw [hcells, hlen] at o
          exact ⟨A7, c7, by rw [← hlen]; rfl, own_mono o L3.out.size, (L3.out.trans L7.out).below, N7.out⟩

set_option maxRecDepth 100000 in
theorem refPack_nil (A : Option Addr) (c : Nat) (w : World) : Calls Tryd.prog 35 #[.slice A 0 c] w (Makes (packB []) w) := by
  go_enter Tryd.func35, Tryd.ntmps35
  go_wp2_with fail
  go_ret
  exact ⟨none, 0, rfl, World.ownsRow_nil _ _ _ _, Below.refl _ _, fun _ => rfl⟩
theorem refPack_any (A : Option Addr) (c : Nat) (l : List Val3) (w : World) (hl : l.length ≤ 1000) (hr : Has w A (fl l)) (h64 : All64 l) :
    Calls Tryd.prog 35 #[.slice A l.length c] w (Makes (packB l) w) := by
  by_cases h0 : 0 < l.length
  · exact refPack_yes A c l w h0 hl hr h64
  · obtain rfl : l = [] := List.eq_nil_of_length_eq_zero (by omega)
    exact refPack_nil A c w

set_option maxRecDepth 100000 in
theorem refEncK_yes (t : Int) (A : Option Addr) (c : Nat) (l : List Val3) (w : World) (ht : KT t) (hl : l.length ≤ 1000) (hr : Has w A (fl l)) (ho : OkL t l) (h64 : All64 l) :
    Calls Tryd.prog 16 #[.int .i64 4, .int .i64 t, .slice A l.length c] w (OwnB (packB l) w) := by
  have HA := Lib.hid (refRight_any t A c l w (by omega) hr)
  have HT := Lib.hid (show (1 ≤ t ∧ t ≤ 4) ∧ OkL t l from ⟨by unfold KT at ht; omega, ho⟩)
  have HN := Lib.hid (fun w' => refNumber_yes t w' ht)
  have HP := Lib.hid (fun w' (lz : Later w w') => refPack_any A c l w' hl (hr.later lz) h64)
  clear ht ho hr h64
  go_enter Tryd.func16, Tryd.ntmps16
  go_wp2_with fail
  refine HA.out.mono ?_
  intro e w1 h
  obtain ⟨rfl, l1⟩ := h.yes HT.out
  have L1 := Lib.hid l1
  clear h HA l1
  go_wp2_with (go_at_call 31; refine (HN.out _).mono ?_; rintro e w' ⟨rfl, rfl⟩)
  refine (HP.out w1 L1.out).mono ?_
  rintro e w2 ⟨B, cb, rfl, own, bel, hnil⟩
  have O := Lib.hid (own_mono own L1.out.size)
  have L2 := Lib.hid (L1.out.trans (Later.of bel))
  have HN2 := Lib.hid hnil
  clear own bel hnil
  go_wp2_with fail
  go_ret2
  exact ⟨B, cb, rfl, O.out, HN2.out, L2.out⟩

set_option maxRecDepth 100000 in
theorem refEncK_not (t : Int) (A : Option Addr) (c : Nat) (l : List Val3) (w : World) (ht : ¬ KT t) (hl : l.length ≤ 2000) (hr : Has w A (fl l)) :
    Calls Tryd.prog 16 #[.int .i64 4, .int .i64 t, .slice A l.length c] w (PutsB none w) := by
  by_cases ho : (1 ≤ t ∧ t ≤ 4) ∧ OkL t l
  · have HA := Lib.hid (refRight_any t A c l w hl hr)
    have HO := Lib.hid ho
    have HN := Lib.hid (fun w' => refNumber_no t w' ht)
    clear ho hr ht
    go_enter Tryd.func16, Tryd.ntmps16
    go_wp2_with fail
    refine HA.out.mono ?_
    intro e w1 h
    obtain ⟨rfl, L1⟩ := h.yes HO.out
    clear h HA
    go_wp2_with (go_at_call 31; refine (HN.out _).mono ?_; rintro e w' ⟨rfl, rfl⟩)
    go_ret2
    exact ⟨.inl ⟨rfl, rfl⟩, L1⟩
  · exact refEnc_no 4 t A c l w hl hr ho
theorem refEncK_any (t : Int) (A : Option Addr) (c : Nat) (l : List Val3) (w : World) (hl : l.length ≤ 1000) (hr : Has w A (fl l)) (h64 : All64 l) :
    Calls Tryd.prog 16 #[.int .i64 4, .int .i64 t, .slice A l.length c] w (PutsB (putK t l) w) := by
  unfold putK
  by_cases ht : KT t
  · by_cases ho : OkL t l
    · rw [if_pos ⟨ht, ho⟩]; exact (refEncK_yes t A c l w ht hl hr ho h64).mono fun _ _ h => h.puts
    · rw [if_neg fun h => ho h.2]; exact refEnc_no 4 t A c l w (by omega) hr fun h => ho h.2
  · rw [if_neg fun h => ht h.1]; exact refEncK_not t A c l w ht (by omega) hr
theorem refEncK_own (t : Int) (A : Option Addr) (c : Nat) (l : List Val3) (pb : List Nat) (w : World) (hl : l.length ≤ 1000) (hr : Has w A (fl l)) (h64 : All64 l) (hp : putK t l = some pb) :
    Calls Tryd.prog 16 #[.int .i64 4, .int .i64 t, .slice A l.length c] w (OwnB pb w) := by
  obtain ⟨h1, h2, rfl⟩ := putK_is hp
  exact refEncK_yes t A c l w h1 hl hr h2 h64
end Go.Proofs.YtdhaagooiioglaaDoor
