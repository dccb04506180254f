
import Derived.Test.YtldalkhmbpkjpaaGreatDoorBitsJ
import Derived.Test.YtldalkhmbpkjpaaGreatDoorCell
import Derived.BigQuiet
import Derived.Test.YtldalkhmbpkjpaaGreatDoorPlainMath
/- Walks of package pack: lowest, write, Put. -/

namespace Go.Proofs.YtldalkhmbpkjpaaGreatDoor
open Go.RowKit
set_option linter.unusedVariables false

/-- Where lowest's loop stands. -/
def PLInv (x0 : Int) (l : List Val3) (w : World) (pv iv : Value) (wr : World) : Prop :=
  ∃ (k : Nat) (p : Int), k ≤ l.length ∧ iv = .int .i64 k ∧ pv = .int .i64 p ∧ p = lowF x0 (l.take k) ∧ Later w wr
theorem PLInv.mk {x0 : Int} {l : List Val3} {w wr : World} (k : Nat) (p i : Int) (hk : k ≤ l.length) (hi : i = (k : Int)) (hp : p = lowF x0 (l.take k)) (lat : Later w wr) : PLInv x0 l w (.int .i64 p) (.int .i64 i) wr := by
  subst hi; exact ⟨k, p, hk, rfl, rfl, hp, lat⟩

set_option maxRecDepth 100000 in
set_option maxHeartbeats 1000000 in
theorem packLow_any (A : Option Addr) (c : Nat) (l : List Val3) (w : World) (h0 : 0 < l.length) (hl : l.length ≤ 1000) (hr : Has w A (fl l)) :
    Calls Tryz.prog 94 #[.slice A l.length c] w fun e w' => e = .returned (.int .i64 (lowI l)) ∧ Later w w' := by
  obtain ⟨b, off, rfl, c0, c1, c2⟩ := hr.val3 0 h0
  obtain ⟨x0, hx0⟩ : ∃ x0, x0 = l[0].2.1 := ⟨_, rfl⟩
  have HLOW := Lib.hid (show lowI l = lowF x0 l by
    match l, h0, hx0 with
    | x :: r, _, hx0 => rw [hx0]; rfl)
  rw [← hx0] at c1
  have c1' : w.cell? ⟨b, off + 1, none⟩ = some (.int .i64 x0) := by simpa using c1
  have hi : (0 : Int) < (l.length : Int) := by omega
  clear c0 c1 c2 hx0
  go_enter Tryz.func94, Tryz.ntmps94
  go_wp2_with fail
  go_loopw [3, 12] (fun pv iv wr => PLInv x0 l w pv iv wr) (fun _ i _ => l.length - (intOf i).toNat)
  case atStart => exact PLInv.mk 0 _ _ (Nat.zero_le _) rfl rfl (Later.refl _)
  case round =>
    obtain ⟨k, p, hk, rfl, rfl, hp, lat⟩ := hrel
    by_cases hlt : k < l.length
    · obtain ⟨b', off', hadr, d0, d1, d2⟩ := (hr.later lat).val3 k hlt
      obtain ⟨rfl, rfl⟩ : b = b' ∧ off = off' := by injection hadr with h; injection h with h1 h2; exact ⟨h1, h2⟩
      have HK := Lib.hid (show lowF x0 (l.take (k + 1)) = min (lowF x0 (l.take k)) l[k].2.1 by rw [List.take_succ_eq_append_getElem hlt, lowF_snoc])
      rw [← hp] at HK
      generalize l[k].1 = tt at d0
      generalize l[k].2.1 = i at d1 HK
      generalize l[k].2.2 = s at d2
      have HLAT := Lib.hid (lat.alloc (.cells #[.int .i64 tt, .int .i64 i, .string s] 26))
      clear lat hr hp hadr c1'
      go_wp2_with fail
      go_roundw
      case rel => exact PLInv.mk (k + 1) _ _ hlt (by go_num) (by first | exact HK.out.symm | (rw [HK.out, Int.min_def]; split <;> split <;> omega)) HLAT.out
      case measure => simp [intOf]; omega
    · obtain rfl : k = l.length := by omega
      have HP := Lib.hid (show p = lowI l by rw [hp, HLOW.out, List.take_of_length_le (Nat.le_refl _)])
      have HL := Lib.hid lat
      clear hp lat hr c1'
      go_wp2_with fail
      go_ret
      exact ⟨by rw [HP.out]; rfl, HL.out⟩

set_option maxRecDepth 100000 in
set_option maxHeartbeats 2000000 in
theorem packWrite_yes (t : Int) (A : Option Addr) (c : Nat) (l : List Val3) (w : World) (hs : S6 w) (ht : KT t) (h0 : 0 < l.length) (hl : l.length ≤ 1000) (hr : Has w A (fl l)) (ho : OkL t l) (h64 : All64 l) :
    Calls Tryz.prog 73 #[.int .i64 t, .slice A l.length c] w (WritesB (some (packB l)) w) := by
  obtain ⟨a0, a2, a3, a4, S⟩ := hs.sn
  have HA := Lib.hid (all_yes t A c l a0 a2 a3 a4 w S (by unfold KT at ht; omega) (by omega) hr ho)
  have HLW := Lib.hid (fun w' (lz : Later w w') => packLow_any A c l w' h0 hl (hr.later lz))
  have d4 : (t == 4) = false := by rw [beq_eq_false_iff_ne]; unfold KT at ht; omega
  have d0 : ((l.length : Int) == 0) = false := by rw [beq_eq_false_iff_ne]; omega
  obtain ⟨n, hn⟩ : ∃ n, n = l.length := ⟨_, rfl⟩
  obtain ⟨m, hm⟩ : ∃ m, m = lowI l := ⟨_, rfl⟩
  obtain ⟨U, hU⟩ : ∃ U, U = aboveL m l := ⟨_, rfl⟩
  obtain ⟨wd, hwd⟩ : ∃ wd, wd = widL U := ⟨_, rfl⟩
  obtain ⟨Q, hQ⟩ : ∃ Q, Q = putBits U wd := ⟨_, rfl⟩
  have HBYTES := Lib.hid (show packB l = (putNum (zig m) ++ [wd]) ++ Q by
    unfold packB
    rw [if_neg (by intro e; rw [e] at h0; cases h0), List.append_assoc, hQ, hwd, hU, hm]; rfl)
  have HMI := Lib.hid (show In64 m by rw [hm]; exact lowI_in h64)
  have HMLE := Lib.hid (show ∀ v ∈ l, m ≤ v.2.1 by rw [hm]; exact lowI_le)
  have HU64 := Lib.hid (show ∀ x ∈ U, x < 18446744073709551616 by rw [hU, hm]; exact aboveL_lt (lowI_in h64) h64)
  have HUL := Lib.hid (show U.length = n by rw [hU, hn]; exact aboveL_len m l)
  have HUG := Lib.hid (fun (j : Nat) (hj : j < l.length) (hj' : j < U.length) => (show U[j] = (l[j].2.1 - m).toNat by subst hU; simp [aboveL]))
  have HWD := Lib.hid (show wd ≤ 64 by rw [hwd]; exact widL_le64 U HU64.out)
  have HWE := Lib.hid hwd
  have HQL := Lib.hid (show Q.length ≤ 8001 by
    have h1 := HWD.out
    have h2 := HUL.out
    have h3 : U.length * wd ≤ 1000 * 64 := Nat.mul_le_mul (by omega) h1
    rw [hQ, putBits_len]; omega)
  have H64 := Lib.hid h64
  rw [← hn] at HA HLW d0 ⊢
  have HNL := Lib.hid hn
  have HRL := Lib.hid hr
  have HMM := Lib.hid hm
  have HQQ := Lib.hid hQ
  have hn0 : 0 < n := by omega
  have hn9 : n ≤ 1000 := by omega
  rw [← hm] at HLW
  have hmk := fun W => run_make_row' (P := Tryz.prog) 62 63 (.int .u64 0) 8 Tryz.underlying62 info_u64 rfl .i64 .i64 n (by omega) (by omega) W
  clear S hs ht ho hr h64 h0 hl hn hm hU hwd hQ
  go_enter Tryz.func73, Tryz.ntmps73
  go_wp2_with fail
  refine HA.out.mono ?_
  rintro e w1 ⟨rfl, l1⟩
  have L1 := Lib.hid l1
  clear l1 HA
  go_wp2_with fail
  refine (HLW.out w1 L1.out).mono ?_
  rintro e w2 ⟨rfl, l2⟩
  have L2 := Lib.hid (L1.out.trans l2)
  clear l2 L1 HLW
  go_wp2_with fail
  clear hmk
  go_loopw [38] (fun i wr => ∃ j : Nat, j ≤ n ∧ i = .int .i64 j ∧ Row wr w2.heap.size 63 .u64 (U.take j ++ List.replicate (n - j) 0) ∧ Later w2 wr) (fun i _ => n - (intOf i).toNat)
  case atStart =>
    refine ⟨0, Nat.zero_le _, rfl, ?_, Later.new _ _⟩
    simp only [List.take_zero, List.nil_append, Nat.sub_zero]
    exact Row.made w2 _ .u64 n
  case round =>
    obtain ⟨j, hj, rfl, hrow, lat⟩ := hrel
    by_cases hlt : j < n
    · have hjl : j < l.length := by have := HNL.out; omega
      have hju : j < U.length := by have := HUL.out; omega
      obtain ⟨b, off, rfl, c0, c1, c2⟩ := (HRL.out.later (L2.out.trans lat)).val3 j hjl
      have hq := HUG.out j hjl hju
      have hi := H64.out _ (List.getElem_mem hjl)
      have hmle := HMLE.out _ (List.getElem_mem hjl)
      generalize l[j].1 = tt at c0
      generalize l[j].2.1 = i at c1 hi hmle hq
      generalize l[j].2.2 = s at c2
      obtain ⟨q, hqq⟩ : ∃ q : Nat, q = (i - m).toNat := ⟨_, rfl⟩
      have hsub : IntKind.u64.wrap (IntKind.u64.wrap i - IntKind.u64.wrap m) = (q : Int) := by
        have h1 := HMI.out
        unfold In64 at hi h1
        rw [IntKind.wrap_u64, IntKind.wrap_u64, IntKind.wrap_u64]
        omega
      have lA : Later wr (wr.alloc (.cells #[.int .i64 tt, .int .i64 i, .string s] 26)) := Later.new _ _
      have hrow2 := lA.row hrow
      have hcl := hrow2.cell j (by simp; omega)
      have hfr := hrow2.frozen j
      obtain ⟨old, hold⟩ : ∃ old : Int, (wr.alloc (.cells #[.int .i64 tt, .int .i64 i, .string s] 26)).cell? ⟨w2.heap.size, j, none⟩ = some (.int .u64 old) := ⟨_, hcl⟩
      have HN := Lib.hid (hrow2.set' j q (q : Int) rfl _ (set_fill U j n HUL.out hlt q (by rw [hqq, ← hq])))
      have HB := Lib.hid (Later.of ((lat.trans lA).below.setCell (p := ⟨w2.heap.size, j, none⟩) (Nat.le_refl _) (.int .u64 (q : Int))))
      clear hcl hrow hrow2 lat lA hq hqq hi hmle
      go_wp2_with fail
      go_roundw
      case rel => exact ⟨j + 1, hlt, by go_num, HN.out, HB.out⟩
      case measure => simp [intOf]; omega
    · have hfin : U.take j ++ List.replicate (n - j) 0 = U := by
        rw [show n - j = 0 by omega, List.replicate_zero, List.append_nil, List.take_of_length_le (by have := HUL.out; omega)]
      rw [hfin] at hrow
      have L3 := Lib.hid (L2.out.trans lat)
      have HROW := Lib.hid hrow
      have HW := Lib.hid (width_o (some ⟨w2.heap.size, 0, none⟩) n n U wr HUL.out.symm (Has.row hrow) (by have := HUL.out; omega) HU64.out)
      have HPT := Lib.hid (bitsPut_o (some ⟨w2.heap.size, 0, none⟩) n n U (wd : Int) wd wr HUL.out.symm rfl (Has.row hrow) (by have := HUL.out; omega) HU64.out HWD.out (by rw [HWE.out]; exact Nat.le_refl _))
      rw [← HWE.out] at HW
      rw [← HQQ.out] at HPT
      clear hrow lat hfin
      go_wp2_with (go_at_call 95; refine HW.out.mono ?_; rintro e w' ⟨rfl, rfl⟩)
      refine HPT.out.mono ?_
      intro e w3 h
      obtain ⟨QA, qc, rfl, qh, hqc1, hqc2, hqn, l3⟩ := h.yes rfl
      have L4 := Lib.hid (L3.out.trans l3)
      have HQH := Lib.hid qh
      have HQN := Lib.hid hqn
      have HZL := Lib.hid (zig_lt m HMI.out.1 HMI.out.2)
      have HPL := Lib.hid (putNum_le (zig m))
      have hwdw : IntKind.u8.wrap (wd : Int) = (wd : Int) := by have := HWD.out; rw [IntKind.wrap_u8]; omega
      clear h l3 L3 HPT HW HROW qh hqn
      go_wp2_with (first
        | (go_at_call 96; refine (zig_any m _ HMI.out.1 HMI.out.2).mono ?_; rintro e w' ⟨rfl, rfl⟩)
        | (go_at_call 88; refine (put_makes (zig m) HZL.out _).mono ?_; rintro e w5 ⟨P, cp, rfl, o5, b5, n5⟩; have O5 := Lib.hid o5; have L5 := Lib.hid (Later.of b5); clear o5 b5 n5)
        | (at_builtin; refine wpList_append_rd _ rfl (.tmp 68) (.tmp 71) 22 rfl w3.heap.size 5 (.int .u8 0) 1 Tryz.underlying22 info_u8 rfl _ (putNum (zig m)).length (ints .u8 (putNum (zig m))) rfl (O5.out.alloc _) _ _ 1 1 (ints .u8 [wd]) rfl (rd_lit w5 _ .u8 [wd] _ rfl) ?_ ?_ (ints_one _ _) ?_ ?_ ?_ ?_; rfl; (intro h; cases h); (have := HPL.out; unfold maxLen; omega); (have := HPL.out; omega); (have := L5.out.size; simp; omega); intro A6 c6 w6 o6 g6 b6 n6; have O6 := Lib.hid o6; have L6 := Lib.hid (Later.of ((L5.out.alloc (.cells (ints .u8 [wd]).toArray 5)).below.trans b6)); have HQ6 := Lib.hid (HQH.out.later L6.out); clear o6 g6 b6 n6)
        | (at_builtin; refine wpList_append_rd _ rfl (.tmp 73) (.tmp 74) 22 rfl w3.heap.size 5 (.int .u8 0) 1 Tryz.underlying22 info_u8 rfl _ ((putNum (zig m)).length + 1) (ints .u8 (putNum (zig m)) ++ ints .u8 [wd]) rfl O6.out _ QA Q.length qc (ints .u8 Q) rfl HQ6.out ?_ HQN.out (ints_one _ _) ?_ ?_ ?_ ?_; (rw [ints_length]); (have h1 := HPL.out; have h2 := HQL.out; unfold maxLen; omega); (have h1 := HPL.out; have h2 := HQL.out; omega); (exact L6.out.size); intro A7 c7 w7 o7 g7 b7 n7; have O7 := Lib.hid o7; have L7 := Lib.hid (Later.of (L6.out.below.trans b7)); have N7 := Lib.hid n7; clear o7 g7 b7 n7))
      go_ret2
      have hlen : (putNum (zig m)).length + 1 + Q.length = (packB l).length := by
        rw [HBYTES.out, List.length_append, List.length_append]; rfl
      have hcells : ints .u8 (putNum (zig m)) ++ ints .u8 [wd] ++ ints .u8 Q = ints .u8 (packB l) := by rw [HBYTES.out]; simp [ints]
      have o := O7.out
      rw [hcells] at o
      have o1 := own_cap o
      exact ⟨.inr ⟨packB l, A7, c7, rfl, by rw [← hlen]; rfl, Has.own o, by omega, own_capmax o, N7.out⟩, L4.out.trans L7.out⟩

set_option maxRecDepth 100000 in
theorem packWrite_nil (t : Int) (A : Option Addr) (c : Nat) (w : World) (hs : S6 w) (ht : KT t) :
    Calls Tryz.prog 73 #[.int .i64 t, .slice A 0 c] w (WritesB (some []) w) := by
  obtain ⟨a0, a2, a3, a4, S⟩ := hs.sn
  have HA := Lib.hid (all_yes t A c [] a0 a2 a3 a4 w S (by unfold KT at ht; omega) (by simp) (Has.nil_) (fun x hx => by cases hx))
  have d4 : (t == 4) = false := by rw [beq_eq_false_iff_ne]; unfold KT at ht; omega
  clear S hs ht
  go_enter Tryz.func73, Tryz.ntmps73
  go_wp2_with fail
  refine HA.out.mono ?_
  rintro e w1 ⟨rfl, l1⟩
  go_wp2_with fail
  go_ret2
  exact ⟨.inr ⟨[], none, 0, rfl, rfl, Has.nil_, Nat.le_refl _, by decide, fun _ => rfl⟩, l1⟩

set_option maxRecDepth 100000 in
theorem packWrite_no (t : Int) (A : Option Addr) (c : Nat) (l : List Val3) (w : World) (hs : S6 w) (hl : l.length ≤ 1000) (hr : Has w A (fl l)) (ho : ¬ (KT t ∧ OkL t l)) :
    Calls Tryz.prog 73 #[.int .i64 t, .slice A l.length c] w (WritesB none w) := by
  have hif : Tryz.prog.isIface 40 = true := by kernel_rfl
  by_cases ht : t = 4
  · have d4 : (t == 4) = true := by simp [ht]
    obtain ⟨a, hc⟩ := hs.type
    clear hs ho hr ht
    go_enter Tryz.func73, Tryz.ntmps73
    go_wp2_with (go_at_call 27; refine (at_l _ _ _ _).mono ?_; rintro e w1 ⟨q, rfl, l1⟩)
    go_ret2
    exact ⟨.inl ⟨rfl, q, rfl⟩, l1⟩
  · have d4 : (t == 4) = false := by rw [beq_eq_false_iff_ne]; exact ht
    obtain ⟨a0, a2, a3, a4, S⟩ := hs.sn
    have HA := Lib.hid (all_no t A c l a0 a2 a3 a4 w S (by omega) hr fun h => ho ⟨by unfold KT; omega, h.2⟩)
    clear S hs ho hr ht
    go_enter Tryz.func73, Tryz.ntmps73
    go_wp2_with fail
    refine HA.out.mono ?_
    rintro e w1 ⟨v, rfl, ⟨p, rfl⟩, l1⟩
    have heq := run_eql_iface_nil (P := Tryz.prog) (w := w1) 40 hif 82 (.pointer (some p))
    go_wp2_with fail
    go_ret2
    exact ⟨.inl ⟨rfl, p, rfl⟩, l1⟩

theorem packWrite_any (t : Int) (A : Option Addr) (c : Nat) (l : List Val3) (w : World) (hs : S6 w) (hl : l.length ≤ 1000) (hr : Has w A (fl l)) (h64 : All64 l) :
    Calls Tryz.prog 73 #[.int .i64 t, .slice A l.length c] w (WritesB (putK t l) w) := by
  unfold putK
  by_cases h : KT t ∧ OkL t l
  · rw [if_pos h]
    by_cases h0 : 0 < l.length
    · exact packWrite_yes t A c l w hs h.1 h0 hl hr h.2 h64
    · obtain rfl : l = [] := List.eq_nil_of_length_eq_zero (by omega)
      exact packWrite_nil t A c w hs h.1
  · rw [if_neg h]; exact packWrite_no t A c l w hs hl hr h

set_option maxRecDepth 100000 in
theorem packPut_any (t : Int) (A : Option Addr) (c : Nat) (l : List Val3) (w : World) (hs : S6 w) (hl : l.length ≤ 1000) (hr : Has w A (fl l)) (h64 : All64 l) :
    Calls Tryz.prog 53 #[.int .i64 t, .slice A l.length c] w (PutsB (putK t l) w) := by
  have HC := Lib.hid (packWrite_any t A c l w hs hl hr h64)
  clear hs hr h64 hl
  go_enter Tryz.func53, Tryz.ntmps53
  go_wp2_with fail
  refine HC.out.mono ?_
  rintro e w1 ⟨⟨ho, p, rfl⟩ | ⟨b, B, cb, ho, rfl, h1, h2, h3, h4⟩, l1⟩
  · go_wp2_with (go_at_call 17; refine (listB_no _ _ _ p _).mono ?_; rintro e w' ⟨rfl, rfl⟩)
    go_ret2
    exact ⟨.inl ⟨ho, rfl⟩, l1⟩
  · have H := Lib.hid (show PutsB (putK t l) w (.returned (.tuple #[.slice B b.length cb, .bool true])) w1 from ⟨.inr ⟨b, B, cb, ho, rfl, h1, h2, h3, h4⟩, l1⟩)
    clear ho h1 h2 h3 h4 l1
    go_wp2_with (go_at_call 17; refine (listB_yes _ _ _ _).mono ?_; rintro e w' ⟨rfl, rfl⟩)
    go_ret2
    exact H.out
end Go.Proofs.YtldalkhmbpkjpaaGreatDoor

/- Walks of package pack: read, Take. -/

namespace Go.Proofs.YtldalkhmbpkjpaaGreatDoor
open Go.RowKit
set_option linter.unusedVariables false

theorem packWrite_n (t : Int) (A : Option Addr) (n c : Nat) (l : List Val3) (w : World) (hn : n = l.length) (hs : S6 w) (hl : l.length ≤ 1000) (hr : Has w A (fl l)) (h64 : All64 l) :
    Calls Tryz.prog 73 #[.int .i64 t, .slice A n c] w (WritesB (putK t l) w) := by
  subst hn; exact packWrite_any t A c l w hs hl hr h64
/-- Where read's loop stands. -/
def PRInv (t z : Int) (us : List Nat) (w wb : World) (lv iv : Value) (wr : World) : Prop :=
  ∃ (L : Option Addr) (cl j : Nat), lv = .slice L j cl ∧ iv = .int .i64 (j : Int) ∧ j ≤ us.length ∧ wr.ownsRow wb.heap.size 26 3 (.slice L j cl) j (fl (unpackV t z (us.take j))) ∧ Later wb wr
theorem PRInv.mk {t z : Int} {us : List Nat} {w wb wr : World} (L : Option Addr) (cl m j : Nat) (i : Int) (hm : m = j) (hi : i = (j : Int)) (h1 : j ≤ us.length) (h2 : wr.ownsRow wb.heap.size 26 3 (.slice L m cl) m (fl (unpackV t z (us.take j)))) (h3 : Later wb wr) : PRInv t z us w wb (.slice L m cl) (.int .i64 i) wr := by
  subst hm hi; exact ⟨L, cl, m, rfl, rfl, h1, h2, h3⟩

set_option maxRecDepth 100000 in
set_option maxHeartbeats 4000000 in
theorem packRead_yes (t : Int) (n : Nat) (A : Option Addr) (c : Nat) (b : List Nat) (w : World) (hs : S6 w) (ht : 1 ≤ t ∧ t ≤ 4) (hn : n ≤ 1000) (hr : Has w A (ints .u8 b)) (h256 : ∀ x ∈ b, x < 256) (hb : b.length ≤ 1000000) (hbc : b.length ≤ c) (hc : c ≤ 9223372036854775807) :
    Calls Tryz.prog 82 #[.int .i64 t, .int .i64 n, .slice A b.length c] w (WritesV (takeK t n b) w) := by
  have HC := Lib.hid (count_yes t n w ht (by omega))
  obtain ⟨o, ho⟩ : ∃ o, o = takeK t n b := ⟨_, rfl⟩
  have hoe : o = (match readK t n b with | none => none | some l => if putK t l = some b then some l else none) := by
    rw [ho]; unfold takeK; rw [if_pos ⟨ht, by omega, by omega⟩]; rfl
  have HON := Lib.hid (fun (h : readK t n b = none) => (show o = none by rw [hoe, h]))
  have HOY := Lib.hid (fun (l : List Val3) (h : readK t n b = some l) (hp : putK t l = some b) => (show o = some l by rw [hoe, h]; simp only; rw [if_pos hp]))
  have HOX := Lib.hid (fun (l : List Val3) (h : readK t n b = some l) (hp : putK t l ≠ some b) => (show o = none by rw [hoe, h]; simp only; rw [if_neg hp]))
  rw [← ho]
  have HS := Lib.hid hs
  have HR := Lib.hid hr
  have H256 := Lib.hid h256
  by_cases h0 : n = 0
  · have d0 : decide ((0 : Int) < (n : Int)) = false := by simp; omega
    have d1 : decide (0 < n) = false := by simp; omega
    have d2 : ¬ 0 < n := by omega
    have HRK := Lib.hid (show readK t n b = some [] by rw [h0]; rfl)
    clear ht ho hoe hs hr h256 h0
    go_enter Tryz.func82, Tryz.ntmps82
    go_wp2_with (go_at_call 42; refine HC.out.mono ?_; rintro e w' ⟨rfl, rfl⟩)
    have HW := Lib.hid (packWrite_n t none 0 0 [] w rfl HS.out (Nat.zero_le _) Has.nil_ (fun x hx => by cases hx))
    have LX := Lib.hid (Later.refl w)
    go_wp2_with fail
    refine HW.out.mono ?_
    rintro e wY ⟨⟨hp, p, rfl⟩ | ⟨pb, PA, pc, hp, rfl, ph, _, _, _⟩, lY⟩
    · have HO := Lib.hid (HOX.out [] HRK.out (by rw [hp]; simp))
      have LY := Lib.hid (LX.out.trans lY)
      clear hp lY HW
      go_wp2_with (go_at_call 105; refine (cellSame_err _ _ _ _ _ _ _ _ _ p _).mono ?_; rintro e w' ⟨rfl, rfl⟩)
      go_ret2
      exact ⟨.inl ⟨HO.out, p, rfl⟩, LY.out⟩
    · have LY := Lib.hid (LX.out.trans lY)
      by_cases heq : pb = b
      · have HO := Lib.hid (HOY.out [] HRK.out (by rw [hp, heq]))
        have HSM := Lib.hid (cellSame_yes none A PA 0 0 b.length c pb.length pc b wY rfl (by rw [heq]) (HR.out.later LY.out) (heq ▸ ph))
        clear hp lY HW heq ph
        go_wp2_with (go_at_call 105; refine HSM.out.mono ?_; rintro e w' ⟨rfl, rfl⟩)
        go_ret2
        exact ⟨.inr ⟨[], none, 0, HO.out, rfl, Has.nil_, Nat.le_refl _, by decide⟩, LY.out⟩
      · have HO := Lib.hid (HOX.out [] HRK.out (by rw [hp]; intro e; injection e with e; exact heq e))
        have HSM := Lib.hid (cellSame_no none A PA 0 0 b.length c pb.length pc b pb wY (HS.out.later LY.out) rfl rfl (HR.out.later LY.out) ph (putK_lt (fun x hx => by cases hx) hp) H256.out heq)
        clear hp lY HW heq ph
        go_wp2_with (go_at_call 105; refine HSM.out.mono ?_; rintro e w' ⟨⟨q, rfl⟩, lS⟩)
        go_ret2
        exact ⟨.inl ⟨HO.out, q, rfl⟩, LY.out.trans lS⟩
  · have d0 : decide ((0 : Int) < (n : Int)) = true := decide_eq_true (by omega)
    have d1 : decide (0 < n) = true := decide_eq_true (by omega)
    have d2 : 0 < n := by omega
    have hi0 : (0 : Int) < (n : Int) := by omega
    obtain ⟨aN, hN⟩ := hs.num
    have HTN := Lib.hid (take_num A b.length c b aN w w.heap.size rfl hr h256 hb hN)
    have HRK0 := Lib.hid (show ∀ hT : takeNum b = none, readK t n b = none from fun hT => by unfold readK; rw [if_neg h0, hT])
    have HRK1 := Lib.hid (show ∀ u k, takeNum b = some (u, k) → b.drop k = [] → readK t n b = none from fun u k hT hd => by unfold readK; rw [if_neg h0, hT]; simp only; rw [hd])
    have HRK2 := Lib.hid (show ∀ u k wd r, takeNum b = some (u, k) → b.drop k = wd :: r → readK t n b = (takeBits r n wd).map (unpackV t (zag u)) from fun u k wd r hT hd => by unfold readK; rw [if_neg h0, hT]; simp only; rw [hd])
    clear ht ho hoe hs hr h256 h0 hN
    go_enter Tryz.func82, Tryz.ntmps82
    go_wp2_with (go_at_call 42; refine HC.out.mono ?_; rintro e w' ⟨rfl, rfl⟩)
    refine HTN.out.mono ?_
    rintro e w2 ⟨u, k, ok, hT0, rfl, b2⟩
    have L2 := Lib.hid (Later.of b2)
    clear b2 HTN HC
    rcases takeR_some hT0 with ⟨rfl, hT⟩ | ⟨rfl, hT⟩
    · obtain ⟨hu64, hk1, hk3⟩ := takeNum_is H256.out hT
      have hkb : k ≤ b.length := by rw [hk1]; exact hk3.length_le
      have hk10 : k ≤ 10 := by rw [hk1]; exact putNum_le u
      have HU := Lib.hid hu64
      by_cases hk : k = b.length
      · have HO := Lib.hid (HON.out (HRK1.out u k hT (List.drop_of_length_le (by omega))))
        have e0 : ((k : Int) == (b.length : Int)) = true := by simp [hk]
        have HSX := Lib.hid (HS.out.later L2.out)
        obtain ⟨sv, hsv⟩ := HSX.out.short
        clear hT hk1 hk3 hu64 hT0 hk
        go_wp2_with (go_at_call 27; refine (at_l _ _ _ _).mono ?_; rintro e w5 ⟨q, rfl, l5⟩)
        go_ret2
        exact ⟨.inl ⟨HO.out, q, rfl⟩, L2.out.trans l5⟩
      · have e0 : ((k : Int) == (b.length : Int)) = false := by rw [beq_eq_false_iff_ne]; omega
        have hkl : k < b.length := by omega
        obtain ⟨wd, hwd⟩ : ∃ wd, wd = b[k] := ⟨_, rfl⟩
        obtain ⟨r, hrr⟩ : ∃ r, r = b.drop (k + 1) := ⟨_, rfl⟩
        have hd : b.drop k = wd :: r := by rw [hwd, hrr]; exact List.drop_eq_getElem_cons hkl
        have HRKM := Lib.hid (HRK2.out u k wd r hT hd)
        have HRKN := Lib.hid (fun (h : takeBits r n wd = none) => (show readK t n b = none by rw [HRKM.out, h]; rfl))
        have HRKS := Lib.hid (fun us (h : takeBits r n wd = some us) => (show readK t n b = some (unpackV t (zag u) us) by rw [HRKM.out, h]; rfl))
        have hrl : r.length = b.length - (k + 1) := by rw [hrr, List.length_drop]
        have hwd256 : wd < 256 := by rw [hwd]; exact H256.out _ (List.getElem_mem hkl)
        obtain ⟨bb, off, rfl, hcell⟩ : ∃ bb off, A = some ⟨bb, off, none⟩ ∧ w.cell? ⟨bb, off + k, none⟩ = some (.int .u8 (wd : Int)) := by
          rcases HR.out with h | ⟨bb, off, h1, _, hc⟩
          · have h2 : b.length = 0 := by have h := congrArg List.length h; rw [ints_length] at h; exact h
            omega
          · exact ⟨bb, off, h1, hc k _ (by rw [ints_get _ _ _ hkl, hwd])⟩
        have HRD := Lib.hid (show Has w (some ⟨bb, off + (k + 1), none⟩) (ints .u8 r) from by have h := HR.out.drop (k + 1); rw [show (ints .u8 b).drop (k + 1) = ints .u8 (b.drop (k + 1)) by simp [ints, List.map_drop], ← hrr] at h; exact h)
        have HR256 := Lib.hid (show ∀ x ∈ r, x < 256 by rw [hrr]; exact fun x hx => H256.out x (List.mem_of_mem_drop hx))
        obtain ⟨k1, hk1'⟩ : ∃ k1, k1 = k + 1 := ⟨_, rfl⟩
        rw [← hk1'] at HRD
        have hk1w : IntKind.i64.wrap ((k : Int) + 1) = (k1 : Int) := by rw [IntKind.wrap_i64]; omega
        have hwdw : IntKind.i64.wrap (wd : Int) = (wd : Int) := IntWalk.i64_in _ ⟨by omega, by omega⟩
        have i1 : (0 : Int) ≤ (k1 : Int) := by omega
        have i2 : (k1 : Int) ≤ (b.length : Int) := by omega
        have i3 : (k : Int) < (b.length : Int) := by omega
        have i4 : (0 : Int) ≤ (k : Int) := by omega
        have i5 : k1 ≤ b.length := by omega
        have hce : w2.drew.cell? ⟨bb, off + k, none⟩ = some (.int .u8 (wd : Int)) := by have h := L2.out.cell hcell; exact h
        have hrl2 : r.length = b.length - k1 := by omega
        have HTK := Lib.hid (fun (A' : Option Addr) (m' c' : Nat) (zn zk : Int) (w' : World) (lz : Later w2 w') (hA : A' = some ⟨bb, off + k1, none⟩ ∨ r = []) (hm : m' = r.length) (hc' : r.length ≤ c') (hzn : zn = (n : Int)) (hzk : zk = (wd : Int)) => bitsTake_o A' m' c' r zn zk n wd w' hm hzn hzk (by
          rcases hA with hA | hA
          · rw [hA]; exact HRD.out.later (L2.out.trans lz)
          · rw [hA]; exact Has.nil_) HR256.out (by omega) hc')
        clear hT hk1 hk3 hu64 hT0 hk hwd hrr hd HRK0 HRK1 HRK2 hcell hrl hk1' HRD HR256
        by_cases hcm : c = k1
        · have HR0 := Lib.hid (show r = [] from List.eq_nil_of_length_eq_zero (by omega))
          subst hcm
          cases htb : takeBits r n wd with
          | none =>
            have HO := Lib.hid (HON.out (HRKN.out htb))
            have HTB := Lib.hid htb
            clear htb
            go_wp2_with fail
            first
              | go_region_law (first
                  | (go_simp; go_at_call 104; refine (HTK.out _ _ _ _ _ _ ((Later.refl _).drew) (by first | exact .inl rfl | exact .inr HR0.out) (by first | rfl | omega) (by omega) rfl rfl).mono ?_; intro e wX h; obtain ⟨rfl, lX⟩ := h.no HTB.out; have LX := Lib.hid (L2.out.trans ((Later.refl w2).drew.trans lX)); clear h lX))
              | fail "no walk"
            all_goals try simp [Act.put]
            have HSX := Lib.hid (HS.out.later LX.out)
            obtain ⟨sv, hsv⟩ := HSX.out.value
            go_wp2_with (go_at_call 27; refine (at_l _ _ _ _).mono ?_; rintro e w5 ⟨q, rfl, l5⟩)
            go_ret2
            exact ⟨.inl ⟨HO.out, q, rfl⟩, LX.out.trans l5⟩
          | some us =>
            have HTB := Lib.hid htb
            have HUN := Lib.hid (takeBits_len htb).1
            have HU64 := Lib.hid (takeBits_lt htb)
            have HRK := Lib.hid (HRKS.out us htb)
            clear htb
            go_wp2_with fail
            first
              | go_region_law (first
                  | (go_simp; go_at_call 104; refine (HTK.out _ _ _ _ _ _ ((Later.refl _).drew) (by first | exact .inl rfl | exact .inr HR0.out) (by first | rfl | omega) (by omega) rfl rfl).mono ?_; intro e wX h; obtain ⟨UA, uc, rfl, uh, lX⟩ := h.yes HTB.out; have LX := Lib.hid (L2.out.trans ((Later.refl w2).drew.trans lX)); have HUH := Lib.hid uh; clear h lX uh))
              | fail "no walk"
            all_goals try simp [Act.put]
            clear hce hrl2 HTK hk1w hwdw i1 i2 i3 i4 i5 e0 hkb hk10 hkl hwd256
            go_wp2_with fail
            go_loopw [9, 64] (fun lv iv wr => PRInv t (zag u) us w wX lv iv wr) (fun _ iv _ => us.length - (intOf iv).toNat)
            case atStart => exact PRInv.mk none 0 0 0 0 rfl rfl (Nat.zero_le _) (ownG_nil _ _ _ _) (Later.refl _)
            case round =>
              obtain ⟨L, cl, j, rfl, rfl, hj, hown, lat⟩ := hrel
              by_cases hlt : j < us.length
              · obtain ⟨ub, uo, rfl, hcell⟩ : ∃ ub uo, UA = some ⟨ub, uo, none⟩ ∧ wr.cell? ⟨ub, uo + j, none⟩ = some (.int .u64 ((us[j] : Nat) : Int)) := by
                  rcases HUH.out.later lat with h | ⟨ub, uo, h1, _, hc⟩
                  · have h2 : us.length = 0 := by have h := congrArg List.length h; rw [ints_length] at h; exact h
                    omega
                  · exact ⟨ub, uo, h1, hc j _ (by rw [ints_get _ _ _ hlt])⟩
                have ha := HU64.out _ (List.getElem_mem hlt)
                have HREP := Lib.hid (show unpackV t (zag u) (us.take (j + 1)) = unpackV t (zag u) (us.take j) ++ [(t, w64 (zag u + ((us[j] : Nat) : Int)), ⟨#[]⟩)] by
                  unfold unpackV; rw [List.take_succ_eq_append_getElem hlt, List.map_append]; rfl)
                generalize us[j] = a at hcell ha HREP
                obtain ⟨v, hv⟩ : ∃ v, v = w64 (zag u + (a : Int)) := ⟨_, rfl⟩
                rw [← hv] at HREP
                have hvw : IntKind.i64.wrap (IntKind.u64.wrap (IntKind.u64.wrap (zag u) + (a : Int))) = v := by
                  rw [hv]; unfold w64
                  rw [IntKind.wrap_u64, IntKind.wrap_u64, IntKind.wrap_i64, IntKind.wrap_i64]
                  omega
                have HAS := Lib.hid ((Blk.new wr (fl [(t, v, (⟨#[]⟩ : ByteArray))]).toArray 26 _ rfl).has)
                have O2 := Lib.hid (hown.alloc (.cells (fl [(t, v, (⟨#[]⟩ : ByteArray))]).toArray 26))
                have LT2 := Lib.hid (lat.alloc (.cells (fl [(t, v, (⟨#[]⟩ : ByteArray))]).toArray 26))
                have HJ9 := Lib.hid (show j < 1000 by have := HUN.out; omega)
                have hj9 : j < 1000 := HJ9.out
                clear hown lat hv ha
                go_wp2_with (first
                  | (go_at_call 107; refine (zag_any u _ HU.out).mono ?_; rintro e w' ⟨rfl, rfl⟩)
                  | (at_builtin; refine wpList_append_g _ rfl (.tmp 68) (.tmp 77) 23 rfl wX.heap.size 26 (vagg 0 0 ⟨#[]⟩) 3 32 Tryz.underlying23 info_v rfl (by decide) _ j (fl (unpackV t (zag u) (us.take j))) rfl O2.out _ 1 1 (fl [(t, v, (⟨#[]⟩ : ByteArray))]) rfl HAS.out (by rfl) (by intro h; cases h) (fl_one _) (by have := HJ9.out; unfold maxLen; omega) (by have := HJ9.out; omega) ?_ ?_; (exact LT2.out.size); intro A2 c2 w6 o2 g2 b2 n2; have HO2 := Lib.hid o2; have HB6 := Lib.hid (Later.of (LT2.out.below.trans b2)); clear o2 g2 b2 n2))
                go_roundw
                case rel => exact PRInv.mk A2 c2 _ (j + 1) _ rfl (by omega) hlt (by rw [HREP.out, fl_append]; exact HO2.out) HB6.out
                case measure => simp [intOf]; omega
              · obtain rfl : j = us.length := by omega
                obtain ⟨l, hl⟩ : ∃ l, l = unpackV t (zag u) us := ⟨_, rfl⟩
                rw [List.take_of_length_le (Nat.le_refl _), ← hl] at hown
                rw [← hl] at HRK
                obtain ⟨nl, hnl'⟩ : ∃ nl, nl = us.length := ⟨_, rfl⟩
                have hnl : nl = l.length := by rw [hl, hnl']; unfold unpackV; rw [List.length_map]
                rw [← hnl'] at hown hlt ⊢
                have HLH := Lib.hid (Has.ownG hown)
                have HCP := Lib.hid (And.intro (ownG_cap hown) (ownG_capmax hown))
                have HLN := Lib.hid (show l.length ≤ 1000 by have := HUN.out; omega)
                have HL64 := Lib.hid (readK_is HRK.out).2
                have LX := Lib.hid (LX.out.trans lat)
                have HSX := Lib.hid (HS.out.later LX.out)
                clear hown lat hl hnl' HUN
                have HW := Lib.hid (packWrite_n t L nl cl l wr hnl HSX.out HLN.out HLH.out HL64.out)
                have HNL := Lib.hid hnl
                clear hnl
                go_wp2_with fail
                refine HW.out.mono ?_
                rintro e wY ⟨⟨hp, p, rfl⟩ | ⟨pb, PA, pc, hp, rfl, ph, _, _, _⟩, lY⟩
                · have HO := Lib.hid (HOX.out l HRK.out (by rw [hp]; simp))
                  have LY := Lib.hid (LX.out.trans lY)
                  clear hp lY HW
                  go_wp2_with (go_at_call 105; refine (cellSame_err _ _ _ _ _ _ _ _ _ p _).mono ?_; rintro e w' ⟨rfl, rfl⟩)
                  go_ret2
                  exact ⟨.inl ⟨HO.out, p, rfl⟩, LY.out⟩
                · have LY := Lib.hid (LX.out.trans lY)
                  have HLY := Lib.hid (HLH.out.later lY)
                  by_cases heq : pb = b
                  · have HO := Lib.hid (HOY.out l HRK.out (by rw [hp, heq]))
                    have HSM := Lib.hid (cellSame_yes L (some ⟨bb, off, none⟩) PA nl cl b.length c pb.length pc b wY rfl (by rw [heq]) (HR.out.later LY.out) (heq ▸ ph))
                    clear hp lY HW heq ph
                    go_wp2_with (go_at_call 105; refine HSM.out.mono ?_; rintro e w' ⟨rfl, rfl⟩)
                    go_ret2
                    refine ⟨.inr ⟨l, L, cl, HO.out, ?_, HLY.out, by have := HNL.out; have := HCP.out; omega⟩, LY.out⟩
                    rw [← HNL.out]
                    rfl
                  · have HO := Lib.hid (HOX.out l HRK.out (by rw [hp]; intro e; injection e with e; exact heq e))
                    have HSM := Lib.hid (cellSame_no L (some ⟨bb, off, none⟩) PA nl cl b.length c pb.length pc b pb wY (HS.out.later LY.out) rfl rfl (HR.out.later LY.out) ph (putK_lt HL64.out hp) H256.out heq)
                    clear hp lY HW heq ph
                    go_wp2_with (go_at_call 105; refine HSM.out.mono ?_; rintro e w' ⟨⟨q, rfl⟩, lS⟩)
                    go_ret2
                    exact ⟨.inl ⟨HO.out, q, rfl⟩, LY.out.trans lS⟩
        · have HR0 := Lib.hid (trivial : True)
          cases htb : takeBits r n wd with
          | none =>
            have HO := Lib.hid (HON.out (HRKN.out htb))
            have HTB := Lib.hid htb
            clear htb
            go_wp2_with fail
            first
              | go_region_law (first
                  | (go_simp; go_at_call 104; refine (HTK.out _ _ _ _ _ _ ((Later.refl _).drew) (by first | exact .inl rfl | exact .inr HR0.out) (by first | rfl | omega) (by omega) rfl rfl).mono ?_; intro e wX h; obtain ⟨rfl, lX⟩ := h.no HTB.out; have LX := Lib.hid (L2.out.trans ((Later.refl w2).drew.trans lX)); clear h lX))
              | fail "no walk"
            all_goals try simp [Act.put]
            have HSX := Lib.hid (HS.out.later LX.out)
            obtain ⟨sv, hsv⟩ := HSX.out.value
            go_wp2_with (go_at_call 27; refine (at_l _ _ _ _).mono ?_; rintro e w5 ⟨q, rfl, l5⟩)
            go_ret2
            exact ⟨.inl ⟨HO.out, q, rfl⟩, LX.out.trans l5⟩
          | some us =>
            have HTB := Lib.hid htb
            have HUN := Lib.hid (takeBits_len htb).1
            have HU64 := Lib.hid (takeBits_lt htb)
            have HRK := Lib.hid (HRKS.out us htb)
            clear htb
            go_wp2_with fail
            first
              | go_region_law (first
                  | (go_simp; go_at_call 104; refine (HTK.out _ _ _ _ _ _ ((Later.refl _).drew) (by first | exact .inl rfl | exact .inr HR0.out) (by first | rfl | omega) (by omega) rfl rfl).mono ?_; intro e wX h; obtain ⟨UA, uc, rfl, uh, lX⟩ := h.yes HTB.out; have LX := Lib.hid (L2.out.trans ((Later.refl w2).drew.trans lX)); have HUH := Lib.hid uh; clear h lX uh))
              | fail "no walk"
            all_goals try simp [Act.put]
            clear hce hrl2 HTK hk1w hwdw i1 i2 i3 i4 i5 e0 hkb hk10 hkl hwd256
            go_wp2_with fail
            go_loopw [9, 64] (fun lv iv wr => PRInv t (zag u) us w wX lv iv wr) (fun _ iv _ => us.length - (intOf iv).toNat)
            case atStart => exact PRInv.mk none 0 0 0 0 rfl rfl (Nat.zero_le _) (ownG_nil _ _ _ _) (Later.refl _)
            case round =>
              obtain ⟨L, cl, j, rfl, rfl, hj, hown, lat⟩ := hrel
              by_cases hlt : j < us.length
              · obtain ⟨ub, uo, rfl, hcell⟩ : ∃ ub uo, UA = some ⟨ub, uo, none⟩ ∧ wr.cell? ⟨ub, uo + j, none⟩ = some (.int .u64 ((us[j] : Nat) : Int)) := by
                  rcases HUH.out.later lat with h | ⟨ub, uo, h1, _, hc⟩
                  · have h2 : us.length = 0 := by have h := congrArg List.length h; rw [ints_length] at h; exact h
                    omega
                  · exact ⟨ub, uo, h1, hc j _ (by rw [ints_get _ _ _ hlt])⟩
                have ha := HU64.out _ (List.getElem_mem hlt)
                have HREP := Lib.hid (show unpackV t (zag u) (us.take (j + 1)) = unpackV t (zag u) (us.take j) ++ [(t, w64 (zag u + ((us[j] : Nat) : Int)), ⟨#[]⟩)] by
                  unfold unpackV; rw [List.take_succ_eq_append_getElem hlt, List.map_append]; rfl)
                generalize us[j] = a at hcell ha HREP
                obtain ⟨v, hv⟩ : ∃ v, v = w64 (zag u + (a : Int)) := ⟨_, rfl⟩
                rw [← hv] at HREP
                have hvw : IntKind.i64.wrap (IntKind.u64.wrap (IntKind.u64.wrap (zag u) + (a : Int))) = v := by
                  rw [hv]; unfold w64
                  rw [IntKind.wrap_u64, IntKind.wrap_u64, IntKind.wrap_i64, IntKind.wrap_i64]
                  omega
                have HAS := Lib.hid ((Blk.new wr (fl [(t, v, (⟨#[]⟩ : ByteArray))]).toArray 26 _ rfl).has)
                have O2 := Lib.hid (hown.alloc (.cells (fl [(t, v, (⟨#[]⟩ : ByteArray))]).toArray 26))
                have LT2 := Lib.hid (lat.alloc (.cells (fl [(t, v, (⟨#[]⟩ : ByteArray))]).toArray 26))
                have HJ9 := Lib.hid (show j < 1000 by have := HUN.out; omega)
                have hj9 : j < 1000 := HJ9.out
                clear hown lat hv ha
                go_wp2_with (first
                  | (go_at_call 107; refine (zag_any u _ HU.out).mono ?_; rintro e w' ⟨rfl, rfl⟩)
                  | (at_builtin; refine wpList_append_g _ rfl (.tmp 68) (.tmp 77) 23 rfl wX.heap.size 26 (vagg 0 0 ⟨#[]⟩) 3 32 Tryz.underlying23 info_v rfl (by decide) _ j (fl (unpackV t (zag u) (us.take j))) rfl O2.out _ 1 1 (fl [(t, v, (⟨#[]⟩ : ByteArray))]) rfl HAS.out (by rfl) (by intro h; cases h) (fl_one _) (by have := HJ9.out; unfold maxLen; omega) (by have := HJ9.out; omega) ?_ ?_; (exact LT2.out.size); intro A2 c2 w6 o2 g2 b2 n2; have HO2 := Lib.hid o2; have HB6 := Lib.hid (Later.of (LT2.out.below.trans b2)); clear o2 g2 b2 n2))
                go_roundw
                case rel => exact PRInv.mk A2 c2 _ (j + 1) _ rfl (by omega) hlt (by rw [HREP.out, fl_append]; exact HO2.out) HB6.out
                case measure => simp [intOf]; omega
              · obtain rfl : j = us.length := by omega
                obtain ⟨l, hl⟩ : ∃ l, l = unpackV t (zag u) us := ⟨_, rfl⟩
                rw [List.take_of_length_le (Nat.le_refl _), ← hl] at hown
                rw [← hl] at HRK
                obtain ⟨nl, hnl'⟩ : ∃ nl, nl = us.length := ⟨_, rfl⟩
                have hnl : nl = l.length := by rw [hl, hnl']; unfold unpackV; rw [List.length_map]
                rw [← hnl'] at hown hlt ⊢
                have HLH := Lib.hid (Has.ownG hown)
                have HCP := Lib.hid (And.intro (ownG_cap hown) (ownG_capmax hown))
                have HLN := Lib.hid (show l.length ≤ 1000 by have := HUN.out; omega)
                have HL64 := Lib.hid (readK_is HRK.out).2
                have LX := Lib.hid (LX.out.trans lat)
                have HSX := Lib.hid (HS.out.later LX.out)
                clear hown lat hl hnl' HUN
                have HW := Lib.hid (packWrite_n t L nl cl l wr hnl HSX.out HLN.out HLH.out HL64.out)
                have HNL := Lib.hid hnl
                clear hnl
                go_wp2_with fail
                refine HW.out.mono ?_
                rintro e wY ⟨⟨hp, p, rfl⟩ | ⟨pb, PA, pc, hp, rfl, ph, _, _, _⟩, lY⟩
                · have HO := Lib.hid (HOX.out l HRK.out (by rw [hp]; simp))
                  have LY := Lib.hid (LX.out.trans lY)
                  clear hp lY HW
                  go_wp2_with (go_at_call 105; refine (cellSame_err _ _ _ _ _ _ _ _ _ p _).mono ?_; rintro e w' ⟨rfl, rfl⟩)
                  go_ret2
                  exact ⟨.inl ⟨HO.out, p, rfl⟩, LY.out⟩
                · have LY := Lib.hid (LX.out.trans lY)
                  have HLY := Lib.hid (HLH.out.later lY)
                  by_cases heq : pb = b
                  · have HO := Lib.hid (HOY.out l HRK.out (by rw [hp, heq]))
                    have HSM := Lib.hid (cellSame_yes L (some ⟨bb, off, none⟩) PA nl cl b.length c pb.length pc b wY rfl (by rw [heq]) (HR.out.later LY.out) (heq ▸ ph))
                    clear hp lY HW heq ph
                    go_wp2_with (go_at_call 105; refine HSM.out.mono ?_; rintro e w' ⟨rfl, rfl⟩)
                    go_ret2
                    refine ⟨.inr ⟨l, L, cl, HO.out, ?_, HLY.out, by have := HNL.out; have := HCP.out; omega⟩, LY.out⟩
                    rw [← HNL.out]
                    rfl
                  · have HO := Lib.hid (HOX.out l HRK.out (by rw [hp]; intro e; injection e with e; exact heq e))
                    have HSM := Lib.hid (cellSame_no L (some ⟨bb, off, none⟩) PA nl cl b.length c pb.length pc b pb wY (HS.out.later LY.out) rfl rfl (HR.out.later LY.out) ph (putK_lt HL64.out hp) H256.out heq)
                    clear hp lY HW heq ph
                    go_wp2_with (go_at_call 105; refine HSM.out.mono ?_; rintro e w' ⟨⟨q, rfl⟩, lS⟩)
                    go_ret2
                    exact ⟨.inl ⟨HO.out, q, rfl⟩, LY.out.trans lS⟩
    · have HO := Lib.hid (HON.out (HRK0.out hT))
      have HSX := Lib.hid (HS.out.later L2.out)
      obtain ⟨sv, hsv⟩ := HSX.out.short
      clear hT hT0
      go_wp2_with (go_at_call 27; refine (at_l _ _ _ _).mono ?_; rintro e w5 ⟨q, rfl, l5⟩)
      go_ret2
      exact ⟨.inl ⟨HO.out, q, rfl⟩, L2.out.trans l5⟩

set_option maxRecDepth 100000 in
theorem packRead_no (t n : Int) (A : Option Addr) (m c : Nat) (w : World) (hs : S6 w) (h : ¬ ((1 ≤ t ∧ t ≤ 4) ∧ 0 ≤ n ∧ n ≤ 1000)) :
    Calls Tryz.prog 82 #[.int .i64 t, .int .i64 n, .slice A m c] w (WritesV none w) := by
  have hif : Tryz.prog.isIface 40 = true := by kernel_rfl
  have HA := Lib.hid (count_no t n w h hs.type hs.bound)
  clear hs h
  go_enter Tryz.func82, Tryz.ntmps82
  go_wp2_with fail
  refine HA.out.mono ?_
  rintro e w1 ⟨v, rfl, ⟨p, rfl⟩, l1⟩
  have heq := run_eql_iface_nil (P := Tryz.prog) (w := w1) 40 hif 82 (.pointer (some p))
  go_wp2_with fail
  go_ret2
  exact ⟨.inl ⟨rfl, p, rfl⟩, l1⟩

theorem packRead_any (t n : Int) (A : Option Addr) (c : Nat) (b : List Nat) (w : World) (hs : S6 w) (hr : Has w A (ints .u8 b)) (h256 : ∀ x ∈ b, x < 256) (hb : b.length ≤ 1000000) (hbc : b.length ≤ c) (hc : c ≤ 9223372036854775807) :
    Calls Tryz.prog 82 #[.int .i64 t, .int .i64 n, .slice A b.length c] w (WritesV (takeK t n b) w) := by
  by_cases h : (1 ≤ t ∧ t ≤ 4) ∧ 0 ≤ n ∧ n ≤ 1000
  · obtain ⟨m, rfl⟩ : ∃ m : Nat, n = (m : Int) := ⟨n.toNat, by omega⟩
    exact packRead_yes t m A c b w hs h.1 (by omega) hr h256 hb hbc hc
  · unfold takeK; rw [if_neg h]; exact packRead_no t n A _ c w hs h

set_option maxRecDepth 100000 in
theorem packTake_c (t n : Int) (A : Option Addr) (c : Nat) (b : List Nat) (w : World) (hs : S6 w) (hr : Has w A (ints .u8 b)) (h256 : ∀ x ∈ b, x < 256) (hb : b.length ≤ 1000000) (hbc : b.length ≤ c) (hc : c ≤ 9223372036854775807) :
    Calls Tryz.prog 62 #[.int .i64 t, .int .i64 n, .slice A b.length c] w (TakesV (takeK t n b) w) := by
  have HC := Lib.hid (packRead_any t n A c b w hs hr h256 hb hbc hc)
  clear hs hr h256 hb hbc hc
  go_enter Tryz.func62, Tryz.ntmps62
  go_wp2_with fail
  refine HC.out.mono ?_
  rintro e w1 ⟨⟨ho, p, rfl⟩ | ⟨l, B, cb, ho, rfl, h1⟩, l1⟩
  · go_wp2_with (go_at_call 79; refine (listV_no _ _ _ p _).mono ?_; rintro e w' ⟨rfl, rfl⟩)
    go_ret2
    exact ⟨.inl ⟨ho, rfl⟩, l1⟩
  · have H := Lib.hid (show TakesV (takeK t n b) w (.returned (.tuple #[.slice B l.length cb, .bool true])) w1 from ⟨.inr ⟨l, B, cb, ho, rfl, h1⟩, l1⟩)
    clear ho h1 l1
    go_wp2_with (go_at_call 79; refine (listV_yes _ _ _ _).mono ?_; rintro e w' ⟨rfl, rfl⟩)
    go_ret2
    exact H.out
theorem packTake_any (t n : Int) (A : Option Addr) (c : Nat) (b : List Nat) (w : World) (hs : S6 w) (hr : Has w A (ints .u8 b)) (h256 : ∀ x ∈ b, x < 256) (hb : b.length ≤ 1000000) (hbc : b.length ≤ c) (hc : c ≤ 9223372036854775807) :
    Calls Tryz.prog 62 #[.int .i64 t, .int .i64 n, .slice A b.length c] w (PutsV (takeK t n b) w) :=
  (packTake_c t n A c b w hs hr h256 hb hbc hc).mono fun _ _ h => h.puts
end Go.Proofs.YtldalkhmbpkjpaaGreatDoor

/- Walks of package delta: check, write, Put. -/

namespace Go.Proofs.YtldalkhmbpkjpaaGreatDoor
open Go.RowKit
set_option linter.unusedVariables false

theorem deltaCheck_yes (t : Int) (w : World) (h : t = 1 ∨ t = 2) :
    Calls Tryz.prog 97 #[.int .i64 t] w fun e w' => e = .returned .nilIface ∧ w = w' := by
  rcases h with rfl | rfl
  all_goals go_enter Tryz.func97, Tryz.ntmps97
  all_goals go_wp2_with fail
  all_goals go_ret
  all_goals exact ⟨rfl, rfl⟩
theorem deltaCheck_no (t : Int) (w : World) (h : ¬ (t = 1 ∨ t = 2)) (hs : CSent w 0) :
    Calls Tryz.prog 97 #[.int .i64 t] w fun e w' => ∃ v, e = .returned v ∧ Where v ∧ Later w w' := by
  obtain ⟨a, hc⟩ := hs
  have L := Lib.hid fun o => Later.new w o
  have d1 : (t != 1) = true := by simp; omega
  have d2 : (t != 2) = true := by simp; omega
  clear h
  go_enter Tryz.func97, Tryz.ntmps97
  go_wp2_with (go_at_call 27; refine (at_any _ _ _ _ _ rfl).mono ?_; rintro e w' ⟨rfl, rfl⟩)
  go_ret
  exact ⟨_, rfl, ⟨_, rfl⟩, L.out _⟩

/-- Where write's loop stands. -/
def DInv (l : List Val3) (w : World) (bv lv iv : Value) (wr : World) : Prop :=
  ∃ (B : Option Addr) (n cb k : Nat) (p : Int), k ≤ l.length ∧ iv = .int .i64 k ∧ bv = .slice B n cb ∧ lv = .int .i64 p ∧ p = lastI 0 (l.take k) ∧ n = (stepsB 0 (l.take k)).length ∧ wr.ownsRow w.heap.size 5 1 (.slice B n cb) n (ints .u8 (stepsB 0 (l.take k))) ∧ (B = none → cb = 0) ∧ Later w wr
theorem DInv.mk {l : List Val3} {w wr : World} (B : Option Addr) (n cb k : Nat) (p i : Int) (hk : k ≤ l.length) (hi : i = (k : Int)) (hp : p = lastI 0 (l.take k)) (hn : n = (stepsB 0 (l.take k)).length) (ho : wr.ownsRow w.heap.size 5 1 (.slice B n cb) n (ints .u8 (stepsB 0 (l.take k)))) (hb : B = none → cb = 0) (lat : Later w wr) : DInv l w (.slice B n cb) (.int .i64 p) (.int .i64 i) wr := by
  subst hi; exact ⟨B, n, cb, k, p, hk, rfl, rfl, rfl, hp, hn, ho, hb, lat⟩

set_option maxRecDepth 100000 in
set_option maxHeartbeats 1000000 in
theorem deltaWrite_yes (t : Int) (A : Option Addr) (c : Nat) (l : List Val3) (w : World) (hs : S6 w) (ht : t = 1 ∨ t = 2) (hl : l.length ≤ 2000) (hr : Has w A (fl l)) (ho : OkL t l) (h64 : All64 l) :
    Calls Tryz.prog 74 #[.int .i64 t, .slice A l.length c] w (WritesB (some (stepsB 0 l)) w) := by
  obtain ⟨a0, a2, a3, a4, S⟩ := hs.sn
  have HA := Lib.hid (all_yes t A c l a0 a2 a3 a4 w S (by omega) (by omega) hr ho)
  have HC := Lib.hid (deltaCheck_yes t w ht)
  clear S hs ht ho
  go_enter Tryz.func74, Tryz.ntmps74
  go_wp2_with (go_at_call 97; refine HC.out.mono ?_; rintro e w' ⟨rfl, rfl⟩)
  refine HA.out.mono ?_
  rintro e w1 ⟨rfl, l1⟩
  have L1 := l1
  clear l1 HA HC
  go_wp2_with fail
  go_loopw [8, 9, 25] (fun bv lv i wr => DInv l w bv lv i wr) (fun _ _ i _ => l.length - (intOf i).toNat)
  case atStart => exact DInv.mk none 0 0 0 0 0 (Nat.zero_le _) rfl rfl rfl (World.ownsRow_nil _ _ _ _) (fun _ => rfl) L1
  case round =>
    obtain ⟨B, n, cb, k, p, hk, rfl, rfl, rfl, hp, hn, hown, hnil, lat⟩ := hrel
    by_cases hlt : k < l.length
    · obtain ⟨b, off, rfl, c0, c1, c2⟩ := (hr.later lat).val3 k hlt
      have hi := h64 _ (List.getElem_mem hlt)
      have HK := Lib.hid (show stepsB 0 (l.take (k + 1)) = stepsB 0 (l.take k) ++ putNum (zig (w64 (l[k].2.1 - lastI 0 (l.take k)))) by
        rw [List.take_succ_eq_append_getElem hlt, stepsB_snoc])
      have HLI := Lib.hid (show lastI 0 (l.take (k + 1)) = l[k].2.1 by rw [List.take_succ_eq_append_getElem hlt, lastI_snoc])
      have HLE := Lib.hid (stepsB_le 0 (l.take k))
      rw [← hp] at HK
      generalize l[k].1 = tt at c0
      generalize l[k].2.1 = i at c1 hi HK HLI
      generalize l[k].2.2 = s at c2
      obtain ⟨z, hz⟩ : ∃ z, z = w64 (i - p) := ⟨_, rfl⟩
      rw [← hz] at HK
      have HZI := Lib.hid (hz ▸ w64_in (i - p) : In64 z)
      have HZL := Lib.hid (hz ▸ zig_w64_lt (i - p) : zig z < 18446744073709551616)
      have HO1 := Lib.hid (putNum_le (zig z))
      have hzw : IntKind.i64.wrap (i - p) = z := hz.symm
      have HR := Lib.hid hr
      have HLAT := Lib.hid lat
      have HN := Lib.hid hn
      have HOWN := Lib.hid hown
      have HNIL := Lib.hid hnil
      have BX := Lib.hid (Blk.new wr #[.int .i64 tt, .int .i64 i, .string s] 26 _ rfl)
      have HB0 := Lib.hid (fun k hk => (hown.lt k hk).2 : ∀ k, (Value.slice B n cb).ownBlock = some k → k < wr.heap.size)
      clear hr lat hi hn hown hnil h64 hp hz
      go_wp2_with (first
        | (go_at_call 96; refine (zig_any z _ HZI.out.1 HZI.out.2).mono ?_; rintro e w' ⟨rfl, rfl⟩)
        | (go_at_call 88; refine (put_makes (zig z) HZL.out _).mono ?_; intro e w5 h; obtain ⟨P, cp, rfl, r5, b5, m5, n5, l5⟩ := Makes.gives h; have HR5 := Lib.hid r5; have HL5 := Lib.hid ((HLAT.out.alloc _).trans l5); have HW5 := Lib.hid (own_later (HOWN.out.alloc _) l5); have HN5 := Lib.hid n5; have V5 := Lib.hid (BX.out.later l5); clear h r5 b5 m5 l5 n5)
        | (at_builtin; refine wpList_append_rd _ rfl (.tmp 29) (.tmp 35) 22 rfl w.heap.size 5 (.int .u8 0) 1 Tryz.underlying22 info_u8 rfl _ n (ints .u8 (stepsB 0 (l.take k))) rfl HW5.out _ P (putNum (zig z)).length cp (ints .u8 (putNum (zig z))) rfl HR5.out ?_ HN5.out (ints_one _ _) ?_ ?_ ?_ ?_; (rw [ints_length]); (have h1 := HLE.out; have h2 := HO1.out; have h3 := HN.out; rw [List.length_take] at h1; unfold maxLen; omega); (have h1 := HLE.out; have h2 := HO1.out; have h3 := HN.out; rw [List.length_take] at h1; omega); (exact HL5.out.size); intro A2 c2 w6 o2 g2 b2 n2; have HO2 := Lib.hid o2; have HB6 := Lib.hid b2; have HN2 := Lib.hid n2; have V6 : Blk w6 wr.heap.size #[.int .i64 tt, .int .i64 i, .string s] 26 := (g2.block _ V5.out.lt (fun e => absurd (HB0.out _ e.symm) (Nat.lt_irrefl _))).trans V5.out; have c6 := V6.cell 1 _ rfl; clear o2 g2 b2 n2 V6))
      go_roundw
      case rel =>
        refine DInv.mk A2 _ c2 (k + 1) _ _ hlt (by go_num) HLI.out.symm ?_ ?_ HN2.out (Later.of (HL5.out.below.trans HB6.out))
        · rw [HK.out, List.length_append, HN.out]
        · rw [HK.out, ints_snoc]; exact HO2.out
      case measure => simp [intOf]; omega
    · obtain rfl : k = l.length := by omega
      rw [List.take_of_length_le (Nat.le_refl _)] at hn hown
      subst hn
      have HR := Lib.hid (Has.own hown)
      have H1 := Lib.hid (own_cap hown)
      have H2 := Lib.hid (own_capmax hown)
      have H3 := Lib.hid hnil
      have H4 := Lib.hid lat
      clear hown hnil lat hr h64 hp
      go_wp2_with fail
      go_ret2
      exact ⟨.inr ⟨_, _, _, rfl, rfl, HR.out, H1.out, H2.out, H3.out⟩, H4.out⟩

set_option maxRecDepth 100000 in
theorem deltaWrite_no (t : Int) (A : Option Addr) (c : Nat) (l : List Val3) (w : World) (hs : S6 w) (hl : l.length ≤ 2000) (hr : Has w A (fl l)) (ho : ¬ ((t = 1 ∨ t = 2) ∧ OkL t l)) :
    Calls Tryz.prog 74 #[.int .i64 t, .slice A l.length c] w (WritesB none w) := by
  have hif : Tryz.prog.isIface 40 = true := by kernel_rfl
  by_cases ht : t = 1 ∨ t = 2
  · obtain ⟨a0, a2, a3, a4, S⟩ := hs.sn
    have HA := Lib.hid (all_no t A c l a0 a2 a3 a4 w S (by omega) hr fun h => ho ⟨ht, h.2⟩)
    have HC := Lib.hid (deltaCheck_yes t w ht)
    clear S hs ho hr ht
    go_enter Tryz.func74, Tryz.ntmps74
    go_wp2_with (go_at_call 97; refine HC.out.mono ?_; rintro e w' ⟨rfl, rfl⟩)
    refine HA.out.mono ?_
    rintro e w1 ⟨v, rfl, ⟨p, rfl⟩, l1⟩
    have heq := run_eql_iface_nil (P := Tryz.prog) (w := w1) 40 hif 82 (.pointer (some p))
    go_wp2_with fail
    go_ret2
    exact ⟨.inl ⟨rfl, p, rfl⟩, l1⟩
  · have HC := Lib.hid (deltaCheck_no t w ht hs.type)
    clear hs ho hr ht
    go_enter Tryz.func74, Tryz.ntmps74
    go_wp2_with fail
    refine HC.out.mono ?_
    rintro e w1 ⟨v, rfl, ⟨p, rfl⟩, l1⟩
    have heq := run_eql_iface_nil (P := Tryz.prog) (w := w1) 40 hif 82 (.pointer (some p))
    go_wp2_with fail
    go_ret2
    exact ⟨.inl ⟨rfl, p, rfl⟩, l1⟩

theorem deltaWrite_any (t : Int) (A : Option Addr) (c : Nat) (l : List Val3) (w : World) (hs : S6 w) (hl : l.length ≤ 2000) (hr : Has w A (fl l)) (h64 : All64 l) :
    Calls Tryz.prog 74 #[.int .i64 t, .slice A l.length c] w (WritesB (putD t l) w) := by
  unfold putD
  by_cases h : (t = 1 ∨ t = 2) ∧ OkL t l
  · rw [if_pos h]; exact deltaWrite_yes t A c l w hs h.1 hl hr h.2 h64
  · rw [if_neg h]; exact deltaWrite_no t A c l w hs hl hr h

set_option maxRecDepth 100000 in
theorem deltaPut_any (t : Int) (A : Option Addr) (c : Nat) (l : List Val3) (w : World) (hs : S6 w) (hl : l.length ≤ 2000) (hr : Has w A (fl l)) (h64 : All64 l) :
    Calls Tryz.prog 54 #[.int .i64 t, .slice A l.length c] w (PutsB (putD t l) w) := by
  have HC := Lib.hid (deltaWrite_any t A c l w hs hl hr h64)
  clear hs hr h64 hl
  go_enter Tryz.func54, Tryz.ntmps54
  go_wp2_with fail
  refine HC.out.mono ?_
  rintro e w1 ⟨⟨ho, p, rfl⟩ | ⟨b, B, cb, ho, rfl, h1, h2, h3, h4⟩, l1⟩
  · go_wp2_with (go_at_call 17; refine (listB_no _ _ _ p _).mono ?_; rintro e w' ⟨rfl, rfl⟩)
    go_ret2
    exact ⟨.inl ⟨ho, rfl⟩, l1⟩
  · have H := Lib.hid (show PutsB (putD t l) w (.returned (.tuple #[.slice B b.length cb, .bool true])) w1 from ⟨.inr ⟨b, B, cb, ho, rfl, h1, h2, h3, h4⟩, l1⟩)
    clear ho h1 h2 h3 h4 l1
    go_wp2_with (go_at_call 17; refine (listB_yes _ _ _ _).mono ?_; rintro e w' ⟨rfl, rfl⟩)
    go_ret2
    exact H.out
end Go.Proofs.YtldalkhmbpkjpaaGreatDoor

/- Walks of package delta: read, Take. -/

namespace Go.Proofs.YtldalkhmbpkjpaaGreatDoor
open Go.RowKit
set_option linter.unusedVariables false

/-- Where read's loop stands. -/
def DRInv (o : Option (List Val3)) (t : Int) (n : Nat) (w : World) (lv pv bv iv : Value) (wr : World) : Prop :=
  ∃ (B : Option Addr) (cb : Nat) (rest : List Nat) (L : Option Addr) (cl k : Nat) (done : List Val3) (p : Int), k ≤ n ∧ iv = .int .i64 k ∧ bv = .slice B rest.length cb ∧ lv = .slice L k cl ∧ pv = .int .i64 p ∧ Has w B (ints .u8 rest) ∧ (∀ x ∈ rest, x < 256) ∧ rest.length ≤ 1000000 ∧ rest.length ≤ cb ∧ cb ≤ 9223372036854775807 ∧ wr.ownsRow w.heap.size 26 3 (.slice L k cl) k (fl done) ∧ done.length = k ∧ o = (readD t (n - k) p rest).map (fun l => done ++ l) ∧ Later w wr
theorem DRInv.mk {o : Option (List Val3)} {t : Int} {n : Nat} {w wr : World} (B : Option Addr) (m cb : Nat) (rest : List Nat) (L : Option Addr) (cl k : Nat) (done : List Val3) (p i : Int) (hk : k ≤ n) (hi : i = (k : Int)) (hm : m = rest.length) (hr : Has w B (ints .u8 rest)) (h256 : ∀ x ∈ rest, x < 256) (h1 : rest.length ≤ 1000000) (h2 : rest.length ≤ cb) (h3 : cb ≤ 9223372036854775807) (ho : wr.ownsRow w.heap.size 26 3 (.slice L k cl) k (fl done)) (hd : done.length = k) (hrel : o = (readD t (n - k) p rest).map (fun l => done ++ l)) (lat : Later w wr) : DRInv o t n w (.slice L k cl) (.int .i64 p) (.slice B m cb) (.int .i64 i) wr := by
  subst hi hm; exact ⟨B, cb, rest, L, cl, k, done, p, hk, rfl, rfl, rfl, rfl, hr, h256, h1, h2, h3, ho, hd, hrel, lat⟩
theorem mapD_step {o : Option (List Val3)} (d : List Val3) (x : Val3) : (o.map fun l => x :: l).map (fun l => d ++ l) = o.map fun l => (d ++ [x]) ++ l := by
  cases o with
  | none => rfl
  | some l => simp

set_option maxRecDepth 100000 in
set_option maxHeartbeats 2000000 in
theorem deltaRead_yes (t : Int) (n : Nat) (A : Option Addr) (c : Nat) (b : List Nat) (w : World) (hs : S6 w) (ht : t = 1 ∨ t = 2) (hn : n ≤ 1000) (hr : Has w A (ints .u8 b)) (h256 : ∀ x ∈ b, x < 256) (hb : b.length ≤ 1000000) (hbc : b.length ≤ c) (hc : c ≤ 9223372036854775807) :
    Calls Tryz.prog 83 #[.int .i64 t, .int .i64 n, .slice A b.length c] w (WritesV (readD t n 0 b) w) := by
  have HK := Lib.hid (deltaCheck_yes t w ht)
  have HC := Lib.hid (count_yes t n w (by omega) (by omega))
  obtain ⟨o, ho⟩ : ∃ o, o = readD t n 0 b := ⟨_, rfl⟩
  rw [← ho]
  have REL := Lib.hid (show o = (readD t (n - 0) 0 b).map (fun l => [] ++ l) by rw [ho]; simp)
  clear ht ho
  go_enter Tryz.func83, Tryz.ntmps83
  go_wp2_with (first
    | (go_at_call 97; refine HK.out.mono ?_; rintro e w' ⟨rfl, rfl⟩)
    | (go_at_call 42; refine HC.out.mono ?_; rintro e w' ⟨rfl, rfl⟩))
  clear HC HK
  go_loopw [10, 11, 2, 29] (fun lv pv bv i wr => DRInv o t n w lv pv bv i wr) (fun _ _ _ i _ => n - (intOf i).toNat)
  case atStart => exact DRInv.mk A b.length c b none 0 0 [] 0 0 (Nat.zero_le _) rfl rfl hr h256 hb hbc hc (ownG_nil _ _ _ _) rfl REL.out (Later.refl _)
  case round =>
    obtain ⟨B, cb, rest, L, cl, k, done, p, hk, rfl, rfl, rfl, rfl, hrest, hr256, hrl, hrc, hcb, hown, hdl, hrel, lat⟩ := hrel
    clear hr h256 hb hbc hc REL
    by_cases hlt : k < n
    · obtain ⟨aN, hN⟩ := (hs.later lat).num
      have HTK := Lib.hid (take_num B rest.length cb rest aN wr wr.heap.size rfl (hrest.later lat) hr256 hrl hN)
      obtain ⟨j, hj⟩ : ∃ j, n - k = j + 1 := ⟨n - k - 1, by omega⟩
      have hj2 : n - (k + 1) = j := by omega
      rw [hj] at hrel
      have HREL := Lib.hid hrel
      have HOWN := Lib.hid hown
      have HREST := Lib.hid hrest
      have HLAT := Lib.hid lat
      have HDL := Lib.hid hdl
      have H256 := Lib.hid hr256
      have HJ := Lib.hid hj2
      have HNCK := Lib.hid hj
      have HS := Lib.hid hs
      clear hrel hown hrest lat hdl hr256 hj hj2 hs hN
      go_wp2_with fail
      refine HTK.out.mono ?_
      rintro e w2 ⟨u, m, ok, hT0, rfl, b2⟩
      have l2 : Later wr w2 := Later.of b2
      have HL2 := Lib.hid (HLAT.out.trans l2)
      have OWN2 := Lib.hid (own_later HOWN.out l2)
      have HS2 := Lib.hid (HS.out.later HL2.out)
      clear b2 l2 HTK HOWN HLAT
      rcases takeR_some hT0 with ⟨rfl, hT⟩ | ⟨rfl, hT⟩
      · obtain ⟨hu64, hm1, hm3⟩ := takeNum_is H256.out hT
        have hm2 : m ≤ rest.length := by rw [hm1]; exact hm3.length_le
        obtain ⟨v, hv⟩ : ∃ v, v = w64 (p + zag u) := ⟨_, rfl⟩
        have hvw : IntKind.i64.wrap (p + zag u) = v := hv.symm
        have HU := Lib.hid hu64
        have HTT := Lib.hid hT
        have HV := Lib.hid hv
        obtain ⟨w3, hw3⟩ : ∃ w3, w3 = w2.alloc (.cells #[.int .i64 t, .int .i64 v, .string ⟨#[]⟩] 26) := ⟨_, rfl⟩
        have L23 : Later w2 w3 := hw3 ▸ Later.new _ _
        have BX : Blk w3 w2.heap.size #[.int .i64 t, .int .i64 v, .string ⟨#[]⟩] 26 := hw3 ▸ Blk.new w2 _ _ _ rfl
        have HS3 := Lib.hid (HS2.out.later L23)
        obtain ⟨a0, a2, a3, a4, S3⟩ := HS3.out.sn
        have HMAY := Lib.hid (may_any t v ⟨#[]⟩ a0 a2 a3 a4 w3 S3)
        have HL3 := Lib.hid (HL2.out.trans L23)
        have OWN3 := Lib.hid (own_later OWN2.out L23)
        have HBX := Lib.hid BX
        have HW3 := Lib.hid hw3
        clear hT hm1 hm3 hu64 hv hw3 L23 BX S3 hT0 HS2 OWN2 HL2
        go_wp2_with (go_at_call 107; refine (zag_any u _ HU.out).mono ?_; rintro e w' ⟨rfl, rfl⟩)
        rw [← HW3.out]
        refine HMAY.out.mono ?_
        rintro e w4 ⟨r, hr, rfl, b4⟩
        have l4 : Later w3 w4 := Later.of b4
        have HL4 := Lib.hid (HL3.out.trans l4)
        have HS4 := Lib.hid (HS3.out.later l4)
        have OWN4 := Lib.hid (own_later OWN3.out l4)
        have BX4 := HBX.out.later l4
        have d0 := BX4.cell 0 _ rfl
        have d1 := BX4.cell 1 _ rfl
        have d2 := BX4.cell 2 _ rfl
        clear b4 l4 HMAY HL3 HS3 OWN3 BX4 HBX HW3
        cases r with
        | false =>
          have HO := Lib.hid (show o = none by rw [HREL.out, readD_not HTT.out (by rw [← HV.out]; exact fun h => by have := hr.2 h; cases this)]; rfl)
          obtain ⟨sv, hsv⟩ := HS4.out.value
          clear hr HREL
          go_wp2_with (go_at_call 27; refine (at_l _ _ _ _).mono ?_; rintro e w5 ⟨q, rfl, l5⟩)
          go_ret2
          exact ⟨.inl ⟨HO.out, q, rfl⟩, HL4.out.trans l5⟩
        | true =>
          have HO := Lib.hid (show o = (readD t (n - (k + 1)) v (rest.drop m)).map (fun l => (done ++ [(t, v, ⟨#[]⟩)]) ++ l) by rw [HREL.out, readD_some HTT.out (by rw [← HV.out]; exact hr.1 rfl), mapD_step, HJ.out, ← HV.out])
          have HAS := Lib.hid ((Blk.new w4 (fl [(t, v, ⟨#[]⟩)]).toArray 26 w4.heap.size rfl).has)
          have HL5 := Lib.hid (HL4.out.alloc (.cells (fl [(t, v, ⟨#[]⟩)]).toArray 26))
          clear hr HREL
          go_wp2_with (at_builtin; refine wpList_append_g _ rfl (.tmp 56) (.tmp 58) 23 rfl w.heap.size 26 (vagg 0 0 ⟨#[]⟩) 3 32 Tryz.underlying23 info_v rfl (by decide) _ k (fl done) rfl (OWN4.out.alloc _) _ 1 1 (fl [(t, v, ⟨#[]⟩)]) rfl HAS.out (by rfl) (by intro h; cases h) (fl_one _) (by unfold maxLen; omega) (by omega) ?_ ?_; (exact HL5.out.size); intro A2 c2 w6 o2 g2 b2 n2; have HO2 := Lib.hid o2; have HB6 := Lib.hid b2; have HN2 := Lib.hid n2; clear o2 g2 b2 n2)
          have LL := Lib.hid (Later.of (HL5.out.below.trans HB6.out))
          have hlen : (rest.drop m).length = rest.length - m := List.length_drop
          have OK := Lib.hid (show (fl (done ++ [(t, v, ⟨#[]⟩)])) = fl done ++ fl [(t, v, ⟨#[]⟩)] from fl_append _ _)
          have DL := Lib.hid (show (done ++ [(t, v, (⟨#[]⟩ : ByteArray))]).length = k + 1 by rw [List.length_append, HDL.out]; rfl)
          have D256 := Lib.hid (fun x (hx : x ∈ rest.drop m) => H256.out x (List.mem_of_mem_drop hx))
          have hmc : m ≤ cb := by omega
          by_cases hcm : cb = m
          · subst hcm
            have hr0 : rest.drop cb = [] := List.drop_of_length_le hrc
            have hl0 : rest.length = cb := by omega
            have HF := Lib.hid (fun (B' : Option Addr) (mb cb' : Nat) (i' : Int) (hB : mb = 0) (hc' : cb' = 0) (hi : i' = ((k + 1 : Nat) : Int)) => (by
              subst hB hc'
              exact DRInv.mk B' 0 0 (rest.drop cb) A2 c2 (k + 1) (done ++ [(t, v, ⟨#[]⟩)]) v i' hlt hi (by rw [hr0]; rfl) (by rw [hr0]; exact Has.nil_) D256.out (by rw [hr0]; exact Nat.zero_le _) (by rw [hr0]; exact Nat.zero_le _) (by decide) (by rw [OK.out]; exact HO2.out) DL.out HO.out LL.out : DRInv o t n w (.slice A2 (k + 1) c2) (.int .i64 v) (.slice B' mb cb') (.int .i64 i') w6))
            clear hr0 hlen
            go_wp2_with fail
            go_roundw
            case rel => exact HF.out _ _ _ _ (by first | rfl | omega) (by first | rfl | omega) (by go_num)
            case measure => simp [intOf]; omega
          · rcases B with _ | ⟨bb, off, inn⟩
            · exfalso
              rcases HREST.out with h | ⟨_, _, h, _⟩
              · have : rest.length = 0 := by have := congrArg List.length h; rw [ints_length] at this; exact this
                have hT := HTT.out
                obtain rfl := List.eq_nil_of_length_eq_zero this
                cases hT
              · cases h
            · obtain rfl : inn = none := by
                rcases HREST.out with h | ⟨_, _, h, _⟩
                · have : rest.length = 0 := by have := congrArg List.length h; rw [ints_length] at this; exact this
                  have hT := HTT.out
                  obtain rfl := List.eq_nil_of_length_eq_zero this
                  cases hT
                · injection h with h; injection h
              have HD := Lib.hid (show Has w (some ⟨bb, off + m, none⟩) (ints .u8 (rest.drop m)) from by have h := HREST.out.drop m; rw [show (ints .u8 rest).drop m = ints .u8 (rest.drop m) by simp [ints, List.map_drop]] at h; exact h)
              have HF := Lib.hid (fun (mb cb' : Nat) (i' : Int) (hB : mb = rest.length - m) (hc' : cb' = cb - m) (hi : i' = ((k + 1 : Nat) : Int)) => (by
                subst hB hc'
                exact DRInv.mk _ (rest.length - m) (cb - m) (rest.drop m) A2 c2 (k + 1) (done ++ [(t, v, ⟨#[]⟩)]) v i' hlt hi hlen.symm HD.out D256.out (by omega) (by rw [hlen]; omega) (by omega) (by rw [OK.out]; exact HO2.out) DL.out HO.out LL.out : DRInv o t n w (.slice A2 (k + 1) c2) (.int .i64 v) (.slice (some ⟨bb, off + m, none⟩) mb cb') (.int .i64 i') w6))
              clear hlen
              go_wp2_with fail
              go_roundw
              case rel => exact HF.out _ _ _ (by first | rfl | omega) (by first | rfl | omega) (by go_num)
              case measure => simp [intOf]; omega
      · have HO := Lib.hid (show o = none by rw [HREL.out, readD_none hT]; rfl)
        obtain ⟨sv, hsv⟩ := HS2.out.short
        clear hT HREL hT0
        go_wp2_with (go_at_call 27; refine (at_l _ _ _ _).mono ?_; rintro e w5 ⟨q, rfl, l5⟩)
        go_ret2
        exact ⟨.inl ⟨HO.out, q, rfl⟩, HL2.out.trans l5⟩
    · obtain rfl : k = n := by omega
      rw [Nat.sub_self] at hrel
      obtain ⟨sa, hsp⟩ := (hs.later lat).spare
      have HLAT := Lib.hid lat
      have HHAS := Lib.hid (Has.ownG hown)
      have HCP := Lib.hid (And.intro (ownG_cap hown) (ownG_capmax hown))
      have HDL := Lib.hid hdl
      by_cases hr0 : 0 < rest.length
      · have HO := Lib.hid (show o = none by
          rw [hrel]
          match rest, hr0 with
          | x :: r, _ => rfl)
        clear hrel lat hown hdl hs hrest hr256
        go_wp2_with (go_at_call 27; refine (at_l _ _ _ _).mono ?_; rintro e w3 ⟨q, rfl, l3⟩)
        go_ret2
        exact ⟨.inl ⟨HO.out, q, rfl⟩, HLAT.out.trans l3⟩
      · obtain rfl : rest = [] := List.eq_nil_of_length_eq_zero (by omega)
        have HO := Lib.hid (show o = some done by rw [hrel]; show some (done ++ []) = _; rw [List.append_nil])
        clear hrel lat hown hdl hs hrest hr256
        go_wp2_with fail
        go_ret2
        refine ⟨.inr ⟨done, L, cl, HO.out, ?_, HHAS.out, by have := HDL.out; have := HCP.out; omega⟩, HLAT.out⟩
        rw [HDL.out]
        rfl

set_option maxRecDepth 100000 in
theorem deltaRead_no (t n : Int) (A : Option Addr) (m c : Nat) (w : World) (hs : S6 w) (h : ¬ ((t = 1 ∨ t = 2) ∧ 0 ≤ n ∧ n ≤ 1000)) :
    Calls Tryz.prog 83 #[.int .i64 t, .int .i64 n, .slice A m c] w (WritesV none w) := by
  have hif : Tryz.prog.isIface 40 = true := by kernel_rfl
  by_cases ht : t = 1 ∨ t = 2
  · have HA := Lib.hid (count_no t n w (fun hh => h ⟨ht, hh.2⟩) hs.type hs.bound)
    have HC := Lib.hid (deltaCheck_yes t w ht)
    clear hs h ht
    go_enter Tryz.func83, Tryz.ntmps83
    go_wp2_with (go_at_call 97; refine HC.out.mono ?_; rintro e w' ⟨rfl, rfl⟩)
    refine HA.out.mono ?_
    rintro e w1 ⟨v, rfl, ⟨p, rfl⟩, l1⟩
    have heq := run_eql_iface_nil (P := Tryz.prog) (w := w1) 40 hif 82 (.pointer (some p))
    go_wp2_with fail
    go_ret2
    exact ⟨.inl ⟨rfl, p, rfl⟩, l1⟩
  · have HC := Lib.hid (deltaCheck_no t w ht hs.type)
    clear hs h ht
    go_enter Tryz.func83, Tryz.ntmps83
    go_wp2_with fail
    refine HC.out.mono ?_
    rintro e w1 ⟨v, rfl, ⟨p, rfl⟩, l1⟩
    have heq := run_eql_iface_nil (P := Tryz.prog) (w := w1) 40 hif 82 (.pointer (some p))
    go_wp2_with fail
    go_ret2
    exact ⟨.inl ⟨rfl, p, rfl⟩, l1⟩

theorem deltaRead_any (t n : Int) (A : Option Addr) (c : Nat) (b : List Nat) (w : World) (hs : S6 w) (hr : Has w A (ints .u8 b)) (h256 : ∀ x ∈ b, x < 256) (hb : b.length ≤ 1000000) (hbc : b.length ≤ c) (hc : c ≤ 9223372036854775807) :
    Calls Tryz.prog 83 #[.int .i64 t, .int .i64 n, .slice A b.length c] w (WritesV (takeD t n b) w) := by
  unfold takeD
  by_cases h : (t = 1 ∨ t = 2) ∧ 0 ≤ n ∧ n ≤ 1000
  · rw [if_pos h]
    obtain ⟨m, rfl⟩ : ∃ m : Nat, n = (m : Int) := ⟨n.toNat, by omega⟩
    exact deltaRead_yes t m A c b w hs h.1 (by omega) hr h256 hb hbc hc
  · rw [if_neg h]; exact deltaRead_no t n A _ c w hs h

set_option maxRecDepth 100000 in
theorem deltaTake_c (t n : Int) (A : Option Addr) (c : Nat) (b : List Nat) (w : World) (hs : S6 w) (hr : Has w A (ints .u8 b)) (h256 : ∀ x ∈ b, x < 256) (hb : b.length ≤ 1000000) (hbc : b.length ≤ c) (hc : c ≤ 9223372036854775807) :
    Calls Tryz.prog 63 #[.int .i64 t, .int .i64 n, .slice A b.length c] w (TakesV (takeD t n b) w) := by
  have HC := Lib.hid (deltaRead_any t n A c b w hs hr h256 hb hbc hc)
  clear hs hr h256 hb hbc hc
  go_enter Tryz.func63, Tryz.ntmps63
  go_wp2_with fail
  refine HC.out.mono ?_
  rintro e w1 ⟨⟨ho, p, rfl⟩ | ⟨l, B, cb, ho, rfl, h1⟩, l1⟩
  · go_wp2_with (go_at_call 79; refine (listV_no _ _ _ p _).mono ?_; rintro e w' ⟨rfl, rfl⟩)
    go_ret2
    exact ⟨.inl ⟨ho, rfl⟩, l1⟩
  · have H := Lib.hid (show TakesV (takeD t n b) w (.returned (.tuple #[.slice B l.length cb, .bool true])) w1 from ⟨.inr ⟨l, B, cb, ho, rfl, h1⟩, l1⟩)
    clear ho h1 l1
    go_wp2_with (go_at_call 79; refine (listV_yes _ _ _ _).mono ?_; rintro e w' ⟨rfl, rfl⟩)
    go_ret2
    exact H.out
theorem deltaTake_any (t n : Int) (A : Option Addr) (c : Nat) (b : List Nat) (w : World) (hs : S6 w) (hr : Has w A (ints .u8 b)) (h256 : ∀ x ∈ b, x < 256) (hb : b.length ≤ 1000000) (hbc : b.length ≤ c) (hc : c ≤ 9223372036854775807) :
    Calls Tryz.prog 63 #[.int .i64 t, .int .i64 n, .slice A b.length c] w (PutsV (takeD t n b) w) :=
  (deltaTake_c t n A c b w hs hr h256 hb hbc hc).mono fun _ _ h => h.puts
end Go.Proofs.YtldalkhmbpkjpaaGreatDoor
