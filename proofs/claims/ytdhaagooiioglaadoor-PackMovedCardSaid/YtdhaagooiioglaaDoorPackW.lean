/- Walks of package pack: lowest, write, Put. -/
import Derived.Test.YtdhaagooiioglaaDoorBitsJ
import Derived.Test.YtdhaagooiioglaaDoorCellS
namespace Go.Proofs.YtdhaagooiioglaaDoor
open Go.RowKit
set_option linter.unusedVariables false

/-- Where lowest's loop stands. -/
def PLInv (x0 : Int) (l : List Val3) (w : World) (pv iv : Value) (wr : World) : Prop :=
  ∃ (k : Nat) (p : Int), k ≤ l.length ∧ iv = .int .i64 k ∧ pv = .int .i64 p ∧ p = lowF x0 (l.take k) ∧ Later w wr
theorem PLInv.mk {x0 : Int} {l : List Val3} {w wr : World} (k : Nat) (p i : Int) (hk : k ≤ l.length) (hi : i = (k : Int)) (hp : p = lowF x0 (l.take k)) (lat : Later w wr) : PLInv x0 l w (.int .i64 p) (.int .i64 i) wr := by
  subst hi; exact ⟨k, p, hk, rfl, rfl, hp, lat⟩

set_option maxRecDepth 100000 in
set_option maxHeartbeats 1000000 in
theorem packLow_any (A : Option Addr) (c : Nat) (l : List Val3) (w : World) (h0 : 0 < l.length) (hl : l.length ≤ 1000) (hr : Has w A (fl l)) :
    Calls Tryd.prog 47 #[.slice A l.length c] w fun e w' => e = .returned (.int .i64 (lowI l)) ∧ Later w w' := by
  obtain ⟨b, off, rfl, c0, c1, c2⟩ := hr.val3 0 h0
  obtain ⟨x0, hx0⟩ : ∃ x0, x0 = l[0].2.1 := ⟨_, rfl⟩
  have HLOW := Lib.hid (show lowI l = lowF x0 l by
    match l, h0, hx0 with
    | x :: r, _, hx0 => rw [hx0]; rfl)
  rw [← hx0] at c1
  have c1' : w.cell? ⟨b, off + 1, none⟩ = some (.int .i64 x0) := by simpa using c1
  have hi : (0 : Int) < (l.length : Int) := by omega
  clear c0 c1 c2 hx0
  go_enter Tryd.func47, Tryd.ntmps47
  go_wp2_with fail
  go_loopw [3, 12] (fun pv iv wr => PLInv x0 l w pv iv wr) (fun _ i _ => l.length - (intOf i).toNat)
  case atStart => exact PLInv.mk 0 _ _ (Nat.zero_le _) rfl rfl (Later.refl _)
  case round =>
    obtain ⟨k, p, hk, rfl, rfl, hp, lat⟩ := hrel
    by_cases hlt : k < l.length
    · obtain ⟨b', off', hadr, d0, d1, d2⟩ := (hr.later lat).val3 k hlt
      obtain ⟨rfl, rfl⟩ : b = b' ∧ off = off' := by injection hadr with h; injection h with h1 h2; exact ⟨h1, h2⟩
      have HK := Lib.hid (show lowF x0 (l.take (k + 1)) = min (lowF x0 (l.take k)) l[k].2.1 by rw [List.take_succ_eq_append_getElem hlt, lowF_snoc])
      rw [← hp] at HK
      generalize l[k].1 = tt at d0
      generalize l[k].2.1 = i at d1 HK
      generalize l[k].2.2 = s at d2
      have HLAT := Lib.hid (lat.alloc (.cells #[.int .i64 tt, .int .i64 i, .string s] 26))
      clear lat hr hp hadr c1'
      go_wp2_with fail
      go_roundw
      case rel => exact PLInv.mk (k + 1) _ _ hlt (by go_num) (by first | exact HK.out.symm | (rw [HK.out, Int.min_def]; split <;> split <;> omega)) HLAT.out
      case measure => simp [intOf]; omega
    · obtain rfl : k = l.length := by omega
      have HP := Lib.hid (show p = lowI l by rw [hp, HLOW.out, List.take_of_length_le (Nat.le_refl _)])
      have HL := Lib.hid lat
      clear hp lat hr c1'
      go_wp2_with fail
      go_ret
      exact ⟨by rw [HP.out]; rfl, HL.out⟩

set_option maxRecDepth 100000 in
set_option maxHeartbeats 2000000 in
theorem packWrite_yes (t : Int) (A : Option Addr) (c : Nat) (l : List Val3) (w : World) (hs : S6 w) (ht : KT t) (h0 : 0 < l.length) (hl : l.length ≤ 1000) (hr : Has w A (fl l)) (ho : OkL t l) (h64 : All64 l) :
    Calls Tryd.prog 29 #[.int .i64 t, .slice A l.length c] w (WritesB (some (packB l)) w) := by
  obtain ⟨a0, a2, a3, a4, S⟩ := hs.sn
  have HA := Lib.hid (all_yes t A c l a0 a2 a3 a4 w S (by unfold KT at ht; omega) (by omega) hr ho)
  have HLW := Lib.hid (fun w' (lz : Later w w') => packLow_any A c l w' h0 hl (hr.later lz))
  have d4 : (t == 4) = false := by rw [beq_eq_false_iff_ne]; unfold KT at ht; omega
  have d0 : ((l.length : Int) == 0) = false := by rw [beq_eq_false_iff_ne]; omega
  obtain ⟨n, hn⟩ : ∃ n, n = l.length := ⟨_, rfl⟩
  obtain ⟨m, hm⟩ : ∃ m, m = lowI l := ⟨_, rfl⟩
  obtain ⟨U, hU⟩ : ∃ U, U = aboveL m l := ⟨_, rfl⟩
  obtain ⟨wd, hwd⟩ : ∃ wd, wd = widL U := ⟨_, rfl⟩
  obtain ⟨Q, hQ⟩ : ∃ Q, Q = putBits U wd := ⟨_, rfl⟩
  have HBYTES := Lib.hid (show packB l = (putNum (zig m) ++ [wd]) ++ Q by
    unfold packB
    rw [if_neg (by intro e; rw [e] at h0; cases h0), List.append_assoc, hQ, hwd, hU, hm]; rfl)
  have HMI := Lib.hid (show In64 m by rw [hm]; exact lowI_in h64)
  have HMLE := Lib.hid (show ∀ v ∈ l, m ≤ v.2.1 by rw [hm]; exact lowI_le)
  have HU64 := Lib.hid (show ∀ x ∈ U, x < 18446744073709551616 by rw [hU, hm]; exact aboveL_lt (lowI_in h64) h64)
  have HUL := Lib.hid (show U.length = n by rw [hU, hn]; exact aboveL_len m l)
  have HUG := Lib.hid (fun (j : Nat) (hj : j < l.length) (hj' : j < U.length) => (show U[j] = (l[j].2.1 - m).toNat by subst hU; simp [aboveL]))
  have HWD := Lib.hid (show wd ≤ 64 by rw [hwd]; exact widL_le64 U HU64.out)
  have HWE := Lib.hid hwd
  have HQL := Lib.hid (show Q.length ≤ 8001 by
    have h1 := HWD.out
    have h2 := HUL.out
    have h3 : U.length * wd ≤ 1000 * 64 := Nat.mul_le_mul (by omega) h1
    rw [hQ, putBits_len]; omega)
  have H64 := Lib.hid h64
  rw [← hn] at HA HLW d0 ⊢
  have HNL := Lib.hid hn
  have HRL := Lib.hid hr
  have HMM := Lib.hid hm
  have HQQ := Lib.hid hQ
  have hn0 : 0 < n := by omega
  have hn9 : n ≤ 1000 := by omega
  rw [← hm] at HLW
  have hmk := fun W => run_make_row' (P := Tryd.prog) 73 59 (.int .u64 0) 8 Tryd.underlying73 info_u64 rfl .i64 .i64 n (by omega) (by omega) W
  clear S hs ht ho hr h64 h0 hl hn hm hU hwd hQ
  go_enter Tryd.func29, Tryd.ntmps29
  go_wp2_with fail
  refine HA.out.mono ?_
  rintro e w1 ⟨rfl, l1⟩
  have L1 := Lib.hid l1
  clear l1 HA
  go_wp2_with fail
  refine (HLW.out w1 L1.out).mono ?_
  rintro e w2 ⟨rfl, l2⟩
  have L2 := Lib.hid (L1.out.trans l2)
  clear l2 L1 HLW
  go_wp2_with fail
  clear hmk
  go_loopw [38] (fun i wr => ∃ j : Nat, j ≤ n ∧ i = .int .i64 j ∧ Row wr w2.heap.size 59 .u64 (U.take j ++ List.replicate (n - j) 0) ∧ Later w2 wr) (fun i _ => n - (intOf i).toNat)
  case atStart =>
    refine ⟨0, Nat.zero_le _, rfl, ?_, Later.new _ _⟩
    simp only [List.take_zero, List.nil_append, Nat.sub_zero]
    exact Row.made w2 _ .u64 n
  case round =>
    obtain ⟨j, hj, rfl, hrow, lat⟩ := hrel
    by_cases hlt : j < n
    · have hjl : j < l.length := by have := HNL.out; omega
      have hju : j < U.length := by have := HUL.out; omega
      obtain ⟨b, off, rfl, c0, c1, c2⟩ := (HRL.out.later (L2.out.trans lat)).val3 j hjl
      have hq := HUG.out j hjl hju
      have hi := H64.out _ (List.getElem_mem hjl)
      have hmle := HMLE.out _ (List.getElem_mem hjl)
      generalize l[j].1 = tt at c0
      generalize l[j].2.1 = i at c1 hi hmle hq
      generalize l[j].2.2 = s at c2
      obtain ⟨q, hqq⟩ : ∃ q : Nat, q = (i - m).toNat := ⟨_, rfl⟩
      have hsub : IntKind.u64.wrap (IntKind.u64.wrap i - IntKind.u64.wrap m) = (q : Int) := by
        have h1 := HMI.out
        unfold In64 at hi h1
        rw [IntKind.wrap_u64, IntKind.wrap_u64, IntKind.wrap_u64]
        omega
      have lA : Later wr (wr.alloc (.cells #[.int .i64 tt, .int .i64 i, .string s] 26)) := Later.new _ _
      have hrow2 := lA.row hrow
      have hcl := hrow2.cell j (by simp; omega)
      have hfr := hrow2.frozen j
      obtain ⟨old, hold⟩ : ∃ old : Int, (wr.alloc (.cells #[.int .i64 tt, .int .i64 i, .string s] 26)).cell? ⟨w2.heap.size, j, none⟩ = some (.int .u64 old) := ⟨_, hcl⟩
      have HN := Lib.hid (hrow2.set' j q (q : Int) rfl _ (set_fill U j n HUL.out hlt q (by rw [hqq, ← hq])))
      have HB := Lib.hid (Later.of ((lat.trans lA).below.setCell (p := ⟨w2.heap.size, j, none⟩) (Nat.le_refl _) (.int .u64 (q : Int))))
      clear hcl hrow hrow2 lat lA hq hqq hi hmle
      go_wp2_with fail
      go_roundw
      case rel => exact ⟨j + 1, hlt, by go_num, HN.out, HB.out⟩
      case measure => simp [intOf]; omega
    · have hfin : U.take j ++ List.replicate (n - j) 0 = U := by
        rw [show n - j = 0 by omega, List.replicate_zero, List.append_nil, List.take_of_length_le (by have := HUL.out; omega)]
      rw [hfin] at hrow
      have L3 := Lib.hid (L2.out.trans lat)
      have HROW := Lib.hid hrow
      have HW := Lib.hid (width_o (some ⟨w2.heap.size, 0, none⟩) n n U wr HUL.out.symm (Has.row hrow) (by have := HUL.out; omega) HU64.out)
      have HPT := Lib.hid (bitsPut_o (some ⟨w2.heap.size, 0, none⟩) n n U (wd : Int) wd wr HUL.out.symm rfl (Has.row hrow) (by have := HUL.out; omega) HU64.out HWD.out (by rw [HWE.out]; exact Nat.le_refl _))
      rw [← HWE.out] at HW
      rw [← HQQ.out] at HPT
      clear hrow lat hfin
      go_wp2_with (go_at_call 48; refine HW.out.mono ?_; rintro e w' ⟨rfl, rfl⟩)
      refine HPT.out.mono ?_
      intro e w3 h
      obtain ⟨QA, qc, rfl, qh, hqc1, hqc2, hqn, l3⟩ := h.yes rfl
      have L4 := Lib.hid (L3.out.trans l3)
      have HQH := Lib.hid qh
      have HQN := Lib.hid hqn
      have HZL := Lib.hid (zig_lt m HMI.out.1 HMI.out.2)
      have HPL := Lib.hid (putNum_le (zig m))
      have hwdw : IntKind.u8.wrap (wd : Int) = (wd : Int) := by have := HWD.out; rw [IntKind.wrap_u8]; omega
      clear h l3 L3 HPT HW HROW qh hqn
      go_wp2_with (first
        | (go_at_call 51; refine (zig_any m _ HMI.out.1 HMI.out.2).mono ?_; rintro e w' ⟨rfl, rfl⟩)
        | (go_at_call 50; refine (put_makes (zig m) HZL.out _).mono ?_; rintro e w5 ⟨P, cp, rfl, o5, b5, n5⟩; have O5 := Lib.hid o5; have L5 := Lib.hid (Later.of b5); clear o5 b5 n5)
        | (at_builtin; refine wpList_append_rd _ rfl (.tmp 68) (.tmp 71) 22 rfl w3.heap.size 5 (.int .u8 0) 1 Tryd.underlying22 info_u8 rfl _ (putNum (zig m)).length (ints .u8 (putNum (zig m))) rfl (O5.out.alloc _) _ _ 1 1 (ints .u8 [wd]) rfl (rd_lit w5 _ .u8 [wd] _ rfl) ?_ ?_ (ints_one _ _) ?_ ?_ ?_ ?_; rfl; (intro h; cases h); (have := HPL.out; unfold maxLen; omega); (have := HPL.out; omega); (have := L5.out.size; simp; omega); intro A6 c6 w6 o6 g6 b6 n6; have O6 := Lib.hid o6; have L6 := Lib.hid (Later.of ((L5.out.alloc (.cells (ints .u8 [wd]).toArray 5)).below.trans b6)); have HQ6 := Lib.hid (HQH.out.later L6.out); clear o6 g6 b6 n6)
        | (at_builtin; refine wpList_append_rd _ rfl (.tmp 73) (.tmp 74) 22 rfl w3.heap.size 5 (.int .u8 0) 1 Tryd.underlying22 info_u8 rfl _ ((putNum (zig m)).length + 1) (ints .u8 (putNum (zig m)) ++ ints .u8 [wd]) rfl O6.out _ QA Q.length qc (ints .u8 Q) rfl HQ6.out ?_ HQN.out (ints_one _ _) ?_ ?_ ?_ ?_; (rw [ints_length]); (have h1 := HPL.out; have h2 := HQL.out; unfold maxLen; omega); (have h1 := HPL.out; have h2 := HQL.out; omega); (exact L6.out.size); intro A7 c7 w7 o7 g7 b7 n7; have O7 := Lib.hid o7; have L7 := Lib.hid (Later.of (L6.out.below.trans b7)); have N7 := Lib.hid n7; clear o7 g7 b7 n7))
      go_ret2
      have hlen : (putNum (zig m)).length + 1 + Q.length = (packB l).length := by
        rw [HBYTES.out, List.length_append, List.length_append]; rfl
      have hcells : ints .u8 (putNum (zig m)) ++ ints .u8 [wd] ++ ints .u8 Q = ints .u8 (packB l) := by rw [HBYTES.out]; simp [ints]
      have o := O7.out
      rw [hcells] at o
      have o1 := own_cap o
      exact ⟨.inr ⟨packB l, A7, c7, rfl, by rw [← hlen]; rfl, Has.own o, by omega, own_capmax o, N7.out⟩, L4.out.trans L7.out⟩

set_option maxRecDepth 100000 in
theorem packWrite_nil (t : Int) (A : Option Addr) (c : Nat) (w : World) (hs : S6 w) (ht : KT t) :
    Calls Tryd.prog 29 #[.int .i64 t, .slice A 0 c] w (WritesB (some []) w) := by
  obtain ⟨a0, a2, a3, a4, S⟩ := hs.sn
  have HA := Lib.hid (all_yes t A c [] a0 a2 a3 a4 w S (by unfold KT at ht; omega) (by simp) (Has.nil_) (fun x hx => by cases hx))
  have d4 : (t == 4) = false := by rw [beq_eq_false_iff_ne]; unfold KT at ht; omega
  clear S hs ht
  go_enter Tryd.func29, Tryd.ntmps29
  go_wp2_with fail
  refine HA.out.mono ?_
  rintro e w1 ⟨rfl, l1⟩
  go_wp2_with fail
  go_ret2
  exact ⟨.inr ⟨[], none, 0, rfl, rfl, Has.nil_, Nat.le_refl _, by decide, fun _ => rfl⟩, l1⟩

set_option maxRecDepth 100000 in
theorem packWrite_no (t : Int) (A : Option Addr) (c : Nat) (l : List Val3) (w : World) (hs : S6 w) (hl : l.length ≤ 1000) (hr : Has w A (fl l)) (ho : ¬ (KT t ∧ OkL t l)) :
    Calls Tryd.prog 29 #[.int .i64 t, .slice A l.length c] w (WritesB none w) := by
  have hif : Tryd.prog.isIface 52 = true := by kernel_rfl
  by_cases ht : t = 4
  · have d4 : (t == 4) = true := by simp [ht]
    obtain ⟨a, hc⟩ := hs.type
    clear hs ho hr ht
    go_enter Tryd.func29, Tryd.ntmps29
    go_wp2_with (go_at_call 45; refine (at_l _ _ _ _).mono ?_; rintro e w1 ⟨q, rfl, l1⟩)
    go_ret2
    exact ⟨.inl ⟨rfl, q, rfl⟩, l1⟩
  · have d4 : (t == 4) = false := by rw [beq_eq_false_iff_ne]; exact ht
    obtain ⟨a0, a2, a3, a4, S⟩ := hs.sn
    have HA := Lib.hid (all_no t A c l a0 a2 a3 a4 w S (by omega) hr fun h => ho ⟨by unfold KT; omega, h.2⟩)
    clear S hs ho hr ht
    go_enter Tryd.func29, Tryd.ntmps29
    go_wp2_with fail
    refine HA.out.mono ?_
    rintro e w1 ⟨v, rfl, ⟨p, rfl⟩, l1⟩
    have heq := run_eql_iface_nil (P := Tryd.prog) (w := w1) 52 hif 90 (.pointer (some p))
    go_wp2_with fail
    go_ret2
    exact ⟨.inl ⟨rfl, p, rfl⟩, l1⟩

theorem packWrite_any (t : Int) (A : Option Addr) (c : Nat) (l : List Val3) (w : World) (hs : S6 w) (hl : l.length ≤ 1000) (hr : Has w A (fl l)) (h64 : All64 l) :
    Calls Tryd.prog 29 #[.int .i64 t, .slice A l.length c] w (WritesB (putK t l) w) := by
  unfold putK
  by_cases h : KT t ∧ OkL t l
  · rw [if_pos h]
    by_cases h0 : 0 < l.length
    · exact packWrite_yes t A c l w hs h.1 h0 hl hr h.2 h64
    · obtain rfl : l = [] := List.eq_nil_of_length_eq_zero (by omega)
      exact packWrite_nil t A c w hs h.1
  · rw [if_neg h]; exact packWrite_no t A c l w hs hl hr h

set_option maxRecDepth 100000 in
theorem packPut_any (t : Int) (A : Option Addr) (c : Nat) (l : List Val3) (w : World) (hs : S6 w) (hl : l.length ≤ 1000) (hr : Has w A (fl l)) (h64 : All64 l) :
    Calls Tryd.prog 15 #[.int .i64 t, .slice A l.length c] w (PutsB (putK t l) w) := by
  have HC := Lib.hid (packWrite_any t A c l w hs hl hr h64)
  clear hs hr h64 hl
  go_enter Tryd.func15, Tryd.ntmps15
  go_wp2_with fail
  refine HC.out.mono ?_
  rintro e w1 ⟨⟨ho, p, rfl⟩ | ⟨b, B, cb, ho, rfl, h1, h2, h3, h4⟩, l1⟩
  · go_wp2_with (go_at_call 28; refine (listB_no _ _ _ p _).mono ?_; rintro e w' ⟨rfl, rfl⟩)
    go_ret2
    exact ⟨.inl ⟨ho, rfl⟩, l1⟩
  · have H := Lib.hid (show PutsB (putK t l) w (.returned (.tuple #[.slice B b.length cb, .bool true])) w1 from ⟨.inr ⟨b, B, cb, ho, rfl, h1, h2, h3, h4⟩, l1⟩)
    clear ho h1 h2 h3 h4 l1
    go_wp2_with (go_at_call 28; refine (listB_yes _ _ _ _).mono ?_; rintro e w' ⟨rfl, rfl⟩)
    go_ret2
    exact H.out
end Go.Proofs.YtdhaagooiioglaaDoor
