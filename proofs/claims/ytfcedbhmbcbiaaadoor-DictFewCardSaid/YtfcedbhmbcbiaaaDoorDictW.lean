/- Walks of package dict: width, write, Put. -/
import Derived.Test.YtfcedbhmbcbiaaaDoorDictN
import Derived.Test.YtfcedbhmbcbiaaaDoorCellD
import Derived.Test.YtfcedbhmbcbiaaaDoorCellS
namespace Go.Proofs.YtfcedbhmbcbiaaaDoor
open Go.RowKit
set_option linter.unusedVariables false

set_option maxRecDepth 100000 in
theorem dictWidth_any (n : Nat) (w : World) (hn : n ≤ 1000000) : Calls Tryd.prog 25 #[.int .i64 n] w fun e w' => e = .returned (.int .i64 (widD n : Nat)) ∧ Later w w' := by
  by_cases h0 : n = 0
  · have d0 : ((n : Int) == 0) = true := by simp [h0]
    have HW := Lib.hid (show widD n = 0 by unfold widD; rw [if_pos h0])
    clear h0 hn
    go_enter Tryd.func25, Tryd.ntmps25
    go_wp2_with fail
    go_ret
    exact ⟨by rw [HW.out]; rfl, Later.refl _⟩
  · have d0 : ((n : Int) == 0) = false := by rw [beq_eq_false_iff_ne]; omega
    obtain ⟨m, hm⟩ : ∃ m, n = m + 1 := ⟨n - 1, by omega⟩
    have hsub : (n : Int) - 1 = (m : Int) := by omega
    have hsubw : IntKind.i64.wrap ((n : Int) - 1) = (m : Int) := by rw [hsub]; exact IntWalk.i64_in _ ⟨by omega, by omega⟩
    have hmw : IntKind.u64.wrap (m : Int) = (m : Int) := by rw [IntKind.wrap_u64]; omega
    have HW := Lib.hid (show widL [m] = widD n by unfold widD; rw [if_neg h0, hm]; unfold widL; simp)
    have HB := Lib.hid (width_o (some ⟨w.heap.size, 0, none⟩) 1 1 [m] (w.alloc (.cells (ints .u64 [m]).toArray 56)) rfl (Has.row (Row.lit w 56 .u64 [m])) (by simp) (fun x hx => by rw [List.mem_singleton] at hx; omega))
    rw [HW.out] at HB
    clear h0 hm hsub hn
    go_enter Tryd.func25, Tryd.ntmps25
    go_wp2_with fail
    refine HB.out.mono ?_
    rintro e w' ⟨rfl, rfl⟩
    go_wp2_with fail
    go_ret
    exact ⟨rfl, Later.new _ _⟩

/-- Where write's loop stands. -/
def DWInv (pre : List Nat) (d : List Val3) (w3 : World) (bv iv : Value) (wr : World) : Prop :=
  ∃ (B : Option Addr) (n cb k : Nat), k ≤ d.length ∧ iv = .int .i64 k ∧ bv = .slice B n cb ∧ n = (pre ++ plainB (d.take k)).length ∧ wr.ownsRow w3.heap.size 5 1 (.slice B n cb) n (ints .u8 (pre ++ plainB (d.take k))) ∧ (B = none → cb = 0) ∧ Later w3 wr
theorem DWInv.mk {pre : List Nat} {d : List Val3} {w3 wr : World} (B : Option Addr) (n cb k : Nat) (i : Int) (hk : k ≤ d.length) (hi : i = (k : Int)) (hn : n = (pre ++ plainB (d.take k)).length) (ho : wr.ownsRow w3.heap.size 5 1 (.slice B n cb) n (ints .u8 (pre ++ plainB (d.take k)))) (hb : B = none → cb = 0) (lat : Later w3 wr) : DWInv pre d w3 (.slice B n cb) (.int .i64 i) wr := by
  subst hi; exact ⟨B, n, cb, k, hk, rfl, rfl, hn, ho, hb, lat⟩

set_option maxRecDepth 100000 in
set_option maxHeartbeats 2000000 in
theorem dictWrite_yes (t : Int) (A : Option Addr) (n c : Nat) (l : List Val3) (w : World) (hn : n = l.length) (hs : S6 w) (ht : 1 ≤ t ∧ t ≤ 4) (hl : l.length ≤ 1000) (hr : Has w A (fl l)) (ho : OkL t l) (h64 : All64 l) :
    Calls Tryd.prog 14 #[.int .i64 t, .slice A n c] w (WritesB (some (dictB l)) w) := by
  obtain ⟨a0, a2, a3, a4, S⟩ := hs.sn
  have HA := Lib.hid (all_yes t A c l a0 a2 a3 a4 w S ht (by omega) hr ho)
  rw [← hn] at HA
  have HUN := Lib.hid (fun w' (lz : Later w w') => unlike_any t ht A n c l w' hn hl (hr.later lz) ho)
  obtain ⟨d, hd⟩ : ∃ d, d = wordsOf l := ⟨_, rfl⟩
  obtain ⟨Q, hQ⟩ : ∃ Q, Q = putBits (places d l) (widD d.length) := ⟨_, rfl⟩
  have HBY := Lib.hid (show dictB l = putNum d.length ++ (plainB d ++ Q) by rw [hQ, hd]; rfl)
  have hdl := words_len l
  have HOD := Lib.hid (show OkL t d by rw [hd]; exact words_ok ht ho)
  have HD64 := Lib.hid (show All64 d by rw [hd]; exact words_64 ht ho h64)
  have HASC := Lib.hid (show Asc d by rw [hd]; exact words_asc ht ho)
  have HWL := Lib.hid (show widL (places d l) ≤ widD d.length by rw [hd]; exact places_wid ht ho)
  have HPLT := Lib.hid (show ∀ x ∈ places d l, x < 18446744073709551616 by
    intro x hx
    obtain ⟨v, hv, rfl⟩ := List.mem_map.1 hx
    have : placeOf d v ≤ d.length := List.countP_le_length
    rw [hd] at this
    rw [hd]
    omega)
  rw [← hd] at HUN hdl
  have HT := Lib.hid ht
  have HRL := Lib.hid hr
  have HNL := Lib.hid hn
  have HQQ := Lib.hid hQ
  have HQL := Lib.hid (show Q.length ≤ 8001 by
    have h1 := widD_le (n := d.length) (by omega)
    have h3 : l.length * widD d.length ≤ 1000 * 64 := Nat.mul_le_mul (by omega) h1
    rw [hQ, putBits_len, places_len]; omega)
  have hn9 : n ≤ 1000 := by omega
  have HDN := Lib.hid (show d.length ≤ 1000 by omega)
  clear S hs ht hl hr ho h64 hn hd hQ hdl
  go_enter Tryd.func14, Tryd.ntmps14
  go_wp2_with fail
  refine HA.out.mono ?_
  rintro e w1 ⟨rfl, l1⟩
  have L1 := Lib.hid l1
  clear l1 HA
  go_wp2_with fail
  refine (HUN.out w1 L1.out).mono ?_
  rintro e w3 ⟨D, m, dc, rfl, hm, hdh, l3⟩
  have HM := Lib.hid hm
  have L3 := Lib.hid (L1.out.trans l3)
  have HDH := Lib.hid hdh
  have hm9 : m ≤ 1000 := by have := HDN.out; omega
  have hmw : IntKind.u64.wrap (m : Int) = (m : Int) := by rw [IntKind.wrap_u64]; omega
  have HPM := Lib.hid (putNum_le m)
  clear hm hdh l3 HUN L1
  go_wp2_with fail
  refine (put_makes m (by omega) w3).mono ?_
  rintro e w4 ⟨P, cp, rfl, o4, b4, n4⟩
  have O4 := Lib.hid o4
  have L4 := Lib.hid (Later.of b4)
  have N4 := Lib.hid n4
  clear o4 b4 n4
  go_wp2_with fail
  go_loopw [8, 27] (fun bv iv wr => DWInv (putNum m) d w3 bv iv wr) (fun _ iv _ => m - (intOf iv).toNat)
  case atStart => exact DWInv.mk P _ cp 0 _ (Nat.zero_le _) rfl (by simp [plainB]) (by simpa [plainB] using O4.out) N4.out L4.out
  case round =>
    obtain ⟨B, nb, cb, k, hk, rfl, rfl, hnb, hown, hnil, lat⟩ := hrel
    by_cases hlt : k < m
    · have hkd : k < d.length := by have := HM.out; omega
      obtain ⟨b, off, rfl, c0, c1, c2⟩ := (HDH.out.later lat).val3 k hkd
      obtain ⟨hx, hmv⟩ := HOD.out _ (List.getElem_mem hkd)
      have hi := HD64.out _ (List.getElem_mem hkd)
      have HK := Lib.hid (show putNum m ++ plainB (d.take (k + 1)) = (putNum m ++ plainB (d.take k)) ++ oneB d[k].1 d[k].2.1 d[k].2.2 by
        rw [List.take_succ_eq_append_getElem hkd, plainB_append, List.append_assoc]; simp [plainB])
      have HLE := Lib.hid (show (putNum m ++ plainB (d.take k)).length ≤ 10 + 1000 * 21 by
        have h1 := plainB_le (t := t) (l := d.take k) fun x hx => HOD.out x (List.mem_of_mem_take hx)
        have h2 := HPM.out
        rw [List.length_take] at h1
        rw [List.length_append]
        omega)
      have HO1 := Lib.hid (oneB_le hmv)
      rw [hx] at c0 hmv HK HO1
      generalize d[k].2.1 = i at c1 hmv hi HK HO1
      generalize d[k].2.2 = s at c2 hmv HK HO1
      have HMV := Lib.hid hmv
      have HI := Lib.hid hi
      have HLAT := Lib.hid lat
      have HNB := Lib.hid hnb
      have HOWN := Lib.hid hown
      have HKD := Lib.hid hkd
      clear hmv hi hx lat hnb hown hnil hkd hk
      go_wp2_with (first
        | (go_at_call 22; refine (cellPut_any t i s _ HT.out HMV.out HI.out).mono ?_; rintro e w5 ⟨P5, cp5, rfl, r5, b5, m5, n5, l5⟩; have HR5 := Lib.hid r5; have HL5 := Lib.hid ((HLAT.out.alloc _).trans l5); have HW5 := Lib.hid (own_later (HOWN.out.alloc _) l5); have HN5 := Lib.hid n5; clear r5 b5 m5 l5 n5)
        | (at_builtin; refine wpList_append_rd _ rfl (.tmp 31) (.tmp 33) 22 rfl w3.heap.size 5 (.int .u8 0) 1 Tryd.underlying22 info_u8 rfl _ nb (ints .u8 (putNum m ++ plainB (d.take k))) rfl HW5.out _ P5 (oneB t i s).length cp5 (ints .u8 (oneB t i s)) rfl HR5.out ?_ HN5.out (ints_one _ _) ?_ ?_ ?_ ?_; (rw [ints_length]); (have h1 := HLE.out; have h2 := HO1.out; have h3 := HNB.out; unfold maxLen; omega); (have h1 := HLE.out; have h2 := HO1.out; have h3 := HNB.out; omega); (exact HL5.out.size); intro A2 c2 w6 o2 g2 b2 n2; have HO2 := Lib.hid o2; have HB6 := Lib.hid b2; have HN2 := Lib.hid n2; clear o2 g2 b2 n2))
      go_roundw
      case rel =>
        refine DWInv.mk A2 _ c2 (k + 1) _ HKD.out (by go_num) ?_ ?_ HN2.out (Later.of (HL5.out.below.trans HB6.out))
        · rw [HK.out, List.length_append, HNB.out]
        · rw [HK.out, ints_snoc]; exact HO2.out
      case measure => simp [intOf]; omega
    · obtain rfl : k = m := by have := HM.out; omega
      rw [List.take_of_length_le (by have := HM.out; omega)] at hnb hown
      have L5 := Lib.hid (L3.out.trans lat)
      have HOWN := Lib.hid hown
      have HNB := Lib.hid hnb
      have HLAT := Lib.hid lat
      have HPL := Lib.hid (places_any D A k n dc c d l wr HM.out HNL.out HDN.out (by have := HNL.out; omega) (HDH.out.later lat) (HRL.out.later L5.out) HASC.out)
      clear hown hnb hnil lat hlt hk
      go_wp2_with fail
      refine HPL.out.mono ?_
      rintro e w6 ⟨g, rfl, row, l6⟩
      have L6 := Lib.hid (HLAT.out.trans l6)
      have HROW := Lib.hid row
      have O6 := Lib.hid (own_later HOWN.out l6)
      clear row l6 HPL
      go_wp2_with fail
      refine (dictWidth_any k w6 (by omega)).mono ?_
      rintro e w7 ⟨rfl, l7⟩
      have L7 := Lib.hid (L6.out.trans l7)
      have O7 := Lib.hid (own_later O6.out l7)
      have HPT := Lib.hid (bitsPut_o (some ⟨g, 0, none⟩) n n (places d l) (widD k : Int) (widD k) w7 (by rw [places_len]; exact HNL.out) rfl (Has.row (l7.row HROW.out)) (by rw [places_len]; have := HNL.out; omega) HPLT.out (widD_le (by omega)) (by have := HWL.out; rw [← HM.out] at this; exact this))
      have hQk : putBits (places d l) (widD k) = Q := by rw [HQQ.out, ← HM.out]
      rw [hQk] at HPT
      clear l7 hQk
      go_wp2_with fail
      refine HPT.out.mono ?_
      intro e w8 h
      obtain ⟨QA, qc, rfl, qh, hq1, hq2, hqn, l8⟩ := h.yes rfl
      have L8 := Lib.hid (L7.out.trans l8)
      have O8 := Lib.hid (own_later O7.out l8)
      have HQH := Lib.hid qh
      have HQN := Lib.hid hqn
      have HLE := Lib.hid (show (putNum k ++ plainB d).length ≤ 10 + 1000 * 21 by
        have h1 := plainB_le HOD.out
        have h2 := HPM.out
        have h3 := HDN.out
        rw [List.length_append]
        omega)
      clear h l8 HPT qh hqn
      go_wp2_with (at_builtin; refine wpList_append_rd _ rfl (.tmp 52) (.tmp 53) 22 rfl w3.heap.size 5 (.int .u8 0) 1 Tryd.underlying22 info_u8 rfl _ nb (ints .u8 (putNum k ++ plainB d)) rfl O8.out _ QA Q.length qc (ints .u8 Q) rfl HQH.out ?_ HQN.out (ints_one _ _) ?_ ?_ ?_ ?_; (rw [ints_length]); (have h1 := HLE.out; have h2 := HQL.out; have h3 := HNB.out; unfold maxLen; omega); (have h1 := HLE.out; have h2 := HQL.out; have h3 := HNB.out; omega); (exact L8.out.size); intro A9 c9 w9 o9 g9 b9 n9; have O9 := Lib.hid o9; have L9 := Lib.hid (Later.of (L8.out.below.trans b9)); have N9 := Lib.hid n9; clear o9 g9 b9 n9)
      go_ret2
      have hlen : nb + Q.length = (dictB l).length := by
        rw [HBY.out, ← HM.out, HNB.out, ← List.append_assoc]
        simp only [List.length_append]
      have hcells : ints .u8 (putNum k ++ plainB d) ++ ints .u8 Q = ints .u8 (dictB l) := by rw [HBY.out, ← HM.out, ← List.append_assoc]; simp [ints]
      have o := O9.out
      rw [hcells] at o
      have o1 := own_cap o
      exact ⟨.inr ⟨dictB l, A9, c9, rfl, by rw [← hlen]; rfl, Has.own o, by omega, own_capmax o, N9.out⟩, L3.out.trans L9.out⟩

set_option maxRecDepth 100000 in
theorem dictWrite_no (t : Int) (A : Option Addr) (c : Nat) (l : List Val3) (w : World) (hs : S6 w) (hl : l.length ≤ 1000) (hr : Has w A (fl l)) (ho : ¬ ((1 ≤ t ∧ t ≤ 4) ∧ OkL t l)) :
    Calls Tryd.prog 14 #[.int .i64 t, .slice A l.length c] w (WritesB none w) := by
  have hif : Tryd.prog.isIface 42 = true := by kernel_rfl
  obtain ⟨a0, a2, a3, a4, S⟩ := hs.sn
  have HA := Lib.hid (all_no t A c l a0 a2 a3 a4 w S (by omega) hr ho)
  clear S hs ho hr
  go_enter Tryd.func14, Tryd.ntmps14
  go_wp2_with fail
  refine HA.out.mono ?_
  rintro e w1 ⟨v, rfl, ⟨p, rfl⟩, l1⟩
  have heq := run_eql_iface_nil (P := Tryd.prog) (w := w1) 42 hif 81 (.pointer (some p))
  go_wp2_with fail
  go_ret2
  exact ⟨.inl ⟨rfl, p, rfl⟩, l1⟩

theorem dictWrite_any (t : Int) (A : Option Addr) (c : Nat) (l : List Val3) (w : World) (hs : S6 w) (hl : l.length ≤ 1000) (hr : Has w A (fl l)) (h64 : All64 l) :
    Calls Tryd.prog 14 #[.int .i64 t, .slice A l.length c] w (WritesB (putT t l) w) := by
  unfold putT
  by_cases h : (1 ≤ t ∧ t ≤ 4) ∧ OkL t l
  · rw [if_pos h]; exact dictWrite_yes t A l.length c l w rfl hs h.1 hl hr h.2 h64
  · rw [if_neg h]; exact dictWrite_no t A c l w hs hl hr h

set_option maxRecDepth 100000 in
theorem dictPut_any (t : Int) (A : Option Addr) (c : Nat) (l : List Val3) (w : World) (hs : S6 w) (hl : l.length ≤ 1000) (hr : Has w A (fl l)) (h64 : All64 l) :
    Calls Tryd.prog 8 #[.int .i64 t, .slice A l.length c] w (PutsB (putT t l) w) := by
  have HC := Lib.hid (dictWrite_any t A c l w hs hl hr h64)
  clear hs hr h64 hl
  go_enter Tryd.func8, Tryd.ntmps8
  go_wp2_with fail
  refine HC.out.mono ?_
  rintro e w1 ⟨⟨ho, p, rfl⟩ | ⟨b, B, cb, ho, rfl, h1, h2, h3, h4⟩, l1⟩
  · go_wp2_with (go_at_call 13; refine (listB_no _ _ _ p _).mono ?_; rintro e w' ⟨rfl, rfl⟩)
    go_ret2
    exact ⟨.inl ⟨ho, rfl⟩, l1⟩
  · have H := Lib.hid (show PutsB (putT t l) w (.returned (.tuple #[.slice B b.length cb, .bool true])) w1 from ⟨.inr ⟨b, B, cb, ho, rfl, h1, h2, h3, h4⟩, l1⟩)
    clear ho h1 h2 h3 h4 l1
    go_wp2_with (go_at_call 13; refine (listB_yes _ _ _ _).mono ?_; rintro e w' ⟨rfl, rfl⟩)
    go_ret2
    exact H.out
end Go.Proofs.YtfcedbhmbcbiaaaDoor
