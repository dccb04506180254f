
import Derived.Test.YtfcedbhmbcbiaaaGreatDoorDictN
import Derived.Test.YtfcedbhmbcbiaaaGreatDoorCellD
import Derived.Test.YtfcedbhmbcbiaaaGreatDoorCellS
import Derived.Test.YtfcedbhmbcbiaaaGreatDoorDictM
import Derived.Test.YtfcedbhmbcbiaaaGreatDoorLists
import Derived.Test.YtfcedbhmbcbiaaaGreatDoorCellG
import Derived.BigQuiet
import Derived.Deep.RegionLaw
/- Walks of package dict: width, write, Put. -/

namespace Go.Proofs.YtfcedbhmbcbiaaaGreatDoor
open Go.RowKit
set_option linter.unusedVariables false

set_option maxRecDepth 100000 in
theorem dictWidth_any (n : Nat) (w : World) (hn : n ≤ 1000000) : Calls Tryz.prog 37 #[.int .i64 n] w fun e w' => e = .returned (.int .i64 (widD n : Nat)) ∧ Later w w' := by
  by_cases h0 : n = 0
  · have d0 : ((n : Int) == 0) = true := by simp [h0]
    have HW := Lib.hid (show widD n = 0 by unfold widD; rw [if_pos h0])
    clear h0 hn
    go_enter Tryz.func37, Tryz.ntmps37
    go_wp2_with fail
    go_ret
    exact ⟨by rw [HW.out]; rfl, Later.refl _⟩
  · have d0 : ((n : Int) == 0) = false := by rw [beq_eq_false_iff_ne]; omega
    obtain ⟨m, hm⟩ : ∃ m, n = m + 1 := ⟨n - 1, by omega⟩
    have hsub : (n : Int) - 1 = (m : Int) := by omega
    have hsubw : IntKind.i64.wrap ((n : Int) - 1) = (m : Int) := by rw [hsub]; exact IntWalk.i64_in _ ⟨by omega, by omega⟩
    have hmw : IntKind.u64.wrap (m : Int) = (m : Int) := by rw [IntKind.wrap_u64]; omega
    have HW := Lib.hid (show widL [m] = widD n by unfold widD; rw [if_neg h0, hm]; unfold widL; simp)
    have HB := Lib.hid (width_o (some ⟨w.heap.size, 0, none⟩) 1 1 [m] (w.alloc (.cells (ints .u64 [m]).toArray 54)) rfl (Has.row (Row.lit w 54 .u64 [m])) (by simp) (fun x hx => by rw [List.mem_singleton] at hx; omega))
    rw [HW.out] at HB
    clear h0 hm hsub hn
    go_enter Tryz.func37, Tryz.ntmps37
    go_wp2_with fail
    refine HB.out.mono ?_
    rintro e w' ⟨rfl, rfl⟩
    go_wp2_with fail
    go_ret
    exact ⟨rfl, Later.new _ _⟩

/-- Where write's loop stands. -/
def DWInv (pre : List Nat) (d : List Val3) (w3 : World) (bv iv : Value) (wr : World) : Prop :=
  ∃ (B : Option Addr) (n cb k : Nat), k ≤ d.length ∧ iv = .int .i64 k ∧ bv = .slice B n cb ∧ n = (pre ++ plainB (d.take k)).length ∧ wr.ownsRow w3.heap.size 5 1 (.slice B n cb) n (ints .u8 (pre ++ plainB (d.take k))) ∧ (B = none → cb = 0) ∧ Later w3 wr
theorem DWInv.mk {pre : List Nat} {d : List Val3} {w3 wr : World} (B : Option Addr) (n cb k : Nat) (i : Int) (hk : k ≤ d.length) (hi : i = (k : Int)) (hn : n = (pre ++ plainB (d.take k)).length) (ho : wr.ownsRow w3.heap.size 5 1 (.slice B n cb) n (ints .u8 (pre ++ plainB (d.take k)))) (hb : B = none → cb = 0) (lat : Later w3 wr) : DWInv pre d w3 (.slice B n cb) (.int .i64 i) wr := by
  subst hi; exact ⟨B, n, cb, k, hk, rfl, rfl, hn, ho, hb, lat⟩

set_option maxRecDepth 100000 in
set_option maxHeartbeats 2000000 in
theorem dictWrite_yes (t : Int) (A : Option Addr) (n c : Nat) (l : List Val3) (w : World) (hn : n = l.length) (hs : S6 w) (ht : 1 ≤ t ∧ t ≤ 4) (hl : l.length ≤ 1000) (hr : Has w A (fl l)) (ho : OkL t l) (h64 : All64 l) :
    Calls Tryz.prog 17 #[.int .i64 t, .slice A n c] w (WritesB (some (dictB l)) w) := by
  obtain ⟨a0, a2, a3, a4, S⟩ := hs.sn
  have HA := Lib.hid (all_yes t A c l a0 a2 a3 a4 w S ht (by omega) hr ho)
  rw [← hn] at HA
  have HUN := Lib.hid (fun w' (lz : Later w w') => unlike_any t ht A n c l w' hn hl (hr.later lz) ho)
  obtain ⟨d, hd⟩ : ∃ d, d = wordsOf l := ⟨_, rfl⟩
  obtain ⟨Q, hQ⟩ : ∃ Q, Q = putBits (places d l) (widD d.length) := ⟨_, rfl⟩
  have HBY := Lib.hid (show dictB l = putNum d.length ++ (plainB d ++ Q) by rw [hQ, hd]; rfl)
  have hdl := words_len l
  have HOD := Lib.hid (show OkL t d by rw [hd]; exact words_ok ht ho)
  have HD64 := Lib.hid (show All64 d by rw [hd]; exact words_64 ht ho h64)
  have HASC := Lib.hid (show Asc d by rw [hd]; exact words_asc ht ho)
  have HWL := Lib.hid (show widL (places d l) ≤ widD d.length by rw [hd]; exact places_wid ht ho)
  have HPLT := Lib.hid (show ∀ x ∈ places d l, x < 18446744073709551616 by
    intro x hx
    obtain ⟨v, hv, rfl⟩ := List.mem_map.1 hx
    have : placeOf d v ≤ d.length := List.countP_le_length
    rw [hd] at this
    rw [hd]
    omega)
  rw [← hd] at HUN hdl
  have HT := Lib.hid ht
  have HRL := Lib.hid hr
  have HNL := Lib.hid hn
  have HQQ := Lib.hid hQ
  have HQL := Lib.hid (show Q.length ≤ 8001 by
    have h1 := widD_le (n := d.length) (by omega)
    have h3 : l.length * widD d.length ≤ 1000 * 64 := Nat.mul_le_mul (by omega) h1
    rw [hQ, putBits_len, places_len]; omega)
  have hn9 : n ≤ 1000 := by omega
  have HDN := Lib.hid (show d.length ≤ 1000 by omega)
  clear S hs ht hl hr ho h64 hn hd hQ hdl
  go_enter Tryz.func17, Tryz.ntmps17
  go_wp2_with fail
  refine HA.out.mono ?_
  rintro e w1 ⟨rfl, l1⟩
  have L1 := Lib.hid l1
  clear l1 HA
  go_wp2_with fail
  refine (HUN.out w1 L1.out).mono ?_
  rintro e w3 ⟨D, m, dc, rfl, hm, hdh, l3⟩
  have HM := Lib.hid hm
  have L3 := Lib.hid (L1.out.trans l3)
  have HDH := Lib.hid hdh
  have hm9 : m ≤ 1000 := by have := HDN.out; omega
  have hmw : IntKind.u64.wrap (m : Int) = (m : Int) := by rw [IntKind.wrap_u64]; omega
  have HPM := Lib.hid (putNum_le m)
  clear hm hdh l3 HUN L1
  go_wp2_with fail
  refine (put_makes m (by omega) w3).mono ?_
  rintro e w4 ⟨P, cp, rfl, o4, b4, n4⟩
  have O4 := Lib.hid o4
  have L4 := Lib.hid (Later.of b4)
  have N4 := Lib.hid n4
  clear o4 b4 n4
  go_wp2_with fail
  go_loopw [8, 27] (fun bv iv wr => DWInv (putNum m) d w3 bv iv wr) (fun _ iv _ => m - (intOf iv).toNat)
  case atStart => exact DWInv.mk P _ cp 0 _ (Nat.zero_le _) rfl (by simp [plainB]) (by simpa [plainB] using O4.out) N4.out L4.out
  case round =>
    obtain ⟨B, nb, cb, k, hk, rfl, rfl, hnb, hown, hnil, lat⟩ := hrel
    by_cases hlt : k < m
    · have hkd : k < d.length := by have := HM.out; omega
      obtain ⟨b, off, rfl, c0, c1, c2⟩ := (HDH.out.later lat).val3 k hkd
      obtain ⟨hx, hmv⟩ := HOD.out _ (List.getElem_mem hkd)
      have hi := HD64.out _ (List.getElem_mem hkd)
      have HK := Lib.hid (show putNum m ++ plainB (d.take (k + 1)) = (putNum m ++ plainB (d.take k)) ++ oneB d[k].1 d[k].2.1 d[k].2.2 by
        rw [List.take_succ_eq_append_getElem hkd, plainB_append, List.append_assoc]; simp [plainB])
      have HLE := Lib.hid (show (putNum m ++ plainB (d.take k)).length ≤ 10 + 1000 * 21 by
        have h1 := plainB_le (t := t) (l := d.take k) fun x hx => HOD.out x (List.mem_of_mem_take hx)
        have h2 := HPM.out
        rw [List.length_take] at h1
        rw [List.length_append]
        omega)
      have HO1 := Lib.hid (oneB_le hmv)
      rw [hx] at c0 hmv HK HO1
      generalize d[k].2.1 = i at c1 hmv hi HK HO1
      generalize d[k].2.2 = s at c2 hmv HK HO1
      have HMV := Lib.hid hmv
      have HI := Lib.hid hi
      have HLAT := Lib.hid lat
      have HNB := Lib.hid hnb
      have HOWN := Lib.hid hown
      have HKD := Lib.hid hkd
      clear hmv hi hx lat hnb hown hnil hkd hk
      go_wp2_with (first
        | (go_at_call 34; refine (cellPut_any t i s _ HT.out HMV.out HI.out).mono ?_; rintro e w5 ⟨P5, cp5, rfl, r5, b5, m5, n5, l5⟩; have HR5 := Lib.hid r5; have HL5 := Lib.hid ((HLAT.out.alloc _).trans l5); have HW5 := Lib.hid (own_later (HOWN.out.alloc _) l5); have HN5 := Lib.hid n5; clear r5 b5 m5 l5 n5)
        | (at_builtin; refine wpList_append_rd _ rfl (.tmp 31) (.tmp 33) 22 rfl w3.heap.size 5 (.int .u8 0) 1 Tryz.underlying22 info_u8 rfl _ nb (ints .u8 (putNum m ++ plainB (d.take k))) rfl HW5.out _ P5 (oneB t i s).length cp5 (ints .u8 (oneB t i s)) rfl HR5.out ?_ HN5.out (ints_one _ _) ?_ ?_ ?_ ?_; (rw [ints_length]); (have h1 := HLE.out; have h2 := HO1.out; have h3 := HNB.out; unfold maxLen; omega); (have h1 := HLE.out; have h2 := HO1.out; have h3 := HNB.out; omega); (exact HL5.out.size); intro A2 c2 w6 o2 g2 b2 n2; have HO2 := Lib.hid o2; have HB6 := Lib.hid b2; have HN2 := Lib.hid n2; clear o2 g2 b2 n2))
      go_roundw
      case rel =>
        refine DWInv.mk A2 _ c2 (k + 1) _ HKD.out (by go_num) ?_ ?_ HN2.out (Later.of (HL5.out.below.trans HB6.out))
        · rw [HK.out, List.length_append, HNB.out]
        · rw [HK.out, ints_snoc]; exact HO2.out
      case measure => simp [intOf]; omega
    · obtain rfl : k = m := by have := HM.out; omega
      rw [List.take_of_length_le (by have := HM.out; omega)] at hnb hown
      have L5 := Lib.hid (L3.out.trans lat)
      have HOWN := Lib.hid hown
      have HNB := Lib.hid hnb
      have HLAT := Lib.hid lat
      have HPL := Lib.hid (places_any D A k n dc c d l wr HM.out HNL.out HDN.out (by have := HNL.out; omega) (HDH.out.later lat) (HRL.out.later L5.out) HASC.out)
      clear hown hnb hnil lat hlt hk
      go_wp2_with fail
      refine HPL.out.mono ?_
      rintro e w6 ⟨g, rfl, row, l6⟩
      have L6 := Lib.hid (HLAT.out.trans l6)
      have HROW := Lib.hid row
      have O6 := Lib.hid (own_later HOWN.out l6)
      clear row l6 HPL
      go_wp2_with fail
      refine (dictWidth_any k w6 (by omega)).mono ?_
      rintro e w7 ⟨rfl, l7⟩
      have L7 := Lib.hid (L6.out.trans l7)
      have O7 := Lib.hid (own_later O6.out l7)
      have HPT := Lib.hid (bitsPut_o (some ⟨g, 0, none⟩) n n (places d l) (widD k : Int) (widD k) w7 (by rw [places_len]; exact HNL.out) rfl (Has.row (l7.row HROW.out)) (by rw [places_len]; have := HNL.out; omega) HPLT.out (widD_le (by omega)) (by have := HWL.out; rw [← HM.out] at this; exact this))
      have hQk : putBits (places d l) (widD k) = Q := by rw [HQQ.out, ← HM.out]
      rw [hQk] at HPT
      clear l7 hQk
      go_wp2_with fail
      refine HPT.out.mono ?_
      intro e w8 h
      obtain ⟨QA, qc, rfl, qh, hq1, hq2, hqn, l8⟩ := h.yes rfl
      have L8 := Lib.hid (L7.out.trans l8)
      have O8 := Lib.hid (own_later O7.out l8)
      have HQH := Lib.hid qh
      have HQN := Lib.hid hqn
      have HLE := Lib.hid (show (putNum k ++ plainB d).length ≤ 10 + 1000 * 21 by
        have h1 := plainB_le HOD.out
        have h2 := HPM.out
        have h3 := HDN.out
        rw [List.length_append]
        omega)
      clear h l8 HPT qh hqn
      go_wp2_with (at_builtin; refine wpList_append_rd _ rfl (.tmp 52) (.tmp 53) 22 rfl w3.heap.size 5 (.int .u8 0) 1 Tryz.underlying22 info_u8 rfl _ nb (ints .u8 (putNum k ++ plainB d)) rfl O8.out _ QA Q.length qc (ints .u8 Q) rfl HQH.out ?_ HQN.out (ints_one _ _) ?_ ?_ ?_ ?_; (rw [ints_length]); (have h1 := HLE.out; have h2 := HQL.out; have h3 := HNB.out; unfold maxLen; omega); (have h1 := HLE.out; have h2 := HQL.out; have h3 := HNB.out; omega); (exact L8.out.size); intro A9 c9 w9 o9 g9 b9 n9; have O9 := Lib.hid o9; have L9 := Lib.hid (Later.of (L8.out.below.trans b9)); have N9 := Lib.hid n9; clear o9 g9 b9 n9)
      go_ret2
      have hlen : nb + Q.length = (dictB l).length := by
        rw [HBY.out, ← HM.out, HNB.out, ← List.append_assoc]
        simp only [List.length_append]
      have hcells : ints .u8 (putNum k ++ plainB d) ++ ints .u8 Q = ints .u8 (dictB l) := by rw [HBY.out, ← HM.out, ← List.append_assoc]; simp [ints]
      have o := O9.out
      rw [hcells] at o
      have o1 := own_cap o
      exact ⟨.inr ⟨dictB l, A9, c9, rfl, by rw [← hlen]; rfl, Has.own o, by omega, own_capmax o, N9.out⟩, L3.out.trans L9.out⟩

set_option maxRecDepth 100000 in
theorem dictWrite_no (t : Int) (A : Option Addr) (c : Nat) (l : List Val3) (w : World) (hs : S6 w) (hl : l.length ≤ 1000) (hr : Has w A (fl l)) (ho : ¬ ((1 ≤ t ∧ t ≤ 4) ∧ OkL t l)) :
    Calls Tryz.prog 17 #[.int .i64 t, .slice A l.length c] w (WritesB none w) := by
  have hif : Tryz.prog.isIface 47 = true := by kernel_rfl
  obtain ⟨a0, a2, a3, a4, S⟩ := hs.sn
  have HA := Lib.hid (all_no t A c l a0 a2 a3 a4 w S (by omega) hr ho)
  clear S hs ho hr
  go_enter Tryz.func17, Tryz.ntmps17
  go_wp2_with fail
  refine HA.out.mono ?_
  rintro e w1 ⟨v, rfl, ⟨p, rfl⟩, l1⟩
  have heq := run_eql_iface_nil (P := Tryz.prog) (w := w1) 47 hif 96 (.pointer (some p))
  go_wp2_with fail
  go_ret2
  exact ⟨.inl ⟨rfl, p, rfl⟩, l1⟩

theorem dictWrite_any (t : Int) (A : Option Addr) (c : Nat) (l : List Val3) (w : World) (hs : S6 w) (hl : l.length ≤ 1000) (hr : Has w A (fl l)) (h64 : All64 l) :
    Calls Tryz.prog 17 #[.int .i64 t, .slice A l.length c] w (WritesB (putT t l) w) := by
  unfold putT
  by_cases h : (1 ≤ t ∧ t ≤ 4) ∧ OkL t l
  · rw [if_pos h]; exact dictWrite_yes t A l.length c l w rfl hs h.1 hl hr h.2 h64
  · rw [if_neg h]; exact dictWrite_no t A c l w hs hl hr h

set_option maxRecDepth 100000 in
theorem dictPut_any (t : Int) (A : Option Addr) (c : Nat) (l : List Val3) (w : World) (hs : S6 w) (hl : l.length ≤ 1000) (hr : Has w A (fl l)) (h64 : All64 l) :
    Calls Tryz.prog 7 #[.int .i64 t, .slice A l.length c] w (PutsB (putT t l) w) := by
  have HC := Lib.hid (dictWrite_any t A c l w hs hl hr h64)
  clear hs hr h64 hl
  go_enter Tryz.func7, Tryz.ntmps7
  go_wp2_with fail
  refine HC.out.mono ?_
  rintro e w1 ⟨⟨ho, p, rfl⟩ | ⟨b, B, cb, ho, rfl, h1, h2, h3, h4⟩, l1⟩
  · go_wp2_with (go_at_call 16; refine (listB_no _ _ _ p _).mono ?_; rintro e w' ⟨rfl, rfl⟩)
    go_ret2
    exact ⟨.inl ⟨ho, rfl⟩, l1⟩
  · have H := Lib.hid (show PutsB (putT t l) w (.returned (.tuple #[.slice B b.length cb, .bool true])) w1 from ⟨.inr ⟨b, B, cb, ho, rfl, h1, h2, h3, h4⟩, l1⟩)
    clear ho h1 h2 h3 h4 l1
    go_wp2_with (go_at_call 16; refine (listB_yes _ _ _ _).mono ?_; rintro e w' ⟨rfl, rfl⟩)
    go_ret2
    exact H.out
end Go.Proofs.YtfcedbhmbcbiaaaGreatDoor

/- The walk of package dict: readWords. -/

namespace Go.Proofs.YtfcedbhmbcbiaaaGreatDoor
open Go.RowKit
set_option linter.unusedVariables false

/-- The list that bytes begin with, of at most n values, and how many bytes that is. -/
def readW (t : Int) (n : Nat) (b : List Nat) : Option (List Val3 × Nat) :=
  match takeNum b with
  | none => none
  | some (u, k) => if u ≤ n then (readQ t u (b.drop k)).map fun p => (p.1, b.length - p.2.length) else none
theorem readW_none {t : Int} {n : Nat} {b : List Nat} (h : takeNum b = none) : readW t n b = none := by unfold readW; rw [h]
theorem readW_not {t : Int} {n : Nat} {b : List Nat} {u k : Nat} (h : takeNum b = some (u, k)) (hu : ¬ u ≤ n) : readW t n b = none := by unfold readW; rw [h]; simp only; rw [if_neg hu]
theorem readW_some {t : Int} {n : Nat} {b : List Nat} {u k : Nat} (h : takeNum b = some (u, k)) (hu : u ≤ n) : readW t n b = (readQ t u (b.drop k)).map fun p => (p.1, b.length - p.2.length) := by unfold readW; rw [h]; simp only; rw [if_pos hu]
theorem drop_back {a r b : List Nat} (h : a ++ r = b) : b.drop (b.length - r.length) = r := by
  subst h
  rw [List.length_append, Nat.add_sub_cancel, List.drop_left]
theorem readW_is {t : Int} (ht : 1 ≤ t ∧ t ≤ 4) {n : Nat} {b : List Nat} (h256 : ∀ x ∈ b, x < 256) {d : List Val3} {k : Nat} (h : readW t n b = some (d, k)) :
    0 < b.length ∧ d.length ≤ n ∧ All64 d ∧ k ≤ b.length ∧ readT t n b = (match takeBits (b.drop k) n (widD d.length) with
        | none => none
        | some ps => if ∀ p ∈ ps, p < d.length then some (ps.map fun p => d.getD p (0, 0, ⟨#[]⟩)) else none) := by
  unfold readW at h
  unfold readT
  split at h
  · cases h
  · rename_i u k' hT
    rw [hT]
    split at h
    · rename_i hu
      simp only
      rw [if_pos hu]
      cases hq : readQ t u (b.drop k') with
      | none => rw [hq] at h; cases h
      | some p =>
        obtain ⟨d', r⟩ := p
        rw [hq] at h
        cases h
        obtain ⟨_, h2, h3, h4⟩ := readQ_is ht _ _ (fun x hx => h256 x (List.mem_of_mem_drop hx)) _ _ hq
        have hp : 0 < b.length := by
          obtain ⟨_, hk1, hk3⟩ := takeNum_is h256 hT
          have h5 := putNum_pos u
          have h6 := hk3.length_le
          omega
        refine ⟨hp, by show d'.length ≤ n; omega, h2, Nat.sub_le _ _, ?_⟩
        simp only
        rw [drop_back (a := b.take k' ++ plainB d') (by rw [List.append_assoc, h4, List.take_append_drop])]
        rfl
    · cases h
theorem readW_no {t : Int} {n : Nat} {b : List Nat} (h : readW t n b = none) : readT t n b = none := by
  unfold readW at h
  unfold readT
  split at h
  · rename_i hT; rw [hT]
  · rename_i u k hT
    rw [hT]
    simp only
    split at h
    · rename_i hu
      rw [if_pos hu]
      cases hq : readQ t u (b.drop k) with
      | none => rfl
      | some p => rw [hq] at h; cases h
    · rename_i hu
      rw [if_neg hu]
def WordsPost (o : Option (List Val3 × Nat)) (w : World) (e : Ending) (w' : World) : Prop :=
  ((o = none ∧ ∃ p : Addr, e = .returned (.tuple #[.slice none 0 0, .int .i64 0, .iface 96 (.pointer (some p))])) ∨
    ∃ d k L cl, o = some (d, k) ∧ e = .returned (.tuple #[.slice L d.length cl, .int .i64 (k : Nat), .nilIface]) ∧ Has w' L (fl d)) ∧ Later w w'
/-- Where readWords' loop stands. -/
def RWInv (o : Option (List Val3 × Nat)) (t : Int) (u : Nat) (b : List Nat) (w : World) (kv lv iv : Value) (wr : World) : Prop :=
  ∃ (L : Option Addr) (cl j k : Nat) (done : List Val3), lv = .slice L j cl ∧ kv = .int .i64 (k : Int) ∧ iv = .int .i64 (j : Int) ∧ j ≤ u ∧ 1 ≤ k ∧ k ≤ b.length ∧ done.length = j ∧ wr.ownsRow w.heap.size 26 3 (.slice L j cl) j (fl done) ∧ o = (readQ t (u - j) (b.drop k)).map (fun p => (done ++ p.1, b.length - p.2.length)) ∧ Later w wr
theorem RWInv.mk {o : Option (List Val3 × Nat)} {t : Int} {u : Nat} {b : List Nat} {w wr : World} (L : Option Addr) (cl m j k : Nat) (done : List Val3) (zk zj : Int) (hm : m = j) (hk : zk = (k : Int)) (hj : zj = (j : Int)) (h1 : j ≤ u) (h2 : 1 ≤ k) (h3 : k ≤ b.length) (h4 : done.length = j) (h5 : wr.ownsRow w.heap.size 26 3 (.slice L m cl) m (fl done)) (h6 : o = (readQ t (u - j) (b.drop k)).map (fun p => (done ++ p.1, b.length - p.2.length))) (h7 : Later w wr) : RWInv o t u b w (.int .i64 zk) (.slice L m cl) (.int .i64 zj) wr := by
  subst hm hk hj; exact ⟨L, cl, m, k, done, rfl, rfl, rfl, h1, h2, h3, h4, h5, h6, h7⟩
theorem cellTake_nn (t : Int) (ht : 1 ≤ t ∧ t ≤ 4) (A : Option Addr) (m c : Nat) (b : List Nat) (w : World) (hm : m = b.length) (hs : S6 w) (hr : Has w A (ints .u8 b)) (h256 : ∀ x ∈ b, x < 256) (hb : b.length ≤ 1000000) (hbc : b.length ≤ c) (hc : c ≤ 9223372036854775807) :
    Calls Tryz.prog 68 #[.int .i64 t, .slice A m c] w (TakesC (takeC t b) t w) := by
  subst hm; exact cellTake_any t ht A c b w hs hr h256 hb hbc hc
theorem takeC_nil {t : Int} (ht : 1 ≤ t ∧ t ≤ 4) : takeC t [] = none := by
  obtain rfl | rfl | rfl | rfl : t = 1 ∨ t = 2 ∨ t = 3 ∨ t = 4 := by omega
  all_goals rfl

set_option maxRecDepth 100000 in
set_option maxHeartbeats 2000000 in
theorem readWords_any (t : Int) (ht : 1 ≤ t ∧ t ≤ 4) (n : Nat) (hn : n ≤ 1000) (A : Option Addr) (c : Nat) (b : List Nat) (w : World) (hs : S6 w) (hr : Has w A (ints .u8 b)) (h256 : ∀ x ∈ b, x < 256) (hb : b.length ≤ 1000000) (hbc : b.length ≤ c) (hc : c ≤ 9223372036854775807) :
    Calls Tryz.prog 45 #[.int .i64 t, .int .i64 n, .slice A b.length c] w (WordsPost (readW t n b) w) := by
  have hif : Tryz.prog.isIface 47 = true := by kernel_rfl
  have HN0 := Lib.hid (readW_none (t := t) (n := n) (b := b))
  have HN1 := Lib.hid (fun u k => readW_not (t := t) (n := n) (b := b) (u := u) (k := k))
  have HY0 := Lib.hid (fun u k => readW_some (t := t) (n := n) (b := b) (u := u) (k := k))
  obtain ⟨o, ho⟩ : ∃ o, o = readW t n b := ⟨_, rfl⟩
  rw [← ho] at HN0 HN1 HY0 ⊢
  obtain ⟨aN, hN⟩ := hs.num
  have HTN := Lib.hid (take_num A b.length c b aN w w.heap.size rfl hr h256 hb hN)
  have HS := Lib.hid hs
  have HR := Lib.hid hr
  have H256 := Lib.hid h256
  have HTT := Lib.hid ht
  have hnw : IntKind.u64.wrap (n : Int) = (n : Int) := by rw [IntKind.wrap_u64]; omega
  clear hs hr ho h256 hN ht
  go_enter Tryz.func45, Tryz.ntmps45
  go_wp2_with fail
  refine HTN.out.mono ?_
  rintro e w2 ⟨u, k, ok, hT0, rfl, b2⟩
  have L2 := Lib.hid (Later.of b2)
  clear b2 HTN
  rcases takeR_some hT0 with ⟨rfl, hT⟩ | ⟨rfl, hT⟩
  · obtain ⟨hu64, hk1, hk3⟩ := takeNum_is H256.out hT
    have hkb : k ≤ b.length := by rw [hk1]; exact hk3.length_le
    have hkp : 1 ≤ k := by rw [hk1]; exact putNum_pos u
    have HKB := Lib.hid hkb
    have HTH := Lib.hid hT
    clear hk1 hk3 hu64 hT0 hT
    by_cases hu : u ≤ n
    · have hd1 : decide ((n : Int) < (u : Int)) = false := by simp; omega
      have hd2 : decide (n < u) = false := by simp; omega
      have hd3 : ¬ n < u := by omega
      have huw : IntKind.i64.wrap (u : Int) = (u : Int) := IntWalk.i64_in _ ⟨by omega, by omega⟩
      have HREL0 := Lib.hid (show o = (readQ t (u - 0) (b.drop k)).map (fun p => ([] ++ p.1, b.length - p.2.length)) from by
        rw [HY0.out u k HTH.out hu]; rfl)
      obtain ⟨bb, off, rfl⟩ : ∃ bb off, A = some ⟨bb, off, none⟩ := by
        rcases HR.out with h | ⟨bb, off, h, _⟩
        · have : b.length = 0 := by have := congrArg List.length h; rw [ints_length] at this; exact this
          omega
        · exact ⟨bb, off, h⟩
      have hu9 : u ≤ 1000 := by omega
      clear HN0 HN1 HY0 hu
      go_wp2_with fail
      go_loopw [10, 12, 36] (fun kv lv iv wr => RWInv o t u b w kv lv iv wr) (fun _ _ iv _ => u - (intOf iv).toNat)
      case atStart => exact RWInv.mk none 0 0 0 k [] _ _ rfl rfl rfl (Nat.zero_le _) hkp hkb rfl (ownG_nil _ _ _ _) HREL0.out L2.out
      case round =>
        obtain ⟨L, cl, j, k, done, rfl, rfl, rfl, hju, hk1, hkb, hdl, hown, hrel, lat⟩ := hrel
        clear HREL0 hd1 hd2 hd3
        have HOWN := Lib.hid hown
        have HREL := Lib.hid hrel
        have HLAT := Lib.hid lat
        have HDL := Lib.hid hdl
        clear hown hrel lat hdl
        by_cases hlt : j < u
        · obtain ⟨q, hq⟩ : ∃ q, u - j = q + 1 := ⟨u - j - 1, by omega⟩
          have HJ := Lib.hid (show u - (j + 1) = q by omega)
          have HRQ := Lib.hid (show o = (readQ t (q + 1) (b.drop k)).map (fun p => (done ++ p.1, b.length - p.2.length)) by rw [HREL.out, hq])
          have D256 := Lib.hid (fun x (hx : x ∈ b.drop k) => H256.out x (List.mem_of_mem_drop hx))
          have hdl : (b.drop k).length = b.length - k := List.length_drop
          have hi1 : (0 : Int) ≤ (k : Int) := by omega
          have hi2 : (k : Int) ≤ (b.length : Int) := by omega
          have hi3 : (b.length : Int) ≤ (c : Int) := by omega
          clear hq HREL
          by_cases hck : c = k
          · have hd0 : b.drop k = [] := List.drop_of_length_le (by omega)
            have HTK := Lib.hid (cellTake_nn t HTT.out (some ⟨bb, off, none⟩) 0 0 (b.drop k) wr (by rw [hd0]; rfl) (HS.out.later HLAT.out) (by rw [hd0]; exact Has.nil_) D256.out (by rw [hd0]; decide) (by rw [hd0]; decide) (by decide))
            have HC0 := Lib.hid (show takeC t (b.drop k) = none by rw [hd0]; exact takeC_nil HTT.out)
            have HO := Lib.hid (show o = none by rw [HRQ.out, readQ_none HC0.out]; rfl)
            have hkc : k = c := hck.symm
            have hlc : b.length = c := by omega
            clear hd0 hdl hck
            subst hkc
            go_wp2_with fail
            refine HTK.out.mono ?_
            rintro e w3 ⟨⟨hC, p, rfl⟩ | ⟨i, s, m, hC, rfl⟩, l3⟩
            · have heq := fun w => run_eql_iface_nil (P := Tryz.prog) (w := w) 47 hif 96 (.pointer (some p))
              have HL3 := Lib.hid (HLAT.out.trans l3)
              clear hC l3 HTK
              go_wp2_with (go_at_call 38; refine (at_w _ _ _ _).mono ?_; rintro e w4 ⟨q, rfl, l4⟩)
              go_ret3
              exact ⟨.inl ⟨HO.out, q, rfl⟩, (HL3.out.alloc _).trans l4⟩
            · exfalso
              have := HC0.out
              rw [hC] at this
              cases this
          · have HTK := Lib.hid (cellTake_nn t HTT.out (some ⟨bb, off + k, none⟩) (b.length - k) (c - k) (b.drop k) wr hdl.symm (HS.out.later HLAT.out) (by have h := (HR.out.later HLAT.out).drop k; rw [show (ints .u8 b).drop k = ints .u8 (b.drop k) by simp [ints, List.map_drop]] at h; exact h) D256.out (by omega) (by omega) (by omega))
            clear hdl
            go_wp2_with fail
            refine HTK.out.mono ?_
            rintro e w3 ⟨⟨hC, p, rfl⟩ | ⟨i, s, m, hC, rfl⟩, l3⟩
            · have HO := Lib.hid (show o = none by rw [HRQ.out, readQ_none hC]; rfl)
              have heq := fun w => run_eql_iface_nil (P := Tryz.prog) (w := w) 47 hif 96 (.pointer (some p))
              have HL3 := Lib.hid (HLAT.out.trans l3)
              clear hC l3 HTK
              go_wp2_with (go_at_call 38; refine (at_w _ _ _ _).mono ?_; rintro e w4 ⟨q, rfl, l4⟩)
              go_ret3
              exact ⟨.inl ⟨HO.out, q, rfl⟩, (HL3.out.alloc _).trans l4⟩
            · have HO := Lib.hid (show o = (readQ t (u - (j + 1)) (b.drop (k + m))).map (fun p => ((done ++ [(t, i, bstr s)]) ++ p.1, b.length - p.2.length)) by
                rw [HRQ.out, readQ_some hC, HJ.out, ← List.drop_drop]
                cases readQ t q ((b.drop k).drop m) with
                | none => rfl
                | some p => simp)
              obtain ⟨hm1, hm2, hi64, hs256⟩ := readC_lt D256.out (takeC_read hC).1
              rw [List.length_drop] at hm2
              obtain ⟨S, hS⟩ : ∃ S, S = bstr s := ⟨_, rfl⟩
              rw [← hS] at HO ⊢
              have OWN := Lib.hid (own_later HOWN.out l3)
              have HL3 := Lib.hid (HLAT.out.trans l3)
              have HAS := Lib.hid ((Blk.new (w3.alloc (.cells #[.int .i64 t, .int .i64 i, .string S] 26)) (fl [(t, i, S)]).toArray 26 (w3.heap.size + 1) (by simp)).has)
              have DL := Lib.hid (show (done ++ [(t, i, S)]).length = j + 1 by rw [List.length_append, HDL.out]; rfl)
              obtain ⟨k2, hk2⟩ : ∃ k2, k2 = k + m := ⟨_, rfl⟩
              rw [← hk2] at HO
              have hk2i : (k : Int) + (m : Int) = (k2 : Int) := by omega
              have hk2w : IntKind.i64.wrap ((k : Int) + (m : Int)) = (k2 : Int) := by rw [hk2i]; exact IntWalk.i64_in _ ⟨by omega, by omega⟩
              have hk2b : k2 ≤ b.length := by omega
              have hk21 : 1 ≤ k2 := by omega
              clear hC l3 HRQ HTK hS hi64 hs256 HOWN HLAT hk2
              go_wp2_with (at_builtin; refine wpList_append_g _ rfl (.tmp 53) (.tmp 55) 23 rfl w.heap.size 26 (vagg 0 0 ⟨#[]⟩) 3 32 Tryz.underlying23 info_v rfl (by decide) _ j (fl done) rfl ((OWN.out.alloc _).alloc _) _ 1 1 (fl [(t, i, S)]) rfl HAS.out (by rfl) (by intro h; cases h) (fl_one _) (by unfold maxLen; omega) (by omega) ?_ ?_; (exact ((HL3.out.alloc _).alloc _).size); intro A2 c2 w6 o2 g2 b2 n2; have HO2 := Lib.hid o2; have HB6 := Lib.hid b2; clear o2 g2 b2 n2)
              have LL := Lib.hid (Later.of ((((HL3.out.alloc (.cells #[.int .i64 t, .int .i64 i, .string S] 26)).alloc (.cells (fl [(t, i, S)]).toArray 26)).below).trans HB6.out))
              go_roundw
              case rel => exact RWInv.mk A2 c2 _ (j + 1) k2 (done ++ [(t, i, S)]) _ _ rfl (by omega) (by omega) hlt hk21 hk2b DL.out (by rw [fl_append]; exact HO2.out) HO.out LL.out
              case measure => simp [intOf]; omega
        · obtain rfl : j = u := by omega
          have HO := Lib.hid (show o = some (done, k) by
            rw [HREL.out, Nat.sub_self]
            show some (done ++ [], b.length - (b.drop k).length) = _
            rw [List.append_nil, List.length_drop, show b.length - (b.length - k) = k by omega])
          have HHAS := Lib.hid (Has.ownG HOWN.out)
          go_wp2_with fail
          go_ret3
          refine ⟨.inr ⟨done, k, L, cl, HO.out, ?_, HHAS.out⟩, HLAT.out⟩
          rw [HDL.out]
          rfl
    · have HO := Lib.hid (HN1.out u k HTH.out hu)
      have hd1 : decide ((n : Int) < (u : Int)) = true := by simp; omega
      have hd2 : decide (n < u) = true := by simp; omega
      have hd3 : n < u := by omega
      have HSX := Lib.hid (HS.out.later L2.out)
      obtain ⟨sv, hsv⟩ := HSX.out.bound
      clear hu
      go_wp2_with (go_at_call 38; refine (at_l _ _ _ _).mono ?_; rintro e w5 ⟨q, rfl, l5⟩)
      go_ret3
      exact ⟨.inl ⟨HO.out, q, rfl⟩, L2.out.trans l5⟩
  · have HO := Lib.hid (HN0.out hT)
    have HSX := Lib.hid (HS.out.later L2.out)
    obtain ⟨sv, hsv⟩ := HSX.out.bound
    clear hT hT0
    go_wp2_with (go_at_call 38; refine (at_l _ _ _ _).mono ?_; rintro e w5 ⟨q, rfl, l5⟩)
    go_ret3
    exact ⟨.inl ⟨HO.out, q, rfl⟩, L2.out.trans l5⟩
end Go.Proofs.YtfcedbhmbcbiaaaGreatDoor

/- Walks of package dict: read, Take. -/

namespace Go.Proofs.YtfcedbhmbcbiaaaGreatDoor
open Go.RowKit
set_option linter.unusedVariables false

theorem dictWrite_n (t : Int) (A : Option Addr) (n c : Nat) (l : List Val3) (w : World) (hn : n = l.length) (hs : S6 w) (hl : l.length ≤ 1000) (hr : Has w A (fl l)) (h64 : All64 l) :
    Calls Tryz.prog 17 #[.int .i64 t, .slice A n c] w (WritesB (putT t l) w) := by
  subst hn; exact dictWrite_any t A c l w hs hl hr h64
/-- The values at places. -/
def pick3 (d : List Val3) (ps : List Nat) : List Val3 := ps.map fun p => d.getD p (0, 0, ⟨#[]⟩)
theorem pick3_len (d : List Val3) (ps : List Nat) : (pick3 d ps).length = ps.length := List.length_map _
/-- Where read's loop stands. -/
def DRInv (d : List Val3) (us : List Nat) (wb : World) (lv iv : Value) (wr : World) : Prop :=
  ∃ (L : Option Addr) (cl j : Nat), lv = .slice L j cl ∧ iv = .int .i64 (j : Int) ∧ j ≤ us.length ∧ (∀ q (h : q < us.length), q < j → us[q] < d.length) ∧ wr.ownsRow wb.heap.size 26 3 (.slice L j cl) j (fl (pick3 d (us.take j))) ∧ Later wb wr
theorem DRInv.mk {d : List Val3} {us : List Nat} {wb wr : World} (L : Option Addr) (cl m j : Nat) (i : Int) (hm : m = j) (hi : i = (j : Int)) (h1 : j ≤ us.length) (h0 : ∀ q (h : q < us.length), q < j → us[q] < d.length) (h2 : wr.ownsRow wb.heap.size 26 3 (.slice L m cl) m (fl (pick3 d (us.take j)))) (h3 : Later wb wr) : DRInv d us wb (.slice L m cl) (.int .i64 i) wr := by
  subst hm hi; exact ⟨L, cl, m, rfl, rfl, h1, h0, h2, h3⟩

set_option maxRecDepth 100000 in
set_option maxHeartbeats 4000000 in
/-- The places are read: the rest of read. -/
theorem dictRead_yes (t : Int) (n : Nat) (A : Option Addr) (c : Nat) (b : List Nat) (w : World) (hs : S6 w) (ht : 1 ≤ t ∧ t ≤ 4) (hn : n ≤ 1000) (hr : Has w A (ints .u8 b)) (h256 : ∀ x ∈ b, x < 256) (hb : b.length ≤ 1000000) (hbc : b.length ≤ c) (hc : c ≤ 9223372036854775807) :
    Calls Tryz.prog 26 #[.int .i64 t, .int .i64 n, .slice A b.length c] w (WritesV (takeT t n b) w) := by
  have hif : Tryz.prog.isIface 47 = true := by kernel_rfl
  have HC := Lib.hid (count_yes t n w ht (by omega))
  have HRW := Lib.hid (readWords_any t ht n hn A c b w hs hr h256 hb hbc hc)
  obtain ⟨o, ho⟩ : ∃ o, o = takeT t n b := ⟨_, rfl⟩
  have hoe : o = (match readT t n b with | none => none | some l => if putT t l = some b then some l else none) := by
    rw [ho]; unfold takeT; rw [if_pos ⟨ht, by omega, by omega⟩]; rfl
  have HON := Lib.hid (fun (h : readT t n b = none) => (show o = none by rw [hoe, h]))
  have HOY := Lib.hid (fun (l : List Val3) (h : readT t n b = some l) (hp : putT t l = some b) => (show o = some l by rw [hoe, h]; simp only; rw [if_pos hp]))
  have HOX := Lib.hid (fun (l : List Val3) (h : readT t n b = some l) (hp : putT t l ≠ some b) => (show o = none by rw [hoe, h]; simp only; rw [if_neg hp]))
  rw [← ho]
  have HS := Lib.hid hs
  have HR := Lib.hid hr
  have H256 := Lib.hid h256
  have HTT := Lib.hid ht
  clear ht ho hoe hs hr h256
  go_enter Tryz.func26, Tryz.ntmps26
  go_wp2_with (go_at_call 44; refine HC.out.mono ?_; rintro e w' ⟨rfl, rfl⟩)
  refine HRW.out.mono ?_
  rintro e w2 ⟨⟨hq, p, rfl⟩ | ⟨d, k, D, dc, hq, rfl, hd⟩, l2⟩
  · have HO := Lib.hid (HON.out (readW_no hq))
    have heq := run_eql_iface_nil (P := Tryz.prog) (w := w2) 47 hif 96 (.pointer (some p))
    clear hq HRW HC
    go_wp2_with fail
    go_ret2
    exact ⟨.inl ⟨HO.out, p, rfl⟩, l2⟩
  · obtain ⟨hbp, hdn, hd64, hkb, hrt⟩ := readW_is HTT.out H256.out hq
    have L2 := Lib.hid l2
    have HDH := Lib.hid hd
    have HD64 := Lib.hid hd64
    obtain ⟨nd, hnd⟩ : ∃ nd, nd = d.length := ⟨_, rfl⟩
    have HND := Lib.hid hnd
    obtain ⟨r, hrr⟩ : ∃ r, r = b.drop k := ⟨_, rfl⟩
    have hrl : r.length = b.length - k := by rw [hrr, List.length_drop]
    have HR256 := Lib.hid (show ∀ x ∈ r, x < 256 by rw [hrr]; exact fun x hx => H256.out x (List.mem_of_mem_drop hx))
    rw [← hrr, ← hnd] at hrt
    have HTN := Lib.hid (fun (h : takeBits r n (widD nd) = none) => (show readT t n b = none by rw [hrt, h]))
    have HTX := Lib.hid (fun us (h : takeBits r n (widD nd) = some us) (hx : ¬ ∀ p ∈ us, p < nd) => (show readT t n b = none by rw [hrt, h]; simp only; rw [if_neg hx]))
    have HTY := Lib.hid (fun us (h : takeBits r n (widD nd) = some us) (hx : ∀ p ∈ us, p < nd) => (show readT t n b = some (pick3 d us) by rw [hrt, h]; simp only; rw [if_pos hx]; rfl))
    have hnd9 : nd ≤ 1000 := by omega
    obtain ⟨bb, off, rfl⟩ : ∃ bb off, A = some ⟨bb, off, none⟩ := by
      rcases HR.out with h | ⟨bb, off, h, _⟩
      · have := congrArg List.length h; rw [ints_length] at this
        have : b.length = 0 := this
        omega
      · exact ⟨bb, off, h⟩
    have HRH := Lib.hid (show Has w (some ⟨bb, off + k, none⟩) (ints .u8 r) from by
      have h := HR.out.drop k
      rw [show (ints .u8 b).drop k = ints .u8 (b.drop k) by simp [ints, List.map_drop], ← hrr] at h; exact h)
    rw [← hnd]
    clear hd hd64 hq l2 HRW HC hdn hnd hrr hrt hbp
    have HTK := Lib.hid (fun (A' : Option Addr) (m' c' : Nat) (zn zk : Int) (w' : World) (lz : Later w2 w') (hA : A' = some ⟨bb, off + k, none⟩ ∨ r = []) (hm : m' = r.length) (hc' : r.length ≤ c') (hzn : zn = (n : Int)) (hzk : zk = (widD nd : Int)) => bitsTake_o A' m' c' r zn zk n (widD nd) w' hm hzn hzk (by
      rcases hA with hA | hA
      · rw [hA]; exact HRH.out.later (L2.out.trans lz)
      · rw [hA]; exact Has.nil_) HR256.out (by omega) hc')
    have HWD := Lib.hid (fun w' => dictWidth_any nd w' (by omega))
    have i1 : (0 : Int) ≤ (k : Int) := by omega
    have i2 : (k : Int) ≤ (b.length : Int) := by omega
    have i3 : k ≤ b.length := hkb
    by_cases hcm : c = k
    · have HR0 := Lib.hid (show r = [] from List.eq_nil_of_length_eq_zero (by omega))
      subst hcm
      cases htb : takeBits r n (widD nd) with
      | none =>
        have HO := Lib.hid (HON.out (HTN.out htb))
        have HTB := Lib.hid htb
        clear htb
        go_wp2_with fail
        first
          | go_region_law (first
              | (go_simp; go_at_call 37; refine (HWD.out _).mono ?_; rintro e wW ⟨rfl, lW⟩; have LW := Lib.hid ((Later.refl w2).drew.trans lW); clear lW)
              | (go_simp; go_at_call 46; refine (HTK.out _ _ _ _ _ _ LW.out (by first | exact .inl rfl | exact .inr HR0.out) (by first | rfl | omega) (by omega) rfl rfl).mono ?_; intro e wX h; obtain ⟨rfl, lX⟩ := h.no HTB.out; have LX := Lib.hid (L2.out.trans (LW.out.trans lX)); clear h lX))
          | fail "no walk"
        all_goals try simp [Act.put]
        have HSX := Lib.hid (HS.out.later LX.out)
        obtain ⟨sv, hsv⟩ := HSX.out.value
        go_wp2_with (go_at_call 38; refine (at_l _ _ _ _).mono ?_; rintro e w5 ⟨q, rfl, l5⟩)
        go_ret2
        exact ⟨.inl ⟨HO.out, q, rfl⟩, LX.out.trans l5⟩
      | some us =>
        have HTB := Lib.hid htb
        have HUN := Lib.hid (takeBits_len htb).1
        have HU64 := Lib.hid (takeBits_lt htb)
        have HTYU := Lib.hid (HTY.out us htb)
        have HTXU := Lib.hid (HTX.out us htb)
        clear htb
        go_wp2_with fail
        first
          | go_region_law (first
              | (go_simp; go_at_call 37; refine (HWD.out _).mono ?_; rintro e wW ⟨rfl, lW⟩; have LW := Lib.hid ((Later.refl w2).drew.trans lW); clear lW)
              | (go_simp; go_at_call 46; refine (HTK.out _ _ _ _ _ _ LW.out (by first | exact .inl rfl | exact .inr HR0.out) (by first | rfl | omega) (by omega) rfl rfl).mono ?_; intro e wX h; obtain ⟨UA, uc, rfl, uh, lX⟩ := h.yes HTB.out; have LX := Lib.hid (L2.out.trans (LW.out.trans lX)); have LXD := Lib.hid (LW.out.trans lX); have HUH := Lib.hid uh; clear h lX uh))
          | fail "no walk"
        all_goals try simp [Act.put]
        have HDX := Lib.hid (HDH.out.later LXD.out)
        clear hrl HTK i1 i2 i3 HDH HWD LW LXD
        have hnw : IntKind.u64.wrap (nd : Int) = (nd : Int) := by rw [IntKind.wrap_u64]; omega
        go_wp2_with fail
        go_loopw [14, 53] (fun lv iv wr => DRInv d us wX lv iv wr) (fun _ iv _ => us.length - (intOf iv).toNat)
        case atStart => exact DRInv.mk none 0 0 0 0 rfl rfl (Nat.zero_le _) (fun q h hq => by omega) (ownG_nil _ _ _ _) (Later.refl _)
        case round =>
          obtain ⟨L, cl, j, rfl, rfl, hj, hall, hown, lat⟩ := hrel
          by_cases hlt : j < us.length
          · obtain ⟨ub, uo, rfl, hcell⟩ : ∃ ub uo, UA = some ⟨ub, uo, none⟩ ∧ wr.cell? ⟨ub, uo + j, none⟩ = some (.int .u64 ((us[j] : Nat) : Int)) := by
              rcases HUH.out.later lat with h | ⟨ub, uo, h1, _, hc⟩
              · have h2 : us.length = 0 := by have h := congrArg List.length h; rw [ints_length] at h; exact h
                omega
              · exact ⟨ub, uo, h1, hc j _ (by rw [ints_get _ _ _ hlt])⟩
            have HREP := Lib.hid (show pick3 d (us.take (j + 1)) = pick3 d (us.take j) ++ [d.getD us[j] (0, 0, ⟨#[]⟩)] by
              unfold pick3; rw [List.take_succ_eq_append_getElem hlt, List.map_append]; rfl)
            have HMEM := Lib.hid (List.getElem_mem hlt)
            have HALL := Lib.hid (fun (hx : us[j] < d.length) => (show ∀ q (h : q < us.length), q < j + 1 → us[q] < d.length from fun q h hq => by
              rcases Nat.lt_or_ge q j with h' | h'
              · exact hall q h h'
              · obtain rfl : q = j := by omega
                exact hx))
            have hu64 := HU64.out _ (List.getElem_mem hlt)
            generalize us[j] = a at hcell HREP HMEM HALL hu64
            have HOWN := Lib.hid hown
            have LAT := Lib.hid lat
            have HJ9 := Lib.hid (show j < 1000 by have := HUN.out; omega)
            have hj9 : j < 1000 := HJ9.out
            clear hown lat hall
            by_cases ha : a < nd
            · have hge : decide ((nd : Int) ≤ (a : Int)) = false := by simp; omega
              have hge2 : decide (nd ≤ a) = false := by simp; omega
              have hge3 : ¬ nd ≤ a := by omega
              have had : a < d.length := by have := HND.out; omega
              obtain ⟨db, doff, rfl, c0, c1, c2⟩ := (HDX.out.later LAT.out).val3 a had
              rw [show d.getD a (0, 0, ⟨#[]⟩) = (d[a].1, d[a].2.1, d[a].2.2) by rw [List.getD_eq_getElem?_getD, List.getElem?_eq_getElem had]; rfl] at HREP
              generalize d[a].1 = vt at c0 HREP
              generalize d[a].2.1 = vi at c1 HREP
              generalize d[a].2.2 = vs at c2 HREP
              have ha0 : (0 : Int) ≤ (a : Int) := by omega
              have ha1 : (a : Int) < (nd : Int) := by omega
              have HAS := Lib.hid ((Blk.new wr (fl [(vt, vi, vs)]).toArray 26 _ rfl).has)
              have O2 := Lib.hid (HOWN.out.alloc (.cells (fl [(vt, vi, vs)]).toArray 26))
              have LT2 := Lib.hid (LAT.out.alloc (.cells (fl [(vt, vi, vs)]).toArray 26))
              have HAN := Lib.hid (HALL.out had)
              clear had hu64 ha HALL
              go_wp2_with (at_builtin; refine wpList_append_g _ rfl (.tmp 66) (.tmp 71) 23 rfl wX.heap.size 26 (vagg 0 0 ⟨#[]⟩) 3 32 Tryz.underlying23 info_v rfl (by decide) _ j (fl (pick3 d (us.take j))) rfl O2.out _ 1 1 (fl [(vt, vi, vs)]) rfl HAS.out (by rfl) (by intro h; cases h) (fl_one _) (by have := HJ9.out; unfold maxLen; omega) (by have := HJ9.out; omega) ?_ ?_; (exact LT2.out.size); intro A2 c2 w6 o2 g2 b2 n2; have HO2 := Lib.hid o2; have HB6 := Lib.hid (Later.of (LT2.out.below.trans b2)); clear o2 g2 b2 n2)
              go_roundw
              case rel => exact DRInv.mk A2 c2 _ (j + 1) _ rfl (by omega) hlt HAN.out (by rw [HREP.out, fl_append]; exact HO2.out) HB6.out
              case measure => simp [intOf]; omega
            · have HO := Lib.hid (HON.out (HTXU.out fun h => ha (h a HMEM.out)))
              have hge : decide ((nd : Int) ≤ (a : Int)) = true := by simp; omega
              have hge2 : decide (nd ≤ a) = true := by simp; omega
              have hge3 : nd ≤ a := by omega
              have LZ := Lib.hid (LX.out.trans LAT.out)
              have HSX := Lib.hid (HS.out.later LZ.out)
              obtain ⟨sv, hsv⟩ := HSX.out.bound
              clear ha hu64 HALL
              go_wp2_with (go_at_call 38; refine (at_l _ _ _ _).mono ?_; rintro e w5 ⟨q, rfl, l5⟩)
              go_ret2
              exact ⟨.inl ⟨HO.out, q, rfl⟩, LZ.out.trans l5⟩
          · obtain rfl : j = us.length := by omega
            obtain ⟨l, hl⟩ : ∃ l, l = pick3 d us := ⟨_, rfl⟩
            rw [List.take_of_length_le (Nat.le_refl _), ← hl] at hown
            have HRK := Lib.hid (show readT t n b = some l by
              rw [HTYU.out fun p hp => ?_, hl]
              obtain ⟨q, hq, rfl⟩ := List.getElem_of_mem hp
              rw [HND.out]; exact hall q hq hq)
            obtain ⟨nl, hnl'⟩ : ∃ nl, nl = us.length := ⟨_, rfl⟩
            have hnl : nl = l.length := by rw [hl, hnl', pick3_len]
            rw [← hnl'] at hown hlt ⊢
            have HLH := Lib.hid (Has.ownG hown)
            have HLN := Lib.hid (show l.length ≤ 1000 by have := HUN.out; omega)
            have HL64 := Lib.hid (readT_is HTT.out H256.out HRK.out).2.1
            have LX := Lib.hid (LX.out.trans lat)
            have HSX := Lib.hid (HS.out.later LX.out)
            clear hown lat hl hnl' HUN hall hj
            have HW := Lib.hid (dictWrite_n t L nl cl l wr hnl HSX.out HLN.out HLH.out HL64.out)
            have HNL := Lib.hid hnl
            clear hnl
            go_wp2_with fail
            refine HW.out.mono ?_
            rintro e wY ⟨⟨hp, p, rfl⟩ | ⟨pb, PA, pc, hp, rfl, ph, _, _, _⟩, lY⟩
            · have HO := Lib.hid (HOX.out l HRK.out (by rw [hp]; simp))
              have LY := Lib.hid (LX.out.trans lY)
              clear hp lY HW
              go_wp2_with (go_at_call 47; refine (cellSame_err _ _ _ _ _ _ _ _ _ p _).mono ?_; rintro e w' ⟨rfl, rfl⟩)
              go_ret2
              exact ⟨.inl ⟨HO.out, p, rfl⟩, LY.out⟩
            · have LY := Lib.hid (LX.out.trans lY)
              have HLY := Lib.hid (HLH.out.later lY)
              by_cases heq : pb = b
              · have HO := Lib.hid (HOY.out l HRK.out (by rw [hp, heq]))
                have HSM := Lib.hid (cellSame_yes L (some ⟨bb, off, none⟩) PA nl cl b.length c pb.length pc b wY rfl (by rw [heq]) (HR.out.later LY.out) (heq ▸ ph))
                clear hp lY HW heq ph
                go_wp2_with (go_at_call 47; refine HSM.out.mono ?_; rintro e w' ⟨rfl, rfl⟩)
                go_ret2
                refine ⟨.inr ⟨l, L, cl, HO.out, ?_, HLY.out⟩, LY.out⟩
                rw [← HNL.out]
                rfl
              · have HO := Lib.hid (HOX.out l HRK.out (by rw [hp]; intro e; injection e with e; exact heq e))
                have HSM := Lib.hid (cellSame_no L (some ⟨bb, off, none⟩) PA nl cl b.length c pb.length pc b pb wY (HS.out.later LY.out) rfl rfl (HR.out.later LY.out) ph (putT_lt HLN.out HL64.out hp) H256.out heq)
                clear hp lY HW heq ph
                go_wp2_with (go_at_call 47; refine HSM.out.mono ?_; rintro e w' ⟨⟨q, rfl⟩, lS⟩)
                go_ret2
                exact ⟨.inl ⟨HO.out, q, rfl⟩, LY.out.trans lS⟩
    · have HR0 := Lib.hid (trivial : True)
      cases htb : takeBits r n (widD nd) with
      | none =>
        have HO := Lib.hid (HON.out (HTN.out htb))
        have HTB := Lib.hid htb
        clear htb
        go_wp2_with fail
        first
          | go_region_law (first
              | (go_simp; go_at_call 37; refine (HWD.out _).mono ?_; rintro e wW ⟨rfl, lW⟩; have LW := Lib.hid ((Later.refl w2).drew.trans lW); clear lW)
              | (go_simp; go_at_call 46; refine (HTK.out _ _ _ _ _ _ LW.out (by first | exact .inl rfl | exact .inr HR0.out) (by first | rfl | omega) (by omega) rfl rfl).mono ?_; intro e wX h; obtain ⟨rfl, lX⟩ := h.no HTB.out; have LX := Lib.hid (L2.out.trans (LW.out.trans lX)); clear h lX))
          | fail "no walk"
        all_goals try simp [Act.put]
        have HSX := Lib.hid (HS.out.later LX.out)
        obtain ⟨sv, hsv⟩ := HSX.out.value
        go_wp2_with (go_at_call 38; refine (at_l _ _ _ _).mono ?_; rintro e w5 ⟨q, rfl, l5⟩)
        go_ret2
        exact ⟨.inl ⟨HO.out, q, rfl⟩, LX.out.trans l5⟩
      | some us =>
        have HTB := Lib.hid htb
        have HUN := Lib.hid (takeBits_len htb).1
        have HU64 := Lib.hid (takeBits_lt htb)
        have HTYU := Lib.hid (HTY.out us htb)
        have HTXU := Lib.hid (HTX.out us htb)
        clear htb
        go_wp2_with fail
        first
          | go_region_law (first
              | (go_simp; go_at_call 37; refine (HWD.out _).mono ?_; rintro e wW ⟨rfl, lW⟩; have LW := Lib.hid ((Later.refl w2).drew.trans lW); clear lW)
              | (go_simp; go_at_call 46; refine (HTK.out _ _ _ _ _ _ LW.out (by first | exact .inl rfl | exact .inr HR0.out) (by first | rfl | omega) (by omega) rfl rfl).mono ?_; intro e wX h; obtain ⟨UA, uc, rfl, uh, lX⟩ := h.yes HTB.out; have LX := Lib.hid (L2.out.trans (LW.out.trans lX)); have LXD := Lib.hid (LW.out.trans lX); have HUH := Lib.hid uh; clear h lX uh))
          | fail "no walk"
        all_goals try simp [Act.put]
        have HDX := Lib.hid (HDH.out.later LXD.out)
        clear hrl HTK i1 i2 i3 HDH HWD LW LXD
        have hnw : IntKind.u64.wrap (nd : Int) = (nd : Int) := by rw [IntKind.wrap_u64]; omega
        go_wp2_with fail
        go_loopw [14, 53] (fun lv iv wr => DRInv d us wX lv iv wr) (fun _ iv _ => us.length - (intOf iv).toNat)
        case atStart => exact DRInv.mk none 0 0 0 0 rfl rfl (Nat.zero_le _) (fun q h hq => by omega) (ownG_nil _ _ _ _) (Later.refl _)
        case round =>
          obtain ⟨L, cl, j, rfl, rfl, hj, hall, hown, lat⟩ := hrel
          by_cases hlt : j < us.length
          · obtain ⟨ub, uo, rfl, hcell⟩ : ∃ ub uo, UA = some ⟨ub, uo, none⟩ ∧ wr.cell? ⟨ub, uo + j, none⟩ = some (.int .u64 ((us[j] : Nat) : Int)) := by
              rcases HUH.out.later lat with h | ⟨ub, uo, h1, _, hc⟩
              · have h2 : us.length = 0 := by have h := congrArg List.length h; rw [ints_length] at h; exact h
                omega
              · exact ⟨ub, uo, h1, hc j _ (by rw [ints_get _ _ _ hlt])⟩
            have HREP := Lib.hid (show pick3 d (us.take (j + 1)) = pick3 d (us.take j) ++ [d.getD us[j] (0, 0, ⟨#[]⟩)] by
              unfold pick3; rw [List.take_succ_eq_append_getElem hlt, List.map_append]; rfl)
            have HMEM := Lib.hid (List.getElem_mem hlt)
            have HALL := Lib.hid (fun (hx : us[j] < d.length) => (show ∀ q (h : q < us.length), q < j + 1 → us[q] < d.length from fun q h hq => by
              rcases Nat.lt_or_ge q j with h' | h'
              · exact hall q h h'
              · obtain rfl : q = j := by omega
                exact hx))
            have hu64 := HU64.out _ (List.getElem_mem hlt)
            generalize us[j] = a at hcell HREP HMEM HALL hu64
            have HOWN := Lib.hid hown
            have LAT := Lib.hid lat
            have HJ9 := Lib.hid (show j < 1000 by have := HUN.out; omega)
            have hj9 : j < 1000 := HJ9.out
            clear hown lat hall
            by_cases ha : a < nd
            · have hge : decide ((nd : Int) ≤ (a : Int)) = false := by simp; omega
              have hge2 : decide (nd ≤ a) = false := by simp; omega
              have hge3 : ¬ nd ≤ a := by omega
              have had : a < d.length := by have := HND.out; omega
              obtain ⟨db, doff, rfl, c0, c1, c2⟩ := (HDX.out.later LAT.out).val3 a had
              rw [show d.getD a (0, 0, ⟨#[]⟩) = (d[a].1, d[a].2.1, d[a].2.2) by rw [List.getD_eq_getElem?_getD, List.getElem?_eq_getElem had]; rfl] at HREP
              generalize d[a].1 = vt at c0 HREP
              generalize d[a].2.1 = vi at c1 HREP
              generalize d[a].2.2 = vs at c2 HREP
              have ha0 : (0 : Int) ≤ (a : Int) := by omega
              have ha1 : (a : Int) < (nd : Int) := by omega
              have HAS := Lib.hid ((Blk.new wr (fl [(vt, vi, vs)]).toArray 26 _ rfl).has)
              have O2 := Lib.hid (HOWN.out.alloc (.cells (fl [(vt, vi, vs)]).toArray 26))
              have LT2 := Lib.hid (LAT.out.alloc (.cells (fl [(vt, vi, vs)]).toArray 26))
              have HAN := Lib.hid (HALL.out had)
              clear had hu64 ha HALL
              go_wp2_with (at_builtin; refine wpList_append_g _ rfl (.tmp 66) (.tmp 71) 23 rfl wX.heap.size 26 (vagg 0 0 ⟨#[]⟩) 3 32 Tryz.underlying23 info_v rfl (by decide) _ j (fl (pick3 d (us.take j))) rfl O2.out _ 1 1 (fl [(vt, vi, vs)]) rfl HAS.out (by rfl) (by intro h; cases h) (fl_one _) (by have := HJ9.out; unfold maxLen; omega) (by have := HJ9.out; omega) ?_ ?_; (exact LT2.out.size); intro A2 c2 w6 o2 g2 b2 n2; have HO2 := Lib.hid o2; have HB6 := Lib.hid (Later.of (LT2.out.below.trans b2)); clear o2 g2 b2 n2)
              go_roundw
              case rel => exact DRInv.mk A2 c2 _ (j + 1) _ rfl (by omega) hlt HAN.out (by rw [HREP.out, fl_append]; exact HO2.out) HB6.out
              case measure => simp [intOf]; omega
            · have HO := Lib.hid (HON.out (HTXU.out fun h => ha (h a HMEM.out)))
              have hge : decide ((nd : Int) ≤ (a : Int)) = true := by simp; omega
              have hge2 : decide (nd ≤ a) = true := by simp; omega
              have hge3 : nd ≤ a := by omega
              have LZ := Lib.hid (LX.out.trans LAT.out)
              have HSX := Lib.hid (HS.out.later LZ.out)
              obtain ⟨sv, hsv⟩ := HSX.out.bound
              clear ha hu64 HALL
              go_wp2_with (go_at_call 38; refine (at_l _ _ _ _).mono ?_; rintro e w5 ⟨q, rfl, l5⟩)
              go_ret2
              exact ⟨.inl ⟨HO.out, q, rfl⟩, LZ.out.trans l5⟩
          · obtain rfl : j = us.length := by omega
            obtain ⟨l, hl⟩ : ∃ l, l = pick3 d us := ⟨_, rfl⟩
            rw [List.take_of_length_le (Nat.le_refl _), ← hl] at hown
            have HRK := Lib.hid (show readT t n b = some l by
              rw [HTYU.out fun p hp => ?_, hl]
              obtain ⟨q, hq, rfl⟩ := List.getElem_of_mem hp
              rw [HND.out]; exact hall q hq hq)
            obtain ⟨nl, hnl'⟩ : ∃ nl, nl = us.length := ⟨_, rfl⟩
            have hnl : nl = l.length := by rw [hl, hnl', pick3_len]
            rw [← hnl'] at hown hlt ⊢
            have HLH := Lib.hid (Has.ownG hown)
            have HLN := Lib.hid (show l.length ≤ 1000 by have := HUN.out; omega)
            have HL64 := Lib.hid (readT_is HTT.out H256.out HRK.out).2.1
            have LX := Lib.hid (LX.out.trans lat)
            have HSX := Lib.hid (HS.out.later LX.out)
            clear hown lat hl hnl' HUN hall hj
            have HW := Lib.hid (dictWrite_n t L nl cl l wr hnl HSX.out HLN.out HLH.out HL64.out)
            have HNL := Lib.hid hnl
            clear hnl
            go_wp2_with fail
            refine HW.out.mono ?_
            rintro e wY ⟨⟨hp, p, rfl⟩ | ⟨pb, PA, pc, hp, rfl, ph, _, _, _⟩, lY⟩
            · have HO := Lib.hid (HOX.out l HRK.out (by rw [hp]; simp))
              have LY := Lib.hid (LX.out.trans lY)
              clear hp lY HW
              go_wp2_with (go_at_call 47; refine (cellSame_err _ _ _ _ _ _ _ _ _ p _).mono ?_; rintro e w' ⟨rfl, rfl⟩)
              go_ret2
              exact ⟨.inl ⟨HO.out, p, rfl⟩, LY.out⟩
            · have LY := Lib.hid (LX.out.trans lY)
              have HLY := Lib.hid (HLH.out.later lY)
              by_cases heq : pb = b
              · have HO := Lib.hid (HOY.out l HRK.out (by rw [hp, heq]))
                have HSM := Lib.hid (cellSame_yes L (some ⟨bb, off, none⟩) PA nl cl b.length c pb.length pc b wY rfl (by rw [heq]) (HR.out.later LY.out) (heq ▸ ph))
                clear hp lY HW heq ph
                go_wp2_with (go_at_call 47; refine HSM.out.mono ?_; rintro e w' ⟨rfl, rfl⟩)
                go_ret2
                refine ⟨.inr ⟨l, L, cl, HO.out, ?_, HLY.out⟩, LY.out⟩
                rw [← HNL.out]
                rfl
              · have HO := Lib.hid (HOX.out l HRK.out (by rw [hp]; intro e; injection e with e; exact heq e))
                have HSM := Lib.hid (cellSame_no L (some ⟨bb, off, none⟩) PA nl cl b.length c pb.length pc b pb wY (HS.out.later LY.out) rfl rfl (HR.out.later LY.out) ph (putT_lt HLN.out HL64.out hp) H256.out heq)
                clear hp lY HW heq ph
                go_wp2_with (go_at_call 47; refine HSM.out.mono ?_; rintro e w' ⟨⟨q, rfl⟩, lS⟩)
                go_ret2
                exact ⟨.inl ⟨HO.out, q, rfl⟩, LY.out.trans lS⟩

set_option maxRecDepth 100000 in
theorem dictRead_no (t n : Int) (A : Option Addr) (m c : Nat) (w : World) (hs : S6 w) (h : ¬ ((1 ≤ t ∧ t ≤ 4) ∧ 0 ≤ n ∧ n ≤ 1000)) :
    Calls Tryz.prog 26 #[.int .i64 t, .int .i64 n, .slice A m c] w (WritesV none w) := by
  have hif : Tryz.prog.isIface 47 = true := by kernel_rfl
  have HA := Lib.hid (count_no t n w h hs.type hs.bound)
  clear hs h
  go_enter Tryz.func26, Tryz.ntmps26
  go_wp2_with fail
  refine HA.out.mono ?_
  rintro e w1 ⟨v, rfl, ⟨p, rfl⟩, l1⟩
  have heq := run_eql_iface_nil (P := Tryz.prog) (w := w1) 47 hif 96 (.pointer (some p))
  go_wp2_with fail
  go_ret2
  exact ⟨.inl ⟨rfl, p, rfl⟩, l1⟩

theorem dictRead_any (t n : Int) (A : Option Addr) (c : Nat) (b : List Nat) (w : World) (hs : S6 w) (hr : Has w A (ints .u8 b)) (h256 : ∀ x ∈ b, x < 256) (hb : b.length ≤ 1000000) (hbc : b.length ≤ c) (hc : c ≤ 9223372036854775807) :
    Calls Tryz.prog 26 #[.int .i64 t, .int .i64 n, .slice A b.length c] w (WritesV (takeT t n b) w) := by
  by_cases h : (1 ≤ t ∧ t ≤ 4) ∧ 0 ≤ n ∧ n ≤ 1000
  · obtain ⟨m, rfl⟩ : ∃ m : Nat, n = (m : Int) := ⟨n.toNat, by omega⟩
    exact dictRead_yes t m A c b w hs h.1 (by omega) hr h256 hb hbc hc
  · unfold takeT; rw [if_neg h]; exact dictRead_no t n A _ c w hs h

set_option maxRecDepth 100000 in
theorem dictTake_any (t n : Int) (A : Option Addr) (c : Nat) (b : List Nat) (w : World) (hs : S6 w) (hr : Has w A (ints .u8 b)) (h256 : ∀ x ∈ b, x < 256) (hb : b.length ≤ 1000000) (hbc : b.length ≤ c) (hc : c ≤ 9223372036854775807) :
    Calls Tryz.prog 10 #[.int .i64 t, .int .i64 n, .slice A b.length c] w (PutsV (takeT t n b) w) := by
  have HC := Lib.hid (dictRead_any t n A c b w hs hr h256 hb hbc hc)
  clear hs hr h256 hb hbc hc
  go_enter Tryz.func10, Tryz.ntmps10
  go_wp2_with fail
  refine HC.out.mono ?_
  rintro e w1 ⟨⟨ho, p, rfl⟩ | ⟨l, B, cb, ho, rfl, h1⟩, l1⟩
  · go_wp2_with (go_at_call 25; refine (listV_no _ _ _ p _).mono ?_; rintro e w' ⟨rfl, rfl⟩)
    go_ret2
    exact ⟨.inl ⟨ho, rfl⟩, l1⟩
  · have H := Lib.hid (show PutsV (takeT t n b) w (.returned (.tuple #[.slice B l.length cb, .bool true])) w1 from ⟨.inr ⟨l, B, cb, ho, rfl, h1⟩, l1⟩)
    clear ho h1 l1
    go_wp2_with (go_at_call 25; refine (listV_yes _ _ _ _).mono ?_; rintro e w' ⟨rfl, rfl⟩)
    go_ret2
    exact H.out
end Go.Proofs.YtfcedbhmbcbiaaaGreatDoor
