/- The walk of ColumnTurned. -/
import Derived.Test.YtnfomdjcpkgdpaaGreatDoorRefColV
import Derived.Test.YtnfomdjcpkgdpaaGreatDoorCol10
namespace Go.Proofs.YtnfomdjcpkgdpaaGreatDoor
open Go.RowKit
set_option linter.unusedVariables false

/-- The outer loop: the bytes as they stand. -/
def TOut10 (B : Option Addr) (cb m base : Nat) (w w2 : World) (iv : Value) (wr : World) : Prop :=
  ∃ (i : Nat) (by_ : List Nat), iv = .int .i64 (i : Int) ∧ i ≤ 3 ∧ by_.length = m ∧ (∀ x ∈ by_, x < 256) ∧ wr.ownsRow base 5 1 (.slice B m cb) m (ints .u8 by_) ∧ Later w2 wr
theorem TOut10.mk {B : Option Addr} {cb m base : Nat} {w w2 wr : World} (i : Nat) (ii : Int) (by_ : List Nat) (hi : ii = (i : Int)) (h1 : i ≤ 3) (h2 : by_.length = m) (h3 : ∀ x ∈ by_, x < 256) (h4 : wr.ownsRow base 5 1 (.slice B m cb) m (ints .u8 by_)) (h5 : Later w2 wr) : TOut10 B cb m base w w2 (.int .i64 ii) wr := by
  subst hi; exact ⟨i, by_, rfl, h1, h2, h3, h4, h5⟩
theorem usedC_some' {e t : Int} (he : 1 ≤ e ∧ e ≤ 5) (ht : 1 ≤ t ∧ t ≤ 4) : ∃ u, usedC e t = some u := by
  unfold usedC
  rw [if_pos ⟨ht, he⟩]
  exact ⟨_, rfl⟩
set_option maxRecDepth 100000 in
theorem columnTurned_long (en t : Int) (A : Option Addr) (n c : Nat) (at_ with_ : List Nat) (w : World) (hs : S10 w) (h : 60 < n) :
    Calls Tryz.prog 5 #[.int .u8 en, .int .u8 t, .slice A n c, .agg (ints .u8 at_).toArray, .agg (ints .u8 with_).toArray] w fun e w' => e = .returned (.bool true) ∧ Later w w' := by
  have l1 : Later w ((w.alloc (.cells (ints .u8 at_).toArray 41)).alloc (.cells (ints .u8 with_).toArray 41)) := ((Later.refl w).alloc _).alloc _
  have HB := Lib.hid (begun10_any _ (hs.later l1))
  have HL := Lib.hid l1
  clear hs l1
  go_enter Tryz.func5, Tryz.ntmps5
  go_wp2_with fail
  refine HB.out.mono ?_
  rintro e w1 ⟨rfl, l1⟩
  go_wp2_with fail
  go_ret
  exact ⟨rfl, HL.out.trans l1⟩

set_option maxRecDepth 100000 in
set_option maxHeartbeats 4000000 in
theorem columnTurned_walk (en t : Nat) (A : Option Addr) (n c : Nat) (bs at_ with_ : List Nat) (w : World) (hs : S10 w) (hen : en < 256) (ht : t < 256) (hb : bs.length = n) (hn : n ≤ 60) (hr : Has w A (ints .u8 bs)) (h256 : ∀ x ∈ bs, x < 256) (ha : at_.length = 3) (hw : with_.length = 3) (hat : ∀ x ∈ at_, x < 256) (hwt : ∀ x ∈ with_, x < 256) :
    Calls Tryz.prog 5 #[.int .u8 en, .int .u8 t, .slice A n c, .agg (ints .u8 at_).toArray, .agg (ints .u8 with_).toArray] w fun e w' => e = .returned (.bool true) ∧ Later w w' := by
  obtain ⟨w0, hw0, l0, BA, BW, z0⟩ := two_new w (ints .u8 at_).toArray (ints .u8 with_).toArray 41 41
  obtain ⟨ga, hga⟩ : ∃ g, g = w.heap.size := ⟨_, rfl⟩
  obtain ⟨gw, hgw⟩ : ∃ g, g = w.heap.size + 1 := ⟨_, rfl⟩
  rw [← hga] at BA
  rw [← hgw] at BW
  have HW0 := Lib.hid hw0
  have HGA := Lib.hid hga
  have HGW := Lib.hid hgw
  have HB := Lib.hid (begun10_any w0 (hs.later l0))
  have HS := Lib.hid (hs.later l0)
  have HL0 := Lib.hid l0
  have HR := Lib.hid (hr.later l0)
  have H256 := Lib.hid h256
  have HBS := Lib.hid hb
  have HAT := Lib.hid hat
  have HWT := Lib.hid hwt
  have HLA := Lib.hid ha
  have HLW := Lib.hid hw
  have HBA := Lib.hid BA
  have HBW := Lib.hid BW
  obtain ⟨T, hT⟩ : ∃ T : Int, T = 1 + (t : Int) % 4 := ⟨_, rfl⟩
  obtain ⟨E, hE⟩ : ∃ E : Int, E = 1 + (en : Int) % 5 := ⟨_, rfl⟩
  have hT4 : 1 ≤ T ∧ T ≤ 4 := by omega
  have hE5 : 1 ≤ E ∧ E ≤ 5 := by omega
  obtain ⟨u, hu⟩ := usedC_some' hE5 hT4
  have HUU := Lib.hid hu
  have HE := Lib.hid hE.symm
  have HTY := Lib.hid (show tyOf T = T by unfold tyOf; split <;> omega)
  have HT := Lib.hid hT.symm
  clear hs hr h256 hb hT hE hu hat hwt ha hw BA BW hw0 l0 z0 hga hgw
  go_enter Tryz.func5, Tryz.ntmps5
  go_wp2_with fail
  rw [← HW0.out, ← HGW.out, ← HGA.out]
  refine HB.out.mono ?_
  rintro e w1 ⟨rfl, l1⟩
  have HSM := Lib.hid (col_10 T 20 A n c bs w1 (by omega) (by omega) HBS.out (HR.out.later l1) H256.out)
  have HS1 := Lib.hid (HS.out.later l1)
  have HL1 := Lib.hid (HL0.out.trans l1)
  have HBA1 := Lib.hid (HBA.out.later l1)
  have HBW1 := Lib.hid (HBW.out.later l1)
  clear l1 HB HS HL0 HBA HBW HW0
  go_wp2_with fail
  rw [HT.out, HE.out]
  refine HSM.out.mono ?_
  rintro e w2 ⟨l, L, cl, rfl, hl, hok, h64, hl30, _, _, _, l2⟩
  rw [HTY.out] at hok
  obtain ⟨cb0, hcb, hput⟩ := putC_some HUU.out hok
  obtain ⟨pb, hpb⟩ : ∃ pb, pb = headC u l ++ cb0 := ⟨_, rfl⟩
  rw [← hpb] at hput
  have hll : l.length ≤ 1000 := by omega
  have hpl := putC_le hll h64 hput
  have HP256 := Lib.hid (putC_lt hll h64 hput)
  have HPUT := Lib.hid hput
  have HENC := Lib.hid (refPutColumn_o E T L l.length cl l w2 rfl hll hl h64)
  have hli : (l.length : Int) ≤ 20 := by omega
  have HS2 := Lib.hid (HS1.out.later l2)
  have HL2 := Lib.hid (HL1.out.trans l2)
  have HBA2 := Lib.hid (HBA1.out.later l2)
  have HBW2 := Lib.hid (HBW1.out.later l2)
  clear hl hok h64 l2 HSM HS1 HL1 hput hcb hpb hl30 HBA1 HBW1 HR
  go_wp2_with fail
  refine HENC.out.mono ?_
  intro e w3 h
  obtain ⟨B, cb, rfl, hown, hnil, l3⟩ := h.yes HPUT.out
  clear h
  obtain ⟨base, hbase⟩ : ∃ b, b = w2.heap.size := ⟨_, rfl⟩
  rw [← hbase] at hown
  obtain ⟨m, hm⟩ : ∃ m, m = pb.length := ⟨_, rfl⟩
  rw [← hm] at hown ⊢
  have hm600 : m ≤ 1000 := by omega
  have hm2 : 2 ≤ m := by omega
  have hmi : (0 : Int) < (m : Int) := by omega
  have HBASE := Lib.hid hbase
  have HOWN := Lib.hid hown
  have HL3 := Lib.hid l3
  have HPB := Lib.hid hm.symm
  clear hown l3 HENC hbase hm hpl hnil
  go_wp2_with fail
  go_loopw [16] (fun iv wr => TOut10 B cb m base w w2 iv wr) (fun iv _ => 3 - (intOf iv).toNat)
  case atStart => exact TOut10.mk 0 _ pb rfl (by omega) HPB.out HP256.out HOWN.out HL3.out
  case round =>
    obtain ⟨i, by_, rfl, hi3, hbl, hb256, hown, lat⟩ := hrel
    by_cases hi : i < 3
    · by_cases hm0 : 0 < m
      · obtain ⟨g, cap, hsl⟩ : ∃ g cap, B = some ⟨g, 0, none⟩ ∧ cap = cb ∧ base ≤ g ∧ g < wr.heap.size := by
          rcases hown.2 with ⟨h1, _⟩ | ⟨g, cap, cur, h1, hbg, hg, _⟩
          · injection h1 with _ h2 _; omega
          · injection h1 with h2 h3 h4
            refine ⟨g, cap, h2, h4.symm, hbg, ?_⟩
            rcases Nat.lt_or_ge g wr.heap.size with h' | h'
            · exact h'
            · rw [Array.getElem?_eq_none h'] at hg; cases hg
        obtain ⟨rfl, _, hbg, hgl⟩ := hsl
        have h6 := (HBA2.out.later lat).cell i (.int .u8 ((at_[i]'(by have := HLA.out; omega) : Nat) : Int)) (by rw [List.getElem?_toArray, ints_get .u8 at_ i (by have := HLA.out; omega)])
        have h7 := (HBW2.out.later lat).cell i (.int .u8 ((with_[i]'(by have := HLW.out; omega) : Nat) : Int)) (by rw [List.getElem?_toArray, ints_get .u8 with_ i (by have := HLW.out; omega)])
        have hx := HAT.out _ (List.getElem_mem (by have := HLA.out; omega : i < at_.length))
        have hy := HWT.out _ (List.getElem_mem (by have := HLW.out; omega : i < with_.length))
        generalize at_[i]'(by have := HLA.out; omega) = x at h6 hx
        generalize with_[i]'(by have := HLW.out; omega) = y at h7 hy
        obtain ⟨q, hq, hqm⟩ : ∃ q : Nat, (x : Int) % (m : Int) = (q : Int) ∧ q < m := ⟨x % m, by simp, Nat.mod_lt _ hm0⟩
        have hbc0 := hown.cellAt q (by omega)
        rw [ints_get .u8 by_ q (by omega)] at hbc0
        generalize by_[q]'(by omega) = z0 at hbc0
        have hbf0 := hown.frozenAt q
        have hst := hown.stored q (.int .u8 ((y / 2 : Nat) : Int))
        by_cases hy4 : y % 4 = 0
        · have hyi : ¬ (0 : Int) < (y : Int) % 4 := by omega
          obtain ⟨wq, hwq⟩ : ∃ wq, wq = wr := ⟨_, rfl⟩
          obtain ⟨bq, hbq⟩ : ∃ bq, bq = by_ := ⟨_, rfl⟩
          have HOQ := Lib.hid hown
          have HLQ := Lib.hid lat
          have HQL := Lib.hid hbl
          have HQ256 := Lib.hid hb256
          clear hy4 hown lat hbl hb256 hbc0 hbf0 hst h6 hq hqm hx
          subst hwq hbq
          have S9 := Lib.hid (HS2.out.later HLQ.out)
          have HTK := Lib.hid (colTake_any T l.length (some ⟨g, 0, none⟩) m cb bq wq S9.out HQL.out.symm (Has.own HOQ.out) HQ256.out (by have := HQL.out; omega) (own_cap HOQ.out) (own_capmax HOQ.out))
          have HDC := Lib.hid (fun w' (lz : Later wq w') => refTakeColumn_any T l.length (some ⟨g, 0, none⟩) m cb bq w' HQL.out.symm (Has.own (own_later HOQ.out lz)) HQ256.out (by have := HQL.out; omega) (own_cap HOQ.out) (own_capmax HOQ.out))
          cases htk : takeC10 T l.length bq with
          | none =>
            have HTN := Lib.hid htk
            clear htk
            go_wp2_with fail
            refine HTK.out.mono ?_
            intro e wk h
            obtain ⟨rfl, lk⟩ := h.no HTN.out
            have LK := Lib.hid lk
            clear h lk HTK
            go_wp2_with fail
            refine (HDC.out wk LK.out).mono ?_
            intro e wd h
            obtain ⟨rfl, ld⟩ := h.no HTN.out
            have LD := Lib.hid (LK.out.trans ld)
            clear h ld LK HDC
            go_wp2_with fail
            refine (sameValues_len none none 0 0 0 [] [] wd rfl rfl Has.nil_ Has.nil_ (by omega)).mono ?_
            intro e ws h
            obtain ⟨rfl, ls⟩ := h.yes (by first | rfl | trivial)
            have LS := Lib.hid (LD.out.trans ls)
            have OZ := Lib.hid (own_later HOQ.out LS.out)
            clear h ls LD
            go_wp2_with fail
            go_roundw
            case rel => exact TOut10.mk (i + 1) _ bq (by omega) (by omega) HQL.out HQ256.out OZ.out (HLQ.out.trans LS.out)
            case measure => simp [intOf]; omega
          | some p =>
            obtain ⟨l', f'⟩ := p
            have HTN := Lib.hid htk
            have hl'0 : l'.length ≤ 1000 := by have := takeC10_is HQ256.out htk; omega
            clear htk
            go_wp2_with fail
            refine HTK.out.mono ?_
            intro e wk h
            obtain ⟨X, cx, rfl, hx, lk⟩ := h.yes HTN.out
            have HX := Lib.hid hx
            have LK := Lib.hid lk
            clear h lk HTK hx
            go_wp2_with fail
            refine (HDC.out wk LK.out).mono ?_
            intro e wd h
            obtain ⟨Y, cy, rfl, hy', ld⟩ := h.yes HTN.out
            have HSV := Lib.hid (sameValues_any X Y cx cy l' l' wd (HX.out.later ld) hy' (by omega) (by omega))
            have LD := Lib.hid (LK.out.trans ld)
            clear h ld LK hy' HX HDC
            go_wp2_with fail
            refine HSV.out.mono ?_
            intro e ws h
            obtain ⟨rfl, ls⟩ := h.yes (by first | rfl | trivial)
            have LS := Lib.hid (LD.out.trans ls)
            have OZ := Lib.hid (own_later HOQ.out LS.out)
            clear h ls LD HSV
            go_wp2_with fail
            go_roundw
            case rel => exact TOut10.mk (i + 1) _ bq (by omega) (by omega) HQL.out HQ256.out OZ.out (HLQ.out.trans LS.out)
            case measure => simp [intOf]; omega
        · have hyi : (0 : Int) < (y : Int) % 4 := by omega
          have hm00 : ((m : Int) == 0) = false := by rw [beq_eq_false_iff_ne]; omega
          obtain ⟨v, hv⟩ : ∃ v, v = y / 2 := ⟨_, rfl⟩
          rw [← hv] at hst
          have hyd : (y : Int) / 2 = (v : Int) := by omega
          have hyd2 : Int.tdiv (y : Int) 2 = (v : Int) := by rw [Int.tdiv_eq_ediv_of_nonneg (by omega)]; omega
          have hv256 : v < 256 := by omega
          have hmne : ¬ m = 0 := by omega
          have hxw : IntKind.i64.wrap (x : Int) = (x : Int) := IntWalk.i64_in _ ⟨by omega, by omega⟩
          have htm : ((x : Int)).tmod (m : Int) = (q : Int) := by rw [Int.tmod_eq_emod_of_nonneg (by omega)]; exact hq
          have hyw : IntKind.u8.wrap (v : Int) = (v : Int) := by rw [IntKind.wrap_u8]; omega
          clear hv
          have HLAT := Lib.hid lat
          have HST := Lib.hid hst.1
          have HBL := Lib.hid hbl
          have HB256 := Lib.hid hb256
          clear hy4 hown lat hbl hb256 hst
          go_wp2_with fail
          go_region
          obtain ⟨wq, hwq⟩ : ∃ wq, wq = (wr.setCell ⟨g, q, none⟩ (.int .u8 (v : Int))).drew := ⟨_, rfl⟩
          obtain ⟨bq, hbq⟩ : ∃ bq, bq = by_.set q v := ⟨_, rfl⟩
          have HOQ := Lib.hid (show wq.ownsRow base 5 1 (.slice (some ⟨g, 0, none⟩) m cb) m (ints .u8 bq) from by
            rw [hwq, hbq, show ints .u8 (by_.set q v) = (ints .u8 by_).set q (.int .u8 (v : Int)) by simp [ints, List.map_set]]
            exact HST.out)
          have HLQ := Lib.hid (show Later w2 wq from by rw [hwq]; exact (HLAT.out.set_ (p := ⟨g, q, none⟩) (by rw [← HBASE.out]; exact hbg) _).drew)
          have HQL := Lib.hid (show bq.length = m by rw [hbq, List.length_set]; exact HBL.out)
          have HQ256 := Lib.hid (show ∀ z ∈ bq, z < 256 from fun z hz => by
            rw [hbq] at hz
            rcases List.mem_or_eq_of_mem_set hz with h | h
            · exact HB256.out z h
            · rw [h]; exact hv256)
          rw [← hwq]
          clear hwq hbq HST HBL HB256 HLAT hbc0 hbf0 h6 h7 hq hqm hx hy hyd hyd2 htm hxw hyw hyi
          have S9 := Lib.hid (HS2.out.later HLQ.out)
          have HTK := Lib.hid (colTake_any T l.length (some ⟨g, 0, none⟩) m cb bq wq S9.out HQL.out.symm (Has.own HOQ.out) HQ256.out (by have := HQL.out; omega) (own_cap HOQ.out) (own_capmax HOQ.out))
          have HDC := Lib.hid (fun w' (lz : Later wq w') => refTakeColumn_any T l.length (some ⟨g, 0, none⟩) m cb bq w' HQL.out.symm (Has.own (own_later HOQ.out lz)) HQ256.out (by have := HQL.out; omega) (own_cap HOQ.out) (own_capmax HOQ.out))
          cases htk : takeC10 T l.length bq with
          | none =>
            have HTN := Lib.hid htk
            clear htk
            go_wp2_with fail
            refine HTK.out.mono ?_
            intro e wk h
            obtain ⟨rfl, lk⟩ := h.no HTN.out
            have LK := Lib.hid lk
            clear h lk HTK
            go_wp2_with fail
            refine (HDC.out wk LK.out).mono ?_
            intro e wd h
            obtain ⟨rfl, ld⟩ := h.no HTN.out
            have LD := Lib.hid (LK.out.trans ld)
            clear h ld LK HDC
            go_wp2_with fail
            refine (sameValues_len none none 0 0 0 [] [] wd rfl rfl Has.nil_ Has.nil_ (by omega)).mono ?_
            intro e ws h
            obtain ⟨rfl, ls⟩ := h.yes (by first | rfl | trivial)
            have LS := Lib.hid (LD.out.trans ls)
            have OZ := Lib.hid (own_later HOQ.out LS.out)
            clear h ls LD
            go_wp2_with fail
            go_roundw
            case rel => exact TOut10.mk (i + 1) _ bq (by omega) (by omega) HQL.out HQ256.out OZ.out (HLQ.out.trans LS.out)
            case measure => simp [intOf]; omega
          | some p =>
            obtain ⟨l', f'⟩ := p
            have HTN := Lib.hid htk
            have hl'0 : l'.length ≤ 1000 := by have := takeC10_is HQ256.out htk; omega
            clear htk
            go_wp2_with fail
            refine HTK.out.mono ?_
            intro e wk h
            obtain ⟨X, cx, rfl, hx, lk⟩ := h.yes HTN.out
            have HX := Lib.hid hx
            have LK := Lib.hid lk
            clear h lk HTK hx
            go_wp2_with fail
            refine (HDC.out wk LK.out).mono ?_
            intro e wd h
            obtain ⟨Y, cy, rfl, hy', ld⟩ := h.yes HTN.out
            have HSV := Lib.hid (sameValues_any X Y cx cy l' l' wd (HX.out.later ld) hy' (by omega) (by omega))
            have LD := Lib.hid (LK.out.trans ld)
            clear h ld LK hy' HX HDC
            go_wp2_with fail
            refine HSV.out.mono ?_
            intro e ws h
            obtain ⟨rfl, ls⟩ := h.yes (by first | rfl | trivial)
            have LS := Lib.hid (LD.out.trans ls)
            have OZ := Lib.hid (own_later HOQ.out LS.out)
            clear h ls LD HSV
            go_wp2_with fail
            go_roundw
            case rel => exact TOut10.mk (i + 1) _ bq (by omega) (by omega) HQL.out HQ256.out OZ.out (HLQ.out.trans LS.out)
            case measure => simp [intOf]; omega
      · exfalso
        omega
    · have LZ := Lib.hid (HL2.out.trans lat)
      clear hown lat
      go_wp2_with fail
      go_ret
      exact ⟨rfl, LZ.out⟩
end Go.Proofs.YtnfomdjcpkgdpaaGreatDoor
