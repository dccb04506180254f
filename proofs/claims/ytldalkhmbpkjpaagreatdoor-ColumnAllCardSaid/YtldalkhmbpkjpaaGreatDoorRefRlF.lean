
import Derived.Test.YtldalkhmbpkjpaaGreatDoorRefL
import Derived.Test.YtldalkhmbpkjpaaGreatDoorRleD
import Derived.Test.YtldalkhmbpkjpaaGreatDoorBase
import Derived.BigQuiet
import Derived.Test.YtldalkhmbpkjpaaGreatDoorRefOneT
/- The walk of the reference's Encode of rle. -/

namespace Go.Proofs.YtldalkhmbpkjpaaGreatDoor
open Go.RowKit
set_option linter.unusedVariables false

def EInv (t : Int) (l : List Val3) (w : World) (bv iv : Value) (wr : World) : Prop :=
  ∃ (B : Option Addr) (cb : Nat) (pre : List Nat) (i : Nat), bv = .slice B pre.length cb ∧ iv = .int .i64 (i : Int) ∧ i ≤ l.length ∧ wr.ownsRow w.heap.size 5 1 (.slice B pre.length cb) pre.length (ints .u8 pre) ∧ (B = none → cb = 0) ∧ pre ++ rleB (l.drop i) = rleB l ∧ Later w wr
theorem EInv.mk {t : Int} {l : List Val3} {w wr : World} (B : Option Addr) (cb nb : Nat) (pre : List Nat) (i : Nat) (ii : Int) (hn : nb = pre.length) (hi : ii = (i : Int)) (h0 : i ≤ l.length) (h1 : wr.ownsRow w.heap.size 5 1 (.slice B nb cb) nb (ints .u8 pre)) (h2 : B = none → cb = 0) (h3 : pre ++ rleB (l.drop i) = rleB l) (h4 : Later w wr) : EInv t l w (.slice B nb cb) (.int .i64 ii) wr := by
  subst hn hi
  exact ⟨B, cb, pre, i, rfl, rfl, h0, h1, h2, h3, h4⟩

set_option maxRecDepth 100000 in
set_option maxHeartbeats 4000000 in
theorem refEncL_yes (t : Int) (A : Option Addr) (c m : Nat) (l : List Val3) (w : World) (hm : m = l.length) (ht : 1 ≤ t ∧ t ≤ 4) (hl : m ≤ 2000) (hr : Has w A (fl l)) (ho : OkL t l) (h64 : All64 l) :
    Calls Tryz.prog 21 #[.int .i64 2, .int .i64 t, .slice A m c] w (OwnB (rleB l) w) := by
  have HA := Lib.hid (refRight_any t A c l w (by omega) hr)
  rw [← hm] at HA
  have HT := Lib.hid ht
  have HOK := Lib.hid ho
  have H64 := Lib.hid h64
  have HHAS := Lib.hid hr
  have HML := Lib.hid hm
  have HTOT := Lib.hid (rleB_le ho)
  clear ht ho h64 hr hm
  go_enter Tryz.func21, Tryz.ntmps21
  go_wp2_with fail
  refine HA.out.mono ?_
  intro e w1 h
  obtain ⟨rfl, l1⟩ := h.yes ⟨HT.out, HOK.out⟩
  have L1 := Lib.hid l1
  clear h HA l1
  go_wp2_with fail
  go_loopw [8, 10] (fun bv iv wr => EInv t l w bv iv wr) (fun _ iv _ => m - (intOf iv).toNat)
  case atStart => exact EInv.mk none 0 0 [] 0 0 rfl rfl (Nat.zero_le _) (World.ownsRow_nil _ _ _ _) (fun _ => rfl) (by simp) L1.out
  case round =>
    obtain ⟨B, cb, pre, i, rfl, rfl, hil, hown, hnil, hcat, lat⟩ := hrel
    obtain ⟨n, hn⟩ : ∃ n, n = pre.length := ⟨_, rfl⟩
    rw [← hn] at hown ⊢
    have HIL := Lib.hid hil
    have HN := Lib.hid hn
    have HOWN := Lib.hid hown
    have HNIL := Lib.hid hnil
    have HCAT := Lib.hid hcat
    have HLAT := Lib.hid lat
    clear hil hn hown hnil hcat lat L1
    by_cases hlt : i < m
    · have hil : i < l.length := by have := HML.out; omega
      obtain ⟨x, hx⟩ : ∃ x, x = l[i] := ⟨_, rfl⟩
      obtain ⟨r, hr⟩ : ∃ r, r = l.drop (i + 1) := ⟨_, rfl⟩
      have HDR := Lib.hid (show l.drop i = x :: r by rw [hx, hr]; exact List.drop_eq_getElem_cons hil)
      have HX := Lib.hid hx
      have HR := Lib.hid hr
      have HRL := Lib.hid (show runX x r + i + 1 ≤ m by
        have h1 := runX_le x r
        have h2 : r.length = l.length - (i + 1) := by rw [hr, List.length_drop]
        have := HML.out
        omega)
      clear hx hr
      obtain ⟨wr0, hwr0⟩ : ∃ wr0, wr0 = wr := ⟨_, rfl⟩
      subst hwr0
      go_wp2_with fail
      go_loopw [11] (fun nv wi => ∃ j : Nat, nv = .int .i64 j ∧ 1 ≤ j ∧ j ≤ runX x r + 1 ∧ Later wr0 wi) (fun nv _ => m - (intOf nv).toNat)
      case atStart => exact ⟨1, rfl, by omega, by omega, Later.refl _⟩
      case round =>
        obtain ⟨j, rfl, hj1, hjR, lat2⟩ := hrel
        have LATI := Lib.hid lat2
        have LAT2 := Lib.hid (HLAT.out.trans lat2)
        clear lat2
        obtain ⟨p, hp⟩ : ∃ p, p = i + j := ⟨_, rfl⟩
        have HP := Lib.hid hp
        have hpi : (i : Int) + (j : Int) = (p : Int) := by omega
        have hp4 : p ≤ 4000 := by have := HRL.out; omega
        have hpw : IntKind.i64.wrap (p : Int) = (p : Int) := IntWalk.i64_in _ ⟨by omega, by omega⟩
        have hpw2 : IntKind.i64.wrap ((i : Int) + (j : Int)) = (p : Int) := by rw [hpi]; exact hpw
        have hil : i < l.length := by have := HML.out; omega
        obtain ⟨b, off, hadr, c0, c1, c2⟩ := HHAS.out.val3 i hil
        subst hadr
        rw [show l[i] = x from HX.out.symm] at c0 c1 c2
        have hmem : x ∈ l := by rw [HX.out]; exact List.getElem_mem hil
        obtain ⟨hx1, hx2⟩ := HOK.out x hmem
        have HIX := Lib.hid (H64.out x hmem)
        have HRS := Lib.hid (fun (hpm : p < m) => (show (l[p]'(by have := HML.out; omega) = x ↔ j - 1 < runX x r) from by
          have hrl : r.length = l.length - (i + 1) := by rw [HR.out, List.length_drop]
          have h := runX_step (x := x) (l := r) (k := j - 1) (by omega) (by have := HML.out; omega)
          rw [← h]
          have : l[p]'(by have := HML.out; omega) = r[j - 1]'(by have := HML.out; omega) := by
            have e := HR.out
            subst e
            rw [List.getElem_drop]
            congr 1
            omega
          rw [this]))
        have HNL := Lib.hid (show n ≤ 62000 by
          have h1 := congrArg List.length HCAT.out
          have h2 := HTOT.out
          have h3 := HN.out
          have := HML.out
          rw [List.length_append] at h1
          omega)
        have HCATJ := Lib.hid (fun (hK : j = runX x r + 1) => (show (pre ++ putNum j ++ oneB x.1 x.2.1 x.2.2) ++ rleB (l.drop (i + j)) = rleB l from by
          rw [← HCAT.out, HDR.out, rleB_cons, ← hK, List.append_assoc, List.append_assoc, ← List.drop_drop, HDR.out, hK, List.drop_succ_cons]))
        have HIJ := Lib.hid (fun (hK : j = runX x r + 1) => (show i + j ≤ l.length by have := HRL.out; have := HML.out; omega))
        by_cases hpm : p < m
        · have hpl : p < l.length := by have := HML.out; omega
          obtain ⟨b', off', hadr, d0, d1, d2⟩ := HHAS.out.val3 p hpl
          obtain ⟨rfl, rfl⟩ : b = b' ∧ off = off' := by injection hadr with h; injection h with h1 h2; exact ⟨h1, h2⟩
          clear hadr
          obtain ⟨hy1, hy2⟩ := HOK.out _ (List.getElem_mem hpl)
          have HEQ := Lib.hid (HRS.out hpm)
          generalize l[p] = y at d0 d1 d2 hy1 hy2 HEQ
          obtain ⟨tx, ix, sx⟩ := x
          obtain ⟨ty, iy, sy⟩ := y
          dsimp only at c0 c1 c2 d0 d1 d2 hx1 hx2 hy1 hy2 HIX HCATJ
          subst hx1
          have hy1' := hy1.symm
          clear hy1
          subst hy1'
          have HMX := Lib.hid hx2
          have CX0 := Lib.hid (show CellIs w ⟨b, off + i * 3, none⟩ (.int .i64 tx) from c0)
          have CX1 := Lib.hid (show CellIs w ⟨b, off + i * 3 + 1, none⟩ (.int .i64 ix) from c1)
          have CX2 := Lib.hid (show CellIs w ⟨b, off + i * 3 + 2, none⟩ (.string sx) from c2)
          have a0 := LAT2.out.cell c0
          have a1 := LAT2.out.cell c1
          have a2 := LAT2.out.cell c2
          have b0 := LAT2.out.cell d0
          have b1 := LAT2.out.cell d1
          have b2 := LAT2.out.cell d2
          have hd : decide ((p : Int) < (m : Int)) = true := decide_eq_true (by omega)
          have hp1 : (0 : Int) ≤ (p : Int) := by omega
          have hp2 : (p : Int) < (m : Int) := by omega
          have hi1 : (0 : Int) ≤ (i : Int) := by omega
          have hi2 : (i : Int) < (m : Int) := by omega
          clear hx2 hy2 c0 c1 c2 d0 d1 d2 hp hmem
          by_cases hie : iy = ix
          · have hie' := hie.symm
            clear hie
            subst hie'
            by_cases hse : sy = sx
            · have hse' := hse.symm
              clear hse
              subst hse'
              have hjr : j - 1 < runX (tx, ix, sx) r := HEQ.out.1 rfl
              go_wp2_with fail
              go_quiet (fail)
              go_wp2_with fail
              go_roundw
              case rel => exact ⟨j + 1, by go_num, by omega, by omega, LATI.out.drewN _⟩
              case measure => simp [intOf]; omega
            · have ene := bytes_ne hse
              have hK : j = runX (tx, ix, sx) r + 1 := by
                have : ¬ j - 1 < runX (tx, ix, sx) r := fun h => hse (by have e := HEQ.out.2 h; injection e with _ e; injection e with _ e)
                omega
              have HNEXT := Lib.hid (HCATJ.out hK)
              have HIJ2 := Lib.hid (HIJ.out hK)
              have HKK := Lib.hid hK
              clear hK hse
              go_wp2_with fail
              go_quiet (fail)
              rename_i nq
              go_wp2_with fail
              obtain ⟨wz, hwz⟩ : ∃ wz, wz = wr.drewN nq := ⟨_, rfl⟩
              have LZ := Lib.hid (show Later w wz from hwz ▸ (LAT2.out.drewN nq))
              have OZ := Lib.hid (own_later HOWN.out (show Later wr0 wz from hwz ▸ (LATI.out.drewN nq)))
              rw [← hwz]
              clear hwz
              have e0 := (CX0.out.later LZ.out).drew.out
              have e1 := (CX1.out.later LZ.out).drew.out
              have e2 := (CX2.out.later LZ.out).drew.out
              have hjw : IntKind.u64.wrap (j : Int) = (j : Int) := by rw [IntKind.wrap_u64]; omega
              have hii1 : (0 : Int) ≤ (i : Int) := by omega
              have hii2 : (i : Int) < (m : Int) := by omega
              first
                | go_region_law (first
                    | (go_simp; go_at_call 36; refine (refPut_makes j (by omega) _).mono ?_; intro e w3 h; obtain ⟨P3, p3, rfl, q3, b3, m3, n3, l3⟩ := h.gives; have Q3 := Lib.hid q3; have N3 := Lib.hid n3; have L3 := Lib.hid (LZ.out.drew.trans l3); have O3 := Lib.hid (own_later OZ.out.drew l3); have e0 := (CX0.out.later L3.out).out; have e1 := (CX1.out.later L3.out).out; have e2 := (CX2.out.later L3.out).out; clear h q3 b3 m3 n3 l3)
                    | (refine step_append_rd (by rfl) (.tmp 82) (.tmp 85) 22 (by rfl) w.heap.size 5 (.int .u8 0) 1 Tryz.underlying22 info_u8 rfl _ n (ints .u8 pre) (by rfl) O3.out _ P3 (putNum j).length p3 (ints .u8 (putNum j)) (by rfl) Q3.out ?_ N3.out (ints_one _ _) ?_ ?_ ?_ ?_; (rw [ints_length]); (have h1 := HNL.out; have h2 := putNum_le j; unfold maxLen; omega); (have h1 := HNL.out; have h2 := putNum_le j; omega); (exact L3.out.size); intro A4 c4 w4 o4 g4 b4 n4; have O4 := Lib.hid o4; have L4 := Lib.hid (Later.of (L3.out.below.trans b4)); have e0 := (CX0.out.later L4.out).out; have e1 := (CX1.out.later L4.out).out; have e2 := (CX2.out.later L4.out).out; clear o4 g4 b4 n4)
                    | (go_simp; go_at_call 35; refine (refOne_any tx ix sx _ HT.out HMX.out HIX.out).mono ?_; rintro e w5 ⟨P5, p5, rfl, q5, b5, m5, n5, l5⟩; have Q5 := Lib.hid q5; have N5 := Lib.hid n5; have L5 := Lib.hid (L4.out.trans l5); have O5 := Lib.hid (own_later O4.out l5); have e0 := (CX0.out.later L5.out).out; have e1 := (CX1.out.later L5.out).out; have e2 := (CX2.out.later L5.out).out; clear q5 b5 m5 n5 l5)
                    | (refine step_append_rd (by rfl) (.tmp 86) (.tmp 91) 22 (by rfl) w.heap.size 5 (.int .u8 0) 1 Tryz.underlying22 info_u8 rfl _ (n + (putNum j).length) (ints .u8 pre ++ ints .u8 (putNum j)) (by rfl) O5.out _ P5 (oneB tx ix sx).length p5 (ints .u8 (oneB tx ix sx)) (by rfl) Q5.out ?_ N5.out (ints_one _ _) ?_ ?_ ?_ ?_; (rw [ints_length]); (have h1 := HNL.out; have h2 := putNum_le j; have h3 := oneB_le HMX.out; unfold maxLen; omega); (have h1 := HNL.out; have h2 := putNum_le j; have h3 := oneB_le HMX.out; omega); (exact L5.out.size); intro A6 c6 w6 o6 g6 b6 n6; have O6 := Lib.hid o6; have N6 := Lib.hid n6; have L6 := Lib.hid (Later.of (L5.out.below.trans b6)); clear o6 g6 b6 n6))
                | fail "no walk"
              all_goals try simp [Act.put]
              all_goals go_wp2_with fail
              all_goals go_roundw
              all_goals first
                | exact EInv.mk A6 c6 _ (pre ++ putNum j ++ oneB tx ix sx) (i + j) _ (by rw [List.length_append, List.length_append, HN.out]) (by have := HP.out; omega) HIJ2.out (by rw [ints_snoc, ints_snoc]; exact O6.out) N6.out HNEXT.out L6.out
                | omega
                | (simp only [intOf]; omega)
                | (simp [intOf]; omega)
          · have ene : (iy == ix) = false := by simp [hie]
            have hK : j = runX (tx, ix, sx) r + 1 := by
              have : ¬ j - 1 < runX (tx, ix, sx) r := fun h => hie (by have e := HEQ.out.2 h; injection e with _ e; injection e with e _)
              omega
            have HNEXT := Lib.hid (HCATJ.out hK)
            have HIJ2 := Lib.hid (HIJ.out hK)
            clear hK hie
            go_wp2_with fail
            go_quiet (fail)
            rename_i nq
            go_wp2_with fail
            obtain ⟨wz, hwz⟩ : ∃ wz, wz = wr.drewN nq := ⟨_, rfl⟩
            have LZ := Lib.hid (show Later w wz from hwz ▸ (LAT2.out.drewN nq))
            have OZ := Lib.hid (own_later HOWN.out (show Later wr0 wz from hwz ▸ (LATI.out.drewN nq)))
            rw [← hwz]
            clear hwz
            have e0 := (CX0.out.later LZ.out).drew.out
            have e1 := (CX1.out.later LZ.out).drew.out
            have e2 := (CX2.out.later LZ.out).drew.out
            have hjw : IntKind.u64.wrap (j : Int) = (j : Int) := by rw [IntKind.wrap_u64]; omega
            have hii1 : (0 : Int) ≤ (i : Int) := by omega
            have hii2 : (i : Int) < (m : Int) := by omega
            first
              | go_region_law (first
                  | (go_simp; go_at_call 36; refine (refPut_makes j (by omega) _).mono ?_; intro e w3 h; obtain ⟨P3, p3, rfl, q3, b3, m3, n3, l3⟩ := h.gives; have Q3 := Lib.hid q3; have N3 := Lib.hid n3; have L3 := Lib.hid (LZ.out.drew.trans l3); have O3 := Lib.hid (own_later OZ.out.drew l3); have e0 := (CX0.out.later L3.out).out; have e1 := (CX1.out.later L3.out).out; have e2 := (CX2.out.later L3.out).out; clear h q3 b3 m3 n3 l3)
                  | (refine step_append_rd (by rfl) (.tmp 82) (.tmp 85) 22 (by rfl) w.heap.size 5 (.int .u8 0) 1 Tryz.underlying22 info_u8 rfl _ n (ints .u8 pre) (by rfl) O3.out _ P3 (putNum j).length p3 (ints .u8 (putNum j)) (by rfl) Q3.out ?_ N3.out (ints_one _ _) ?_ ?_ ?_ ?_; (rw [ints_length]); (have h1 := HNL.out; have h2 := putNum_le j; unfold maxLen; omega); (have h1 := HNL.out; have h2 := putNum_le j; omega); (exact L3.out.size); intro A4 c4 w4 o4 g4 b4 n4; have O4 := Lib.hid o4; have L4 := Lib.hid (Later.of (L3.out.below.trans b4)); have e0 := (CX0.out.later L4.out).out; have e1 := (CX1.out.later L4.out).out; have e2 := (CX2.out.later L4.out).out; clear o4 g4 b4 n4)
                  | (go_simp; go_at_call 35; refine (refOne_any tx ix sx _ HT.out HMX.out HIX.out).mono ?_; rintro e w5 ⟨P5, p5, rfl, q5, b5, m5, n5, l5⟩; have Q5 := Lib.hid q5; have N5 := Lib.hid n5; have L5 := Lib.hid (L4.out.trans l5); have O5 := Lib.hid (own_later O4.out l5); have e0 := (CX0.out.later L5.out).out; have e1 := (CX1.out.later L5.out).out; have e2 := (CX2.out.later L5.out).out; clear q5 b5 m5 n5 l5)
                  | (refine step_append_rd (by rfl) (.tmp 86) (.tmp 91) 22 (by rfl) w.heap.size 5 (.int .u8 0) 1 Tryz.underlying22 info_u8 rfl _ (n + (putNum j).length) (ints .u8 pre ++ ints .u8 (putNum j)) (by rfl) O5.out _ P5 (oneB tx ix sx).length p5 (ints .u8 (oneB tx ix sx)) (by rfl) Q5.out ?_ N5.out (ints_one _ _) ?_ ?_ ?_ ?_; (rw [ints_length]); (have h1 := HNL.out; have h2 := putNum_le j; have h3 := oneB_le HMX.out; unfold maxLen; omega); (have h1 := HNL.out; have h2 := putNum_le j; have h3 := oneB_le HMX.out; omega); (exact L5.out.size); intro A6 c6 w6 o6 g6 b6 n6; have O6 := Lib.hid o6; have N6 := Lib.hid n6; have L6 := Lib.hid (Later.of (L5.out.below.trans b6)); clear o6 g6 b6 n6))
              | fail "no walk"
            all_goals try simp [Act.put]
            all_goals go_wp2_with fail
            all_goals go_roundw
            all_goals first
              | exact EInv.mk A6 c6 _ (pre ++ putNum j ++ oneB tx ix sx) (i + j) _ (by rw [List.length_append, List.length_append, HN.out]) (by have := HP.out; omega) HIJ2.out (by rw [ints_snoc, ints_snoc]; exact O6.out) N6.out HNEXT.out L6.out
              | omega
              | (simp only [intOf]; omega)
              | (simp [intOf]; omega)
        · have hK : j = runX x r + 1 := by have := HRL.out; omega
          have HNEXT := Lib.hid (HCATJ.out hK)
          have HIJ2 := Lib.hid (HIJ.out hK)
          obtain ⟨tx, ix, sx⟩ := x
          dsimp only at c0 c1 c2 hx1 hx2 HIX HNEXT
          subst hx1
          have HMX := Lib.hid hx2
          have CX0 := Lib.hid (show CellIs w ⟨b, off + i * 3, none⟩ (.int .i64 tx) from c0)
          have CX1 := Lib.hid (show CellIs w ⟨b, off + i * 3 + 1, none⟩ (.int .i64 ix) from c1)
          have CX2 := Lib.hid (show CellIs w ⟨b, off + i * 3 + 2, none⟩ (.string sx) from c2)
          have hd : decide ((p : Int) < (m : Int)) = false := decide_eq_false (by omega)
          clear hK c0 c1 c2 hx2 hp hmem
          go_wp2_with fail
          go_quiet (fail)
          rename_i nq
          go_wp2_with fail
          obtain ⟨wz, hwz⟩ : ∃ wz, wz = wr.drewN nq := ⟨_, rfl⟩
          have LZ := Lib.hid (show Later w wz from hwz ▸ (LAT2.out.drewN nq))
          have OZ := Lib.hid (own_later HOWN.out (show Later wr0 wz from hwz ▸ (LATI.out.drewN nq)))
          rw [← hwz]
          clear hwz
          have e0 := (CX0.out.later LZ.out).drew.out
          have e1 := (CX1.out.later LZ.out).drew.out
          have e2 := (CX2.out.later LZ.out).drew.out
          have hjw : IntKind.u64.wrap (j : Int) = (j : Int) := by rw [IntKind.wrap_u64]; omega
          have hii1 : (0 : Int) ≤ (i : Int) := by omega
          have hii2 : (i : Int) < (m : Int) := by omega
          first
            | go_region_law (first
                | (go_simp; go_at_call 36; refine (refPut_makes j (by omega) _).mono ?_; intro e w3 h; obtain ⟨P3, p3, rfl, q3, b3, m3, n3, l3⟩ := h.gives; have Q3 := Lib.hid q3; have N3 := Lib.hid n3; have L3 := Lib.hid (LZ.out.drew.trans l3); have O3 := Lib.hid (own_later OZ.out.drew l3); have e0 := (CX0.out.later L3.out).out; have e1 := (CX1.out.later L3.out).out; have e2 := (CX2.out.later L3.out).out; clear h q3 b3 m3 n3 l3)
                | (refine step_append_rd (by rfl) (.tmp 82) (.tmp 85) 22 (by rfl) w.heap.size 5 (.int .u8 0) 1 Tryz.underlying22 info_u8 rfl _ n (ints .u8 pre) (by rfl) O3.out _ P3 (putNum j).length p3 (ints .u8 (putNum j)) (by rfl) Q3.out ?_ N3.out (ints_one _ _) ?_ ?_ ?_ ?_; (rw [ints_length]); (have h1 := HNL.out; have h2 := putNum_le j; unfold maxLen; omega); (have h1 := HNL.out; have h2 := putNum_le j; omega); (exact L3.out.size); intro A4 c4 w4 o4 g4 b4 n4; have O4 := Lib.hid o4; have L4 := Lib.hid (Later.of (L3.out.below.trans b4)); have e0 := (CX0.out.later L4.out).out; have e1 := (CX1.out.later L4.out).out; have e2 := (CX2.out.later L4.out).out; clear o4 g4 b4 n4)
                | (go_simp; go_at_call 35; refine (refOne_any tx ix sx _ HT.out HMX.out HIX.out).mono ?_; rintro e w5 ⟨P5, p5, rfl, q5, b5, m5, n5, l5⟩; have Q5 := Lib.hid q5; have N5 := Lib.hid n5; have L5 := Lib.hid (L4.out.trans l5); have O5 := Lib.hid (own_later O4.out l5); have e0 := (CX0.out.later L5.out).out; have e1 := (CX1.out.later L5.out).out; have e2 := (CX2.out.later L5.out).out; clear q5 b5 m5 n5 l5)
                | (refine step_append_rd (by rfl) (.tmp 86) (.tmp 91) 22 (by rfl) w.heap.size 5 (.int .u8 0) 1 Tryz.underlying22 info_u8 rfl _ (n + (putNum j).length) (ints .u8 pre ++ ints .u8 (putNum j)) (by rfl) O5.out _ P5 (oneB tx ix sx).length p5 (ints .u8 (oneB tx ix sx)) (by rfl) Q5.out ?_ N5.out (ints_one _ _) ?_ ?_ ?_ ?_; (rw [ints_length]); (have h1 := HNL.out; have h2 := putNum_le j; have h3 := oneB_le HMX.out; unfold maxLen; omega); (have h1 := HNL.out; have h2 := putNum_le j; have h3 := oneB_le HMX.out; omega); (exact L5.out.size); intro A6 c6 w6 o6 g6 b6 n6; have O6 := Lib.hid o6; have N6 := Lib.hid n6; have L6 := Lib.hid (Later.of (L5.out.below.trans b6)); clear o6 g6 b6 n6))
            | fail "no walk"
          all_goals try simp [Act.put]
          all_goals go_wp2_with fail
          all_goals go_roundw
          all_goals first
            | exact EInv.mk A6 c6 _ (pre ++ putNum j ++ oneB tx ix sx) (i + j) _ (by rw [List.length_append, List.length_append, HN.out]) (by have := HP.out; omega) HIJ2.out (by rw [ints_snoc, ints_snoc]; exact O6.out) N6.out HNEXT.out L6.out
            | omega
            | (simp only [intOf]; omega)
            | (simp [intOf]; omega)
    · have hie : i = m := by have := HIL.out; have := HML.out; omega
      have HIE := Lib.hid hie
      have HPRE := Lib.hid (show pre = rleB l by
        have h := HCAT.out
        rw [List.drop_of_length_le (by have := HML.out; omega), rleB_nil, List.append_nil] at h
        exact h)
      clear hie
      go_wp2_with fail
      go_ret2
      refine ⟨B, cb, ?_, ?_, HNIL.out, HLAT.out⟩
      · rw [← HPRE.out, ← HN.out]; rfl
      · rw [← HPRE.out, ← HN.out]; exact HOWN.out
end Go.Proofs.YtldalkhmbpkjpaaGreatDoor

/- The walk of the reference's read of rle. -/

namespace Go.Proofs.YtldalkhmbpkjpaaGreatDoor
open Go.RowKit
set_option linter.unusedVariables false

/-- Runs as far as they go, so many values, and what stands behind. -/
def readLQ (t : Int) : Nat → Nat → List Nat → Option (List Val3 × List Nat)
  | _, 0, b => some ([], b)
  | 0, _ + 1, _ => none
  | f + 1, m + 1, b => match runS t (m + 1) b with
    | some (u, i, s, z) => (readLQ t f (m + 1 - u) (b.drop z)).map fun p => (List.replicate u (t, i, bstr s) ++ p.1, p.2)
    | none => none
theorem readLQ_none {t : Int} {f m : Nat} {b : List Nat} (hm : 0 < m) (h : runS t m b = none) : readLQ t (f + 1) m b = none := by
  obtain ⟨m, rfl⟩ : ∃ k, m = k + 1 := ⟨m - 1, by omega⟩
  unfold readLQ; rw [h]
theorem readLQ_some {t : Int} {f m : Nat} {b : List Nat} {u z : Nat} {i : Int} {s : List Nat} (hm : 0 < m) (h : runS t m b = some (u, i, s, z)) : readLQ t (f + 1) m b = (readLQ t f (m - u) (b.drop z)).map fun p => (List.replicate u (t, i, bstr s) ++ p.1, p.2) := by
  obtain ⟨m, rfl⟩ : ∃ k, m = k + 1 := ⟨m - 1, by omega⟩
  conv => lhs; unfold readLQ
  rw [h]
theorem readLQ_is {t : Int} (ht : 1 ≤ t ∧ t ≤ 4) : ∀ (f m : Nat) (b : List Nat), (∀ x ∈ b, x < 256) → ∀ l r, readLQ t f m b = some (l, r) → OkL t l ∧ All64 l ∧ l.length = m
  | f, 0, b, _, l, r, h => by
    have h' : some ([], b) = some (l, r) := by cases f <;> exact h
    cases h'; exact ⟨(fun x hx => by cases hx), (fun x hx => by cases hx), rfl⟩
  | 0, m + 1, b, _, l, r, h => by cases h
  | f + 1, m + 1, b, hb, l, r, h => by
    unfold readLQ at h
    split at h
    · rename_i u i s z hS
      obtain ⟨h1, h2, _, _, h5, h6⟩ := runS_is ht hb hS
      cases hr : readLQ t f (m + 1 - u) (b.drop z) with
      | none => rw [hr] at h; cases h
      | some p =>
        obtain ⟨l', r'⟩ := p
        rw [hr] at h
        cases h
        obtain ⟨g1, g2, g3⟩ := readLQ_is ht f _ _ (fun x hx => hb x (List.mem_of_mem_drop hx)) l' r' hr
        refine ⟨?_, ?_, by rw [List.length_append, List.length_replicate, g3]; omega⟩
        · intro x hx
          rcases List.mem_append.1 hx with hx | hx
          · rw [(List.mem_replicate.1 hx).2]; exact ⟨rfl, h5⟩
          · exact g1 x hx
        · intro x hx
          rcases List.mem_append.1 hx with hx | hx
          · rw [(List.mem_replicate.1 hx).2]; exact h6
          · exact g2 x hx
    · cases h
/-- What readR has, readLQ has. -/
theorem readLQ_of {t : Int} (ht : 1 ≤ t ∧ t ≤ 4) : ∀ (f g m : Nat) (last : Option Val3) (b : List Nat), (∀ x ∈ b, x < 256) → m ≤ g → ∀ l, readR t f m last b = some l → readLQ t g m b = some (l, [])
  | f, g, m, last, [], _, _, l, h => by
    have h' : (if m = 0 then some [] else none) = some l := by cases f <;> exact h
    split at h'
    · rename_i h0
      subst h0
      cases h'
      cases g <;> rfl
    · cases h'
  | 0, g, m, last, _ :: _, _, _, l, h => by cases h
  | f + 1, g, m, last, c :: b, hb, hg, l, h => by
    unfold readR at h
    split at h
    · rename_i u k hT
      split at h
      · rename_i hu
        split at h
        · rename_i i s j hC
          split at h
          · cases h
          · cases hr : readR t f (m - u) (some (t, i, bstr s)) ((c :: b).drop (k + j)) with
            | none => rw [hr] at h; cases h
            | some l' =>
              rw [hr] at h
              cases h
              obtain ⟨g, rfl⟩ : ∃ q, g = q + 1 := ⟨g - 1, by omega⟩
              rw [readLQ_some (by omega) (runS_yes hT hu hC), readLQ_of ht f g (m - u) _ _ (fun x hx => hb x (List.mem_of_mem_drop hx)) (by omega) l' hr]
              rfl
        · cases h
      · cases h
    · cases h
/-- The document's answer: what is read, if its bytes are just these. -/
theorem takeL_readLQ {t : Int} (ht : 1 ≤ t ∧ t ≤ 4) {n : Nat} (hn : n ≤ 1000) {b : List Nat} (h256 : ∀ x ∈ b, x < 256) : takeL t n b = (match readLQ t n n b with | some (l, _) => if rleB l = b then some l else none | none => none) := by
  unfold takeL
  rw [if_pos ⟨ht, by omega, by omega⟩, show ((n : Nat) : Int).toNat = n from rfl]
  cases hq : readLQ t n n b with
  | none =>
    cases hr : readR t b.length n none b with
    | none => rfl
    | some l => rw [readLQ_of ht _ n n none b h256 (Nat.le_refl _) l hr] at hq; cases hq
  | some p =>
    obtain ⟨l, r⟩ := p
    simp only
    obtain ⟨h1, h2, h3⟩ := readLQ_is ht n n b h256 l r hq
    by_cases hb : rleB l = b
    · rw [if_pos hb]
      subst hb
      rw [← h3]
      exact readR_put ht _ l none (by omega) h1 h2 (fun x _ e => by cases e) (Nat.le_refl _)
    · rw [if_neg hb]
      cases hr : readR t b.length n none b with
      | none => rfl
      | some l' =>
        have hq2 := readLQ_of ht _ n n none b h256 (Nat.le_refl _) l' hr
        rw [hq] at hq2
        cases hq2
        exact absurd (readR_is ht _ _ _ _ h256 _ hr).2.2.2.1 hb
end Go.Proofs.YtldalkhmbpkjpaaGreatDoor

/- The walk of the reference's read of rle. -/

namespace Go.Proofs.YtldalkhmbpkjpaaGreatDoor
open Go.RowKit
set_option linter.unusedVariables false

def QInv (o : Option (List Val3 × List Nat)) (t : Int) (n : Nat) (w : World) (lv bv : Value) (wr : World) : Prop :=
  ∃ (L : Option Addr) (cl : Nat) (done : List Val3) (B : Option Addr) (cb : Nat) (rest : List Nat), lv = .slice L done.length cl ∧ bv = .slice B rest.length cb ∧ wr.ownsRow w.heap.size 26 3 (.slice L done.length cl) done.length (fl done) ∧ done.length ≤ n ∧ Has w B (ints .u8 rest) ∧ (∀ x ∈ rest, x < 256) ∧ rest.length ≤ 1000000 ∧ rest.length ≤ cb ∧ cb ≤ 9223372036854775807 ∧ (∃ f, n - done.length ≤ f ∧ o = (readLQ t f (n - done.length) rest).map (fun p => (done ++ p.1, p.2))) ∧ Later w wr
theorem QInv.mk {o : Option (List Val3 × List Nat)} {t : Int} {n : Nat} {w wr : World} (L : Option Addr) (cl m : Nat) (done : List Val3) (B : Option Addr) (cb mb : Nat) (rest : List Nat) (hm : m = done.length) (hmb : mb = rest.length) (h1 : wr.ownsRow w.heap.size 26 3 (.slice L m cl) m (fl done)) (h3 : done.length ≤ n) (h4 : Has w B (ints .u8 rest)) (h5 : ∀ x ∈ rest, x < 256) (h6 : rest.length ≤ 1000000) (h7 : rest.length ≤ cb) (h8 : cb ≤ 9223372036854775807) (h9 : ∃ f, n - done.length ≤ f ∧ o = (readLQ t f (n - done.length) rest).map (fun p => (done ++ p.1, p.2))) (h10 : Later w wr) : QInv o t n w (.slice L m cl) (.slice B mb cb) wr := by
  subst hm hmb
  exact ⟨L, cl, done, B, cb, rest, rfl, rfl, h1, h3, h4, h5, h6, h7, h8, h9, h10⟩
def RInU (done : List Val3) (u : Nat) (v : Val3) (base g3 : Nat) (w : World) (lv iv : Value) (wi : World) : Prop :=
  ∃ (L : Option Addr) (cl j : Nat), lv = .slice L (done ++ List.replicate j v).length cl ∧ iv = .int .u64 (j : Int) ∧ j ≤ u ∧ wi.ownsRow base 26 3 (.slice L (done ++ List.replicate j v).length cl) (done ++ List.replicate j v).length (fl (done ++ List.replicate j v)) ∧ (Value.slice L (done ++ List.replicate j v).length cl).ownBlock ≠ some g3 ∧ Blk wi g3 #[.int .i64 v.1, .int .i64 v.2.1, .string v.2.2] 26 ∧ Later w wi
theorem RInU.mk {done : List Val3} {u : Nat} {v : Val3} {base g3 : Nat} {w wi : World} (L : Option Addr) (cl m j : Nat) (jj : Int) (hm : m = (done ++ List.replicate j v).length) (hj : jj = (j : Int)) (h1 : j ≤ u) (h2 : wi.ownsRow base 26 3 (.slice L m cl) m (fl (done ++ List.replicate j v))) (h3 : (Value.slice L m cl).ownBlock ≠ some g3) (h4 : Blk wi g3 #[.int .i64 v.1, .int .i64 v.2.1, .string v.2.2] 26) (h5 : Later w wi) : RInU done u v base g3 w (.slice L m cl) (.int .u64 jj) wi := by
  subst hm hj
  exact ⟨L, cl, j, rfl, rfl, h1, h2, h3, h4, h5⟩
theorem takeOne_n (t : Int) (ht : 1 ≤ t ∧ t ≤ 4) (A : Option Addr) (m c : Nat) (b : List Nat) (w : World) (hm : m = b.length) (hr : Has w A (ints .u8 b)) (h256 : ∀ x ∈ b, x < 256) (hb : b.length ≤ 1000000) (hbc : b.length ≤ c) (hc : c ≤ 9223372036854775807) :
    Calls Tryz.prog 65 #[.int .i64 t, .slice A m c] w (TakesO (takeC t b) t w) := by
  subst hm; exact takeOne_any t ht A c b w hr h256 hb hbc hc

/-- What read tells, the room too. -/
def ReadsQL (o : Option (List Val3 × List Nat)) (w : World) (e : Ending) (w' : World) : Prop :=
  ((o = none ∧ e = .returned (.tuple #[.slice none 0 0, .bool false])) ∨
    ∃ l r L cl, o = some (l, r) ∧ e = .returned (.tuple #[.slice L l.length cl, .bool true]) ∧ Has w' L (fl l) ∧ l.length ≤ cl ∧ cl ≤ 9223372036854775807) ∧ Later w w'
set_option maxRecDepth 100000 in
set_option maxHeartbeats 2000000 in
theorem refReadL_any (t : Int) (n : Nat) (A : Option Addr) (c : Nat) (b : List Nat) (w : World) (ht : 1 ≤ t ∧ t ≤ 4) (hn : n ≤ 1000) (hr : Has w A (ints .u8 b)) (h256 : ∀ x ∈ b, x < 256) (hb : b.length ≤ 1000000) (hbc : b.length ≤ c) (hc : c ≤ 9223372036854775807) :
    Calls Tryz.prog 48 #[.int .i64 2, .int .i64 t, .int .i64 n, .slice A b.length c] w (ReadsQL (readLQ t n n b) w) := by
  obtain ⟨o, ho⟩ : ∃ o, o = readLQ t n n b := ⟨_, rfl⟩
  rw [← ho]
  have HT := Lib.hid ht
  have REL := Lib.hid (show ∃ f, n - 0 ≤ f ∧ o = (readLQ t f (n - 0) b).map (fun p => ([] ++ p.1, p.2)) from ⟨n, by omega, by rw [ho, Nat.sub_zero]; cases readLQ t n n b <;> rfl⟩)
  clear ht ho
  go_enter Tryz.func48, Tryz.ntmps48
  go_wp2_with fail
  go_loopw [10, 3] (fun lv bv wr => QInv o t n w lv bv wr) (fun lv _ _ => n - lenOf lv)
  case atStart => exact QInv.mk none 0 0 [] A c _ b rfl rfl (ownG_nil _ _ _ _) (Nat.zero_le _) hr h256 hb hbc hc REL.out (Later.refl _)
  case round =>
    obtain ⟨L, cl, done, B, cb, rest, rfl, rfl, hown, hdn, hrest, hr256, hrl, hrc, hcb, ⟨f, hf, hrel⟩, lat⟩ := hrel
    clear hr h256 hb hbc hc REL
    obtain ⟨kk, hk⟩ : ∃ k, k = done.length := ⟨_, rfl⟩
    obtain ⟨m, hm⟩ : ∃ m, m = rest.length := ⟨_, rfl⟩
    have HDL := Lib.hid hk
    have HML := Lib.hid hm
    have HTN := Lib.hid (refTake_num B m cb rest wr hm hrc (hrest.later lat) hr256 hrl)
    rw [← hk] at hown hdn hrel hf ⊢
    rw [← hm] at hrl hrc ⊢
    have HOWN := Lib.hid hown
    have HREST := Lib.hid hrest
    have H256 := Lib.hid hr256
    have HREL := Lib.hid hrel
    have HF := Lib.hid hf
    have HLAT := Lib.hid lat
    clear hown hrest hr256 hrel lat hk hm hf
    by_cases hlt : kk < n
    · obtain ⟨mm, hmm⟩ : ∃ mm, mm = n - kk := ⟨_, rfl⟩
      have hsub : (n : Int) - (kk : Int) = (mm : Int) := by omega
      have hmm0 : 0 < mm := by omega
      have hmm1 : mm ≤ 1000 := by omega
      have hmw : IntKind.u64.wrap (mm : Int) = (mm : Int) := by rw [IntKind.wrap_u64]; omega
      have hmw2 : IntKind.u64.wrap ((n : Int) - (kk : Int)) = (mm : Int) := by rw [hsub]; exact hmw
      obtain ⟨f', hf'⟩ : ∃ q, f = q + 1 := ⟨f - 1, by have := HF.out; omega⟩
      subst hf'
      have HMM := Lib.hid hmm
      have HREL := Lib.hid (show o = (readLQ t (f' + 1) mm rest).map (fun p => (done ++ p.1, p.2)) by rw [hmm]; exact HREL.out)
      have HNO := Lib.hid (fun (h : runS t mm rest = none) => (show o = none by rw [HREL.out, readLQ_none hmm0 h]; rfl))
      clear hmm
      go_wp2_with fail
      refine HTN.out.mono ?_
      rintro e w2 ⟨u, k, ok, hT0, rfl, b2⟩
      have l2 : Later wr w2 := Later.of b2
      have HL2 := Lib.hid (HLAT.out.trans l2)
      have OWN2 := Lib.hid (own_later HOWN.out l2)
      clear b2 l2 HTN
      rcases takeR_some hT0 with ⟨rfl, hT⟩ | ⟨rfl, hT⟩
      · obtain ⟨hu64, hk2, hk3⟩ := takeNum_is H256.out hT
        have hkb : k ≤ m := by rw [HML.out, hk2]; exact hk3.length_le
        have hkpos : 0 < k := by rw [hk2]; exact putNum_pos u
        have hk10 : k ≤ 10 := by rw [hk2]; exact putNum_le u
        have HTT := Lib.hid hT
        clear hT hT0 hk2 hk3
        by_cases hu : 1 ≤ u ∧ u ≤ mm
        · have hq0 : ¬ u = 0 := by omega
          have hq2 : ¬ mm < u := by omega
          have D256 := Lib.hid (fun x (hx : x ∈ rest.drop k) => H256.out x (List.mem_of_mem_drop hx))
          have hdl : (rest.drop k).length = m - k := by rw [List.length_drop, ← HML.out]
          obtain ⟨bb, off, rfl⟩ : ∃ bb off, B = some ⟨bb, off, none⟩ := by
            rcases HREST.out with h | ⟨bb, off, h, _⟩
            · have : rest.length = 0 := by have := congrArg List.length h; rw [ints_length] at this; exact this
              have := HML.out; omega
            · exact ⟨bb, off, h⟩
          by_cases hck : cb = k
          · have h1 : k = cb := hck.symm
            have hkm : k = m := by omega
            have hd0 : rest.drop k = [] := List.drop_of_length_le (by have := HML.out; omega)
            have HTK := Lib.hid (takeOne_n t HT.out (some ⟨bb, off, none⟩) 0 0 (rest.drop k) w2 (by rw [hd0]; rfl) (by rw [hd0]; exact Has.nil_) D256.out (by rw [hd0]; decide) (by rw [hd0]; decide) (by decide))
            have HC0 := Lib.hid (show takeC t (rest.drop k) = none by
              rw [hd0]
              have := HT.out
              obtain rfl | rfl | rfl | rfl : t = 1 ∨ t = 2 ∨ t = 3 ∨ t = 4 := by omega
              all_goals rfl)
            have HO := Lib.hid (HNO.out (runS_no HTT.out HC0.out))
            clear hck hd0 hdl
            subst h1
            subst hkm
            go_wp2_with fail
            refine HTK.out.mono ?_
            rintro e w3 ⟨⟨hC, t', i', n', s', rfl⟩ | ⟨i, s, j, hC, rfl⟩, l3⟩
            · have HL3 := Lib.hid (HL2.out.trans l3)
              clear hC l3 HTK
              go_wp2_with fail
              go_ret2
              exact ⟨.inl ⟨HO.out, rfl⟩, HL3.out.alloc _⟩
            · exfalso
              have := HC0.out
              rw [hC] at this
              cases this
          · have HTK := Lib.hid (takeOne_n t HT.out (some ⟨bb, off + k, none⟩) (m - k) (cb - k) (rest.drop k) w2 hdl.symm (by have h := ((HREST.out.later HL2.out).drop k); rw [show (ints .u8 rest).drop k = ints .u8 (rest.drop k) by simp [ints, List.map_drop]] at h; exact h) D256.out (by omega) (by omega) (by omega))
            have hi1 : (0 : Int) ≤ (k : Int) := by omega
            have hi2 : (k : Int) ≤ (m : Int) := by omega
            have hi3 : (m : Int) ≤ (cb : Int) := by omega
            clear hdl
            go_wp2_with fail
            refine HTK.out.mono ?_
            rintro e w3 ⟨⟨hC, t', i', n', s', rfl⟩ | ⟨i, s, j, hC, rfl⟩, l3⟩
            · have HO := Lib.hid (HNO.out (runS_no HTT.out hC))
              have HL3 := Lib.hid (HL2.out.trans l3)
              clear hC l3 HTK
              go_wp2_with fail
              go_ret2
              exact ⟨.inl ⟨HO.out, rfl⟩, HL3.out.alloc _⟩
            · have hS := runS_yes (t := t) HTT.out hu hC
              obtain ⟨z, hz⟩ : ∃ z, z = k + j := ⟨_, rfl⟩
              rw [← hz] at hS
              obtain ⟨hu1, hum, hz1, hzl, hmay, hi64⟩ := runS_is HT.out H256.out hS
              rw [← HML.out] at hzl
              have hzi : (k : Int) + (j : Int) = (z : Int) := by omega
              have hzw : IntKind.i64.wrap ((k : Int) + (j : Int)) = (z : Int) := by rw [hzi]; exact IntWalk.i64_in _ ⟨by omega, by omega⟩
              have hz2 : (0 : Int) ≤ (z : Int) := by omega
              have hz3 : (z : Int) ≤ (m : Int) := by omega
              obtain ⟨S, hSS⟩ : ∃ S, S = bstr s := ⟨_, rfl⟩
              obtain ⟨rd, hrd⟩ : ∃ rd, rd = rest.drop z := ⟨_, rfl⟩
              have HSTEP := Lib.hid (show o = ((readLQ t f' (mm - u) rd).map fun p => (List.replicate u (t, i, S) ++ p.1, p.2)).map (fun p => (done ++ p.1, p.2)) by
                rw [HREL.out, readLQ_some hmm0 hS, hSS, hrd])
              rw [← hSS]
              have HDRL := Lib.hid (show rd.length = m - z by rw [hrd, List.length_drop, ← HML.out])
              have HD256 := Lib.hid (show ∀ x ∈ rd, x < 256 from fun x hx => H256.out x (by rw [hrd] at hx; exact List.mem_of_mem_drop hx))
              have HRD := Lib.hid (show Has w (some ⟨bb, off + z, none⟩) (ints .u8 rd) from by have h := HREST.out.drop z; rw [show (ints .u8 rest).drop z = ints .u8 (rest.drop z) by simp [ints, List.map_drop], ← hrd] at h; exact h)
              have hu1000 : u ≤ 1000 := by omega
              have HLEN := Lib.hid (show (done ++ List.replicate u (t, i, S)).length ≤ n by rw [List.length_append, List.length_replicate, ← HDL.out]; have := HMM.out; omega)
              have HRELN := Lib.hid (show ∃ f, n - (done ++ List.replicate u (t, i, S)).length ≤ f ∧ o = (readLQ t f (n - (done ++ List.replicate u (t, i, S)).length) rd).map (fun p => ((done ++ List.replicate u (t, i, S)) ++ p.1, p.2)) by
                have e1 : n - (done ++ List.replicate u (t, i, S)).length = mm - u := by rw [List.length_append, List.length_replicate, ← HDL.out]; have := HMM.out; omega
                refine ⟨f', by have := HF.out; rw [e1]; have := HMM.out; omega, ?_⟩
                rw [HSTEP.out, e1]
                cases readLQ t f' (mm - u) rd with
                | none => rfl
                | some p => simp)
              obtain ⟨wq, hwq⟩ : ∃ wq, wq = w3.alloc (.cells #[.int .i64 t, .int .i64 i, .string S] 26) := ⟨_, rfl⟩
              have l4 : Later w3 wq := hwq ▸ Later.new _ _
              have V3 : Blk wq w3.heap.size #[.int .i64 t, .int .i64 i, .string S] 26 := hwq ▸ Blk.new w3 _ _ _ rfl
              have OWN3 := own_later OWN2.out l3
              obtain ⟨g3, hg3⟩ : ∃ g3, g3 = w3.heap.size := ⟨_, rfl⟩
              have NB3 : (Value.slice L kk cl).ownBlock ≠ some g3 := fun e => by have := (OWN3.lt g3 e).2; omega
              rw [← hg3] at V3
              have HVQ := Lib.hid V3
              have HOWNQ := Lib.hid (own_later OWN3 l4)
              have HNBQ := Lib.hid NB3
              have HLQ := Lib.hid (HL2.out.trans (l3.trans l4))
              have HWQ := Lib.hid hwq
              have HG3 := Lib.hid hg3
              clear hC hS hz hSS hrd V3 OWN3 NB3 hwq hg3 l3 l4 HSTEP HTK hmay hi64
              go_wp2_with fail
              rw [← HWQ.out, ← HG3.out]
              go_loopw [10, 20] (fun lv iv wi => RInU done u (t, i, S) w.heap.size g3 w lv iv wi) (fun _ iv _ => u - (intOf iv).toNat)
              case atStart => exact RInU.mk (done := done) (u := u) (v := (t, i, S)) L cl kk 0 0 (by rw [List.replicate_zero, List.append_nil]; exact HDL.out) rfl (Nat.zero_le _) (by rw [List.replicate_zero, List.append_nil]; exact HOWNQ.out) HNBQ.out HVQ.out HLQ.out
              case round =>
                obtain ⟨L2, cl2, j, rfl, rfl, hju, hown2, hnb2, hv2, lat2⟩ := hrel
                by_cases hj : j < u
                · have v0 := hv2.cell 0 _ rfl
                  have v1 := hv2.cell 1 _ rfl
                  have v2 := hv2.cell 2 _ rfl
                  obtain ⟨m2, hm2⟩ : ∃ m2, m2 = (done ++ List.replicate j (t, i, S)).length := ⟨_, rfl⟩
                  rw [← hm2] at hown2 hnb2 ⊢
                  have hm2le : m2 ≤ 2000 := by rw [hm2, List.length_append, List.length_replicate]; have := HDL.out; omega
                  have HAS := Lib.hid ((Blk.new wr (fl [(t, i, S)]).toArray 26 _ rfl).has)
                  have O2 := Lib.hid (hown2.alloc (.cells (fl [(t, i, S)]).toArray 26))
                  have LT2 := Lib.hid (lat2.alloc (.cells (fl [(t, i, S)]).toArray 26))
                  have V2 := Lib.hid (hv2.later (Later.new wr (.cells (fl [(t, i, S)]).toArray 26)))
                  have NB2 := Lib.hid hnb2
                  have HM2 := Lib.hid hm2
                  have HREP := Lib.hid (show done ++ List.replicate (j + 1) (t, i, S) = (done ++ List.replicate j (t, i, S)) ++ [(t, i, S)] by rw [List.replicate_succ', List.append_assoc])
                  clear hown2 hnb2 hv2 lat2 hm2
                  go_wp2_with (at_builtin; refine wpList_append_h _ rfl (.tmp 91) (.tmp 93) 23 rfl w.heap.size 26 (vagg 0 0 ⟨#[]⟩) 3 32 Tryz.underlying23 info_v rfl (by decide) _ m2 (fl (done ++ List.replicate j (t, i, S))) rfl O2.out _ _ 1 1 (fl [(t, i, S)]) rfl HAS.out (by rfl) (fl_one _) (by unfold maxLen; omega) (by omega) LT2.out.size g3 V2.out.lt NB2.out ?_; intro A2 c2 w6 o2 b2 nb6 hv6; have HO2 := Lib.hid o2; have HB6 := Lib.hid b2; have NB6 := Lib.hid nb6; have V6 := Lib.hid (show Blk w6 g3 #[.int .i64 t, .int .i64 i, .string S] 26 from hv6.trans V2.out); clear o2 b2 nb6 hv6)
                  go_roundw
                  case rel => exact RInU.mk (done := done) (u := u) (v := (t, i, S)) A2 c2 _ (j + 1) _ (by rw [HREP.out, List.length_append, HM2.out]; rfl) (by omega) hj (by rw [HREP.out, fl_append]; exact HO2.out) NB6.out V6.out (Later.of (LT2.out.below.trans HB6.out))
                  case measure => simp [intOf]; omega
                · obtain rfl : j = u := by omega
                  obtain ⟨m2, hm2⟩ : ∃ m2, m2 = (done ++ List.replicate j (t, i, S)).length := ⟨_, rfl⟩
                  rw [← hm2] at hown2 hnb2 ⊢
                  have OZ := Lib.hid hown2
                  have LZ := Lib.hid lat2
                  have HM2 := Lib.hid hm2
                  have hm2k : m2 = kk + j := by rw [hm2, List.length_append, List.length_replicate, HDL.out]
                  clear hown2 hnb2 hv2 lat2 hm2
                  by_cases hcz : cb = z
                  · have h1 : z = cb := hcz.symm
                    subst h1
                    have hrd0 : rd = [] := List.eq_nil_of_length_eq_zero (by have := HDRL.out; omega)
                    have hml : m = z := by omega
                    have HF := Lib.hid (fun B' => QInv.mk (o := o) (t := t) (n := n) (w := w) (wr := wr) L2 cl2 m2 (done ++ List.replicate j (t, i, S)) B' 0 0 rd HM2.out (by rw [hrd0]; rfl) OZ.out HLEN.out (by rw [hrd0]; exact Has.nil_) HD256.out (by rw [hrd0]; exact Nat.zero_le _) (by rw [hrd0]; exact Nat.zero_le _) (by decide) HRELN.out LZ.out)
                    clear hrd0 hcz
                    subst hml
                    go_wp2_with fail
                    go_roundw
                    case rel => exact HF.out _
                    case measure => simp [lenOf]; omega
                  · have HF := Lib.hid (QInv.mk (o := o) (t := t) (n := n) (w := w) (wr := wr) L2 cl2 m2 (done ++ List.replicate j (t, i, S)) (some ⟨bb, off + z, none⟩) (cb - z) (m - z) rd HM2.out HDRL.out.symm OZ.out HLEN.out HRD.out HD256.out (by have := HDRL.out; omega) (by have := HDRL.out; omega) (by omega) HRELN.out LZ.out)
                    go_wp2_with fail
                    go_roundw
                    case rel => exact HF.out
                    case measure => simp [lenOf]; omega
        · have HO := Lib.hid (HNO.out (runS_not HTT.out hu))
          by_cases hu1 : u = 0
          · subst hu1
            clear hu
            go_wp2_with fail
            go_ret2
            exact ⟨.inl ⟨HO.out, rfl⟩, HL2.out⟩
          · have hq2 : mm < u := by omega
            clear hu
            go_wp2_with fail
            go_ret2
            exact ⟨.inl ⟨HO.out, rfl⟩, HL2.out⟩
      · have HO := Lib.hid (HNO.out (runS_none hT))
        clear hT hT0
        go_wp2_with fail
        go_ret2
        exact ⟨.inl ⟨HO.out, rfl⟩, HL2.out⟩
    · have hkn : kk = n := by omega
      have HO := Lib.hid (show o = some (done, rest) by
        have h := HREL.out
        rw [hkn, Nat.sub_self] at h
        rw [h]
        have : readLQ t f 0 rest = some ([], rest) := by cases f <;> rfl
        rw [this]
        show some (done ++ [], rest) = _
        rw [List.append_nil])
      have HHAS := Lib.hid (Has.ownG HOWN.out)
      have HCP := Lib.hid (And.intro (ownG_cap HOWN.out) (ownG_capmax HOWN.out))
      clear hkn
      go_wp2_with fail
      go_ret2
      refine ⟨.inr ⟨done, rest, L, cl, HO.out, ?_, HHAS.out, by have := HDL.out; have := HCP.out; omega⟩, HLAT.out⟩
      rw [← HDL.out]
      rfl
end Go.Proofs.YtldalkhmbpkjpaaGreatDoor

/- The walk of the reference's Decode of rle. -/

namespace Go.Proofs.YtldalkhmbpkjpaaGreatDoor
open Go.RowKit
set_option linter.unusedVariables false

theorem takeL_bad {t n : Int} {b : List Nat} (h : ¬ ((1 ≤ t ∧ t ≤ 4) ∧ 0 ≤ n ∧ n ≤ 1000)) : takeL t n b = none := by unfold takeL; rw [if_neg h]
theorem takeL_len {t n : Int} {b : List Nat} {l : List Val3} (h256 : ∀ x ∈ b, x < 256) (h : takeL t n b = some l) : l.length ≤ 1000 := by
  unfold takeL at h
  split at h
  · rename_i hc
    have := (readR_is hc.1 _ _ _ _ h256 _ h).2.2.1
    omega
  · cases h
theorem refEncL_any (t : Int) (A : Option Addr) (c : Nat) (l : List Val3) (w : World) (hl : l.length ≤ 2000) (hr : Has w A (fl l)) (h64 : All64 l) :
    Calls Tryz.prog 21 #[.int .i64 2, .int .i64 t, .slice A l.length c] w (PutsB (putL t l) w) := by
  unfold putL
  by_cases h : (1 ≤ t ∧ t ≤ 4) ∧ OkL t l
  · rw [if_pos h]; exact (refEncL_yes t A c l.length l w rfl h.1 hl hr h.2 h64).mono fun _ _ h => h.puts
  · rw [if_neg h]; exact refEnc_no 2 t A c l w hl hr h
theorem refEncL_own (t : Int) (A : Option Addr) (c : Nat) (l : List Val3) (pb : List Nat) (w : World) (hl : l.length ≤ 2000) (hr : Has w A (fl l)) (h64 : All64 l) (hp : putL t l = some pb) :
    Calls Tryz.prog 21 #[.int .i64 2, .int .i64 t, .slice A l.length c] w (OwnB pb w) := by
  obtain ⟨h1, h2, rfl⟩ := putL_is hp
  exact refEncL_yes t A c l.length l w rfl h1 hl hr h2 h64

set_option maxRecDepth 100000 in
set_option maxHeartbeats 1000000 in
theorem refDecL_yes (t : Int) (n : Nat) (A : Option Addr) (c : Nat) (b : List Nat) (w : World) (ht : 1 ≤ t ∧ t ≤ 4) (hn : n ≤ 1000) (hr : Has w A (ints .u8 b)) (h256 : ∀ x ∈ b, x < 256) (hb : b.length ≤ 1000000) (hbc : b.length ≤ c) (hc : c ≤ 9223372036854775807) :
    Calls Tryz.prog 26 #[.int .i64 2, .int .i64 t, .int .i64 n, .slice A b.length c] w (TakesV (takeL t n b) w) := by
  have HTL := Lib.hid (takeL_readLQ ht hn h256)
  have HQ := Lib.hid (readLQ_is ht n n b h256)
  obtain ⟨o, ho⟩ : ∃ o, o = takeL t (n : Int) b := ⟨_, rfl⟩
  rw [← ho] at HTL ⊢
  have HT := Lib.hid ht
  have HIT := Lib.hid (fun w => isType_any t w)
  have HRD := Lib.hid (fun w' (l : Later w w') => refReadL_any t n A c b w' ht hn (hr.later l) h256 hb hbc hc)
  have HR := Lib.hid hr
  have HB := Lib.hid h256
  clear ho ht hr h256
  have hn0 : ¬ (n : Int) < 0 := by omega
  have hn1 : ¬ (1000 : Int) < (n : Int) := by omega
  go_enter Tryz.func26, Tryz.ntmps26
  go_wp2_with fail
  refine (HIT.out w).mono ?_
  intro e w1 h
  obtain ⟨rfl, L1⟩ := TellsP.yes HT.out (SaysP.tells h)
  clear h
  go_wp2_with fail
  refine (HRD.out w1 L1).mono ?_
  rintro e w2 ⟨⟨hq, rfl⟩ | ⟨l, r, L, cl, hq, rfl, hl, hcap⟩, l2⟩
  · have HN := Lib.hid (show o = none by rw [HTL.out, hq])
    have L2 := L1.trans l2
    have HE := Lib.hid (refEncL_any t none 0 [] w2 (by simp) Has.nil_ (fun x hx => by cases hx))
    clear hq L1 l2 HTL HQ
    go_wp2_with fail
    refine HE.out.mono ?_
    rintro e w3 ⟨⟨_, rfl⟩ | ⟨l', C, cc, _, rfl, _, _, _, _⟩, l3⟩
    · go_wp2_with fail
      go_ret2
      exact ⟨.inl ⟨HN.out, rfl⟩, L2.trans l3⟩
    · go_wp2_with fail
      go_ret2
      exact ⟨.inl ⟨HN.out, rfl⟩, L2.trans l3⟩
  · have L2 := L1.trans l2
    obtain ⟨hok, h64, hlen⟩ := HQ.out l r hq
    have hd : ((l.length : Int) != (n : Int)) = false := by simp [hlen]
    have HE := Lib.hid (refEncL_any t L cl l w2 (by omega) hl h64)
    obtain ⟨pb, hpb⟩ := putL_some HT.out hok
    have HPB := Lib.hid hpb
    have HPL := Lib.hid (putL_lt (by omega) hok h64 hpb)
    have hcase : (pb = b ∧ o = some l) ∨ (pb ≠ b ∧ o = none) := by
      obtain ⟨_, _, hp⟩ := putL_is hpb
      have h := HTL.out
      rw [hq] at h
      simp only at h
      rw [← hp] at h
      by_cases e : pb = b
      · rw [if_pos e] at h; exact .inl ⟨e, h⟩
      · rw [if_neg e] at h; exact .inr ⟨e, h⟩
    have HL := Lib.hid hl
    have HCP := Lib.hid hcap
    have HLEN := Lib.hid hlen
    clear hcap
    clear hok h64 hlen hpb L1 l2 hl
    go_wp2_with fail
    refine HE.out.mono ?_
    intro e w3 h
    obtain ⟨C, cc, rfl, r3, _, _, _, l3⟩ := h.yes HPB.out
    have L3 := L2.trans l3
    have cv1 := conv_str C pb.length cc pb rfl w3 _ r3
    have cv2 := conv_str A b.length c b rfl w3 _ (HR.out.later L3)
    have HL3 := Lib.hid (HL.out.later l3)
    clear h HE l3 L2 r3
    rcases hcase with ⟨heq, ho⟩ | ⟨hne, ho⟩
    · have HS := Lib.hid ho
      subst heq
      clear hq HTL HQ ho
      go_wp2_with fail
      go_ret2
      exact ⟨.inr ⟨l, L, cl, HS.out, rfl, HL3.out, HCP.out⟩, L3⟩
    · have HS := Lib.hid ho
      have hbn := bstr_ne HPL.out HB.out hne
      clear hq HTL HQ hne ho
      go_wp2_with fail
      go_ret2
      exact ⟨.inl ⟨HS.out, rfl⟩, L3⟩

theorem refDecL_c (t n : Int) (A : Option Addr) (c : Nat) (b : List Nat) (w : World) (hr : Has w A (ints .u8 b)) (h256 : ∀ x ∈ b, x < 256) (hb : b.length ≤ 1000000) (hbc : b.length ≤ c) (hc : c ≤ 9223372036854775807) :
    Calls Tryz.prog 26 #[.int .i64 2, .int .i64 t, .int .i64 n, .slice A b.length c] w (TakesV (takeL t n b) w) := by
  by_cases h : (1 ≤ t ∧ t ≤ 4) ∧ 0 ≤ n ∧ n ≤ 1000
  · obtain ⟨m, rfl⟩ : ∃ m : Nat, n = (m : Int) := ⟨n.toNat, by omega⟩
    exact refDecL_yes t m A c b w h.1 (by omega) hr h256 hb hbc hc
  · rw [takeL_bad h]; exact (refDec_no 2 t n A _ c w h).mono fun _ _ h => ⟨.inl ⟨rfl, (h.no rfl).1⟩, (h.no rfl).2⟩
theorem refDecL_any (t n : Int) (A : Option Addr) (c : Nat) (b : List Nat) (w : World) (hr : Has w A (ints .u8 b)) (h256 : ∀ x ∈ b, x < 256) (hb : b.length ≤ 1000000) (hbc : b.length ≤ c) (hc : c ≤ 9223372036854775807) :
    Calls Tryz.prog 26 #[.int .i64 2, .int .i64 t, .int .i64 n, .slice A b.length c] w (PutsV (takeL t n b) w) :=
  (refDecL_c t n A c b w hr h256 hb hbc hc).mono fun _ _ h => h.puts
end Go.Proofs.YtldalkhmbpkjpaaGreatDoor
