/- The walk of the reference's Encode of rle. -/
import Derived.Test.YtifejanbgobngaaDoorRefL
import Derived.Test.YtifejanbgobngaaDoorRleW
import Derived.Test.YtifejanbgobngaaDoorBase
import Derived.BigQuiet
namespace Go.Proofs.YtifejanbgobngaaDoor
open Go.RowKit
set_option linter.unusedVariables false

def EInv (t : Int) (l : List Val3) (w : World) (bv iv : Value) (wr : World) : Prop :=
  ∃ (B : Option Addr) (cb : Nat) (pre : List Nat) (i : Nat), bv = .slice B pre.length cb ∧ iv = .int .i64 (i : Int) ∧ i ≤ l.length ∧ wr.ownsRow w.heap.size 5 1 (.slice B pre.length cb) pre.length (ints .u8 pre) ∧ (B = none → cb = 0) ∧ pre ++ rleB (l.drop i) = rleB l ∧ Later w wr
theorem EInv.mk {t : Int} {l : List Val3} {w wr : World} (B : Option Addr) (cb nb : Nat) (pre : List Nat) (i : Nat) (ii : Int) (hn : nb = pre.length) (hi : ii = (i : Int)) (h0 : i ≤ l.length) (h1 : wr.ownsRow w.heap.size 5 1 (.slice B nb cb) nb (ints .u8 pre)) (h2 : B = none → cb = 0) (h3 : pre ++ rleB (l.drop i) = rleB l) (h4 : Later w wr) : EInv t l w (.slice B nb cb) (.int .i64 ii) wr := by
  subst hn hi
  exact ⟨B, cb, pre, i, rfl, rfl, h0, h1, h2, h3, h4⟩

set_option maxRecDepth 100000 in
set_option maxHeartbeats 4000000 in
theorem refEncL_yes (t : Int) (A : Option Addr) (c m : Nat) (l : List Val3) (w : World) (hm : m = l.length) (ht : 1 ≤ t ∧ t ≤ 4) (hl : m ≤ 2000) (hr : Has w A (fl l)) (ho : OkL t l) (h64 : All64 l) :
    Calls Tryd.prog 15 #[.int .i64 2, .int .i64 t, .slice A m c] w (OwnB (rleB l) w) := by
  have HA := Lib.hid (refRight_any t A c l w (by omega) hr)
  rw [← hm] at HA
  have HT := Lib.hid ht
  have HOK := Lib.hid ho
  have H64 := Lib.hid h64
  have HHAS := Lib.hid hr
  have HML := Lib.hid hm
  have HTOT := Lib.hid (rleB_le ho)
  clear ht ho h64 hr hm
  go_enter Tryd.func15, Tryd.ntmps15
  go_wp2_with fail
  refine HA.out.mono ?_
  intro e w1 h
  obtain ⟨rfl, l1⟩ := h.yes ⟨HT.out, HOK.out⟩
  have L1 := Lib.hid l1
  clear h HA l1
  go_wp2_with fail
  go_loopw [8, 10] (fun bv iv wr => EInv t l w bv iv wr) (fun _ iv _ => m - (intOf iv).toNat)
  case atStart => exact EInv.mk none 0 0 [] 0 0 rfl rfl (Nat.zero_le _) (World.ownsRow_nil _ _ _ _) (fun _ => rfl) (by simp) L1.out
  case round =>
    obtain ⟨B, cb, pre, i, rfl, rfl, hil, hown, hnil, hcat, lat⟩ := hrel
    obtain ⟨n, hn⟩ : ∃ n, n = pre.length := ⟨_, rfl⟩
    rw [← hn] at hown ⊢
    have HIL := Lib.hid hil
    have HN := Lib.hid hn
    have HOWN := Lib.hid hown
    have HNIL := Lib.hid hnil
    have HCAT := Lib.hid hcat
    have HLAT := Lib.hid lat
    clear hil hn hown hnil hcat lat L1
    by_cases hlt : i < m
    · have hil : i < l.length := by have := HML.out; omega
      obtain ⟨x, hx⟩ : ∃ x, x = l[i] := ⟨_, rfl⟩
      obtain ⟨r, hr⟩ : ∃ r, r = l.drop (i + 1) := ⟨_, rfl⟩
      have HDR := Lib.hid (show l.drop i = x :: r by rw [hx, hr]; exact List.drop_eq_getElem_cons hil)
      have HX := Lib.hid hx
      have HR := Lib.hid hr
      have HRL := Lib.hid (show runX x r + i + 1 ≤ m by
        have h1 := runX_le x r
        have h2 : r.length = l.length - (i + 1) := by rw [hr, List.length_drop]
        have := HML.out
        omega)
      clear hx hr
      obtain ⟨wr0, hwr0⟩ : ∃ wr0, wr0 = wr := ⟨_, rfl⟩
      subst hwr0
      go_wp2_with fail
      go_loopw [11] (fun nv wi => ∃ j : Nat, nv = .int .i64 j ∧ 1 ≤ j ∧ j ≤ runX x r + 1 ∧ Later wr0 wi) (fun nv _ => m - (intOf nv).toNat)
      case atStart => exact ⟨1, rfl, by omega, by omega, Later.refl _⟩
      case round =>
        obtain ⟨j, rfl, hj1, hjR, lat2⟩ := hrel
        have LATI := Lib.hid lat2
        have LAT2 := Lib.hid (HLAT.out.trans lat2)
        clear lat2
        obtain ⟨p, hp⟩ : ∃ p, p = i + j := ⟨_, rfl⟩
        have HP := Lib.hid hp
        have hpi : (i : Int) + (j : Int) = (p : Int) := by omega
        have hp4 : p ≤ 4000 := by have := HRL.out; omega
        have hpw : IntKind.i64.wrap (p : Int) = (p : Int) := IntWalk.i64_in _ ⟨by omega, by omega⟩
        have hpw2 : IntKind.i64.wrap ((i : Int) + (j : Int)) = (p : Int) := by rw [hpi]; exact hpw
        have hil : i < l.length := by have := HML.out; omega
        obtain ⟨b, off, hadr, c0, c1, c2⟩ := HHAS.out.val3 i hil
        subst hadr
        rw [show l[i] = x from HX.out.symm] at c0 c1 c2
        have hmem : x ∈ l := by rw [HX.out]; exact List.getElem_mem hil
        obtain ⟨hx1, hx2⟩ := HOK.out x hmem
        have HIX := Lib.hid (H64.out x hmem)
        have HRS := Lib.hid (fun (hpm : p < m) => (show (l[p]'(by have := HML.out; omega) = x ↔ j - 1 < runX x r) from by
          have hrl : r.length = l.length - (i + 1) := by rw [HR.out, List.length_drop]
          have h := runX_step (x := x) (l := r) (k := j - 1) (by omega) (by have := HML.out; omega)
          rw [← h]
          have : l[p]'(by have := HML.out; omega) = r[j - 1]'(by have := HML.out; omega) := by
            have e := HR.out
            subst e
            rw [List.getElem_drop]
            congr 1
            omega
          rw [this]))
        have HNL := Lib.hid (show n ≤ 62000 by
          have h1 := congrArg List.length HCAT.out
          have h2 := HTOT.out
          have h3 := HN.out
          have := HML.out
          rw [List.length_append] at h1
          omega)
        have HCATJ := Lib.hid (fun (hK : j = runX x r + 1) => (show (pre ++ putNum j ++ oneB x.1 x.2.1 x.2.2) ++ rleB (l.drop (i + j)) = rleB l from by
          rw [← HCAT.out, HDR.out, rleB_cons, ← hK, List.append_assoc, List.append_assoc, ← List.drop_drop, HDR.out, hK, List.drop_succ_cons]))
        have HIJ := Lib.hid (fun (hK : j = runX x r + 1) => (show i + j ≤ l.length by have := HRL.out; have := HML.out; omega))
        by_cases hpm : p < m
        · have hpl : p < l.length := by have := HML.out; omega
          obtain ⟨b', off', hadr, d0, d1, d2⟩ := HHAS.out.val3 p hpl
          obtain ⟨rfl, rfl⟩ : b = b' ∧ off = off' := by injection hadr with h; injection h with h1 h2; exact ⟨h1, h2⟩
          clear hadr
          obtain ⟨hy1, hy2⟩ := HOK.out _ (List.getElem_mem hpl)
          have HEQ := Lib.hid (HRS.out hpm)
          generalize l[p] = y at d0 d1 d2 hy1 hy2 HEQ
          obtain ⟨tx, ix, sx⟩ := x
          obtain ⟨ty, iy, sy⟩ := y
          dsimp only at c0 c1 c2 d0 d1 d2 hx1 hx2 hy1 hy2 HIX HCATJ
          subst hx1
          have hy1' := hy1.symm
          clear hy1
          subst hy1'
          have HMX := Lib.hid hx2
          have CX0 := Lib.hid (show CellIs w ⟨b, off + i * 3, none⟩ (.int .i64 tx) from c0)
          have CX1 := Lib.hid (show CellIs w ⟨b, off + i * 3 + 1, none⟩ (.int .i64 ix) from c1)
          have CX2 := Lib.hid (show CellIs w ⟨b, off + i * 3 + 2, none⟩ (.string sx) from c2)
          have a0 := LAT2.out.cell c0
          have a1 := LAT2.out.cell c1
          have a2 := LAT2.out.cell c2
          have b0 := LAT2.out.cell d0
          have b1 := LAT2.out.cell d1
          have b2 := LAT2.out.cell d2
          have hd : decide ((p : Int) < (m : Int)) = true := decide_eq_true (by omega)
          have hp1 : (0 : Int) ≤ (p : Int) := by omega
          have hp2 : (p : Int) < (m : Int) := by omega
          have hi1 : (0 : Int) ≤ (i : Int) := by omega
          have hi2 : (i : Int) < (m : Int) := by omega
          clear hx2 hy2 c0 c1 c2 d0 d1 d2 hp hmem
          by_cases hie : iy = ix
          · have hie' := hie.symm
            clear hie
            subst hie'
            by_cases hse : sy = sx
            · have hse' := hse.symm
              clear hse
              subst hse'
              have hjr : j - 1 < runX (tx, ix, sx) r := HEQ.out.1 rfl
              go_wp2_with fail
              go_quiet (fail)
              go_wp2_with fail
              go_roundw
              case rel => exact ⟨j + 1, by go_num, by omega, by omega, LATI.out.drewN _⟩
              case measure => simp [intOf]; omega
            · have ene := bytes_ne hse
              have hK : j = runX (tx, ix, sx) r + 1 := by
                have : ¬ j - 1 < runX (tx, ix, sx) r := fun h => hse (by have e := HEQ.out.2 h; injection e with _ e; injection e with _ e)
                omega
              have HNEXT := Lib.hid (HCATJ.out hK)
              have HIJ2 := Lib.hid (HIJ.out hK)
              have HKK := Lib.hid hK
              clear hK hse
              go_wp2_with fail
              go_quiet (fail)
              rename_i nq
              go_wp2_with fail
              obtain ⟨wz, hwz⟩ : ∃ wz, wz = wr.drewN nq := ⟨_, rfl⟩
              have LZ := Lib.hid (show Later w wz from hwz ▸ (LAT2.out.drewN nq))
              have OZ := Lib.hid (own_later HOWN.out (show Later wr0 wz from hwz ▸ (LATI.out.drewN nq)))
              rw [← hwz]
              clear hwz
              have e0 := (CX0.out.later LZ.out).drew.out
              have e1 := (CX1.out.later LZ.out).drew.out
              have e2 := (CX2.out.later LZ.out).drew.out
              have hjw : IntKind.u64.wrap (j : Int) = (j : Int) := by rw [IntKind.wrap_u64]; omega
              have hii1 : (0 : Int) ≤ (i : Int) := by omega
              have hii2 : (i : Int) < (m : Int) := by omega
              first
                | go_region_law (first
                    | (go_simp; go_at_call 32; refine (refPut_makes j (by omega) _).mono ?_; intro e w3 h; obtain ⟨P3, p3, rfl, q3, b3, m3, n3, l3⟩ := h.gives; have Q3 := Lib.hid q3; have N3 := Lib.hid n3; have L3 := Lib.hid (LZ.out.drew.trans l3); have O3 := Lib.hid (own_later OZ.out.drew l3); have e0 := (CX0.out.later L3.out).out; have e1 := (CX1.out.later L3.out).out; have e2 := (CX2.out.later L3.out).out; clear h q3 b3 m3 n3 l3)
                    | (refine step_append_rd (by rfl) (.tmp 82) (.tmp 85) 22 (by rfl) w.heap.size 5 (.int .u8 0) 1 Tryd.underlying22 info_u8 rfl _ n (ints .u8 pre) (by rfl) O3.out _ P3 (putNum j).length p3 (ints .u8 (putNum j)) (by rfl) Q3.out ?_ N3.out (ints_one _ _) ?_ ?_ ?_ ?_; (rw [ints_length]); (have h1 := HNL.out; have h2 := putNum_le j; unfold maxLen; omega); (have h1 := HNL.out; have h2 := putNum_le j; omega); (exact L3.out.size); intro A4 c4 w4 o4 g4 b4 n4; have O4 := Lib.hid o4; have L4 := Lib.hid (Later.of (L3.out.below.trans b4)); have e0 := (CX0.out.later L4.out).out; have e1 := (CX1.out.later L4.out).out; have e2 := (CX2.out.later L4.out).out; clear o4 g4 b4 n4)
                    | (go_simp; go_at_call 31; refine (refOne_any tx ix sx _ HT.out HMX.out HIX.out).mono ?_; rintro e w5 ⟨P5, p5, rfl, q5, b5, m5, n5, l5⟩; have Q5 := Lib.hid q5; have N5 := Lib.hid n5; have L5 := Lib.hid (L4.out.trans l5); have O5 := Lib.hid (own_later O4.out l5); have e0 := (CX0.out.later L5.out).out; have e1 := (CX1.out.later L5.out).out; have e2 := (CX2.out.later L5.out).out; clear q5 b5 m5 n5 l5)
                    | (refine step_append_rd (by rfl) (.tmp 86) (.tmp 91) 22 (by rfl) w.heap.size 5 (.int .u8 0) 1 Tryd.underlying22 info_u8 rfl _ (n + (putNum j).length) (ints .u8 pre ++ ints .u8 (putNum j)) (by rfl) O5.out _ P5 (oneB tx ix sx).length p5 (ints .u8 (oneB tx ix sx)) (by rfl) Q5.out ?_ N5.out (ints_one _ _) ?_ ?_ ?_ ?_; (rw [ints_length]); (have h1 := HNL.out; have h2 := putNum_le j; have h3 := oneB_le HMX.out; unfold maxLen; omega); (have h1 := HNL.out; have h2 := putNum_le j; have h3 := oneB_le HMX.out; omega); (exact L5.out.size); intro A6 c6 w6 o6 g6 b6 n6; have O6 := Lib.hid o6; have N6 := Lib.hid n6; have L6 := Lib.hid (Later.of (L5.out.below.trans b6)); clear o6 g6 b6 n6))
                | fail "no walk"
              all_goals try simp [Act.put]
              all_goals go_wp2_with fail
              all_goals go_roundw
              all_goals first
                | exact EInv.mk A6 c6 _ (pre ++ putNum j ++ oneB tx ix sx) (i + j) _ (by rw [List.length_append, List.length_append, HN.out]) (by have := HP.out; omega) HIJ2.out (by rw [ints_snoc, ints_snoc]; exact O6.out) N6.out HNEXT.out L6.out
                | omega
                | (simp only [intOf]; omega)
                | (simp [intOf]; omega)
          · have ene : (iy == ix) = false := by simp [hie]
            have hK : j = runX (tx, ix, sx) r + 1 := by
              have : ¬ j - 1 < runX (tx, ix, sx) r := fun h => hie (by have e := HEQ.out.2 h; injection e with _ e; injection e with e _)
              omega
            have HNEXT := Lib.hid (HCATJ.out hK)
            have HIJ2 := Lib.hid (HIJ.out hK)
            clear hK hie
            go_wp2_with fail
            go_quiet (fail)
            rename_i nq
            go_wp2_with fail
            obtain ⟨wz, hwz⟩ : ∃ wz, wz = wr.drewN nq := ⟨_, rfl⟩
            have LZ := Lib.hid (show Later w wz from hwz ▸ (LAT2.out.drewN nq))
            have OZ := Lib.hid (own_later HOWN.out (show Later wr0 wz from hwz ▸ (LATI.out.drewN nq)))
            rw [← hwz]
            clear hwz
            have e0 := (CX0.out.later LZ.out).drew.out
            have e1 := (CX1.out.later LZ.out).drew.out
            have e2 := (CX2.out.later LZ.out).drew.out
            have hjw : IntKind.u64.wrap (j : Int) = (j : Int) := by rw [IntKind.wrap_u64]; omega
            have hii1 : (0 : Int) ≤ (i : Int) := by omega
            have hii2 : (i : Int) < (m : Int) := by omega
            first
              | go_region_law (first
                  | (go_simp; go_at_call 32; refine (refPut_makes j (by omega) _).mono ?_; intro e w3 h; obtain ⟨P3, p3, rfl, q3, b3, m3, n3, l3⟩ := h.gives; have Q3 := Lib.hid q3; have N3 := Lib.hid n3; have L3 := Lib.hid (LZ.out.drew.trans l3); have O3 := Lib.hid (own_later OZ.out.drew l3); have e0 := (CX0.out.later L3.out).out; have e1 := (CX1.out.later L3.out).out; have e2 := (CX2.out.later L3.out).out; clear h q3 b3 m3 n3 l3)
                  | (refine step_append_rd (by rfl) (.tmp 82) (.tmp 85) 22 (by rfl) w.heap.size 5 (.int .u8 0) 1 Tryd.underlying22 info_u8 rfl _ n (ints .u8 pre) (by rfl) O3.out _ P3 (putNum j).length p3 (ints .u8 (putNum j)) (by rfl) Q3.out ?_ N3.out (ints_one _ _) ?_ ?_ ?_ ?_; (rw [ints_length]); (have h1 := HNL.out; have h2 := putNum_le j; unfold maxLen; omega); (have h1 := HNL.out; have h2 := putNum_le j; omega); (exact L3.out.size); intro A4 c4 w4 o4 g4 b4 n4; have O4 := Lib.hid o4; have L4 := Lib.hid (Later.of (L3.out.below.trans b4)); have e0 := (CX0.out.later L4.out).out; have e1 := (CX1.out.later L4.out).out; have e2 := (CX2.out.later L4.out).out; clear o4 g4 b4 n4)
                  | (go_simp; go_at_call 31; refine (refOne_any tx ix sx _ HT.out HMX.out HIX.out).mono ?_; rintro e w5 ⟨P5, p5, rfl, q5, b5, m5, n5, l5⟩; have Q5 := Lib.hid q5; have N5 := Lib.hid n5; have L5 := Lib.hid (L4.out.trans l5); have O5 := Lib.hid (own_later O4.out l5); have e0 := (CX0.out.later L5.out).out; have e1 := (CX1.out.later L5.out).out; have e2 := (CX2.out.later L5.out).out; clear q5 b5 m5 n5 l5)
                  | (refine step_append_rd (by rfl) (.tmp 86) (.tmp 91) 22 (by rfl) w.heap.size 5 (.int .u8 0) 1 Tryd.underlying22 info_u8 rfl _ (n + (putNum j).length) (ints .u8 pre ++ ints .u8 (putNum j)) (by rfl) O5.out _ P5 (oneB tx ix sx).length p5 (ints .u8 (oneB tx ix sx)) (by rfl) Q5.out ?_ N5.out (ints_one _ _) ?_ ?_ ?_ ?_; (rw [ints_length]); (have h1 := HNL.out; have h2 := putNum_le j; have h3 := oneB_le HMX.out; unfold maxLen; omega); (have h1 := HNL.out; have h2 := putNum_le j; have h3 := oneB_le HMX.out; omega); (exact L5.out.size); intro A6 c6 w6 o6 g6 b6 n6; have O6 := Lib.hid o6; have N6 := Lib.hid n6; have L6 := Lib.hid (Later.of (L5.out.below.trans b6)); clear o6 g6 b6 n6))
              | fail "no walk"
            all_goals try simp [Act.put]
            all_goals go_wp2_with fail
            all_goals go_roundw
            all_goals first
              | exact EInv.mk A6 c6 _ (pre ++ putNum j ++ oneB tx ix sx) (i + j) _ (by rw [List.length_append, List.length_append, HN.out]) (by have := HP.out; omega) HIJ2.out (by rw [ints_snoc, ints_snoc]; exact O6.out) N6.out HNEXT.out L6.out
              | omega
              | (simp only [intOf]; omega)
              | (simp [intOf]; omega)
        · have hK : j = runX x r + 1 := by have := HRL.out; omega
          have HNEXT := Lib.hid (HCATJ.out hK)
          have HIJ2 := Lib.hid (HIJ.out hK)
          obtain ⟨tx, ix, sx⟩ := x
          dsimp only at c0 c1 c2 hx1 hx2 HIX HNEXT
          subst hx1
          have HMX := Lib.hid hx2
          have CX0 := Lib.hid (show CellIs w ⟨b, off + i * 3, none⟩ (.int .i64 tx) from c0)
          have CX1 := Lib.hid (show CellIs w ⟨b, off + i * 3 + 1, none⟩ (.int .i64 ix) from c1)
          have CX2 := Lib.hid (show CellIs w ⟨b, off + i * 3 + 2, none⟩ (.string sx) from c2)
          have hd : decide ((p : Int) < (m : Int)) = false := decide_eq_false (by omega)
          clear hK c0 c1 c2 hx2 hp hmem
          go_wp2_with fail
          go_quiet (fail)
          rename_i nq
          go_wp2_with fail
          obtain ⟨wz, hwz⟩ : ∃ wz, wz = wr.drewN nq := ⟨_, rfl⟩
          have LZ := Lib.hid (show Later w wz from hwz ▸ (LAT2.out.drewN nq))
          have OZ := Lib.hid (own_later HOWN.out (show Later wr0 wz from hwz ▸ (LATI.out.drewN nq)))
          rw [← hwz]
          clear hwz
          have e0 := (CX0.out.later LZ.out).drew.out
          have e1 := (CX1.out.later LZ.out).drew.out
          have e2 := (CX2.out.later LZ.out).drew.out
          have hjw : IntKind.u64.wrap (j : Int) = (j : Int) := by rw [IntKind.wrap_u64]; omega
          have hii1 : (0 : Int) ≤ (i : Int) := by omega
          have hii2 : (i : Int) < (m : Int) := by omega
          first
            | go_region_law (first
                | (go_simp; go_at_call 32; refine (refPut_makes j (by omega) _).mono ?_; intro e w3 h; obtain ⟨P3, p3, rfl, q3, b3, m3, n3, l3⟩ := h.gives; have Q3 := Lib.hid q3; have N3 := Lib.hid n3; have L3 := Lib.hid (LZ.out.drew.trans l3); have O3 := Lib.hid (own_later OZ.out.drew l3); have e0 := (CX0.out.later L3.out).out; have e1 := (CX1.out.later L3.out).out; have e2 := (CX2.out.later L3.out).out; clear h q3 b3 m3 n3 l3)
                | (refine step_append_rd (by rfl) (.tmp 82) (.tmp 85) 22 (by rfl) w.heap.size 5 (.int .u8 0) 1 Tryd.underlying22 info_u8 rfl _ n (ints .u8 pre) (by rfl) O3.out _ P3 (putNum j).length p3 (ints .u8 (putNum j)) (by rfl) Q3.out ?_ N3.out (ints_one _ _) ?_ ?_ ?_ ?_; (rw [ints_length]); (have h1 := HNL.out; have h2 := putNum_le j; unfold maxLen; omega); (have h1 := HNL.out; have h2 := putNum_le j; omega); (exact L3.out.size); intro A4 c4 w4 o4 g4 b4 n4; have O4 := Lib.hid o4; have L4 := Lib.hid (Later.of (L3.out.below.trans b4)); have e0 := (CX0.out.later L4.out).out; have e1 := (CX1.out.later L4.out).out; have e2 := (CX2.out.later L4.out).out; clear o4 g4 b4 n4)
                | (go_simp; go_at_call 31; refine (refOne_any tx ix sx _ HT.out HMX.out HIX.out).mono ?_; rintro e w5 ⟨P5, p5, rfl, q5, b5, m5, n5, l5⟩; have Q5 := Lib.hid q5; have N5 := Lib.hid n5; have L5 := Lib.hid (L4.out.trans l5); have O5 := Lib.hid (own_later O4.out l5); have e0 := (CX0.out.later L5.out).out; have e1 := (CX1.out.later L5.out).out; have e2 := (CX2.out.later L5.out).out; clear q5 b5 m5 n5 l5)
                | (refine step_append_rd (by rfl) (.tmp 86) (.tmp 91) 22 (by rfl) w.heap.size 5 (.int .u8 0) 1 Tryd.underlying22 info_u8 rfl _ (n + (putNum j).length) (ints .u8 pre ++ ints .u8 (putNum j)) (by rfl) O5.out _ P5 (oneB tx ix sx).length p5 (ints .u8 (oneB tx ix sx)) (by rfl) Q5.out ?_ N5.out (ints_one _ _) ?_ ?_ ?_ ?_; (rw [ints_length]); (have h1 := HNL.out; have h2 := putNum_le j; have h3 := oneB_le HMX.out; unfold maxLen; omega); (have h1 := HNL.out; have h2 := putNum_le j; have h3 := oneB_le HMX.out; omega); (exact L5.out.size); intro A6 c6 w6 o6 g6 b6 n6; have O6 := Lib.hid o6; have N6 := Lib.hid n6; have L6 := Lib.hid (Later.of (L5.out.below.trans b6)); clear o6 g6 b6 n6))
            | fail "no walk"
          all_goals try simp [Act.put]
          all_goals go_wp2_with fail
          all_goals go_roundw
          all_goals first
            | exact EInv.mk A6 c6 _ (pre ++ putNum j ++ oneB tx ix sx) (i + j) _ (by rw [List.length_append, List.length_append, HN.out]) (by have := HP.out; omega) HIJ2.out (by rw [ints_snoc, ints_snoc]; exact O6.out) N6.out HNEXT.out L6.out
            | omega
            | (simp only [intOf]; omega)
            | (simp [intOf]; omega)
    · have hie : i = m := by have := HIL.out; have := HML.out; omega
      have HIE := Lib.hid hie
      have HPRE := Lib.hid (show pre = rleB l by
        have h := HCAT.out
        rw [List.drop_of_length_le (by have := HML.out; omega), rleB_nil, List.append_nil] at h
        exact h)
      clear hie
      go_wp2_with fail
      go_ret2
      refine ⟨B, cb, ?_, ?_, HNIL.out, HLAT.out⟩
      · rw [← HPRE.out, ← HN.out]; rfl
      · rw [← HPRE.out, ← HN.out]; exact HOWN.out
end Go.Proofs.YtifejanbgobngaaDoor
