/- Walks of slices.BinarySearchFunc, at values; of package dict: places, width. -/
import Derived.Test.YtfcedbhmbcbiaaaGreatDoorDictM
import Derived.Test.YtfcedbhmbcbiaaaGreatDoorRCmp
import Derived.Test.YtfcedbhmbcbiaaaGreatDoorLists
import Derived.Test.YtfcedbhmbcbiaaaGreatDoorBitsJ
import Derived.Shelf.SlSortCmp.QuietGrown
import Derived.BigQuiet
namespace Go.Proofs.YtfcedbhmbcbiaaaGreatDoor
open Go.RowKit
set_option linter.unusedVariables false

theorem countP_split {d : List Val3} {p : Val3 → Bool} {i : Nat} (hi : i ≤ d.length) (h1 : ∀ a (h : a < d.length), a < i → p d[a] = true) (h2 : ∀ a (h : a < d.length), i ≤ a → p d[a] = false) : d.countP p = i := by
  conv => lhs; rw [← List.take_append_drop i d]
  rw [List.countP_append]
  have e1 : (d.take i).countP p = (d.take i).length := List.countP_eq_length.2 fun x hx => by
    obtain ⟨k, hk, rfl⟩ := List.getElem_of_mem hx
    rw [List.length_take] at hk
    rw [List.getElem_take]
    exact h1 k (by omega) (by omega)
  have e2 : (d.drop i).countP p = 0 := List.countP_eq_zero.2 fun x hx => by
    obtain ⟨k, hk, rfl⟩ := List.getElem_of_mem hx
    rw [List.length_drop] at hk
    rw [List.getElem_drop]
    have := h2 (i + k) (by omega) (by omega)
    simp [this]
  rw [e1, e2, List.length_take]
  omega
theorem valCmp_q (x y : Val3) (w : World) : Calls Tryz.prog 57 #[.agg #[.int .i64 x.1, .int .i64 x.2.1, .string x.2.2], .agg #[.int .i64 y.1, .int .i64 y.2.1, .string y.2.2]] w fun e w' => e = .returned (.int .i64 (cmp3 x y)) ∧ ∃ q os, w' = Go.Sort.grow (w.drewN q) os := valCmp_g _ _ _ _ _ _ w
theorem grow_later (w : World) (q : Nat) (os : Array Obj) : Later w (Go.Sort.grow (w.drewN q) os) := Grows.later ⟨q, os, rfl⟩
theorem asc_lt {d : List Val3} (ha : Asc d) {a h : Nat} (hh : h < d.length) (hlt : a < h) : cmp3 (d[a]'(by omega)) d[h] < 0 := List.pairwise_iff_getElem.1 ha a h (by omega) hh hlt

/-- Where BinarySearchFunc's loop stands. -/
def BSInv (d : List Val3) (v : Val3) (w : World) (iv jv : Value) (wr : World) : Prop :=
  ∃ (i j : Nat), iv = .int .i64 i ∧ jv = .int .i64 j ∧ i ≤ j ∧ j ≤ d.length ∧ (∀ a (h : a < d.length), a < i → cmp3 d[a] v < 0) ∧ (∀ a (h : a < d.length), j ≤ a → ¬ cmp3 d[a] v < 0) ∧ Later w wr
theorem BSInv.mk {d : List Val3} {v : Val3} {w wr : World} (i j : Nat) (x y : Int) (hx : x = (i : Int)) (hy : y = (j : Int)) (h1 : i ≤ j) (h2 : j ≤ d.length) (h3 : ∀ a (h : a < d.length), a < i → cmp3 d[a] v < 0) (h4 : ∀ a (h : a < d.length), j ≤ a → ¬ cmp3 d[a] v < 0) (h5 : Later w wr) : BSInv d v w (.int .i64 x) (.int .i64 y) wr := by
  subst hx hy; exact ⟨i, j, rfl, rfl, h1, h2, h3, h4, h5⟩

set_option maxRecDepth 100000 in
set_option maxHeartbeats 2000000 in
theorem bsearch_any (A : Option Addr) (n c : Nat) (d : List Val3) (v : Val3) (w : World) (hn : n = d.length) (hl : d.length ≤ 1000) (hr : Has w A (fl d)) (ha : Asc d) :
    Calls Tryz.prog 64 #[.slice A n c, .agg #[.int .i64 v.1, .int .i64 v.2.1, .string v.2.2], .func (.func 57) #[] #[]] w fun e w' => (∃ fb, e = .returned (.tuple #[.int .i64 (placeOf d v : Nat), .bool fb])) ∧ Later w w' := by
  have eg : ∀ args w, (callFunc 57 args).run Tryz.prog w = .ok (.enter 57 args) w := enters_of Tryz.func57 (by kernel_rfl) rfl
  have HA := Lib.hid ha
  have HR := Lib.hid hr
  have HN := Lib.hid hn
  obtain ⟨vt, vi, vs⟩ := v
  obtain ⟨w1, hw1⟩ : ∃ w1, w1 = w.alloc (.cells #[.int .i64 vt, .int .i64 vi, .string vs] 26) := ⟨_, rfl⟩
  have L1 : Later w w1 := hw1 ▸ Later.new _ _
  have BX : Blk w1 w.heap.size #[.int .i64 vt, .int .i64 vi, .string vs] 26 := hw1 ▸ Blk.new w _ _ _ rfl
  have HW := Lib.hid hw1
  have HL1 := Lib.hid L1
  have HBX := Lib.hid BX
  have hn9 : n ≤ 1000 := by omega
  clear ha hr hn hw1 L1 BX
  go_enter Tryz.func64, Tryz.ntmps64
  go_wp2_with fail
  rw [← HW.out]
  go_loopw [9, 10] (fun iv jv wr => BSInv d (vt, vi, vs) w1 iv jv wr) (fun iv jv _ => (intOf jv).toNat - (intOf iv).toNat)
  case atStart => exact BSInv.mk 0 n _ _ rfl rfl (Nat.zero_le _) (by rw [HN.out]; exact Nat.le_refl _) (fun a h ha => by omega) (fun a h ha => by have := HN.out; omega) (Later.refl _)
  case round =>
    obtain ⟨i, j, rfl, rfl, hij, hjn, h1, h2, lat⟩ := hrel
    by_cases hlt : i < j
    · have hji : (i : Int) < (j : Int) := by omega
      obtain ⟨h, hh, hih, hhj⟩ : ∃ h : Nat, ((i : Int) + (j : Int)) / 2 = (h : Int) ∧ i ≤ h ∧ h < j := ⟨(i + j) / 2, by omega, by omega, by omega⟩
      go_wp2_with fail
      have hhd : h < d.length := by omega
      obtain ⟨b, off, rfl, c0, c1, c2⟩ := (HR.out.later (HL1.out.trans lat)).val3 h hhd
      have hbw : b < wr.heap.size := by
        rcases HR.out.later (HL1.out.trans lat) with h | ⟨b', off', h, hb', _⟩
        · have h := congrArg List.length h; rw [fl_length] at h; simp at h; omega
        · injection h with h; injection h with h _ _; rw [h]; exact hb'
      obtain ⟨r, hr⟩ : ∃ r, r = cmp3 d[h] (vt, vi, vs) := ⟨_, rfl⟩
      have HCG := Lib.hid (fun (q : Nat) (os : Array Obj) => valCmp_q d[h] (vt, vi, vs) (Go.Sort.grow (wr.drewN q) os))
      rw [← hr] at HCG
      have HRR := Lib.hid hr
      generalize d[h].1 = xt at c0 HCG
      generalize d[h].2.1 = xi at c1 HCG
      generalize d[h].2.2 = xs at c2 HCG
      have BXr := HBX.out.later lat
      have b0 := BXr.cell 0 _ rfl
      have b1 := BXr.cell 1 _ rfl
      have b2 := BXr.cell 2 _ rfl
      have k0 := fun (q : Nat) (os : Array Obj) => Go.cell_grown (w := wr) hbw c0 q os
      have k1 := fun (q : Nat) (os : Array Obj) => Go.cell_grown (w := wr) hbw c1 q os
      have k2 := fun (q : Nat) (os : Array Obj) => Go.cell_grown (w := wr) hbw c2 q os
      have m0 := fun (q : Nat) (os : Array Obj) => Go.cell_grown (w := wr) BXr.lt b0 q os
      have m1 := fun (q : Nat) (os : Array Obj) => Go.cell_grown (w := wr) BXr.lt b1 q os
      have m2 := fun (q : Nat) (os : Array Obj) => Go.cell_grown (w := wr) BXr.lt b2 q os
      have LAT := Lib.hid lat
      clear c0 c1 c2 b0 b1 b2 BXr hbw hr lat
      have i0 : (0 : Int) ≤ (h : Int) := by omega
      have i1 : (h : Int) < (n : Int) := by have := HN.out; omega
      have HH1 := Lib.hid h1
      have HH2 := Lib.hid h2
      clear h1 h2 hh
      have mixed : Tryz.prog.follows .mixedOrders = true := by kernel_rfl
      by_cases hneg : r < 0
      · go_wp2_with fail
        go_quiet_grown (first | (go_at_call 57; refine Go.Calls.grown_of (HCG.out _ _)))
        go_wp2_with fail
        go_roundw
        case rel =>
          refine BSInv.mk (h + 1) j _ _ (by go_num) rfl (by omega) hjn (fun a hal hah => ?_) (fun a hal hah => by have := HH2.out a hal hah; omega) (LAT.out.trans (grow_later _ _ _))
          rcases Nat.lt_or_ge a h with hlt2 | hge
          · exact cmp3_lt_trans (asc_lt HA.out hhd hlt2) (by rw [← HRR.out]; exact hneg)
          · obtain rfl : a = h := by omega
            rw [← HRR.out]; exact hneg
        case measure => simp [intOf]; omega
      · go_wp2_with fail
        go_quiet_grown (first | (go_at_call 57; refine Go.Calls.grown_of (HCG.out _ _)))
        go_wp2_with fail
        go_roundw
        case rel =>
          refine BSInv.mk i h _ _ rfl rfl hih (by omega) HH1.out (fun a hal hah hneg2 => ?_) (LAT.out.trans (grow_later _ _ _))
          rcases Nat.lt_or_ge h a with hlt2 | hge
          · have h3 := cmp3_lt_trans (asc_lt HA.out hal hlt2) hneg2
            rw [← HRR.out] at h3
            omega
          · obtain rfl : a = h := by omega
            rw [← HRR.out] at hneg2
            omega
        case measure => simp [intOf]; omega
    · obtain rfl : i = j := by omega
      have HP := Lib.hid (show placeOf d (vt, vi, vs) = i from countP_split hjn (fun a h ha => by simpa using h1 a h ha) (fun a h ha => by simpa using h2 a h ha))
      have mixed : Tryz.prog.follows .mixedOrders = true := by kernel_rfl
      by_cases hin : i < n
      · have hid : i < d.length := by have := HN.out; omega
        obtain ⟨b, off, rfl, c0, c1, c2⟩ := (HR.out.later (HL1.out.trans lat)).val3 i hid
        have hbw : b < wr.heap.size := by
          rcases HR.out.later (HL1.out.trans lat) with h | ⟨b', off', h, hb', _⟩
          · have h := congrArg List.length h; rw [fl_length] at h; simp at h; omega
          · injection h with h; injection h with h _ _; rw [h]; exact hb'
        obtain ⟨r, hr⟩ : ∃ r, r = cmp3 d[i] (vt, vi, vs) := ⟨_, rfl⟩
        have HCG := Lib.hid (fun (q : Nat) (os : Array Obj) => valCmp_q d[i] (vt, vi, vs) (Go.Sort.grow (wr.drewN q) os))
        rw [← hr] at HCG
        have HRR := Lib.hid hr
        generalize d[i].1 = xt at c0 HCG
        generalize d[i].2.1 = xi at c1 HCG
        generalize d[i].2.2 = xs at c2 HCG
        have BXr := HBX.out.later lat
        have b0 := BXr.cell 0 _ rfl
        have b1 := BXr.cell 1 _ rfl
        have b2 := BXr.cell 2 _ rfl
        have k0 := fun (q : Nat) (os : Array Obj) => Go.cell_grown (w := wr) hbw c0 q os
        have k1 := fun (q : Nat) (os : Array Obj) => Go.cell_grown (w := wr) hbw c1 q os
        have k2 := fun (q : Nat) (os : Array Obj) => Go.cell_grown (w := wr) hbw c2 q os
        have m0 := fun (q : Nat) (os : Array Obj) => Go.cell_grown (w := wr) BXr.lt b0 q os
        have m1 := fun (q : Nat) (os : Array Obj) => Go.cell_grown (w := wr) BXr.lt b1 q os
        have m2 := fun (q : Nat) (os : Array Obj) => Go.cell_grown (w := wr) BXr.lt b2 q os
        have LAT := Lib.hid lat
        clear c0 c1 c2 b0 b1 b2 BXr hbw hr lat
        have i0 : (0 : Int) ≤ (i : Int) := by omega
        have i1 : (i : Int) < (n : Int) := by omega
        clear h1 h2 hjn hij hlt
        go_wp2_with fail
        go_quiet_grown (first | (go_at_call 57; refine Go.Calls.grown_of (HCG.out _ _)))
        go_wp2_with fail
        go_ret2
        exact ⟨⟨_, by rw [HP.out]; rfl⟩, HL1.out.trans (LAT.out.trans (grow_later _ _ _))⟩
      · obtain rfl : i = n := by have := HN.out; omega
        have LAT := Lib.hid lat
        clear h1 h2 hjn hij hlt lat
        have hnn : decide ((i : Int) < (i : Int)) = false := by simp
        go_wp2_with fail
        go_quiet (fail)
        go_wp2_with fail
        go_ret2
        exact ⟨⟨_, by rw [HP.out]; rfl⟩, HL1.out.trans (LAT.out.drewN _)⟩

theorem arg_v (v : Val3) : v = (v.1, v.2.1, v.2.2) := rfl

set_option maxRecDepth 100000 in
set_option maxHeartbeats 2000000 in
theorem places_any (A B : Option Addr) (n m ca cb : Nat) (d l : List Val3) (w : World) (hn : n = d.length) (hm : m = l.length) (hd : d.length ≤ 1000) (hl : l.length ≤ 1000) (hrd : Has w A (fl d)) (hrl : Has w B (fl l)) (ha : Asc d) :
    Calls Tryz.prog 36 #[.slice A n ca, .slice B m cb] w fun e w' => ∃ g, e = .returned (.slice (some ⟨g, 0, none⟩) m m) ∧ Row w' g 54 .u64 (places d l) ∧ Later w w' := by
  obtain ⟨U, hU⟩ : ∃ U, U = places d l := ⟨_, rfl⟩
  have HUL := Lib.hid (show U.length = m by rw [hU, places_len, hm])
  have HUG := Lib.hid (fun (j : Nat) (hj : j < l.length) (hj' : j < U.length) => (show U[j] = placeOf d l[j] by subst hU; simp [places]))
  rw [← hU]
  have HA := Lib.hid ha
  have HRD := Lib.hid hrd
  have HRL := Lib.hid hrl
  have HN := Lib.hid hn
  have HM := Lib.hid hm
  have HD9 := Lib.hid hd
  have hm9 : m ≤ 1000 := by omega
  have hmk := fun W => run_make_row' (P := Tryz.prog) 68 54 (.int .u64 0) 8 Tryz.underlying68 info_u64 rfl .i64 .i64 m (by omega) (by omega) W
  clear ha hrd hrl hn hm hd hl hU
  go_enter Tryz.func36, Tryz.ntmps36
  go_wp2_with fail
  clear hmk
  go_loopw [15] (fun i wr => ∃ j : Nat, j ≤ m ∧ i = .int .i64 j ∧ Row wr w.heap.size 54 .u64 (U.take j ++ List.replicate (m - j) 0) ∧ Later w wr) (fun i _ => m - (intOf i).toNat)
  case atStart =>
    refine ⟨0, Nat.zero_le _, rfl, ?_, Later.new _ _⟩
    simp only [List.take_zero, List.nil_append, Nat.sub_zero]
    exact Row.made w _ .u64 m
  case round =>
    obtain ⟨j, hj, rfl, hrow, lat⟩ := hrel
    by_cases hlt : j < m
    · have hjl : j < l.length := by have := HM.out; omega
      have hju : j < U.length := by have := HUL.out; omega
      obtain ⟨b, off, rfl, c0, c1, c2⟩ := (HRL.out.later lat).val3 j hjl
      have HQ := Lib.hid (HUG.out j hjl hju)
      obtain ⟨p, hp⟩ : ∃ p, p = placeOf d l[j] := ⟨_, rfl⟩
      have hpd : p ≤ d.length := by rw [hp]; exact List.countP_le_length
      have HBS := Lib.hid (fun w' (lz : Later w w') => bsearch_any A n ca d l[j] w' HN.out HD9.out (HRD.out.later lz) HA.out)
      rw [← hp] at HBS
      have HPU := Lib.hid (show p = U[j] by rw [hp, HQ.out])
      generalize l[j].1 = tt at c0 HBS
      generalize l[j].2.1 = i at c1 HBS
      generalize l[j].2.2 = s at c2 HBS
      have hpw : IntKind.u64.wrap (p : Int) = (p : Int) := by have := HD9.out; rw [IntKind.wrap_u64]; omega
      obtain ⟨wa, hwa⟩ : ∃ wa, wa = wr.alloc (.cells #[.int .i64 tt, .int .i64 i, .string s] 26) := ⟨_, rfl⟩
      have lA : Later wr wa := hwa ▸ Later.new _ _
      have HWA := Lib.hid hwa
      have LA := Lib.hid (lat.trans lA)
      have HROW := Lib.hid (lA.row hrow)
      clear hrow lat lA hp hwa hpd
      go_wp2_with fail
      rw [← HWA.out]
      refine (HBS.out wa LA.out).mono ?_
      rintro e w5 ⟨⟨fb, rfl⟩, l5⟩
      have hrow5 := l5.row HROW.out
      have hcl := hrow5.cell j (by simp; omega)
      have hfr := hrow5.frozen j
      obtain ⟨old, hold⟩ : ∃ old : Int, w5.cell? ⟨w.heap.size, j, none⟩ = some (.int .u64 old) := ⟨_, hcl⟩
      have HN5 := Lib.hid (hrow5.set' j p (p : Int) rfl _ (set_fill U j m HUL.out hlt p HPU.out))
      have HB5 := Lib.hid (Later.of ((LA.out.trans l5).below.setCell (p := ⟨w.heap.size, j, none⟩) (Nat.le_refl _) (.int .u64 (p : Int))))
      clear hcl hrow5 l5 c0 c1 c2
      go_wp2_with fail
      go_roundw
      case rel => exact ⟨j + 1, hlt, by go_num, HN5.out, HB5.out⟩
      case measure => simp [intOf]; omega
    · have hfin : U.take j ++ List.replicate (m - j) 0 = U := by
        rw [show m - j = 0 by omega, List.replicate_zero, List.append_nil, List.take_of_length_le (by have := HUL.out; omega)]
      rw [hfin] at hrow
      have HROW := Lib.hid hrow
      have LAT := Lib.hid lat
      clear hrow lat hfin
      go_wp2_with fail
      go_ret
      exact ⟨_, rfl, HROW.out, LAT.out⟩
end Go.Proofs.YtfcedbhmbcbiaaaGreatDoor
