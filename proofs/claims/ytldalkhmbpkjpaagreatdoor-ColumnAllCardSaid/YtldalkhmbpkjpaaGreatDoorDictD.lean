
import Derived.Test.YtldalkhmbpkjpaaGreatDoorPlainMath
import Derived.Test.YtldalkhmbpkjpaaGreatDoorRCmp
import Derived.Test.YtldalkhmbpkjpaaGreatDoorCell
import Derived.Test.YtldalkhmbpkjpaaGreatDoorBitsJ
import Derived.Shelf.SlSortCmp.QuietGrown
import Derived.BigQuiet
import Derived.Test.YtldalkhmbpkjpaaGreatDoorShelf
import Derived.Shelf.SlSortCmp.WholeK
import Derived.Deep.RegionHeld3
import Derived.Lib.SliceRun
import Derived.Test.YtldalkhmbpkjpaaGreatDoorCellG
import Derived.Deep.RegionLaw
/- Walks of slices.BinarySearchFunc, at values; of package dict: places, width. -/

namespace Go.Proofs.YtldalkhmbpkjpaaGreatDoor
open Go.RowKit
set_option linter.unusedVariables false

theorem countP_split {d : List Val3} {p : Val3 → Bool} {i : Nat} (hi : i ≤ d.length) (h1 : ∀ a (h : a < d.length), a < i → p d[a] = true) (h2 : ∀ a (h : a < d.length), i ≤ a → p d[a] = false) : d.countP p = i := by
  conv => lhs; rw [← List.take_append_drop i d]
  rw [List.countP_append]
  have e1 : (d.take i).countP p = (d.take i).length := List.countP_eq_length.2 fun x hx => by
    obtain ⟨k, hk, rfl⟩ := List.getElem_of_mem hx
    rw [List.length_take] at hk
    rw [List.getElem_take]
    exact h1 k (by omega) (by omega)
  have e2 : (d.drop i).countP p = 0 := List.countP_eq_zero.2 fun x hx => by
    obtain ⟨k, hk, rfl⟩ := List.getElem_of_mem hx
    rw [List.length_drop] at hk
    rw [List.getElem_drop]
    have := h2 (i + k) (by omega) (by omega)
    simp [this]
  rw [e1, e2, List.length_take]
  omega
theorem valCmp_q (x y : Val3) (w : World) : Calls Tryz.prog 102 #[.agg #[.int .i64 x.1, .int .i64 x.2.1, .string x.2.2], .agg #[.int .i64 y.1, .int .i64 y.2.1, .string y.2.2]] w fun e w' => e = .returned (.int .i64 (cmp3 x y)) ∧ ∃ q os, w' = Go.Sort.grow (w.drewN q) os := valCmp_g _ _ _ _ _ _ w
theorem grow_later (w : World) (q : Nat) (os : Array Obj) : Later w (Go.Sort.grow (w.drewN q) os) := Grows.later ⟨q, os, rfl⟩
theorem asc_lt {d : List Val3} (ha : Asc d) {a h : Nat} (hh : h < d.length) (hlt : a < h) : cmp3 (d[a]'(by omega)) d[h] < 0 := List.pairwise_iff_getElem.1 ha a h (by omega) hh hlt

/-- Where BinarySearchFunc's loop stands. -/
def BSInv (d : List Val3) (v : Val3) (w : World) (iv jv : Value) (wr : World) : Prop :=
  ∃ (i j : Nat), iv = .int .i64 i ∧ jv = .int .i64 j ∧ i ≤ j ∧ j ≤ d.length ∧ (∀ a (h : a < d.length), a < i → cmp3 d[a] v < 0) ∧ (∀ a (h : a < d.length), j ≤ a → ¬ cmp3 d[a] v < 0) ∧ Later w wr
theorem BSInv.mk {d : List Val3} {v : Val3} {w wr : World} (i j : Nat) (x y : Int) (hx : x = (i : Int)) (hy : y = (j : Int)) (h1 : i ≤ j) (h2 : j ≤ d.length) (h3 : ∀ a (h : a < d.length), a < i → cmp3 d[a] v < 0) (h4 : ∀ a (h : a < d.length), j ≤ a → ¬ cmp3 d[a] v < 0) (h5 : Later w wr) : BSInv d v w (.int .i64 x) (.int .i64 y) wr := by
  subst hx hy; exact ⟨i, j, rfl, rfl, h1, h2, h3, h4, h5⟩

set_option maxRecDepth 100000 in
set_option maxHeartbeats 2000000 in
theorem bsearch_any (A : Option Addr) (n c : Nat) (d : List Val3) (v : Val3) (w : World) (hn : n = d.length) (hl : d.length ≤ 1000) (hr : Has w A (fl d)) (ha : Asc d) :
    Calls Tryz.prog 115 #[.slice A n c, .agg #[.int .i64 v.1, .int .i64 v.2.1, .string v.2.2], .func (.func 102) #[] #[]] w fun e w' => (∃ fb, e = .returned (.tuple #[.int .i64 (placeOf d v : Nat), .bool fb])) ∧ Later w w' := by
  have eg : ∀ args w, (callFunc 102 args).run Tryz.prog w = .ok (.enter 102 args) w := enters_of Tryz.func102 (by kernel_rfl) rfl
  have HA := Lib.hid ha
  have HR := Lib.hid hr
  have HN := Lib.hid hn
  obtain ⟨vt, vi, vs⟩ := v
  obtain ⟨w1, hw1⟩ : ∃ w1, w1 = w.alloc (.cells #[.int .i64 vt, .int .i64 vi, .string vs] 26) := ⟨_, rfl⟩
  have L1 : Later w w1 := hw1 ▸ Later.new _ _
  have BX : Blk w1 w.heap.size #[.int .i64 vt, .int .i64 vi, .string vs] 26 := hw1 ▸ Blk.new w _ _ _ rfl
  have HW := Lib.hid hw1
  have HL1 := Lib.hid L1
  have HBX := Lib.hid BX
  have hn9 : n ≤ 1000 := by omega
  clear ha hr hn hw1 L1 BX
  go_enter Tryz.func115, Tryz.ntmps115
  go_wp2_with fail
  rw [← HW.out]
  go_loopw [9, 10] (fun iv jv wr => BSInv d (vt, vi, vs) w1 iv jv wr) (fun iv jv _ => (intOf jv).toNat - (intOf iv).toNat)
  case atStart => exact BSInv.mk 0 n _ _ rfl rfl (Nat.zero_le _) (by rw [HN.out]; exact Nat.le_refl _) (fun a h ha => by omega) (fun a h ha => by have := HN.out; omega) (Later.refl _)
  case round =>
    obtain ⟨i, j, rfl, rfl, hij, hjn, h1, h2, lat⟩ := hrel
    by_cases hlt : i < j
    · have hji : (i : Int) < (j : Int) := by omega
      obtain ⟨h, hh, hih, hhj⟩ : ∃ h : Nat, ((i : Int) + (j : Int)) / 2 = (h : Int) ∧ i ≤ h ∧ h < j := ⟨(i + j) / 2, by omega, by omega, by omega⟩
      go_wp2_with fail
      have hhd : h < d.length := by omega
      obtain ⟨b, off, rfl, c0, c1, c2⟩ := (HR.out.later (HL1.out.trans lat)).val3 h hhd
      have hbw : b < wr.heap.size := by
        rcases HR.out.later (HL1.out.trans lat) with h | ⟨b', off', h, hb', _⟩
        · have h := congrArg List.length h; rw [fl_length] at h; simp at h; omega
        · injection h with h; injection h with h _ _; rw [h]; exact hb'
      obtain ⟨r, hr⟩ : ∃ r, r = cmp3 d[h] (vt, vi, vs) := ⟨_, rfl⟩
      have HCG := Lib.hid (fun (q : Nat) (os : Array Obj) => valCmp_q d[h] (vt, vi, vs) (Go.Sort.grow (wr.drewN q) os))
      rw [← hr] at HCG
      have HRR := Lib.hid hr
      generalize d[h].1 = xt at c0 HCG
      generalize d[h].2.1 = xi at c1 HCG
      generalize d[h].2.2 = xs at c2 HCG
      have BXr := HBX.out.later lat
      have b0 := BXr.cell 0 _ rfl
      have b1 := BXr.cell 1 _ rfl
      have b2 := BXr.cell 2 _ rfl
      have k0 := fun (q : Nat) (os : Array Obj) => Go.cell_grown (w := wr) hbw c0 q os
      have k1 := fun (q : Nat) (os : Array Obj) => Go.cell_grown (w := wr) hbw c1 q os
      have k2 := fun (q : Nat) (os : Array Obj) => Go.cell_grown (w := wr) hbw c2 q os
      have m0 := fun (q : Nat) (os : Array Obj) => Go.cell_grown (w := wr) BXr.lt b0 q os
      have m1 := fun (q : Nat) (os : Array Obj) => Go.cell_grown (w := wr) BXr.lt b1 q os
      have m2 := fun (q : Nat) (os : Array Obj) => Go.cell_grown (w := wr) BXr.lt b2 q os
      have LAT := Lib.hid lat
      clear c0 c1 c2 b0 b1 b2 BXr hbw hr lat
      have i0 : (0 : Int) ≤ (h : Int) := by omega
      have i1 : (h : Int) < (n : Int) := by have := HN.out; omega
      have HH1 := Lib.hid h1
      have HH2 := Lib.hid h2
      clear h1 h2 hh
      have mixed : Tryz.prog.follows .mixedOrders = true := by kernel_rfl
      by_cases hneg : r < 0
      · go_wp2_with fail
        go_quiet_grown (first | (go_at_call 102; refine Go.Calls.grown_of (HCG.out _ _)))
        go_wp2_with fail
        go_roundw
        case rel =>
          refine BSInv.mk (h + 1) j _ _ (by go_num) rfl (by omega) hjn (fun a hal hah => ?_) (fun a hal hah => by have := HH2.out a hal hah; omega) (LAT.out.trans (grow_later _ _ _))
          rcases Nat.lt_or_ge a h with hlt2 | hge
          · exact cmp3_lt_trans (asc_lt HA.out hhd hlt2) (by rw [← HRR.out]; exact hneg)
          · obtain rfl : a = h := by omega
            rw [← HRR.out]; exact hneg
        case measure => simp [intOf]; omega
      · go_wp2_with fail
        go_quiet_grown (first | (go_at_call 102; refine Go.Calls.grown_of (HCG.out _ _)))
        go_wp2_with fail
        go_roundw
        case rel =>
          refine BSInv.mk i h _ _ rfl rfl hih (by omega) HH1.out (fun a hal hah hneg2 => ?_) (LAT.out.trans (grow_later _ _ _))
          rcases Nat.lt_or_ge h a with hlt2 | hge
          · have h3 := cmp3_lt_trans (asc_lt HA.out hal hlt2) hneg2
            rw [← HRR.out] at h3
            omega
          · obtain rfl : a = h := by omega
            rw [← HRR.out] at hneg2
            omega
        case measure => simp [intOf]; omega
    · obtain rfl : i = j := by omega
      have HP := Lib.hid (show placeOf d (vt, vi, vs) = i from countP_split hjn (fun a h ha => by simpa using h1 a h ha) (fun a h ha => by simpa using h2 a h ha))
      have mixed : Tryz.prog.follows .mixedOrders = true := by kernel_rfl
      by_cases hin : i < n
      · have hid : i < d.length := by have := HN.out; omega
        obtain ⟨b, off, rfl, c0, c1, c2⟩ := (HR.out.later (HL1.out.trans lat)).val3 i hid
        have hbw : b < wr.heap.size := by
          rcases HR.out.later (HL1.out.trans lat) with h | ⟨b', off', h, hb', _⟩
          · have h := congrArg List.length h; rw [fl_length] at h; simp at h; omega
          · injection h with h; injection h with h _ _; rw [h]; exact hb'
        obtain ⟨r, hr⟩ : ∃ r, r = cmp3 d[i] (vt, vi, vs) := ⟨_, rfl⟩
        have HCG := Lib.hid (fun (q : Nat) (os : Array Obj) => valCmp_q d[i] (vt, vi, vs) (Go.Sort.grow (wr.drewN q) os))
        rw [← hr] at HCG
        have HRR := Lib.hid hr
        generalize d[i].1 = xt at c0 HCG
        generalize d[i].2.1 = xi at c1 HCG
        generalize d[i].2.2 = xs at c2 HCG
        have BXr := HBX.out.later lat
        have b0 := BXr.cell 0 _ rfl
        have b1 := BXr.cell 1 _ rfl
        have b2 := BXr.cell 2 _ rfl
        have k0 := fun (q : Nat) (os : Array Obj) => Go.cell_grown (w := wr) hbw c0 q os
        have k1 := fun (q : Nat) (os : Array Obj) => Go.cell_grown (w := wr) hbw c1 q os
        have k2 := fun (q : Nat) (os : Array Obj) => Go.cell_grown (w := wr) hbw c2 q os
        have m0 := fun (q : Nat) (os : Array Obj) => Go.cell_grown (w := wr) BXr.lt b0 q os
        have m1 := fun (q : Nat) (os : Array Obj) => Go.cell_grown (w := wr) BXr.lt b1 q os
        have m2 := fun (q : Nat) (os : Array Obj) => Go.cell_grown (w := wr) BXr.lt b2 q os
        have LAT := Lib.hid lat
        clear c0 c1 c2 b0 b1 b2 BXr hbw hr lat
        have i0 : (0 : Int) ≤ (i : Int) := by omega
        have i1 : (i : Int) < (n : Int) := by omega
        clear h1 h2 hjn hij hlt
        go_wp2_with fail
        go_quiet_grown (first | (go_at_call 102; refine Go.Calls.grown_of (HCG.out _ _)))
        go_wp2_with fail
        go_ret2
        exact ⟨⟨_, by rw [HP.out]; rfl⟩, HL1.out.trans (LAT.out.trans (grow_later _ _ _))⟩
      · obtain rfl : i = n := by have := HN.out; omega
        have LAT := Lib.hid lat
        clear h1 h2 hjn hij hlt lat
        have hnn : decide ((i : Int) < (i : Int)) = false := by simp
        go_wp2_with fail
        go_quiet (fail)
        go_wp2_with fail
        go_ret2
        exact ⟨⟨_, by rw [HP.out]; rfl⟩, HL1.out.trans (LAT.out.drewN _)⟩

theorem arg_v (v : Val3) : v = (v.1, v.2.1, v.2.2) := rfl

set_option maxRecDepth 100000 in
set_option maxHeartbeats 2000000 in
theorem places_any (A B : Option Addr) (n m ca cb : Nat) (d l : List Val3) (w : World) (hn : n = d.length) (hm : m = l.length) (hd : d.length ≤ 1000) (hl : l.length ≤ 1000) (hrd : Has w A (fl d)) (hrl : Has w B (fl l)) (ha : Asc d) :
    Calls Tryz.prog 92 #[.slice A n ca, .slice B m cb] w fun e w' => ∃ g, e = .returned (.slice (some ⟨g, 0, none⟩) m m) ∧ Row w' g 63 .u64 (places d l) ∧ Later w w' := by
  obtain ⟨U, hU⟩ : ∃ U, U = places d l := ⟨_, rfl⟩
  have HUL := Lib.hid (show U.length = m by rw [hU, places_len, hm])
  have HUG := Lib.hid (fun (j : Nat) (hj : j < l.length) (hj' : j < U.length) => (show U[j] = placeOf d l[j] by subst hU; simp [places]))
  rw [← hU]
  have HA := Lib.hid ha
  have HRD := Lib.hid hrd
  have HRL := Lib.hid hrl
  have HN := Lib.hid hn
  have HM := Lib.hid hm
  have HD9 := Lib.hid hd
  have hm9 : m ≤ 1000 := by omega
  have hmk := fun W => run_make_row' (P := Tryz.prog) 62 63 (.int .u64 0) 8 Tryz.underlying62 info_u64 rfl .i64 .i64 m (by omega) (by omega) W
  clear ha hrd hrl hn hm hd hl hU
  go_enter Tryz.func92, Tryz.ntmps92
  go_wp2_with fail
  clear hmk
  go_loopw [15] (fun i wr => ∃ j : Nat, j ≤ m ∧ i = .int .i64 j ∧ Row wr w.heap.size 63 .u64 (U.take j ++ List.replicate (m - j) 0) ∧ Later w wr) (fun i _ => m - (intOf i).toNat)
  case atStart =>
    refine ⟨0, Nat.zero_le _, rfl, ?_, Later.new _ _⟩
    simp only [List.take_zero, List.nil_append, Nat.sub_zero]
    exact Row.made w _ .u64 m
  case round =>
    obtain ⟨j, hj, rfl, hrow, lat⟩ := hrel
    by_cases hlt : j < m
    · have hjl : j < l.length := by have := HM.out; omega
      have hju : j < U.length := by have := HUL.out; omega
      obtain ⟨b, off, rfl, c0, c1, c2⟩ := (HRL.out.later lat).val3 j hjl
      have HQ := Lib.hid (HUG.out j hjl hju)
      obtain ⟨p, hp⟩ : ∃ p, p = placeOf d l[j] := ⟨_, rfl⟩
      have hpd : p ≤ d.length := by rw [hp]; exact List.countP_le_length
      have HBS := Lib.hid (fun w' (lz : Later w w') => bsearch_any A n ca d l[j] w' HN.out HD9.out (HRD.out.later lz) HA.out)
      rw [← hp] at HBS
      have HPU := Lib.hid (show p = U[j] by rw [hp, HQ.out])
      generalize l[j].1 = tt at c0 HBS
      generalize l[j].2.1 = i at c1 HBS
      generalize l[j].2.2 = s at c2 HBS
      have hpw : IntKind.u64.wrap (p : Int) = (p : Int) := by have := HD9.out; rw [IntKind.wrap_u64]; omega
      obtain ⟨wa, hwa⟩ : ∃ wa, wa = wr.alloc (.cells #[.int .i64 tt, .int .i64 i, .string s] 26) := ⟨_, rfl⟩
      have lA : Later wr wa := hwa ▸ Later.new _ _
      have HWA := Lib.hid hwa
      have LA := Lib.hid (lat.trans lA)
      have HROW := Lib.hid (lA.row hrow)
      clear hrow lat lA hp hwa hpd
      go_wp2_with fail
      rw [← HWA.out]
      refine (HBS.out wa LA.out).mono ?_
      rintro e w5 ⟨⟨fb, rfl⟩, l5⟩
      have hrow5 := l5.row HROW.out
      have hcl := hrow5.cell j (by simp; omega)
      have hfr := hrow5.frozen j
      obtain ⟨old, hold⟩ : ∃ old : Int, w5.cell? ⟨w.heap.size, j, none⟩ = some (.int .u64 old) := ⟨_, hcl⟩
      have HN5 := Lib.hid (hrow5.set' j p (p : Int) rfl _ (set_fill U j m HUL.out hlt p HPU.out))
      have HB5 := Lib.hid (Later.of ((LA.out.trans l5).below.setCell (p := ⟨w.heap.size, j, none⟩) (Nat.le_refl _) (.int .u64 (p : Int))))
      clear hcl hrow5 l5 c0 c1 c2
      go_wp2_with fail
      go_roundw
      case rel => exact ⟨j + 1, hlt, by go_num, HN5.out, HB5.out⟩
      case measure => simp [intOf]; omega
    · have hfin : U.take j ++ List.replicate (m - j) 0 = U := by
        rw [show m - j = 0 by omega, List.replicate_zero, List.append_nil, List.take_of_length_le (by have := HUL.out; omega)]
      rw [hfin] at hrow
      have HROW := Lib.hid hrow
      have LAT := Lib.hid lat
      clear hrow lat hfin
      go_wp2_with fail
      go_ret
      exact ⟨_, rfl, HROW.out, LAT.out⟩
end Go.Proofs.YtldalkhmbpkjpaaGreatDoor

/- slices.Clone, SortFunc at values; the closure of unlike. -/

namespace Go.Proofs.YtldalkhmbpkjpaaGreatDoor
open Go.RowKit
set_option linter.unusedVariables false

/-- A value's three cells. -/
def encV (x : Val3) : List Value := [.int .i64 x.1, .int .i64 x.2.1, .string x.2.2]
theorem encV_len (x : Val3) : (encV x).length = 3 := rfl
theorem encV_one (x : Val3) : ∀ v ∈ encV x, v.oneCell' = true := by
  intro v hv
  simp only [encV, List.mem_cons, List.not_mem_nil, or_false] at hv
  rcases hv with rfl | rfl | rfl <;> rfl
theorem fl_enc (l : List Val3) (k : Nat) (hk : k < l.length) (i : Nat) (hi : i < 3) : (fl l)[k * 3 + i]? = (encV l[k])[i]? := by
  obtain ⟨h0, h1, h2⟩ := fl_get l k hk
  obtain rfl | rfl | rfl : i = 0 ∨ i = 1 ∨ i = 2 := by omega
  · exact h0
  · exact h1
  · exact h2
theorem flat_get (d : Array Val3) (j : Nat) (hj : j < d.size * 3) : (fl d.toList)[j]? = some ((Go.Sort.flatK encV 3 d)[j]!) := by
  have hk : j / 3 < d.toList.length := by rw [Array.length_toList]; omega
  have h := fl_enc d.toList (j / 3) hk (j % 3) (Nat.mod_lt _ (by decide))
  rw [show j / 3 * 3 + j % 3 = j by omega] at h
  rw [h]
  have hsz : j < (Go.Sort.flatK encV 3 d).size := by unfold Go.Sort.flatK; simpa using hj
  rw [getElem!_pos _ j hsz]
  have e : (Go.Sort.flatK encV 3 d)[j] = (encV d[j / 3]!)[j % 3]! := by unfold Go.Sort.flatK; simp
  rw [e, getElem!_pos d (j / 3) (by rw [Array.length_toList] at hk; exact hk), Array.getElem_toList]
  rw [List.getElem!_eq_getElem?_getD, List.getElem?_eq_getElem (by rw [encV_len]; exact Nat.mod_lt _ (by decide))]
  rfl
theorem flat_size (d : Array Val3) : (Go.Sort.flatK encV 3 d).size = d.size * 3 := by unfold Go.Sort.flatK; simp

/-- Cells of a block that may be written. -/
def Cells3 (w : World) (g : Nat) (d : List Val3) : Prop := g < w.heap.size ∧ ∀ j v, (fl d)[j]? = some v → w.cell? ⟨g, j, none⟩ = some v ∧ w.frozen? ⟨g, j, none⟩ = false
theorem Cells3.has {w : World} {g : Nat} {d : List Val3} (h : Cells3 w g d) : Has w (some ⟨g, 0, none⟩) (fl d) := .inr ⟨g, 0, rfl, h.1, fun k v hv => by rw [Nat.zero_add]; exact (h.2 k v hv).1⟩
theorem cells3_own {w : World} {base g n cap : Nat} {d : List Val3} (h : w.ownsRow base 26 3 (.slice (some ⟨g, 0, none⟩) n cap) n (fl d)) (hg : g < w.heap.size) : Cells3 w g d := by
  refine ⟨hg, fun j v hv => ?_⟩
  have hj := (List.getElem?_eq_some_iff.1 hv).1
  have hlen : (fl d).length = n * 3 := h.1
  have h1 := h.cellAt j (by omega)
  rw [hv] at h1
  exact ⟨h1, h.frozenAt j⟩
theorem holds_of {w : World} {g : Nat} {d : Array Val3} (h : Cells3 w g d.toList) : Go.Sort.HoldsK encV 3 w g 0 d := by
  intro j hj
  rw [flat_size] at hj
  have := h.2 j _ (flat_get d j hj)
  rw [Nat.zero_add]
  exact this
theorem of_holds {w : World} {g : Nat} {d : Array Val3} (hg : g < w.heap.size) (h : Go.Sort.HoldsK encV 3 w g 0 d) : Cells3 w g d.toList := by
  refine ⟨hg, fun j v hv => ?_⟩
  have hj := (List.getElem?_eq_some_iff.1 hv).1
  rw [fl_length, Array.length_toList] at hj
  have e := flat_get d j hj
  rw [hv] at e
  injection e with e
  have := h j (by rw [flat_size]; exact hj)
  rw [Nat.zero_add] at this
  rw [e]
  exact this

theorem swo_cmp : Go.Sort.SWO (Go.Proofs.ltOf cmp3) where
  irrefl x := by unfold Go.Proofs.ltOf; rw [cmp3_self]; rfl
  trans x y z h1 h2 := by
    unfold Go.Proofs.ltOf at *
    rw [decide_eq_true_eq] at *
    exact cmp3_lt_trans h1 h2
  ntrans x y z h1 h2 := by
    unfold Go.Proofs.ltOf at *
    rw [decide_eq_false_iff_not] at *
    have a := cmp3_turn x y
    have b := cmp3_turn y z
    have c := cmp3_turn x z
    have := (cmpV_trans z.1 z.2.1 z.2.2 y.1 y.2.1 y.2.2 x.1 x.2.1 x.2.2 (show cmp3 z y ≤ 0 by omega) (show cmp3 y x ≤ 0 by omega)).1
    have : cmp3 z x ≤ 0 := this
    omega
theorem below_sorted (w : World) (base g n : Nat) (d : Array Val3) (os : Array Obj) (h : base ≤ g) (hg : g < w.heap.size) : Below base w (Go.Proofs.sortWorldK encV 3 w g 0 n d os) := by
  refine ⟨rfl, rfl, rfl, ?_, ?_⟩
  · show w.heap.size ≤ ((w.heap.modify g _) ++ os).size
    rw [Array.size_append, Array.size_modify]; omega
  · intro k hk
    show ((w.heap.modify g _) ++ os)[k]? = w.heap[k]?
    rw [Array.getElem?_append_left (by rw [Array.size_modify]; omega), Array.getElem?_modify, if_neg (by omega)]

set_option maxRecDepth 100000 in
/-- slices.SortFunc of values by value.Compare: the same values, rising. -/
theorem sortV_any (g cap base : Nat) (d : List Val3) (w : World) (hg : base ≤ g) (hc : Cells3 w g d) (hl : d.length ≤ 100000) :
    Calls Tryz.prog 110 #[.slice (some ⟨g, 0, none⟩) d.length cap, .func (.func 102) #[] #[]] w fun e w' => e = .returned (.tuple #[]) ∧ ∃ d', d'.Perm d ∧ d'.Pairwise (fun x y => ¬ cmp3 y x < 0) ∧ Cells3 w' g d' ∧ Below base w w' := by
  have eg : ∀ args w, (callFunc 102 args).run Tryz.prog w = .ok (.enter 102 args) w := enters_of Tryz.func102 (by kernel_rfl) rfl
  have hcon := AnyQ.slices_SortFunc Tryz.sortV 3 Tryz.isAgg26 Tryz.sizeOf26 encV (fun _ => rfl) encV_one cmp3 swo_cmp 102 #[] g 0 cap d.toArray w eg (fun _ _ _ _ x y => valCmp_q x y _) (holds_of (by simpa using hc)) hc.1 (by simp; omega)
  change Calls Tryz.prog 110 _ _ _ at hcon
  rw [List.size_toArray] at hcon
  refine hcon.mono ?_
  rintro e w' ⟨rfl, d', n, os, ⟨hps, _, hpp⟩, hso, rfl⟩
  have hps : d'.size = d.length := by simpa using hps
  refine ⟨rfl, d'.toList, ?_, ?_, ?_, below_sorted w base g n d' os hg hc.1⟩
  · have e1 : d'.extract 0 d.length = d' := by rw [← hps]; exact Array.extract_size
    have e2 : (d.toArray).extract 0 d.length = d.toArray := by
      have := Array.extract_size (xs := d.toArray)
      rwa [List.size_toArray] at this
    rw [e1, e2] at hpp
    simpa using hpp
  · rw [List.pairwise_iff_getElem]
    intro i j hi hj hij
    rw [Array.length_toList] at hi hj
    have h := hso i j (Nat.zero_le _) hij (by omega)
    rw [getElem!_pos d' i hi, getElem!_pos d' j hj] at h
    unfold Go.Proofs.ltOf at h
    rw [decide_eq_false_iff_not] at h
    simpa using h
  · exact of_holds (by
      show g < ((w.heap.modify g _) ++ os).size
      rw [Array.size_append, Array.size_modify]
      have := hc.1
      omega) (Go.Proofs.holdsK_sortWorldK_c encV 3 w g 0 d.toArray d' n os (holds_of (by simpa using hc)) hc.1 (by simpa using hps))

set_option maxRecDepth 100000 in
/-- The closure of unlike. -/
theorem alike_g (x y : Val3) (w : World) : Calls Tryz.prog 112 #[.agg #[.int .i64 x.1, .int .i64 x.2.1, .string x.2.2], .agg #[.int .i64 y.1, .int .i64 y.2.1, .string y.2.2]] w fun e w' => e = .returned (.bool (decide (cmp3 x y = 0))) ∧ ∃ q os, w' = Go.Sort.grow (w.drewN q) os := by
  obtain ⟨r, hr⟩ : ∃ r, r = cmp3 x y := ⟨_, rfl⟩
  have HC := Lib.hid (fun w' => valCmp_g x.1 x.2.1 x.2.2 y.1 y.2.1 y.2.2 w')
  rw [show cmpV x.1 x.2.1 x.2.2 y.1 y.2.1 y.2.2 = r from hr.symm] at HC
  rw [← hr]
  clear hr
  generalize x.1 = xt at HC ⊢
  generalize x.2.1 = xi at HC ⊢
  generalize x.2.2 = xs at HC ⊢
  generalize y.1 = yt at HC ⊢
  generalize y.2.1 = yi at HC ⊢
  generalize y.2.2 = ys at HC ⊢
  obtain ⟨w1, hw1⟩ : ∃ w1, w1 = (w.alloc (.cells #[.int .i64 xt, .int .i64 xi, .string xs] 26)).alloc (.cells #[.int .i64 yt, .int .i64 yi, .string ys] 26) := ⟨_, rfl⟩
  have G1 : Grows w w1 := hw1 ▸ ((Grows.refl w).alloc _).alloc _
  have HW := Lib.hid hw1
  have HG := Lib.hid G1
  clear hw1 G1
  by_cases h0 : r = 0
  · have hb : (r == 0) = true := by simp [h0]
    have hd : decide (r = 0) = true := by simp [h0]
    rw [hd]
    clear h0 hd
    go_enter Tryz.func112, Tryz.ntmps112
    go_wp2_with fail
    rw [← HW.out]
    refine (HC.out w1).mono ?_
    rintro e w2 ⟨rfl, g2⟩
    have HG2 := Lib.hid (HG.out.trans g2)
    clear g2
    go_wp2_with fail
    go_ret
    exact ⟨rfl, HG2.out⟩
  · have hb : (r == 0) = false := by simp [h0]
    have hd : decide (r = 0) = false := by simp [h0]
    rw [hd]
    clear h0 hd
    go_enter Tryz.func112, Tryz.ntmps112
    go_wp2_with fail
    rw [← HW.out]
    refine (HC.out w1).mono ?_
    rintro e w2 ⟨rfl, g2⟩
    have HG2 := Lib.hid (HG.out.trans g2)
    clear g2
    go_wp2_with fail
    go_ret
    exact ⟨rfl, HG2.out⟩
end Go.Proofs.YtldalkhmbpkjpaaGreatDoor

/- slices.CompactFunc at values. -/

namespace Go.Proofs.YtldalkhmbpkjpaaGreatDoor
open Go.RowKit
set_option linter.unusedVariables false

abbrev gv (s : List Val3) (i : Nat) : Val3 := s.getD i (0, 0, ⟨#[]⟩)
theorem gv_eq {s : List Val3} {i : Nat} (h : i < s.length) : gv s i = s[i] := by unfold gv; rw [List.getD_eq_getElem?_getD, List.getElem?_eq_getElem h]; rfl
/-- Is the value at i kept: unlike the one ahead of it? -/
def keepsV (s : List Val3) (i : Nat) : Bool := i == 0 || !(decide (cmp3 (gv s i) (gv s (i - 1)) = 0))
def unlN (s : List Val3) (m : Nat) : List Val3 := ((List.range m).filter (keepsV s)).map (gv s)
theorem unlN_succ (s : List Val3) (m : Nat) : unlN s (m + 1) = unlN s m ++ (if keepsV s m then [gv s m] else []) := by
  unfold unlN
  rw [List.range_succ, List.filter_append, List.map_append]
  congr 1
  by_cases h : keepsV s m = true
  · rw [if_pos h, List.filter_cons_of_pos h]; rfl
  · rw [if_neg h, List.filter_cons_of_neg h]; rfl
theorem unlN_len (s : List Val3) (m : Nat) : (unlN s m).length ≤ m := by
  unfold unlN
  rw [List.length_map]
  exact Nat.le_trans (List.length_filter_le _ _) (by rw [List.length_range]; exact Nat.le_refl _)
theorem unlN_all {s : List Val3} : ∀ {k : Nat}, k ≤ s.length → (∀ i, i < k → keepsV s i = true) → unlN s k = s.take k
  | 0, _, _ => rfl
  | k + 1, hk, h => by
    rw [unlN_succ, if_pos (h k (by omega)), unlN_all (by omega) (fun i hi => h i (by omega)), gv_eq (by omega), List.take_succ_eq_append_getElem (by omega)]
theorem le_of_sorted {s : List Val3} (hs : s.Pairwise fun x y => ¬ cmp3 y x < 0) {i j : Nat} (hj : j < s.length) (hij : i ≤ j) : ¬ cmp3 s[j] (s[i]'(by omega)) < 0 := by
  rcases Nat.lt_or_ge i j with h | h
  · exact List.pairwise_iff_getElem.1 hs i j (by omega) hj h
  · obtain rfl : i = j := by omega
    rw [cmp3_self]; omega
/-- Of rising values the unlike ones are the words. -/
theorem unlN_words {t : Int} (ht : 1 ≤ t ∧ t ≤ 4) {l s : List Val3} (ol : OkL t l) (hp : s.Perm l) (hs : s.Pairwise fun x y => ¬ cmp3 y x < 0) : unlN s s.length = wordsOf l := by
  have os : OkL t s := fun x hx => ol x (hp.mem_iff.1 hx)
  refine asc_unique ?_ (words_asc ht ol) fun z => ?_
  · unfold unlN Asc
    rw [List.pairwise_map]
    have hr : ((List.range s.length).filter (keepsV s)).Pairwise fun i j => i < j ∧ j < s.length ∧ keepsV s j = true := by
      rw [List.pairwise_filter]
      have h1 : (List.range s.length).Pairwise (· < ·) := List.pairwise_lt_range
      refine (List.pairwise_iff_getElem.2 fun i j hi hj hij => ?_)
      intro _ hk
      rw [List.length_range] at hi hj
      rw [List.getElem_range, List.getElem_range] at *
      exact ⟨hij, hj, hk⟩
    refine hr.imp fun {i j} h => ?_
    obtain ⟨hij, hj, hk⟩ := h
    have hj0 : j ≠ 0 := by omega
    unfold keepsV at hk
    rw [gv_eq hj, gv_eq (show j - 1 < s.length by omega)] at hk
    have hne : ¬ cmp3 s[j] s[j - 1] = 0 := by simpa [hj0] using hk
    have h1 := le_of_sorted hs hj (show j - 1 ≤ j by omega)
    have h2 := le_of_sorted hs (show j - 1 < s.length by omega) (show i ≤ j - 1 by omega)
    rw [gv_eq (show i < s.length by omega), gv_eq hj]
    have a := cmp3_turn s[j] s[j - 1]
    have b := cmp3_turn s[j - 1] s[i]
    exact (cmpV_trans _ _ _ _ _ _ _ _ _ (show cmp3 s[i] s[j - 1] ≤ 0 by omega) (show cmp3 s[j - 1] s[j] ≤ 0 by omega)).2 (.inr (show cmp3 s[j - 1] s[j] < 0 by omega))
  · rw [words_mem ht ol, ← hp.mem_iff]
    constructor
    · intro hz
      obtain ⟨i, hi, rfl⟩ := List.mem_map.1 hz
      have := List.mem_range.1 (List.mem_filter.1 hi).1
      rw [gv_eq this]
      exact List.getElem_mem this
    · intro hz
      obtain ⟨i, hi, rfl⟩ := List.getElem_of_mem hz
      have key : ∀ (i : Nat) (hi : i < s.length), s[i] ∈ unlN s s.length := by
        intro i
        induction i with
        | zero =>
          intro hi
          refine List.mem_map.2 ⟨0, List.mem_filter.2 ⟨List.mem_range.2 hi, rfl⟩, gv_eq hi⟩
        | succ i ih =>
          intro hi
          by_cases hk : keepsV s (i + 1) = true
          · exact List.mem_map.2 ⟨i + 1, List.mem_filter.2 ⟨List.mem_range.2 hi, hk⟩, gv_eq hi⟩
          · unfold keepsV at hk
            rw [gv_eq hi, gv_eq (show i + 1 - 1 < s.length by omega)] at hk
            have h0 : cmp3 s[i + 1] (s[i]'(by omega)) = 0 := by simpa using hk
            have e := (cmp3_zero ht (os _ (List.getElem_mem hi)) (os _ (List.getElem_mem (show i < s.length by omega)))).1 h0
            rw [e]
            exact ih (by omega)
      exact key i hi
theorem Cells3.get {w : World} {g : Nat} {d : List Val3} (h : Cells3 w g d) (k : Nat) (hk : k < d.length) :
    w.cell? ⟨g, k * 3, none⟩ = some (.int .i64 d[k].1) ∧ w.cell? ⟨g, k * 3 + 1, none⟩ = some (.int .i64 d[k].2.1) ∧ w.cell? ⟨g, k * 3 + 2, none⟩ = some (.string d[k].2.2) ∧ w.frozen? ⟨g, k * 3, none⟩ = false ∧ w.frozen? ⟨g, k * 3 + 1, none⟩ = false ∧ w.frozen? ⟨g, k * 3 + 2, none⟩ = false := by
  obtain ⟨h0, h1, h2⟩ := fl_get d k hk
  exact ⟨(h.2 _ _ h0).1, (h.2 _ _ h1).1, (h.2 _ _ h2).1, (h.2 _ _ h0).2, (h.2 _ _ h1).2, (h.2 _ _ h2).2⟩
end Go.Proofs.YtldalkhmbpkjpaaGreatDoor

/- The walk of slices.CompactFunc at values. -/

namespace Go.Proofs.YtldalkhmbpkjpaaGreatDoor
open Go.RowKit
set_option linter.unusedVariables false

theorem below_setCells (base g : Nat) (hg : base ≤ g) : ∀ (vs : List Value) (o : Nat) (a w : World), Below base a w → Below base a (w.setCells g o vs)
  | [], _, _, _, h => h
  | v :: r, o, a, w, h => below_setCells base g hg r (o + 1) a _ (h.setCell (p := ⟨g, o, none⟩) hg v)
theorem Cells3.later {w w' : World} {g : Nat} {d : List Val3} (h : Cells3 w g d) (l : Later w w') : Cells3 w' g d := by
  refine ⟨Nat.lt_of_lt_of_le h.1 l.size, fun j v hv => ?_⟩
  obtain ⟨h1, h2⟩ := h.2 j v hv
  refine ⟨l.cell h1, ?_⟩
  have e := Below.block l g h.1
  unfold World.frozen? at h2 ⊢
  rw [e]
  exact h2
theorem cells3_set {w : World} {g : Nat} {c : List Val3} (h : Cells3 w g c) (k : Nat) (hk : k < c.length) (u : Val3) : Cells3 (w.setCells g (k * 3) (encV u)) g (c.set k u) := by
  refine ⟨Nat.lt_of_lt_of_le h.1 (below_setCells 0 g (Nat.zero_le _) _ _ w w (Below.refl _ _)).size, fun j v hv => ?_⟩
  have hj := (List.getElem?_eq_some_iff.1 hv).1
  rw [fl_length, List.length_set] at hj
  have hq : j / 3 < c.length := by omega
  have e := fl_enc (c.set k u) (j / 3) (by rw [List.length_set]; exact hq) (j % 3) (Nat.mod_lt _ (by decide))
  rw [show j / 3 * 3 + j % 3 = j by omega, hv] at e
  have hin : ∀ i, i < (encV u).length → (w.cell? ⟨g, k * 3 + i, none⟩).isSome = true := by
    intro i hi
    rw [encV_len] at hi
    have e1 := fl_enc c k hk i hi
    rw [List.getElem?_eq_getElem (show i < (encV c[k]).length by rw [encV_len]; exact hi)] at e1
    rw [(h.2 _ _ e1).1]; rfl
  rw [World.frozen?_setCells]
  by_cases hjk : j / 3 = k
  · have h3 : j % 3 < (encV u).length := by rw [encV_len]; exact Nat.mod_lt _ (by decide)
    have e2 := World.cell?_setCells_in g (encV u) (k * 3) w hin (j % 3) h3
    rw [show k * 3 + j % 3 = j by omega] at e2
    have e3 : (c.set k u)[j / 3]'(by rw [List.length_set]; exact hq) = u := by subst hjk; exact List.getElem_set_self _
    rw [e3, List.getElem?_eq_getElem h3] at e
    injection e with e
    have ho := fl_enc c (j / 3) hq (j % 3) (Nat.mod_lt _ (by decide))
    rw [show j / 3 * 3 + j % 3 = j by omega, List.getElem?_eq_getElem (show j % 3 < (encV c[j / 3]).length by rw [encV_len]; exact Nat.mod_lt _ (by decide))] at ho
    exact ⟨by rw [e2, e], (h.2 _ _ ho).2⟩
  · have e3 : (c.set k u)[j / 3]'(by rw [List.length_set]; exact hq) = c[j / 3] := List.getElem_set_ne (fun e => hjk e.symm) _
    rw [e3] at e
    have ho := fl_enc c (j / 3) hq (j % 3) (Nat.mod_lt _ (by decide))
    rw [show j / 3 * 3 + j % 3 = j by omega] at ho
    obtain ⟨a1, a2⟩ := h.2 j v (by rw [ho]; exact e.symm)
    exact ⟨by rw [World.cell?_setCells_out g (encV u) (k * 3) w ⟨g, j, none⟩ (fun _ _ => by rw [encV_len]; show j < k * 3 ∨ k * 3 + 3 ≤ j; omega)]; exact a1, a2⟩
/-- clear, of values. -/
theorem run_clear3 (w : World) (ty : TypeId) (g o n c : Nat) (hn : 0 < n) (hc : ∀ j, j < n * 3 → (w.cell? ⟨g, o + j, none⟩).isSome = true) (hf : ∀ j, j < n * 3 → w.frozen? ⟨g, o + j, none⟩ = false) :
    (Builtin.clear_ #[23] ty #[.slice (some ⟨g, o, none⟩) n c]).run Tryz.prog w = .ok (.tuple #[]) (w.setCells g o (Builtin.zeroCells #[.int .i64 0, .int .i64 0, .string ⟨#[]⟩] n).toList) := by
  have hlen : (Builtin.zeroCells #[.int .i64 0, .int .i64 0, .string ⟨#[]⟩] n).toList.length = n * 3 := by simp [Builtin.zeroCells]
  have hone : ∀ v ∈ (Builtin.zeroCells #[.int .i64 0, .int .i64 0, .string ⟨#[]⟩] n).toList, v.oneCell' = true := by
    intro v hv
    simp [Builtin.zeroCells] at hv
    obtain ⟨i, _, rfl⟩ := hv
    have : i % 3 < 3 := Nat.mod_lt _ (by decide)
    obtain h | h | h : i % 3 = 0 ∨ i % 3 = 1 ∨ i % 3 = 2 := by omega
    all_goals rw [h]; rfl
  have hst := run_storeCells_cells (P := Tryz.prog) g o (Builtin.zeroCells #[.int .i64 0, .int .i64 0, .string ⟨#[]⟩] n).toList 0 w (by rw [hlen]; simpa using hc) (by rw [hlen]; simpa using hf) hone
  simp only [Nat.add_zero] at hst
  obtain ⟨m, rfl⟩ : ∃ m, n = m + 1 := ⟨n - 1, by omega⟩
  have hz : ∀ w, (zeroValue 26).run Tryz.prog w = .ok (vagg 0 0 ⟨#[]⟩) w := Tryz.zeroValue26
  simp [Builtin.clear_, run_underlying Tryz.underlying23, hz, hst, Value.cells]
theorem has_setCells {w : World} {g k : Nat} {c : List Val3} (h : Cells3 w g c) (vs : List Value) (hk : k ≤ c.length) : Has (w.setCells g (k * 3) vs) (some ⟨g, 0, none⟩) (fl (c.take k)) := by
  refine .inr ⟨g, 0, rfl, Nat.lt_of_lt_of_le h.1 (below_setCells 0 g (Nat.zero_le _) _ _ w w (Below.refl _ _)).size, fun j v hv => ?_⟩
  have hj := (List.getElem?_eq_some_iff.1 hv).1
  rw [fl_length, List.length_take] at hj
  rw [fl_take, List.getElem?_take_of_lt (by omega)] at hv
  rw [Nat.zero_add, World.cell?_setCells_out g vs (k * 3) w ⟨g, j, none⟩ (fun _ _ => .inl (by show j < k * 3; omega))]
  exact (h.2 j v hv).1
/-- Where CompactFunc's inner loop stands. -/
def CInv (s : List Val3) (g base k0 n : Nat) (w : World) (kv k2v : Value) (wr : World) : Prop :=
  ∃ (k k2 : Nat) (c : List Val3), kv = .int .i64 k ∧ k2v = .int .i64 k2 ∧ 1 ≤ k2 ∧ k0 + k2 ≤ n ∧ k + 1 ≤ k0 + k2 ∧ 1 ≤ k ∧ k = (unlN s (k0 + k2)).length ∧ c.length = n ∧ c.take k = unlN s (k0 + k2) ∧ c.drop (k0 + k2 - 1) = s.drop (k0 + k2 - 1) ∧ Cells3 wr g c ∧ Below base w wr
theorem CInv.mk {s : List Val3} {g base k0 n : Nat} {w wr : World} (k k2 : Nat) (c : List Val3) (x y : Int) (hx : x = (k : Int)) (hy : y = (k2 : Int)) (h1 : 1 ≤ k2) (h2 : k0 + k2 ≤ n) (h3 : k + 1 ≤ k0 + k2) (h4 : 1 ≤ k) (h5 : k = (unlN s (k0 + k2)).length) (h6 : c.length = n) (h7 : c.take k = unlN s (k0 + k2)) (h8 : c.drop (k0 + k2 - 1) = s.drop (k0 + k2 - 1)) (h9 : Cells3 wr g c) (h10 : Below base w wr) : CInv s g base k0 n w (.int .i64 x) (.int .i64 y) wr := by
  subst hx hy; exact ⟨k, k2, c, rfl, rfl, h1, h2, h3, h4, h5, h6, h7, h8, h9, h10⟩
theorem drop_get_eq {c s : List Val3} {q i : Nat} (h : c.drop q = s.drop q) (hqi : q ≤ i) (hc : i < c.length) (hs : i < s.length) : c[i] = s[i] := by
  have e : (c.drop q)[i - q]? = (s.drop q)[i - q]? := by rw [h]
  rw [List.getElem?_drop, List.getElem?_drop, show q + (i - q) = i by omega, List.getElem?_eq_getElem hc, List.getElem?_eq_getElem hs] at e
  injection e
theorem keeps_iff {s : List Val3} {i : Nat} (hi : i + 1 < s.length) : keepsV s (i + 1) = !(decide (cmp3 s[i + 1] s[i] = 0)) := by
  unfold keepsV
  rw [gv_eq hi, gv_eq (show i + 1 - 1 < s.length by omega)]
  simp

set_option maxRecDepth 100000 in
set_option maxHeartbeats 4000000 in
theorem compact_any (g n cap base : Nat) (s : List Val3) (w : World) (hn : n = s.length) (hg : base ≤ g) (hc : Cells3 w g s) (hcap : n ≤ cap) (hl : n ≤ 100000) :
    Calls Tryz.prog 111 #[.slice (some ⟨g, 0, none⟩) n cap, .func (.func 112) #[] #[]] w fun e w' => ∃ m, e = .returned (.slice (some ⟨g, 0, none⟩) m cap) ∧ m = (unlN s n).length ∧ Has w' (some ⟨g, 0, none⟩) (fl (unlN s n)) ∧ Below base w w' := by
  have eg : ∀ args w, (callFunc 112 args).run Tryz.prog w = .ok (.enter 112 args) w := enters_of Tryz.func112 (by kernel_rfl) rfl
  have mixed : Tryz.prog.follows .mixedOrders = true := by kernel_rfl
  have HN := Lib.hid hn
  have HC0 := Lib.hid hc
  have HG := Lib.hid hg
  have hzero : unlN s s.length = s.take s.length → unlN s s.length = s := fun h => by rw [h, List.take_length]
  by_cases h2 : n < 2
  · have hall : unlN s n = s := by
      rw [hn]; rw [hn] at h2
      refine hzero (unlN_all (Nat.le_refl _) fun i hi => ?_)
      obtain rfl : i = 0 := by omega
      rfl
    have HALL := Lib.hid hall
    have d1 : (n : Int) < 2 := by omega
    clear hn hc hg hzero hall
    go_enter Tryz.func111, Tryz.ntmps111
    go_wp2_with fail
    go_ret
    exact ⟨n, rfl, by rw [HALL.out]; exact HN.out, by rw [HALL.out]; exact HC0.out.has, Below.refl _ _⟩
  · have d1 : ¬ (n : Int) < 2 := by omega
    clear hn hc hg hzero
    go_enter Tryz.func111, Tryz.ntmps111
    go_wp2_with fail
    go_loopw [5] (fun kv wr => ∃ k : Nat, 1 ≤ k ∧ k ≤ n ∧ kv = .int .i64 k ∧ (∀ i, i < k → keepsV s i = true) ∧ Cells3 wr g s ∧ Below base w wr) (fun kv _ => n - (intOf kv).toNat)
    case atStart =>
      refine ⟨1, Nat.le_refl _, by omega, rfl, fun i hi => ?_, HC0.out, Below.refl _ _⟩
      have h0 : i = 0 := by omega
      subst h0
      rfl
    case round =>
      obtain ⟨k, hk1, hkn, rfl, hkeep, hcl, hbel⟩ := hrel
      by_cases hlt : k < n
      · obtain ⟨kp, hkp⟩ : ∃ kp, k = kp + 1 := ⟨k - 1, by omega⟩
        have hks : k < s.length := by have := HN.out; omega
        have hps : kp < s.length := by omega
        obtain ⟨c0, c1, c2, _, _, _⟩ := hcl.get k hks
        obtain ⟨p0, p1, p2, _, _, _⟩ := hcl.get kp hps
        have HCG := Lib.hid (fun (q : Nat) (os : Array Obj) => alike_g s[k] s[kp] (Go.Sort.grow (wr.drewN q) os))
        obtain ⟨bq, hbq⟩ : ∃ bq, bq = decide (cmp3 s[k] s[kp] = 0) := ⟨_, rfl⟩
        rw [← hbq] at HCG
        have HKV := Lib.hid (show keepsV s k = !bq by subst hkp; rw [keeps_iff hks, hbq])
        generalize s[k].1 = xt at c0 HCG
        generalize s[k].2.1 = xi at c1 HCG
        generalize s[k].2.2 = xs at c2 HCG
        generalize s[kp].1 = yt at p0 HCG
        generalize s[kp].2.1 = yi at p1 HCG
        generalize s[kp].2.2 = ys at p2 HCG
        have hgs := hcl.1
        have a0 := fun (q : Nat) (os : Array Obj) => Go.cell_grown (w := wr) hgs c0 q os
        have a1 := fun (q : Nat) (os : Array Obj) => Go.cell_grown (w := wr) hgs c1 q os
        have a2 := fun (q : Nat) (os : Array Obj) => Go.cell_grown (w := wr) hgs c2 q os
        have b0 := fun (q : Nat) (os : Array Obj) => Go.cell_grown (w := wr) hgs p0 q os
        have b1 := fun (q : Nat) (os : Array Obj) => Go.cell_grown (w := wr) hgs p1 q os
        have b2 := fun (q : Nat) (os : Array Obj) => Go.cell_grown (w := wr) hgs p2 q os
        have hki : (k : Int) < (n : Int) := by omega
        have hk0 : (0 : Int) ≤ (k : Int) := by omega
        have hkm : (k : Int) - 1 = (kp : Int) := by omega
        have hkmw : IntKind.i64.wrap ((k : Int) - 1) = (kp : Int) := by rw [hkm]; exact IntWalk.i64_in _ ⟨by omega, by omega⟩
        have hp0 : (0 : Int) ≤ (kp : Int) := by omega
        have hpi : (kp : Int) < (n : Int) := by omega
        have HCL := Lib.hid hcl
        have HBEL := Lib.hid hbel
        have HKEEP := Lib.hid hkeep
        have HKP := Lib.hid hkp
        clear c0 c1 c2 p0 p1 p2 hcl hbel hkeep hkp hbq hps hkm
        cases bq with
        | false =>
          go_wp2_with fail
          go_quiet_grown (first | (go_at_call 112; refine Go.Calls.grown_of (HCG.out _ _)))
          go_wp2_with fail
          go_roundw
          case rel =>
            refine ⟨k + 1, by omega, hlt, by go_num, fun i hi => ?_, HCL.out.later (grow_later _ _ _), HBEL.out.trans ((grow_later wr nq osq).below.mono (by have := HCL.out.1; have := HG.out; omega))⟩
            rcases Nat.lt_or_ge i k with h | h
            · exact HKEEP.out i h
            · obtain rfl : i = k := by omega
              exact HKV.out
          case measure => simp [intOf]; omega
        | true =>
          go_wp2_with fail
          go_quiet_grown (first | (go_at_call 112; refine Go.Calls.grown_of (HCG.out _ _)))
          obtain ⟨wo, hwo⟩ : ∃ wo, wo = Go.Sort.grow (wr.drewN nq) osq := ⟨_, rfl⟩
          have lo : Later wr wo := hwo ▸ grow_later wr nq osq
          have HCO := Lib.hid (HCL.out.later lo)
          have HBO := Lib.hid (HBEL.out.trans (lo.below.mono (by have := HCL.out.1; have := HG.out; omega)))
          rw [← hwo]
          clear hwo lo a0 a1 a2 b0 b1 b2 hgs HCG HCL HBEL hkmw hp0 hpi
          obtain ⟨m2, hm2⟩ : ∃ m2, m2 = n - k := ⟨_, rfl⟩
          have HM2 := Lib.hid hm2
          have j1 : (k : Int) ≤ (n : Int) := by omega
          have j2 : k ≤ n := by omega
          have j3 : ¬ cap = k := by omega
          have j4 : (k : Int) ≤ (cap : Int) := by omega
          clear hm2
          go_wp2_with fail
          rw [← HM2.out]
          go_loopw [5, 7] (fun kv k2v wr => CInv s g base k n w kv k2v wr) (fun _ k2v _ => m2 - (intOf k2v).toNat)
          case atStart =>
            have hu : unlN s (k + 1) = s.take k := by rw [unlN_succ, HKV.out, unlN_all (by omega) HKEEP.out]; simp
            exact CInv.mk k 1 s _ _ rfl rfl (Nat.le_refl _) (by omega) (Nat.le_refl _) hk1 (by rw [hu, List.length_take]; omega) HN.out.symm hu.symm rfl HCO.out HBO.out
          case round =>
            obtain ⟨kk, k2, c, rfl, rfl, h1, h2', h3, h4, h5, h6, h7, h8, hcl, hbel⟩ := hrel
            by_cases hlt2 : k2 < m2
            · obtain ⟨k2p, hk2p⟩ : ∃ k2p, k2 = k2p + 1 := ⟨k2 - 1, by omega⟩
              have ha : k + k2 < n := by have := HM2.out; omega
              have has : k + k2 < s.length := by have := HN.out; omega
              have haps : k + k2p < s.length := by omega
              have hac : k + k2 < c.length := by omega
              have hapc : k + k2p < c.length := by omega
              have eu : c[k + k2] = s[k + k2] := drop_get_eq h8 (by omega) hac has
              have ev : c[k + k2p] = s[k + k2p] := drop_get_eq h8 (by omega) hapc haps
              obtain ⟨c0, c1, c2, _, _, _⟩ := hcl.get (k + k2) hac
              obtain ⟨p0, p1, p2, _, _, _⟩ := hcl.get (k + k2p) hapc
              rw [eu, show (k + k2) * 3 = k * 3 + k2 * 3 by omega] at c0 c1 c2
              rw [ev, show (k + k2p) * 3 = k * 3 + k2p * 3 by omega] at p0 p1 p2
              have HCG := Lib.hid (fun (q : Nat) (os : Array Obj) => alike_g s[k + k2] s[k + k2p] (Go.Sort.grow (wr.drewN q) os))
              obtain ⟨bq, hbq⟩ : ∃ bq, bq = decide (cmp3 s[k + k2] s[k + k2p] = 0) := ⟨_, rfl⟩
              rw [← hbq] at HCG
              have HKV2 := Lib.hid (show keepsV s (k + k2) = !bq by
                subst hk2p
                have := keeps_iff (s := s) (i := k + k2p) (by omega)
                rw [hbq]; exact this)
              obtain ⟨u, hu⟩ : ∃ u, u = s[k + k2] := ⟨_, rfl⟩
              have HGU := Lib.hid (show gv s (k + k2) = u by rw [hu]; exact gv_eq has)
              rw [← hu] at c0 c1 c2 HCG
              obtain ⟨ut, ui, us⟩ := u
              generalize s[k + k2p].1 = yt at p0 HCG
              generalize s[k + k2p].2.1 = yi at p1 HCG
              generalize s[k + k2p].2.2 = ys at p2 HCG
              have hgs := hcl.1
              have a0 := fun (q : Nat) (os : Array Obj) => Go.cell_grown (w := wr) hgs c0 q os
              have a1 := fun (q : Nat) (os : Array Obj) => Go.cell_grown (w := wr) hgs c1 q os
              have a2 := fun (q : Nat) (os : Array Obj) => Go.cell_grown (w := wr) hgs c2 q os
              have b0 := fun (q : Nat) (os : Array Obj) => Go.cell_grown (w := wr) hgs p0 q os
              have b1 := fun (q : Nat) (os : Array Obj) => Go.cell_grown (w := wr) hgs p1 q os
              have b2 := fun (q : Nat) (os : Array Obj) => Go.cell_grown (w := wr) hgs p2 q os
              have q1 : (k2 : Int) < (m2 : Int) := by omega
              have q2 : (0 : Int) ≤ (k2 : Int) := by omega
              have q3 : (k2 : Int) - 1 = (k2p : Int) := by omega
              have q4 : IntKind.i64.wrap ((k2 : Int) - 1) = (k2p : Int) := by rw [q3]; exact IntWalk.i64_in _ ⟨by omega, by omega⟩
              have q5 : (0 : Int) ≤ (k2p : Int) := by omega
              have q6 : (k2p : Int) < (m2 : Int) := by omega
              have q7 : (0 : Int) ≤ (kk : Int) := by omega
              have q8 : (kk : Int) < (n : Int) := by omega
              have HCL := Lib.hid hcl
              have HBEL := Lib.hid hbel
              have H5 := Lib.hid h5
              have H6 := Lib.hid h6
              have H7 := Lib.hid h7
              have H8 := Lib.hid (show c.drop (k + (k2 + 1) - 1) = s.drop (k + (k2 + 1) - 1) by
                have e := congrArg (List.drop 1) h8
                rw [List.drop_drop, List.drop_drop] at e
                rw [show k + (k2 + 1) - 1 = k + k2 - 1 + 1 by omega]
                exact e)
              have HH := Lib.hid (show k + k2 < n ∧ 1 ≤ k2 ∧ kk + 1 ≤ k + k2 ∧ 1 ≤ kk ∧ k2 < m2 from ⟨ha, h1, h3, h4, hlt2⟩)
              clear c0 c1 c2 p0 p1 p2 hcl hbel hbq h5 h6 h7 h8 eu ev hu hk2p q3 haps hapc has hac
              cases bq with
              | true =>
                go_wp2_with fail
                go_quiet_grown (first | (go_at_call 112; refine Go.Calls.grown_of (HCG.out _ _)))
                go_wp2_with fail
                go_roundw
                case rel =>
                  have hu1 : unlN s (k + (k2 + 1)) = unlN s (k + k2) := by rw [← Nat.add_assoc, unlN_succ, HKV2.out]; simp
                  have hh := HH.out
                  exact CInv.mk kk (k2 + 1) c _ _ rfl (by go_num) (by omega) (by omega) (by omega) (by omega) (by rw [hu1]; exact H5.out) H6.out (by rw [hu1]; exact H7.out) H8.out (HCL.out.later (grow_later _ _ _)) (HBEL.out.trans ((grow_later wr nq osq).below.mono (by have := HCL.out.1; have := HG.out; omega)))
                case measure => have hh := HH.out; simp [intOf]; omega
              | false =>
                go_wp2_with fail
                go_quiet_grown (first | (go_at_call 112; refine Go.Calls.grown_of (HCG.out _ _)))
                obtain ⟨wz, hwz⟩ : ∃ wz, wz = Go.Sort.grow (wr.drewN nq) osq := ⟨_, rfl⟩
                have lz : Later wr wz := hwz ▸ grow_later wr nq osq
                have HCZ := Lib.hid (HCL.out.later lz)
                have HBZ := Lib.hid (HBEL.out.trans (lz.below.mono (by have := HCL.out.1; have := HG.out; omega)))
                have u0 := a0 nq osq
                have u1 := a1 nq osq
                have u2 := a2 nq osq
                rw [← hwz] at u0 u1 u2 ⊢
                obtain ⟨o0, o1, o2, f0, f1, f2⟩ := HCZ.out.get kk (by have := H6.out; omega)
                clear hwz lz a0 a1 a2 b0 b1 b2 hgs HCG HCL HBEL
                go_wp2_with fail
                go_roundw
                case rel =>
                  have hh := HH.out
                  have h6 := H6.out
                  have hu1 : unlN s (k + (k2 + 1)) = unlN s (k + k2) ++ [(ut, ui, us)] := by rw [← Nat.add_assoc, unlN_succ, HKV2.out, HGU.out]; rfl
                  refine CInv.mk (kk + 1) (k2 + 1) (c.set kk (ut, ui, us)) _ _ (by go_num) (by go_num) (by omega) (by omega) (by omega) (by omega) (by rw [hu1, List.length_append, ← H5.out]; rfl) (by rw [List.length_set]; exact h6) ?_ ?_ (cells3_set HCZ.out kk (by omega) (ut, ui, us)) (below_setCells base g HG.out (encV (ut, ui, us)) (kk * 3) _ _ HBZ.out)
                  · rw [hu1, ← H7.out, List.take_succ_eq_append_getElem (by rw [List.length_set]; omega), List.take_set_of_le (Nat.le_refl _), List.getElem_set_self]
                  · rw [List.drop_set_of_lt (by omega)]
                    exact H8.out
                case measure => have hh := HH.out; simp [intOf]; omega
            · obtain rfl : k2 = m2 := by have := HM2.out; omega
              have hkn2 : k + k2 = n := by have := HM2.out; omega
              rw [hkn2] at h5 h7
              have hck : kk ≤ c.length := by omega
              have hclr : ∀ ty, (Builtin.clear_ #[23] ty #[.slice (some ⟨g, kk * 3, none⟩) (n - kk) (cap - kk)]).run Tryz.prog wr = .ok (.tuple #[]) (wr.setCells g (kk * 3) (Builtin.zeroCells #[.int .i64 0, .int .i64 0, .string ⟨#[]⟩] (n - kk)).toList) := fun ty => run_clear3 wr ty g (kk * 3) (n - kk) (cap - kk) (by omega) (fun j hj => by
                  have hjl : kk * 3 + j < (fl c).length := by rw [fl_length]; omega
                  rw [(hcl.2 _ _ (List.getElem?_eq_getElem hjl)).1]; rfl) (fun j hj => by
                  have hjl : kk * 3 + j < (fl c).length := by rw [fl_length]; omega
                  exact (hcl.2 _ _ (List.getElem?_eq_getElem hjl)).2)
              have HHAS := Lib.hid (has_setCells hcl (Builtin.zeroCells #[.int .i64 0, .int .i64 0, .string ⟨#[]⟩] (n - kk)).toList hck)
              have HBB := Lib.hid (below_setCells base g HG.out (Builtin.zeroCells #[.int .i64 0, .int .i64 0, .string ⟨#[]⟩] (n - kk)).toList (kk * 3) _ _ hbel)
              have H5 := Lib.hid h5
              have H7 := Lib.hid h7
              have q1 : ¬ (k2 : Int) < (k2 : Int) := by omega
              have q2 : (kk : Int) ≤ (n : Int) := by omega
              have q3 : kk ≤ n := by omega
              have q4 : ¬ cap = kk := by omega
              have q5 : (kk : Int) ≤ (cap : Int) := by omega
              have q6 : (0 : Int) ≤ (kk : Int) := by omega
              have q7 : kk ≤ cap := by omega
              clear hcl hbel h5 h7 h8 h6 hck h1 h2' h3 hlt2 hkn2
              go_wp2_with fail
              go_ret
              exact ⟨kk, rfl, H5.out, by rw [← H7.out]; exact HHAS.out, HBB.out⟩
      · obtain rfl : k = n := by omega
        have hall : unlN s k = s := by
          have h1 := HN.out
          rw [unlN_all (by omega) hkeep, h1, List.take_length]
        have HALL := Lib.hid hall
        have HCL := Lib.hid hcl
        have HBEL := Lib.hid hbel
        clear hkeep hcl hbel hall hlt
        go_wp2_with fail
        go_ret
        exact ⟨k, rfl, by rw [HALL.out]; exact HN.out, by rw [HALL.out]; exact HCL.out.has, HBEL.out⟩
end Go.Proofs.YtldalkhmbpkjpaaGreatDoor

/- slices.SortFunc of none; slices.Clone at values; package dict: unlike. -/

namespace Go.Proofs.YtldalkhmbpkjpaaGreatDoor
open Go.RowKit
set_option linter.unusedVariables false

set_option maxRecDepth 100000 in
theorem insert_none (A : Option Addr) (c : Nat) (f : Value) (w : World) : Calls Tryz.prog 133 #[.slice A 0 c, .int .i64 0, .int .i64 0, f] w fun e w' => e = .returned (.tuple #[]) ∧ w = w' := by
  go_enter Tryz.func133, Tryz.ntmps133
  go_wp2_with fail
  go_loopw [8] (fun iv wr => iv = .int .i64 1 ∧ w = wr) (fun _ _ => 0)
  case atStart => exact ⟨rfl, rfl⟩
  case round =>
    obtain ⟨rfl, rfl⟩ := hrel
    go_wp2_with fail
    go_end0
    exact ⟨rfl, rfl⟩
set_option maxRecDepth 100000 in
theorem pdq_none (A : Option Addr) (c : Nat) (lim : Int) (f : Value) (w : World) : Calls Tryz.prog 126 #[.slice A 0 c, .int .i64 0, .int .i64 0, .int .i64 lim, f] w fun e w' => e = .returned (.tuple #[]) ∧ w = w' := by
  go_enter Tryz.func126, Tryz.ntmps126
  go_wp2_with fail
  go_loopw [1, 2, 3, 10, 11] (fun a b l u v wr => a = .int .i64 0 ∧ b = .int .i64 0 ∧ l = .int .i64 lim ∧ u = .bool true ∧ v = .bool true ∧ w = wr) (fun _ _ _ _ _ _ => 0)
  case atStart => exact ⟨rfl, rfl, rfl, rfl, rfl, rfl⟩
  case round =>
    obtain ⟨rfl, rfl, rfl, rfl, rfl, rfl⟩ := hrel
    go_wp2_with fail
    refine (insert_none A c f _).mono ?_
    rintro e w' ⟨rfl, rfl⟩
    go_wp2_with fail
    first
      | exact bodyPost_ret (results_none _ _ _ _) rfl ⟨rfl, rfl⟩
      | exact bodyPost_ret (results_none _ _ (by rfl) (by rfl)) rfl ⟨rfl, rfl⟩
      | exact bodyPost_ret (v := .tuple #[]) (by simp [results, go_sem]) rfl ⟨rfl, rfl⟩
set_option maxRecDepth 100000 in
theorem sort_none (A : Option Addr) (c : Nat) (f : Value) (w : World) : Calls Tryz.prog 110 #[.slice A 0 c, f] w fun e w' => e = .returned (.tuple #[]) ∧ w = w' := by
  have hb := fun w' => Tryz.bits_Len 0 w' (by decide) (by decide)
  go_enter Tryz.func110, Tryz.ntmps110
  go_wp2_with (first
    | (go_at_call 127; refine (hb _).mono ?_; rintro e w' ⟨rfl, rfl⟩)
    | (go_at_call 126; refine (pdq_none A c _ f _).mono ?_; rintro e w' ⟨rfl, rfl⟩))
  go_end0
  exact ⟨rfl, rfl⟩

set_option maxRecDepth 100000 in
theorem compact_none (A : Option Addr) (c : Nat) (f : Value) (w : World) : Calls Tryz.prog 111 #[.slice A 0 c, f] w fun e w' => e = .returned (.slice A 0 c) ∧ w = w' := by
  go_enter Tryz.func111, Tryz.ntmps111
  go_wp2_with fail
  go_ret
  exact ⟨rfl, rfl⟩
set_option maxRecDepth 100000 in
theorem clone_any (A : Option Addr) (n c : Nat) (l : List Val3) (w : World) (hn : n = l.length) (hl : l.length ≤ 100000) (hr : Has w A (fl l)) :
    Calls Tryz.prog 109 #[.slice A n c] w fun e w' => ∃ B cap, e = .returned (.slice B n cap) ∧ w'.ownsRow w.heap.size 26 3 (.slice B n cap) n (fl l) ∧ Later w w' := by
  have q22 : ∀ (w : World) (a : Option Addr) (n c n' c' : Nat), (binOp .eql 23 (.slice a n c) (.slice none n' c')).run Tryz.prog w = .ok (.bool a.isNone) w := fun w a n c n' c' => Lib.run_eql_slice_nil w _ _ a n c n' c' Tryz.underlying23
  rcases A with _ | a
  · have h0 : l = [] := by
      rcases hr with h | ⟨_, _, h, _⟩
      · have h := congrArg List.length h
        rw [fl_length] at h
        have h : l.length * 3 = 0 := h
        exact List.eq_nil_of_length_eq_zero (by omega)
      · cases h
    subst h0
    have hn0 : n = 0 := hn
    clear hn hl
    subst hn0
    have qn : ∀ (w : World), (binOp .eql 23 (.slice none 0 c) (.slice none 0 0)).run Tryz.prog w = .ok (.bool true) w := fun w => q22 w none 0 c 0 0
    clear hr q22
    go_enter Tryz.func109, Tryz.ntmps109
    go_wp2_with fail
    go_ret
    exact ⟨none, 0, rfl, ownG_nil _ _ _ _, Later.refl _⟩
  · have l1 := Later.new w (.cells ([] : List Value).toArray 26)
    have OW := Lib.hid ((Blk.new w ([] : List Value).toArray 26 _ rfl).ownG (base := w.heap.size) (size := 3) (n := 0) (Nat.le_refl _) rfl (by decide))
    have HR := Lib.hid (hr.later l1)
    have HL1 := Lib.hid l1
    have HN := Lib.hid hn
    have HNN := Lib.hid (show (fl l).length = n * 3 by rw [fl_length, hn])
    have hn9 : n ≤ 100000 := by omega
    clear hr l1 hn hl
    go_enter Tryz.func109, Tryz.ntmps109
    go_wp2_with (at_builtin; refine wpList_append_g _ rfl (.tmp 5) (.tmp 6) 23 rfl w.heap.size 26 (vagg 0 0 ⟨#[]⟩) 3 32 Tryz.underlying23 info_v rfl (by decide) _ 0 [] rfl OW.out _ n c (fl l) rfl HR.out HNN.out (by intro h; cases h) (fl_one _) (by unfold maxLen; omega) (by omega) ?_ ?_; (exact HL1.out.size); intro A2 c2 w6 o2 g2 b2 n2; simp only [Nat.zero_add, List.nil_append] at o2; have HO2 := Lib.hid o2; have HB6 := Lib.hid (Later.of (HL1.out.below.trans b2)); clear o2 g2 b2 n2)
    go_ret
    exact ⟨A2, c2, by simp, HO2.out, HB6.out⟩

set_option maxRecDepth 100000 in
set_option maxHeartbeats 1000000 in
/-- The unlike values, rising. -/
theorem unlike_any (t : Int) (ht : 1 ≤ t ∧ t ≤ 4) (A : Option Addr) (n c : Nat) (l : List Val3) (w : World) (hn : n = l.length) (hl : l.length ≤ 1000) (hr : Has w A (fl l)) (ol : OkL t l) :
    Calls Tryz.prog 90 #[.slice A n c] w fun e w' => ∃ B m cap, e = .returned (.slice B m cap) ∧ m = (wordsOf l).length ∧ Has w' B (fl (wordsOf l)) ∧ Later w w' := by
  have HCL := Lib.hid (clone_any A n c l w hn (by omega) hr)
  by_cases h0 : n = 0
  · have hl0 : l = [] := List.eq_nil_of_length_eq_zero (by omega)
    subst h0
    subst hl0
    clear hn hl hr ol
    go_enter Tryz.func90, Tryz.ntmps90
    go_wp2_with fail
    refine HCL.out.mono ?_
    rintro e w1 ⟨B, cap, rfl, _, l1⟩
    go_wp2_with (first
      | (go_at_call 110; refine (sort_none B cap _ _).mono ?_; rintro e w' ⟨rfl, rfl⟩)
      | (go_at_call 111; refine (compact_none B cap _ _).mono ?_; rintro e w' ⟨rfl, rfl⟩))
    go_ret
    exact ⟨B, 0, cap, rfl, rfl, Has.nil_, l1⟩
  · have HN := Lib.hid hn
    have HOL := Lib.hid ol
    have HT := Lib.hid ht
    have hn9 : n ≤ 1000 := by omega
    clear hn hl hr ol ht
    go_enter Tryz.func90, Tryz.ntmps90
    go_wp2_with fail
    refine HCL.out.mono ?_
    rintro e w1 ⟨B, cap, rfl, own, l1⟩
    obtain ⟨g, hgB, hg, hglt, hcap⟩ : ∃ g, B = some ⟨g, 0, none⟩ ∧ w.heap.size ≤ g ∧ g < w1.heap.size ∧ n ≤ cap := by
      rcases own.2 with ⟨h1, h2⟩ | ⟨g, cap', cur, h1, hbg, hgc, hle, _⟩
      · exact absurd h2 h0
      · injection h1 with e1 e2 e3
        refine ⟨g, e1, hbg, ?_, by omega⟩
        rcases Nat.lt_or_ge g w1.heap.size with h' | h'
        · exact h'
        · rw [Array.getElem?_eq_none h'] at hgc; cases hgc
    subst hgB
    have HC1 := Lib.hid (cells3_own own hglt)
    have HL1 := Lib.hid l1
    have HS := Lib.hid (sortV_any g cap w.heap.size l w1 hg HC1.out (by have := HN.out; omega))
    rw [← HN.out] at HS
    have HG := Lib.hid hg
    clear own hglt l1 hg HCL
    go_wp2_with fail
    refine HS.out.mono ?_
    rintro e w2 ⟨rfl, d, hperm, hsort, hc2, b2⟩
    have hdn : n = d.length := by rw [hperm.length_eq]; exact HN.out
    have HW := Lib.hid (show unlN d n = wordsOf l by rw [hdn]; exact unlN_words HT.out HOL.out hperm (hsort.imp fun h => by omega))
    have HK := Lib.hid (compact_any g n cap w.heap.size d w2 hdn HG.out hc2 hcap (by omega))
    rw [HW.out] at HK
    have HB2 := Lib.hid (Later.of (HL1.out.below.trans b2))
    clear hperm hsort hc2 b2 HS hdn
    go_wp2_with fail
    refine HK.out.mono ?_
    rintro e w3 ⟨m, rfl, hm, hhas, b3⟩
    have HB3 := Lib.hid (Later.of (HB2.out.below.trans b3))
    have HHAS := Lib.hid hhas
    have HM := Lib.hid hm
    clear hhas b3 HK hm
    go_wp2_with fail
    go_ret
    exact ⟨_, m, cap, rfl, HM.out, HHAS.out, HB3.out⟩
end Go.Proofs.YtldalkhmbpkjpaaGreatDoor

/- Walks of package dict: width, write, Put. -/

namespace Go.Proofs.YtldalkhmbpkjpaaGreatDoor
open Go.RowKit
set_option linter.unusedVariables false

set_option maxRecDepth 100000 in
theorem dictWidth_any (n : Nat) (w : World) (hn : n ≤ 1000000) : Calls Tryz.prog 93 #[.int .i64 n] w fun e w' => e = .returned (.int .i64 (widD n : Nat)) ∧ Later w w' := by
  by_cases h0 : n = 0
  · have d0 : ((n : Int) == 0) = true := by simp [h0]
    have HW := Lib.hid (show widD n = 0 by unfold widD; rw [if_pos h0])
    clear h0 hn
    go_enter Tryz.func93, Tryz.ntmps93
    go_wp2_with fail
    go_ret
    exact ⟨by rw [HW.out]; rfl, Later.refl _⟩
  · have d0 : ((n : Int) == 0) = false := by rw [beq_eq_false_iff_ne]; omega
    obtain ⟨m, hm⟩ : ∃ m, n = m + 1 := ⟨n - 1, by omega⟩
    have hsub : (n : Int) - 1 = (m : Int) := by omega
    have hsubw : IntKind.i64.wrap ((n : Int) - 1) = (m : Int) := by rw [hsub]; exact IntWalk.i64_in _ ⟨by omega, by omega⟩
    have hmw : IntKind.u64.wrap (m : Int) = (m : Int) := by rw [IntKind.wrap_u64]; omega
    have HW := Lib.hid (show widL [m] = widD n by unfold widD; rw [if_neg h0, hm]; unfold widL; simp)
    have HB := Lib.hid (width_o (some ⟨w.heap.size, 0, none⟩) 1 1 [m] (w.alloc (.cells (ints .u64 [m]).toArray 63)) rfl (Has.row (Row.lit w 63 .u64 [m])) (by simp) (fun x hx => by rw [List.mem_singleton] at hx; omega))
    rw [HW.out] at HB
    clear h0 hm hsub hn
    go_enter Tryz.func93, Tryz.ntmps93
    go_wp2_with fail
    refine HB.out.mono ?_
    rintro e w' ⟨rfl, rfl⟩
    go_wp2_with fail
    go_ret
    exact ⟨rfl, Later.new _ _⟩

/-- Where write's loop stands. -/
def DWInv (pre : List Nat) (d : List Val3) (w3 : World) (bv iv : Value) (wr : World) : Prop :=
  ∃ (B : Option Addr) (n cb k : Nat), k ≤ d.length ∧ iv = .int .i64 k ∧ bv = .slice B n cb ∧ n = (pre ++ plainB (d.take k)).length ∧ wr.ownsRow w3.heap.size 5 1 (.slice B n cb) n (ints .u8 (pre ++ plainB (d.take k))) ∧ (B = none → cb = 0) ∧ Later w3 wr
theorem DWInv.mk {pre : List Nat} {d : List Val3} {w3 wr : World} (B : Option Addr) (n cb k : Nat) (i : Int) (hk : k ≤ d.length) (hi : i = (k : Int)) (hn : n = (pre ++ plainB (d.take k)).length) (ho : wr.ownsRow w3.heap.size 5 1 (.slice B n cb) n (ints .u8 (pre ++ plainB (d.take k)))) (hb : B = none → cb = 0) (lat : Later w3 wr) : DWInv pre d w3 (.slice B n cb) (.int .i64 i) wr := by
  subst hi; exact ⟨B, n, cb, k, hk, rfl, rfl, hn, ho, hb, lat⟩

set_option maxRecDepth 100000 in
set_option maxHeartbeats 2000000 in
theorem dictWrite_yes (t : Int) (A : Option Addr) (n c : Nat) (l : List Val3) (w : World) (hn : n = l.length) (hs : S6 w) (ht : 1 ≤ t ∧ t ≤ 4) (hl : l.length ≤ 1000) (hr : Has w A (fl l)) (ho : OkL t l) (h64 : All64 l) :
    Calls Tryz.prog 72 #[.int .i64 t, .slice A n c] w (WritesB (some (dictB l)) w) := by
  obtain ⟨a0, a2, a3, a4, S⟩ := hs.sn
  have HA := Lib.hid (all_yes t A c l a0 a2 a3 a4 w S ht (by omega) hr ho)
  rw [← hn] at HA
  have HUN := Lib.hid (fun w' (lz : Later w w') => unlike_any t ht A n c l w' hn hl (hr.later lz) ho)
  obtain ⟨d, hd⟩ : ∃ d, d = wordsOf l := ⟨_, rfl⟩
  obtain ⟨Q, hQ⟩ : ∃ Q, Q = putBits (places d l) (widD d.length) := ⟨_, rfl⟩
  have HBY := Lib.hid (show dictB l = putNum d.length ++ (plainB d ++ Q) by rw [hQ, hd]; rfl)
  have hdl := words_len l
  have HOD := Lib.hid (show OkL t d by rw [hd]; exact words_ok ht ho)
  have HD64 := Lib.hid (show All64 d by rw [hd]; exact words_64 ht ho h64)
  have HASC := Lib.hid (show Asc d by rw [hd]; exact words_asc ht ho)
  have HWL := Lib.hid (show widL (places d l) ≤ widD d.length by rw [hd]; exact places_wid ht ho)
  have HPLT := Lib.hid (show ∀ x ∈ places d l, x < 18446744073709551616 by
    intro x hx
    obtain ⟨v, hv, rfl⟩ := List.mem_map.1 hx
    have : placeOf d v ≤ d.length := List.countP_le_length
    rw [hd] at this
    rw [hd]
    omega)
  rw [← hd] at HUN hdl
  have HT := Lib.hid ht
  have HRL := Lib.hid hr
  have HNL := Lib.hid hn
  have HQQ := Lib.hid hQ
  have HQL := Lib.hid (show Q.length ≤ 8001 by
    have h1 := widD_le (n := d.length) (by omega)
    have h3 : l.length * widD d.length ≤ 1000 * 64 := Nat.mul_le_mul (by omega) h1
    rw [hQ, putBits_len, places_len]; omega)
  have hn9 : n ≤ 1000 := by omega
  have HDN := Lib.hid (show d.length ≤ 1000 by omega)
  clear S hs ht hl hr ho h64 hn hd hQ hdl
  go_enter Tryz.func72, Tryz.ntmps72
  go_wp2_with fail
  refine HA.out.mono ?_
  rintro e w1 ⟨rfl, l1⟩
  have L1 := Lib.hid l1
  clear l1 HA
  go_wp2_with fail
  refine (HUN.out w1 L1.out).mono ?_
  rintro e w3 ⟨D, m, dc, rfl, hm, hdh, l3⟩
  have HM := Lib.hid hm
  have L3 := Lib.hid (L1.out.trans l3)
  have HDH := Lib.hid hdh
  have hm9 : m ≤ 1000 := by have := HDN.out; omega
  have hmw : IntKind.u64.wrap (m : Int) = (m : Int) := by rw [IntKind.wrap_u64]; omega
  have HPM := Lib.hid (putNum_le m)
  clear hm hdh l3 HUN L1
  go_wp2_with fail
  refine (put_makes m (by omega) w3).mono ?_
  rintro e w4 ⟨P, cp, rfl, o4, b4, n4⟩
  have O4 := Lib.hid o4
  have L4 := Lib.hid (Later.of b4)
  have N4 := Lib.hid n4
  clear o4 b4 n4
  go_wp2_with fail
  go_loopw [8, 27] (fun bv iv wr => DWInv (putNum m) d w3 bv iv wr) (fun _ iv _ => m - (intOf iv).toNat)
  case atStart => exact DWInv.mk P _ cp 0 _ (Nat.zero_le _) rfl (by simp [plainB]) (by simpa [plainB] using O4.out) N4.out L4.out
  case round =>
    obtain ⟨B, nb, cb, k, hk, rfl, rfl, hnb, hown, hnil, lat⟩ := hrel
    by_cases hlt : k < m
    · have hkd : k < d.length := by have := HM.out; omega
      obtain ⟨b, off, rfl, c0, c1, c2⟩ := (HDH.out.later lat).val3 k hkd
      obtain ⟨hx, hmv⟩ := HOD.out _ (List.getElem_mem hkd)
      have hi := HD64.out _ (List.getElem_mem hkd)
      have HK := Lib.hid (show putNum m ++ plainB (d.take (k + 1)) = (putNum m ++ plainB (d.take k)) ++ oneB d[k].1 d[k].2.1 d[k].2.2 by
        rw [List.take_succ_eq_append_getElem hkd, plainB_append, List.append_assoc]; simp [plainB])
      have HLE := Lib.hid (show (putNum m ++ plainB (d.take k)).length ≤ 10 + 1000 * 21 by
        have h1 := plainB_le (t := t) (l := d.take k) fun x hx => HOD.out x (List.mem_of_mem_take hx)
        have h2 := HPM.out
        rw [List.length_take] at h1
        rw [List.length_append]
        omega)
      have HO1 := Lib.hid (oneB_le hmv)
      rw [hx] at c0 hmv HK HO1
      generalize d[k].2.1 = i at c1 hmv hi HK HO1
      generalize d[k].2.2 = s at c2 hmv HK HO1
      have HMV := Lib.hid hmv
      have HI := Lib.hid hi
      have HLAT := Lib.hid lat
      have HNB := Lib.hid hnb
      have HOWN := Lib.hid hown
      have HKD := Lib.hid hkd
      clear hmv hi hx lat hnb hown hnil hkd hk
      go_wp2_with (first
        | (go_at_call 89; refine (cellPut_any t i s _ HT.out HMV.out HI.out).mono ?_; rintro e w5 ⟨P5, cp5, rfl, r5, b5, m5, n5, l5⟩; have HR5 := Lib.hid r5; have HL5 := Lib.hid ((HLAT.out.alloc _).trans l5); have HW5 := Lib.hid (own_later (HOWN.out.alloc _) l5); have HN5 := Lib.hid n5; clear r5 b5 m5 l5 n5)
        | (at_builtin; refine wpList_append_rd _ rfl (.tmp 31) (.tmp 33) 22 rfl w3.heap.size 5 (.int .u8 0) 1 Tryz.underlying22 info_u8 rfl _ nb (ints .u8 (putNum m ++ plainB (d.take k))) rfl HW5.out _ P5 (oneB t i s).length cp5 (ints .u8 (oneB t i s)) rfl HR5.out ?_ HN5.out (ints_one _ _) ?_ ?_ ?_ ?_; (rw [ints_length]); (have h1 := HLE.out; have h2 := HO1.out; have h3 := HNB.out; unfold maxLen; omega); (have h1 := HLE.out; have h2 := HO1.out; have h3 := HNB.out; omega); (exact HL5.out.size); intro A2 c2 w6 o2 g2 b2 n2; have HO2 := Lib.hid o2; have HB6 := Lib.hid b2; have HN2 := Lib.hid n2; clear o2 g2 b2 n2))
      go_roundw
      case rel =>
        refine DWInv.mk A2 _ c2 (k + 1) _ HKD.out (by go_num) ?_ ?_ HN2.out (Later.of (HL5.out.below.trans HB6.out))
        · rw [HK.out, List.length_append, HNB.out]
        · rw [HK.out, ints_snoc]; exact HO2.out
      case measure => simp [intOf]; omega
    · obtain rfl : k = m := by have := HM.out; omega
      rw [List.take_of_length_le (by have := HM.out; omega)] at hnb hown
      have L5 := Lib.hid (L3.out.trans lat)
      have HOWN := Lib.hid hown
      have HNB := Lib.hid hnb
      have HLAT := Lib.hid lat
      have HPL := Lib.hid (places_any D A k n dc c d l wr HM.out HNL.out HDN.out (by have := HNL.out; omega) (HDH.out.later lat) (HRL.out.later L5.out) HASC.out)
      clear hown hnb hnil lat hlt hk
      go_wp2_with fail
      refine HPL.out.mono ?_
      rintro e w6 ⟨g, rfl, row, l6⟩
      have L6 := Lib.hid (HLAT.out.trans l6)
      have HROW := Lib.hid row
      have O6 := Lib.hid (own_later HOWN.out l6)
      clear row l6 HPL
      go_wp2_with fail
      refine (dictWidth_any k w6 (by omega)).mono ?_
      rintro e w7 ⟨rfl, l7⟩
      have L7 := Lib.hid (L6.out.trans l7)
      have O7 := Lib.hid (own_later O6.out l7)
      have HPT := Lib.hid (bitsPut_o (some ⟨g, 0, none⟩) n n (places d l) (widD k : Int) (widD k) w7 (by rw [places_len]; exact HNL.out) rfl (Has.row (l7.row HROW.out)) (by rw [places_len]; have := HNL.out; omega) HPLT.out (widD_le (by omega)) (by have := HWL.out; rw [← HM.out] at this; exact this))
      have hQk : putBits (places d l) (widD k) = Q := by rw [HQQ.out, ← HM.out]
      rw [hQk] at HPT
      clear l7 hQk
      go_wp2_with fail
      refine HPT.out.mono ?_
      intro e w8 h
      obtain ⟨QA, qc, rfl, qh, hq1, hq2, hqn, l8⟩ := h.yes rfl
      have L8 := Lib.hid (L7.out.trans l8)
      have O8 := Lib.hid (own_later O7.out l8)
      have HQH := Lib.hid qh
      have HQN := Lib.hid hqn
      have HLE := Lib.hid (show (putNum k ++ plainB d).length ≤ 10 + 1000 * 21 by
        have h1 := plainB_le HOD.out
        have h2 := HPM.out
        have h3 := HDN.out
        rw [List.length_append]
        omega)
      clear h l8 HPT qh hqn
      go_wp2_with (at_builtin; refine wpList_append_rd _ rfl (.tmp 52) (.tmp 53) 22 rfl w3.heap.size 5 (.int .u8 0) 1 Tryz.underlying22 info_u8 rfl _ nb (ints .u8 (putNum k ++ plainB d)) rfl O8.out _ QA Q.length qc (ints .u8 Q) rfl HQH.out ?_ HQN.out (ints_one _ _) ?_ ?_ ?_ ?_; (rw [ints_length]); (have h1 := HLE.out; have h2 := HQL.out; have h3 := HNB.out; unfold maxLen; omega); (have h1 := HLE.out; have h2 := HQL.out; have h3 := HNB.out; omega); (exact L8.out.size); intro A9 c9 w9 o9 g9 b9 n9; have O9 := Lib.hid o9; have L9 := Lib.hid (Later.of (L8.out.below.trans b9)); have N9 := Lib.hid n9; clear o9 g9 b9 n9)
      go_ret2
      have hlen : nb + Q.length = (dictB l).length := by
        rw [HBY.out, ← HM.out, HNB.out, ← List.append_assoc]
        simp only [List.length_append]
      have hcells : ints .u8 (putNum k ++ plainB d) ++ ints .u8 Q = ints .u8 (dictB l) := by rw [HBY.out, ← HM.out, ← List.append_assoc]; simp [ints]
      have o := O9.out
      rw [hcells] at o
      have o1 := own_cap o
      exact ⟨.inr ⟨dictB l, A9, c9, rfl, by rw [← hlen]; rfl, Has.own o, by omega, own_capmax o, N9.out⟩, L3.out.trans L9.out⟩

set_option maxRecDepth 100000 in
theorem dictWrite_no (t : Int) (A : Option Addr) (c : Nat) (l : List Val3) (w : World) (hs : S6 w) (hl : l.length ≤ 1000) (hr : Has w A (fl l)) (ho : ¬ ((1 ≤ t ∧ t ≤ 4) ∧ OkL t l)) :
    Calls Tryz.prog 72 #[.int .i64 t, .slice A l.length c] w (WritesB none w) := by
  have hif : Tryz.prog.isIface 40 = true := by kernel_rfl
  obtain ⟨a0, a2, a3, a4, S⟩ := hs.sn
  have HA := Lib.hid (all_no t A c l a0 a2 a3 a4 w S (by omega) hr ho)
  clear S hs ho hr
  go_enter Tryz.func72, Tryz.ntmps72
  go_wp2_with fail
  refine HA.out.mono ?_
  rintro e w1 ⟨v, rfl, ⟨p, rfl⟩, l1⟩
  have heq := run_eql_iface_nil (P := Tryz.prog) (w := w1) 40 hif 82 (.pointer (some p))
  go_wp2_with fail
  go_ret2
  exact ⟨.inl ⟨rfl, p, rfl⟩, l1⟩

theorem dictWrite_any (t : Int) (A : Option Addr) (c : Nat) (l : List Val3) (w : World) (hs : S6 w) (hl : l.length ≤ 1000) (hr : Has w A (fl l)) (h64 : All64 l) :
    Calls Tryz.prog 72 #[.int .i64 t, .slice A l.length c] w (WritesB (putT t l) w) := by
  unfold putT
  by_cases h : (1 ≤ t ∧ t ≤ 4) ∧ OkL t l
  · rw [if_pos h]; exact dictWrite_yes t A l.length c l w rfl hs h.1 hl hr h.2 h64
  · rw [if_neg h]; exact dictWrite_no t A c l w hs hl hr h

set_option maxRecDepth 100000 in
theorem dictPut_any (t : Int) (A : Option Addr) (c : Nat) (l : List Val3) (w : World) (hs : S6 w) (hl : l.length ≤ 1000) (hr : Has w A (fl l)) (h64 : All64 l) :
    Calls Tryz.prog 52 #[.int .i64 t, .slice A l.length c] w (PutsB (putT t l) w) := by
  have HC := Lib.hid (dictWrite_any t A c l w hs hl hr h64)
  clear hs hr h64 hl
  go_enter Tryz.func52, Tryz.ntmps52
  go_wp2_with fail
  refine HC.out.mono ?_
  rintro e w1 ⟨⟨ho, p, rfl⟩ | ⟨b, B, cb, ho, rfl, h1, h2, h3, h4⟩, l1⟩
  · go_wp2_with (go_at_call 17; refine (listB_no _ _ _ p _).mono ?_; rintro e w' ⟨rfl, rfl⟩)
    go_ret2
    exact ⟨.inl ⟨ho, rfl⟩, l1⟩
  · have H := Lib.hid (show PutsB (putT t l) w (.returned (.tuple #[.slice B b.length cb, .bool true])) w1 from ⟨.inr ⟨b, B, cb, ho, rfl, h1, h2, h3, h4⟩, l1⟩)
    clear ho h1 h2 h3 h4 l1
    go_wp2_with (go_at_call 17; refine (listB_yes _ _ _ _).mono ?_; rintro e w' ⟨rfl, rfl⟩)
    go_ret2
    exact H.out
end Go.Proofs.YtldalkhmbpkjpaaGreatDoor

/- The walk of package dict: readWords. -/

namespace Go.Proofs.YtldalkhmbpkjpaaGreatDoor
open Go.RowKit
set_option linter.unusedVariables false

/-- The list that bytes begin with, of at most n values, and how many bytes that is. -/
def readW (t : Int) (n : Nat) (b : List Nat) : Option (List Val3 × Nat) :=
  match takeNum b with
  | none => none
  | some (u, k) => if u ≤ n then (readQ t u (b.drop k)).map fun p => (p.1, b.length - p.2.length) else none
theorem readW_none {t : Int} {n : Nat} {b : List Nat} (h : takeNum b = none) : readW t n b = none := by unfold readW; rw [h]
theorem readW_not {t : Int} {n : Nat} {b : List Nat} {u k : Nat} (h : takeNum b = some (u, k)) (hu : ¬ u ≤ n) : readW t n b = none := by unfold readW; rw [h]; simp only; rw [if_neg hu]
theorem readW_some {t : Int} {n : Nat} {b : List Nat} {u k : Nat} (h : takeNum b = some (u, k)) (hu : u ≤ n) : readW t n b = (readQ t u (b.drop k)).map fun p => (p.1, b.length - p.2.length) := by unfold readW; rw [h]; simp only; rw [if_pos hu]
theorem drop_back {a r b : List Nat} (h : a ++ r = b) : b.drop (b.length - r.length) = r := by
  subst h
  rw [List.length_append, Nat.add_sub_cancel, List.drop_left]
theorem readW_is {t : Int} (ht : 1 ≤ t ∧ t ≤ 4) {n : Nat} {b : List Nat} (h256 : ∀ x ∈ b, x < 256) {d : List Val3} {k : Nat} (h : readW t n b = some (d, k)) :
    0 < b.length ∧ d.length ≤ n ∧ All64 d ∧ k ≤ b.length ∧ readT t n b = (match takeBits (b.drop k) n (widD d.length) with
        | none => none
        | some ps => if ∀ p ∈ ps, p < d.length then some (ps.map fun p => d.getD p (0, 0, ⟨#[]⟩)) else none) := by
  unfold readW at h
  unfold readT
  split at h
  · cases h
  · rename_i u k' hT
    rw [hT]
    split at h
    · rename_i hu
      simp only
      rw [if_pos hu]
      cases hq : readQ t u (b.drop k') with
      | none => rw [hq] at h; cases h
      | some p =>
        obtain ⟨d', r⟩ := p
        rw [hq] at h
        cases h
        obtain ⟨_, h2, h3, h4⟩ := readQ_is ht _ _ (fun x hx => h256 x (List.mem_of_mem_drop hx)) _ _ hq
        have hp : 0 < b.length := by
          obtain ⟨_, hk1, hk3⟩ := takeNum_is h256 hT
          have h5 := putNum_pos u
          have h6 := hk3.length_le
          omega
        refine ⟨hp, by show d'.length ≤ n; omega, h2, Nat.sub_le _ _, ?_⟩
        simp only
        rw [drop_back (a := b.take k' ++ plainB d') (by rw [List.append_assoc, h4, List.take_append_drop])]
        rfl
    · cases h
theorem readW_no {t : Int} {n : Nat} {b : List Nat} (h : readW t n b = none) : readT t n b = none := by
  unfold readW at h
  unfold readT
  split at h
  · rename_i hT; rw [hT]
  · rename_i u k hT
    rw [hT]
    simp only
    split at h
    · rename_i hu
      rw [if_pos hu]
      cases hq : readQ t u (b.drop k) with
      | none => rfl
      | some p => rw [hq] at h; cases h
    · rename_i hu
      rw [if_neg hu]
def WordsPost (o : Option (List Val3 × Nat)) (w : World) (e : Ending) (w' : World) : Prop :=
  ((o = none ∧ ∃ p : Addr, e = .returned (.tuple #[.slice none 0 0, .int .i64 0, .iface 82 (.pointer (some p))])) ∨
    ∃ d k L cl, o = some (d, k) ∧ e = .returned (.tuple #[.slice L d.length cl, .int .i64 (k : Nat), .nilIface]) ∧ Has w' L (fl d)) ∧ Later w w'
/-- Where readWords' loop stands. -/
def RWInv (o : Option (List Val3 × Nat)) (t : Int) (u : Nat) (b : List Nat) (w : World) (kv lv iv : Value) (wr : World) : Prop :=
  ∃ (L : Option Addr) (cl j k : Nat) (done : List Val3), lv = .slice L j cl ∧ kv = .int .i64 (k : Int) ∧ iv = .int .i64 (j : Int) ∧ j ≤ u ∧ 1 ≤ k ∧ k ≤ b.length ∧ done.length = j ∧ wr.ownsRow w.heap.size 26 3 (.slice L j cl) j (fl done) ∧ o = (readQ t (u - j) (b.drop k)).map (fun p => (done ++ p.1, b.length - p.2.length)) ∧ Later w wr
theorem RWInv.mk {o : Option (List Val3 × Nat)} {t : Int} {u : Nat} {b : List Nat} {w wr : World} (L : Option Addr) (cl m j k : Nat) (done : List Val3) (zk zj : Int) (hm : m = j) (hk : zk = (k : Int)) (hj : zj = (j : Int)) (h1 : j ≤ u) (h2 : 1 ≤ k) (h3 : k ≤ b.length) (h4 : done.length = j) (h5 : wr.ownsRow w.heap.size 26 3 (.slice L m cl) m (fl done)) (h6 : o = (readQ t (u - j) (b.drop k)).map (fun p => (done ++ p.1, b.length - p.2.length))) (h7 : Later w wr) : RWInv o t u b w (.int .i64 zk) (.slice L m cl) (.int .i64 zj) wr := by
  subst hm hk hj; exact ⟨L, cl, m, k, done, rfl, rfl, rfl, h1, h2, h3, h4, h5, h6, h7⟩
theorem cellTake_nn (t : Int) (ht : 1 ≤ t ∧ t ≤ 4) (A : Option Addr) (m c : Nat) (b : List Nat) (w : World) (hm : m = b.length) (hs : S6 w) (hr : Has w A (ints .u8 b)) (h256 : ∀ x ∈ b, x < 256) (hb : b.length ≤ 1000000) (hbc : b.length ≤ c) (hc : c ≤ 9223372036854775807) :
    Calls Tryz.prog 108 #[.int .i64 t, .slice A m c] w (TakesC (takeC t b) t w) := by
  subst hm; exact cellTake_any t ht A c b w hs hr h256 hb hbc hc
theorem takeC_nil {t : Int} (ht : 1 ≤ t ∧ t ≤ 4) : takeC t [] = none := by
  obtain rfl | rfl | rfl | rfl : t = 1 ∨ t = 2 ∨ t = 3 ∨ t = 4 := by omega
  all_goals rfl

set_option maxRecDepth 100000 in
set_option maxHeartbeats 2000000 in
theorem readWords_any (t : Int) (ht : 1 ≤ t ∧ t ≤ 4) (n : Nat) (hn : n ≤ 1000) (A : Option Addr) (c : Nat) (b : List Nat) (w : World) (hs : S6 w) (hr : Has w A (ints .u8 b)) (h256 : ∀ x ∈ b, x < 256) (hb : b.length ≤ 1000000) (hbc : b.length ≤ c) (hc : c ≤ 9223372036854775807) :
    Calls Tryz.prog 103 #[.int .i64 t, .int .i64 n, .slice A b.length c] w (WordsPost (readW t n b) w) := by
  have hif : Tryz.prog.isIface 40 = true := by kernel_rfl
  have HN0 := Lib.hid (readW_none (t := t) (n := n) (b := b))
  have HN1 := Lib.hid (fun u k => readW_not (t := t) (n := n) (b := b) (u := u) (k := k))
  have HY0 := Lib.hid (fun u k => readW_some (t := t) (n := n) (b := b) (u := u) (k := k))
  obtain ⟨o, ho⟩ : ∃ o, o = readW t n b := ⟨_, rfl⟩
  rw [← ho] at HN0 HN1 HY0 ⊢
  obtain ⟨aN, hN⟩ := hs.num
  have HTN := Lib.hid (take_num A b.length c b aN w w.heap.size rfl hr h256 hb hN)
  have HS := Lib.hid hs
  have HR := Lib.hid hr
  have H256 := Lib.hid h256
  have HTT := Lib.hid ht
  have hnw : IntKind.u64.wrap (n : Int) = (n : Int) := by rw [IntKind.wrap_u64]; omega
  clear hs hr ho h256 hN ht
  go_enter Tryz.func103, Tryz.ntmps103
  go_wp2_with fail
  refine HTN.out.mono ?_
  rintro e w2 ⟨u, k, ok, hT0, rfl, b2⟩
  have L2 := Lib.hid (Later.of b2)
  clear b2 HTN
  rcases takeR_some hT0 with ⟨rfl, hT⟩ | ⟨rfl, hT⟩
  · obtain ⟨hu64, hk1, hk3⟩ := takeNum_is H256.out hT
    have hkb : k ≤ b.length := by rw [hk1]; exact hk3.length_le
    have hkp : 1 ≤ k := by rw [hk1]; exact putNum_pos u
    have HKB := Lib.hid hkb
    have HTH := Lib.hid hT
    clear hk1 hk3 hu64 hT0 hT
    by_cases hu : u ≤ n
    · have hd1 : decide ((n : Int) < (u : Int)) = false := by simp; omega
      have hd2 : decide (n < u) = false := by simp; omega
      have hd3 : ¬ n < u := by omega
      have huw : IntKind.i64.wrap (u : Int) = (u : Int) := IntWalk.i64_in _ ⟨by omega, by omega⟩
      have HREL0 := Lib.hid (show o = (readQ t (u - 0) (b.drop k)).map (fun p => ([] ++ p.1, b.length - p.2.length)) from by
        rw [HY0.out u k HTH.out hu]; rfl)
      obtain ⟨bb, off, rfl⟩ : ∃ bb off, A = some ⟨bb, off, none⟩ := by
        rcases HR.out with h | ⟨bb, off, h, _⟩
        · have : b.length = 0 := by have := congrArg List.length h; rw [ints_length] at this; exact this
          omega
        · exact ⟨bb, off, h⟩
      have hu9 : u ≤ 1000 := by omega
      clear HN0 HN1 HY0 hu
      go_wp2_with fail
      go_loopw [10, 12, 36] (fun kv lv iv wr => RWInv o t u b w kv lv iv wr) (fun _ _ iv _ => u - (intOf iv).toNat)
      case atStart => exact RWInv.mk none 0 0 0 k [] _ _ rfl rfl rfl (Nat.zero_le _) hkp hkb rfl (ownG_nil _ _ _ _) HREL0.out L2.out
      case round =>
        obtain ⟨L, cl, j, k, done, rfl, rfl, rfl, hju, hk1, hkb, hdl, hown, hrel, lat⟩ := hrel
        clear HREL0 hd1 hd2 hd3
        have HOWN := Lib.hid hown
        have HREL := Lib.hid hrel
        have HLAT := Lib.hid lat
        have HDL := Lib.hid hdl
        clear hown hrel lat hdl
        by_cases hlt : j < u
        · obtain ⟨q, hq⟩ : ∃ q, u - j = q + 1 := ⟨u - j - 1, by omega⟩
          have HJ := Lib.hid (show u - (j + 1) = q by omega)
          have HRQ := Lib.hid (show o = (readQ t (q + 1) (b.drop k)).map (fun p => (done ++ p.1, b.length - p.2.length)) by rw [HREL.out, hq])
          have D256 := Lib.hid (fun x (hx : x ∈ b.drop k) => H256.out x (List.mem_of_mem_drop hx))
          have hdl : (b.drop k).length = b.length - k := List.length_drop
          have hi1 : (0 : Int) ≤ (k : Int) := by omega
          have hi2 : (k : Int) ≤ (b.length : Int) := by omega
          have hi3 : (b.length : Int) ≤ (c : Int) := by omega
          clear hq HREL
          by_cases hck : c = k
          · have hd0 : b.drop k = [] := List.drop_of_length_le (by omega)
            have HTK := Lib.hid (cellTake_nn t HTT.out (some ⟨bb, off, none⟩) 0 0 (b.drop k) wr (by rw [hd0]; rfl) (HS.out.later HLAT.out) (by rw [hd0]; exact Has.nil_) D256.out (by rw [hd0]; decide) (by rw [hd0]; decide) (by decide))
            have HC0 := Lib.hid (show takeC t (b.drop k) = none by rw [hd0]; exact takeC_nil HTT.out)
            have HO := Lib.hid (show o = none by rw [HRQ.out, readQ_none HC0.out]; rfl)
            have hkc : k = c := hck.symm
            have hlc : b.length = c := by omega
            clear hd0 hdl hck
            subst hkc
            go_wp2_with fail
            refine HTK.out.mono ?_
            rintro e w3 ⟨⟨hC, p, rfl⟩ | ⟨i, s, m, hC, rfl⟩, l3⟩
            · have heq := fun w => run_eql_iface_nil (P := Tryz.prog) (w := w) 40 hif 82 (.pointer (some p))
              have HL3 := Lib.hid (HLAT.out.trans l3)
              clear hC l3 HTK
              go_wp2_with (go_at_call 27; refine (at_w _ _ _ _).mono ?_; rintro e w4 ⟨q, rfl, l4⟩)
              go_ret3
              exact ⟨.inl ⟨HO.out, q, rfl⟩, (HL3.out.alloc _).trans l4⟩
            · exfalso
              have := HC0.out
              rw [hC] at this
              cases this
          · have HTK := Lib.hid (cellTake_nn t HTT.out (some ⟨bb, off + k, none⟩) (b.length - k) (c - k) (b.drop k) wr hdl.symm (HS.out.later HLAT.out) (by have h := (HR.out.later HLAT.out).drop k; rw [show (ints .u8 b).drop k = ints .u8 (b.drop k) by simp [ints, List.map_drop]] at h; exact h) D256.out (by omega) (by omega) (by omega))
            clear hdl
            go_wp2_with fail
            refine HTK.out.mono ?_
            rintro e w3 ⟨⟨hC, p, rfl⟩ | ⟨i, s, m, hC, rfl⟩, l3⟩
            · have HO := Lib.hid (show o = none by rw [HRQ.out, readQ_none hC]; rfl)
              have heq := fun w => run_eql_iface_nil (P := Tryz.prog) (w := w) 40 hif 82 (.pointer (some p))
              have HL3 := Lib.hid (HLAT.out.trans l3)
              clear hC l3 HTK
              go_wp2_with (go_at_call 27; refine (at_w _ _ _ _).mono ?_; rintro e w4 ⟨q, rfl, l4⟩)
              go_ret3
              exact ⟨.inl ⟨HO.out, q, rfl⟩, (HL3.out.alloc _).trans l4⟩
            · have HO := Lib.hid (show o = (readQ t (u - (j + 1)) (b.drop (k + m))).map (fun p => ((done ++ [(t, i, bstr s)]) ++ p.1, b.length - p.2.length)) by
                rw [HRQ.out, readQ_some hC, HJ.out, ← List.drop_drop]
                cases readQ t q ((b.drop k).drop m) with
                | none => rfl
                | some p => simp)
              obtain ⟨hm1, hm2, hi64, hs256⟩ := readC_lt D256.out (takeC_read hC).1
              rw [List.length_drop] at hm2
              obtain ⟨S, hS⟩ : ∃ S, S = bstr s := ⟨_, rfl⟩
              rw [← hS] at HO ⊢
              have OWN := Lib.hid (own_later HOWN.out l3)
              have HL3 := Lib.hid (HLAT.out.trans l3)
              have HAS := Lib.hid ((Blk.new (w3.alloc (.cells #[.int .i64 t, .int .i64 i, .string S] 26)) (fl [(t, i, S)]).toArray 26 (w3.heap.size + 1) (by simp)).has)
              have DL := Lib.hid (show (done ++ [(t, i, S)]).length = j + 1 by rw [List.length_append, HDL.out]; rfl)
              obtain ⟨k2, hk2⟩ : ∃ k2, k2 = k + m := ⟨_, rfl⟩
              rw [← hk2] at HO
              have hk2i : (k : Int) + (m : Int) = (k2 : Int) := by omega
              have hk2w : IntKind.i64.wrap ((k : Int) + (m : Int)) = (k2 : Int) := by rw [hk2i]; exact IntWalk.i64_in _ ⟨by omega, by omega⟩
              have hk2b : k2 ≤ b.length := by omega
              have hk21 : 1 ≤ k2 := by omega
              clear hC l3 HRQ HTK hS hi64 hs256 HOWN HLAT hk2
              go_wp2_with (at_builtin; refine wpList_append_g _ rfl (.tmp 53) (.tmp 55) 23 rfl w.heap.size 26 (vagg 0 0 ⟨#[]⟩) 3 32 Tryz.underlying23 info_v rfl (by decide) _ j (fl done) rfl ((OWN.out.alloc _).alloc _) _ 1 1 (fl [(t, i, S)]) rfl HAS.out (by rfl) (by intro h; cases h) (fl_one _) (by unfold maxLen; omega) (by omega) ?_ ?_; (exact ((HL3.out.alloc _).alloc _).size); intro A2 c2 w6 o2 g2 b2 n2; have HO2 := Lib.hid o2; have HB6 := Lib.hid b2; clear o2 g2 b2 n2)
              have LL := Lib.hid (Later.of ((((HL3.out.alloc (.cells #[.int .i64 t, .int .i64 i, .string S] 26)).alloc (.cells (fl [(t, i, S)]).toArray 26)).below).trans HB6.out))
              go_roundw
              case rel => exact RWInv.mk A2 c2 _ (j + 1) k2 (done ++ [(t, i, S)]) _ _ rfl (by omega) (by omega) hlt hk21 hk2b DL.out (by rw [fl_append]; exact HO2.out) HO.out LL.out
              case measure => simp [intOf]; omega
        · obtain rfl : j = u := by omega
          have HO := Lib.hid (show o = some (done, k) by
            rw [HREL.out, Nat.sub_self]
            show some (done ++ [], b.length - (b.drop k).length) = _
            rw [List.append_nil, List.length_drop, show b.length - (b.length - k) = k by omega])
          have HHAS := Lib.hid (Has.ownG HOWN.out)
          go_wp2_with fail
          go_ret3
          refine ⟨.inr ⟨done, k, L, cl, HO.out, ?_, HHAS.out⟩, HLAT.out⟩
          rw [HDL.out]
          rfl
    · have HO := Lib.hid (HN1.out u k HTH.out hu)
      have hd1 : decide ((n : Int) < (u : Int)) = true := by simp; omega
      have hd2 : decide (n < u) = true := by simp; omega
      have hd3 : n < u := by omega
      have HSX := Lib.hid (HS.out.later L2.out)
      obtain ⟨sv, hsv⟩ := HSX.out.bound
      clear hu
      go_wp2_with (go_at_call 27; refine (at_l _ _ _ _).mono ?_; rintro e w5 ⟨q, rfl, l5⟩)
      go_ret3
      exact ⟨.inl ⟨HO.out, q, rfl⟩, L2.out.trans l5⟩
  · have HO := Lib.hid (HN0.out hT)
    have HSX := Lib.hid (HS.out.later L2.out)
    obtain ⟨sv, hsv⟩ := HSX.out.bound
    clear hT hT0
    go_wp2_with (go_at_call 27; refine (at_l _ _ _ _).mono ?_; rintro e w5 ⟨q, rfl, l5⟩)
    go_ret3
    exact ⟨.inl ⟨HO.out, q, rfl⟩, L2.out.trans l5⟩
end Go.Proofs.YtldalkhmbpkjpaaGreatDoor

/- Walks of package dict: read, Take. -/

namespace Go.Proofs.YtldalkhmbpkjpaaGreatDoor
open Go.RowKit
set_option linter.unusedVariables false

theorem dictWrite_n (t : Int) (A : Option Addr) (n c : Nat) (l : List Val3) (w : World) (hn : n = l.length) (hs : S6 w) (hl : l.length ≤ 1000) (hr : Has w A (fl l)) (h64 : All64 l) :
    Calls Tryz.prog 72 #[.int .i64 t, .slice A n c] w (WritesB (putT t l) w) := by
  subst hn; exact dictWrite_any t A c l w hs hl hr h64
/-- The values at places. -/
def pick3 (d : List Val3) (ps : List Nat) : List Val3 := ps.map fun p => d.getD p (0, 0, ⟨#[]⟩)
theorem pick3_len (d : List Val3) (ps : List Nat) : (pick3 d ps).length = ps.length := List.length_map _
/-- Where read's loop stands. -/
def DtRInv (d : List Val3) (us : List Nat) (wb : World) (lv iv : Value) (wr : World) : Prop :=
  ∃ (L : Option Addr) (cl j : Nat), lv = .slice L j cl ∧ iv = .int .i64 (j : Int) ∧ j ≤ us.length ∧ (∀ q (h : q < us.length), q < j → us[q] < d.length) ∧ wr.ownsRow wb.heap.size 26 3 (.slice L j cl) j (fl (pick3 d (us.take j))) ∧ Later wb wr
theorem DtRInv.mk {d : List Val3} {us : List Nat} {wb wr : World} (L : Option Addr) (cl m j : Nat) (i : Int) (hm : m = j) (hi : i = (j : Int)) (h1 : j ≤ us.length) (h0 : ∀ q (h : q < us.length), q < j → us[q] < d.length) (h2 : wr.ownsRow wb.heap.size 26 3 (.slice L m cl) m (fl (pick3 d (us.take j)))) (h3 : Later wb wr) : DtRInv d us wb (.slice L m cl) (.int .i64 i) wr := by
  subst hm hi; exact ⟨L, cl, m, rfl, rfl, h1, h0, h2, h3⟩

set_option maxRecDepth 100000 in
set_option maxHeartbeats 4000000 in
/-- The places are read: the rest of read. -/
theorem dictRead_yes (t : Int) (n : Nat) (A : Option Addr) (c : Nat) (b : List Nat) (w : World) (hs : S6 w) (ht : 1 ≤ t ∧ t ≤ 4) (hn : n ≤ 1000) (hr : Has w A (ints .u8 b)) (h256 : ∀ x ∈ b, x < 256) (hb : b.length ≤ 1000000) (hbc : b.length ≤ c) (hc : c ≤ 9223372036854775807) :
    Calls Tryz.prog 81 #[.int .i64 t, .int .i64 n, .slice A b.length c] w (WritesV (takeT t n b) w) := by
  have hif : Tryz.prog.isIface 40 = true := by kernel_rfl
  have HC := Lib.hid (count_yes t n w ht (by omega))
  have HRW := Lib.hid (readWords_any t ht n hn A c b w hs hr h256 hb hbc hc)
  obtain ⟨o, ho⟩ : ∃ o, o = takeT t n b := ⟨_, rfl⟩
  have hoe : o = (match readT t n b with | none => none | some l => if putT t l = some b then some l else none) := by
    rw [ho]; unfold takeT; rw [if_pos ⟨ht, by omega, by omega⟩]; rfl
  have HON := Lib.hid (fun (h : readT t n b = none) => (show o = none by rw [hoe, h]))
  have HOY := Lib.hid (fun (l : List Val3) (h : readT t n b = some l) (hp : putT t l = some b) => (show o = some l by rw [hoe, h]; simp only; rw [if_pos hp]))
  have HOX := Lib.hid (fun (l : List Val3) (h : readT t n b = some l) (hp : putT t l ≠ some b) => (show o = none by rw [hoe, h]; simp only; rw [if_neg hp]))
  rw [← ho]
  have HS := Lib.hid hs
  have HR := Lib.hid hr
  have H256 := Lib.hid h256
  have HTT := Lib.hid ht
  clear ht ho hoe hs hr h256
  go_enter Tryz.func81, Tryz.ntmps81
  go_wp2_with (go_at_call 42; refine HC.out.mono ?_; rintro e w' ⟨rfl, rfl⟩)
  refine HRW.out.mono ?_
  rintro e w2 ⟨⟨hq, p, rfl⟩ | ⟨d, k, D, dc, hq, rfl, hd⟩, l2⟩
  · have HO := Lib.hid (HON.out (readW_no hq))
    have heq := run_eql_iface_nil (P := Tryz.prog) (w := w2) 40 hif 82 (.pointer (some p))
    clear hq HRW HC
    go_wp2_with fail
    go_ret2
    exact ⟨.inl ⟨HO.out, p, rfl⟩, l2⟩
  · obtain ⟨hbp, hdn, hd64, hkb, hrt⟩ := readW_is HTT.out H256.out hq
    have L2 := Lib.hid l2
    have HDH := Lib.hid hd
    have HD64 := Lib.hid hd64
    obtain ⟨nd, hnd⟩ : ∃ nd, nd = d.length := ⟨_, rfl⟩
    have HND := Lib.hid hnd
    obtain ⟨r, hrr⟩ : ∃ r, r = b.drop k := ⟨_, rfl⟩
    have hrl : r.length = b.length - k := by rw [hrr, List.length_drop]
    have HR256 := Lib.hid (show ∀ x ∈ r, x < 256 by rw [hrr]; exact fun x hx => H256.out x (List.mem_of_mem_drop hx))
    rw [← hrr, ← hnd] at hrt
    have HTN := Lib.hid (fun (h : takeBits r n (widD nd) = none) => (show readT t n b = none by rw [hrt, h]))
    have HTX := Lib.hid (fun us (h : takeBits r n (widD nd) = some us) (hx : ¬ ∀ p ∈ us, p < nd) => (show readT t n b = none by rw [hrt, h]; simp only; rw [if_neg hx]))
    have HTY := Lib.hid (fun us (h : takeBits r n (widD nd) = some us) (hx : ∀ p ∈ us, p < nd) => (show readT t n b = some (pick3 d us) by rw [hrt, h]; simp only; rw [if_pos hx]; rfl))
    have hnd9 : nd ≤ 1000 := by omega
    obtain ⟨bb, off, rfl⟩ : ∃ bb off, A = some ⟨bb, off, none⟩ := by
      rcases HR.out with h | ⟨bb, off, h, _⟩
      · have := congrArg List.length h; rw [ints_length] at this
        have : b.length = 0 := this
        omega
      · exact ⟨bb, off, h⟩
    have HRH := Lib.hid (show Has w (some ⟨bb, off + k, none⟩) (ints .u8 r) from by
      have h := HR.out.drop k
      rw [show (ints .u8 b).drop k = ints .u8 (b.drop k) by simp [ints, List.map_drop], ← hrr] at h; exact h)
    rw [← hnd]
    clear hd hd64 hq l2 HRW HC hdn hnd hrr hrt hbp
    have HTK := Lib.hid (fun (A' : Option Addr) (m' c' : Nat) (zn zk : Int) (w' : World) (lz : Later w2 w') (hA : A' = some ⟨bb, off + k, none⟩ ∨ r = []) (hm : m' = r.length) (hc' : r.length ≤ c') (hzn : zn = (n : Int)) (hzk : zk = (widD nd : Int)) => bitsTake_o A' m' c' r zn zk n (widD nd) w' hm hzn hzk (by
      rcases hA with hA | hA
      · rw [hA]; exact HRH.out.later (L2.out.trans lz)
      · rw [hA]; exact Has.nil_) HR256.out (by omega) hc')
    have HWD := Lib.hid (fun w' => dictWidth_any nd w' (by omega))
    have i1 : (0 : Int) ≤ (k : Int) := by omega
    have i2 : (k : Int) ≤ (b.length : Int) := by omega
    have i3 : k ≤ b.length := hkb
    by_cases hcm : c = k
    · have HR0 := Lib.hid (show r = [] from List.eq_nil_of_length_eq_zero (by omega))
      subst hcm
      cases htb : takeBits r n (widD nd) with
      | none =>
        have HO := Lib.hid (HON.out (HTN.out htb))
        have HTB := Lib.hid htb
        clear htb
        go_wp2_with fail
        first
          | go_region_law (first
              | (go_simp; go_at_call 93; refine (HWD.out _).mono ?_; rintro e wW ⟨rfl, lW⟩; have LW := Lib.hid ((Later.refl w2).drew.trans lW); clear lW)
              | (go_simp; go_at_call 104; refine (HTK.out _ _ _ _ _ _ LW.out (by first | exact .inl rfl | exact .inr HR0.out) (by first | rfl | omega) (by omega) rfl rfl).mono ?_; intro e wX h; obtain ⟨rfl, lX⟩ := h.no HTB.out; have LX := Lib.hid (L2.out.trans (LW.out.trans lX)); clear h lX))
          | fail "no walk"
        all_goals try simp [Act.put]
        have HSX := Lib.hid (HS.out.later LX.out)
        obtain ⟨sv, hsv⟩ := HSX.out.value
        go_wp2_with (go_at_call 27; refine (at_l _ _ _ _).mono ?_; rintro e w5 ⟨q, rfl, l5⟩)
        go_ret2
        exact ⟨.inl ⟨HO.out, q, rfl⟩, LX.out.trans l5⟩
      | some us =>
        have HTB := Lib.hid htb
        have HUN := Lib.hid (takeBits_len htb).1
        have HU64 := Lib.hid (takeBits_lt htb)
        have HTYU := Lib.hid (HTY.out us htb)
        have HTXU := Lib.hid (HTX.out us htb)
        clear htb
        go_wp2_with fail
        first
          | go_region_law (first
              | (go_simp; go_at_call 93; refine (HWD.out _).mono ?_; rintro e wW ⟨rfl, lW⟩; have LW := Lib.hid ((Later.refl w2).drew.trans lW); clear lW)
              | (go_simp; go_at_call 104; refine (HTK.out _ _ _ _ _ _ LW.out (by first | exact .inl rfl | exact .inr HR0.out) (by first | rfl | omega) (by omega) rfl rfl).mono ?_; intro e wX h; obtain ⟨UA, uc, rfl, uh, lX⟩ := h.yes HTB.out; have LX := Lib.hid (L2.out.trans (LW.out.trans lX)); have LXD := Lib.hid (LW.out.trans lX); have HUH := Lib.hid uh; clear h lX uh))
          | fail "no walk"
        all_goals try simp [Act.put]
        have HDX := Lib.hid (HDH.out.later LXD.out)
        clear hrl HTK i1 i2 i3 HDH HWD LW LXD
        have hnw : IntKind.u64.wrap (nd : Int) = (nd : Int) := by rw [IntKind.wrap_u64]; omega
        go_wp2_with fail
        go_loopw [14, 53] (fun lv iv wr => DtRInv d us wX lv iv wr) (fun _ iv _ => us.length - (intOf iv).toNat)
        case atStart => exact DtRInv.mk none 0 0 0 0 rfl rfl (Nat.zero_le _) (fun q h hq => by omega) (ownG_nil _ _ _ _) (Later.refl _)
        case round =>
          obtain ⟨L, cl, j, rfl, rfl, hj, hall, hown, lat⟩ := hrel
          by_cases hlt : j < us.length
          · obtain ⟨ub, uo, rfl, hcell⟩ : ∃ ub uo, UA = some ⟨ub, uo, none⟩ ∧ wr.cell? ⟨ub, uo + j, none⟩ = some (.int .u64 ((us[j] : Nat) : Int)) := by
              rcases HUH.out.later lat with h | ⟨ub, uo, h1, _, hc⟩
              · have h2 : us.length = 0 := by have h := congrArg List.length h; rw [ints_length] at h; exact h
                omega
              · exact ⟨ub, uo, h1, hc j _ (by rw [ints_get _ _ _ hlt])⟩
            have HREP := Lib.hid (show pick3 d (us.take (j + 1)) = pick3 d (us.take j) ++ [d.getD us[j] (0, 0, ⟨#[]⟩)] by
              unfold pick3; rw [List.take_succ_eq_append_getElem hlt, List.map_append]; rfl)
            have HMEM := Lib.hid (List.getElem_mem hlt)
            have HALL := Lib.hid (fun (hx : us[j] < d.length) => (show ∀ q (h : q < us.length), q < j + 1 → us[q] < d.length from fun q h hq => by
              rcases Nat.lt_or_ge q j with h' | h'
              · exact hall q h h'
              · obtain rfl : q = j := by omega
                exact hx))
            have hu64 := HU64.out _ (List.getElem_mem hlt)
            generalize us[j] = a at hcell HREP HMEM HALL hu64
            have HOWN := Lib.hid hown
            have LAT := Lib.hid lat
            have HJ9 := Lib.hid (show j < 1000 by have := HUN.out; omega)
            have hj9 : j < 1000 := HJ9.out
            clear hown lat hall
            by_cases ha : a < nd
            · have hge : decide ((nd : Int) ≤ (a : Int)) = false := by simp; omega
              have hge2 : decide (nd ≤ a) = false := by simp; omega
              have hge3 : ¬ nd ≤ a := by omega
              have had : a < d.length := by have := HND.out; omega
              obtain ⟨db, doff, rfl, c0, c1, c2⟩ := (HDX.out.later LAT.out).val3 a had
              rw [show d.getD a (0, 0, ⟨#[]⟩) = (d[a].1, d[a].2.1, d[a].2.2) by rw [List.getD_eq_getElem?_getD, List.getElem?_eq_getElem had]; rfl] at HREP
              generalize d[a].1 = vt at c0 HREP
              generalize d[a].2.1 = vi at c1 HREP
              generalize d[a].2.2 = vs at c2 HREP
              have ha0 : (0 : Int) ≤ (a : Int) := by omega
              have ha1 : (a : Int) < (nd : Int) := by omega
              have HAS := Lib.hid ((Blk.new wr (fl [(vt, vi, vs)]).toArray 26 _ rfl).has)
              have O2 := Lib.hid (HOWN.out.alloc (.cells (fl [(vt, vi, vs)]).toArray 26))
              have LT2 := Lib.hid (LAT.out.alloc (.cells (fl [(vt, vi, vs)]).toArray 26))
              have HAN := Lib.hid (HALL.out had)
              clear had hu64 ha HALL
              go_wp2_with (at_builtin; refine wpList_append_g _ rfl (.tmp 66) (.tmp 71) 23 rfl wX.heap.size 26 (vagg 0 0 ⟨#[]⟩) 3 32 Tryz.underlying23 info_v rfl (by decide) _ j (fl (pick3 d (us.take j))) rfl O2.out _ 1 1 (fl [(vt, vi, vs)]) rfl HAS.out (by rfl) (by intro h; cases h) (fl_one _) (by have := HJ9.out; unfold maxLen; omega) (by have := HJ9.out; omega) ?_ ?_; (exact LT2.out.size); intro A2 c2 w6 o2 g2 b2 n2; have HO2 := Lib.hid o2; have HB6 := Lib.hid (Later.of (LT2.out.below.trans b2)); clear o2 g2 b2 n2)
              go_roundw
              case rel => exact DtRInv.mk A2 c2 _ (j + 1) _ rfl (by omega) hlt HAN.out (by rw [HREP.out, fl_append]; exact HO2.out) HB6.out
              case measure => simp [intOf]; omega
            · have HO := Lib.hid (HON.out (HTXU.out fun h => ha (h a HMEM.out)))
              have hge : decide ((nd : Int) ≤ (a : Int)) = true := by simp; omega
              have hge2 : decide (nd ≤ a) = true := by simp; omega
              have hge3 : nd ≤ a := by omega
              have LZ := Lib.hid (LX.out.trans LAT.out)
              have HSX := Lib.hid (HS.out.later LZ.out)
              obtain ⟨sv, hsv⟩ := HSX.out.bound
              clear ha hu64 HALL
              go_wp2_with (go_at_call 27; refine (at_l _ _ _ _).mono ?_; rintro e w5 ⟨q, rfl, l5⟩)
              go_ret2
              exact ⟨.inl ⟨HO.out, q, rfl⟩, LZ.out.trans l5⟩
          · obtain rfl : j = us.length := by omega
            obtain ⟨l, hl⟩ : ∃ l, l = pick3 d us := ⟨_, rfl⟩
            rw [List.take_of_length_le (Nat.le_refl _), ← hl] at hown
            have HRK := Lib.hid (show readT t n b = some l by
              rw [HTYU.out fun p hp => ?_, hl]
              obtain ⟨q, hq, rfl⟩ := List.getElem_of_mem hp
              rw [HND.out]; exact hall q hq hq)
            obtain ⟨nl, hnl'⟩ : ∃ nl, nl = us.length := ⟨_, rfl⟩
            have hnl : nl = l.length := by rw [hl, hnl', pick3_len]
            rw [← hnl'] at hown hlt ⊢
            have HLH := Lib.hid (Has.ownG hown)
            have HCP := Lib.hid (And.intro (ownG_cap hown) (ownG_capmax hown))
            have HLN := Lib.hid (show l.length ≤ 1000 by have := HUN.out; omega)
            have HL64 := Lib.hid (readT_is HTT.out H256.out HRK.out).2.1
            have LX := Lib.hid (LX.out.trans lat)
            have HSX := Lib.hid (HS.out.later LX.out)
            clear hown lat hl hnl' HUN hall hj
            have HW := Lib.hid (dictWrite_n t L nl cl l wr hnl HSX.out HLN.out HLH.out HL64.out)
            have HNL := Lib.hid hnl
            clear hnl
            go_wp2_with fail
            refine HW.out.mono ?_
            rintro e wY ⟨⟨hp, p, rfl⟩ | ⟨pb, PA, pc, hp, rfl, ph, _, _, _⟩, lY⟩
            · have HO := Lib.hid (HOX.out l HRK.out (by rw [hp]; simp))
              have LY := Lib.hid (LX.out.trans lY)
              clear hp lY HW
              go_wp2_with (go_at_call 105; refine (cellSame_err _ _ _ _ _ _ _ _ _ p _).mono ?_; rintro e w' ⟨rfl, rfl⟩)
              go_ret2
              exact ⟨.inl ⟨HO.out, p, rfl⟩, LY.out⟩
            · have LY := Lib.hid (LX.out.trans lY)
              have HLY := Lib.hid (HLH.out.later lY)
              by_cases heq : pb = b
              · have HO := Lib.hid (HOY.out l HRK.out (by rw [hp, heq]))
                have HSM := Lib.hid (cellSame_yes L (some ⟨bb, off, none⟩) PA nl cl b.length c pb.length pc b wY rfl (by rw [heq]) (HR.out.later LY.out) (heq ▸ ph))
                clear hp lY HW heq ph
                go_wp2_with (go_at_call 105; refine HSM.out.mono ?_; rintro e w' ⟨rfl, rfl⟩)
                go_ret2
                refine ⟨.inr ⟨l, L, cl, HO.out, ?_, HLY.out, by have := HNL.out; have := HCP.out; omega⟩, LY.out⟩
                rw [← HNL.out]
                rfl
              · have HO := Lib.hid (HOX.out l HRK.out (by rw [hp]; intro e; injection e with e; exact heq e))
                have HSM := Lib.hid (cellSame_no L (some ⟨bb, off, none⟩) PA nl cl b.length c pb.length pc b pb wY (HS.out.later LY.out) rfl rfl (HR.out.later LY.out) ph (putT_lt HLN.out HL64.out hp) H256.out heq)
                clear hp lY HW heq ph
                go_wp2_with (go_at_call 105; refine HSM.out.mono ?_; rintro e w' ⟨⟨q, rfl⟩, lS⟩)
                go_ret2
                exact ⟨.inl ⟨HO.out, q, rfl⟩, LY.out.trans lS⟩
    · have HR0 := Lib.hid (trivial : True)
      cases htb : takeBits r n (widD nd) with
      | none =>
        have HO := Lib.hid (HON.out (HTN.out htb))
        have HTB := Lib.hid htb
        clear htb
        go_wp2_with fail
        first
          | go_region_law (first
              | (go_simp; go_at_call 93; refine (HWD.out _).mono ?_; rintro e wW ⟨rfl, lW⟩; have LW := Lib.hid ((Later.refl w2).drew.trans lW); clear lW)
              | (go_simp; go_at_call 104; refine (HTK.out _ _ _ _ _ _ LW.out (by first | exact .inl rfl | exact .inr HR0.out) (by first | rfl | omega) (by omega) rfl rfl).mono ?_; intro e wX h; obtain ⟨rfl, lX⟩ := h.no HTB.out; have LX := Lib.hid (L2.out.trans (LW.out.trans lX)); clear h lX))
          | fail "no walk"
        all_goals try simp [Act.put]
        have HSX := Lib.hid (HS.out.later LX.out)
        obtain ⟨sv, hsv⟩ := HSX.out.value
        go_wp2_with (go_at_call 27; refine (at_l _ _ _ _).mono ?_; rintro e w5 ⟨q, rfl, l5⟩)
        go_ret2
        exact ⟨.inl ⟨HO.out, q, rfl⟩, LX.out.trans l5⟩
      | some us =>
        have HTB := Lib.hid htb
        have HUN := Lib.hid (takeBits_len htb).1
        have HU64 := Lib.hid (takeBits_lt htb)
        have HTYU := Lib.hid (HTY.out us htb)
        have HTXU := Lib.hid (HTX.out us htb)
        clear htb
        go_wp2_with fail
        first
          | go_region_law (first
              | (go_simp; go_at_call 93; refine (HWD.out _).mono ?_; rintro e wW ⟨rfl, lW⟩; have LW := Lib.hid ((Later.refl w2).drew.trans lW); clear lW)
              | (go_simp; go_at_call 104; refine (HTK.out _ _ _ _ _ _ LW.out (by first | exact .inl rfl | exact .inr HR0.out) (by first | rfl | omega) (by omega) rfl rfl).mono ?_; intro e wX h; obtain ⟨UA, uc, rfl, uh, lX⟩ := h.yes HTB.out; have LX := Lib.hid (L2.out.trans (LW.out.trans lX)); have LXD := Lib.hid (LW.out.trans lX); have HUH := Lib.hid uh; clear h lX uh))
          | fail "no walk"
        all_goals try simp [Act.put]
        have HDX := Lib.hid (HDH.out.later LXD.out)
        clear hrl HTK i1 i2 i3 HDH HWD LW LXD
        have hnw : IntKind.u64.wrap (nd : Int) = (nd : Int) := by rw [IntKind.wrap_u64]; omega
        go_wp2_with fail
        go_loopw [14, 53] (fun lv iv wr => DtRInv d us wX lv iv wr) (fun _ iv _ => us.length - (intOf iv).toNat)
        case atStart => exact DtRInv.mk none 0 0 0 0 rfl rfl (Nat.zero_le _) (fun q h hq => by omega) (ownG_nil _ _ _ _) (Later.refl _)
        case round =>
          obtain ⟨L, cl, j, rfl, rfl, hj, hall, hown, lat⟩ := hrel
          by_cases hlt : j < us.length
          · obtain ⟨ub, uo, rfl, hcell⟩ : ∃ ub uo, UA = some ⟨ub, uo, none⟩ ∧ wr.cell? ⟨ub, uo + j, none⟩ = some (.int .u64 ((us[j] : Nat) : Int)) := by
              rcases HUH.out.later lat with h | ⟨ub, uo, h1, _, hc⟩
              · have h2 : us.length = 0 := by have h := congrArg List.length h; rw [ints_length] at h; exact h
                omega
              · exact ⟨ub, uo, h1, hc j _ (by rw [ints_get _ _ _ hlt])⟩
            have HREP := Lib.hid (show pick3 d (us.take (j + 1)) = pick3 d (us.take j) ++ [d.getD us[j] (0, 0, ⟨#[]⟩)] by
              unfold pick3; rw [List.take_succ_eq_append_getElem hlt, List.map_append]; rfl)
            have HMEM := Lib.hid (List.getElem_mem hlt)
            have HALL := Lib.hid (fun (hx : us[j] < d.length) => (show ∀ q (h : q < us.length), q < j + 1 → us[q] < d.length from fun q h hq => by
              rcases Nat.lt_or_ge q j with h' | h'
              · exact hall q h h'
              · obtain rfl : q = j := by omega
                exact hx))
            have hu64 := HU64.out _ (List.getElem_mem hlt)
            generalize us[j] = a at hcell HREP HMEM HALL hu64
            have HOWN := Lib.hid hown
            have LAT := Lib.hid lat
            have HJ9 := Lib.hid (show j < 1000 by have := HUN.out; omega)
            have hj9 : j < 1000 := HJ9.out
            clear hown lat hall
            by_cases ha : a < nd
            · have hge : decide ((nd : Int) ≤ (a : Int)) = false := by simp; omega
              have hge2 : decide (nd ≤ a) = false := by simp; omega
              have hge3 : ¬ nd ≤ a := by omega
              have had : a < d.length := by have := HND.out; omega
              obtain ⟨db, doff, rfl, c0, c1, c2⟩ := (HDX.out.later LAT.out).val3 a had
              rw [show d.getD a (0, 0, ⟨#[]⟩) = (d[a].1, d[a].2.1, d[a].2.2) by rw [List.getD_eq_getElem?_getD, List.getElem?_eq_getElem had]; rfl] at HREP
              generalize d[a].1 = vt at c0 HREP
              generalize d[a].2.1 = vi at c1 HREP
              generalize d[a].2.2 = vs at c2 HREP
              have ha0 : (0 : Int) ≤ (a : Int) := by omega
              have ha1 : (a : Int) < (nd : Int) := by omega
              have HAS := Lib.hid ((Blk.new wr (fl [(vt, vi, vs)]).toArray 26 _ rfl).has)
              have O2 := Lib.hid (HOWN.out.alloc (.cells (fl [(vt, vi, vs)]).toArray 26))
              have LT2 := Lib.hid (LAT.out.alloc (.cells (fl [(vt, vi, vs)]).toArray 26))
              have HAN := Lib.hid (HALL.out had)
              clear had hu64 ha HALL
              go_wp2_with (at_builtin; refine wpList_append_g _ rfl (.tmp 66) (.tmp 71) 23 rfl wX.heap.size 26 (vagg 0 0 ⟨#[]⟩) 3 32 Tryz.underlying23 info_v rfl (by decide) _ j (fl (pick3 d (us.take j))) rfl O2.out _ 1 1 (fl [(vt, vi, vs)]) rfl HAS.out (by rfl) (by intro h; cases h) (fl_one _) (by have := HJ9.out; unfold maxLen; omega) (by have := HJ9.out; omega) ?_ ?_; (exact LT2.out.size); intro A2 c2 w6 o2 g2 b2 n2; have HO2 := Lib.hid o2; have HB6 := Lib.hid (Later.of (LT2.out.below.trans b2)); clear o2 g2 b2 n2)
              go_roundw
              case rel => exact DtRInv.mk A2 c2 _ (j + 1) _ rfl (by omega) hlt HAN.out (by rw [HREP.out, fl_append]; exact HO2.out) HB6.out
              case measure => simp [intOf]; omega
            · have HO := Lib.hid (HON.out (HTXU.out fun h => ha (h a HMEM.out)))
              have hge : decide ((nd : Int) ≤ (a : Int)) = true := by simp; omega
              have hge2 : decide (nd ≤ a) = true := by simp; omega
              have hge3 : nd ≤ a := by omega
              have LZ := Lib.hid (LX.out.trans LAT.out)
              have HSX := Lib.hid (HS.out.later LZ.out)
              obtain ⟨sv, hsv⟩ := HSX.out.bound
              clear ha hu64 HALL
              go_wp2_with (go_at_call 27; refine (at_l _ _ _ _).mono ?_; rintro e w5 ⟨q, rfl, l5⟩)
              go_ret2
              exact ⟨.inl ⟨HO.out, q, rfl⟩, LZ.out.trans l5⟩
          · obtain rfl : j = us.length := by omega
            obtain ⟨l, hl⟩ : ∃ l, l = pick3 d us := ⟨_, rfl⟩
            rw [List.take_of_length_le (Nat.le_refl _), ← hl] at hown
            have HRK := Lib.hid (show readT t n b = some l by
              rw [HTYU.out fun p hp => ?_, hl]
              obtain ⟨q, hq, rfl⟩ := List.getElem_of_mem hp
              rw [HND.out]; exact hall q hq hq)
            obtain ⟨nl, hnl'⟩ : ∃ nl, nl = us.length := ⟨_, rfl⟩
            have hnl : nl = l.length := by rw [hl, hnl', pick3_len]
            rw [← hnl'] at hown hlt ⊢
            have HLH := Lib.hid (Has.ownG hown)
            have HCP := Lib.hid (And.intro (ownG_cap hown) (ownG_capmax hown))
            have HLN := Lib.hid (show l.length ≤ 1000 by have := HUN.out; omega)
            have HL64 := Lib.hid (readT_is HTT.out H256.out HRK.out).2.1
            have LX := Lib.hid (LX.out.trans lat)
            have HSX := Lib.hid (HS.out.later LX.out)
            clear hown lat hl hnl' HUN hall hj
            have HW := Lib.hid (dictWrite_n t L nl cl l wr hnl HSX.out HLN.out HLH.out HL64.out)
            have HNL := Lib.hid hnl
            clear hnl
            go_wp2_with fail
            refine HW.out.mono ?_
            rintro e wY ⟨⟨hp, p, rfl⟩ | ⟨pb, PA, pc, hp, rfl, ph, _, _, _⟩, lY⟩
            · have HO := Lib.hid (HOX.out l HRK.out (by rw [hp]; simp))
              have LY := Lib.hid (LX.out.trans lY)
              clear hp lY HW
              go_wp2_with (go_at_call 105; refine (cellSame_err _ _ _ _ _ _ _ _ _ p _).mono ?_; rintro e w' ⟨rfl, rfl⟩)
              go_ret2
              exact ⟨.inl ⟨HO.out, p, rfl⟩, LY.out⟩
            · have LY := Lib.hid (LX.out.trans lY)
              have HLY := Lib.hid (HLH.out.later lY)
              by_cases heq : pb = b
              · have HO := Lib.hid (HOY.out l HRK.out (by rw [hp, heq]))
                have HSM := Lib.hid (cellSame_yes L (some ⟨bb, off, none⟩) PA nl cl b.length c pb.length pc b wY rfl (by rw [heq]) (HR.out.later LY.out) (heq ▸ ph))
                clear hp lY HW heq ph
                go_wp2_with (go_at_call 105; refine HSM.out.mono ?_; rintro e w' ⟨rfl, rfl⟩)
                go_ret2
                refine ⟨.inr ⟨l, L, cl, HO.out, ?_, HLY.out, by have := HNL.out; have := HCP.out; omega⟩, LY.out⟩
                rw [← HNL.out]
                rfl
              · have HO := Lib.hid (HOX.out l HRK.out (by rw [hp]; intro e; injection e with e; exact heq e))
                have HSM := Lib.hid (cellSame_no L (some ⟨bb, off, none⟩) PA nl cl b.length c pb.length pc b pb wY (HS.out.later LY.out) rfl rfl (HR.out.later LY.out) ph (putT_lt HLN.out HL64.out hp) H256.out heq)
                clear hp lY HW heq ph
                go_wp2_with (go_at_call 105; refine HSM.out.mono ?_; rintro e w' ⟨⟨q, rfl⟩, lS⟩)
                go_ret2
                exact ⟨.inl ⟨HO.out, q, rfl⟩, LY.out.trans lS⟩

set_option maxRecDepth 100000 in
theorem dictRead_no (t n : Int) (A : Option Addr) (m c : Nat) (w : World) (hs : S6 w) (h : ¬ ((1 ≤ t ∧ t ≤ 4) ∧ 0 ≤ n ∧ n ≤ 1000)) :
    Calls Tryz.prog 81 #[.int .i64 t, .int .i64 n, .slice A m c] w (WritesV none w) := by
  have hif : Tryz.prog.isIface 40 = true := by kernel_rfl
  have HA := Lib.hid (count_no t n w h hs.type hs.bound)
  clear hs h
  go_enter Tryz.func81, Tryz.ntmps81
  go_wp2_with fail
  refine HA.out.mono ?_
  rintro e w1 ⟨v, rfl, ⟨p, rfl⟩, l1⟩
  have heq := run_eql_iface_nil (P := Tryz.prog) (w := w1) 40 hif 82 (.pointer (some p))
  go_wp2_with fail
  go_ret2
  exact ⟨.inl ⟨rfl, p, rfl⟩, l1⟩

theorem dictRead_any (t n : Int) (A : Option Addr) (c : Nat) (b : List Nat) (w : World) (hs : S6 w) (hr : Has w A (ints .u8 b)) (h256 : ∀ x ∈ b, x < 256) (hb : b.length ≤ 1000000) (hbc : b.length ≤ c) (hc : c ≤ 9223372036854775807) :
    Calls Tryz.prog 81 #[.int .i64 t, .int .i64 n, .slice A b.length c] w (WritesV (takeT t n b) w) := by
  by_cases h : (1 ≤ t ∧ t ≤ 4) ∧ 0 ≤ n ∧ n ≤ 1000
  · obtain ⟨m, rfl⟩ : ∃ m : Nat, n = (m : Int) := ⟨n.toNat, by omega⟩
    exact dictRead_yes t m A c b w hs h.1 (by omega) hr h256 hb hbc hc
  · unfold takeT; rw [if_neg h]; exact dictRead_no t n A _ c w hs h

set_option maxRecDepth 100000 in
theorem dictTake_c (t n : Int) (A : Option Addr) (c : Nat) (b : List Nat) (w : World) (hs : S6 w) (hr : Has w A (ints .u8 b)) (h256 : ∀ x ∈ b, x < 256) (hb : b.length ≤ 1000000) (hbc : b.length ≤ c) (hc : c ≤ 9223372036854775807) :
    Calls Tryz.prog 61 #[.int .i64 t, .int .i64 n, .slice A b.length c] w (TakesV (takeT t n b) w) := by
  have HC := Lib.hid (dictRead_any t n A c b w hs hr h256 hb hbc hc)
  clear hs hr h256 hb hbc hc
  go_enter Tryz.func61, Tryz.ntmps61
  go_wp2_with fail
  refine HC.out.mono ?_
  rintro e w1 ⟨⟨ho, p, rfl⟩ | ⟨l, B, cb, ho, rfl, h1⟩, l1⟩
  · go_wp2_with (go_at_call 79; refine (listV_no _ _ _ p _).mono ?_; rintro e w' ⟨rfl, rfl⟩)
    go_ret2
    exact ⟨.inl ⟨ho, rfl⟩, l1⟩
  · have H := Lib.hid (show TakesV (takeT t n b) w (.returned (.tuple #[.slice B l.length cb, .bool true])) w1 from ⟨.inr ⟨l, B, cb, ho, rfl, h1⟩, l1⟩)
    clear ho h1 l1
    go_wp2_with (go_at_call 79; refine (listV_yes _ _ _ _).mono ?_; rintro e w' ⟨rfl, rfl⟩)
    go_ret2
    exact H.out
theorem dictTake_any (t n : Int) (A : Option Addr) (c : Nat) (b : List Nat) (w : World) (hs : S6 w) (hr : Has w A (ints .u8 b)) (h256 : ∀ x ∈ b, x < 256) (hb : b.length ≤ 1000000) (hbc : b.length ≤ c) (hc : c ≤ 9223372036854775807) :
    Calls Tryz.prog 61 #[.int .i64 t, .int .i64 n, .slice A b.length c] w (PutsV (takeT t n b) w) :=
  (dictTake_c t n A c b w hs hr h256 hb hbc hc).mono fun _ _ h => h.puts
end Go.Proofs.YtldalkhmbpkjpaaGreatDoor
