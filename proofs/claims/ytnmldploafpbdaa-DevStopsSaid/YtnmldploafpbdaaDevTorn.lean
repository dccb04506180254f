/- The walk of DevTorn. -/
import Derived.Test.YtnmldploafpbdaaDevBeg
namespace Go.Proofs.Ytnmldploafpbdaa
open Go.RowKit
set_option linter.unusedVariables false

set_option maxRecDepth 100000 in
theorem devTorn_long (A B : Option Addr) (n ca nb cb : Nat) (at_ : Int) (w : World) (h : ¬ (n ≤ 200 ∧ nb ≤ 200)) :
    Calls Try.prog 5 #[.slice A n ca, .slice B nb cb, .int .i64 at_] w fun e w' => e = .returned (.bool true) ∧ Later w w' := by
  have HB := Lib.hid (begun18_any w)
  go_enter Try.func5, Try.ntmps5
  go_wp2_with fail
  refine HB.out.mono ?_
  rintro e w1 ⟨rfl, l1⟩
  by_cases h1 : n ≤ 200
  · have d1 : decide ((200 : Int) < (n : Int)) = false := by simp; omega
    have d2 : decide ((200 : Int) < (nb : Int)) = true := by simp; omega
    clear h
    go_wp2_with fail
    go_ret
    exact ⟨rfl, l1⟩
  · have d1 : decide ((200 : Int) < (n : Int)) = true := by simp; omega
    clear h
    go_wp2_with fail
    go_ret
    exact ⟨rfl, l1⟩

def tD1 (a : List Nat) : D := (newD 1).wr 0 (fullL a)
def tD2 (a : List Nat) : D := (tD1 a).fl
def tD3 (a b : List Nat) : D := (tD2 a).wr 0 (fullL b)
def tD4 (a b : List Nat) (at_ : Int) : D := (tD3 a b).cr [255] 0 at_
theorem tD4_now (a b : List Nat) (at_ : Int) : (tD4 a b at_).now = [mixL (fullL b) (fullL a) at_] := rfl
theorem mix_get {b old : List Nat} (hb : b.length = 128) (ho : old.length = 128) (at_ : Int) (i : Nat) (hi : i < 128) : (mixL b old at_)[i]? = if (i : Int) < at_ then b[i]? else old[i]? := by
  unfold mixL
  have hk := mixK_le at_
  have hki : i < mixK at_ ↔ (i : Int) < at_ := by unfold mixK; omega
  rw [List.getElem?_append, List.length_take, hb, Nat.min_eq_left hk]
  by_cases h : i < mixK at_
  · rw [if_pos h, if_pos (hki.1 h), List.getElem?_take_of_lt h]
  · rw [if_neg h, if_neg (fun h2 => h (hki.2 h2)), List.getElem?_drop]
    congr 1; omega
def ToI (w : World) (iv : Value) (wr : World) : Prop := ∃ j : Nat, iv = .int .i64 j ∧ j ≤ 128 ∧ Later w wr
theorem ToI.mk {w wr : World} (a : Int) (j : Nat) (ha : a = (j : Int)) (hj : j ≤ 128) (h : Later w wr) : ToI w (.int .i64 a) wr := by
  subst ha; exact ⟨j, rfl, hj, h⟩
/-- A byte of a block. -/
theorem BV.at_ {w : World} {v : Value} {l : List Nat} (h : BV w v l) {b o c : Nat} (hv : v = .slice (some ⟨b, o, none⟩) 128 c) (i x : Nat) (hx : l[i]? = some x) : w.cell? ⟨b, o + i, none⟩ = some (.int .u8 (x : Int)) := by
  obtain ⟨_, _, b', o', c', cs, h3, _, _, h6, h7⟩ := h
  rw [hv] at h3
  injection h3 with h3
  injection h3 with h3
  injection h3 with h4 h5
  subst h4 h5
  rw [cell_of_row w b (o + i) cs _ (0, 0) h6]
  exact h7 i _ (by unfold ints; rw [List.getElem?_map, hx]; rfl)
theorem FullP.has {b : List Nat} {w' : World} {g : Nat} (h : Row w' g 5 .u8 (fullL b)) (i x : Nat) (hx : (fullL b)[i]? = some x) : w'.cell? ⟨g, i, none⟩ = some (.int .u8 (x : Int)) := by
  have hi := (List.getElem?_eq_some_iff.1 hx)
  obtain ⟨h1, h2⟩ := hi
  rw [← h2]; exact h.cell i h1

set_option maxRecDepth 100000 in
set_option maxHeartbeats 8000000 in
theorem devTorn_walk (A B : Option Addr) (n ca nb cb : Nat) (a b : List Nat) (at_ : Int) (w : World) (hn : n = a.length) (hnb : nb = b.length) (h1 : n ≤ 200) (h2 : nb ≤ 200) (hra : Has w A (ints .u8 a)) (hrb : Has w B (ints .u8 b)) (ha : ∀ x ∈ a, x < 256) (hb : ∀ x ∈ b, x < 256) :
    Calls Try.prog 5 #[.slice A n ca, .slice B nb cb, .int .i64 at_] w fun e w' => e = .returned (.bool true) ∧ Later w w' := by
  have HB := Lib.hid (begun18_any w)
  have HFA := Lib.hid (fun (W : World) (L : Later w W) => full_any A n ca a W hn (by omega) (hra.later L))
  have HFB := Lib.hid (fun (W : World) (L : Later w W) => full_any B nb cb b W hnb (by omega) (hrb.later L))
  have H256A := Lib.hid (fullL_lt ha)
  have H256B := Lib.hid (fullL_lt hb)
  have d1 : decide ((200 : Int) < (n : Int)) = false := by simp; omega
  have d2 : decide ((200 : Int) < (nb : Int)) = false := by simp; omega
  clear hn hnb h1 h2 hra hrb ha hb
  go_enter Try.func5, Try.ntmps5
  go_wp2_with fail
  refine HB.out.mono ?_
  rintro e w1 ⟨rfl, l1⟩
  have HL1 := Lib.hid l1
  have HNW := Lib.hid (devNew_any 1 w1 (by decide))
  clear l1 HB
  go_wp2_with fail
  refine HNW.out.mono ?_
  rintro e w2 ⟨p, gs, gn, cs, cn, rfl, hda, l2⟩
  obtain ⟨bs, hbs⟩ : ∃ x, x = w1.heap.size := ⟨_, rfl⟩
  rw [← hbs] at hda
  have HBS := Lib.hid (show w.heap.size ≤ bs by rw [hbs]; exact HL1.out.size)
  have HBS2 := Lib.hid (show bs ≤ w2.heap.size by rw [hbs]; exact l2.size)
  have HD2 := Lib.hid hda
  have HL2 := Lib.hid (HL1.out.trans l2)
  have HF1 := Lib.hid (HFA.out w2 HL2.out)
  clear hda l2 HNW HL1 hbs
  go_wp2_with fail
  refine HF1.out.mono ?_
  rintro e w3 ⟨g3, rfl, r3, l3, _⟩
  have HD3 := Lib.hid (HD2.out.later l3)
  have HL3 := Lib.hid (HL2.out.trans l3)
  have hb3 := Nat.le_trans HBS2.out l3.size
  have HWR := Lib.hid (devWrite_yes bs p gs gn 1 cs cn none 0 (newD 1) 0 (some ⟨g3, 0, none⟩) 128 (fullL a) w3 HD3.out (by decide) (by decide) rfl (fullL_len a) (Has.row r3) H256A.out (by decide) (by decide) hb3 (by intro h; cases h))
  have HB3 := Lib.hid hb3
  clear r3 l3 hb3 HF1 HD2 HL2
  go_wp2_with fail
  refine HWR.out.mono ?_
  rintro e w4 ⟨rfl, ⟨cs4, cn4, A4, cf4, hda⟩, kd, bl⟩
  have HD4 := Lib.hid (show DA w4 bs p gs gn 1 cs4 cn4 A4 cf4 (tD1 a) from hda)
  have HB4 := Lib.hid (Nat.le_trans HB3.out bl.size)
  have HL4 := Lib.hid (show Later w w4 from Later.of (HL3.out.below.trans (Below.mono bl HBS.out)))
  have HFS := Lib.hid (devFlush_any bs p gs gn 1 cs4 cn4 A4 cf4 (tD1 a) w4 HD4.out (by decide) rfl (show (1 : Nat) ≤ 100000 by decide) (fun x hx => by rw [List.mem_singleton.1 hx]; exact (show (0 : Nat) < 1 by decide)) HB4.out)
  clear hda kd bl HWR
  go_wp2_with fail
  refine HFS.out.mono ?_
  rintro e w5 ⟨rfl, ⟨cs5, cn5, A5, cf5, hda⟩, kd, bl⟩
  have HD5 := Lib.hid (show DA w5 bs p gs gn 1 cs5 cn5 A5 cf5 (tD2 a) from hda)
  have HB5 := Lib.hid (Nat.le_trans HB4.out bl.size)
  have HL5 := Lib.hid (show Later w w5 from Later.of (HL4.out.below.trans (Below.mono bl HBS.out)))
  have HF2 := Lib.hid (HFB.out w5 HL5.out)
  clear hda kd bl HFS
  go_wp2_with fail
  refine HF2.out.mono ?_
  rintro e w6 ⟨g6, rfl, r6, l6, _⟩
  have HD6 := Lib.hid (HD5.out.later l6)
  have HL6 := Lib.hid (HL5.out.trans l6)
  have hb6 := Nat.le_trans HB5.out l6.size
  have HWR := Lib.hid (devWrite_yes bs p gs gn 1 cs5 cn5 A5 cf5 (tD2 a) 0 (some ⟨g6, 0, none⟩) 128 (fullL b) w6 HD6.out (by decide) (by decide) rfl (fullL_len b) (Has.row r6) H256B.out (show (0 : Nat) ≤ 100000 by decide) (show (0 + 1 : Int) ≤ 100000 ∧ (0 : Int) ≤ 0 + 1 by decide) hb6 (by intro h; cases h))
  have HB6 := Lib.hid hb6
  clear r6 l6 hb6 HF2
  go_wp2_with fail
  refine HWR.out.mono ?_
  rintro e w7 ⟨rfl, ⟨cs7, cn7, A7, cf7, hda⟩, kd, bl⟩
  have L8 := Later.new w7 (.cells (ints .u8 [255]).toArray 5)
  have HD8 := Lib.hid ((show DA w7 bs p gs gn 1 cs7 cn7 A7 cf7 (tD3 a b) from hda).later L8)
  have HB8 := Lib.hid (Nat.le_trans (Nat.le_trans HB6.out bl.size) L8.size)
  have HL8 := Lib.hid ((show Later w w7 from Later.of (HL6.out.below.trans (Below.mono bl HBS.out))).trans L8)
  have HLT := Lib.hid (Row.lit w7 5 .u8 [255])
  have HCR := Lib.hid (devCrash_any bs p gs gn 1 cs7 cn7 A7 cf7 (tD3 a b) (some ⟨w7.heap.size, 0, none⟩) 1 1 [255] 0 at_ _ HD8.out (by decide) (show (1 : Nat) ≤ 100000 by decide) (fun x hx => by rw [List.mem_singleton.1 hx]; exact (show (0 : Nat) < 1 by decide)) HB8.out rfl (by decide) (Has.row HLT.out) (by decide) (fun b o h _ => by injection h with h; injection h with h1 h2; subst h1; exact ⟨_, HLT.out⟩))
  clear hda kd bl HWR L8
  go_wp2_with fail
  refine HCR.out.mono ?_
  rintro e w9 ⟨rfl, ⟨gn9, cs9, cn9, A9, cf9, hda⟩, kd, bl⟩
  have HD9 := Lib.hid (show DA w9 bs p gs gn9 1 cs9 cn9 A9 cf9 (tD4 a b at_) from hda)
  have HL9 := Lib.hid (show Later w w9 from Later.of (HL8.out.below.trans (Below.mono bl HBS.out)))
  have HRD := Lib.hid (devRead_any bs p gs gn9 1 cs9 cn9 A9 cf9 (tD4 a b at_) 0 w9 HD9.out (by decide) (by decide))
  clear hda kd bl HCR
  go_wp2_with fail
  refine HRD.out.mono ?_
  rintro e w10 ⟨vx, rfl, hbx, l10, xA, xc, rfl⟩
  have hbv : BV w10 (.slice xA 128 xc) (mixL (fullL b) (fullL a) at_) := hbx
  have HBV := Lib.hid hbv
  obtain ⟨bx, ox, cx, hvx, hcx, _, _⟩ := hbv.has
  injection hvx with hvx _ hcc
  subst hvx hcc
  have HL10 := Lib.hid (HL9.out.trans l10)
  clear hbx l10 hbv HRD
  go_wp2_with fail
  go_loopw [11] (fun iv wr => ToI w10 iv wr) (fun iv _ => 128 - (intOf iv).toNat)
  case atStart => exact ToI.mk 0 0 rfl (Nat.zero_le _) (Later.refl _)
  case round =>
    obtain ⟨j, rfl, hj, hla⟩ := hrel
    have HLA := Lib.hid hla
    by_cases hlt : j < 128
    · have HFa := Lib.hid (HFA.out wr (HL10.out.trans hla))
      obtain ⟨xa, hxa⟩ : ∃ x, (fullL a)[j]? = some x := ⟨_, List.getElem?_eq_getElem (by rw [fullL_len]; exact hlt)⟩
      obtain ⟨xb, hxb⟩ : ∃ x, (fullL b)[j]? = some x := ⟨_, List.getElem?_eq_getElem (by rw [fullL_len]; exact hlt)⟩
      have HXA := Lib.hid hxa
      have HXB := Lib.hid hxb
      have hmx := mix_get (fullL_len b) (fullL_len a) at_ j hlt
      rw [hxa, hxb] at hmx
      have HMX := Lib.hid hmx
      clear hla hxa hxb hmx
      go_wp2_with fail
      refine HFa.out.mono ?_
      rintro e w11 ⟨ga, rfl, ra, la, _⟩
      have k0 := FullP.has ra j xa HXA.out
      have HL11 := Lib.hid (HLA.out.trans la)
      clear ra la HFa
      by_cases hlo : (j : Int) < at_
      · have dlo : decide ((j : Int) < at_) = true := by simpa using hlo
        have HFb := Lib.hid (HFB.out w11 (HL10.out.trans HL11.out))
        have hm : (mixL (fullL b) (fullL a) at_)[j]? = some xb := by rw [HMX.out, if_pos hlo]
        have HMM := Lib.hid hm
        clear hm hlo
        go_wp2_with fail
        refine HFb.out.mono ?_
        rintro e w12 ⟨gb, rfl, rb, lb, _⟩
        have k1 := FullP.has rb j xb HXB.out
        have HL12 := Lib.hid (HL11.out.trans lb)
        have k2 := (HBV.out.later HL12.out).at_ rfl j xb HMM.out
        clear rb lb HFb k0
        go_wp2_with fail
        go_roundw
        case rel => exact ToI.mk _ (j + 1) (by go_num) hlt HL12.out
        case measure => simp [intOf]; omega
      · have dlo : decide ((j : Int) < at_) = false := by simpa using hlo
        have hm : (mixL (fullL b) (fullL a) at_)[j]? = some xa := by rw [HMX.out, if_neg hlo]
        have k2 := (HBV.out.later HL11.out).at_ rfl j xa hm
        clear hm hlo
        go_wp2_with fail
        go_roundw
        case rel => exact ToI.mk _ (j + 1) (by go_num) hlt HL11.out
        case measure => simp [intOf]; omega
    · obtain rfl : j = 128 := by omega
      clear hla
      go_wp2_with fail
      go_ret
      exact ⟨rfl, HL10.out.trans HLA.out⟩
end Go.Proofs.Ytnmldploafpbdaa
