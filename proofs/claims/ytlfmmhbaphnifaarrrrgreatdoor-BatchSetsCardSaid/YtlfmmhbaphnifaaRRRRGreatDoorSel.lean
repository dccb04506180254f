/- sel, SameInts; the document's Meet, Join, Rest. -/
import Derived.Test.YtlfmmhbaphnifaaRRRRGreatDoorSets
import Derived.Deep.RegionLaw
namespace Go.Proofs.YtlfmmhbaphnifaaRRRRGreatDoor
open Go.RowKit
set_option linter.unusedVariables false

theorem Has.bat {w : World} {A : Option Addr} {l : List Bool} (h : Has w A (bools l)) (k : Nat) (hk : k < l.length) : ∃ b off, A = some ⟨b, off, none⟩ ∧ w.cell? ⟨b, off + k, none⟩ = some (.bool l[k]) := by
  obtain ⟨b, off, hA, _, hc⟩ := h.at_ (k := k) (by rw [bools_length]; exact hk)
  refine ⟨b, off, hA, ?_⟩
  rw [hc]; simp [bools]
def bitAt (l : List Bool) (i : Int) : Bool := l.getD i.toNat false
theorem bitAt_nat (l : List Bool) (k : Nat) (h : k < l.length) : bitAt l (k : Int) = l[k] := by simp [bitAt, h]

set_option maxRecDepth 100000 in
set_option maxHeartbeats 4000000 in
theorem sel_any (A : Option Addr) (n c : Nat) (l : List Bool) (w : World) (hn : n = l.length) (hl : n ≤ 1000) (hr : Has w A (bools l)) :
    Calls Tryz.prog 22 #[.slice A n c] w (IntsP (selL l n) w) := by
  rw [show selL l n = (upto n).filter (bitAt l) from rfl]
  have HN := Lib.hid hn
  have HR := Lib.hid hr
  have HI0 := Lib.hid (FltI.zero (bitAt l) (upto n) (Later.refl w))
  clear hn hr
  go_enter Tryz.func22, Tryz.ntmps22
  go_wp2_with fail
  go_loopw [3, 4] (fun pv iv wr => FltI (bitAt l) (upto n) w pv iv wr) (fun _ i _ => n - (intOf i).toNat)
  case atStart => exact HI0.out
  case round =>
    obtain ⟨k, P, pn, pc, rfl, rfl, hk, hpn, hown, hnil, lat⟩ := hrel
    rw [upto_len] at hk
    have HOWN := Lib.hid hown
    have HNIL := Lib.hid hnil
    have HLAT := Lib.hid lat
    have HPN := Lib.hid hpn
    have hpb : pn ≤ 1000 := by have := flt_len (bitAt l) (upto n) k; omega
    clear HI0 hown hnil hpn
    by_cases hlt : k < n
    · have HKR := Lib.hid (show k < (upto n).length by rw [upto_len]; exact hlt)
      have HX := Lib.hid (upto_get n k HKR.out)
      have hkl : k < l.length := by have := HN.out; omega
      obtain ⟨ab, ao, hAA, ck⟩ := (HR.out.later lat).bat k hkl
      subst hAA
      have HBT := Lib.hid (bitAt_nat l k hkl)
      generalize l[k] = bv at ck HBT
      clear lat
      cases bv with
      | true =>
        have HBK := Lib.hid (fun (wz : World) => Blk.new wz #[.int .i64 (k : Int)] 3 wz.heap.size rfl)
        have HOA := Lib.hid (fun (o : Obj) => own_later HOWN.out (Later.new wr o))
        have HSZ := Lib.hid (show w.heap.size ≤ wr.heap.size from HLAT.out.size)
        go_wp2_with (at_builtin; refine wpList_append_g _ rfl (.tmp 15) (.tmp 17) 24 rfl w.heap.size 3 _ 1 8 Tryz.underlying24 info_z rfl (by decide) _ pn _ rfl (HOA.out _) _ 1 1 (zin [(k : Int)]) rfl (HBK.out wr).has rfl (by intro h; cases h) (zin_one _) (by unfold maxLen; omega) (by omega) (by have := HSZ.out; simp; omega) ?_; rintro A' c' wq hO _ hbel hn2; have HO2 := Lib.hid hO; have HN2 := Lib.hid hn2; have HL3 := Lib.hid (Later.of ((HLAT.out.alloc _).below.trans hbel)); clear hO hn2 hbel)
        go_roundw
        all_goals first
          | exact FltI.yes _ k _ pn _ _ (k : Int) rfl (by go_num) HKR.out HX.out HBT.out HPN.out HO2.out HN2.out HL3.out
          | (simp [intOf]; omega)
      | false =>
        go_wp2_with fail
        go_roundw
        all_goals first
          | exact FltI.no _ k _ _ _ (k : Int) (by go_num) HKR.out HX.out HBT.out HPN.out HOWN.out HNIL.out HLAT.out
          | (simp [intOf]; omega)
    · have HF := Lib.hid (FltI.all (by rw [upto_len]; omega) HPN.out HOWN.out HNIL.out HLAT.out)
      clear lat
      go_wp2_with fail
      go_ret
      exact HF.out

set_option maxRecDepth 100000 in
set_option maxHeartbeats 1000000 in
theorem sameInts_len (A B : Option Addr) (n ca cb : Nat) (a b : List Int) (w : World) (hna : a.length = n) (hnb : b.length = n) (ha : Has w A (zin a)) (hb : Has w B (zin b)) (hl : n ≤ 100000) :
    Calls Tryz.prog 23 #[.slice A n ca, .slice B n cb] w (TellsP (a = b) w) := by
  have HNA := Lib.hid hna
  have HNB := Lib.hid hnb
  clear hna hnb
  go_enter Tryz.func23, Tryz.ntmps23
  go_wp2_with fail
  go_loopw [5] (fun i wr => ∃ j : Nat, j ≤ n ∧ i = .int .i64 j ∧ a.take j = b.take j ∧ Later w wr) (fun i _ => n - (intOf i).toNat)
  case atStart => exact ⟨0, Nat.zero_le _, rfl, by simp, Later.refl _⟩
  case round =>
    obtain ⟨j, hj, rfl, heq, lat⟩ := hrel
    by_cases hlt : j < n
    · have hj1 : j < a.length := by have := HNA.out; omega
      have hj2 : j < b.length := by have := HNB.out; omega
      obtain ⟨b1, o1, rfl, c0⟩ := (ha.later lat).zat j hj1
      obtain ⟨b2, o2, rfl, d0⟩ := (hb.later lat).zat j hj2
      have HEQ := Lib.hid (fun (h : a[j] = b[j]) => show a.take (j + 1) = b.take (j + 1) by
        rw [List.take_succ_eq_append_getElem hj1, List.take_succ_eq_append_getElem hj2, heq, h])
      have HNE := Lib.hid (fun (h : a[j] ≠ b[j]) => show a ≠ b from fun e => h (by subst e; rfl))
      generalize a[j] = x at c0 HEQ HNE
      generalize b[j] = y at d0 HEQ HNE
      have LAT := Lib.hid lat
      clear lat heq ha hb
      by_cases h1 : x = y
      · subst h1
        have e1 : (x != x) = false := by simp
        go_wp2_with fail
        go_quiet (fail)
        go_wp2_with fail
        go_roundw
        case rel => exact ⟨j + 1, hlt, by go_num, HEQ.out trivial, (LAT.out.drewN _)⟩
        case measure => simp [intOf]; omega
      · have e1 : (x != y) = true := by simp [h1]
        have HX := Lib.hid (HNE.out h1)
        go_wp2_with fail
        go_quiet (fail)
        go_wp2_with fail
        go_ret
        exact TellsP.f HX.out (LAT.out.drewN _)
    · have HEQ := Lib.hid (show a = b by rw [List.take_of_length_le (by have := HNA.out; omega), List.take_of_length_le (by have := HNB.out; omega)] at heq; exact heq)
      have LAT := Lib.hid lat
      clear lat heq ha hb
      go_wp2_with fail
      go_ret
      exact TellsP.t HEQ.out LAT.out
set_option maxRecDepth 100000 in
theorem sameInts_any (A B : Option Addr) (n m ca cb : Nat) (a b : List Int) (w : World) (hn : n = a.length) (hm : m = b.length) (ha : Has w A (zin a)) (hb : Has w B (zin b)) (hl : n ≤ 100000) :
    Calls Tryz.prog 23 #[.slice A n ca, .slice B m cb] w (TellsP (a = b) w) := by
  by_cases hlen : n = m
  · subst hlen
    exact sameInts_len A B n ca cb a b w hn.symm hm.symm ha hb hl
  · have hd : ((n : Int) != (m : Int)) = true := by simp; omega
    have HX := Lib.hid (show ¬ a = b from fun e => hlen (by rw [hn, hm, e]))
    clear ha hb hn hm
    go_enter Tryz.func23, Tryz.ntmps23
    go_wp2_with fail
    go_ret
    exact TellsP.f HX.out (Later.refl _)
end Go.Proofs.YtlfmmhbaphnifaaRRRRGreatDoor
