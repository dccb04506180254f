/- slices.Equal and EqualFunc at rows; batch.SameRows; the document's SameRow, SameRows. (gen: XCell's sameValues) -/
import Derived.Test.YtfmjpjnkjbognaaDoorBatR
import Derived.Shelf.Abstract
import Derived.Deep.RegionLaw
import Derived.Deep.RegionHeld3
namespace Go.Proofs.YtfmjpjnkjbognaaDoor
open Go.RowKit
set_option linter.unusedVariables false

set_option maxRecDepth 100000 in
theorem refSameRow_any (A B : Option Addr) (n m ca cb : Nat) (a b : List Val3) (w : World) (hn : n = a.length) (hm : m = b.length) (ha : Has w A (fl a)) (hb : Has w B (fl b)) (hl : n ≤ 100000) (hl2 : m ≤ 100000) :
    Calls Tryd.prog 22 #[.slice A n ca, .slice B m cb] w (TellsP (a = b) w) := by
  have H := Lib.hid (sameValues_any A B ca cb a b w ha hb (by omega) (by omega))
  rw [← hn, ← hm] at H
  clear hn hm ha hb hl hl2
  go_enter Tryd.func22, Tryd.ntmps22
  go_wp2_with fail
  refine H.out.mono ?_
  rintro e w' ⟨r, hr, rfl, L⟩
  have HP := Lib.hid (show TellsP (a = b) w (.returned (.bool r)) w' from ⟨r, hr, rfl, L⟩)
  clear hr L H
  go_wp2_with fail
  go_ret
  exact HP.out
theorem lrows_yes {ss ts : List SlV} {k : Nat} (h1 : k < ss.length) (h2 : k < ts.length) (hp : (ss.take k).map (·.l) = (ts.take k).map (·.l)) (h : ss[k].l = ts[k].l) : (ss.take (k + 1)).map (·.l) = (ts.take (k + 1)).map (·.l) := by
  rw [List.take_succ_eq_append_getElem h1, List.take_succ_eq_append_getElem h2, List.map_append, List.map_append, hp, List.map_singleton, List.map_singleton, h]
theorem lrows_no {ss ts : List SlV} {k : Nat} (h1 : k < ss.length) (h2 : k < ts.length) (h : ss[k].l ≠ ts[k].l) : ss.map (·.l) ≠ ts.map (·.l) := fun e => h (by
  have e1 : (ss.map (·.l))[k]? = (ts.map (·.l))[k]? := by rw [e]
  rw [List.getElem?_map, List.getElem?_map, List.getElem?_eq_getElem h1, List.getElem?_eq_getElem h2] at e1
  injection e1)

set_option maxRecDepth 100000 in
set_option maxHeartbeats 2000000 in
theorem refSameRows_len (A B : Option Addr) (n c d : Nat) (ss ts : List SlV) (w : World) (hn : n = ss.length) (hm : n = ts.length) (hl : n ≤ 1000) (ha : RowsAt w A ss) (hb : RowsAt w B ts) (la : ∀ s ∈ ss, s.l.length ≤ 1000) (lb : ∀ s ∈ ts, s.l.length ≤ 1000) :
    Calls Tryd.prog 12 #[.slice A n c, .slice B n d] w (TellsP (ss.map (·.l) = ts.map (·.l)) w) := by
  have HN := Lib.hid hn
  have HM := Lib.hid hm
  have HA := Lib.hid ha
  have HB := Lib.hid hb
  have HLA := Lib.hid la
  have HLB := Lib.hid lb
  have hnn : ((n : Int) != (n : Int)) = false := by simp
  clear hn hm ha hb la lb
  go_enter Tryd.func12, Tryd.ntmps12
  go_wp2_with fail
  go_loopw [5] (fun i wr => ∃ j : Nat, j ≤ n ∧ i = .int .i64 j ∧ (ss.take j).map (·.l) = (ts.take j).map (·.l) ∧ Later w wr) (fun i _ => n - (intOf i).toNat)
  case atStart => exact ⟨0, Nat.zero_le _, rfl, by simp, Later.refl _⟩
  case round =>
    obtain ⟨j, hj, rfl, heq, lat⟩ := hrel
    by_cases hlt : j < n
    · have hj1 : j < ss.length := by have := HN.out; omega
      have hj2 : j < ts.length := by have := HM.out; omega
      obtain ⟨b1, o1, hA1, c0, hh1, _⟩ := (HA.out.later lat).get j hj1
      obtain ⟨b2, o2, hB1, d0, hh2, _⟩ := (HB.out.later lat).get j hj2
      subst hA1 hB1
      have l1 := HLA.out _ (List.getElem_mem hj1)
      have l2 := HLB.out _ (List.getElem_mem hj2)
      have HY := Lib.hid (fun h => lrows_yes hj1 hj2 heq h)
      have HX := Lib.hid (fun h => lrows_no hj1 hj2 h)
      have HC := Lib.hid (fun W (l : Later wr W) => refSameRow_any ss[j].a ts[j].a ss[j].l.length ts[j].l.length ss[j].c ts[j].c ss[j].l ts[j].l W rfl rfl (hh1.later l) (hh2.later l) (by omega) (by omega))
      have HLAT := Lib.hid lat
      generalize ss[j].a = ra at c0 HC
      generalize ss[j].c = rc at c0 HC
      generalize ts[j].a = sa at d0 HC
      generalize ts[j].c = sc at d0 HC
      obtain ⟨x, hx⟩ : ∃ x, ss[j].l = x := ⟨_, rfl⟩
      obtain ⟨y, hy⟩ : ∃ y, ts[j].l = y := ⟨_, rfl⟩
      rw [hx] at HC HY HX c0
      rw [hy] at HC HY HX d0
      generalize x.length = xl at c0 HC
      generalize y.length = yl at d0 HC
      clear heq lat hh1 hh2 hx hy l1 l2
      by_cases he : x = y
      · have HE := Lib.hid (HY.out he)
        have HEQ := Lib.hid he
        clear he HY HX
        go_wp2_with fail
        go_region_held3 (fun w' => w'.cell? ⟨b1, o1 + j, none⟩ = some (.slice ra xl rc) ∧ w'.cell? ⟨b2, o2 + j, none⟩ = some (.slice sa yl sc)) (exact ⟨c0, d0⟩) (first | (go_at_call 22; refine (HC.out _ ((Later.refl wr).drew)).mono ?_; intro e wX h; obtain ⟨rfl, lX⟩ := h.yes HEQ.out; have c0 := lX.cell c0; have d0 := lX.cell d0; have HLX := Lib.hid (HLAT.out.trans ((Later.refl wr).drew.trans lX)); clear lX h))
        go_wp2_with fail
        go_roundw
        all_goals first
          | exact ⟨j + 1, hlt, by go_num, HE.out, HLX.out⟩
          | (simp [intOf]; omega)
      · have HE := Lib.hid (HX.out he)
        have HEQ := Lib.hid he
        clear he HY HX
        go_wp2_with fail
        go_region_held3 (fun w' => w'.cell? ⟨b1, o1 + j, none⟩ = some (.slice ra xl rc) ∧ w'.cell? ⟨b2, o2 + j, none⟩ = some (.slice sa yl sc)) (exact ⟨c0, d0⟩) (first | (go_at_call 22; refine (HC.out _ ((Later.refl wr).drew)).mono ?_; intro e wX h; obtain ⟨rfl, lX⟩ := h.no HEQ.out; have c0 := lX.cell c0; have d0 := lX.cell d0; have HLX := Lib.hid (HLAT.out.trans ((Later.refl wr).drew.trans lX)); clear lX h))
        go_wp2_with fail
        go_ret
        exact TellsP.f HE.out HLX.out
    · have HE := Lib.hid (show ss.map (·.l) = ts.map (·.l) by
        rw [List.take_of_length_le (by have := HN.out; omega), List.take_of_length_le (by have := HM.out; omega)] at heq; exact heq)
      have HLAT := Lib.hid lat
      clear heq lat
      go_wp2_with fail
      go_ret
      exact TellsP.t HE.out HLAT.out
set_option maxRecDepth 100000 in
theorem refSameRows_any (A B : Option Addr) (n m c d : Nat) (ss ts : List SlV) (w : World) (hn : n = ss.length) (hm : m = ts.length) (hl : n ≤ 1000) (hl2 : m ≤ 1000) (ha : RowsAt w A ss) (hb : RowsAt w B ts) (la : ∀ s ∈ ss, s.l.length ≤ 1000) (lb : ∀ s ∈ ts, s.l.length ≤ 1000) :
    Calls Tryd.prog 12 #[.slice A n c, .slice B m d] w (TellsP (ss.map (·.l) = ts.map (·.l)) w) := by
  by_cases hlen : n = m
  · subst hlen
    exact refSameRows_len A B n c d ss ts w hn hm hl ha hb la lb
  · have hd : ((n : Int) != (m : Int)) = true := by simp; omega
    have HX := Lib.hid (show ¬ ss.map (·.l) = ts.map (·.l) from fun e => hlen (by rw [hn, hm]; simpa using congrArg List.length e))
    clear ha hb la lb hn hm
    go_enter Tryd.func12, Tryd.ntmps12
    go_wp2_with fail
    go_ret
    exact TellsP.f HX.out (Later.refl _)

end Go.Proofs.YtfmjpjnkjbognaaDoor
