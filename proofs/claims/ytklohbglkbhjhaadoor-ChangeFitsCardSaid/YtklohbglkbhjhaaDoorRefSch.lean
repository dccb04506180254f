
import Derived.Test.YtklohbglkbhjhaaDoorSchA
import Derived.Test.YtklohbglkbhjhaaDoorBase
import Derived.Test.YtklohbglkbhjhaaDoorChgE
import Derived.Test.YtklohbglkbhjhaaDoorRowsM
import Derived.WalkKit
import Derived.Laws.OwnMore
import Derived.Laws.BytesArg
import Derived.Laws.Rows
import Derived.Deep.AppendLies
import Derived.Deep.Draws
import Derived.Test.YtklohbglkbhjhaaDoorChecked
import Derived.Deep.OwnRows
import Derived.Lib.Hide
import Derived.Deep.Quiet
import Derived.Laws.AppendOwnNone
import Derived.Lib.Strings
import Derived.Outline
import Derived.WalkLawsBesides
import Derived.WalkSpells
import Derived.PlainAid
import Derived.Deep.QuietTactic
import Derived.BigQuiet
import Derived.RegionTactic
import Derived.BigRegion
import Derived.Handy
import Derived.Laws.BitsAllLaws
import Derived.Deep.RegionWith
import Derived.Lib.AppendStr
import Derived.Deep.RegionLaw
import Derived.Maps.AppendAt
import Derived.OpenShut
import Derived.WideShapes
import Derived.ChangeArms
import Derived.Deep.Slices
import Derived.Sort.Grow
import Derived.LaidEql
import Derived.Stop.Asserts
import Derived.RowKitTokens
import Derived.OrdersHeld
import Derived.Stop.IfaceNil
import Derived.Laws.BitsLemmas
import Derived.Laws.Bits64
import Derived.WalkSmall
import Derived.Lib.Bytealg
import Derived.Deep.SlicePairs
import Derived.Shelf.Abstract
/- The document's MayName, isType, ByID, Find, May, MayLayout. -/

namespace Go.Proofs.YtklohbglkbhjhaaDoor
open Go.RowKit
set_option linter.unusedVariables false

set_option maxRecDepth 100000 in
set_option maxHeartbeats 1000000 in
theorem refMayName_any (s : ByteArray) (w : World) (hl : s.size ≤ 9223372036854775807) :
    Calls Tryd.prog 29 #[.string s] w (TellsP (NameL s) w) := by
  go_enter Tryd.func29, Tryd.ntmps29
  go_wp2_with fail
  go_loopw [3] (fun i wr => ∃ k : Nat, k ≤ s.size ∧ i = .int .i64 k ∧ (∀ j (h : j < s.size), j < k → 33 ≤ s[j].toNat ∧ s[j].toNat ≤ 126) ∧ Later w wr) (fun i _ => s.size - (intOf i).toNat)
  case atStart => exact ⟨0, Nat.zero_le _, rfl, fun j h h2 => absurd h2 (Nat.not_lt_zero _), Later.refl _⟩
  case round =>
    obtain ⟨k, hk, rfl, hall, lat⟩ := hrel
    have HALL := Lib.hid hall
    clear hall
    by_cases hlt : k < s.size
    · have HY := Lib.hid (fun (h : 33 ≤ s[k].toNat ∧ s[k].toNat ≤ 126) => show ∀ j (h : j < s.size), j < k + 1 → 33 ≤ s[j].toNat ∧ s[j].toNat ≤ 126 from fun j h1 h2 => by
        rcases Nat.lt_or_ge j k with h3 | h3
        · exact HALL.out j h1 h3
        · obtain rfl : j = k := by omega
          exact h)
      have HNO := Lib.hid (fun (h : ¬ (33 ≤ s[k].toNat ∧ s[k].toNat ≤ 126)) => show ¬ NameL s from fun hf => h (hf.1 k hlt))
      by_cases h1 : (s[k].toNat : Int) < 33
      · have HX := Lib.hid (HNO.out (by omega))
        go_wp2_with fail
        go_ret
        exact TellsP.f HX.out lat
      · by_cases h2 : (126 : Int) < (s[k].toNat : Int)
        · have HX := Lib.hid (HNO.out (by omega))
          go_wp2_with fail
          go_ret
          exact TellsP.f HX.out lat
        · have HX := Lib.hid (HY.out (by omega))
          go_wp2_with fail
          go_roundw
          case rel => exact ⟨k + 1, hlt, by go_num, HX.out, lat⟩
          case measure => simp [intOf]; omega
    · obtain rfl : k = s.size := by omega
      by_cases h1 : 1 ≤ s.size
      · by_cases h2 : (s.size : Int) ≤ 12
        · have HX := Lib.hid (show NameL s from ⟨fun i h => HALL.out i h h, h1, by omega⟩)
          go_wp2_with fail
          go_ret
          exact TellsP.t HX.out lat
        · have HX := Lib.hid (show ¬ NameL s from fun h => h2 (by have := h.2.2; omega))
          go_wp2_with fail
          go_ret
          exact TellsP.f HX.out lat
      · have HX := Lib.hid (show ¬ NameL s from fun h => h1 h.2.1)
        go_wp2_with fail
        go_ret
        exact TellsP.f HX.out lat
theorem refIsType_any (t : Int) (w : World) : Calls Tryd.prog 48 #[.int .i64 t] w (TellsP (TypL t) w) := by
  by_cases h1 : 1 ≤ t
  · by_cases h2 : t ≤ 4
    · have HX := Lib.hid (show TypL t from ⟨h1, h2⟩)
      go_enter Tryd.func48, Tryd.ntmps48
      go_wp2_with fail
      go_ret
      exact TellsP.t HX.out (Later.refl _)
    · have HX := Lib.hid (show ¬ TypL t from fun h => h2 h.2)
      go_enter Tryd.func48, Tryd.ntmps48
      go_wp2_with fail
      go_ret
      exact TellsP.f HX.out (Later.refl _)
  · have HX := Lib.hid (show ¬ TypL t from fun h => h1 h.1)
    go_enter Tryd.func48, Tryd.ntmps48
    go_wp2_with fail
    go_ret
    exact TellsP.f HX.out (Later.refl _)

set_option maxRecDepth 100000 in
set_option maxHeartbeats 4000000 in
theorem refByID_any (A : Option Addr) (n c : Nat) (last : Int) (l : List Col3) (v : Int) (w : World) (hn : n = l.length) (hl : n ≤ 100000) (hr : Has w A (fc l)) :
    Calls Tryd.prog 25 #[.agg #[.slice A n c, .int .i64 last], .int .i64 v] w (FoundP (findI l v) w) := by
  obtain ⟨q, hq⟩ : ∃ x, w.heap.size = x := ⟨_, rfl⟩
  obtain ⟨w1, hw1⟩ : ∃ x : World, w.alloc (.cells #[.slice A n c, .int .i64 last] 24) = x := ⟨_, rfl⟩
  have l1 : Later w w1 := hw1 ▸ Later.new w _
  have b1 : Blk w1 q #[.slice A n c, .int .i64 last] 24 := hw1 ▸ Blk.new w _ _ _ hq.symm
  have HB := Lib.hid b1
  have HL := Lib.hid l1
  have HW := Lib.hid hw1
  have HR := Lib.hid (hr.later l1)
  have HN := Lib.hid hn
  have HQ := Lib.hid hq
  clear l1 b1 hw1 hn hr hq
  go_enter Tryd.func25, Tryd.ntmps25
  go_wp2_with fail
  rw [HW.out, HQ.out]
  have HI0 := Lib.hid (show ∃ k : Nat, k ≤ n ∧ Value.int .i64 0 = .int .i64 k ∧ (∀ j (h : j < l.length), j < k → l[j].1 ≠ v) ∧ Later w1 w1 from ⟨0, Nat.zero_le _, rfl, fun j h h2 => absurd h2 (Nat.not_lt_zero _), Later.refl _⟩)
  go_loopw [6] (fun i wr => ∃ k : Nat, k ≤ n ∧ i = .int .i64 k ∧ (∀ j (h : j < l.length), j < k → l[j].1 ≠ v) ∧ Later w1 wr) (fun i _ => n - (intOf i).toNat)
  case atStart => exact HI0.out
  case round =>
    obtain ⟨k, hk, rfl, hall, lat⟩ := hrel
    have HALL := Lib.hid hall
    have LAT := Lib.hid lat
    have e0 := (HB.out.later lat).cell 0 _ rfl
    clear hall HI0
    by_cases hlt : k < n
    · have hkl : k < l.length := by have := HN.out; omega
      obtain ⟨b, off, rfl, c0, c1, _⟩ := (HR.out.later lat).col3 k hkl
      have HF := Lib.hid (fun (h : l[k].1 = v) => show findI l v = some k from firstAt hkl (by simpa using h) (fun i hi hik => by simpa using HALL.out i hi hik))
      have HY := Lib.hid (fun (h : l[k].1 ≠ v) => show ∀ j (h : j < l.length), j < k + 1 → l[j].1 ≠ v from fun j h1 h2 => by
        rcases Nat.lt_or_ge j k with h3 | h3
        · exact HALL.out j h1 h3
        · obtain rfl : j = k := by omega
          exact h)
      generalize l[k] = x at c0 c1 HF HY
      obtain ⟨xi, xs, xt⟩ := x
      dsimp only at c0 c1
      have hkn : (k : Int) < (n : Int) := by omega
      clear lat
      by_cases h1 : xi = v
      · have HX := Lib.hid (HF.out h1)
        subst h1
        go_wp2_with fail
        go_ret2
        rw [HX.out]
        exact ⟨rfl, HL.out.trans LAT.out⟩
      · have HX := Lib.hid (HY.out h1)
        have hne : (xi == v) = false := by simp [h1]
        go_wp2_with fail
        go_roundw
        case rel => exact ⟨k + 1, hlt, by go_num, HX.out, LAT.out⟩
        case measure => simp [intOf]; omega
    · have HX := Lib.hid (show findI l v = none from firstNo (fun i hi => by simpa using HALL.out i hi (by have := HN.out; omega)))
      have hkn : ¬ (k : Int) < (n : Int) := by omega
      clear lat
      go_wp2_with fail
      go_ret2
      rw [HX.out]
      exact ⟨rfl, HL.out.trans LAT.out⟩

set_option maxRecDepth 100000 in
set_option maxHeartbeats 4000000 in
theorem refFind_any (A : Option Addr) (n c : Nat) (last : Int) (l : List Col3) (v : ByteArray) (w : World) (hn : n = l.length) (hl : n ≤ 100000) (hr : Has w A (fc l)) :
    Calls Tryd.prog 23 #[.agg #[.slice A n c, .int .i64 last], .string v] w (FoundP (findC l v) w) := by
  obtain ⟨q, hq⟩ : ∃ x, w.heap.size = x := ⟨_, rfl⟩
  obtain ⟨w1, hw1⟩ : ∃ x : World, w.alloc (.cells #[.slice A n c, .int .i64 last] 24) = x := ⟨_, rfl⟩
  have l1 : Later w w1 := hw1 ▸ Later.new w _
  have b1 : Blk w1 q #[.slice A n c, .int .i64 last] 24 := hw1 ▸ Blk.new w _ _ _ hq.symm
  have HB := Lib.hid b1
  have HL := Lib.hid l1
  have HW := Lib.hid hw1
  have HR := Lib.hid (hr.later l1)
  have HN := Lib.hid hn
  have HQ := Lib.hid hq
  clear l1 b1 hw1 hn hr hq
  go_enter Tryd.func23, Tryd.ntmps23
  go_wp2_with fail
  rw [HW.out, HQ.out]
  have HI0 := Lib.hid (show ∃ k : Nat, k ≤ n ∧ Value.int .i64 0 = .int .i64 k ∧ (∀ j (h : j < l.length), j < k → l[j].2.1 ≠ v) ∧ Later w1 w1 from ⟨0, Nat.zero_le _, rfl, fun j h h2 => absurd h2 (Nat.not_lt_zero _), Later.refl _⟩)
  go_loopw [6] (fun i wr => ∃ k : Nat, k ≤ n ∧ i = .int .i64 k ∧ (∀ j (h : j < l.length), j < k → l[j].2.1 ≠ v) ∧ Later w1 wr) (fun i _ => n - (intOf i).toNat)
  case atStart => exact HI0.out
  case round =>
    obtain ⟨k, hk, rfl, hall, lat⟩ := hrel
    have HALL := Lib.hid hall
    have LAT := Lib.hid lat
    have e0 := (HB.out.later lat).cell 0 _ rfl
    clear hall HI0
    by_cases hlt : k < n
    · have hkl : k < l.length := by have := HN.out; omega
      obtain ⟨b, off, rfl, c0, c1, _⟩ := (HR.out.later lat).col3 k hkl
      have HF := Lib.hid (fun (h : l[k].2.1 = v) => show findC l v = some k from firstAt hkl (by simpa using h) (fun i hi hik => by simpa using HALL.out i hi hik))
      have HY := Lib.hid (fun (h : l[k].2.1 ≠ v) => show ∀ j (h : j < l.length), j < k + 1 → l[j].2.1 ≠ v from fun j h1 h2 => by
        rcases Nat.lt_or_ge j k with h3 | h3
        · exact HALL.out j h1 h3
        · obtain rfl : j = k := by omega
          exact h)
      generalize l[k] = x at c0 c1 HF HY
      obtain ⟨xi, xs, xt⟩ := x
      dsimp only at c0 c1
      have hkn : (k : Int) < (n : Int) := by omega
      clear lat
      by_cases h1 : xs = v
      · have HX := Lib.hid (HF.out h1)
        subst h1
        go_wp2_with fail
        go_ret2
        rw [HX.out]
        exact ⟨rfl, HL.out.trans LAT.out⟩
      · have HX := Lib.hid (HY.out h1)
        have hne : (xs.toList == v.toList) = false := by rw [str_beq]; simp [h1]
        go_wp2_with fail
        go_roundw
        case rel => exact ⟨k + 1, hlt, by go_num, HX.out, LAT.out⟩
        case measure => simp [intOf]; omega
    · have HX := Lib.hid (show findC l v = none from firstNo (fun i hi => by simpa using HALL.out i hi (by have := HN.out; omega)))
      have hkn : ¬ (k : Int) < (n : Int) := by omega
      clear lat
      go_wp2_with fail
      go_ret2
      rw [HX.out]
      exact ⟨rfl, HL.out.trans LAT.out⟩

/-- A column of a schema, as the document tells it. -/
theorem colS_iff {l : List Col3} {last : Int} {k : Nat} (hk : k < l.length) : ColS l last k l[k] ↔ ColL last l[k] ∧ ∀ i (h : i < l.length), i < k → l[i].1 ≠ l[k].1 ∧ l[i].2.1 ≠ l[k].2.1 := by
  constructor
  · rintro ⟨h1, h2, h3⟩
    refine ⟨h1, fun i hi hik => ?_⟩
    unfold findI at h2
    unfold findC at h3
    rw [List.findIdx?_eq_some_iff_getElem] at h2 h3
    obtain ⟨_, _, h2⟩ := h2
    obtain ⟨_, _, h3⟩ := h3
    exact ⟨by simpa using h2 i hik, by simpa using h3 i hik⟩
  · rintro ⟨h1, h2⟩
    exact ⟨h1, firstAt hk (by simp) (fun i hi hik => by simpa using (h2 i hi hik).1), firstAt hk (by simp) (fun i hi hik => by simpa using (h2 i hi hik).2)⟩
set_option maxRecDepth 100000 in
set_option maxHeartbeats 4000000 in
theorem refMay_any (A : Option Addr) (n c : Nat) (last : Int) (l : List Col3) (w : World) (hn : n = l.length) (hl : n ≤ 100000) (hr : Has w A (fc l)) (hnm : ∀ x ∈ l, x.2.1.size ≤ 9223372036854775807) :
    Calls Tryd.prog 19 #[.agg #[.slice A n c, .int .i64 last]] w (TellsP (MayS l last) w) := by
  obtain ⟨q, hq⟩ : ∃ x, w.heap.size = x := ⟨_, rfl⟩
  obtain ⟨w1, hw1⟩ : ∃ x : World, w.alloc (.cells #[.slice A n c, .int .i64 last] 24) = x := ⟨_, rfl⟩
  have l1 : Later w w1 := hw1 ▸ Later.new w _
  have b1 : Blk w1 q #[.slice A n c, .int .i64 last] 24 := hw1 ▸ Blk.new w _ _ _ hq.symm
  have HB := Lib.hid b1
  have e0 := b1.cell 0 _ rfl
  have e1 := b1.cell 1 _ rfl
  have HL := Lib.hid l1
  have HW := Lib.hid hw1
  have HR := Lib.hid (hr.later l1)
  have HN := Lib.hid hn
  have HNM := Lib.hid hnm
  have HQ := Lib.hid hq
  clear l1 b1 hw1 hn hr hnm hq
  go_enter Tryd.func19, Tryd.ntmps19
  go_wp2_with fail
  rw [HW.out, HQ.out]
  go_wp2_with fail
  have HI0 := Lib.hid (show ∃ k : Nat, k ≤ n ∧ Value.int .i64 0 = .int .i64 k ∧ (∀ j (h : j < l.length), j < k → ColS l last j l[j]) ∧ Later w1 w1 from ⟨0, Nat.zero_le _, rfl, fun j h h2 => absurd h2 (Nat.not_lt_zero _), Later.refl _⟩)
  clear e0 e1
  go_loopw [3] (fun i wr => ∃ k : Nat, k ≤ n ∧ i = .int .i64 k ∧ (∀ j (h : j < l.length), j < k → ColS l last j l[j]) ∧ Later w1 wr) (fun i _ => n - (intOf i).toNat)
  case atStart => exact HI0.out
  case round =>
    obtain ⟨k, hk, rfl, hall, lat⟩ := hrel
    have HALL := Lib.hid hall
    clear hall HI0
    by_cases hlt : k < n
    · have hkl : k < l.length := by have := HN.out; omega
      obtain ⟨b, off, rfl, c0, c1, c2⟩ := (HR.out.later lat).col3 k hkl
      have r0 := (HB.out.later lat).cell 0 _ rfl
      have HY := Lib.hid (fun (h : ColS l last k l[k]) => show ∀ j (h : j < l.length), j < k + 1 → ColS l last j l[j] from fun j h1 h2 => by
        rcases Nat.lt_or_ge j k with h3 | h3
        · exact HALL.out j h1 h3
        · obtain rfl : j = k := by omega
          exact h)
      have HNO := Lib.hid (fun (h : ¬ ColS l last k l[k]) => show ¬ MayS l last from fun hf => h (hf.2.2 k hkl))
      have HCS := Lib.hid (fun (h1 : ColL last l[k]) (h2 : ∀ i (h : i < l.length), i < k → l[i].1 ≠ l[k].1 ∧ l[i].2.1 ≠ l[k].2.1) => (colS_iff hkl).2 ⟨h1, h2⟩)
      have HCN := Lib.hid (fun (i : Nat) (hi : i < l.length) (hik : i < k) (h : l[i].1 = l[k].1 ∨ l[i].2.1 = l[k].2.1) => show ¬ ColS l last k l[k] from fun hc => by
        have := ((colS_iff hkl).1 hc).2 i hi hik
        rcases h with h | h
        · exact this.1 h
        · exact this.2 h)
      have hnl := HNM.out _ (List.getElem_mem hkl)
      obtain ⟨lx, hlx⟩ : ∃ x, l[k] = x := ⟨_, rfl⟩
      rw [hlx] at c0 c1 c2 HY HNO HCS HCN hnl
      clear hlx
      obtain ⟨x, s, t⟩ := lx
      dsimp only at c0 c1 c2 hnl
      obtain ⟨g, hg⟩ : ∃ x, wr.heap.size = x := ⟨_, rfl⟩
      obtain ⟨wa, hwa⟩ : ∃ y, wr.alloc (.cells #[.int .i64 x, .string s, .int .i64 t] 59) = y := ⟨_, rfl⟩
      have la : Later wr wa := hwa ▸ Later.new _ _
      have hba : Blk wa g #[.int .i64 x, .string s, .int .i64 t] 59 := hwa ▸ Blk.new wr _ _ _ hg.symm
      have HLA := Lib.hid (lat.trans la)
      have v0 := hba.cell 0 _ rfl
      have v1 := hba.cell 1 _ rfl
      have v2 := hba.cell 2 _ rfl
      have hb1 := HB.out.later HLA.out
      have e0 := hb1.cell 0 _ rfl
      have e1 := hb1.cell 1 _ rfl
      have HG := Lib.hid hg
      have HRA := Lib.hid (HR.out.later HLA.out)
      have HBA := Lib.hid hba
      have hkn : (k : Int) < (n : Int) := by omega
      clear la hba lat hb1
      by_cases k1 : x < 1
      · have HX := Lib.hid (HNO.out fun h => by have := h.1.1.1; exact absurd this (by show ¬ 1 ≤ x; omega))
        go_wp2_with fail
        go_ret
        exact TellsP.f HX.out (HL.out.trans HLA.out)
      by_cases k2 : last < x
      · have HX := Lib.hid (HNO.out fun h => by have := h.1.1.2; exact absurd this (by show ¬ x ≤ last; omega))
        go_wp2_with fail
        go_ret
        exact TellsP.f HX.out (HL.out.trans HLA.out)
      have HNC := Lib.hid (refMayName_any s wa hnl)
      by_cases k3 : NameL s
      rotate_left
      · have HX := Lib.hid (HNO.out fun h => k3 h.1.2.1)
        have HK3 := Lib.hid k3
        clear k3
        go_wp2_with fail
        refine HNC.out.mono ?_
        rintro e w2 ht
        obtain ⟨rfl, l2⟩ := ht.no HK3.out
        have HL2 := Lib.hid (HLA.out.trans l2)
        clear ht l2 HNC
        go_wp2_with fail
        go_ret
        exact TellsP.f HX.out (HL.out.trans HL2.out)
      have HK3 := Lib.hid k3
      clear k3
      go_wp2_with fail
      refine HNC.out.mono ?_
      rintro e w2 ht
      obtain ⟨rfl, l2⟩ := ht.yes HK3.out
      have HL2 := Lib.hid (HLA.out.trans l2)
      have v0 := (HBA.out.later l2).cell 0 _ rfl
      have v1 := (HBA.out.later l2).cell 1 _ rfl
      have v2 := (HBA.out.later l2).cell 2 _ rfl
      have e0 := (HB.out.later HL2.out).cell 0 _ rfl
      have e1 := (HB.out.later HL2.out).cell 1 _ rfl
      have HTC := Lib.hid (refIsType_any t w2)
      have HB2 := Lib.hid (HBA.out.later l2)
      clear ht l2 HNC HBA hwa
      by_cases k4 : TypL t
      rotate_left
      · have HX := Lib.hid (HNO.out fun h => k4 h.1.2.2)
        have HK4 := Lib.hid k4
        clear k4
        go_wp2_with fail
        refine HTC.out.mono ?_
        rintro e w3 ht
        obtain ⟨rfl, l3⟩ := ht.no HK4.out
        have HL3 := Lib.hid (HL2.out.trans l3)
        clear ht l3 HTC
        go_wp2_with fail
        go_ret
        exact TellsP.f HX.out (HL.out.trans HL3.out)
      have HK4 := Lib.hid k4
      clear k4
      go_wp2_with fail
      refine HTC.out.mono ?_
      rintro e w3 ht
      obtain ⟨rfl, l3⟩ := ht.yes HK4.out
      have HL3 := Lib.hid (HL2.out.trans l3)
      have v0 := (HB2.out.later l3).cell 0 _ rfl
      have v1 := (HB2.out.later l3).cell 1 _ rfl
      have v2 := (HB2.out.later l3).cell 2 _ rfl
      have e0 := (HB.out.later HL3.out).cell 0 _ rfl
      have e1 := (HB.out.later HL3.out).cell 1 _ rfl
      have HB3 := Lib.hid (HB2.out.later l3)
      have HLC := Lib.hid (show ColL last (x, s, t) from ⟨⟨by show 1 ≤ x; omega, by show x ≤ last; omega⟩, HK3.out, HK4.out⟩)
      clear ht l3 HTC HB2
      go_wp2_with fail
      clear v0 v1 v2 e0 e1 r0 c0 c1 c2
      have HJ0 := Lib.hid (show ∃ i : Nat, i ≤ k ∧ Value.int .i64 0 = .int .i64 i ∧ (∀ j (h : j < l.length), j < i → l[j].1 ≠ x ∧ l[j].2.1 ≠ s) ∧ Later w3 w3 from ⟨0, Nat.zero_le _, rfl, fun j h h2 => absurd h2 (Nat.not_lt_zero _), Later.refl _⟩)
      go_loopw [5] (fun iv wq => ∃ i : Nat, i ≤ k ∧ iv = .int .i64 i ∧ (∀ j (h : j < l.length), j < i → l[j].1 ≠ x ∧ l[j].2.1 ≠ s) ∧ Later w3 wq) (fun i _ => k - (intOf i).toNat)
      case atStart => exact HJ0.out
      case round =>
        obtain ⟨i, hi, rfl, hin, la2⟩ := hrel
        have HIN := Lib.hid hin
        have HLQ := Lib.hid (HL3.out.trans la2)
        have v0 := (HB3.out.later la2).cell 0 _ rfl
        have v1 := (HB3.out.later la2).cell 1 _ rfl
        have e0 := (HB.out.later HLQ.out).cell 0 _ rfl
        have HLA2 := Lib.hid la2
        clear hin HJ0 la2
        by_cases hik : i < k
        · have hil : i < l.length := by have := HN.out; omega
          obtain ⟨b2, off2, hA2, d0, d1, _⟩ := (HR.out.later HLQ.out).col3 i hil
          injection hA2 with hA2
          injection hA2 with x1 x2
          subst x1 x2
          have HBAD := Lib.hid (fun (h : l[i].1 = x ∨ l[i].2.1 = s) => HNO.out (HCN.out i hil hik h))
          have HGO := Lib.hid (fun (h : l[i].1 ≠ x ∧ l[i].2.1 ≠ s) => show ∀ j (h : j < l.length), j < i + 1 → l[j].1 ≠ x ∧ l[j].2.1 ≠ s from fun j h1 h2 => by
            rcases Nat.lt_or_ge j i with h3 | h3
            · exact HIN.out j h1 h3
            · obtain rfl : j = i := by omega
              exact h)
          generalize l[i] = y at d0 d1 HBAD HGO
          obtain ⟨yi, ys, yt⟩ := y
          dsimp only at d0 d1
          have hikk : (i : Int) < (k : Int) := by omega
          have hin2 : (i : Int) < (n : Int) := by omega
          by_cases g1 : yi = x
          · have HX := Lib.hid (HBAD.out (.inl g1))
            have hq1 : (yi == x) = true := by simp [g1]
            clear g1
            go_wp2_with fail
            go_quiet (fail)
            go_wp2_with fail
            go_ret
            exact TellsP.f HX.out (HL.out.trans (HLQ.out.drewN _))
          have hq1 : (yi == x) = false := by simp [g1]
          by_cases g2 : ys = s
          · have HX := Lib.hid (HBAD.out (.inr g2))
            have hq2 : (ys.toList == s.toList) = true := by rw [str_beq]; simp [g2]
            clear g1 g2
            go_wp2_with fail
            go_quiet (fail)
            go_wp2_with fail
            go_ret
            exact TellsP.f HX.out (HL.out.trans (HLQ.out.drewN _))
          have hq2 : (ys.toList == s.toList) = false := by rw [str_beq]; simp [g2]
          have HX := Lib.hid (HGO.out ⟨g1, g2⟩)
          clear g1 g2
          go_wp2_with fail
          go_quiet (fail)
          go_wp2_with fail
          go_roundw
          case rel => exact ⟨i + 1, hik, by go_num, HX.out, HLA2.out.drewN _⟩
          case measure => simp [intOf]; omega
        · have hikk : ¬ (i : Int) < (k : Int) := by omega
          have HX := Lib.hid (HY.out (HCS.out HLC.out fun j h h2 => HIN.out j h (by omega)))
          clear v0 v1 e0
          go_wp2_with fail
          go_roundw
          case rel => exact ⟨k + 1, hlt, by go_num, HX.out, HLQ.out⟩
          case measure => simp [intOf]; omega
    · have e0 := (HB.out.later lat).cell 0 _ rfl
      have e1 := (HB.out.later lat).cell 1 _ rfl
      have HLT := Lib.hid lat
      clear lat
      by_cases m1 : (1 : Int) ≤ (n : Int)
      rotate_left
      · have HX := Lib.hid (show ¬ MayS l last from fun h => by have := h.1; have := HN.out; omega)
        go_wp2_with fail
        go_ret
        exact TellsP.f HX.out (HL.out.trans HLT.out)
      by_cases m2 : (n : Int) ≤ 6
      rotate_left
      · have HX := Lib.hid (show ¬ MayS l last from fun h => by have := h.1; have := HN.out; omega)
        go_wp2_with fail
        go_ret
        exact TellsP.f HX.out (HL.out.trans HLT.out)
      by_cases m3 : last ≤ 10000
      rotate_left
      · have HX := Lib.hid (show ¬ MayS l last from fun h => by have := h.2.1; omega)
        go_wp2_with fail
        go_ret
        exact TellsP.f HX.out (HL.out.trans HLT.out)
      have HX := Lib.hid (show MayS l last from ⟨⟨by have := HN.out; omega, by have := HN.out; omega⟩, by omega, fun i h => HALL.out i h (by have := HN.out; omega)⟩)
      go_wp2_with fail
      go_ret
      exact TellsP.t HX.out (HL.out.trans HLT.out)
set_option maxRecDepth 100000 in
set_option maxHeartbeats 8000000 in
theorem refMayLayout_any (A E : Option Addr) (n c en ec : Nat) (last : Int) (l : List Col3) (m : Lay4) (w : World) (hn : n = l.length) (hen : en = m.enc.length) (hl : n ≤ 100000) (hel : en ≤ 100000) (hr : Has w A (fc l)) (hE : Has w E (ein m.enc)) :
    Calls Tryd.prog 21 #[.agg #[.slice A n c, .int .i64 last], lagg m E en ec] w (TellsP (MayLy l m) w) := by
  obtain ⟨sb, pb, parts, enc⟩ := m
  dsimp only at hen hE
  unfold lagg
  dsimp only
  obtain ⟨P, hP⟩ : ∃ P : Prop, MayLy l ⟨sb, pb, parts, enc⟩ = P := ⟨_, rfl⟩
  rw [hP]
  have HPN := Lib.hid (fun (h : ¬ MayLy l ⟨sb, pb, parts, enc⟩) => show ¬ P from hP ▸ h)
  have HPY := Lib.hid (fun (h : MayLy l ⟨sb, pb, parts, enc⟩) => show P from hP ▸ h)
  clear hP
  obtain ⟨q, hq⟩ : ∃ x, w.heap.size = x := ⟨_, rfl⟩
  obtain ⟨w1, hw1⟩ : ∃ x : World, (w.alloc (.cells #[.slice A n c, .int .i64 last] 24)).alloc (.cells #[.int .i64 sb, .int .i64 pb, .int .i64 parts, .slice E en ec] 27) = x := ⟨_, rfl⟩
  have l1 : Later w w1 := hw1 ▸ (Later.new w _).alloc _
  have b1 : Blk w1 q #[.slice A n c, .int .i64 last] 24 := hw1 ▸ (Blk.new w _ _ _ hq.symm).later (Later.new _ _)
  have b2 : Blk w1 (q + 1) #[.int .i64 sb, .int .i64 pb, .int .i64 parts, .slice E en ec] 27 := hw1 ▸ Blk.new _ _ _ _ (by simp; omega)
  have HB := Lib.hid b1
  have HB2 := Lib.hid b2
  have HL := Lib.hid l1
  have HR := Lib.hid (hr.later l1)
  have HE := Lib.hid (hE.later l1)
  have HN := Lib.hid hn
  have HEN := Lib.hid hen
  obtain ⟨bs, hbs⟩ : ∃ x, (findI l sb).isSome = x := ⟨_, rfl⟩
  obtain ⟨bp, hbp⟩ : ∃ x, (findI l pb).isSome = x := ⟨_, rfl⟩
  have HBS := Lib.hid hbs
  have HBP := Lib.hid hbp
  have e0 := b1.cell 0 _ rfl
  have e1 := b1.cell 1 _ rfl
  have d0 := b2.cell 0 _ rfl
  have d1 := b2.cell 1 _ rfl
  have d2 := b2.cell 2 _ rfl
  have d3 := b2.cell 3 _ rfl
  have HI1 := Lib.hid (refByID_any A n c last l sb w1 hn hl (hr.later l1))
  clear l1 hr hE hn hen b1 b2 hbs hbp
  go_enter Tryd.func21, Tryd.ntmps21
  go_wp2_with fail
  refine HI1.out.mono ?_
  rintro e w2 ⟨rfl, l2⟩
  rw [HBS.out]
  have HI2 := Lib.hid (refByID_any A n c last l pb w2 HN.out hl (HR.out.later l2))
  have HL2 := Lib.hid l2
  clear HI1 e0 e1 d0 d1 d2 d3 hw1 hq
  have e0 := (HB.out.later l2).cell 0 _ rfl
  have e1 := (HB.out.later l2).cell 1 _ rfl
  have d1 := (HB2.out.later l2).cell 1 _ rfl
  clear l2
  go_wp2_with fail
  refine HI2.out.mono ?_
  rintro e w3 ⟨rfl, l3⟩
  rw [HBP.out]
  have HY := Lib.hid (HL2.out.trans l3)
  clear HI2 l3 HL2 e0 e1 d1
  have HI0 := Lib.hid (show ∃ k : Nat, k ≤ en ∧ Value.int .i64 0 = .int .i64 k ∧ (∀ j (h : j < enc.length), j < k → EncL enc[j]) ∧ Later w1 w3 from ⟨0, Nat.zero_le _, rfl, fun j h h2 => absurd h2 (Nat.not_lt_zero _), HY.out⟩)
  go_wp2_with fail
  go_loopw [9] (fun i wr => ∃ k : Nat, k ≤ en ∧ i = .int .i64 k ∧ (∀ j (h : j < enc.length), j < k → EncL enc[j]) ∧ Later w1 wr) (fun i _ => en - (intOf i).toNat)
  case atStart => exact HI0.out
  case round =>
    obtain ⟨k, hk, rfl, hall, lat⟩ := hrel
    have HALL := Lib.hid hall
    have HLT := Lib.hid lat
    have e0 := (HB.out.later lat).cell 0 _ rfl
    have d0 := (HB2.out.later lat).cell 0 _ rfl
    have d1 := (HB2.out.later lat).cell 1 _ rfl
    have d2 := (HB2.out.later lat).cell 2 _ rfl
    have d3 := (HB2.out.later lat).cell 3 _ rfl
    clear hall HI0
    by_cases hlt : k < en
    · have hkl : k < enc.length := by have := HEN.out; omega
      obtain ⟨b, off, rfl, c0⟩ := (HE.out.later lat).ein k hkl
      have HYY := Lib.hid (fun (h : EncL enc[k]) => show ∀ j (h : j < enc.length), j < k + 1 → EncL enc[j] from fun j h1 h2 => by
        rcases Nat.lt_or_ge j k with h3 | h3
        · exact HALL.out j h1 h3
        · obtain rfl : j = k := by omega
          exact h)
      have HNO := Lib.hid (fun (h : ¬ EncL enc[k]) => HPN.out fun hf => h (hf.2.2.2.1 _ (List.getElem_mem hkl)))
      generalize enc[k] = x at c0 HYY HNO
      have hkn : (k : Int) < (en : Int) := by omega
      clear lat
      by_cases x1 : x < 1
      · have HX := Lib.hid (HNO.out fun h => by have := h.1; omega)
        go_wp2_with fail
        go_ret
        exact TellsP.f HX.out (HL.out.trans HLT.out)
      by_cases x2 : 5 < x
      · have HX := Lib.hid (HNO.out fun h => by have := h.2; omega)
        go_wp2_with fail
        go_ret
        exact TellsP.f HX.out (HL.out.trans HLT.out)
      have HX := Lib.hid (HYY.out ⟨by omega, by omega⟩)
      go_wp2_with fail
      go_roundw
      case rel => exact ⟨k + 1, hlt, by go_num, HX.out, HLT.out⟩
      case measure => simp [intOf]; omega
    · have hkn : ¬ (k : Int) < (en : Int) := by omega
      have HALLE := Lib.hid (show ∀ e ∈ enc, EncL e from fun e he => by
        obtain ⟨j, hj, rfl⟩ := List.getElem_of_mem he
        exact HALL.out j hj (by have := HEN.out; omega))
      clear lat
      by_cases s0 : sb = 0
      · have zs : (sb == 0) = true := by simp [s0]
        by_cases p1 : (1 : Int) ≤ parts
        rotate_left
        · have HX := Lib.hid (HPN.out (fun h => p1 h.2.1.1))
          go_wp2_with fail
          go_ret
          exact TellsP.f HX.out (HL.out.trans HLT.out)
        by_cases p2 : parts ≤ (4 : Int)
        rotate_left
        · have HX := Lib.hid (HPN.out (fun h => p2 h.2.1.2))
          go_wp2_with fail
          go_ret
          exact TellsP.f HX.out (HL.out.trans HLT.out)
        rcases hbp : bp with _ | _
        · have HP0 := Lib.hid (show (findI l pb).isSome = false from HBP.out.trans hbp)
          subst hbp
          by_cases z1 : pb = 0
          rotate_left
          · have zp : (pb == 0) = false := by simp [z1]
            have HX := Lib.hid (HPN.out (fun h => by rcases h.2.2.1 with h | h; exact absurd (h.symm.trans HP0.out) (by simp); exact z1 h.1))
            go_wp2_with fail
            go_ret
            exact TellsP.f HX.out (HL.out.trans HLT.out)
          have zp : (pb == 0) = true := by simp [z1]
          by_cases z2 : parts = 1
          rotate_left
          · have zq : (parts == 1) = false := by simp [z2]
            have HX := Lib.hid (HPN.out (fun h => by rcases h.2.2.1 with h | h; exact absurd (h.symm.trans HP0.out) (by simp); exact z2 h.2))
            go_wp2_with fail
            go_ret
            exact TellsP.f HX.out (HL.out.trans HLT.out)
          have zq : (parts == 1) = true := by simp [z2]
          by_cases hlen : en = n
          rotate_left
          · have zl : ((en : Int) == (n : Int)) = false := by simp; omega
            have HX := Lib.hid (HPN.out (fun h => hlen (by have h1 := h.2.2.2.2; have := HEN.out; have := HN.out; simp only at h1; omega)))
            go_wp2_with fail
            go_ret
            exact TellsP.f HX.out (HL.out.trans HLT.out)
          have zl : ((en : Int) == (n : Int)) = true := by simp; omega
          have HX := Lib.hid (HPY.out ⟨.inl s0, ⟨p1, p2⟩, .inr ⟨z1, z2⟩, HALLE.out, by have := HEN.out; have := HN.out; show enc.length = l.length; omega⟩)
          clear hlen
          go_wp2_with fail
          go_ret
          exact TellsP.t HX.out (HL.out.trans HLT.out)
        · have HP0 := Lib.hid (show (findI l pb).isSome = true from HBP.out.trans hbp)
          subst hbp
          by_cases hlen : en = n
          rotate_left
          · have zl : ((en : Int) == (n : Int)) = false := by simp; omega
            have HX := Lib.hid (HPN.out (fun h => hlen (by have h1 := h.2.2.2.2; have := HEN.out; have := HN.out; simp only at h1; omega)))
            go_wp2_with fail
            go_ret
            exact TellsP.f HX.out (HL.out.trans HLT.out)
          have zl : ((en : Int) == (n : Int)) = true := by simp; omega
          have HX := Lib.hid (HPY.out ⟨.inl s0, ⟨p1, p2⟩, .inl HP0.out, HALLE.out, by have := HEN.out; have := HN.out; show enc.length = l.length; omega⟩)
          clear hlen
          go_wp2_with fail
          go_ret
          exact TellsP.t HX.out (HL.out.trans HLT.out)
      · have zs : (sb == 0) = false := by simp [s0]
        rcases hbs : bs with _ | _
        · have HS0 := Lib.hid (show (findI l sb).isSome = false from HBS.out.trans hbs)
          subst hbs
          have HX := Lib.hid (HPN.out (fun h => by rcases h.1 with h | h; exact s0 h; exact absurd (h.symm.trans HS0.out) (by simp)))
          go_wp2_with fail
          go_ret
          exact TellsP.f HX.out (HL.out.trans HLT.out)
        · have HS0 := Lib.hid (show (findI l sb).isSome = true from HBS.out.trans hbs)
          subst hbs
          by_cases p1 : (1 : Int) ≤ parts
          rotate_left
          · have HX := Lib.hid (HPN.out (fun h => p1 h.2.1.1))
            go_wp2_with fail
            go_ret
            exact TellsP.f HX.out (HL.out.trans HLT.out)
          by_cases p2 : parts ≤ (4 : Int)
          rotate_left
          · have HX := Lib.hid (HPN.out (fun h => p2 h.2.1.2))
            go_wp2_with fail
            go_ret
            exact TellsP.f HX.out (HL.out.trans HLT.out)
          rcases hbp : bp with _ | _
          · have HP0 := Lib.hid (show (findI l pb).isSome = false from HBP.out.trans hbp)
            subst hbp
            by_cases z1 : pb = 0
            rotate_left
            · have zp : (pb == 0) = false := by simp [z1]
              have HX := Lib.hid (HPN.out (fun h => by rcases h.2.2.1 with h | h; exact absurd (h.symm.trans HP0.out) (by simp); exact z1 h.1))
              go_wp2_with fail
              go_ret
              exact TellsP.f HX.out (HL.out.trans HLT.out)
            have zp : (pb == 0) = true := by simp [z1]
            by_cases z2 : parts = 1
            rotate_left
            · have zq : (parts == 1) = false := by simp [z2]
              have HX := Lib.hid (HPN.out (fun h => by rcases h.2.2.1 with h | h; exact absurd (h.symm.trans HP0.out) (by simp); exact z2 h.2))
              go_wp2_with fail
              go_ret
              exact TellsP.f HX.out (HL.out.trans HLT.out)
            have zq : (parts == 1) = true := by simp [z2]
            by_cases hlen : en = n
            rotate_left
            · have zl : ((en : Int) == (n : Int)) = false := by simp; omega
              have HX := Lib.hid (HPN.out (fun h => hlen (by have h1 := h.2.2.2.2; have := HEN.out; have := HN.out; simp only at h1; omega)))
              go_wp2_with fail
              go_ret
              exact TellsP.f HX.out (HL.out.trans HLT.out)
            have zl : ((en : Int) == (n : Int)) = true := by simp; omega
            have HX := Lib.hid (HPY.out ⟨.inr HS0.out, ⟨p1, p2⟩, .inr ⟨z1, z2⟩, HALLE.out, by have := HEN.out; have := HN.out; show enc.length = l.length; omega⟩)
            clear hlen
            go_wp2_with fail
            go_ret
            exact TellsP.t HX.out (HL.out.trans HLT.out)
          · have HP0 := Lib.hid (show (findI l pb).isSome = true from HBP.out.trans hbp)
            subst hbp
            by_cases hlen : en = n
            rotate_left
            · have zl : ((en : Int) == (n : Int)) = false := by simp; omega
              have HX := Lib.hid (HPN.out (fun h => hlen (by have h1 := h.2.2.2.2; have := HEN.out; have := HN.out; simp only at h1; omega)))
              go_wp2_with fail
              go_ret
              exact TellsP.f HX.out (HL.out.trans HLT.out)
            have zl : ((en : Int) == (n : Int)) = true := by simp; omega
            have HX := Lib.hid (HPY.out ⟨.inr HS0.out, ⟨p1, p2⟩, .inl HP0.out, HALLE.out, by have := HEN.out; have := HN.out; show enc.length = l.length; omega⟩)
            clear hlen
            go_wp2_with fail
            go_ret
            exact TellsP.t HX.out (HL.out.trans HLT.out)
end Go.Proofs.YtklohbglkbhjhaaDoor
