/- schema: MayName, isType, isEncoding, hasID, May, MayLayout. -/
import Derived.Test.YtklohbglkbhjhaaDoorSchM
import Derived.Test.YtklohbglkbhjhaaDoorSchF
import Derived.Test.YtklohbglkbhjhaaDoorKripke
namespace Go.Proofs.YtklohbglkbhjhaaDoor
open Go.RowKit
set_option linter.unusedVariables false

set_option maxRecDepth 100000 in
set_option maxHeartbeats 1000000 in
theorem mayName_any (s : ByteArray) (w : World) (hl : s.size ≤ 9223372036854775807) :
  Calls Tryd.prog 28 #[.string s] w (TellsP (NameL s) w) := by
 go_enter Tryd.func28, Tryd.ntmps28
 go_wp2_with fail
 go_loopw [6] (fun i wr => ∃ k : Nat, k ≤ s.size ∧ i = .int .i64 k ∧ (∀ j (h : j < s.size), j < k → 33 ≤ s[j].toNat ∧ s[j].toNat ≤ 126) ∧ Later w wr) (fun i _ => s.size - (intOf i).toNat)
 case atStart => exact ⟨0, Nat.zero_le _, rfl, fun j h h2 => absurd h2 (Nat.not_lt_zero _), Later.refl _⟩
 case round =>
  obtain ⟨k, hk, rfl, hall, lat⟩ := hrel
  have HALL := Lib.hid hall
  clear hall
  by_cases hlt : k < s.size
  ·have HY := Lib.hid (fun (h : 33 ≤ s[k].toNat ∧ s[k].toNat ≤ 126) => show ∀ j (h : j < s.size), j < k + 1 → 33 ≤ s[j].toNat ∧ s[j].toNat ≤ 126 from fun j h1 h2 => by
    rcases Nat.lt_or_ge j k with h3 | h3
    ·exact HALL.out j h1 h3
    ·obtain rfl : j = k := by omega
     exact h)
   have HNO := Lib.hid (fun (h : ¬ (33 ≤ s[k].toNat ∧ s[k].toNat ≤ 126)) => show ¬ NameL s from fun hf => h (hf.1 k hlt))
   by_cases h1 : (s[k].toNat : Int) < 33
   ·have HX := Lib.hid (HNO.out (by omega))
    go_wp2_with fail
    go_ret
    exact TellsP.f HX.out lat
   ·by_cases h2 : (126 : Int) < (s[k].toNat : Int)
    ·have HX := Lib.hid (HNO.out (by omega))
     go_wp2_with fail
     go_ret
     exact TellsP.f HX.out lat
    ·have HX := Lib.hid (HY.out (by omega))
     go_wp2_with fail
     go_roundw
     case rel => exact ⟨k + 1, hlt, by go_num, HX.out, lat⟩
     case measure => simp [intOf]; omega
  ·obtain rfl : k = s.size := by omega
   by_cases h1 : 1 ≤ s.size
   ·by_cases h2 : (s.size : Int) ≤ 12
    ·have HX := Lib.hid (show NameL s from ⟨fun i h => HALL.out i h h, h1, by omega⟩)
     go_wp2_with fail
     go_ret
     exact TellsP.t HX.out lat
    ·have HX := Lib.hid (show ¬ NameL s from fun h => h2 (by have := h.2.2; omega))
     go_wp2_with fail
     go_ret
     exact TellsP.f HX.out lat
   ·have HX := Lib.hid (show ¬ NameL s from fun h => h1 h.2.1)
    go_wp2_with fail
    go_ret
    exact TellsP.f HX.out lat
theorem isType_any (t : Int) (w : World) : Calls Tryd.prog 47 #[.int .i64 t] w (TellsP (TypL t) w) := by
 by_cases h1 : 1 ≤ t
 ·by_cases h2 : t ≤ 4
  ·have HX := Lib.hid (show TypL t from ⟨h1, h2⟩)
   go_enter Tryd.func47, Tryd.ntmps47
   go_wp2_with fail
   go_ret
   exact TellsP.t HX.out (Later.refl _)
  ·have HX := Lib.hid (show ¬ TypL t from fun h => h2 h.2)
   go_enter Tryd.func47, Tryd.ntmps47
   go_wp2_with fail
   go_ret
   exact TellsP.f HX.out (Later.refl _)
 ·have HX := Lib.hid (show ¬ TypL t from fun h => h1 h.1)
  go_enter Tryd.func47, Tryd.ntmps47
  go_wp2_with fail
  go_ret
  exact TellsP.f HX.out (Later.refl _)
theorem isEnc_any (t : Int) (w : World) : Calls Tryd.prog 50 #[.int .i64 t] w (TellsP (EncL t) w) := by
 by_cases h1 : 1 ≤ t
 ·by_cases h2 : t ≤ 5
  ·have HX := Lib.hid (show EncL t from ⟨h1, h2⟩)
   go_enter Tryd.func50, Tryd.ntmps50
   go_wp2_with fail
   go_ret
   exact TellsP.t HX.out (Later.refl _)
  ·have HX := Lib.hid (show ¬ EncL t from fun h => h2 h.2)
   go_enter Tryd.func50, Tryd.ntmps50
   go_wp2_with fail
   go_ret
   exact TellsP.f HX.out (Later.refl _)
 ·have HX := Lib.hid (show ¬ EncL t from fun h => h1 h.1)
  go_enter Tryd.func50, Tryd.ntmps50
  go_wp2_with fail
  go_ret
  exact TellsP.f HX.out (Later.refl _)

set_option maxRecDepth 100000 in
theorem hasID_any (A : Option Addr) (n c : Nat) (last : Int) (l : List Col3) (id : Int) (w : World) (hn : n = l.length) (hl : n ≤ 100000) (hr : Has w A (fc l)) :
  Calls Tryd.prog 49 #[.agg #[.slice A n c, .int .i64 last], .int .i64 id] w fun e w' => e = .returned (.bool (findI l id).isSome) ∧ Later w w' := by
 obtain ⟨w1, hw1⟩ : ∃ x : World, w.alloc (.cells #[.slice A n c, .int .i64 last] 24) = x := ⟨_, rfl⟩
 have l1 : Later w w1 := hw1 ▸ Later.new w _
 have b1 : Blk w1 w.heap.size #[.slice A n c, .int .i64 last] 24 := hw1 ▸ Blk.new w _ _ _ rfl
 have e0 := b1.cell 0 _ rfl
 have e1 := b1.cell 1 _ rfl
 have HC := Lib.hid (byID_any A n c last l id w1 hn hl (hr.later l1))
 have HL := Lib.hid l1
 have HW := Lib.hid hw1
 clear l1 b1 hw1 hn hr
 go_enter Tryd.func49, Tryd.ntmps49
 go_wp2_with fail
 rw [HW.out]
 go_wp2_with fail
 refine HC.out.mono ?_
 rintro e w2 ⟨rfl, l2⟩
 have HL2 := Lib.hid (HL.out.trans l2)
 clear l2 HC
 go_wp2_with fail
 go_ret
 exact ⟨rfl, HL2.out⟩

set_option maxRecDepth 100000 in
set_option maxHeartbeats 4000000 in
theorem schMay_any (A : Option Addr) (n c : Nat) (last : Int) (l : List Col3) (w : World) (hn : n = l.length) (hl : n ≤ 100000) (hr : Has w A (fc l)) (hnm : ∀ x ∈ l, x.2.1.size ≤ 9223372036854775807) :
  Calls Tryd.prog 18 #[.agg #[.slice A n c, .int .i64 last]] w (TellsP (MayS l last) w) := by
 obtain ⟨q, hq⟩ : ∃ x, w.heap.size = x := ⟨_, rfl⟩
 obtain ⟨w1, hw1⟩ : ∃ x : World, w.alloc (.cells #[.slice A n c, .int .i64 last] 24) = x := ⟨_, rfl⟩
 have l1 : Later w w1 := hw1 ▸ Later.new w _
 have b1 : Blk w1 q #[.slice A n c, .int .i64 last] 24 := hw1 ▸ Blk.new w _ _ _ hq.symm
 have HB := Lib.hid b1
 have e0 := b1.cell 0 _ rfl
 have e1 := b1.cell 1 _ rfl
 have HL := Lib.hid l1
 have HW := Lib.hid hw1
 have HR := Lib.hid (hr.later l1)
 have HN := Lib.hid hn
 have HNM := Lib.hid hnm
 have HQ := Lib.hid hq
 clear l1 b1 hw1 hn hr hnm hq
 by_cases h1 : (n : Int) < 1
 ·have HX := Lib.hid (show ¬ MayS l last from fun h => by have := h.1; have := HN.out; omega)
  go_enter Tryd.func18, Tryd.ntmps18
  go_wp2_with fail
  rw [HW.out, HQ.out]
  go_wp2_with fail
  go_ret
  exact TellsP.f HX.out HL.out
 by_cases h2 : (6 : Int) < (n : Int)
 ·have HX := Lib.hid (show ¬ MayS l last from fun h => by have := h.1; have := HN.out; omega)
  go_enter Tryd.func18, Tryd.ntmps18
  go_wp2_with fail
  rw [HW.out, HQ.out]
  go_wp2_with fail
  go_ret
  exact TellsP.f HX.out HL.out
 by_cases h3 : (10000 : Int) < last
 ·have HX := Lib.hid (show ¬ MayS l last from fun h => by have := h.2.1; omega)
  go_enter Tryd.func18, Tryd.ntmps18
  go_wp2_with fail
  rw [HW.out, HQ.out]
  go_wp2_with fail
  go_ret
  exact TellsP.f HX.out HL.out
 go_enter Tryd.func18, Tryd.ntmps18
 go_wp2_with fail
 rw [HW.out, HQ.out]
 go_wp2_with fail
 have HI0 := Lib.hid (show ∃ k : Nat, k ≤ n ∧ Value.int .i64 0 = .int .i64 k ∧ (∀ j (h : j < l.length), j < k → ColS l last j l[j]) ∧ Later w1 w1 from ⟨0, Nat.zero_le _, rfl, fun j h h2 => absurd h2 (Nat.not_lt_zero _), Later.refl _⟩)
 clear e0 e1
 go_loopw [27] (fun i wr => ∃ k : Nat, k ≤ n ∧ i = .int .i64 k ∧ (∀ j (h : j < l.length), j < k → ColS l last j l[j]) ∧ Later w1 wr) (fun i _ => n - (intOf i).toNat)
 case atStart => exact HI0.out
 case round =>
  obtain ⟨k, hk, rfl, hall, lat⟩ := hrel
  have HALL := Lib.hid hall
  clear hall HI0
  by_cases hlt : k < n
  ·have hkl : k < l.length := by have := HN.out; omega
   obtain ⟨b, off, rfl, c0, c1, c2⟩ := (HR.out.later lat).col3 k hkl
   have HY := Lib.hid (fun (h : ColS l last k l[k]) => show ∀ j (h : j < l.length), j < k + 1 → ColS l last j l[j] from fun j h1 h2 => by
    rcases Nat.lt_or_ge j k with h3 | h3
    ·exact HALL.out j h1 h3
    ·obtain rfl : j = k := by omega
     exact h)
   have HNO := Lib.hid (fun (h : ¬ ColS l last k l[k]) => show ¬ MayS l last from fun hf => h (hf.2.2 k hkl))
   obtain ⟨fi, hfi⟩ := findI_self hkl
   obtain ⟨fn, hfn⟩ := findC_self hkl
   have hnl := HNM.out _ (List.getElem_mem hkl)
   obtain ⟨lx, hlx⟩ : ∃ x, l[k] = x := ⟨_, rfl⟩
   rw [hlx] at c0 c1 c2 HY HNO hfi hfn hnl
   clear hlx
   obtain ⟨x, s, t⟩ := lx
   dsimp only at c0 c1 c2 hfi hfn hnl
   obtain ⟨g, hg⟩ : ∃ x, wr.heap.size = x := ⟨_, rfl⟩
   obtain ⟨wa, hwa⟩ : ∃ y, wr.alloc (.cells #[.int .i64 x, .string s, .int .i64 t] 59) = y := ⟨_, rfl⟩
   have la : Later wr wa := hwa ▸ Later.new _ _
   have hba : Blk wa g #[.int .i64 x, .string s, .int .i64 t] 59 := hwa ▸ Blk.new wr _ _ _ hg.symm
   have HLA := Lib.hid (lat.trans la)
   have v0 := hba.cell 0 _ rfl
   have v1 := hba.cell 1 _ rfl
   have v2 := hba.cell 2 _ rfl
   have hb1 := HB.out.later HLA.out
   have e0 := hb1.cell 0 _ rfl
   have e1 := hb1.cell 1 _ rfl
   have HG := Lib.hid hg
   have HRA := Lib.hid (HR.out.later HLA.out)
   have HBA := Lib.hid hba
   have hkn : (k : Int) < (n : Int) := by omega
   clear la hba lat hb1
   by_cases k1 : x < 1
   ·have HX := Lib.hid (HNO.out fun h => by have := h.1.1.1; exact absurd this (by show ¬ 1 ≤ x; omega))
    go_wp2_with fail
    go_ret
    exact TellsP.f HX.out (HL.out.trans HLA.out)
   by_cases k2 : last < x
   ·have HX := Lib.hid (HNO.out fun h => by have := h.1.1.2; exact absurd this (by show ¬ x ≤ last; omega))
    go_wp2_with fail
    go_ret
    exact TellsP.f HX.out (HL.out.trans HLA.out)
   have HNC := Lib.hid (mayName_any s wa hnl)
   by_cases k3 : NameL s
   rotate_left
   ·have HX := Lib.hid (HNO.out fun h => k3 h.1.2.1)
    have HK3 := Lib.hid k3
    clear k3
    go_wp2_with fail
    refine HNC.out.mono ?_
    rintro e w2 ht
    obtain ⟨rfl, l2⟩ := ht.no HK3.out
    have HL2 := Lib.hid (HLA.out.trans l2)
    clear ht l2 HNC
    go_wp2_with fail
    go_ret
    exact TellsP.f HX.out (HL.out.trans HL2.out)
   have HK3 := Lib.hid k3
   clear k3
   go_wp2_with fail
   refine HNC.out.mono ?_
   rintro e w2 ht
   obtain ⟨rfl, l2⟩ := ht.yes HK3.out
   have HL2 := Lib.hid (HLA.out.trans l2)
   have v0 := (HBA.out.later l2).cell 0 _ rfl
   have v1 := (HBA.out.later l2).cell 1 _ rfl
   have v2 := (HBA.out.later l2).cell 2 _ rfl
   have e0 := (HB.out.later HL2.out).cell 0 _ rfl
   have e1 := (HB.out.later HL2.out).cell 1 _ rfl
   have HTC := Lib.hid (isType_any t w2)
   have HB2 := Lib.hid (HBA.out.later l2)
   clear ht l2 HNC HBA hwa
   by_cases k4 : TypL t
   rotate_left
   ·have HX := Lib.hid (HNO.out fun h => k4 h.1.2.2)
    have HK4 := Lib.hid k4
    clear k4
    go_wp2_with fail
    refine HTC.out.mono ?_
    rintro e w3 ht
    obtain ⟨rfl, l3⟩ := ht.no HK4.out
    have HL3 := Lib.hid (HL2.out.trans l3)
    clear ht l3 HTC
    go_wp2_with fail
    go_ret
    exact TellsP.f HX.out (HL.out.trans HL3.out)
   have HK4 := Lib.hid k4
   clear k4
   go_wp2_with fail
   refine HTC.out.mono ?_
   rintro e w3 ht
   obtain ⟨rfl, l3⟩ := ht.yes HK4.out
   have HL3 := Lib.hid (HL2.out.trans l3)
   have v0 := (HB2.out.later l3).cell 0 _ rfl
   have v1 := (HB2.out.later l3).cell 1 _ rfl
   have v2 := (HB2.out.later l3).cell 2 _ rfl
   have e0 := (HB.out.later HL3.out).cell 0 _ rfl
   have e1 := (HB.out.later HL3.out).cell 1 _ rfl
   have HB3 := Lib.hid (HB2.out.later l3)
   have HIC := Lib.hid (byID_any (some ⟨b, off, none⟩) n c last l x w3 HN.out hl (HR.out.later HL3.out))
   have HFI := Lib.hid hfi
   have HFN := Lib.hid hfn
   clear ht l3 HTC HB2 hfi hfn
   go_wp2_with fail
   refine HIC.out.mono ?_
   rintro e w4 ⟨rfl, l4⟩
   rw [HFI.out]
   simp only [Option.getD_some, Option.isSome_some]
   have HL4 := Lib.hid (HL3.out.trans l4)
   have v1 := (HB3.out.later l4).cell 1 _ rfl
   have e0 := (HB.out.later HL4.out).cell 0 _ rfl
   have e1 := (HB.out.later HL4.out).cell 1 _ rfl
   have HNC := Lib.hid (find_any (some ⟨b, off, none⟩) n c last l s w4 HN.out hl (HR.out.later HL4.out))
   clear l4 HIC HB3
   by_cases k5 : fi = k
   rotate_left
   ·have HX := Lib.hid (HNO.out fun h => by have h1 := h.2.1; rw [HFI.out] at h1; injection h1 with h1; exact k5 h1)
    have hne : ((fi : Int) == (k : Int)) = false := by simp; omega
    clear k5
    go_wp2_with fail
    go_ret
    exact TellsP.f HX.out (HL.out.trans HL4.out)
   subst k5
   go_wp2_with fail
   refine HNC.out.mono ?_
   rintro e w5 ⟨rfl, l5⟩
   rw [HFN.out]
   simp only [Option.getD_some, Option.isSome_some]
   have HL5 := Lib.hid (HL4.out.trans l5)
   clear l5 HNC
   by_cases k6 : fn = fi
   rotate_left
   ·have HX := Lib.hid (HNO.out fun h => by have h1 := h.2.2; rw [HFN.out] at h1; injection h1 with h1; exact k6 h1)
    have hne : ((fn : Int) == (fi : Int)) = false := by simp; omega
    clear k6
    go_wp2_with fail
    go_ret
    exact TellsP.f HX.out (HL.out.trans HL5.out)
   subst k6
   have HX := Lib.hid (HY.out ⟨⟨⟨by show 1 ≤ x; omega, by show x ≤ last; omega⟩, HK3.out, HK4.out⟩, HFI.out, HFN.out⟩)
   go_wp2_with fail
   go_roundw
   case rel => exact ⟨fn + 1, hlt, by go_num, HX.out, HL5.out⟩
   case measure => simp [intOf]; omega
  ·have HX := Lib.hid (show MayS l last from ⟨⟨by have := HN.out; omega, by have := HN.out; omega⟩, by omega, fun i h => HALL.out i h (by have := HN.out; omega)⟩)
   go_wp2_with fail
   go_ret
   exact TellsP.t HX.out (HL.out.trans lat)




/-- A layout's cells. -/
def lagg (m : Lay4) (E : Option Addr) (en ec : Nat) : Value := .agg #[.int .i64 m.sb, .int .i64 m.pb, .int .i64 m.parts, .slice E en ec]
def ein (l : List Int) : List Value := l.map (Value.int .i64)
theorem ein_len (l : List Int) : (ein l).length = l.length := by simp [ein]
theorem Has.ein {w : World} {A : Option Addr} {l : List Int} (h : Has w A (ein l)) (k : Nat) (hk : k < l.length) : ∃ b off, A = some ⟨b, off, none⟩ ∧ w.cell? ⟨b, off + k, none⟩ = some (.int .i64 l[k]) := by
 obtain ⟨b, off, hA, _, hc⟩ := h.at_ (k := k) (by rw [ein_len]; exact hk)
 refine ⟨b, off, hA, ?_⟩
 rw [hc]; simp [Go.Proofs.YtklohbglkbhjhaaDoor.ein]
set_option maxRecDepth 100000 in
set_option maxHeartbeats 8000000 in
theorem mayLayout_any (A E : Option Addr) (n c en ec : Nat) (last : Int) (l : List Col3) (m : Lay4) (w : World) (hn : n = l.length) (hen : en = m.enc.length) (hl : n ≤ 100000) (hel : en ≤ 100000) (hr : Has w A (fc l)) (hE : Has w E (ein m.enc)) :
  Calls Tryd.prog 20 #[.agg #[.slice A n c, .int .i64 last], lagg m E en ec] w (TellsP (MayLy l m) w) := by
 obtain ⟨sb, pb, parts, enc⟩ := m
 dsimp only at hen hE
 unfold lagg
 dsimp only
 obtain ⟨q, hq⟩ : ∃ x, w.heap.size = x := ⟨_, rfl⟩
 obtain ⟨w1, hw1⟩ : ∃ x : World, (w.alloc (.cells #[.slice A n c, .int .i64 last] 24)).alloc (.cells #[.int .i64 sb, .int .i64 pb, .int .i64 parts, .slice E en ec] 27) = x := ⟨_, rfl⟩
 have l1 : Later w w1 := hw1 ▸ (Later.new w _).alloc _
 have b1 : Blk w1 q #[.slice A n c, .int .i64 last] 24 := hw1 ▸ (Blk.new w _ _ _ hq.symm).later (Later.new _ _)
 have b2 : Blk w1 (q + 1) #[.int .i64 sb, .int .i64 pb, .int .i64 parts, .slice E en ec] 27 := hw1 ▸ Blk.new _ _ _ _ (by simp; omega)
 have HB := Lib.hid b1
 have HB2 := Lib.hid b2
 have HL := Lib.hid l1
 have HR := Lib.hid (hr.later l1)
 have HE := Lib.hid (hE.later l1)
 have HN := Lib.hid hn
 have HEN := Lib.hid hen
 clear l1 hr hE hn hen b1 b2
 have e0 := (HB.out.later (Later.refl _)).cell 0 _ rfl
 have e1 := (HB.out.later (Later.refl _)).cell 1 _ rfl
 have d0 := (HB2.out.later (Later.refl _)).cell 0 _ rfl
 have d1 := (HB2.out.later (Later.refl _)).cell 1 _ rfl
 have d2 := (HB2.out.later (Later.refl _)).cell 2 _ rfl
 have d3 := (HB2.out.later (Later.refl _)).cell 3 _ rfl
 by_cases s0 : sb = 0
 ·subst s0
  have HSB := Lib.hid (show (0 : Int) = 0 from rfl)
  obtain ⟨wz, hwz⟩ : ∃ x, x = w1 := ⟨_, rfl⟩
  have HZ := Lib.hid (show Later w1 wz from hwz ▸ Later.refl _)
  rw [← hwz] at hw1 e0 e1 d0 d1 d2 d3
  clear hwz
  go_enter Tryd.func20, Tryd.ntmps20
  by_cases p1 : parts < 1
  ·have HX := Lib.hid (show ¬ MayLy l ⟨0, pb, parts, enc⟩ from fun h => by have h1 : 1 ≤ parts := h.2.1.1; omega)
   go_wp2_with fail
   go_ret
   exact TellsP.f HX.out (HL.out.trans HZ.out)
  by_cases p2 : 4 < parts
  ·have HX := Lib.hid (show ¬ MayLy l ⟨0, pb, parts, enc⟩ from fun h => by have h1 : parts ≤ 4 := h.2.1.2; omega)
   go_wp2_with fail
   go_ret
   exact TellsP.f HX.out (HL.out.trans HZ.out)
  have HI2 := Lib.hid (hasID_any A n c last l pb wz HN.out hl (HR.out.later HZ.out))
  go_wp2_with fail
  refine HI2.out.mono ?_
  rintro e wy ⟨rfl, ly⟩
  have HY := Lib.hid (HZ.out.trans ly)
  clear HI2 ly e0 e1 d0 d1 d2 d3
  have e0 := (HB.out.later HY.out).cell 0 _ rfl
  have e1 := (HB.out.later HY.out).cell 1 _ rfl
  have d0 := (HB2.out.later HY.out).cell 0 _ rfl
  have d1 := (HB2.out.later HY.out).cell 1 _ rfl
  have d2 := (HB2.out.later HY.out).cell 2 _ rfl
  have d3 := (HB2.out.later HY.out).cell 3 _ rfl
  have hpt : (findI l pb).isSome = true ∨ (findI l pb).isSome = false := by cases (findI l pb).isSome <;> simp
  by_cases hpb : (findI l pb).isSome = true ∨ pb = 0 ∧ parts = 1
  rotate_left
  ·have HX := Lib.hid (show ¬ MayLy l ⟨0, pb, parts, enc⟩ from fun h => hpb h.2.2.1)
   have hf : (findI l pb).isSome = false := by rcases hpt with h | h; exact absurd (.inl h) hpb; exact h
   have hno : ¬ (pb = 0 ∧ parts = 1) := fun h => hpb (.inr h)
   rw [hf]
   clear hpb hpt hf
   by_cases hp0 : pb = 0
   ·have hp1 : ¬ parts = 1 := fun h => hno ⟨hp0, h⟩
    clear hno
    go_wp2_with fail
    go_ret
    exact TellsP.f HX.out (HL.out.trans HY.out)
   ·clear hno
    go_wp2_with fail
    go_ret
    exact TellsP.f HX.out (HL.out.trans HY.out)
  have HPB := Lib.hid hpb
  have HI0 := Lib.hid (show ∃ k : Nat, k ≤ en ∧ Value.int .i64 0 = .int .i64 k ∧ (∀ j (h : j < enc.length), j < k → EncL enc[j]) ∧ Later w1 wy from ⟨0, Nat.zero_le _, rfl, fun j h h2 => absurd h2 (Nat.not_lt_zero _), HY.out⟩)
  rcases hpt with ht | hf
  ·rw [ht]
   clear hpb ht
   go_wp2_with fail
   clear e0 e1 d0 d1 d2 d3
   go_loopw [45] (fun i wr => ∃ k : Nat, k ≤ en ∧ i = .int .i64 k ∧ (∀ j (h : j < enc.length), j < k → EncL enc[j]) ∧ Later w1 wr) (fun i _ => en - (intOf i).toNat)
   case atStart => exact HI0.out
   case round =>
    obtain ⟨k, hk, rfl, hall, lat⟩ := hrel
    have HALL := Lib.hid hall
    clear hall HI0
    by_cases hlt : k < en
    ·have hkl : k < enc.length := by have := HEN.out; omega
     obtain ⟨b, off, rfl, c0⟩ := (HE.out.later lat).ein k hkl
     have HYY := Lib.hid (fun (h : EncL enc[k]) => show ∀ j (h : j < enc.length), j < k + 1 → EncL enc[j] from fun j h1 h2 => by
      rcases Nat.lt_or_ge j k with h3 | h3
      ·exact HALL.out j h1 h3
      ·obtain rfl : j = k := by omega
       exact h)
     have HNO := Lib.hid (fun (h : ¬ EncL enc[k]) => show ¬ MayLy l ⟨0, pb, parts, enc⟩ from fun hf => h (hf.2.2.2.1 _ (List.getElem_mem hkl)))
     generalize enc[k] = x at c0 HYY HNO
     have HIC := Lib.hid (isEnc_any x wr)
     have hkn : (k : Int) < (en : Int) := by omega
     have HLT := Lib.hid lat
     clear lat
     go_wp2_with fail
     refine HIC.out.mono ?_
     clear HIC
     by_cases hx : EncL x
     ·rintro e w3 ht
      obtain ⟨rfl, l3⟩ := ht.yes hx
      have HX := Lib.hid (HYY.out hx)
      have HL3 := Lib.hid (HLT.out.trans l3)
      clear ht l3 hx
      go_wp2_with fail
      go_roundw
      case rel => exact ⟨k + 1, hlt, by go_num, HX.out, HL3.out⟩
      case measure => simp [intOf]; omega
     ·rintro e w3 ht
      obtain ⟨rfl, l3⟩ := ht.no hx
      have HX := Lib.hid (HNO.out hx)
      have HL3 := Lib.hid (HLT.out.trans l3)
      clear ht l3 hx
      go_wp2_with fail
      go_ret
      exact TellsP.f HX.out (HL.out.trans HL3.out)
    ·have HLT := Lib.hid lat
     have e0 := (HB.out.later lat).cell 0 _ rfl
     have e1 := (HB.out.later lat).cell 1 _ rfl
     have d0 := (HB2.out.later lat).cell 0 _ rfl
     have d1 := (HB2.out.later lat).cell 1 _ rfl
     have d2 := (HB2.out.later lat).cell 2 _ rfl
     have d3 := (HB2.out.later lat).cell 3 _ rfl
     clear lat
     by_cases hln : en = n
     ·have HX := Lib.hid (show MayLy l ⟨0, pb, parts, enc⟩ from ⟨.inl rfl, ⟨by show 1 ≤ parts; omega, by show parts ≤ 4; omega⟩, HPB.out, show ∀ e ∈ enc, EncL e from fun e he => by obtain ⟨j, hj, rfl⟩ := List.getElem_of_mem he; exact HALL.out j hj (by have := HEN.out; omega), by have := HEN.out; have := HN.out; show enc.length = l.length; omega⟩)
      have hq1 : ((en : Int) == (n : Int)) = true := by simp; omega
      go_wp2_with fail
      go_ret
      exact TellsP.t HX.out (HL.out.trans HLT.out)
     ·have HX := Lib.hid (show ¬ MayLy l ⟨0, pb, parts, enc⟩ from fun h => by have h1 : enc.length = l.length := h.2.2.2.2; have := HEN.out; have := HN.out; omega)
      have hq1 : ((en : Int) == (n : Int)) = false := by simp; omega
      go_wp2_with fail
      go_ret
      exact TellsP.f HX.out (HL.out.trans HLT.out)
  ·have hp01 : pb = 0 ∧ parts = 1 := by rcases hpb with h | h; rw [hf] at h; cases h; exact h
   obtain ⟨hp0, hp1⟩ := hp01
   rw [hf]
   clear hpb hf
   go_wp2_with fail
   clear e0 e1 d0 d1 d2 d3
   go_loopw [45] (fun i wr => ∃ k : Nat, k ≤ en ∧ i = .int .i64 k ∧ (∀ j (h : j < enc.length), j < k → EncL enc[j]) ∧ Later w1 wr) (fun i _ => en - (intOf i).toNat)
   case atStart => exact HI0.out
   case round =>
    obtain ⟨k, hk, rfl, hall, lat⟩ := hrel
    have HALL := Lib.hid hall
    clear hall HI0
    by_cases hlt : k < en
    ·have hkl : k < enc.length := by have := HEN.out; omega
     obtain ⟨b, off, rfl, c0⟩ := (HE.out.later lat).ein k hkl
     have HYY := Lib.hid (fun (h : EncL enc[k]) => show ∀ j (h : j < enc.length), j < k + 1 → EncL enc[j] from fun j h1 h2 => by
      rcases Nat.lt_or_ge j k with h3 | h3
      ·exact HALL.out j h1 h3
      ·obtain rfl : j = k := by omega
       exact h)
     have HNO := Lib.hid (fun (h : ¬ EncL enc[k]) => show ¬ MayLy l ⟨0, pb, parts, enc⟩ from fun hf => h (hf.2.2.2.1 _ (List.getElem_mem hkl)))
     generalize enc[k] = x at c0 HYY HNO
     have HIC := Lib.hid (isEnc_any x wr)
     have hkn : (k : Int) < (en : Int) := by omega
     have HLT := Lib.hid lat
     clear lat
     go_wp2_with fail
     refine HIC.out.mono ?_
     clear HIC
     by_cases hx : EncL x
     ·rintro e w3 ht
      obtain ⟨rfl, l3⟩ := ht.yes hx
      have HX := Lib.hid (HYY.out hx)
      have HL3 := Lib.hid (HLT.out.trans l3)
      clear ht l3 hx
      go_wp2_with fail
      go_roundw
      case rel => exact ⟨k + 1, hlt, by go_num, HX.out, HL3.out⟩
      case measure => simp [intOf]; omega
     ·rintro e w3 ht
      obtain ⟨rfl, l3⟩ := ht.no hx
      have HX := Lib.hid (HNO.out hx)
      have HL3 := Lib.hid (HLT.out.trans l3)
      clear ht l3 hx
      go_wp2_with fail
      go_ret
      exact TellsP.f HX.out (HL.out.trans HL3.out)
    ·have HLT := Lib.hid lat
     have e0 := (HB.out.later lat).cell 0 _ rfl
     have e1 := (HB.out.later lat).cell 1 _ rfl
     have d0 := (HB2.out.later lat).cell 0 _ rfl
     have d1 := (HB2.out.later lat).cell 1 _ rfl
     have d2 := (HB2.out.later lat).cell 2 _ rfl
     have d3 := (HB2.out.later lat).cell 3 _ rfl
     clear lat
     by_cases hln : en = n
     ·have HX := Lib.hid (show MayLy l ⟨0, pb, parts, enc⟩ from ⟨.inl rfl, ⟨by show 1 ≤ parts; omega, by show parts ≤ 4; omega⟩, HPB.out, show ∀ e ∈ enc, EncL e from fun e he => by obtain ⟨j, hj, rfl⟩ := List.getElem_of_mem he; exact HALL.out j hj (by have := HEN.out; omega), by have := HEN.out; have := HN.out; show enc.length = l.length; omega⟩)
      have hq1 : ((en : Int) == (n : Int)) = true := by simp; omega
      go_wp2_with fail
      go_ret
      exact TellsP.t HX.out (HL.out.trans HLT.out)
     ·have HX := Lib.hid (show ¬ MayLy l ⟨0, pb, parts, enc⟩ from fun h => by have h1 : enc.length = l.length := h.2.2.2.2; have := HEN.out; have := HN.out; omega)
      have hq1 : ((en : Int) == (n : Int)) = false := by simp; omega
      go_wp2_with fail
      go_ret
      exact TellsP.f HX.out (HL.out.trans HLT.out)
 have HI1 := Lib.hid (hasID_any A n c last l sb w1 HN.out hl HR.out)
 go_enter Tryd.func20, Tryd.ntmps20
 go_wp2_with fail
 refine HI1.out.mono ?_
 rintro e wz ⟨rfl, lz⟩
 have HZ := Lib.hid lz
 clear HI1 lz e0 e1 d0 d1 d2 d3
 have e0 := (HB.out.later HZ.out).cell 0 _ rfl
 have e1 := (HB.out.later HZ.out).cell 1 _ rfl
 have d0 := (HB2.out.later HZ.out).cell 0 _ rfl
 have d1 := (HB2.out.later HZ.out).cell 1 _ rfl
 have d2 := (HB2.out.later HZ.out).cell 2 _ rfl
 have d3 := (HB2.out.later HZ.out).cell 3 _ rfl
 rcases hss : (findI l sb).isSome with _ | _
 ·have HX := Lib.hid (show ¬ MayLy l ⟨sb, pb, parts, enc⟩ from fun h => by
   rcases h.1 with h1 | h1
   ·have h2 : sb = 0 := h1
    exact s0 h2
   ·rw [show (findI l (Lay4.mk sb pb parts enc).sb).isSome = false from hss] at h1; cases h1)
  clear hss
  go_wp2_with fail
  go_ret
  exact TellsP.f HX.out (HL.out.trans HZ.out)
 ·have HSB := Lib.hid hss
  clear hss
  by_cases p1 : parts < 1
  ·have HX := Lib.hid (show ¬ MayLy l ⟨sb, pb, parts, enc⟩ from fun h => by have h1 : 1 ≤ parts := h.2.1.1; omega)
   go_wp2_with fail
   go_ret
   exact TellsP.f HX.out (HL.out.trans HZ.out)
  by_cases p2 : 4 < parts
  ·have HX := Lib.hid (show ¬ MayLy l ⟨sb, pb, parts, enc⟩ from fun h => by have h1 : parts ≤ 4 := h.2.1.2; omega)
   go_wp2_with fail
   go_ret
   exact TellsP.f HX.out (HL.out.trans HZ.out)
  have HI2 := Lib.hid (hasID_any A n c last l pb wz HN.out hl (HR.out.later HZ.out))
  go_wp2_with fail
  refine HI2.out.mono ?_
  rintro e wy ⟨rfl, ly⟩
  have HY := Lib.hid (HZ.out.trans ly)
  clear HI2 ly e0 e1 d0 d1 d2 d3
  have e0 := (HB.out.later HY.out).cell 0 _ rfl
  have e1 := (HB.out.later HY.out).cell 1 _ rfl
  have d0 := (HB2.out.later HY.out).cell 0 _ rfl
  have d1 := (HB2.out.later HY.out).cell 1 _ rfl
  have d2 := (HB2.out.later HY.out).cell 2 _ rfl
  have d3 := (HB2.out.later HY.out).cell 3 _ rfl
  have hpt : (findI l pb).isSome = true ∨ (findI l pb).isSome = false := by cases (findI l pb).isSome <;> simp
  by_cases hpb : (findI l pb).isSome = true ∨ pb = 0 ∧ parts = 1
  rotate_left
  ·have HX := Lib.hid (show ¬ MayLy l ⟨sb, pb, parts, enc⟩ from fun h => hpb h.2.2.1)
   have hf : (findI l pb).isSome = false := by rcases hpt with h | h; exact absurd (.inl h) hpb; exact h
   have hno : ¬ (pb = 0 ∧ parts = 1) := fun h => hpb (.inr h)
   rw [hf]
   clear hpb hpt hf
   by_cases hp0 : pb = 0
   ·have hp1 : ¬ parts = 1 := fun h => hno ⟨hp0, h⟩
    clear hno
    go_wp2_with fail
    go_ret
    exact TellsP.f HX.out (HL.out.trans HY.out)
   ·clear hno
    go_wp2_with fail
    go_ret
    exact TellsP.f HX.out (HL.out.trans HY.out)
  have HPB := Lib.hid hpb
  have HI0 := Lib.hid (show ∃ k : Nat, k ≤ en ∧ Value.int .i64 0 = .int .i64 k ∧ (∀ j (h : j < enc.length), j < k → EncL enc[j]) ∧ Later w1 wy from ⟨0, Nat.zero_le _, rfl, fun j h h2 => absurd h2 (Nat.not_lt_zero _), HY.out⟩)
  rcases hpt with ht | hf
  ·rw [ht]
   clear hpb ht
   go_wp2_with fail
   clear e0 e1 d0 d1 d2 d3
   go_loopw [45] (fun i wr => ∃ k : Nat, k ≤ en ∧ i = .int .i64 k ∧ (∀ j (h : j < enc.length), j < k → EncL enc[j]) ∧ Later w1 wr) (fun i _ => en - (intOf i).toNat)
   case atStart => exact HI0.out
   case round =>
    obtain ⟨k, hk, rfl, hall, lat⟩ := hrel
    have HALL := Lib.hid hall
    clear hall HI0
    by_cases hlt : k < en
    ·have hkl : k < enc.length := by have := HEN.out; omega
     obtain ⟨b, off, rfl, c0⟩ := (HE.out.later lat).ein k hkl
     have HYY := Lib.hid (fun (h : EncL enc[k]) => show ∀ j (h : j < enc.length), j < k + 1 → EncL enc[j] from fun j h1 h2 => by
      rcases Nat.lt_or_ge j k with h3 | h3
      ·exact HALL.out j h1 h3
      ·obtain rfl : j = k := by omega
       exact h)
     have HNO := Lib.hid (fun (h : ¬ EncL enc[k]) => show ¬ MayLy l ⟨sb, pb, parts, enc⟩ from fun hf => h (hf.2.2.2.1 _ (List.getElem_mem hkl)))
     generalize enc[k] = x at c0 HYY HNO
     have HIC := Lib.hid (isEnc_any x wr)
     have hkn : (k : Int) < (en : Int) := by omega
     have HLT := Lib.hid lat
     clear lat
     go_wp2_with fail
     refine HIC.out.mono ?_
     clear HIC
     by_cases hx : EncL x
     ·rintro e w3 ht
      obtain ⟨rfl, l3⟩ := ht.yes hx
      have HX := Lib.hid (HYY.out hx)
      have HL3 := Lib.hid (HLT.out.trans l3)
      clear ht l3 hx
      go_wp2_with fail
      go_roundw
      case rel => exact ⟨k + 1, hlt, by go_num, HX.out, HL3.out⟩
      case measure => simp [intOf]; omega
     ·rintro e w3 ht
      obtain ⟨rfl, l3⟩ := ht.no hx
      have HX := Lib.hid (HNO.out hx)
      have HL3 := Lib.hid (HLT.out.trans l3)
      clear ht l3 hx
      go_wp2_with fail
      go_ret
      exact TellsP.f HX.out (HL.out.trans HL3.out)
    ·have HLT := Lib.hid lat
     have e0 := (HB.out.later lat).cell 0 _ rfl
     have e1 := (HB.out.later lat).cell 1 _ rfl
     have d0 := (HB2.out.later lat).cell 0 _ rfl
     have d1 := (HB2.out.later lat).cell 1 _ rfl
     have d2 := (HB2.out.later lat).cell 2 _ rfl
     have d3 := (HB2.out.later lat).cell 3 _ rfl
     clear lat
     by_cases hln : en = n
     ·have HX := Lib.hid (show MayLy l ⟨sb, pb, parts, enc⟩ from ⟨.inr HSB.out, ⟨by show 1 ≤ parts; omega, by show parts ≤ 4; omega⟩, HPB.out, show ∀ e ∈ enc, EncL e from fun e he => by obtain ⟨j, hj, rfl⟩ := List.getElem_of_mem he; exact HALL.out j hj (by have := HEN.out; omega), by have := HEN.out; have := HN.out; show enc.length = l.length; omega⟩)
      have hq1 : ((en : Int) == (n : Int)) = true := by simp; omega
      go_wp2_with fail
      go_ret
      exact TellsP.t HX.out (HL.out.trans HLT.out)
     ·have HX := Lib.hid (show ¬ MayLy l ⟨sb, pb, parts, enc⟩ from fun h => by have h1 : enc.length = l.length := h.2.2.2.2; have := HEN.out; have := HN.out; omega)
      have hq1 : ((en : Int) == (n : Int)) = false := by simp; omega
      go_wp2_with fail
      go_ret
      exact TellsP.f HX.out (HL.out.trans HLT.out)
  ·have hp01 : pb = 0 ∧ parts = 1 := by rcases hpb with h | h; rw [hf] at h; cases h; exact h
   obtain ⟨hp0, hp1⟩ := hp01
   rw [hf]
   clear hpb hf
   go_wp2_with fail
   clear e0 e1 d0 d1 d2 d3
   go_loopw [45] (fun i wr => ∃ k : Nat, k ≤ en ∧ i = .int .i64 k ∧ (∀ j (h : j < enc.length), j < k → EncL enc[j]) ∧ Later w1 wr) (fun i _ => en - (intOf i).toNat)
   case atStart => exact HI0.out
   case round =>
    obtain ⟨k, hk, rfl, hall, lat⟩ := hrel
    have HALL := Lib.hid hall
    clear hall HI0
    by_cases hlt : k < en
    ·have hkl : k < enc.length := by have := HEN.out; omega
     obtain ⟨b, off, rfl, c0⟩ := (HE.out.later lat).ein k hkl
     have HYY := Lib.hid (fun (h : EncL enc[k]) => show ∀ j (h : j < enc.length), j < k + 1 → EncL enc[j] from fun j h1 h2 => by
      rcases Nat.lt_or_ge j k with h3 | h3
      ·exact HALL.out j h1 h3
      ·obtain rfl : j = k := by omega
       exact h)
     have HNO := Lib.hid (fun (h : ¬ EncL enc[k]) => show ¬ MayLy l ⟨sb, pb, parts, enc⟩ from fun hf => h (hf.2.2.2.1 _ (List.getElem_mem hkl)))
     generalize enc[k] = x at c0 HYY HNO
     have HIC := Lib.hid (isEnc_any x wr)
     have hkn : (k : Int) < (en : Int) := by omega
     have HLT := Lib.hid lat
     clear lat
     go_wp2_with fail
     refine HIC.out.mono ?_
     clear HIC
     by_cases hx : EncL x
     ·rintro e w3 ht
      obtain ⟨rfl, l3⟩ := ht.yes hx
      have HX := Lib.hid (HYY.out hx)
      have HL3 := Lib.hid (HLT.out.trans l3)
      clear ht l3 hx
      go_wp2_with fail
      go_roundw
      case rel => exact ⟨k + 1, hlt, by go_num, HX.out, HL3.out⟩
      case measure => simp [intOf]; omega
     ·rintro e w3 ht
      obtain ⟨rfl, l3⟩ := ht.no hx
      have HX := Lib.hid (HNO.out hx)
      have HL3 := Lib.hid (HLT.out.trans l3)
      clear ht l3 hx
      go_wp2_with fail
      go_ret
      exact TellsP.f HX.out (HL.out.trans HL3.out)
    ·have HLT := Lib.hid lat
     have e0 := (HB.out.later lat).cell 0 _ rfl
     have e1 := (HB.out.later lat).cell 1 _ rfl
     have d0 := (HB2.out.later lat).cell 0 _ rfl
     have d1 := (HB2.out.later lat).cell 1 _ rfl
     have d2 := (HB2.out.later lat).cell 2 _ rfl
     have d3 := (HB2.out.later lat).cell 3 _ rfl
     clear lat
     by_cases hln : en = n
     ·have HX := Lib.hid (show MayLy l ⟨sb, pb, parts, enc⟩ from ⟨.inr HSB.out, ⟨by show 1 ≤ parts; omega, by show parts ≤ 4; omega⟩, HPB.out, show ∀ e ∈ enc, EncL e from fun e he => by obtain ⟨j, hj, rfl⟩ := List.getElem_of_mem he; exact HALL.out j hj (by have := HEN.out; omega), by have := HEN.out; have := HN.out; show enc.length = l.length; omega⟩)
      have hq1 : ((en : Int) == (n : Int)) = true := by simp; omega
      go_wp2_with fail
      go_ret
      exact TellsP.t HX.out (HL.out.trans HLT.out)
     ·have HX := Lib.hid (show ¬ MayLy l ⟨sb, pb, parts, enc⟩ from fun h => by have h1 : enc.length = l.length := h.2.2.2.2; have := HEN.out; have := HN.out; omega)
      have hq1 : ((en : Int) == (n : Int)) = false := by simp; omega
      go_wp2_with fail
      go_ret
      exact TellsP.f HX.out (HL.out.trans HLT.out)
end Go.Proofs.YtklohbglkbhjhaaDoor
