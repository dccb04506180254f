/- The walks of package pred: sure, holds, says, begins, one, Row. -/
import Derived.Test.YteiabachilpciaaDoorPredM
import Derived.Test.YteiabachilpciaaDoorSchF
import Derived.Test.YteiabachilpciaaDoorRCmp
import Derived.Test.YteiabachilpciaaDoorZoneA
import Derived.Deep.RegionHeld3
namespace Go.Proofs.YteiabachilpciaaDoor
open Go.RowKit
set_option linter.unusedVariables false

theorem sure_any (b : Bool) (w : World) : Calls Tryd.prog 54 #[.bool b] w fun e w' => e = .returned (.int .i64 (sureN b)) ∧ w = w' := by
  cases b
  all_goals go_enter Tryd.func54, Tryd.ntmps54
  all_goals go_wp2_with fail
  all_goals go_ret
  all_goals exact ⟨rfl, rfl⟩

theorem holds_any (op c : Int) (w : World) (h1 : c = -1 ∨ c = 0 ∨ c = 1) :
    Calls Tryd.prog 55 #[.int .i64 op, .int .i64 c] w fun e w' => e = .returned (.bool (between op c c)) ∧ w = w' := by
  by_cases ho : op = 1 ∨ op = 2 ∨ op = 3 ∨ op = 4 ∨ op = 5 ∨ op = 6
  · rcases ho with rfl | rfl | rfl | rfl | rfl | rfl
    all_goals rcases h1 with rfl | rfl | rfl
    all_goals go_enter Tryd.func55, Tryd.ntmps55
    all_goals go_wp2_with fail
    all_goals go_ret
    all_goals exact ⟨rfl, rfl⟩
  · have e1 : (op == 1) = false := by rw [beq_eq_false_iff_ne]; omega
    have e2 : (op == 2) = false := by rw [beq_eq_false_iff_ne]; omega
    have e3 : (op == 3) = false := by rw [beq_eq_false_iff_ne]; omega
    have e4 : (op == 4) = false := by rw [beq_eq_false_iff_ne]; omega
    have e5 : (op == 5) = false := by rw [beq_eq_false_iff_ne]; omega
    have e6 : (op == 6) = false := by rw [beq_eq_false_iff_ne]; omega
    have hb : between op c c = false := by
      unfold between
      rw [if_neg (by omega), if_neg (by omega), if_neg (by omega), if_neg (by omega), if_neg (by omega), if_neg (by omega)]
    have HB := Lib.hid hb
    clear ho h1 hb
    go_enter Tryd.func55, Tryd.ntmps55
    go_wp2_with fail
    go_ret
    rw [HB.out]
    exact ⟨rfl, rfl⟩

set_option maxRecDepth 100000 in
set_option maxHeartbeats 2000000 in
theorem says_any (nm : ByteArray) (op vt vi : Int) (vs : ByteArray) (o n : Bool) (xt xi : Int) (xs : ByteArray) (w : World) :
    Calls Tryd.prog 45 #[tagg nm op vt vi vs o n, vagg xt xi xs] w fun e w' => e = .returned (.int .i64 (saysT op (vt, vi, vs) (xt, xi, xs))) ∧ Later w w' := by
  obtain ⟨gz, hgz⟩ : ∃ g, w.heap.size = g := ⟨_, rfl⟩
  obtain ⟨w1, hw1⟩ : ∃ x : World, (w.alloc (.cells (tcs nm op vt vi vs o n) 28)).alloc (.cells #[.int .i64 xt, .int .i64 xi, .string xs] 26) = x := ⟨_, rfl⟩
  have BZ := (Blk.new w (tcs nm op vt vi vs o n) 28 gz hgz.symm).later (Later.new _ (.cells #[.int .i64 xt, .int .i64 xi, .string xs] 26))
  have BV := Blk.new (w.alloc (.cells (tcs nm op vt vi vs o n) 28)) #[.int .i64 xt, .int .i64 xi, .string xs] 26 (gz + 1) (by simp [hgz])
  have L1 := (Later.new w (.cells (tcs nm op vt vi vs o n) 28)).alloc (.cells #[.int .i64 xt, .int .i64 xi, .string xs] 26)
  rw [hw1] at BZ BV L1
  have HL1 := Lib.hid L1
  have HBZ := Lib.hid BZ
  have HBV := Lib.hid BV
  have z1 := BZ.cell 1 _ rfl
  have z2 := BZ.cell 2 _ rfl
  have x0 := BV.cell 0 _ rfl
  clear L1 BZ BV
  by_cases h7 : op = 7
  · subst h7
    have HC := Lib.hid (show saysT 7 (vt, vi, vs) (xt, xi, xs) = sureN (xt == 0) from by unfold saysT; rw [if_pos rfl]; congr 1)
    go_enter Tryd.func45, Tryd.ntmps45
    go_wp2_with (go_at_call 54; refine (sure_any _ _).mono ?_; rintro e w' ⟨rfl, rfl⟩)
    all_goals go_ret
    all_goals rw [HC.out]
    all_goals exact ⟨rfl, HL1.out⟩
  · by_cases h8 : op = 8
    · subst h8
      have HC := Lib.hid (show saysT 8 (vt, vi, vs) (xt, xi, xs) = sureN (xt != 0) from by unfold saysT; rw [if_neg (by decide), if_pos rfl]; congr 1)
      clear h7
      go_enter Tryd.func45, Tryd.ntmps45
      go_wp2_with (go_at_call 54; refine (sure_any _ _).mono ?_; rintro e w' ⟨rfl, rfl⟩)
      all_goals go_ret
      all_goals rw [HC.out]
      all_goals exact ⟨rfl, HL1.out⟩
    · have e7 : (op == 7) = false := by simpa using h7
      have e8 : (op == 8) = false := by simpa using h8
      have hc : saysT op (vt, vi, vs) (xt, xi, xs) = if xt = 0 ∨ vt = 0 then 1 else sureN (between op (cmpV xt xi xs vt vi vs) (cmpV xt xi xs vt vi vs)) := by
        unfold saysT; rw [if_neg h7, if_neg h8]; rfl
      clear h7 h8
      by_cases hv : xt = 0
      · rw [if_pos (.inl hv)] at hc
        subst hv
        have HC := Lib.hid hc
        clear hc
        go_enter Tryd.func45, Tryd.ntmps45
        go_wp2_with fail
        go_ret
        rw [HC.out]
        exact ⟨rfl, HL1.out⟩
      · by_cases ha : vt = 0
        · rw [if_pos (.inr ha)] at hc
          subst ha
          have e0 : (xt == 0) = false := by simpa using hv
          have HC := Lib.hid hc
          clear hc hv
          go_enter Tryd.func45, Tryd.ntmps45
          go_wp2_with fail
          go_ret
          rw [HC.out]
          exact ⟨rfl, HL1.out⟩
        · rw [if_neg (by rintro (h | h); exact hv h; exact ha h)] at hc
          have e0 : (xt == 0) = false := by simpa using hv
          have e1 : (vt == 0) = false := by simpa using ha
          have i1 := cmpV_in xt xi xs vt vi vs
          have HBT := Lib.hid (fun w' => holds_any op (cmpV xt xi xs vt vi vs) w' i1)
          have HC := Lib.hid hc
          have d0 := HBZ.out.drew
          have d1 := HBV.out.drew
          have lz := HL1.out.drew
          clear hc hv ha i1
          go_enter Tryd.func45, Tryd.ntmps45
          go_wp2_with fail
          clear z1 z2 x0 hw1
          go_region_held3 (fun w' => w'.cell? ⟨gz, 1, none⟩ = some (.int .i64 op) ∧ w'.cell? ⟨gz, 2, none⟩ = some (.int .i64 vt) ∧ w'.cell? ⟨gz, 3, none⟩ = some (.int .i64 vi) ∧ w'.cell? ⟨gz, 4, none⟩ = some (.string vs) ∧ w'.cell? ⟨gz + 1, 0, none⟩ = some (.int .i64 xt) ∧ w'.cell? ⟨gz + 1, 1, none⟩ = some (.int .i64 xi) ∧ w'.cell? ⟨gz + 1, 2, none⟩ = some (.string xs)) (exact ⟨d0.cell 1 _ rfl, d0.cell 2 _ rfl, d0.cell 3 _ rfl, d0.cell 4 _ rfl, d1.cell 0 _ rfl, d1.cell 1 _ rfl, d1.cell 2 _ rfl⟩) (first
            | (go_at_call 56; refine (valCmp_any _ _ _ _ _ _ _).mono ?_; rintro e wX ⟨rfl, lX⟩; have lz := lz.trans lX; have d0 := d0.later lX; have d1 := d1.later lX; clear lX)
            | (go_at_call 55; refine (HBT.out _).mono ?_; rintro e wX ⟨rfl, rfl⟩)
            | (go_at_call 54; refine (sure_any _ _).mono ?_; rintro e wX ⟨rfl, rfl⟩))
          all_goals go_wp2_with fail
          all_goals go_ret
          all_goals rw [HC.out]
          all_goals exact ⟨rfl, lz⟩

theorem begins_any (T : Option Addr) (n c i : Nat) (l : List Tst) (w : World) (hn : n = l.length) (hl : n ≤ 100000) (hi : i < n) (hr : Has w T (ft l)) :
    Calls Tryd.prog 32 #[.slice T n c, .int .i64 i] w fun e w' => e = .returned (.bool (decide (0 < i) && (l.getD i default).or_)) ∧ w = w' := by
  have hil : i < l.length := by omega
  obtain ⟨b, off, rfl, hT⟩ := hr.tst i hil
  have c5 := hT.2.2.2.2.2.1.out
  have HD := Lib.hid (show l.getD i default = l[i] by rw [List.getD_eq_getElem?_getD, List.getElem?_eq_getElem hil]; rfl)
  have HV := Lib.hid (show ∀ b, l[i].or_ = b → (decide (0 < i) && (l.getD i default).or_) = (decide (0 < i) && b) from fun b h => by rw [HD.out, h])
  obtain ⟨o, ho⟩ : ∃ o, l[i].or_ = o := ⟨_, rfl⟩
  have HO := Lib.hid (HV.out o ho)
  rw [ho] at c5
  rw [HO.out]
  clear HD HV HO ho hT hr
  by_cases h0 : i = 0
  · subst h0
    go_enter Tryd.func32, Tryd.ntmps32
    go_wp2_with fail
    go_ret
    exact ⟨by simp, rfl⟩
  · have hd : (0 : Int) < (i : Int) := by omega
    have hd2 : decide (0 < i) = true := by simp; omega
    rw [hd2]
    clear hd2 h0
    go_enter Tryd.func32, Tryd.ntmps32
    go_wp2_with fail
    all_goals go_ret
    all_goals exact ⟨rfl, rfl⟩

set_option maxRecDepth 100000 in
set_option maxHeartbeats 2000000 in
theorem one_any (A : Option Addr) (n c : Nat) (last : Int) (cols : List Col3) (t : Tst) (R : Option Addr) (rn rc : Nat) (row : List Val3) (w : World) (hn : n = cols.length) (hl : n ≤ 100000) (hr : Has w A (fc cols)) (hrn : rn = row.length) (hrl : rn ≤ 100000) (hrow : Has w R (fl row)) :
    Calls Tryd.prog 33 #[.agg #[.slice A n c, .int .i64 last], tagg t.nm t.op t.v.1 t.v.2.1 t.v.2.2 t.or_ t.not_, .slice R rn rc] w fun e w' => e = .returned (.int .i64 (oneT cols row t)) ∧ Later w w' := by
  obtain ⟨gz, hgz⟩ : ∃ g, w.heap.size = g := ⟨_, rfl⟩
  obtain ⟨nm, op, ⟨vt, vi, vs⟩, o, nt⟩ := t
  obtain ⟨w1, hw1⟩ : ∃ x : World, (w.alloc (.cells #[.slice A n c, .int .i64 last] 33)).alloc (.cells (tcs nm op vt vi vs o nt) 28) = x := ⟨_, rfl⟩
  have BS := (Blk.new w #[.slice A n c, .int .i64 last] 33 gz hgz.symm).later (Later.new _ (.cells (tcs nm op vt vi vs o nt) 28))
  have BT := Blk.new (w.alloc (.cells #[.slice A n c, .int .i64 last] 33)) (tcs nm op vt vi vs o nt) 28 (gz + 1) (by simp [hgz])
  have L1 := (Later.new w (.cells #[.slice A n c, .int .i64 last] 33)).alloc (.cells (tcs nm op vt vi vs o nt) 28)
  rw [hw1] at BS BT L1
  have HF := Lib.hid (find_any A n c last cols nm w1 hn hl (hr.later L1))
  have hone : oneT cols row ⟨nm, op, (vt, vi, vs), o, nt⟩ = (if nt then 2 - (match (findC cols nm).bind (fun k => row[k]?) with | some v => saysT op (vt, vi, vs) v | none => 1) else (match (findC cols nm).bind (fun k => row[k]?) with | some v => saysT op (vt, vi, vs) v | none => 1)) := rfl
  have HRN := Lib.hid hrn
  have HROW := Lib.hid (hrow.later L1)
  have HL1 := Lib.hid L1
  have HBT := Lib.hid BT
  have s0 := BS.cell 0 _ rfl
  have s1 := BS.cell 1 _ rfl
  have t0 := BT.cell 0 _ rfl
  clear L1 BS BT hr hn hrow hrn
  dsimp only
  cases hfc : findC cols nm with
  | none =>
    rw [hfc] at HF hone
    have HO := Lib.hid hone
    have t6 := HBT.out.cell 6 _ rfl
    clear hone hfc
    go_enter Tryd.func33, Tryd.ntmps33
    go_wp2_with fail
    refine HF.out.mono ?_
    rintro e w2 ⟨rfl, l2⟩
    have t6 := (HBT.out.later l2).cell 6 _ rfl
    have HL2 := Lib.hid (HL1.out.trans l2)
    clear l2 s0 s1 t0 hw1 HF
    cases nt with
    | true =>
      go_wp2_with fail
      go_ret
      rw [HO.out]
      exact ⟨rfl, HL2.out⟩
    | false =>
      go_wp2_with fail
      go_ret
      rw [HO.out]
      exact ⟨rfl, HL2.out⟩
  | some k =>
    rw [hfc] at HF hone
    by_cases hk : k < row.length
    · have hrk : row[k]? = some row[k] := List.getElem?_eq_getElem hk
      simp only [Option.bind_some, hrk] at hone
      obtain ⟨b, off, rfl, c0, c1, c2⟩ := HROW.out.val3 k hk
      have hkr : (k : Int) < (rn : Int) := by have := HRN.out; omega
      have hkr2 : k < rn := by have := HRN.out; omega
      obtain ⟨x, hx⟩ : ∃ x, row[k] = x := ⟨_, rfl⟩
      rw [hx] at c0 c1 c2 hone
      obtain ⟨xt, xi, xs⟩ := x
      dsimp only at c0 c1 c2
      have k0 : CellIs w1 ⟨b, off + k * 3, none⟩ (.int .i64 xt) := c0
      have k1 : CellIs w1 ⟨b, off + k * 3 + 1, none⟩ (.int .i64 xi) := c1
      have k2 : CellIs w1 ⟨b, off + k * 3 + 2, none⟩ (.string xs) := c2
      have HO := Lib.hid hone
      clear hone hfc hx hrk hk c0 c1 c2
      go_enter Tryd.func33, Tryd.ntmps33
      go_wp2_with fail
      refine HF.out.mono ?_
      rintro e w2 ⟨rfl, l2⟩
      have k0 := (k0.later l2).drew
      have k1 := (k1.later l2).drew
      have k2 := (k2.later l2).drew
      have bt := (HBT.out.later l2).drew
      have lz := (HL1.out.trans l2).drew
      clear l2 s0 s1 t0 hw1 HF
      simp only [Option.getD_some, Option.isSome_some]
      go_wp2_with fail
      go_region_held3 (fun w' => w'.cell? ⟨gz + 1, 0, none⟩ = some (.string nm) ∧ w'.cell? ⟨gz + 1, 1, none⟩ = some (.int .i64 op) ∧ w'.cell? ⟨gz + 1, 2, none⟩ = some (.int .i64 vt) ∧ w'.cell? ⟨gz + 1, 3, none⟩ = some (.int .i64 vi) ∧ w'.cell? ⟨gz + 1, 4, none⟩ = some (.string vs) ∧ w'.cell? ⟨gz + 1, 5, none⟩ = some (.bool o) ∧ w'.cell? ⟨gz + 1, 6, none⟩ = some (.bool nt) ∧ w'.cell? ⟨b, off + k * 3, none⟩ = some (.int .i64 xt) ∧ w'.cell? ⟨b, off + k * 3 + 1, none⟩ = some (.int .i64 xi) ∧ w'.cell? ⟨b, off + k * 3 + 2, none⟩ = some (.string xs)) (exact ⟨bt.cell 0 _ rfl, bt.cell 1 _ rfl, bt.cell 2 _ rfl, bt.cell 3 _ rfl, bt.cell 4 _ rfl, bt.cell 5 _ rfl, bt.cell 6 _ rfl, k0.out, k1.out, k2.out⟩) (first | (go_at_call 45; refine (says_any _ _ _ _ _ _ _ _ _ _ _).mono ?_; rintro e wX ⟨rfl, lX⟩; have lz := lz.trans lX; have bt := bt.later lX; have k0 := k0.later lX; have k1 := k1.later lX; have k2 := k2.later lX; clear lX))
      have t6 := bt.cell 6 _ rfl
      have hs2 := saysT_in op (vt, vi, vs) (xt, xi, xs)
      clear k0 k1 k2
      cases nt with
      | true =>
        go_wp2_with fail
        go_ret
        rw [HO.out]
        exact ⟨rfl, lz⟩
      | false =>
        go_wp2_with fail
        go_ret
        rw [HO.out]
        exact ⟨rfl, lz⟩
    · have hrk : row[k]? = none := List.getElem?_eq_none (by omega)
      simp only [Option.bind_some, hrk] at hone
      have hkr : ¬ (k : Int) < (rn : Int) := by have := HRN.out; omega
      have hkr2 : ¬ k < rn := by have := HRN.out; omega
      have HO := Lib.hid hone
      clear hone hfc hrk hk
      go_enter Tryd.func33, Tryd.ntmps33
      go_wp2_with fail
      refine HF.out.mono ?_
      rintro e w2 ⟨rfl, l2⟩
      have t6 := (HBT.out.later l2).cell 6 _ rfl
      have HL2 := Lib.hid (HL1.out.trans l2)
      clear l2 s0 s1 t0 hw1 HF
      simp only [Option.getD_some, Option.isSome_some]
      cases nt with
      | true =>
        go_wp2_with fail
        go_ret
        rw [HO.out]
        exact ⟨rfl, HL2.out⟩
      | false =>
        go_wp2_with fail
        go_ret
        rw [HO.out]
        exact ⟨rfl, HL2.out⟩

/-- Where pred.Row's loop stands. -/
def RwI (cols : List Col3) (row : List Val3) (l : List Tst) (w : World) (av gv iv : Value) (wr : World) : Prop :=
  ∃ (k : Nat) (a g : Int), av = .int .i64 a ∧ gv = .int .i64 g ∧ iv = .int .i64 k ∧ k ≤ l.length ∧ rowS cols row (l.take k) = (decide (0 < k), a, g) ∧ Later w wr
theorem RwI.mk {cols : List Col3} {row : List Val3} {l : List Tst} {w wr : World} (i : Int) (k : Nat) (a g : Int) (hi : i = (k : Int)) (hk : k ≤ l.length) (h : rowS cols row (l.take k) = (decide (0 < k), a, g)) (L : Later w wr) : RwI cols row l w (.int .i64 a) (.int .i64 g) (.int .i64 i) wr := by
  subst hi; exact ⟨k, a, g, rfl, rfl, rfl, hk, h, L⟩
theorem rowS_step {cols : List Col3} {row : List Val3} {l : List Tst} {k : Nat} (hk : k < l.length) {a g : Int} (h : rowS cols row (l.take k) = (decide (0 < k), a, g)) :
    rowS cols row (l.take (k + 1)) = if decide (0 < k) && l[k].or_ then (true, max a g, min 2 (oneT cols row l[k])) else (true, a, min g (oneT cols row l[k])) := by
  rw [List.take_succ_eq_append_getElem hk, rowS_snoc, h]; rfl

set_option maxRecDepth 100000 in
set_option maxHeartbeats 2000000 in
theorem predRow_any (A : Option Addr) (n c : Nat) (last : Int) (cols : List Col3) (T : Option Addr) (tn tc : Nat) (l : List Tst) (R : Option Addr) (rn rc : Nat) (row : List Val3) (w : World) (hn : n = cols.length) (hl : n ≤ 100000) (hr : Has w A (fc cols)) (htn : tn = l.length) (htl : tn ≤ 100000) (hT : Has w T (ft l)) (hrn : rn = row.length) (hrl : rn ≤ 100000) (hrow : Has w R (fl row)) :
    Calls Tryd.prog 17 #[.agg #[.slice A n c, .int .i64 last], .slice T tn tc, .slice R rn rc] w fun e w' => e = .returned (.int .i64 (rowT cols l row)) ∧ Later w w' := by
  obtain ⟨gz, hgz⟩ : ∃ g, w.heap.size = g := ⟨_, rfl⟩
  obtain ⟨w1, hw1⟩ : ∃ x : World, w.alloc (.cells #[.slice A n c, .int .i64 last] 33) = x := ⟨_, rfl⟩
  have BS := Blk.new w #[.slice A n c, .int .i64 last] 33 gz hgz.symm
  have L1 := Later.new w (.cells #[.slice A n c, .int .i64 last] 33)
  rw [hw1] at BS L1
  have HI0 := Lib.hid (RwI.mk (cols := cols) (row := row) (l := l) (w := w) 0 0 0 2 rfl (Nat.zero_le _) rfl L1)
  have HTN := Lib.hid htn
  have HRN := Lib.hid hrn
  have HN := Lib.hid hn
  have HBS := Lib.hid BS
  have HL1 := Lib.hid L1
  have HR := Lib.hid hr
  have HT := Lib.hid hT
  have HROW := Lib.hid hrow
  clear BS htn hrn hn hr hT hrow
  go_enter Tryd.func17, Tryd.ntmps17
  go_wp2_with fail
  clear hw1 hgz
  go_loopw [7, 8, 13] (fun av gv iv wr => RwI cols row l w av gv iv wr ∧ Later w1 wr) (fun _ _ i _ => tn - (intOf i).toNat)
  case atStart => exact ⟨HI0.out, Later.refl _⟩
  case round =>
    obtain ⟨⟨k, a, g, rfl, rfl, rfl, hk, hst, lat⟩, lat1⟩ := hrel
    have HLAT := Lib.hid lat
    have HLAT1 := Lib.hid lat1
    have hin := rowS_in cols row (l.take k)
    rw [hst] at hin
    dsimp only at hin
    obtain ⟨⟨ha0, ha2⟩, hg0, hg2⟩ := hin
    by_cases hlt : k < tn
    · have hkl : k < l.length := by have := HTN.out; omega
      have HST := Lib.hid (rowS_step hkl hst)
      obtain ⟨tb, toff, hTA, hta⟩ := (HT.out.later lat).tst k hkl
      subst hTA
      have hso := oneT_in cols row l[k]
      have HB := Lib.hid (fun w' (h : Has w' (some ⟨tb, toff, none⟩) (ft l)) => begins_any (some ⟨tb, toff, none⟩) tn tc k l w' HTN.out htl hlt h)
      rw [show l.getD k default = l[k] by rw [List.getD_eq_getElem?_getD, List.getElem?_eq_getElem hkl]; rfl] at HB
      have HONE := Lib.hid (fun w' (h1 : Has w' A (fc cols)) (h2 : Has w' R (fl row)) => one_any A n c last cols l[k] R rn rc row w' HN.out hl h1 HRN.out hrl h2)
      obtain ⟨t, ht⟩ : ∃ t, l[k] = t := ⟨_, rfl⟩
      rw [ht] at hta HST HB HONE hso
      obtain ⟨nm, op, ⟨vt, vi, vs⟩, o, nt⟩ := t
      obtain ⟨q, hq⟩ : ∃ q, oneT cols row ⟨nm, op, (vt, vi, vs), o, nt⟩ = q := ⟨_, rfl⟩
      rw [hq] at HONE HST hso
      dsimp only at HB HONE HST
      obtain ⟨e0, e1, e2, e3, e4, e5, e6⟩ := hta
      dsimp only at e0 e1 e2 e3 e4 e5 e6
      have e0 := e0.out
      have e1 := e1.out
      have e2 := e2.out
      have e3 := e3.out
      have e4 := e4.out
      have e5 := e5.out
      have e6 := e6.out
      obtain ⟨gt, hgt⟩ : ∃ g, wr.heap.size = g := ⟨_, rfl⟩
      obtain ⟨w2, hw2⟩ : ∃ x : World, wr.alloc (.cells (tcs nm op vt vi vs o nt) 28) = x := ⟨_, rfl⟩
      have BT := Blk.new wr (tcs nm op vt vi vs o nt) 28 gt hgt.symm
      have l2 := Later.new wr (.cells (tcs nm op vt vi vs o nt) 28)
      rw [hw2] at BT l2
      have HL2 := Lib.hid l2
      have HBT := Lib.hid BT
      have HBB := Lib.hid (HB.out w2 (HT.out.later (lat.trans l2)))
      have HOO := Lib.hid (HONE.out w2 (HR.out.later (lat.trans l2)) (HROW.out.later (lat.trans l2)))
      clear BT l2 HB HONE hq ht hst lat lat1
      go_wp2_with fail
      clear hw2
      refine HBB.out.mono ?_
      rintro e wX ⟨rfl, rfl⟩
      have s0 := ((HBS.out.later HLAT1.out).later HL2.out).cell 0 _ rfl
      have s1 := ((HBS.out.later HLAT1.out).later HL2.out).cell 1 _ rfl
      have b0 := HBT.out.cell 0 _ rfl
      have b1 := HBT.out.cell 1 _ rfl
      have b2 := HBT.out.cell 2 _ rfl
      have b3 := HBT.out.cell 3 _ rfl
      have b4 := HBT.out.cell 4 _ rfl
      have b5 := HBT.out.cell 5 _ rfl
      have b6 := HBT.out.cell 6 _ rfl
      clear HBB e0 e1 e2 e3 e4 e5 e6
      obtain ⟨bb, hbb⟩ : ∃ b, (decide (0 < k) && o) = b := ⟨_, rfl⟩
      rw [hbb] at HST ⊢
      clear hbb
      cases bb with
      | true =>
        go_wp2_with (go_at_call 33; refine HOO.out.mono ?_; rintro e wY ⟨rfl, lY⟩; have HLY := Lib.hid ((HLAT.out.trans HL2.out).trans lY); have HLY1 := Lib.hid ((HLAT1.out.trans HL2.out).trans lY); clear lY s0 s1 b0 b1 b2 b3 b4 b5 b6)
        all_goals go_wp2_with fail
        all_goals go_roundw
        all_goals first
          | exact ⟨RwI.mk _ (k + 1) _ _ (by omega) hkl (by rw [HST.out]; simp) HLY.out, HLY1.out⟩
          | (simp [intOf]; omega)
      | false =>
        go_wp2_with (go_at_call 33; refine HOO.out.mono ?_; rintro e wY ⟨rfl, lY⟩; have HLY := Lib.hid ((HLAT.out.trans HL2.out).trans lY); have HLY1 := Lib.hid ((HLAT1.out.trans HL2.out).trans lY); clear lY s0 s1 b0 b1 b2 b3 b4 b5 b6)
        all_goals go_wp2_with fail
        all_goals go_roundw
        all_goals first
          | exact ⟨RwI.mk _ (k + 1) _ _ (by omega) hkl (by rw [HST.out]; simp) HLY.out, HLY1.out⟩
          | (simp [intOf]; omega)
    · have HE := Lib.hid (show rowT cols l row = max a g from by
        have : k = l.length := by have := HTN.out; omega
        subst this
        rw [List.take_length] at hst
        unfold rowT; rw [hst])
      clear hst
      go_wp2_with fail
      go_ret
      rw [HE.out]
      exact ⟨rfl, lat⟩
end Go.Proofs.YteiabachilpciaaDoor
