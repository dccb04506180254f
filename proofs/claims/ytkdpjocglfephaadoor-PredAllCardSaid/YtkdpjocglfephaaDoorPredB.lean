
import Derived.Test.YtkdpjocglfephaaDoorZoneM
import Derived.Test.YtkdpjocglfephaaDoorBatR
import Derived.Test.YtkdpjocglfephaaDoorBase
import Derived.WalkKit
import Derived.LaidEql
import Derived.Stop.Asserts
import Derived.Stop.IfaceNil
import Derived.RowKitTokens
import Derived.Laws.OwnMore
import Derived.Laws.BytesArg
import Derived.Laws.Rows
import Derived.Deep.AppendLies
import Derived.Deep.Draws
import Derived.Test.YtkdpjocglfephaaDoorChecked
import Derived.Deep.OwnRows
import Derived.Lib.Hide
import Derived.Deep.Quiet
import Derived.Laws.AppendOwnNone
import Derived.Lib.Strings
import Derived.Outline
import Derived.WalkLawsBesides
import Derived.WalkSpells
import Derived.PlainAid
import Derived.Deep.QuietTactic
import Derived.BigQuiet
import Derived.RegionTactic
import Derived.BigRegion
import Derived.Handy
import Derived.Laws.BitsAllLaws
import Derived.Deep.RegionWith
import Derived.Lib.AppendStr
import Derived.Deep.RegionLaw
import Derived.Maps.AppendAt
import Derived.OpenShut
import Derived.WideShapes
import Derived.ChangeArms
import Derived.Deep.Slices
import Derived.Sort.Grow
import Derived.Laws.BitsLemmas
import Derived.Laws.Bits64
import Derived.WalkSmall
import Derived.Lib.Bytealg
import Derived.Deep.SlicePairs
import Derived.Deep.RegionHeld3
import Derived.Test.YtkdpjocglfephaaDoorShelf
import Derived.Shelf.Abstract
import Derived.OrdersHeld
/- The walks of package pred: can, Can, meets, check, Check. -/



namespace Go.Proofs.YtkdpjocglfephaaDoor
open Go.RowKit
set_option linter.unusedVariables false

/-- Do values of a column of that type stand against what the test asks for? -/
def meetsT (ty : Int) (t : Tst) : Bool := decide (t.op = 7) || decide (t.op = 8) || decide (t.v.1 = 0) || (decide (t.v.1 = 4) == decide (ty = 4))
theorem beq_dec (a b : Int) : (a == b) = decide (a = b) := by
  by_cases h : a = b
  · subst h; simp
  · simp [h]
set_option maxRecDepth 100000 in
theorem meets_any (ty : Int) (nm : ByteArray) (op vt vi : Int) (vs : ByteArray) (o n : Bool) (w : World) :
    Calls Tryd.prog 52 #[.int .i64 ty, tagg nm op vt vi vs o n] w fun e w' => e = .returned (.bool (meetsT ty ⟨nm, op, (vt, vi, vs), o, n⟩)) ∧ Later w w' := by
  have L1 := Lib.hid (Later.new w (.cells (tcs nm op vt vi vs o n) 28))
  by_cases h7 : op = 7
  · subst h7
    go_enter Tryd.func52, Tryd.ntmps52
    go_wp2_with fail
    go_ret
    exact ⟨rfl, L1.out⟩
  · by_cases h8 : op = 8
    · subst h8
      clear h7
      go_enter Tryd.func52, Tryd.ntmps52
      go_wp2_with fail
      go_ret
      exact ⟨rfl, L1.out⟩
    · have e7 : (op == 7) = false := by simpa using h7
      have e8 : (op == 8) = false := by simpa using h8
      by_cases h0 : vt = 0
      · subst h0
        have HC := Lib.hid (show meetsT ty ⟨nm, op, (0, vi, vs), o, n⟩ = true by unfold meetsT; simp)
        clear h7 h8
        go_enter Tryd.func52, Tryd.ntmps52
        go_wp2_with fail
        go_ret
        rw [HC.out]
        exact ⟨rfl, L1.out⟩
      · have e0 : (vt == 0) = false := by simpa using h0
        have HC := Lib.hid (show meetsT ty ⟨nm, op, (vt, vi, vs), o, n⟩ = ((vt == 4) == (ty == 4)) by unfold meetsT; simp [h7, h8, h0, beq_dec])
        obtain ⟨p, hp⟩ : ∃ p, (vt == 4) = p := ⟨_, rfl⟩
        obtain ⟨q, hq⟩ : ∃ q, (ty == 4) = q := ⟨_, rfl⟩
        rw [hp, hq] at HC
        clear h7 h8 h0
        go_enter Tryd.func52, Tryd.ntmps52
        go_wp2_with fail
        all_goals go_ret
        all_goals rw [HC.out]
        all_goals first | exact ⟨rfl, L1.out⟩ | exact ⟨by simp_all, L1.out⟩

/-- A zone: how many are nothing, the least, the greatest. -/
structure Zn where
  n : Int
  a : Val3
  b : Val3
instance : Inhabited Zn := ⟨⟨0, none3, none3⟩⟩
def encZ (z : Zn) : List Value := [.int .i64 z.n, .int .i64 z.a.1, .int .i64 z.a.2.1, .string z.a.2.2, .int .i64 z.b.1, .int .i64 z.b.2.1, .string z.b.2.2]
def fz (l : List Zn) : List Value := l.flatMap encZ
theorem fz_length : ∀ l : List Zn, (fz l).length = l.length * 7
  | [] => rfl
  | x :: r => by
    have := fz_length r
    show (encZ x ++ fz r).length = _
    rw [List.length_append, this, List.length_cons]
    simp [encZ]; omega
theorem fz_get : ∀ (l : List Zn) (k : Nat) (h : k < l.length) (i : Nat) (hi : i < 7), (fz l)[k * 7 + i]? = (encZ l[k])[i]?
  | x :: r, 0, _, i, hi => by
    show (encZ x ++ fz r)[0 * 7 + i]? = _
    rw [Nat.zero_mul, Nat.zero_add, List.getElem?_append_left (by simpa [encZ] using hi)]; rfl
  | x :: r, k + 1, h, i, hi => by
    have ih := fz_get r k (by simpa using h) i hi
    show (encZ x ++ fz r)[(k + 1) * 7 + i]? = _
    rw [List.getElem?_append_right (by simp [encZ]; omega)]
    rw [show (k + 1) * 7 + i - (encZ x).length = k * 7 + i by simp [encZ]; omega]
    exact ih
def ZnAt (w : World) (b o : Nat) (z : Zn) : Prop :=
  CellIs w ⟨b, o, none⟩ (.int .i64 z.n) ∧ CellIs w ⟨b, o + 1, none⟩ (.int .i64 z.a.1) ∧ CellIs w ⟨b, o + 2, none⟩ (.int .i64 z.a.2.1) ∧ CellIs w ⟨b, o + 3, none⟩ (.string z.a.2.2) ∧ CellIs w ⟨b, o + 4, none⟩ (.int .i64 z.b.1) ∧ CellIs w ⟨b, o + 5, none⟩ (.int .i64 z.b.2.1) ∧ CellIs w ⟨b, o + 6, none⟩ (.string z.b.2.2)
theorem ZnAt.later {w w' : World} {b o : Nat} {t : Zn} (h : ZnAt w b o t) (k : Later w w') : ZnAt w' b o t :=
  ⟨h.1.later k, h.2.1.later k, h.2.2.1.later k, h.2.2.2.1.later k, h.2.2.2.2.1.later k, h.2.2.2.2.2.1.later k, h.2.2.2.2.2.2.later k⟩
theorem Has.zn {w : World} {A : Option Addr} {l : List Zn} (h : Has w A (fz l)) (k : Nat) (hk : k < l.length) : ∃ b off, A = some ⟨b, off, none⟩ ∧ ZnAt w b (off + k * 7) l[k] := by
  rcases h with h | ⟨b, off, hA, _, hc⟩
  · have h1 := fz_length l
    rw [h] at h1
    simp at h1
    omega
  · refine ⟨b, off, hA, ?_, ?_, ?_, ?_, ?_, ?_, ?_⟩
    · exact hc (k * 7 + 0) _ (fz_get l k hk 0 (by decide))
    · have := hc (k * 7 + 1) _ (fz_get l k hk 1 (by decide)); rw [← Nat.add_assoc] at this; exact this
    · have := hc (k * 7 + 2) _ (fz_get l k hk 2 (by decide)); rw [← Nat.add_assoc] at this; exact this
    · have := hc (k * 7 + 3) _ (fz_get l k hk 3 (by decide)); rw [← Nat.add_assoc] at this; exact this
    · have := hc (k * 7 + 4) _ (fz_get l k hk 4 (by decide)); rw [← Nat.add_assoc] at this; exact this
    · have := hc (k * 7 + 5) _ (fz_get l k hk 5 (by decide)); rw [← Nat.add_assoc] at this; exact this
    · have := hc (k * 7 + 6) _ (fz_get l k hk 6 (by decide)); rw [← Nat.add_assoc] at this; exact this
/-- May a row of these zones pass the test? -/
def canT (cols : List Col3) (n : Int) (zs : List Zn) (t : Tst) : Bool :=
  if t.not_ then true else match (findC cols t.nm).bind (fun k => zs[k]?) with | some z => canZ z.n z.a z.b n t.op t.v | none => true

set_option maxRecDepth 100000 in
set_option maxHeartbeats 2000000 in
theorem can_any (A : Option Addr) (n c : Nat) (last : Int) (cols : List Col3) (t : Tst) (m : Int) (R : Option Addr) (rn rc : Nat) (zs : List Zn) (w : World) (hn : n = cols.length) (hl : n ≤ 100000) (hr : Has w A (fc cols)) (hrn : rn = zs.length) (hrl : rn ≤ 100000) (hzs : Has w R (fz zs)) :
    Calls Tryd.prog 35 #[.agg #[.slice A n c, .int .i64 last], tagg t.nm t.op t.v.1 t.v.2.1 t.v.2.2 t.or_ t.not_, .int .i64 m, .slice R rn rc] w fun e w' => e = .returned (.bool (canT cols m zs t)) ∧ Later w w' := by
  obtain ⟨gz, hgz⟩ : ∃ g, w.heap.size = g := ⟨_, rfl⟩
  obtain ⟨nm, op, ⟨vt, vi, vs⟩, o, nt⟩ := t
  obtain ⟨w1, hw1⟩ : ∃ x : World, (w.alloc (.cells #[.slice A n c, .int .i64 last] 33)).alloc (.cells (tcs nm op vt vi vs o nt) 28) = x := ⟨_, rfl⟩
  have BS := (Blk.new w #[.slice A n c, .int .i64 last] 33 gz hgz.symm).later (Later.new _ (.cells (tcs nm op vt vi vs o nt) 28))
  have BT := Blk.new (w.alloc (.cells #[.slice A n c, .int .i64 last] 33)) (tcs nm op vt vi vs o nt) 28 (gz + 1) (by simp [hgz])
  have L1 := (Later.new w (.cells #[.slice A n c, .int .i64 last] 33)).alloc (.cells (tcs nm op vt vi vs o nt) 28)
  rw [hw1] at BS BT L1
  have HF := Lib.hid (find_any A n c last cols nm w1 hn hl (hr.later L1))
  have hone : canT cols m zs ⟨nm, op, (vt, vi, vs), o, nt⟩ = (if nt then true else match (findC cols nm).bind (fun k => zs[k]?) with | some z => canZ z.n z.a z.b m op (vt, vi, vs) | none => true) := rfl
  have HRN := Lib.hid hrn
  have HROW := Lib.hid (hzs.later L1)
  have HL1 := Lib.hid L1
  have HBT := Lib.hid BT
  have s0 := BS.cell 0 _ rfl
  have s1 := BS.cell 1 _ rfl
  have t0 := BT.cell 0 _ rfl
  clear L1 BS BT hr hn hzs hrn
  dsimp only
  cases nt with
  | true =>
    have HO := Lib.hid hone
    clear hone
    go_enter Tryd.func35, Tryd.ntmps35
    go_wp2_with fail
    refine HF.out.mono ?_
    rintro e w2 ⟨rfl, l2⟩
    have t6 := (HBT.out.later l2).cell 6 _ rfl
    have HL2 := Lib.hid (HL1.out.trans l2)
    clear l2 s0 s1 t0 hw1 HF
    go_wp2_with fail
    go_ret
    rw [HO.out]
    exact ⟨rfl, HL2.out⟩
  | false =>
    rw [if_neg (by decide)] at hone
    cases hfc : findC cols nm with
    | none =>
      rw [hfc] at HF hone
      have HO := Lib.hid hone
      clear hone hfc
      go_enter Tryd.func35, Tryd.ntmps35
      go_wp2_with fail
      refine HF.out.mono ?_
      rintro e w2 ⟨rfl, l2⟩
      have t6 := (HBT.out.later l2).cell 6 _ rfl
      have HL2 := Lib.hid (HL1.out.trans l2)
      clear l2 s0 s1 t0 hw1 HF
      go_wp2_with fail
      go_ret
      rw [HO.out]
      exact ⟨rfl, HL2.out⟩
    | some k =>
      rw [hfc] at HF hone
      by_cases hk : k < zs.length
      · have hrk : zs[k]? = some zs[k] := List.getElem?_eq_getElem hk
        simp only [Option.bind_some, hrk] at hone
        obtain ⟨b, off, rfl, hz⟩ := HROW.out.zn k hk
        have hkr : (k : Int) < (rn : Int) := by have := HRN.out; omega
        have hkr2 : k < rn := by have := HRN.out; omega
        have hkr3 : ¬ (rn : Int) ≤ (k : Int) := by omega
        have hkr4 : ¬ rn ≤ k := by omega
        have hd2 : decide (rn ≤ k) = false := by simpa using hkr4
        obtain ⟨z, hx⟩ : ∃ x, zs[k] = x := ⟨_, rfl⟩
        rw [hx] at hz hone
        obtain ⟨zn, ⟨a1, a2, a3⟩, ⟨b1, b2, b3⟩⟩ := z
        have HZ := Lib.hid hz
        have HO := Lib.hid hone
        clear hone hfc hx hrk hk hz
        go_enter Tryd.func35, Tryd.ntmps35
        go_wp2_with fail
        refine HF.out.mono ?_
        rintro e w2 ⟨rfl, l2⟩
        have t6 := (HBT.out.later l2).cell 6 _ rfl
        have bt := (HBT.out.later l2).drew
        have hz := HZ.out.later l2
        obtain ⟨k0, k1, k2, k3, k4, k5, k6⟩ := hz
        dsimp only at k0 k1 k2 k3 k4 k5 k6
        have k0 := k0.drew
        have k1 := k1.drew
        have k2 := k2.drew
        have k3 := k3.drew
        have k4 := k4.drew
        have k5 := k5.drew
        have k6 := k6.drew
        have lz := (HL1.out.trans l2).drew
        clear l2 s0 s1 t0 hw1 HF
        simp only [Option.getD_some, Option.isSome_some]
        go_wp2_with fail
        clear t6
        go_region_held3 (fun w' => w'.cell? ⟨gz + 1, 1, none⟩ = some (.int .i64 op) ∧ w'.cell? ⟨gz + 1, 2, none⟩ = some (.int .i64 vt) ∧ w'.cell? ⟨gz + 1, 3, none⟩ = some (.int .i64 vi) ∧ w'.cell? ⟨gz + 1, 4, none⟩ = some (.string vs) ∧ w'.cell? ⟨b, off + k * 7, none⟩ = some (.int .i64 zn) ∧ w'.cell? ⟨b, off + k * 7 + 1, none⟩ = some (.int .i64 a1) ∧ w'.cell? ⟨b, off + k * 7 + 2, none⟩ = some (.int .i64 a2) ∧ w'.cell? ⟨b, off + k * 7 + 3, none⟩ = some (.string a3) ∧ w'.cell? ⟨b, off + k * 7 + 4, none⟩ = some (.int .i64 b1) ∧ w'.cell? ⟨b, off + k * 7 + 5, none⟩ = some (.int .i64 b2) ∧ w'.cell? ⟨b, off + k * 7 + 6, none⟩ = some (.string b3)) (exact ⟨bt.cell 1 _ rfl, bt.cell 2 _ rfl, bt.cell 3 _ rfl, bt.cell 4 _ rfl, k0.out, k1.out, k2.out, k3.out, k4.out, k5.out, k6.out⟩) (first | (go_at_call 55; refine (zoneCan_c _ _ _ _ _ _ _ _ _ _ _ _ _).mono ?_; rintro e wX ⟨rfl, lX⟩; have lz := lz.trans lX; have bt := bt.later lX; have k0 := k0.later lX; have k1 := k1.later lX; have k2 := k2.later lX; have k3 := k3.later lX; have k4 := k4.later lX; have k5 := k5.later lX; have k6 := k6.later lX; clear lX))
        clear k0 k1 k2 k3 k4 k5 k6
        go_wp2_with fail
        go_ret
        rw [HO.out]
        exact ⟨rfl, lz⟩
      · have hrk : zs[k]? = none := List.getElem?_eq_none (by omega)
        simp only [Option.bind_some, hrk] at hone
        have hkr : (rn : Int) ≤ (k : Int) := by have := HRN.out; omega
        have hkr2 : rn ≤ k := by have := HRN.out; omega
        have hd2 : decide (rn ≤ k) = true := by simpa using hkr2
        have HO := Lib.hid hone
        clear hone hfc hrk hk
        go_enter Tryd.func35, Tryd.ntmps35
        go_wp2_with fail
        refine HF.out.mono ?_
        rintro e w2 ⟨rfl, l2⟩
        have t6 := (HBT.out.later l2).cell 6 _ rfl
        have HL2 := Lib.hid (HL1.out.trans l2)
        clear l2 s0 s1 t0 hw1 HF
        simp only [Option.getD_some, Option.isSome_some]
        go_wp2_with fail
        go_ret
        rw [HO.out]
        exact ⟨rfl, HL2.out⟩

def canGo (f : Tst → Bool) : Bool → Bool → List Tst → Bool
  | _, g, [] => g
  | b, g, t :: r => if !b && t.or_ then (if g then true else canGo f false (f t) r) else canGo f false (g && f t) r
/-- pred.Can. -/
def predCan (cols : List Col3) (n : Int) (zs : List Zn) (l : List Tst) : Bool := canGo (canT cols n zs) true true l

/-- Where pred.Can's loop stands. -/
def CnI (f : Tst → Bool) (l : List Tst) (res : Bool) (w : World) (gv iv : Value) (wr : World) : Prop :=
  ∃ (k : Nat) (g : Bool), gv = .bool g ∧ iv = .int .i64 k ∧ k ≤ l.length ∧ canGo f (decide (k = 0)) g (l.drop k) = res ∧ Later w wr
theorem CnI.mk {f : Tst → Bool} {l : List Tst} {res : Bool} {w wr : World} (i : Int) (k : Nat) (g : Bool) (hi : i = (k : Int)) (hk : k ≤ l.length) (h : canGo f (decide (k = 0)) g (l.drop k) = res) (L : Later w wr) : CnI f l res w (.bool g) (.int .i64 i) wr := by
  subst hi; exact ⟨k, g, rfl, rfl, hk, h, L⟩
theorem canGo_step {f : Tst → Bool} {l : List Tst} {k : Nat} (hk : k < l.length) {g res : Bool} (h : canGo f (decide (k = 0)) g (l.drop k) = res) :
    (if decide (0 < k) && l[k].or_ then (if g then true else canGo f (decide (k + 1 = 0)) (f l[k]) (l.drop (k + 1))) else canGo f (decide (k + 1 = 0)) (g && f l[k]) (l.drop (k + 1))) = res := by
  rw [List.drop_eq_getElem_cons hk] at h
  unfold canGo at h
  have e1 : (!decide (k = 0)) = decide (0 < k) := by
    rcases Nat.eq_zero_or_pos k with h | h
    · subst h; rfl
    · simp [h]; omega
  have e2 : decide (k + 1 = 0) = false := by simp
  rw [e1] at h
  rw [e2]
  exact h

set_option maxRecDepth 100000 in
set_option maxHeartbeats 2000000 in
theorem predCan_any (A : Option Addr) (n c : Nat) (last : Int) (cols : List Col3) (T : Option Addr) (tn tc : Nat) (l : List Tst) (m : Int) (R : Option Addr) (rn rc : Nat) (zs : List Zn) (w : World) (hn : n = cols.length) (hl : n ≤ 100000) (hr : Has w A (fc cols)) (htn : tn = l.length) (htl : tn ≤ 100000) (hT : Has w T (ft l)) (hrn : rn = zs.length) (hrl : rn ≤ 100000) (hrow : Has w R (fz zs)) :
    Calls Tryd.prog 16 #[.agg #[.slice A n c, .int .i64 last], .slice T tn tc, .int .i64 m, .slice R rn rc] w fun e w' => e = .returned (.bool (predCan cols m zs l)) ∧ Later w w' := by
  obtain ⟨gz, hgz⟩ : ∃ g, w.heap.size = g := ⟨_, rfl⟩
  obtain ⟨w1, hw1⟩ : ∃ x : World, w.alloc (.cells #[.slice A n c, .int .i64 last] 33) = x := ⟨_, rfl⟩
  have BS := Blk.new w #[.slice A n c, .int .i64 last] 33 gz hgz.symm
  have L1 := Later.new w (.cells #[.slice A n c, .int .i64 last] 33)
  rw [hw1] at BS L1
  obtain ⟨res, hres⟩ : ∃ r, predCan cols m zs l = r := ⟨_, rfl⟩
  have HI0 := Lib.hid (CnI.mk (f := canT cols m zs) (l := l) (res := res) (w := w) 0 0 true rfl (Nat.zero_le _) hres L1)
  rw [hres]
  have HTN := Lib.hid htn
  have HRN := Lib.hid hrn
  have HN := Lib.hid hn
  have HBS := Lib.hid BS
  have HL1 := Lib.hid L1
  have HR := Lib.hid hr
  have HT := Lib.hid hT
  have HROW := Lib.hid hrow
  clear BS htn hrn hn hr hT hrow hres
  go_enter Tryd.func16, Tryd.ntmps16
  go_wp2_with fail
  clear hw1 hgz
  go_loopw [9, 14] (fun gv iv wr => CnI (canT cols m zs) l res w gv iv wr ∧ Later w1 wr) (fun _ i _ => tn - (intOf i).toNat)
  case atStart => exact ⟨HI0.out, Later.refl _⟩
  case round =>
    obtain ⟨⟨k, g, rfl, rfl, hk, hst, lat⟩, lat1⟩ := hrel
    have HLAT := Lib.hid lat
    have HLAT1 := Lib.hid lat1
    by_cases hlt : k < tn
    · have hkl : k < l.length := by have := HTN.out; omega
      have HST := Lib.hid (canGo_step hkl hst)
      obtain ⟨tb, toff, hTA, hta⟩ := (HT.out.later lat).tst k hkl
      subst hTA
      have HB := Lib.hid (fun w' (h : Has w' (some ⟨tb, toff, none⟩) (ft l)) => begins_any (some ⟨tb, toff, none⟩) tn tc k l w' HTN.out htl hlt h)
      rw [show l.getD k default = l[k] by rw [List.getD_eq_getElem?_getD, List.getElem?_eq_getElem hkl]; rfl] at HB
      have HONE := Lib.hid (fun w' (h1 : Has w' A (fc cols)) (h2 : Has w' R (fz zs)) => can_any A n c last cols l[k] m R rn rc zs w' HN.out hl h1 HRN.out hrl h2)
      obtain ⟨t, ht⟩ : ∃ t, l[k] = t := ⟨_, rfl⟩
      rw [ht] at hta HST HB HONE
      obtain ⟨nm, op, ⟨vt, vi, vs⟩, o, nt⟩ := t
      obtain ⟨q, hq⟩ : ∃ q, canT cols m zs ⟨nm, op, (vt, vi, vs), o, nt⟩ = q := ⟨_, rfl⟩
      rw [hq] at HONE HST
      dsimp only at HB HONE HST
      obtain ⟨e0, e1, e2, e3, e4, e5, e6⟩ := hta
      dsimp only at e0 e1 e2 e3 e4 e5 e6
      have e0 := e0.out
      have e1 := e1.out
      have e2 := e2.out
      have e3 := e3.out
      have e4 := e4.out
      have e5 := e5.out
      have e6 := e6.out
      obtain ⟨gt, hgt⟩ : ∃ g, wr.heap.size = g := ⟨_, rfl⟩
      obtain ⟨w2, hw2⟩ : ∃ x : World, wr.alloc (.cells (tcs nm op vt vi vs o nt) 28) = x := ⟨_, rfl⟩
      have BT := Blk.new wr (tcs nm op vt vi vs o nt) 28 gt hgt.symm
      have l2 := Later.new wr (.cells (tcs nm op vt vi vs o nt) 28)
      rw [hw2] at BT l2
      have HL2 := Lib.hid l2
      have HBT := Lib.hid BT
      have HBB := Lib.hid (HB.out w2 (HT.out.later (lat.trans l2)))
      have HOO := Lib.hid (HONE.out w2 (HR.out.later (lat.trans l2)) (HROW.out.later (lat.trans l2)))
      clear BT l2 HB HONE hq ht hst lat lat1
      go_wp2_with fail
      clear hw2
      refine HBB.out.mono ?_
      rintro e wX ⟨rfl, rfl⟩
      have s0 := ((HBS.out.later HLAT1.out).later HL2.out).cell 0 _ rfl
      have s1 := ((HBS.out.later HLAT1.out).later HL2.out).cell 1 _ rfl
      have b0 := HBT.out.cell 0 _ rfl
      have b1 := HBT.out.cell 1 _ rfl
      have b2 := HBT.out.cell 2 _ rfl
      have b3 := HBT.out.cell 3 _ rfl
      have b4 := HBT.out.cell 4 _ rfl
      have b5 := HBT.out.cell 5 _ rfl
      have b6 := HBT.out.cell 6 _ rfl
      clear HBB e0 e1 e2 e3 e4 e5 e6
      obtain ⟨bb, hbb⟩ : ∃ b, (decide (0 < k) && o) = b := ⟨_, rfl⟩
      rw [hbb] at HST ⊢
      clear hbb
      cases bb with
      | true =>
        cases g with
        | true =>
          have HE := Lib.hid (show true = res by have := HST.out; simpa using this)
          go_wp2_with fail
          go_ret
          rw [← HE.out]
          exact ⟨rfl, HLAT.out.trans HL2.out⟩
        | false =>
          go_wp2_with (go_at_call 35; refine HOO.out.mono ?_; rintro e wY ⟨rfl, lY⟩; have HLY := Lib.hid ((HLAT.out.trans HL2.out).trans lY); have HLY1 := Lib.hid ((HLAT1.out.trans HL2.out).trans lY); clear lY s0 s1 b0 b1 b2 b3 b4 b5 b6)
          all_goals go_wp2_with fail
          all_goals go_roundw
          all_goals first
            | exact ⟨CnI.mk _ (k + 1) _ (by omega) hkl (by have := HST.out; simpa using this) HLY.out, HLY1.out⟩
            | (simp [intOf]; omega)
      | false =>
        cases g with
        | true =>
          go_wp2_with (go_at_call 35; refine HOO.out.mono ?_; rintro e wY ⟨rfl, lY⟩; have HLY := Lib.hid ((HLAT.out.trans HL2.out).trans lY); have HLY1 := Lib.hid ((HLAT1.out.trans HL2.out).trans lY); clear lY s0 s1 b0 b1 b2 b3 b4 b5 b6)
          all_goals go_wp2_with fail
          all_goals go_roundw
          all_goals first
            | exact ⟨CnI.mk _ (k + 1) _ (by omega) hkl (by have := HST.out; simpa using this) HLY.out, HLY1.out⟩
            | (simp [intOf]; omega)
        | false =>
          go_wp2_with fail
          go_roundw
          all_goals first
            | exact ⟨CnI.mk _ (k + 1) _ (by omega) hkl (by have := HST.out; simpa using this) (HLAT.out.trans HL2.out), HLAT1.out.trans HL2.out⟩
            | (simp [intOf]; omega)
    · have HE := Lib.hid (show g = res by
        have : k = l.length := by have := HTN.out; omega
        subst this
        rw [List.drop_length] at hst
        simpa [canGo] using hst)
      clear hst
      go_wp2_with fail
      go_ret
      rw [← HE.out]
      exact ⟨rfl, lat⟩
end Go.Proofs.YtkdpjocglfephaaDoor

/- The walks of package pred: check, Check. -/

namespace Go.Proofs.YtkdpjocglfephaaDoor
open Go.RowKit
set_option linter.unusedVariables false

/-- May a test be, of whatever schema? -/
def OkT (t : Tst) : Prop := (1 ≤ t.op ∧ t.op ≤ 8) ∧ MayV t.v.1 t.v.2.1 t.v.2.2.size
instance (t i : Int) (n : Nat) : Decidable (MayV t i n) := by unfold MayV; infer_instance
instance (t : Tst) : Decidable (OkT t) := by unfold OkT; infer_instance
def check2 (cols : List Col3) : List Tst → Int
  | [] => 0
  | t :: r => match findC cols t.nm with
    | none => 3
    | some k => if meetsT (cols.getD k (0, ⟨#[]⟩, 0)).2.2 t then check2 cols r else 4
/-- Why tests may not be. -/
def checkT (cols : List Col3) (l : List Tst) : Int := if 8 < l.length then 1 else if l.all (fun t => decide (OkT t)) then check2 cols l else 1
/-- An error that tells e. -/
def ErrP (e : Int) (w : World) (r : Ending) (w' : World) : Prop := ((e = 0 ∧ r = .returned .nilIface) ∨ ∃ v, r = .returned v ∧ WrapsE w' v e) ∧ Later w w'

set_option maxRecDepth 100000 in
set_option maxHeartbeats 4000000 in
theorem predCheck_any (A : Option Addr) (n c : Nat) (last : Int) (cols : List Col3) (T : Option Addr) (tn tc : Nat) (l : List Tst) (w : World) (hs : S3 w) (hn : n = cols.length) (hl : n ≤ 100000) (hr : Has w A (fc cols)) (htn : tn = l.length) (htl : tn ≤ 100000) (hT : Has w T (ft l)) :
    Calls Tryd.prog 28 #[.agg #[.slice A n c, .int .i64 last], .slice T tn tc] w (ErrP (checkT cols l) w) := by
  obtain ⟨gz, hgz⟩ : ∃ g, w.heap.size = g := ⟨_, rfl⟩
  obtain ⟨w1, hw1⟩ : ∃ x : World, w.alloc (.cells #[.slice A n c, .int .i64 last] 33) = x := ⟨_, rfl⟩
  have BS := Blk.new w #[.slice A n c, .int .i64 last] 33 gz hgz.symm
  have L1 := Later.new w (.cells #[.slice A n c, .int .i64 last] 33)
  rw [hw1] at BS L1
  have HTN := Lib.hid htn
  have HN := Lib.hid hn
  have HBS := Lib.hid BS
  have HL1 := Lib.hid L1
  have HR := Lib.hid hr
  have HT := Lib.hid hT
  have HS := Lib.hid hs
  clear BS htn hn hr hT hs L1
  by_cases h8 : 8 < tn
  · have HE := Lib.hid (show checkT cols l = 1 by unfold checkT; rw [if_pos (by have := HTN.out; omega)])
    have h8i : (8 : Int) < (tn : Int) := by omega
    have HO := Lib.hid (fun w => of_some 1 w (by decide))
    go_enter Tryd.func28, Tryd.ntmps28
    go_wp2_with (first
      | (go_at_call 49; refine (HO.out _).mono ?_; rintro e wX ⟨rfl, rfl⟩)
      | (go_at_call 48; refine (at_e _ _ _ _).mono ?_; rintro e wX ⟨v, rfl, hv, lX⟩; have HV := Lib.hid hv; have HLX := Lib.hid (HL1.out.trans lX); clear hv lX))
    go_ret
    rw [HE.out]
    exact ⟨.inr ⟨_, rfl, HV.out⟩, HLX.out⟩
  · have h8i : ¬ (8 : Int) < (tn : Int) := by omega
    have HC0 := Lib.hid (show checkT cols l = if l.all (fun t => decide (OkT t)) then check2 cols l else 1 by unfold checkT; rw [if_neg (by have := HTN.out; omega)])
    have HO1 := Lib.hid (fun w => of_some 1 w (by decide))
    go_enter Tryd.func28, Tryd.ntmps28
    go_wp2_with fail
    clear hw1 hgz h8i
    go_loopw [20] (fun iv wr => ∃ k : Nat, k ≤ tn ∧ iv = .int .i64 k ∧ (l.take k).all (fun t => decide (OkT t)) = true ∧ Later w1 wr) (fun i _ => tn - (intOf i).toNat)
    case atStart => exact ⟨0, Nat.zero_le _, rfl, by simp, Later.refl _⟩
    case round =>
      obtain ⟨k, hk, rfl, hall, lat⟩ := hrel
      have HLAT := Lib.hid lat
      by_cases hlt : k < tn
      · have hkl : k < l.length := by have := HTN.out; omega
        obtain ⟨tb, toff, hTA, hta⟩ := (HT.out.later (HL1.out.trans lat)).tst k hkl
        subst hTA
        have HY := Lib.hid (fun (h : OkT l[k]) => show (l.take (k + 1)).all (fun t => decide (OkT t)) = true by
          rw [List.take_succ_eq_append_getElem hkl, List.all_append, hall]; simpa using h)
        have HNO := Lib.hid (fun (h : ¬ OkT l[k]) => show checkT cols l = 1 by
          rw [HC0.out, if_neg]
          intro h2
          exact h (by simpa using List.all_eq_true.1 h2 _ (List.getElem_mem hkl)))
        obtain ⟨t, ht⟩ : ∃ t, l[k] = t := ⟨_, rfl⟩
        rw [ht] at hta HY HNO
        obtain ⟨nm, op, ⟨vt, vi, vs⟩, o, nt⟩ := t
        obtain ⟨e0, e1, e2, e3, e4, e5, e6⟩ := hta
        dsimp only at e0 e1 e2 e3 e4 e5 e6
        have e0 := e0.out
        have e1 := e1.out
        have e2 := e2.out
        have e3 := e3.out
        have e4 := e4.out
        have e5 := e5.out
        have e6 := e6.out
        obtain ⟨gt, hgt⟩ : ∃ g, wr.heap.size = g := ⟨_, rfl⟩
        obtain ⟨w2, hw2⟩ : ∃ x : World, wr.alloc (.cells (tcs nm op vt vi vs o nt) 28) = x := ⟨_, rfl⟩
        have BT := Blk.new wr (tcs nm op vt vi vs o nt) 28 gt hgt.symm
        have l2 := Later.new wr (.cells (tcs nm op vt vi vs o nt) 28)
        rw [hw2] at BT l2
        have HL2 := Lib.hid l2
        have HM := Lib.hid (may3_any vt vi vs w2 (HS.out.later ((HL1.out.trans lat).trans l2)))
        have b1 := BT.cell 1 _ rfl
        have b2 := BT.cell 2 _ rfl
        have b3 := BT.cell 3 _ rfl
        have b4 := BT.cell 4 _ rfl
        have HLL := Lib.hid ((HL1.out.trans lat).trans l2)
        clear BT l2 ht hall lat
        by_cases hb : op < 1
        · have HE := Lib.hid (HNO.out (fun h => by have := h.1.1; dsimp only at this; omega))
          clear HY HNO
          go_wp2_with (first
            | (go_at_call 49; refine (HO1.out _).mono ?_; rintro e wX ⟨rfl, rfl⟩)
            | (go_at_call 48; refine (at_e _ _ _ _).mono ?_; rintro e wX ⟨v, rfl, hv, lX⟩; have HV := Lib.hid hv; have HLX := Lib.hid (HLL.out.trans lX); clear hv lX))
          go_ret
          rw [HE.out]
          exact ⟨.inr ⟨_, rfl, HV.out⟩, HLX.out⟩
        · by_cases hb2 : 8 < op
          · have HE := Lib.hid (HNO.out (fun h => by have := h.1.2; dsimp only at this; omega))
            clear HY HNO
            go_wp2_with (first
              | (go_at_call 49; refine (HO1.out _).mono ?_; rintro e wX ⟨rfl, rfl⟩)
              | (go_at_call 48; refine (at_e _ _ _ _).mono ?_; rintro e wX ⟨v, rfl, hv, lX⟩; have HV := Lib.hid hv; have HLX := Lib.hid (HLL.out.trans lX); clear hv lX))
            go_ret
            rw [HE.out]
            exact ⟨.inr ⟨_, rfl, HV.out⟩, HLX.out⟩
          · by_cases hm : MayV vt vi vs.size
            · have HE := Lib.hid (HY.out ⟨⟨show 1 ≤ op by omega, show op ≤ 8 by omega⟩, hm⟩)
              have HM2 := Lib.hid (HM.out.mono fun _ _ h => h.yes hm)
              clear HY HNO HM hm
              go_wp2_with (first
                | (go_at_call 50; refine HM2.out.mono ?_; rintro e wX ⟨rfl, lX⟩; have HLX := Lib.hid ((HLAT.out.trans HL2.out).trans lX); clear lX))
              all_goals go_wp2_with fail
              all_goals go_roundw
              all_goals first
                | exact ⟨k + 1, hlt, by go_num, HE.out, HLX.out⟩
                | (simp [intOf]; omega)
            · have HE := Lib.hid (HNO.out (fun h => hm h.2))
              have HM2 := Lib.hid (HM.out.mono fun _ _ h => h.no hm)
              clear HY HNO HM hm
              go_wp2_with (first
                | (go_at_call 50; refine HM2.out.mono ?_; rintro e wM ⟨rfl, lM⟩; have HLM := Lib.hid (HLL.out.trans lM); clear lM b1 b2 b3 b4)
                | (go_at_call 49; refine (HO1.out _).mono ?_; rintro e wX ⟨rfl, rfl⟩)
                | (go_at_call 48; refine (at_e _ _ _ _).mono ?_; rintro e wX ⟨v, rfl, hv, lX⟩; have HV := Lib.hid hv; have HLX := Lib.hid (HLM.out.trans lX); clear hv lX))
              go_ret
              rw [HE.out]
              exact ⟨.inr ⟨_, rfl, HV.out⟩, HLX.out⟩
      · have hkn : k = l.length := by have := HTN.out; omega
        have HC := Lib.hid (show checkT cols l = check2 cols (l.drop 0) by
          subst hkn
          rw [List.take_length] at hall
          rw [HC0.out, if_pos hall, List.drop_zero])
        have HLW := Lib.hid (HL1.out.trans lat)
        have HB1 := Lib.hid (HBS.out.later lat)
        obtain ⟨wo, hwo⟩ : ∃ x, x = wr := ⟨_, rfl⟩
        subst hwo
        have HO3 := Lib.hid (fun w => of_some 3 w (by decide))
        have HO4 := Lib.hid (fun w => of_some 4 w (by decide))
        clear hkn hall HC0 HO1 lat HLAT
        go_wp2_with fail
        go_loopw [45] (fun iv wr => ∃ k : Nat, k ≤ tn ∧ iv = .int .i64 k ∧ checkT cols l = check2 cols (l.drop k) ∧ Later wo wr) (fun i _ => tn - (intOf i).toNat)
        case atStart => exact ⟨0, Nat.zero_le _, rfl, HC.out, Later.refl _⟩
        case round =>
          obtain ⟨k, hk, rfl, hck, lat⟩ := hrel
          have HLAT := Lib.hid lat
          by_cases hlt : k < tn
          · have hkl : k < l.length := by have := HTN.out; omega
            obtain ⟨tb, toff, hTA, hta⟩ := (HT.out.later (HLW.out.trans lat)).tst k hkl
            subst hTA
            have hst : checkT cols l = match findC cols l[k].nm with
              | none => 3
              | some k' => if meetsT (cols.getD k' (0, ⟨#[]⟩, 0)).2.2 l[k] then check2 cols (l.drop (k + 1)) else 4 := by
              rw [hck, List.drop_eq_getElem_cons hkl]; rfl
            obtain ⟨t, ht⟩ : ∃ t, l[k] = t := ⟨_, rfl⟩
            rw [ht] at hta hst
            obtain ⟨nm, op, ⟨vt, vi, vs⟩, o, nt⟩ := t
            obtain ⟨e0, e1, e2, e3, e4, e5, e6⟩ := hta
            dsimp only at e0 e1 e2 e3 e4 e5 e6 hst
            have e0 := e0.out
            have e1 := e1.out
            have e2 := e2.out
            have e3 := e3.out
            have e4 := e4.out
            have e5 := e5.out
            have e6 := e6.out
            obtain ⟨gt, hgt⟩ : ∃ g, wr.heap.size = g := ⟨_, rfl⟩
            obtain ⟨w2, hw2⟩ : ∃ x : World, wr.alloc (.cells (tcs nm op vt vi vs o nt) 28) = x := ⟨_, rfl⟩
            have BT := Blk.new wr (tcs nm op vt vi vs o nt) 28 gt hgt.symm
            have l2 := Later.new wr (.cells (tcs nm op vt vi vs o nt) 28)
            rw [hw2] at BT l2
            have HL2 := Lib.hid l2
            have HF := Lib.hid (find_any A n c last cols nm w2 HN.out hl (HR.out.later ((HLW.out.trans lat).trans l2)))
            have HBT := Lib.hid BT
            have b0 := BT.cell 0 _ rfl
            have s0 := ((HB1.out.later lat).later l2).cell 0 _ rfl
            have s1 := ((HB1.out.later lat).later l2).cell 1 _ rfl
            have HBS2 := Lib.hid ((HB1.out.later lat).later l2)
            have HLL := Lib.hid ((HLW.out.trans lat).trans l2)
            have HLO := Lib.hid (lat.trans l2)
            have HCK := Lib.hid hck
            clear BT l2 ht lat hck
            cases hfc : findC cols nm with
            | none =>
              rw [hfc] at HF hst
              have HE := Lib.hid hst
              clear hst hfc
              go_wp2_with fail
              refine HF.out.mono ?_
              rintro e wF ⟨rfl, lF⟩
              have HLF := Lib.hid (HLL.out.trans lF)
              clear lF HF s0 s1 b0 e0 e1 e2 e3 e4 e5 e6 hw2
              simp only [Option.getD_none, Option.isSome_none]
              go_wp2_with (first
                | (go_at_call 49; refine (HO3.out _).mono ?_; rintro e wX ⟨rfl, rfl⟩)
                | (go_at_call 48; refine (at_e _ _ _ _).mono ?_; rintro e wX ⟨v, rfl, hv, lX⟩; have HV := Lib.hid hv; have HLX := Lib.hid (HLF.out.trans lX); clear hv lX))
              go_ret
              rw [HE.out]
              exact ⟨.inr ⟨_, rfl, HV.out⟩, HLX.out⟩
            | some q =>
              rw [hfc] at HF hst
              obtain ⟨hq, hq2⟩ := findC_lt hfc
              dsimp only at hst
              rw [show cols.getD q (0, ⟨#[]⟩, 0) = cols[q] by rw [List.getD_eq_getElem?_getD, List.getElem?_eq_getElem hq]; rfl] at hst
              have HHA := Lib.hid (HR.out.later HLL.out)
              obtain ⟨cb, coff, hCA, cc0, cc1, cc2⟩ := HHA.out.col3 q hq
              subst hCA
              have k2 : CellIs w2 ⟨cb, coff + q * 3 + 2, none⟩ (.int .i64 cols[q].2.2) := cc2
              obtain ⟨ty, hty⟩ : ∃ x, cols[q].2.2 = x := ⟨_, rfl⟩
              rw [hty] at k2 hst
              have hqi : (q : Int) < (n : Int) := by have := HN.out; omega
              have hqn : q < n := by have := HN.out; omega
              obtain ⟨mt, hmt⟩ : ∃ x, meetsT ty ⟨nm, op, (vt, vi, vs), o, nt⟩ = x := ⟨_, rfl⟩
              rw [hmt] at hst
              have HM := Lib.hid (fun w' => meets_any ty nm op vt vi vs o nt w')
              rw [hmt] at HM
              have HE := Lib.hid hst
              clear hst hfc hty hmt cc0 cc1 cc2 hq2 hq HHA
              go_wp2_with fail
              refine HF.out.mono ?_
              rintro e wF ⟨rfl, lF⟩
              have lf := (HLL.out.trans lF).drew
              have lo := (HLO.out.trans lF).drew
              have bt := (HBT.out.later lF).drew
              have bs := (HBS2.out.later lF).drew
              have k2 := (k2.later lF).drew
              clear lF HF s0 s1 b0 e0 e1 e2 e3 e4 e5 e6 hw2
              simp only [Option.getD_some, Option.isSome_some]
              go_wp2_with fail
              go_region_held3 (fun w' => w'.cell? ⟨gz, 0, none⟩ = some (.slice (some ⟨cb, coff, none⟩) n c) ∧ w'.cell? ⟨cb, coff + q * 3 + 2, none⟩ = some (.int .i64 ty) ∧ w'.cell? ⟨gt, 0, none⟩ = some (.string nm) ∧ w'.cell? ⟨gt, 1, none⟩ = some (.int .i64 op) ∧ w'.cell? ⟨gt, 2, none⟩ = some (.int .i64 vt) ∧ w'.cell? ⟨gt, 3, none⟩ = some (.int .i64 vi) ∧ w'.cell? ⟨gt, 4, none⟩ = some (.string vs) ∧ w'.cell? ⟨gt, 5, none⟩ = some (.bool o) ∧ w'.cell? ⟨gt, 6, none⟩ = some (.bool nt)) (exact ⟨bs.cell 0 _ rfl, k2.out, bt.cell 0 _ rfl, bt.cell 1 _ rfl, bt.cell 2 _ rfl, bt.cell 3 _ rfl, bt.cell 4 _ rfl, bt.cell 5 _ rfl, bt.cell 6 _ rfl⟩) (first | (go_at_call 52; refine (HM.out _).mono ?_; rintro e wX ⟨rfl, lX⟩; have lf := lf.trans lX; have lo := lo.trans lX; have bt := bt.later lX; have bs := bs.later lX; have k2 := k2.later lX; clear lX))
              clear k2 HM
              cases mt with
              | true =>
                go_wp2_with fail
                go_roundw
                all_goals first
                  | exact ⟨k + 1, hlt, by go_num, by rw [HE.out]; rfl, lo⟩
                  | (simp [intOf]; omega)
              | false =>
                go_wp2_with (first
                  | (go_at_call 49; refine (HO4.out _).mono ?_; rintro e wX ⟨rfl, rfl⟩)
                  | (go_at_call 48; refine (at_e _ _ _ _).mono ?_; rintro e wX ⟨v, rfl, hv, lX⟩; have HV := Lib.hid hv; have HLX := Lib.hid (lf.trans lX); clear hv lX))
                go_ret
                rw [HE.out]
                exact ⟨.inr ⟨_, rfl, HV.out⟩, HLX.out⟩
          · have HE := Lib.hid (show checkT cols l = 0 by
              have : k = l.length := by have := HTN.out; omega
              subst this
              rw [hck, List.drop_length]; rfl)
            clear hck
            go_wp2_with fail
            go_ret
            rw [HE.out]
            exact ⟨.inl ⟨rfl, rfl⟩, HLW.out.trans lat⟩

theorem predCheck2_any (A : Option Addr) (n c : Nat) (last : Int) (cols : List Col3) (T : Option Addr) (tn tc : Nat) (l : List Tst) (w : World) (hg : ErrT w) (hs : S3 w) (hn : n = cols.length) (hl : n ≤ 100000) (hr : Has w A (fc cols)) (htn : tn = l.length) (htl : tn ≤ 100000) (hT : Has w T (ft l)) :
    Calls Tryd.prog 11 #[.agg #[.slice A n c, .int .i64 last], .slice T tn tc] w fun e w' => e = .returned (.int .i64 (checkT cols l)) ∧ Later w w' := by
  have l1 := Later.new w (.cells #[.slice A n c, .int .i64 last] 33)
  have B := Blk.new w #[.slice A n c, .int .i64 last] 33 _ rfl
  have HC := Lib.hid (predCheck_any A n c last cols T tn tc l _ (hs.later l1) hn hl (hr.later l1) htn htl (hT.later l1))
  have HG := Lib.hid (hg.later l1)
  have HL := Lib.hid l1
  have b0 := B.cell 0 _ rfl
  have b1 := B.cell 1 _ rfl
  clear l1 B hg hs hn hr htn hT
  go_enter Tryd.func11, Tryd.ntmps11
  go_wp2_with fail
  refine HC.out.mono ?_
  rintro e w2 ⟨h, l2⟩
  have HL2 := Lib.hid (HL.out.trans l2)
  have HG2 := Lib.hid (HG.out.later l2)
  clear l2 b0 b1 HC
  rcases h with ⟨h0, rfl⟩ | ⟨v, rfl, hv⟩
  · have H0 := Lib.hid h0
    clear h0
    go_wp2_with (first | (go_at_call 27; refine (tell_nil _).mono ?_; rintro e wX ⟨rfl, rfl⟩))
    go_ret
    rw [H0.out]
    exact ⟨rfl, HL2.out⟩
  · have HT := Lib.hid (tell_some v _ w2 HG2.out hv)
    clear hv
    go_wp2_with fail
    refine HT.out.mono ?_
    rintro e w3 ⟨rfl, l3⟩
    have HL3 := Lib.hid (HL2.out.trans l3)
    clear l3
    go_wp2_with fail
    go_ret
    exact ⟨rfl, HL3.out⟩
end Go.Proofs.YtkdpjocglfephaaDoor

/- What agg's functions come to: mathematics. -/

namespace Go.Proofs.YtkdpjocglfephaaDoor
set_option linter.unusedVariables false

/-- The least, or the greatest, so far. -/
def lstep (sg : Int) (k : Nat) (a x : Val3) : Val3 := if k = 0 ∨ sg * cmp3 x a < 0 then x else a
def leastN (sg : Int) (l : List Val3) : Nat → Val3
  | 0 => (0, 0, ⟨#[]⟩)
  | k + 1 => lstep sg k (leastN sg l k) (l.getD k (0, 0, ⟨#[]⟩))
def leastV (sg : Int) (l : List Val3) : Val3 := leastN sg l l.length
theorem leastN_succ (sg : Int) (l : List Val3) (k : Nat) (h : k < l.length) : leastN sg l (k + 1) = lstep sg k (leastN sg l k) l[k] := by
  show lstep sg k (leastN sg l k) (l.getD k (0, 0, ⟨#[]⟩)) = _
  rw [List.getD_eq_getElem?_getD, List.getElem?_eq_getElem h]; rfl

end Go.Proofs.YtkdpjocglfephaaDoor









/- Walks of package value: May, Fits, width, rank; and the reference's. -/
namespace Go.Proofs.YtkdpjocglfephaaDoor.V1
open Go.Proofs.YtkdpjocglfephaaDoor
open Go.RowKit
set_option linter.unusedVariables false

/-- A call that says whether p, and leaves what was there. -/
def SaysP (p : Prop) (w : World) (e : Ending) (w' : World) : Prop := ∃ r : Bool, (r = true ↔ p) ∧ e = .returned (.bool r) ∧ Below w.heap.size w w'
theorem SaysP.yes {p : Prop} {w w' : World} (h : p) (hb : Below w.heap.size w w') : SaysP p w (.returned (.bool true)) w' := ⟨true, by simp [h], rfl, hb⟩
theorem SaysP.no {p : Prop} {w w' : World} (h : ¬ p) (hb : Below w.heap.size w w') : SaysP p w (.returned (.bool false)) w' := ⟨false, by simp [h], rfl, hb⟩

theorem rank_any (t i : Int) (s : ByteArray) (w : World) : Calls Tryd.prog 83 #[.agg #[.int .i64 t, .int .i64 i, .string s]] w fun e w' => e = .returned (.int .i64 (rankV t)) ∧ Below w.heap.size w w' := by
  have HE1 := Lib.hid (fun o : Obj => (Below.refl w.heap.size w).alloc (Nat.le_refl _) o)
  go_enter Tryd.func83, Tryd.ntmps83
  go_wp2_with fail
  all_goals go_ret
  all_goals simp only [beq_iff_eq, beq_eq_false_iff_ne, ne_eq] at *
  all_goals exact ⟨ret_int (by simp [rankV, *]), HE1.out _⟩
theorem class_any (t i : Int) (s : ByteArray) (w : World) : Calls Tryd.prog 46 #[.agg #[.int .i64 t, .int .i64 i, .string s]] w fun e w' => e = .returned (.int .i64 (rankV t)) ∧ Below w.heap.size w w' := by
  have HE1 := Lib.hid (fun o : Obj => (Below.refl w.heap.size w).alloc (Nat.le_refl _) o)
  go_enter Tryd.func46, Tryd.ntmps46
  go_wp2_with fail
  all_goals go_ret
  all_goals simp only [beq_iff_eq, beq_eq_false_iff_ne, ne_eq] at *
  all_goals exact ⟨ret_int (by simp [rankV, *]), HE1.out _⟩

set_option maxRecDepth 100000 in
theorem refMay_any (t i : Int) (s : ByteArray) (w : World) :
    Calls Tryd.prog 29 #[.agg #[.int .i64 t, .int .i64 i, .string s]] w (SaysP (MayV t i s.size) w) := by
  have HE1 := Lib.hid (fun o : Obj => (Below.refl w.heap.size w).alloc (Nat.le_refl _) o)
  by_cases hz : s.size = 0
  · have hse : s.toList.isEmpty = true := by
      rw [Lib.toList_data]; cases s with | mk d => simpa [ByteArray.size] using hz
    go_enter Tryd.func29, Tryd.ntmps29
    go_wp2_with fail
    all_goals go_ret
    all_goals simp only [ne_eq, beq_iff_eq, beq_eq_false_iff_ne] at *
    all_goals first
      | exact SaysP.yes (by unfold MayV; omega) (HE1.out _)
      | exact SaysP.no (by unfold MayV; omega) (HE1.out _)
      | exact ⟨_, by unfold MayV; simp; omega, rfl, HE1.out _⟩
  · have hse : s.toList.isEmpty = false := by
      rw [Lib.toList_data]; cases s with | mk d => simpa [ByteArray.size] using hz
    go_enter Tryd.func29, Tryd.ntmps29
    go_wp2_with fail
    all_goals go_ret
    all_goals simp only [ne_eq, beq_iff_eq, beq_eq_false_iff_ne] at *
    all_goals first
      | exact SaysP.yes (by unfold MayV; omega) (HE1.out _)
      | exact SaysP.no (by unfold MayV; omega) (HE1.out _)
      | exact ⟨_, by unfold MayV; simp; omega, rfl, HE1.out _⟩

end Go.Proofs.YtkdpjocglfephaaDoor.V1

/- The walk of value.Put. -/
namespace Go.Proofs.YtkdpjocglfephaaDoor.V1
open Go.Proofs.YtkdpjocglfephaaDoor
open Go.RowKit
set_option linter.unusedVariables false

end Go.Proofs.YtkdpjocglfephaaDoor.V1


/- value.Put whole; the reference's Put. -/
namespace Go.Proofs.YtkdpjocglfephaaDoor.V1
open Go.Proofs.YtkdpjocglfephaaDoor
open Go.RowKit
set_option linter.unusedVariables false

end Go.Proofs.YtkdpjocglfephaaDoor.V1

/- Which value bytes begin with: plain mathematics. -/
namespace Go.Proofs.YtkdpjocglfephaaDoor.V1
open Go.Proofs.YtkdpjocglfephaaDoor
open Go.RowKit
set_option linter.unusedVariables false

end Go.Proofs.YtkdpjocglfephaaDoor.V1

/- Walks of package value: readText, read. -/
namespace Go.Proofs.YtkdpjocglfephaaDoor.V1
open Go.Proofs.YtkdpjocglfephaaDoor
open Go.RowKit
set_option linter.unusedVariables false

theorem conv_str (A : Option Addr) (n c : Nat) (l : List Nat) (hn : n = l.length) (w : World) (B : Nat) (hr : Rd w B A (ints .u8 l)) :
    (convert 22 9 (.slice A n c)).run Tryd.prog w = .ok (.string (bstr l)) w :=
  run_bstr 22 5 9 Tryd.underlying22 Tryd.underlying5 Tryd.underlying9 A n c l hn w B hr
abbrev vagg (t i : Int) (s : ByteArray) : Value := .agg #[.int .i64 t, .int .i64 i, .string s]
end Go.Proofs.YtkdpjocglfephaaDoor.V1

/- The walk of value.read. -/
namespace Go.Proofs.YtkdpjocglfephaaDoor.V1
open Go.Proofs.YtkdpjocglfephaaDoor
open Go.RowKit
set_option linter.unusedVariables false

end Go.Proofs.YtkdpjocglfephaaDoor.V1

/- value.read at all bytes; value.Take. -/
namespace Go.Proofs.YtkdpjocglfephaaDoor.V1
open Go.Proofs.YtkdpjocglfephaaDoor
open Go.RowKit
set_option linter.unusedVariables false

end Go.Proofs.YtkdpjocglfephaaDoor.V1

/- The walk of value.Take. -/
namespace Go.Proofs.YtkdpjocglfephaaDoor.V1
open Go.Proofs.YtkdpjocglfephaaDoor
open Go.RowKit
set_option linter.unusedVariables false

theorem three_blk {w : World} {g : Nat} {cs : Array Value} {t : TypeId} (h : Blk w g cs t) (hs : cs.size = 3) (x y z : Value) : Blk (((w.setCell ⟨g, 0, none⟩ x).setCell ⟨g, 1, none⟩ y).setCell ⟨g, 2, none⟩ z) g #[x, y, z] t := by
  have := ((h.set_ 0 x).set_ 1 y).set_ 2 z
  have e : ((cs.setIfInBounds 0 x).setIfInBounds 1 y).setIfInBounds 2 z = #[x, y, z] := by
    match cs, hs with
    | ⟨[a, b, c]⟩, _ => rfl
  rwa [e] at this
end Go.Proofs.YtkdpjocglfephaaDoor.V1

namespace Go.Proofs.YtkdpjocglfephaaDoor.V1
open Go.Proofs.YtkdpjocglfephaaDoor
open Go.RowKit
set_option linter.unusedVariables false
end Go.Proofs.YtkdpjocglfephaaDoor.V1

/- The walk of the reference's Compare. -/




namespace Go.Proofs.YtkdpjocglfephaaDoor
open Go.RowKit
set_option linter.unusedVariables false

theorem class_l (t i : Int) (s : ByteArray) (w : World) : Calls Tryd.prog 46 #[vagg t i s] w fun e w' => e = .returned (.int .i64 (rankV t)) ∧ Later w w' := V1.class_any t i s w
set_option maxRecDepth 100000 in
set_option maxHeartbeats 2000000 in
theorem refCmp_any (t i : Int) (s : ByteArray) (t' i' : Int) (s' : ByteArray) (w : World) :
    Calls Tryd.prog 26 #[vagg t i s, vagg t' i' s'] w (TellsInt (cmpV t i s t' i' s') w) := by
  obtain ⟨w1, hw1⟩ : ∃ w1 : World, (w.alloc (.cells #[.int .i64 t, .int .i64 i, .string s] 26)).alloc (.cells #[.int .i64 t', .int .i64 i', .string s'] 26) = w1 := ⟨_, rfl⟩
  have L1 : Later w w1 := hw1 ▸ ((Later.refl w).alloc _).alloc _
  have A1 : Blk w1 w.heap.size #[.int .i64 t, .int .i64 i, .string s] 26 := hw1 ▸ (Blk.new w _ _ _ rfl).later (Later.new _ _)
  have B1 : Blk w1 (w.heap.size + 1) #[.int .i64 t', .int .i64 i', .string s'] 26 := hw1 ▸ Blk.new _ _ _ _ (by simp)
  have HW := Lib.hid hw1
  clear hw1
  have a0 := A1.cell 0 _ rfl
  have a1 := A1.cell 1 _ rfl
  have a2 := A1.cell 2 _ rfl
  have b0 := B1.cell 0 _ rfl
  have b1 := B1.cell 1 _ rfl
  have b2 := B1.cell 2 _ rfl
  go_enter Tryd.func26, Tryd.ntmps26
  go_wp2_with fail
  rw [HW.out]
  have A1 := A1.drew
  have B1 := B1.drew
  have L1 := L1.drew
  go_region_with (go_at_call 46; refine (class_l _ _ _ _).mono ?_; rintro e wX ⟨rfl, lX⟩; have A1 := A1.later lX; have B1 := B1.later lX; have L1 := L1.trans lX; have a0 := A1.cell 0 _ rfl; have a1 := A1.cell 1 _ rfl; have a2 := A1.cell 2 _ rfl; have b0 := B1.cell 0 _ rfl; have b1 := B1.cell 1 _ rfl; have b2 := B1.cell 2 _ rfl; clear lX)
  all_goals
    have hin := rankV_in t
    have hin' := rankV_in t'
    have HF := Lib.hid (show rankV t ≠ rankV t' → cmpV t i s t' i' s' = cmpI (rankV t) (rankV t') from cmpV_far)
    have HV := Lib.hid (show rankV t = rankV t' → cmpV t i s t' i' s' = if rankV t = 0 then 0 else if rankV t = 2 then cmpS s.data.toList s'.data.toList else cmpI i i' from cmpV_near)
    obtain ⟨x, hx⟩ : ∃ x, x = rankV t := ⟨_, rfl⟩
    obtain ⟨y, hy⟩ : ∃ y, y = rankV t' := ⟨_, rfl⟩
    rw [← hx] at hin HF HV ⊢
    rw [← hy] at hin' HF HV ⊢
    have hx3 : x = 0 ∨ x = 1 ∨ x = 2 := by omega
    have hy3 : y = 0 ∨ y = 1 ∨ y = 2 := by omega
    clear hx hy hin hin'
    rcases Int.lt_trichotomy x y with hlt | heq | hgt
    · have HZ := Lib.hid ((HF.out (by omega)).trans (cmpI_lt hlt))
      clear hx3 hy3
      go_wp2_with fail
      go_ret
      exact ⟨ret_int HZ.out.symm, L1⟩
    · subst heq
      rcases hx3 with rfl | rfl | rfl
      · have HZ := Lib.hid (show cmpV t i s t' i' s' = 0 from HV.out rfl)
        clear hy3
        go_wp2_with fail
        go_ret
        exact ⟨ret_int HZ.out.symm, L1⟩
      · have HZ := Lib.hid (show cmpV t i s t' i' s' = cmpI i i' from HV.out rfl)
        clear hy3
        rcases Int.lt_trichotomy i i' with hlt | heq | hgt
        · have HZ2 := Lib.hid (HZ.out.trans (cmpI_lt hlt))
          go_wp2_with fail
          go_ret
          exact ⟨ret_int HZ2.out.symm, L1⟩
        · have HZ2 := Lib.hid (HZ.out.trans (cmpI_eq heq))
          subst heq
          go_wp2_with fail
          go_ret
          exact ⟨ret_int HZ2.out.symm, L1⟩
        · have HZ2 := Lib.hid (HZ.out.trans (cmpI_gt hgt))
          have hnl : ¬ i < i' := by omega
          go_wp2_with fail
          go_ret
          exact ⟨ret_int HZ2.out.symm, L1⟩
      · have HZ := Lib.hid (show cmpV t i s t' i' s' = cmpS s.data.toList s'.data.toList from HV.out rfl)
        have hless : Op.bytesLess s.toList s'.toList = decide (cmpS s.data.toList s'.data.toList < 0) := by rw [Lib.toList_data, Lib.toList_data, less_iff]
        have heqs : (s.toList == s'.toList) = decide (cmpS s.data.toList s'.data.toList = 0) := by
          rw [Lib.toList_data, Lib.toList_data, Bool.eq_iff_iff]
          simp only [beq_iff_eq, decide_eq_true_eq]
          exact ⟨fun h => by rw [h]; exact cmpS_self _, cmpS_zero _ _⟩
        clear hy3
        rcases cmpS_in s.data.toList s'.data.toList with h | h | h
        · have HZ2 := Lib.hid (HZ.out.trans h)
          have hl : Op.bytesLess s.toList s'.toList = true := by rw [hless, h]; rfl
          clear hless heqs h
          go_wp2_with fail
          go_ret
          exact ⟨ret_int HZ2.out.symm, L1⟩
        · have HZ2 := Lib.hid (HZ.out.trans h)
          have hl : Op.bytesLess s.toList s'.toList = false := by rw [hless, h]; rfl
          have he : (s.toList == s'.toList) = true := by rw [heqs, h]; rfl
          clear hless heqs h
          go_wp2_with fail
          go_ret
          exact ⟨ret_int HZ2.out.symm, L1⟩
        · have HZ2 := Lib.hid (HZ.out.trans h)
          have hl : Op.bytesLess s.toList s'.toList = false := by rw [hless, h]; rfl
          have he : (s.toList == s'.toList) = false := by rw [heqs, h]; rfl
          clear hless heqs h
          go_wp2_with fail
          go_ret
          exact ⟨ret_int HZ2.out.symm, L1⟩
    · have HZ := Lib.hid ((HF.out (by omega)).trans (cmpI_gt hgt))
      have hnl : ¬ x < y := by omega
      have hne : (x == y) = false := by simp; omega
      clear hx3 hy3
      go_wp2_with fail
      go_ret
      exact ⟨ret_int HZ.out.symm, L1⟩
end Go.Proofs.YtkdpjocglfephaaDoor

/- A region that draws its order: a call that tells the same in every later world may be taken first (the world may move on behind every operation). -/


namespace Go.Proofs.YtkdpjocglfephaaDoor
open Go
set_option linter.unusedVariables false

section
variable {P : Program} {ops : Array Oper} {Q : Exit → Act → World → Prop} {md : Region.Mode} {S : World → Prop} {R : World → World → Prop}

/-- Whatever order is picked from here on, and wherever the world has moved on to behind every operation. -/
def wpAnyK (P : Program) (md : Region.Mode) (ops : Array Oper) (Q : Exit → Act → World → Prop) (S : World → Prop) (R : World → World → Prop) : Nat → Array Bool → Act → World → Prop
  | 0, listed, a, w => Region.ready md ops listed = [] ∧ Q .normal a w
  | fuel + 1, listed, a, w =>
    (Region.ready md ops listed = [] → Q .normal a w) ∧
    ∀ i ∈ Region.ready md ops listed, wpOp P ops Q i (fun a' w' => S w' ∧ ∀ w'', R w' w'' → wpAnyK P md ops Q S R fuel (listed.setIfInBounds i true) a' w'') a w

theorem wpAny_of_K (hr : ∀ w, R w w) : ∀ (fuel : Nat) (listed : Array Bool) (a : Act) (w : World), wpAnyK P md ops Q S R fuel listed a w → wpAny P md ops Q fuel listed a w
  | 0, _, _, _, h => h
  | fuel + 1, _, _, _, h => ⟨h.1, fun i hi => wpOp_mono (fun a' w' h' => wpAny_of_K hr fuel _ a' w' (h'.2 w' (hr w'))) (h.2 i hi)⟩

/-- In state 'a', in every world that meets S, operation 'o' calls a function that tells 'v' and leaves all as it was, but for new memory. -/
def YieldsC (P : Program) (ops : Array Oper) (S : World → Prop) (R : World → World → Prop) (o : Oper) (v : Value) (a : Act) : Prop :=
  Region.wanted o (yielded ops a.tmps) = true ∧ ∃ f args, ∀ w, S w → (execOp a.eval o).run P w = .ok (.enter f args) w ∧ Calls P f args w fun e w' => e = .returned v ∧ R w w'
/-- It yields quietly, or by such a call. -/
def YieldsE (P : Program) (ops : Array Oper) (S : World → Prop) (R : World → World → Prop) (o : Oper) (v : Value) (a : Act) : Prop := YieldsIf P ops S o v a ∨ YieldsC P ops S R o v a

theorem YieldsE.of_same {o : Oper} {v : Value} {a a' : Act} (hy : YieldsE P ops S R o v a) (he : execOp a'.eval o = execOp a.eval o)
    (hw : Region.wanted o (yielded ops a'.tmps) = Region.wanted o (yielded ops a.tmps)) : YieldsE P ops S R o v a' := by
  rcases hy with hy | hy
  · exact .inl (hy.of_same he hw)
  · refine .inr ?_
    unfold YieldsC at *
    rw [he, hw]
    exact hy
theorem YieldsE.wpOp (hr : ∀ w, R w w) {i : Nat} {o : Oper} {v : Value} {a : Act} (hi : ops[i]? = some o) (hy : YieldsE P ops S R o v a)
    {K : Act → World → Prop} {w : World} (hS : S w) (h : ∀ w', R w w' → K (a.put o.dst v) w') : Go.wpOp P ops Q i K a w := by
  rcases hy with hy | ⟨hw, f, args, hv⟩
  · exact hy.wpOp hi hS (h w (hr w))
  · unfold Go.wpOp
    obtain ⟨h1, h2⟩ := hv w hS
    simp only [hi, hw, if_true, Oper.wp, h1, Oper.upon]
    refine .inl (Calls.mono h2 fun e w'' he => ?_)
    obtain ⟨rfl, hR⟩ := he
    exact h w'' hR
theorem wpOp_putE {j : Nat} {oi oj : Oper} {v : Value} (hj : ops[j]? = some oj) (hap : oi.apart ops oj = true)
    (hsi : ∀ cs b, oi.op ≠ .select cs b) (hsj : ∀ cs b, oj.op ≠ .select cs b)
    (hQ : ∀ c a w, Q (.panic c) (a.put oi.dst v) w → Q (.panic c) a w) {K : Act → World → Prop} {a : Act} {w : World}
    (hy : YieldsE P ops S R oi v a) (h : wpOp P ops Q j K (a.put oi.dst v) w) :
    wpOp P ops Q j (fun a' w' => YieldsE P ops S R oi v a' ∧ K (a'.put oi.dst v) w') a w := by
  obtain ⟨h1, h2, h3⟩ := Oper.apart_spec hap
  have keep : ∀ (a : Act), YieldsE P ops S R oi v a → ∀ u, YieldsE P ops S R oi v (a.put oj.dst u) := fun a hy u =>
    hy.of_same (execOp_put oi hsi a oj.dst u h3) (wanted_put oi a oj.dst u h3)
  have keepD : ∀ d, YieldsE P ops S R oi v { a with defers := d :: a.defers } := fun d => hy.of_same rfl rfl
  unfold wpOp at *
  simp only [hj] at *
  rw [wanted_put oj a oi.dst v h1] at h
  split
  · rename_i hw
    simp only [hw, if_true] at h
    rcases h with h | ⟨hasks, hlets⟩
    case inr => exact .inr ⟨by unfold Oper.asks at *; rw [execOp_put oj hsj a oi.dst v h1] at hasks; exact hasks, hlets⟩
    refine .inl ?_
    unfold Oper.wp at *
    rw [execOp_put oj hsj a oi.dst v h1] at h
    generalize (execOp a.eval oj).run P w = r at *
    cases r with
    | ok n w' =>
      cases n <;> simp only [Oper.upon] at h ⊢
      case value u => exact ⟨keep a hy u, by rw [← Act.put_comm a v u h2]; exact h⟩
      case skip => exact ⟨keep a hy _, by rw [← Act.put_comm a v undef h2]; exact h⟩
      case defer d =>
        refine ⟨keep _ (keepD d) _, ?_⟩
        rw [← Act.put_comm _ v undef h2, ← Act.put_defers]
        exact h
      case enter f args =>
        refine Calls.mono h fun e w'' he => ?_
        cases e with
        | returned u => exact ⟨keep a hy u, by rw [← Act.put_comm a v u h2]; exact he⟩
        | panicked c => exact hQ _ _ _ he
        | outgrown => exact he
      case row row args => exact Rows.mono h fun u w'' he => ⟨keep a hy u, by rw [← Act.put_comm a v u h2]; exact he⟩
    | halt x w' =>
      cases x <;> simp only [Oper.upon] at h ⊢
      case panic u => exact hQ _ _ _ h
  · rename_i hw
    simp only [hw] at h
    exact ⟨keep a hy _, by rw [← Act.put_comm a v undef h2]; exact h⟩

theorem wpAnyK_first (hrf : ∀ w, R w w) (hrt : ∀ a b c, R a b → R b c → R a c) (hSR : ∀ w w', S w → R w w' → S w') {i : Nat} {oi : Oper} {v : Value} (hi : ops[i]? = some oi) (hsel : ∀ (j : Nat) (o : Oper) cs b, ops[j]? = some o → o.op ≠ .select cs b)
    (hQ : ∀ c a w, Q (.panic c) (a.put oi.dst v) w → Q (.panic c) a w) :
    ∀ (fuel : Nat) (listed : Array Bool) (a : Act) (w : World),
      (∀ j oj, ops[j]? = some oj → j ≠ i → listed.getD j true = false → (∀ e ∈ oj.after, Region.binds md e = true → e.on ≠ i) → oi.apart ops oj = true) →
      i ∈ Region.ready md ops listed → YieldsE P ops S R oi v a → S w →
      (∀ w', R w w' → wpAnyK P md ops Q S R fuel (listed.setIfInBounds i true) (a.put oi.dst v) w') → wpAnyK P md ops Q S R (fuel + 1) listed a w := by
  intro fuel
  induction fuel with
  | zero =>
    intro listed a w _ hr hy hS H
    refine ⟨fun h => (by rw [h] at hr; cases hr), fun j hj => ?_⟩
    by_cases hji : j = i
    · subst hji; exact hy.wpOp hrf hi hS fun w' hw' => ⟨hSR w w' hS hw', fun w'' h'' => H w'' (hrt _ _ _ hw' h'')⟩
    · have := ready_mono hj hji
      rw [(H w (hrf w)).1] at this
      cases this
  | succ fuel ih =>
    intro listed a w hfree hr hy hS H
    refine ⟨fun h => (by rw [h] at hr; cases hr), fun j hj => ?_⟩
    by_cases hji : j = i
    · subst hji; exact hy.wpOp hrf hi hS fun w' hw' => ⟨hSR w w' hS hw', fun w'' h'' => H w'' (hrt _ _ _ hw' h'')⟩
    · have h1 := (H w (hrf w)).2 j (ready_mono hj hji)
      obtain ⟨hjun, oj, hoj, hall⟩ := mem_ready.1 hj
      have hnot : ∀ e ∈ oj.after, Region.binds md e = true → e.on ≠ i := fun e he hb heq => by
        have h1 := hall e he hb
        have h0 := (mem_ready.1 hr).1
        rw [heq] at h1
        rcases Nat.lt_or_ge i listed.size with h' | h'
        · simp [h'] at h0 h1; rw [h0] at h1; cases h1
        · simp [Array.getElem?_eq_none h'] at h1
      have h2 := wpOp_putE hoj (hfree j oj hoj hji hjun hnot) (fun cs b => hsel i oi cs b hi) (fun cs b => hsel j oj cs b hoj) hQ hy h1
      have hfree' : ∀ k ok, ops[k]? = some ok → k ≠ i → (listed.setIfInBounds j true).getD k true = false →
          (∀ e ∈ ok.after, Region.binds md e = true → e.on ≠ i) → oi.apart ops ok = true := fun k ok hk hki hun hno => by
        refine hfree k ok hk hki ?_ hno
        by_cases hjk : j = k
        · subst hjk; exact hjun
        · rw [getD_set_ne true hjk] at hun; exact hun
      refine wpOp_mono (fun a' w' h3 => ⟨h3.2.1, fun w'' hR => ih (listed.setIfInBounds j true) a' w'' hfree' (ready_mono hr (Ne.symm hji)) h3.1 (hSR _ _ h3.2.1 hR) fun w3 hR3 => ?_⟩) h2
      rw [Array.setIfInBounds_comm _ _ hji]
      exact h3.2.2 w3 (hrt _ _ _ hR hR3)

/-- Take number 'i' first. -/
theorem wpAnyK_take (hrf : ∀ w, R w w) (hrt : ∀ a b c, R a b → R b c → R a c) (hSR : ∀ w w', S w → R w w' → S w') {i : Nat} {oi : Oper} {v : Value} {fuel : Nat} {listed : Array Bool} {a : Act} {w : World} (hi : ops[i]? = some oi)
    (hs : Region.noSelect ops = true) (hf : Region.free md ops listed i = true) (hr : (Region.ready md ops listed).contains i = true)
    (hQ : ∀ c a w, Q (.panic c) (a.put oi.dst v) w → Q (.panic c) a w) (hy : YieldsE P ops S R oi v a) (hS : S w)
    (h : ∀ w', R w w' → wpAnyK P md ops Q S R fuel (listed.setIfInBounds i true) (a.put oi.dst v) w') : wpAnyK P md ops Q S R (fuel + 1) listed a w :=
  wpAnyK_first hrf hrt hSR hi (Region.noSelect_spec hs) hQ fuel listed a w (Region.free_spec hi hf) (by simpa using hr) hy hS h
theorem wpAnyK_all {rs : List Nat} {fuel : Nat} {listed : Array Bool} {a : Act} {w : World} (hr : Region.ready md ops listed = rs) (hne : rs ≠ [])
    (h : ∀ i ∈ rs, wpOp P ops Q i (fun a' w' => S w' ∧ ∀ w'', R w' w'' → wpAnyK P md ops Q S R fuel (listed.setIfInBounds i true) a' w'') a w) : wpAnyK P md ops Q S R (fuel + 1) listed a w :=
  ⟨fun h0 => absurd (hr ▸ h0) hne, hr ▸ h⟩
theorem wpAnyK_done {listed : Array Bool} {a : Act} {w : World} (hr : Region.ready md ops listed = []) (h : Q .normal a w) :
    ∀ fuel, wpAnyK P md ops Q S R fuel listed a w
  | 0 => ⟨hr, h⟩
  | _ + 1 => ⟨fun _ => h, by rw [hr]; simp⟩
theorem wp_region_K (hrf : ∀ w, R w w) {id : Nat} {a : Act} {w : World} (hm : P.follows .mixedOrders = true)
    (h : wpAnyK P .any ops Q S R ops.size (Array.replicate ops.size false) a w.drew) : (Code.region id ops true).wp P Q a w :=
  wp_region_any hm (wpAny_of_K hrf _ _ _ _ h)
/-- One of those that may come up. -/
theorem stepK {fuel : Nat} {listed : Array Bool} {a : Act} {w : World} {i : Nat} {o : Oper} (ho : ops[i]? = some o)
    (h : ∀ K' : Act → World → Prop, (∀ a w, S w → (∀ w', R w w' → wpAnyK P md ops Q S R fuel (listed.setIfInBounds i true) a w') → K' a w) → if Region.wanted o (yielded ops a.tmps) = true then Oper.wp P o a w K' Q else K' (a.put o.dst undef) w) :
    wpOp P ops Q i (fun a' w' => S w' ∧ ∀ w'', R w' w'' → wpAnyK P md ops Q S R fuel (listed.setIfInBounds i true) a' w'') a w :=
  wpOp_step ho fun K' hK => h K' fun a w hS hW => hK a w ⟨hS, hW⟩
end
end Go.Proofs.YtkdpjocglfephaaDoor
