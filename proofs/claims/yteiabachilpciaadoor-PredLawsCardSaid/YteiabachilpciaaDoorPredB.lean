/- The walks of package pred: can, Can, meets, check, Check. -/
import Derived.Test.YteiabachilpciaaDoorPredA
import Derived.Test.YteiabachilpciaaDoorMay3
import Derived.Test.YteiabachilpciaaDoorAs
namespace Go.Proofs.YteiabachilpciaaDoor
open Go.RowKit
set_option linter.unusedVariables false

/-- Do values of a column of that type stand against what the test asks for? -/
def meetsT (ty : Int) (t : Tst) : Bool := decide (t.op = 7) || decide (t.op = 8) || decide (t.v.1 = 0) || (decide (t.v.1 = 4) == decide (ty = 4))
theorem beq_dec (a b : Int) : (a == b) = decide (a = b) := by
  by_cases h : a = b
  · subst h; simp
  · simp [h]
set_option maxRecDepth 100000 in
theorem meets_any (ty : Int) (nm : ByteArray) (op vt vi : Int) (vs : ByteArray) (o n : Bool) (w : World) :
    Calls Tryd.prog 43 #[.int .i64 ty, tagg nm op vt vi vs o n] w fun e w' => e = .returned (.bool (meetsT ty ⟨nm, op, (vt, vi, vs), o, n⟩)) ∧ Later w w' := by
  have L1 := Lib.hid (Later.new w (.cells (tcs nm op vt vi vs o n) 28))
  by_cases h7 : op = 7
  · subst h7
    go_enter Tryd.func43, Tryd.ntmps43
    go_wp2_with fail
    go_ret
    exact ⟨rfl, L1.out⟩
  · by_cases h8 : op = 8
    · subst h8
      clear h7
      go_enter Tryd.func43, Tryd.ntmps43
      go_wp2_with fail
      go_ret
      exact ⟨rfl, L1.out⟩
    · have e7 : (op == 7) = false := by simpa using h7
      have e8 : (op == 8) = false := by simpa using h8
      by_cases h0 : vt = 0
      · subst h0
        have HC := Lib.hid (show meetsT ty ⟨nm, op, (0, vi, vs), o, n⟩ = true by unfold meetsT; simp)
        clear h7 h8
        go_enter Tryd.func43, Tryd.ntmps43
        go_wp2_with fail
        go_ret
        rw [HC.out]
        exact ⟨rfl, L1.out⟩
      · have e0 : (vt == 0) = false := by simpa using h0
        have HC := Lib.hid (show meetsT ty ⟨nm, op, (vt, vi, vs), o, n⟩ = ((vt == 4) == (ty == 4)) by unfold meetsT; simp [h7, h8, h0, beq_dec])
        obtain ⟨p, hp⟩ : ∃ p, (vt == 4) = p := ⟨_, rfl⟩
        obtain ⟨q, hq⟩ : ∃ q, (ty == 4) = q := ⟨_, rfl⟩
        rw [hp, hq] at HC
        clear h7 h8 h0
        go_enter Tryd.func43, Tryd.ntmps43
        go_wp2_with fail
        all_goals go_ret
        all_goals rw [HC.out]
        all_goals first | exact ⟨rfl, L1.out⟩ | exact ⟨by simp_all, L1.out⟩

/-- A zone: how many are nothing, the least, the greatest. -/
structure Zn where
  n : Int
  a : Val3
  b : Val3
instance : Inhabited Zn := ⟨⟨0, none3, none3⟩⟩
def encZ (z : Zn) : List Value := [.int .i64 z.n, .int .i64 z.a.1, .int .i64 z.a.2.1, .string z.a.2.2, .int .i64 z.b.1, .int .i64 z.b.2.1, .string z.b.2.2]
def fz (l : List Zn) : List Value := l.flatMap encZ
theorem fz_length : ∀ l : List Zn, (fz l).length = l.length * 7
  | [] => rfl
  | x :: r => by
    have := fz_length r
    show (encZ x ++ fz r).length = _
    rw [List.length_append, this, List.length_cons]
    simp [encZ]; omega
theorem fz_get : ∀ (l : List Zn) (k : Nat) (h : k < l.length) (i : Nat) (hi : i < 7), (fz l)[k * 7 + i]? = (encZ l[k])[i]?
  | x :: r, 0, _, i, hi => by
    show (encZ x ++ fz r)[0 * 7 + i]? = _
    rw [Nat.zero_mul, Nat.zero_add, List.getElem?_append_left (by simpa [encZ] using hi)]; rfl
  | x :: r, k + 1, h, i, hi => by
    have ih := fz_get r k (by simpa using h) i hi
    show (encZ x ++ fz r)[(k + 1) * 7 + i]? = _
    rw [List.getElem?_append_right (by simp [encZ]; omega)]
    rw [show (k + 1) * 7 + i - (encZ x).length = k * 7 + i by simp [encZ]; omega]
    exact ih
def ZnAt (w : World) (b o : Nat) (z : Zn) : Prop :=
  CellIs w ⟨b, o, none⟩ (.int .i64 z.n) ∧ CellIs w ⟨b, o + 1, none⟩ (.int .i64 z.a.1) ∧ CellIs w ⟨b, o + 2, none⟩ (.int .i64 z.a.2.1) ∧ CellIs w ⟨b, o + 3, none⟩ (.string z.a.2.2) ∧ CellIs w ⟨b, o + 4, none⟩ (.int .i64 z.b.1) ∧ CellIs w ⟨b, o + 5, none⟩ (.int .i64 z.b.2.1) ∧ CellIs w ⟨b, o + 6, none⟩ (.string z.b.2.2)
theorem ZnAt.later {w w' : World} {b o : Nat} {t : Zn} (h : ZnAt w b o t) (k : Later w w') : ZnAt w' b o t :=
  ⟨h.1.later k, h.2.1.later k, h.2.2.1.later k, h.2.2.2.1.later k, h.2.2.2.2.1.later k, h.2.2.2.2.2.1.later k, h.2.2.2.2.2.2.later k⟩
theorem Has.zn {w : World} {A : Option Addr} {l : List Zn} (h : Has w A (fz l)) (k : Nat) (hk : k < l.length) : ∃ b off, A = some ⟨b, off, none⟩ ∧ ZnAt w b (off + k * 7) l[k] := by
  rcases h with h | ⟨b, off, hA, _, hc⟩
  · have h1 := fz_length l
    rw [h] at h1
    simp at h1
    omega
  · refine ⟨b, off, hA, ?_, ?_, ?_, ?_, ?_, ?_, ?_⟩
    · exact hc (k * 7 + 0) _ (fz_get l k hk 0 (by decide))
    · have := hc (k * 7 + 1) _ (fz_get l k hk 1 (by decide)); rw [← Nat.add_assoc] at this; exact this
    · have := hc (k * 7 + 2) _ (fz_get l k hk 2 (by decide)); rw [← Nat.add_assoc] at this; exact this
    · have := hc (k * 7 + 3) _ (fz_get l k hk 3 (by decide)); rw [← Nat.add_assoc] at this; exact this
    · have := hc (k * 7 + 4) _ (fz_get l k hk 4 (by decide)); rw [← Nat.add_assoc] at this; exact this
    · have := hc (k * 7 + 5) _ (fz_get l k hk 5 (by decide)); rw [← Nat.add_assoc] at this; exact this
    · have := hc (k * 7 + 6) _ (fz_get l k hk 6 (by decide)); rw [← Nat.add_assoc] at this; exact this
/-- May a row of these zones pass the test? -/
def canT (cols : List Col3) (n : Int) (zs : List Zn) (t : Tst) : Bool :=
  if t.not_ then true else match (findC cols t.nm).bind (fun k => zs[k]?) with | some z => canZ z.n z.a z.b n t.op t.v | none => true

set_option maxRecDepth 100000 in
set_option maxHeartbeats 2000000 in
theorem can_any (A : Option Addr) (n c : Nat) (last : Int) (cols : List Col3) (t : Tst) (m : Int) (R : Option Addr) (rn rc : Nat) (zs : List Zn) (w : World) (hn : n = cols.length) (hl : n ≤ 100000) (hr : Has w A (fc cols)) (hrn : rn = zs.length) (hrl : rn ≤ 100000) (hzs : Has w R (fz zs)) :
    Calls Tryd.prog 34 #[.agg #[.slice A n c, .int .i64 last], tagg t.nm t.op t.v.1 t.v.2.1 t.v.2.2 t.or_ t.not_, .int .i64 m, .slice R rn rc] w fun e w' => e = .returned (.bool (canT cols m zs t)) ∧ Later w w' := by
  obtain ⟨gz, hgz⟩ : ∃ g, w.heap.size = g := ⟨_, rfl⟩
  obtain ⟨nm, op, ⟨vt, vi, vs⟩, o, nt⟩ := t
  obtain ⟨w1, hw1⟩ : ∃ x : World, (w.alloc (.cells #[.slice A n c, .int .i64 last] 33)).alloc (.cells (tcs nm op vt vi vs o nt) 28) = x := ⟨_, rfl⟩
  have BS := (Blk.new w #[.slice A n c, .int .i64 last] 33 gz hgz.symm).later (Later.new _ (.cells (tcs nm op vt vi vs o nt) 28))
  have BT := Blk.new (w.alloc (.cells #[.slice A n c, .int .i64 last] 33)) (tcs nm op vt vi vs o nt) 28 (gz + 1) (by simp [hgz])
  have L1 := (Later.new w (.cells #[.slice A n c, .int .i64 last] 33)).alloc (.cells (tcs nm op vt vi vs o nt) 28)
  rw [hw1] at BS BT L1
  have HF := Lib.hid (find_any A n c last cols nm w1 hn hl (hr.later L1))
  have hone : canT cols m zs ⟨nm, op, (vt, vi, vs), o, nt⟩ = (if nt then true else match (findC cols nm).bind (fun k => zs[k]?) with | some z => canZ z.n z.a z.b m op (vt, vi, vs) | none => true) := rfl
  have HRN := Lib.hid hrn
  have HROW := Lib.hid (hzs.later L1)
  have HL1 := Lib.hid L1
  have HBT := Lib.hid BT
  have s0 := BS.cell 0 _ rfl
  have s1 := BS.cell 1 _ rfl
  have t0 := BT.cell 0 _ rfl
  clear L1 BS BT hr hn hzs hrn
  dsimp only
  cases nt with
  | true =>
    have HO := Lib.hid hone
    clear hone
    go_enter Tryd.func34, Tryd.ntmps34
    go_wp2_with fail
    refine HF.out.mono ?_
    rintro e w2 ⟨rfl, l2⟩
    have t6 := (HBT.out.later l2).cell 6 _ rfl
    have HL2 := Lib.hid (HL1.out.trans l2)
    clear l2 s0 s1 t0 hw1 HF
    go_wp2_with fail
    go_ret
    rw [HO.out]
    exact ⟨rfl, HL2.out⟩
  | false =>
    rw [if_neg (by decide)] at hone
    cases hfc : findC cols nm with
    | none =>
      rw [hfc] at HF hone
      have HO := Lib.hid hone
      clear hone hfc
      go_enter Tryd.func34, Tryd.ntmps34
      go_wp2_with fail
      refine HF.out.mono ?_
      rintro e w2 ⟨rfl, l2⟩
      have t6 := (HBT.out.later l2).cell 6 _ rfl
      have HL2 := Lib.hid (HL1.out.trans l2)
      clear l2 s0 s1 t0 hw1 HF
      go_wp2_with fail
      go_ret
      rw [HO.out]
      exact ⟨rfl, HL2.out⟩
    | some k =>
      rw [hfc] at HF hone
      by_cases hk : k < zs.length
      · have hrk : zs[k]? = some zs[k] := List.getElem?_eq_getElem hk
        simp only [Option.bind_some, hrk] at hone
        obtain ⟨b, off, rfl, hz⟩ := HROW.out.zn k hk
        have hkr : (k : Int) < (rn : Int) := by have := HRN.out; omega
        have hkr2 : k < rn := by have := HRN.out; omega
        have hkr3 : ¬ (rn : Int) ≤ (k : Int) := by omega
        have hkr4 : ¬ rn ≤ k := by omega
        have hd2 : decide (rn ≤ k) = false := by simpa using hkr4
        obtain ⟨z, hx⟩ : ∃ x, zs[k] = x := ⟨_, rfl⟩
        rw [hx] at hz hone
        obtain ⟨zn, ⟨a1, a2, a3⟩, ⟨b1, b2, b3⟩⟩ := z
        have HZ := Lib.hid hz
        have HO := Lib.hid hone
        clear hone hfc hx hrk hk hz
        go_enter Tryd.func34, Tryd.ntmps34
        go_wp2_with fail
        refine HF.out.mono ?_
        rintro e w2 ⟨rfl, l2⟩
        have t6 := (HBT.out.later l2).cell 6 _ rfl
        have bt := (HBT.out.later l2).drew
        have hz := HZ.out.later l2
        obtain ⟨k0, k1, k2, k3, k4, k5, k6⟩ := hz
        dsimp only at k0 k1 k2 k3 k4 k5 k6
        have k0 := k0.drew
        have k1 := k1.drew
        have k2 := k2.drew
        have k3 := k3.drew
        have k4 := k4.drew
        have k5 := k5.drew
        have k6 := k6.drew
        have lz := (HL1.out.trans l2).drew
        clear l2 s0 s1 t0 hw1 HF
        simp only [Option.getD_some, Option.isSome_some]
        go_wp2_with fail
        clear t6
        go_region_held3 (fun w' => w'.cell? ⟨gz + 1, 1, none⟩ = some (.int .i64 op) ∧ w'.cell? ⟨gz + 1, 2, none⟩ = some (.int .i64 vt) ∧ w'.cell? ⟨gz + 1, 3, none⟩ = some (.int .i64 vi) ∧ w'.cell? ⟨gz + 1, 4, none⟩ = some (.string vs) ∧ w'.cell? ⟨b, off + k * 7, none⟩ = some (.int .i64 zn) ∧ w'.cell? ⟨b, off + k * 7 + 1, none⟩ = some (.int .i64 a1) ∧ w'.cell? ⟨b, off + k * 7 + 2, none⟩ = some (.int .i64 a2) ∧ w'.cell? ⟨b, off + k * 7 + 3, none⟩ = some (.string a3) ∧ w'.cell? ⟨b, off + k * 7 + 4, none⟩ = some (.int .i64 b1) ∧ w'.cell? ⟨b, off + k * 7 + 5, none⟩ = some (.int .i64 b2) ∧ w'.cell? ⟨b, off + k * 7 + 6, none⟩ = some (.string b3)) (exact ⟨bt.cell 1 _ rfl, bt.cell 2 _ rfl, bt.cell 3 _ rfl, bt.cell 4 _ rfl, k0.out, k1.out, k2.out, k3.out, k4.out, k5.out, k6.out⟩) (first | (go_at_call 46; refine (zoneCan_c _ _ _ _ _ _ _ _ _ _ _ _ _).mono ?_; rintro e wX ⟨rfl, lX⟩; have lz := lz.trans lX; have bt := bt.later lX; have k0 := k0.later lX; have k1 := k1.later lX; have k2 := k2.later lX; have k3 := k3.later lX; have k4 := k4.later lX; have k5 := k5.later lX; have k6 := k6.later lX; clear lX))
        clear k0 k1 k2 k3 k4 k5 k6
        go_wp2_with fail
        go_ret
        rw [HO.out]
        exact ⟨rfl, lz⟩
      · have hrk : zs[k]? = none := List.getElem?_eq_none (by omega)
        simp only [Option.bind_some, hrk] at hone
        have hkr : (rn : Int) ≤ (k : Int) := by have := HRN.out; omega
        have hkr2 : rn ≤ k := by have := HRN.out; omega
        have hd2 : decide (rn ≤ k) = true := by simpa using hkr2
        have HO := Lib.hid hone
        clear hone hfc hrk hk
        go_enter Tryd.func34, Tryd.ntmps34
        go_wp2_with fail
        refine HF.out.mono ?_
        rintro e w2 ⟨rfl, l2⟩
        have t6 := (HBT.out.later l2).cell 6 _ rfl
        have HL2 := Lib.hid (HL1.out.trans l2)
        clear l2 s0 s1 t0 hw1 HF
        simp only [Option.getD_some, Option.isSome_some]
        go_wp2_with fail
        go_ret
        rw [HO.out]
        exact ⟨rfl, HL2.out⟩

def canGo (f : Tst → Bool) : Bool → Bool → List Tst → Bool
  | _, g, [] => g
  | b, g, t :: r => if !b && t.or_ then (if g then true else canGo f false (f t) r) else canGo f false (g && f t) r
/-- pred.Can. -/
def predCan (cols : List Col3) (n : Int) (zs : List Zn) (l : List Tst) : Bool := canGo (canT cols n zs) true true l

/-- Where pred.Can's loop stands. -/
def CnI (f : Tst → Bool) (l : List Tst) (res : Bool) (w : World) (gv iv : Value) (wr : World) : Prop :=
  ∃ (k : Nat) (g : Bool), gv = .bool g ∧ iv = .int .i64 k ∧ k ≤ l.length ∧ canGo f (decide (k = 0)) g (l.drop k) = res ∧ Later w wr
theorem CnI.mk {f : Tst → Bool} {l : List Tst} {res : Bool} {w wr : World} (i : Int) (k : Nat) (g : Bool) (hi : i = (k : Int)) (hk : k ≤ l.length) (h : canGo f (decide (k = 0)) g (l.drop k) = res) (L : Later w wr) : CnI f l res w (.bool g) (.int .i64 i) wr := by
  subst hi; exact ⟨k, g, rfl, rfl, hk, h, L⟩
theorem canGo_step {f : Tst → Bool} {l : List Tst} {k : Nat} (hk : k < l.length) {g res : Bool} (h : canGo f (decide (k = 0)) g (l.drop k) = res) :
    (if decide (0 < k) && l[k].or_ then (if g then true else canGo f (decide (k + 1 = 0)) (f l[k]) (l.drop (k + 1))) else canGo f (decide (k + 1 = 0)) (g && f l[k]) (l.drop (k + 1))) = res := by
  rw [List.drop_eq_getElem_cons hk] at h
  unfold canGo at h
  have e1 : (!decide (k = 0)) = decide (0 < k) := by
    rcases Nat.eq_zero_or_pos k with h | h
    · subst h; rfl
    · simp [h]; omega
  have e2 : decide (k + 1 = 0) = false := by simp
  rw [e1] at h
  rw [e2]
  exact h

set_option maxRecDepth 100000 in
set_option maxHeartbeats 2000000 in
theorem predCan_any (A : Option Addr) (n c : Nat) (last : Int) (cols : List Col3) (T : Option Addr) (tn tc : Nat) (l : List Tst) (m : Int) (R : Option Addr) (rn rc : Nat) (zs : List Zn) (w : World) (hn : n = cols.length) (hl : n ≤ 100000) (hr : Has w A (fc cols)) (htn : tn = l.length) (htl : tn ≤ 100000) (hT : Has w T (ft l)) (hrn : rn = zs.length) (hrl : rn ≤ 100000) (hrow : Has w R (fz zs)) :
    Calls Tryd.prog 18 #[.agg #[.slice A n c, .int .i64 last], .slice T tn tc, .int .i64 m, .slice R rn rc] w fun e w' => e = .returned (.bool (predCan cols m zs l)) ∧ Later w w' := by
  obtain ⟨gz, hgz⟩ : ∃ g, w.heap.size = g := ⟨_, rfl⟩
  obtain ⟨w1, hw1⟩ : ∃ x : World, w.alloc (.cells #[.slice A n c, .int .i64 last] 33) = x := ⟨_, rfl⟩
  have BS := Blk.new w #[.slice A n c, .int .i64 last] 33 gz hgz.symm
  have L1 := Later.new w (.cells #[.slice A n c, .int .i64 last] 33)
  rw [hw1] at BS L1
  obtain ⟨res, hres⟩ : ∃ r, predCan cols m zs l = r := ⟨_, rfl⟩
  have HI0 := Lib.hid (CnI.mk (f := canT cols m zs) (l := l) (res := res) (w := w) 0 0 true rfl (Nat.zero_le _) hres L1)
  rw [hres]
  have HTN := Lib.hid htn
  have HRN := Lib.hid hrn
  have HN := Lib.hid hn
  have HBS := Lib.hid BS
  have HL1 := Lib.hid L1
  have HR := Lib.hid hr
  have HT := Lib.hid hT
  have HROW := Lib.hid hrow
  clear BS htn hrn hn hr hT hrow hres
  go_enter Tryd.func18, Tryd.ntmps18
  go_wp2_with fail
  clear hw1 hgz
  go_loopw [9, 14] (fun gv iv wr => CnI (canT cols m zs) l res w gv iv wr ∧ Later w1 wr) (fun _ i _ => tn - (intOf i).toNat)
  case atStart => exact ⟨HI0.out, Later.refl _⟩
  case round =>
    obtain ⟨⟨k, g, rfl, rfl, hk, hst, lat⟩, lat1⟩ := hrel
    have HLAT := Lib.hid lat
    have HLAT1 := Lib.hid lat1
    by_cases hlt : k < tn
    · have hkl : k < l.length := by have := HTN.out; omega
      have HST := Lib.hid (canGo_step hkl hst)
      obtain ⟨tb, toff, hTA, hta⟩ := (HT.out.later lat).tst k hkl
      subst hTA
      have HB := Lib.hid (fun w' (h : Has w' (some ⟨tb, toff, none⟩) (ft l)) => begins_any (some ⟨tb, toff, none⟩) tn tc k l w' HTN.out htl hlt h)
      rw [show l.getD k default = l[k] by rw [List.getD_eq_getElem?_getD, List.getElem?_eq_getElem hkl]; rfl] at HB
      have HONE := Lib.hid (fun w' (h1 : Has w' A (fc cols)) (h2 : Has w' R (fz zs)) => can_any A n c last cols l[k] m R rn rc zs w' HN.out hl h1 HRN.out hrl h2)
      obtain ⟨t, ht⟩ : ∃ t, l[k] = t := ⟨_, rfl⟩
      rw [ht] at hta HST HB HONE
      obtain ⟨nm, op, ⟨vt, vi, vs⟩, o, nt⟩ := t
      obtain ⟨q, hq⟩ : ∃ q, canT cols m zs ⟨nm, op, (vt, vi, vs), o, nt⟩ = q := ⟨_, rfl⟩
      rw [hq] at HONE HST
      dsimp only at HB HONE HST
      obtain ⟨e0, e1, e2, e3, e4, e5, e6⟩ := hta
      dsimp only at e0 e1 e2 e3 e4 e5 e6
      have e0 := e0.out
      have e1 := e1.out
      have e2 := e2.out
      have e3 := e3.out
      have e4 := e4.out
      have e5 := e5.out
      have e6 := e6.out
      obtain ⟨gt, hgt⟩ : ∃ g, wr.heap.size = g := ⟨_, rfl⟩
      obtain ⟨w2, hw2⟩ : ∃ x : World, wr.alloc (.cells (tcs nm op vt vi vs o nt) 28) = x := ⟨_, rfl⟩
      have BT := Blk.new wr (tcs nm op vt vi vs o nt) 28 gt hgt.symm
      have l2 := Later.new wr (.cells (tcs nm op vt vi vs o nt) 28)
      rw [hw2] at BT l2
      have HL2 := Lib.hid l2
      have HBT := Lib.hid BT
      have HBB := Lib.hid (HB.out w2 (HT.out.later (lat.trans l2)))
      have HOO := Lib.hid (HONE.out w2 (HR.out.later (lat.trans l2)) (HROW.out.later (lat.trans l2)))
      clear BT l2 HB HONE hq ht hst lat lat1
      go_wp2_with fail
      clear hw2
      refine HBB.out.mono ?_
      rintro e wX ⟨rfl, rfl⟩
      have s0 := ((HBS.out.later HLAT1.out).later HL2.out).cell 0 _ rfl
      have s1 := ((HBS.out.later HLAT1.out).later HL2.out).cell 1 _ rfl
      have b0 := HBT.out.cell 0 _ rfl
      have b1 := HBT.out.cell 1 _ rfl
      have b2 := HBT.out.cell 2 _ rfl
      have b3 := HBT.out.cell 3 _ rfl
      have b4 := HBT.out.cell 4 _ rfl
      have b5 := HBT.out.cell 5 _ rfl
      have b6 := HBT.out.cell 6 _ rfl
      clear HBB e0 e1 e2 e3 e4 e5 e6
      obtain ⟨bb, hbb⟩ : ∃ b, (decide (0 < k) && o) = b := ⟨_, rfl⟩
      rw [hbb] at HST ⊢
      clear hbb
      cases bb with
      | true =>
        cases g with
        | true =>
          have HE := Lib.hid (show true = res by have := HST.out; simpa using this)
          go_wp2_with fail
          go_ret
          rw [← HE.out]
          exact ⟨rfl, HLAT.out.trans HL2.out⟩
        | false =>
          go_wp2_with (go_at_call 34; refine HOO.out.mono ?_; rintro e wY ⟨rfl, lY⟩; have HLY := Lib.hid ((HLAT.out.trans HL2.out).trans lY); have HLY1 := Lib.hid ((HLAT1.out.trans HL2.out).trans lY); clear lY s0 s1 b0 b1 b2 b3 b4 b5 b6)
          all_goals go_wp2_with fail
          all_goals go_roundw
          all_goals first
            | exact ⟨CnI.mk _ (k + 1) _ (by omega) hkl (by have := HST.out; simpa using this) HLY.out, HLY1.out⟩
            | (simp [intOf]; omega)
      | false =>
        cases g with
        | true =>
          go_wp2_with (go_at_call 34; refine HOO.out.mono ?_; rintro e wY ⟨rfl, lY⟩; have HLY := Lib.hid ((HLAT.out.trans HL2.out).trans lY); have HLY1 := Lib.hid ((HLAT1.out.trans HL2.out).trans lY); clear lY s0 s1 b0 b1 b2 b3 b4 b5 b6)
          all_goals go_wp2_with fail
          all_goals go_roundw
          all_goals first
            | exact ⟨CnI.mk _ (k + 1) _ (by omega) hkl (by have := HST.out; simpa using this) HLY.out, HLY1.out⟩
            | (simp [intOf]; omega)
        | false =>
          go_wp2_with fail
          go_roundw
          all_goals first
            | exact ⟨CnI.mk _ (k + 1) _ (by omega) hkl (by have := HST.out; simpa using this) (HLAT.out.trans HL2.out), HLAT1.out.trans HL2.out⟩
            | (simp [intOf]; omega)
    · have HE := Lib.hid (show g = res by
        have : k = l.length := by have := HTN.out; omega
        subst this
        rw [List.drop_length] at hst
        simpa [canGo] using hst)
      clear hst
      go_wp2_with fail
      go_ret
      rw [← HE.out]
      exact ⟨rfl, lat⟩
end Go.Proofs.YteiabachilpciaaDoor
