/- batch.Meet, Join, Rest; the document's; sel; SameInts. -/
import Derived.Test.YtlfmmhbaphnifaaRRRRGreatDoorRis
namespace Go.Proofs.YtlfmmhbaphnifaaRRRRGreatDoor
open Go.RowKit
set_option linter.unusedVariables false

/-- Of the first k those of which p holds. -/
def flt (p : Int → Bool) (r : List Int) (k : Nat) : List Int := (r.take k).filter p
theorem flt_len (p : Int → Bool) (r : List Int) (k : Nat) : (flt p r k).length ≤ k := Nat.le_trans (List.length_filter_le _ _) (by rw [List.length_take]; omega)
theorem flt_yes {p : Int → Bool} {r : List Int} {k : Nat} (hk : k < r.length) (h : p r[k] = true) : flt p r (k + 1) = flt p r k ++ [r[k]] := by
  unfold flt
  rw [List.take_succ_eq_append_getElem hk, List.filter_append, List.filter_cons_of_pos h]; rfl
theorem flt_no {p : Int → Bool} {r : List Int} {k : Nat} (hk : k < r.length) (h : p r[k] = false) : flt p r (k + 1) = flt p r k := by
  unfold flt
  rw [List.take_succ_eq_append_getElem hk, List.filter_append, List.filter_cons_of_neg (by simp [h])]; simp
/-- Where a loop stands that keeps some of a list. -/
def FltI (p : Int → Bool) (r : List Int) (w : World) (pv iv : Value) (wr : World) : Prop :=
  ∃ (k : Nat) (A : Option Addr) (n c : Nat), pv = .slice A n c ∧ iv = .int .i64 k ∧ k ≤ r.length ∧ n = (flt p r k).length ∧ wr.ownsRow w.heap.size 3 1 (.slice A n c) n (zin (flt p r k)) ∧ (A = none → c = 0) ∧ Later w wr
theorem FltI.zero (p : Int → Bool) (r : List Int) {w wr : World} (l : Later w wr) : FltI p r w (.slice none 0 0) (.int .i64 0) wr := ⟨0, none, 0, 0, rfl, rfl, Nat.zero_le _, rfl, ownG_nil _ _ _ _, fun _ => rfl, l⟩
theorem FltI.no {p : Int → Bool} {r : List Int} {w wr : World} (y : Int) (k : Nat) (A : Option Addr) (n c : Nat) (x : Int) (hy : y = (k : Int) + 1) (hk : k < r.length) (hx : r[k] = x) (hp : p x = false) (hn : n = (flt p r k).length) (ho : wr.ownsRow w.heap.size 3 1 (.slice A n c) n (zin (flt p r k))) (hA : A = none → c = 0) (l : Later w wr) : FltI p r w (.slice A n c) (.int .i64 y) wr := by
  subst hx
  refine ⟨k + 1, A, n, c, rfl, by rw [hy]; rfl, hk, ?_, ?_, hA, l⟩
  · rw [flt_no hk hp]; exact hn
  · rw [flt_no hk hp]; exact ho
theorem FltI.yes {p : Int → Bool} {r : List Int} {w wr : World} (y : Int) (k : Nat) (A : Option Addr) (n m c : Nat) (x : Int) (hm : m = n + 1) (hy : y = (k : Int) + 1) (hk : k < r.length) (hx : r[k] = x) (hp : p x = true) (hn : n = (flt p r k).length) (ho : wr.ownsRow w.heap.size 3 1 (.slice A m c) m (zin (flt p r k) ++ zin [x])) (hA : A = none → c = 0) (l : Later w wr) : FltI p r w (.slice A m c) (.int .i64 y) wr := by
  subst hx hm
  refine ⟨k + 1, A, _, c, rfl, by rw [hy]; rfl, hk, ?_, ?_, hA, l⟩
  · rw [flt_yes hk hp, List.length_append, ← hn]; rfl
  · rw [flt_yes hk hp, zin_append]; exact ho
theorem FltI.all {p : Int → Bool} {r : List Int} {w wr : World} {A : Option Addr} {n c k : Nat} (hk : k = r.length) (hn : n = (flt p r k).length) (ho : wr.ownsRow w.heap.size 3 1 (.slice A n c) n (zin (flt p r k))) (hA : A = none → c = 0) (l : Later w wr) : IntsP (r.filter p) w (.returned (.slice A n c)) wr := by
  subst hk
  unfold flt at hn ho
  rw [List.take_length] at hn ho
  exact IntsP.mk hn ho hA l
theorem IntsP.from {l : List Int} {w0 w w' : World} {e : Ending} (h : IntsP l w e w') (L : Later w0 w) : IntsP l w0 e w' := by
  obtain ⟨A, c, rfl, h1, h2, h3, h4, h5⟩ := h
  exact ⟨A, c, rfl, h1, h2, h3, h4, L.trans h5⟩

theorem grownZ (w : World) (n : Nat) (hn : 1 ≤ n) (hn2 : n ≤ 100000) : ∃ c w', (Builtin.append_ #[24, 3] 24 #[.slice none 0 0, .int .i64 (n : Int)]).run Tryz.prog w = .ok (.slice (some ⟨w.heap.size, 0, none⟩) n c) w' ∧ n ≤ c ∧ c ≤ maxLen ∧ Later w w' ∧ w'.ownsRow w.heap.size 3 1 (.slice (some ⟨w.heap.size, 0, none⟩) 0 c) 0 [] := by
  obtain ⟨i, hi, hz, hsz, hby⟩ := info_parts info_z
  have hr := Lib.run_append_nil_zeros (P := Tryz.prog) w 24 3 24 3 i (.int .i64 0) .i64 .i64 Tryz.underlying24 Tryz.underlying3 hi hz n (by omega) (by omega) (by omega) (by rw [hby]; omega)
  have hge := grownCap_ge w n 0 3
  have hcm : grownCap w n 0 3 ≤ maxLen := grownCap_le_maxLen w n 0 3 (by unfold maxLen; omega)
  refine ⟨_, _, hr, hge, hcm, (Later.refl w).drew.alloc _, by simp, .inr ⟨w.heap.size, _, _, rfl, Nat.le_refl _, heap_alloc_new w.drew _, Nat.zero_le _, hcm, ?_, by simp⟩⟩
  simp only [Array.size_append, size_zeroCells, Value.cells]
  simp
  omega
/-- Room for ints, none in it yet. -/
def RoomZ (w : World) (e : Ending) (w' : World) : Prop := ∃ A c, e = .returned (.slice A 0 c) ∧ w'.ownsRow w.heap.size 3 1 (.slice A 0 c) 0 (zin []) ∧ (A = none → c = 0) ∧ Later w w'
set_option maxRecDepth 100000 in
set_option maxHeartbeats 1000000 in
theorem growZ_any (n : Nat) (w : World) (hn2 : n ≤ 100000) :
    Calls Tryz.prog 61 #[.slice none 0 0, .int .i64 n] w (RoomZ w) := by
  by_cases hn : 1 ≤ n
  · obtain ⟨c, w', hrun, h1, h2, hl, ho⟩ := grownZ w n hn hn2
    have HR := Lib.hid hrun
    have HL := Lib.hid hl
    have HO := Lib.hid ho
    have d1 : decide ((n : Int) < 0) = false := by simp
    have d2 : decide ((0 : Int) < (n : Int)) = true := by simp; omega
    have hc0 : (0 : Int) ≤ (c : Int) := by omega
    clear hrun hl ho
    go_enter Tryz.func61, Tryz.ntmps61
    go_wp2_with (at_builtin; refine Lib.wpList_append_run _ rfl (.tmp 20) (.tmp 21) 24 3 rfl _ _ rfl rfl _ _ HR.out ?_)
    go_ret
    exact ⟨_, c, rfl, HO.out, (fun h => by cases h), HL.out⟩
  · obtain rfl : n = 0 := by omega
    go_enter Tryz.func61, Tryz.ntmps61
    go_wp2_with fail
    go_ret
    exact ⟨none, 0, rfl, ownG_nil _ _ _ _, (fun _ => rfl), Later.refl _⟩

def catZ (l1 l2 : List Int) : Nat → List Int
  | 0 => []
  | 1 => l1
  | _ => l1 ++ l2
def CzA (n1 n2 : Nat) (w : World) (sv iv : Value) (wr : World) : Prop :=
  ∃ j : Nat, j ≤ 2 ∧ iv = .int .i64 j ∧ sv = .int .i64 ((if j = 0 then 0 else if j = 1 then n1 else n1 + n2 : Nat) : Int) ∧ wr = w
theorem CzA.mk {n1 n2 : Nat} {w wr : World} (s a : Int) (j : Nat) (hj : j ≤ 2) (ha : a = (j : Int)) (hs : s = ((if j = 0 then 0 else if j = 1 then n1 else n1 + n2 : Nat) : Int)) (hw : wr = w) : CzA n1 n2 w (.int .i64 s) (.int .i64 a) wr := by
  subst ha hs; exact ⟨j, hj, rfl, rfl, hw⟩
def CzB (l1 l2 : List Int) (base : Nat) (w : World) (sv iv : Value) (wr : World) : Prop :=
  ∃ (j : Nat) (A : Option Addr) (m c : Nat), j ≤ 2 ∧ iv = .int .i64 j ∧ sv = .slice A m c ∧ m = (catZ l1 l2 j).length ∧ wr.ownsRow base 3 1 (.slice A m c) m (zin (catZ l1 l2 j)) ∧ (A = none → c = 0) ∧ Later w wr
theorem CzB.mk {l1 l2 : List Int} {base : Nat} {w wr : World} {A : Option Addr} {m c : Nat} (a : Int) (j : Nat) (hj : j ≤ 2) (ha : a = (j : Int)) (hm : m = (catZ l1 l2 j).length) (ho : wr.ownsRow base 3 1 (.slice A m c) m (zin (catZ l1 l2 j))) (hA : A = none → c = 0) (hl : Later w wr) : CzB l1 l2 base w (.slice A m c) (.int .i64 a) wr := by
  subst ha; exact ⟨j, A, m, c, hj, rfl, rfl, hm, ho, hA, hl⟩

set_option maxRecDepth 100000 in
set_option maxHeartbeats 4000000 in
theorem concatZ_any (gl cl : Nat) (A1 A2 : Option Addr) (n1 n2 c1 c2 : Nat) (l1 l2 : List Int) (w : World) (h1 : n1 = l1.length) (h2 : n2 = l2.length) (hn2 : n1 + n2 ≤ 10000) (hcl : 2 ≤ cl)
    (k0 : w.cell? ⟨gl, 0, none⟩ = some (.slice A1 n1 c1)) (k1 : w.cell? ⟨gl, 1, none⟩ = some (.slice A2 n2 c2)) (r1 : Has w A1 (zin l1)) (r2 : Has w A2 (zin l2)) (z1 : A1 = none → c1 = 0) (z2 : A2 = none → c2 = 0) :
    Calls Tryz.prog 44 #[.slice (some ⟨gl, 0, none⟩) 2 cl] w (IntsP (l1 ++ l2) w) := by
  have HNB := Lib.hid hn2
  have HG := Lib.hid (growZ_any (n1 + n2) w (by omega))
  have H1 := Lib.hid h1
  have H2 := Lib.hid h2
  have HR1 := Lib.hid r1
  have HR2 := Lib.hid r2
  have HZ1 := Lib.hid z1
  have HZ2 := Lib.hid z2
  have HK0 := Lib.hid (show CellIs w ⟨gl, 0, none⟩ (.slice A1 n1 c1) from k0)
  have HK1 := Lib.hid (show CellIs w ⟨gl, 1, none⟩ (.slice A2 n2 c2) from k1)
  have hb1 : n1 ≤ 10000 := by omega
  have hb2 : n2 ≤ 10000 := by omega
  clear h1 h2 r1 r2 z1 z2
  go_enter Tryz.func44, Tryz.ntmps44
  go_wp2_with fail
  go_loopw [3, 11] (fun sv iv wr => CzA n1 n2 w sv iv wr) (fun _ iv _ => 2 - (intOf iv).toNat)
  case atStart => exact CzA.mk 0 0 0 (by decide) rfl rfl rfl
  case round =>
    obtain ⟨j, hj, rfl, rfl, hww⟩ := hrel
    have hww := hww.symm
    subst hww
    obtain rfl | rfl | rfl : j = 0 ∨ j = 1 ∨ j = 2 := by omega
    · have hnn : ¬ ((n1 : Int) < 0) := by omega
      go_wp2_with fail
      go_roundw
      case rel => exact CzA.mk _ _ 1 (by decide) (by go_num) (by go_num) rfl
      case measure => simp [intOf]
    · have hcast : ((if (1 : Nat) = 0 then 0 else if (1 : Nat) = 1 then n1 else n1 + n2 : Nat) : Int) = (n1 : Int) := rfl
      have hnn : ¬ ((n1 : Int) + (n2 : Int) < 0) := by omega
      go_wp2_with fail
      go_roundw
      case rel => exact CzA.mk _ _ 2 (by decide) (by go_num) (by go_num) rfl
      case measure => simp [intOf]
    · have hcast : ((if (2 : Nat) = 0 then 0 else if (2 : Nat) = 1 then n1 else n1 + n2 : Nat) : Int) = ((n1 + n2 : Nat) : Int) := rfl
      rw [hcast]
      clear hcast
      obtain ⟨nn, hnn2⟩ : ∃ nn, n1 + n2 = nn := ⟨_, rfl⟩
      rw [hnn2] at HG ⊢
      go_wp2_with fail
      refine HG.out.mono ?_
      rintro e w2 ⟨g, c, rfl, ho, hgc, l2'⟩
      have HI := Lib.hid (show CzB l1 l2 w.heap.size w (.slice g 0 c) (.int .i64 0) w2 from CzB.mk 0 0 (by decide) rfl rfl ho hgc l2')
      clear ho l2' HG k0 k1 hgc
      go_wp2_with fail
      go_loopw [6, 27] (fun sv iv wx => CzB l1 l2 w.heap.size w sv iv wx) (fun _ iv _ => 2 - (intOf iv).toNat)
      case atStart => exact HI.out
      case round =>
        obtain ⟨j, SA, m, sc, hj, rfl, rfl, hm, how, hnil, hla⟩ := hrel
        obtain rfl | rfl | rfl : j = 0 ∨ j = 1 ∨ j = 2 := by omega
        · have c0 := (HK0.out.later hla).out
          have c1' := (HK1.out.later hla).out
          have HRX := Lib.hid (HR1.out.later hla)
          have HOW := Lib.hid how
          have HLA := Lib.hid hla
          have HM := Lib.hid hm
          have hmb : m ≤ 10000 := by have := hm; simp [catZ] at this; have := H1.out; omega
          have HMB := Lib.hid hmb
          clear how hla hm hmb
          go_wp2_with (at_builtin; refine wpList_append_rd _ rfl (.tmp 31) (.tmp 32) 24 rfl w.heap.size 3 (.int .i64 0) 8 Tryz.underlying24 info_z rfl _ m (zin (catZ l1 l2 0)) rfl HOW.out _ A1 n1 c1 (zin l1) rfl HRX.out.rd (by rw [zin_length]; exact H1.out) HZ1.out (zin_one _) (by have := HMB.out; have := HNB.out; unfold maxLen; omega) (by have := HMB.out; have := HNB.out; omega) ?_ ?_; (exact HLA.out.size); intro A6 c6 w6 o6 g6 b6 n6; have HI6 := Lib.hid (show CzB l1 l2 w.heap.size w (.slice A6 (m + n1) c6) (.int .i64 (0 + 1)) w6 from CzB.mk _ (0 + 1) (by decide) rfl (by have := HM.out; simp [catZ] at this; subst this; rw [H1.out]; simp [catZ]) (by have := HM.out; simp [catZ] at this; subst this; simpa [catZ, zin] using o6) n6 (Later.of (HLA.out.below.trans b6))); clear o6 g6 b6 n6)
          go_roundw
          case rel => exact HI6.out
          case measure => simp [intOf]
        · have c0 := (HK0.out.later hla).out
          have c1' := (HK1.out.later hla).out
          have HRX := Lib.hid (HR2.out.later hla)
          have HOW := Lib.hid how
          have HLA := Lib.hid hla
          have HM := Lib.hid hm
          have hmb : m ≤ 10000 := by have := hm; simp [catZ] at this; have := H1.out; omega
          have HMB := Lib.hid hmb
          clear how hla hm hmb
          go_wp2_with (at_builtin; refine wpList_append_rd _ rfl (.tmp 31) (.tmp 32) 24 rfl w.heap.size 3 (.int .i64 0) 8 Tryz.underlying24 info_z rfl _ m (zin (catZ l1 l2 1)) rfl HOW.out _ A2 n2 c2 (zin l2) rfl HRX.out.rd (by rw [zin_length]; exact H2.out) HZ2.out (zin_one _) (by have := HMB.out; have := HNB.out; unfold maxLen; omega) (by have := HMB.out; have := HNB.out; omega) ?_ ?_; (exact HLA.out.size); intro A6 c6 w6 o6 g6 b6 n6; have HI6 := Lib.hid (show CzB l1 l2 w.heap.size w (.slice A6 (m + n2) c6) (.int .i64 (1 + 1)) w6 from CzB.mk _ (1 + 1) (by decide) rfl (by rw [HM.out, H2.out]; simp [catZ]) (by show w6.ownsRow _ _ _ _ _ (zin (l1 ++ l2)); rw [zin_append]; exact o6) n6 (Later.of (HLA.out.below.trans b6))); clear o6 g6 b6 n6)
          go_roundw
          case rel => exact HI6.out
          case measure => simp [intOf]
        · have HP := Lib.hid (show IntsP (l1 ++ l2) w (.returned (.slice SA m sc)) wr from IntsP.mk hm how hnil hla)
          clear how hla hm
          go_wp2_with fail
          go_ret
          exact HP.out

set_option maxRecDepth 100000 in
theorem join_any (A B : Option Addr) (n c m d : Nat) (a b : List Int) (w : World) (hn : n = a.length) (hm : m = b.length) (hl : n + m ≤ 10000) (ha : Has w A (zin a)) (hb : Has w B (zin b)) (za : A = none → c = 0) (zb : B = none → d = 0) :
    Calls Tryz.prog 26 #[.slice A n c, .slice B m d] w (IntsP (joinL a b) w) := by
  obtain ⟨gl, hgl⟩ : ∃ x, w.heap.size = x := ⟨_, rfl⟩
  obtain ⟨w1, hw1⟩ : ∃ x, w.alloc (.cells #[.slice A n c, .slice B m d] 24) = x := ⟨_, rfl⟩
  have l1 : Later w w1 := hw1 ▸ Later.new _ _
  have b1 : Blk w1 gl #[.slice A n c, .slice B m d] 24 := hw1 ▸ Blk.new _ _ _ _ hgl.symm
  have HC := Lib.hid (concatZ_any gl 2 A B n m c d a b w1 hn hm (by omega) (Nat.le_refl _) (b1.cell 0 _ rfl) (b1.cell 1 _ rfl) (ha.later l1) (hb.later l1) za zb)
  have HL1 := Lib.hid l1
  have HLN := Lib.hid (show (a ++ b).length ≤ 10000 by rw [List.length_append]; omega)
  have HW := Lib.hid hw1
  have HG := Lib.hid hgl
  clear hn hm hl ha hb za zb l1 b1 hw1 hgl
  go_enter Tryz.func26, Tryz.ntmps26
  go_wp2_with fail
  rw [HG.out, HW.out]
  refine HC.out.mono ?_
  rintro e w2 ⟨J, jc, rfl, hj, _, _, zj, l2⟩
  have HR := Lib.hid (rising_any J (a ++ b).length jc (a ++ b) w2 rfl (by have := HLN.out; omega) hj)
  have HL2 := Lib.hid (HL1.out.trans l2)
  obtain ⟨nj, hnj⟩ : ∃ x, (a ++ b).length = x := ⟨_, rfl⟩
  rw [hnj] at HR ⊢
  clear hj zj l2 hnj HC
  go_wp2_with fail
  refine HR.out.mono ?_
  intro e w3 h
  have HP := Lib.hid (h.from HL2.out)
  obtain ⟨A3, c3, rfl, _⟩ := h
  unfold joinL
  obtain ⟨n3, hn3⟩ : ∃ x, (rsg (a ++ b)).length = x := ⟨_, rfl⟩
  rw [hn3] at HP ⊢
  clear hn3
  go_wp2_with fail
  go_ret
  exact HP.out

set_option maxRecDepth 100000 in
set_option maxHeartbeats 4000000 in
theorem meet_any (A B : Option Addr) (n c m d : Nat) (a b : List Int) (w : World) (hn : n = a.length) (hm : m = b.length) (hl : n + m ≤ 10000) (ha : Has w A (zin a)) (hb : Has w B (zin b)) :
    Calls Tryz.prog 24 #[.slice A n c, .slice B m d] w (IntsP (meetL a b) w) := by
  have HRB := Lib.hid (rising_any B m d b w hm (by omega) hb)
  have HA := Lib.hid (fun w1 (l : Later w w1) => rising_any A n c a w1 hn (by omega) (ha.later l))
  have HLA := Lib.hid (show (rsg a).length ≤ 10000 by have := rsg_len a; omega)
  have HLB := Lib.hid (show (rsg b).length ≤ 10000 by have := rsg_len b; omega)
  have HSB := Lib.hid (rsg_inc b)
  rw [show meetL a b = (rsg a).filter fun i => decide (i ∈ rsg b) from rfl]
  obtain ⟨rb, hrb⟩ : ∃ x, rsg b = x := ⟨_, rfl⟩
  obtain ⟨ra, hra⟩ : ∃ x, rsg a = x := ⟨_, rfl⟩
  rw [hrb] at HRB HLB HSB ⊢
  rw [hra] at HA HLA ⊢
  clear hn hm hl ha hb hrb hra
  go_enter Tryz.func24, Tryz.ntmps24
  go_wp2_with fail
  refine HRB.out.mono ?_
  rintro e w1 ⟨RB, bc, rfl, hb1, _, _, _, l1⟩
  have HA1 := Lib.hid (HA.out w1 l1)
  have HB1 := Lib.hid hb1
  have HL1 := Lib.hid l1
  obtain ⟨mb, hmb⟩ : ∃ x, rb.length = x := ⟨_, rfl⟩
  have HMB := Lib.hid hmb
  rw [hmb] at HLB ⊢
  clear hb1 l1 HRB HA hmb
  go_wp2_with fail
  refine HA1.out.mono ?_
  rintro e w2 ⟨RA, ac, rfl, ha2, _, _, _, l2⟩
  have HB2 := Lib.hid (HB1.out.later l2)
  have HA2 := Lib.hid ha2
  have HL2 := Lib.hid (HL1.out.trans l2)
  obtain ⟨na, hna⟩ : ∃ x, ra.length = x := ⟨_, rfl⟩
  have HNA := Lib.hid hna
  rw [hna] at HLA ⊢
  have hnab := HLA.out
  clear ha2 l2 hna HA1 HB1
  have HI0 := Lib.hid (FltI.zero (fun i => decide (i ∈ rb)) ra (Later.refl w2))
  go_wp2_with fail
  go_loopw [5, 15] (fun pv iv wr => FltI (fun i => decide (i ∈ rb)) ra w2 pv iv wr) (fun _ i _ => na - (intOf i).toNat)
  case atStart => exact HI0.out
  case round =>
    obtain ⟨k, P, pn, pc, rfl, rfl, hk, hpn, hown, hnil, lat⟩ := hrel
    have HOWN := Lib.hid hown
    have HNIL := Lib.hid hnil
    have HLAT := Lib.hid lat
    have HPN := Lib.hid hpn
    have hpb : pn ≤ 10000 := by have := flt_len (fun i => decide (i ∈ rb)) ra k; have := HNA.out; omega
    clear HI0 hown hnil hpn
    by_cases hlt : k < na
    · have hkr : k < ra.length := by have := HNA.out; omega
      obtain ⟨ab, ao, hAA, ck⟩ := (HA2.out.later lat).zat k hkr
      subst hAA
      obtain ⟨x, hx⟩ : ∃ x, ra[k] = x := ⟨_, rfl⟩
      rw [hx] at ck
      have HX := Lib.hid hx
      have HS := Lib.hid (searchI_any RB mb bc rb x wr HMB.out.symm (by have := HLB.out; omega) (HB2.out.later lat) HSB.out)
      clear hx lat
      go_wp2_with fail
      refine HS.out.mono ?_
      rintro e wX ⟨⟨q, rfl⟩, lX⟩
      have HLX := Lib.hid (HLAT.out.trans lX)
      have HOX := Lib.hid (own_later HOWN.out lX)
      clear lX HS ck
      by_cases hp : x ∈ rb
      · have hd : decide (x ∈ rb) = true := by simpa using hp
        rw [hd]
        have HD := Lib.hid hd
        have HBK := Lib.hid (fun (wz : World) => Blk.new wz #[.int .i64 x] 3 wz.heap.size rfl)
        have HOA := Lib.hid (fun (o : Obj) => own_later HOX.out (Later.new wX o))
        have HSZ := Lib.hid (show w2.heap.size ≤ wX.heap.size from HLX.out.size)
        clear hd hp
        go_wp2_with (at_builtin; refine wpList_append_g _ rfl (.tmp 26) (.tmp 28) 24 rfl w2.heap.size 3 _ 1 8 Tryz.underlying24 info_z rfl (by decide) _ pn _ rfl (HOA.out _) _ 1 1 (zin [x]) rfl (HBK.out wX).has rfl (by intro h; cases h) (zin_one _) (by unfold maxLen; omega) (by omega) (by have := HSZ.out; simp; omega) ?_; rintro A' c' wq hO _ hbel hn2; have HO2 := Lib.hid hO; have HN2 := Lib.hid hn2; have HL3 := Lib.hid (Later.of ((HLX.out.alloc _).below.trans hbel)); clear hO hn2 hbel)
        go_roundw
        all_goals first
          | exact FltI.yes _ k _ pn _ _ x rfl (by go_num) hkr HX.out HD.out HPN.out HO2.out HN2.out HL3.out
          | (simp [intOf]; omega)
      · have hd : decide (x ∈ rb) = false := by simpa using hp
        rw [hd]
        have HD := Lib.hid hd
        clear hd hp
        go_wp2_with fail
        go_roundw
        all_goals first
          | exact FltI.no _ k _ _ _ x (by go_num) hkr HX.out HD.out HPN.out HOX.out HNIL.out HLX.out
          | (simp [intOf]; omega)
    · have HF := Lib.hid ((FltI.all (by have := HNA.out; omega) HPN.out HOWN.out HNIL.out HLAT.out).from HL2.out)
      clear lat
      go_wp2_with fail
      go_ret
      exact HF.out

theorem upto_get (n k : Nat) (h : k < (upto n).length) : (upto n)[k] = (k : Int) := by simp [upto]
set_option maxRecDepth 100000 in
set_option maxHeartbeats 4000000 in
theorem rest_any (A : Option Addr) (n c m : Nat) (a : List Int) (w : World) (hn : n = a.length) (hl : n + m ≤ 10000) (ha : Has w A (zin a)) :
    Calls Tryz.prog 28 #[.slice A n c, .int .i64 m] w (IntsP (restL a m) w) := by
  have HA := Lib.hid (rising_any A n c a w hn (by omega) ha)
  have HLA := Lib.hid (show (rsg a).length ≤ 10000 by have := rsg_len a; omega)
  have HSA := Lib.hid (rsg_inc a)
  rw [show restL a m = (upto m).filter fun i => !decide (i ∈ rsg a) from rfl]
  obtain ⟨ra, hra⟩ : ∃ x, rsg a = x := ⟨_, rfl⟩
  rw [hra] at HA HLA HSA ⊢
  have hm : m ≤ 10000 := by omega
  clear hn hl ha hra
  go_enter Tryz.func28, Tryz.ntmps28
  go_wp2_with fail
  refine HA.out.mono ?_
  rintro e w2 ⟨RA, ac, rfl, ha2, _, _, _, l2⟩
  have HA2 := Lib.hid ha2
  have HL2 := Lib.hid l2
  obtain ⟨na, hna⟩ : ∃ x, ra.length = x := ⟨_, rfl⟩
  have HNA := Lib.hid hna
  rw [hna] at HLA ⊢
  clear ha2 l2 hna HA
  have HI0 := Lib.hid (FltI.zero (fun i => !decide (i ∈ ra)) (upto m) (Later.refl w2))
  go_wp2_with fail
  go_loopw [5, 12] (fun pv iv wr => FltI (fun i => !decide (i ∈ ra)) (upto m) w2 pv iv wr) (fun _ i _ => m - (intOf i).toNat)
  case atStart => exact HI0.out
  case round =>
    obtain ⟨k, P, pn, pc, rfl, rfl, hk, hpn, hown, hnil, lat⟩ := hrel
    rw [upto_len] at hk
    have HOWN := Lib.hid hown
    have HNIL := Lib.hid hnil
    have HLAT := Lib.hid lat
    have HPN := Lib.hid hpn
    have hpb : pn ≤ 10000 := by have := flt_len (fun i => !decide (i ∈ ra)) (upto m) k; omega
    clear HI0 hown hnil hpn
    by_cases hlt : k < m
    · have HKR := Lib.hid (show k < (upto m).length by rw [upto_len]; exact hlt)
      have HX := Lib.hid (upto_get m k HKR.out)
      have HS := Lib.hid (searchI_any RA na ac ra (k : Int) wr HNA.out.symm (by have := HLA.out; omega) (HA2.out.later lat) HSA.out)
      clear lat
      go_wp2_with fail
      refine HS.out.mono ?_
      rintro e wX ⟨⟨q, rfl⟩, lX⟩
      have HLX := Lib.hid (HLAT.out.trans lX)
      have HOX := Lib.hid (own_later HOWN.out lX)
      clear lX HS
      by_cases hp : (k : Int) ∈ ra
      · have hd : decide ((k : Int) ∈ ra) = true := by simpa using hp
        have HD := Lib.hid (show (!decide ((k : Int) ∈ ra)) = false by rw [hd]; rfl)
        rw [hd]
        clear hd hp
        go_wp2_with fail
        go_roundw
        all_goals first
          | exact FltI.no _ k _ _ _ (k : Int) (by go_num) HKR.out HX.out HD.out HPN.out HOX.out HNIL.out HLX.out
          | (simp [intOf]; omega)
      · have hd : decide ((k : Int) ∈ ra) = false := by simpa using hp
        have HD := Lib.hid (show (!decide ((k : Int) ∈ ra)) = true by rw [hd]; rfl)
        rw [hd]
        have HBK := Lib.hid (fun (wz : World) => Blk.new wz #[.int .i64 (k : Int)] 3 wz.heap.size rfl)
        have HOA := Lib.hid (fun (o : Obj) => own_later HOX.out (Later.new wX o))
        have HSZ := Lib.hid (show w2.heap.size ≤ wX.heap.size from HLX.out.size)
        clear hd hp
        go_wp2_with (at_builtin; refine wpList_append_g _ rfl (.tmp 23) (.tmp 25) 24 rfl w2.heap.size 3 _ 1 8 Tryz.underlying24 info_z rfl (by decide) _ pn _ rfl (HOA.out _) _ 1 1 (zin [(k : Int)]) rfl (HBK.out wX).has rfl (by intro h; cases h) (zin_one _) (by unfold maxLen; omega) (by omega) (by have := HSZ.out; simp; omega) ?_; rintro A' c' wq hO _ hbel hn2; have HO2 := Lib.hid hO; have HN2 := Lib.hid hn2; have HL3 := Lib.hid (Later.of ((HLX.out.alloc _).below.trans hbel)); clear hO hn2 hbel)
        go_roundw
        all_goals first
          | exact FltI.yes _ k _ pn _ _ (k : Int) rfl (by go_num) HKR.out HX.out HD.out HPN.out HO2.out HN2.out HL3.out
          | (simp [intOf]; omega)
    · have HF := Lib.hid ((FltI.all (by rw [upto_len]; omega) HPN.out HOWN.out HNIL.out HLAT.out).from HL2.out)
      clear lat
      go_wp2_with fail
      go_ret
      exact HF.out
end Go.Proofs.YtlfmmhbaphnifaaRRRRGreatDoor
