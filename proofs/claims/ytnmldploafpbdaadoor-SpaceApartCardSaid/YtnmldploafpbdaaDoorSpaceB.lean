/- The walks of package space: check, turn. -/
import Derived.Test.YtnmldploafpbdaaDoorSpaceA
import Derived.Test.YtnmldploafpbdaaDoorAt
import Derived.Test.YtnmldploafpbdaaDoorIs
namespace Go.Proofs.YtnmldploafpbdaaDoor
open Go.RowKit
set_option linter.unusedVariables false

/-- A sentinel where the program keeps it. -/
def SentS (w : World) (g : Nat) (a : Addr) : Prop :=
  w.cell? ⟨g, 0, none⟩ = some (.iface 88 (.pointer (some a))) ∧ ∃ c t, w.heap[a.block]? = some (.cells c t (0, 0))
theorem SentS.later {w w' : World} {g : Nat} {a : Addr} (h : SentS w g a) (l : Later w w') : SentS w' g a := by
  obtain ⟨h1, c, t, h2⟩ := h
  exact ⟨l.cell h1, c, t, (Below.block l a.block (Array.getElem?_eq_some_iff.1 h2).1).trans h2⟩
def S19 (w : World) (aB aO : Addr) : Prop := SentS w 1 aB ∧ SentS w 2 aO ∧ aB ≠ aO
theorem S19.later {w w' : World} {aB aO : Addr} (h : S19 w aB aO) (l : Later w w') : S19 w' aB aO := ⟨h.1.later l, h.2.1.later l, h.2.2⟩

def insideS (f : Int) (l : List Bool) (a n : Int) : Prop := 1 ≤ n ∧ f ≤ a ∧ a - f + n ≤ l.length
/-- An error that wraps the sentinel at a. -/
def Wrapd (a : Addr) (w : World) (e : Ending) (w' : World) : Prop :=
  ∃ pb, e = .returned (.iface 74 (.pointer (some ⟨pb, 0, none⟩))) ∧ w'.cell? ⟨pb, 2, none⟩ = some (.iface 88 (.pointer (some a))) ∧ Later w w'

set_option maxRecDepth 100000 in
set_option maxHeartbeats 2000000 in
theorem spaceCheck_out (p : Nat) (f : Int) (l : List Bool) (g c : Nat) (a n : Int) (b : Bool) (aB aO : Addr) (w : World) (h : Spc w p f l g c) (hs : S19 w aB aO) (hf : 0 ≤ f) (hf2 : f ≤ 1099511627776) (hl : l.length ≤ 4000) (ha : a ≤ 9223372036854775807) (ho : ¬ insideS f l a n) :
    Calls Tryd.prog 36 #[sptr p, ext a n, .bool b] w (Wrapd aB w) := by
  obtain ⟨len, hlen⟩ : ∃ n, n = l.length := ⟨_, rfl⟩
  have HL := Lib.hid (Later.new w (.cells #[.int .i64 a, .int .i64 n] 30))
  have BE := Blk.new w #[.int .i64 a, .int .i64 n] 30 w.heap.size rfl
  have h2 := h.later HL.out
  have a0 := h2.at0
  have a1 := h2.at1
  have b0 := BE.cell 0 _ rfl
  have b1 := BE.cell 1 _ rfl
  have hgs := (hs.later HL.out).1.1
  rw [← hlen] at a1
  obtain ⟨w1, hw1⟩ : ∃ x, w.alloc (.cells #[.int .i64 a, .int .i64 n] 30) = x := ⟨_, rfl⟩
  rw [hw1] at a0 a1 b0 b1 HL hgs
  obtain ⟨ge, hge⟩ : ∃ x, w.heap.size = x := ⟨_, rfl⟩
  rw [hge] at b0 b1
  have ho : ¬ (1 ≤ n ∧ f ≤ a ∧ a - f + n ≤ len) := by rw [hlen]; exact ho
  rw [← hlen] at hl
  have HHO := Lib.hid ho
  clear h h2 BE hlen hs ho
  by_cases h1 : n < 1
  · have d1 : decide (n < 1) = true := by simp; omega
    clear hf hf2 hl ha h1
    go_enter Tryd.func36, Tryd.ntmps36
    go_wp2_with fail
    go_quiet (fail)
    go_wp2_with (go_at_call 40; refine (at_any _ _ _ _ _ rfl).mono ?_; rintro e w' ⟨rfl, rfl⟩)
    go_ret
    exact ⟨_, rfl, CellIs.new _ _ _ _ 2 _ rfl rfl, (HL.out.drewN _).alloc _⟩
  · have d1 : decide (n < 1) = false := by simp; omega
    by_cases h2 : a < f
    · have d2 : decide (a < f) = true := by simp; omega
      clear hf hf2 hl ha h1 h2
      go_enter Tryd.func36, Tryd.ntmps36
      go_wp2_with fail
      go_quiet (fail)
      go_wp2_with (go_at_call 40; refine (at_any _ _ _ _ _ rfl).mono ?_; rintro e w' ⟨rfl, rfl⟩)
      go_ret
      exact ⟨_, rfl, CellIs.new _ _ _ _ 2 _ rfl rfl, (HL.out.drewN _).alloc _⟩
    · have d2 : decide (a < f) = false := by simp; omega
      obtain ⟨d, hd⟩ : ∃ d, a - f = d := ⟨_, rfl⟩
      have e1 : IntKind.i64.wrap d = d := IntWalk.i64_in _ ⟨by omega, by omega⟩
      by_cases h3 : (len : Int) ≤ d
      · have d3 : decide ((len : Int) ≤ d) = true := by simp; omega
        clear hf hf2 hl ha h1 h2 h3
        go_enter Tryd.func36, Tryd.ntmps36
        go_wp2_with fail
        go_quiet (fail)
        go_wp2_with (go_at_call 40; refine (at_any _ _ _ _ _ rfl).mono ?_; rintro e w' ⟨rfl, rfl⟩)
        go_ret
        exact ⟨_, rfl, CellIs.new _ _ _ _ 2 _ rfl rfl, (HL.out.drewN _).alloc _⟩
      · have d3 : decide ((len : Int) ≤ d) = false := by simp; omega
        obtain ⟨r, hr⟩ : ∃ r, (len : Int) - d = r := ⟨_, rfl⟩
        have e2 : IntKind.i64.wrap r = r := IntWalk.i64_in _ ⟨by omega, by omega⟩
        have d4 : decide (r < n) = true := by have := HHO.out; simp; omega
        clear hf hf2 hl ha h1 h2 h3
        go_enter Tryd.func36, Tryd.ntmps36
        go_wp2_with fail
        go_quiet (fail)
        go_wp2_with (go_at_call 40; refine (at_any _ _ _ _ _ rfl).mono ?_; rintro e w' ⟨rfl, rfl⟩)
        go_ret
        exact ⟨_, rfl, CellIs.new _ _ _ _ 2 _ rfl rfl, (HL.out.drewN _).alloc _⟩
def segL (l : List Bool) (k m : Nat) : List Bool := (l.drop k).take m
theorem segL_len {l : List Bool} {k m : Nat} (h : k + m ≤ l.length) : (segL l k m).length = m := by unfold segL; rw [List.length_take, List.length_drop]; omega
theorem segL_get {l : List Bool} {k m : Nat} (h : k + m ≤ l.length) (i : Nat) (hi : i < (segL l k m).length) (hi2 : k + i < l.length) : (segL l k m)[i] = l[k + i] := by
  simp [segL]

set_option maxRecDepth 100000 in
set_option maxHeartbeats 2000000 in
theorem spaceCheck_in (p : Nat) (f : Int) (l : List Bool) (g c k m : Nat) (b : Bool) (aB aO : Addr) (w : World) (h : Spc w p f l g c) (hs : S19 w aB aO) (hf : 0 ≤ f) (hf2 : f ≤ 1099511627776) (hl : l.length ≤ 4000) (hm : 1 ≤ m) (hk : k + m ≤ l.length) (x : Int) (hx : x = idxB (!b) (segL l k m)) :
    Calls Tryd.prog 36 #[sptr p, ext (f + (k : Int)) m, .bool b] w fun e w' =>
      (x = -1 ∧ e = .returned .nilIface ∧ Later w w') ∨ (x ≠ -1 ∧ Wrapd aO w e w') := by
  have HX := Lib.hid hx
  have HSpc := Lib.hid h
  have HK := Lib.hid hk
  have HM := Lib.hid hm
  have HLL := Lib.hid hl
  have HF := Lib.hid hf
  have HF2 := Lib.hid hf2
  obtain ⟨len, hlen⟩ : ∃ n, n = l.length := ⟨_, rfl⟩
  obtain ⟨a, ha⟩ : ∃ a, a = f + (k : Int) := ⟨_, rfl⟩
  have HA := Lib.hid ha
  rw [← ha]
  have HL := Lib.hid (Later.new w (.cells #[.int .i64 a, .int .i64 m] 30))
  have BE := Blk.new w #[.int .i64 a, .int .i64 m] 30 w.heap.size rfl
  have h2 := h.later HL.out
  have a0 := h2.at0
  have a1 := h2.at1
  have b0 := BE.cell 0 _ rfl
  have b1 := BE.cell 1 _ rfl
  have HS := Lib.hid (hs.later HL.out)
  have HS2 := Lib.hid h2
  rw [← hlen] at a1 hk hl
  obtain ⟨w1, hw1⟩ : ∃ x, w.alloc (.cells #[.int .i64 a, .int .i64 m] 30) = x := ⟨_, rfl⟩
  rw [hw1] at a0 a1 b0 b1 HL HS HS2 BE
  obtain ⟨ge, hge⟩ : ∃ x, w.heap.size = x := ⟨_, rfl⟩
  rw [hge] at b0 b1 BE
  have HBE := Lib.hid BE
  have d1 : decide ((m : Int) < 1) = false := by simp; omega
  have d2 : decide (a < f) = false := by simp; omega
  have hd : a - f = (k : Int) := by omega
  have e1 : IntKind.i64.wrap (k : Int) = (k : Int) := IntWalk.i64_in _ ⟨by omega, by omega⟩
  have d3 : decide (len ≤ k) = false := by simp; omega
  obtain ⟨r, hr⟩ : ∃ r, (len : Int) - (k : Int) = r := ⟨_, rfl⟩
  have e2 : IntKind.i64.wrap r = r := IntWalk.i64_in _ ⟨by omega, by omega⟩
  have d4 : decide (r < (m : Int)) = false := by simp; omega
  have HR := Lib.hid (fun nq => spaceRun_any p f l g c k m (w1.drewN nq) (HS2.out.later ((Later.refl w1).drewN nq)) HF.out HF2.out HK.out HM.out HLL.out)
  rw [← HA.out] at HR
  clear h h2 BE hlen hs hf hf2 hl hm hk ha hx
  go_enter Tryd.func36, Tryd.ntmps36
  go_wp2_with fail
  go_quiet (fail)
  go_wp2_with fail
  refine (HR.out _).mono ?_
  rintro e w2 ⟨rfl, l2⟩
  have HL2 := Lib.hid ((HL.out.drewN _).trans l2)
  have HLb := Lib.hid (((Later.refl w1).drewN _).trans l2)
  have hsp := HS2.out.later HLb.out
  have HI := Lib.hid (slIndex_any g k m (c - k) (!b) (segL l k m) w2 (segL_len HK.out).symm (by have := HK.out; have := HLL.out; omega) (fun i hi => by
    have hi2 : k + i < l.length := by have := segL_len HK.out; have := HK.out; omega
    rw [hsp.cell (k + i) hi2, segL_get HK.out i hi hi2]))
  have b0 := (HBE.out.later HLb.out).cell 0 _ rfl
  have b1 := (HBE.out.later HLb.out).cell 1 _ rfl
  have hgs := (HS.out.later HLb.out).2.1.1
  have hx := HX.out
  have hxr : x = -1 ∨ (0 ≤ x ∧ x < m) := by
    rw [hx]; unfold idxB
    split
    · rename_i i hi
      have := (List.findIdx?_eq_some_iff_getElem.1 hi).1
      rw [segL_len HK.out] at this
      exact .inr ⟨by omega, by omega⟩
    · exact .inl rfl
  rw [← hx] at HI
  clear l2 hsp HR hx
  go_wp2_with fail
  refine HI.out.mono ?_
  rintro e w' ⟨rfl, rfl⟩
  rcases hxr with rfl | hxr
  · go_wp2_with fail
    go_ret
    exact ⟨rfl, HL2.out⟩
  · have d5 : decide (0 ≤ x) = true := by simp; omega
    have hx1 : x ≠ -1 := by omega
    go_wp2_with (go_at_call 40; refine (at_any _ _ _ _ _ rfl).mono ?_; rintro e w' ⟨rfl, rfl⟩)
    go_ret
    exact .inr ⟨hx1, _, rfl, CellIs.new _ _ _ _ 2 _ rfl rfl, HL2.out.alloc _⟩
/-- Blocks k to k + j turned. -/
def setL (l : List Bool) (k j : Nat) (t : Bool) : List Bool := l.take k ++ List.replicate j t ++ l.drop (k + j)
theorem setL_zero (l : List Bool) (k : Nat) (t : Bool) : setL l k 0 t = l := by simp [setL]
theorem setL_len {l : List Bool} {k j : Nat} (t : Bool) (h : k + j ≤ l.length) : (setL l k j t).length = l.length := by simp [setL]; omega
theorem setL_get (l : List Bool) (k j : Nat) (t : Bool) (h : k + j ≤ l.length) (i : Nat) : (setL l k j t)[i]? = if k ≤ i ∧ i < k + j then some t else l[i]? := by
  unfold setL
  rw [List.append_assoc, List.getElem?_append, List.length_take, Nat.min_eq_left (by omega)]
  split
  · rw [if_neg (by omega), List.getElem?_take_of_lt (by omega)]
  · rw [List.getElem?_append, List.length_replicate]
    split
    · rw [if_pos (by omega), List.getElem?_replicate, if_pos (by omega)]
    · rw [if_neg (by omega), List.getElem?_drop]
      congr 1; omega
theorem setL_step (l : List Bool) (k j : Nat) (t : Bool) (h : k + j < l.length) : (setL l k j t).set (k + j) t = setL l k (j + 1) t := by
  apply List.ext_getElem?
  intro i
  rw [List.getElem?_set, setL_len t (by omega), setL_get l k j t (by omega), setL_get l k (j + 1) t (by omega)]
  by_cases h1 : k + j = i
  · rw [if_pos h1, if_pos (by omega), if_pos (by omega)]
  · rw [if_neg h1]
    by_cases h2 : k ≤ i ∧ i < k + j
    · rw [if_pos h2, if_pos (by omega)]
    · rw [if_neg h2, if_neg (by omega)]

set_option maxRecDepth 100000 in
set_option maxHeartbeats 2000000 in
theorem spaceTurn_no (v : Value) (a n : Int) (t : Bool) (aB aO x : Addr) (w : World) (hs : S19 w aB aO) (hx : x = aB ∨ x = aO)
    (hc : ∀ w1, Later w w1 → Calls Tryd.prog 36 #[v, ext a n, .bool (!t)] w1 (Wrapd x w1)) :
    Calls Tryd.prog 29 #[v, ext a n, .bool t] w fun e w' => e = .returned (.bool false) ∧ Later w w' := by
  have HL := Lib.hid (Later.new w (.cells #[.int .i64 a, .int .i64 n] 30))
  have BE := Blk.new w #[.int .i64 a, .int .i64 n] 30 w.heap.size rfl
  have b0 := BE.cell 0 _ rfl
  have b1 := BE.cell 1 _ rfl
  have HS := Lib.hid hs
  have HC := Lib.hid (hc _ HL.out)
  clear hs hc BE
  go_enter Tryd.func29, Tryd.ntmps29
  go_wp2_with fail
  refine HC.out.mono ?_
  rintro e w2 ⟨pb, rfl, hcell, l2⟩
  have HL2 := Lib.hid (HL.out.trans l2)
  have S2 := HS.out.later HL2.out
  have g1 := S2.1.1
  have g2 := S2.2.1.1
  obtain ⟨_, c1, t1, k1⟩ := S2.1
  obtain ⟨_, c2, t2, k2⟩ := S2.2.1
  have hne := S2.2.2
  clear b0 b1 l2 HC
  rcases hx with rfl | rfl
  · have HI := Lib.hid (is_wrap_same pb 0 x w2 hcell)
    clear hcell S2 k1 k2
    go_wp2_with fail
    refine HI.out.mono ?_
    rintro e w' ⟨rfl, rfl⟩
    go_wp2_with fail
    go_ret
    exact ⟨rfl, HL2.out⟩
  · have HI1 := Lib.hid (is_wrap_other pb 0 aB x c2 c1 t2 t1 w2 hcell (Ne.symm hne) k2 k1)
    have HI2 := Lib.hid (is_wrap_same pb 0 x w2 hcell)
    clear hcell S2 k1 k2
    go_wp2_with fail
    refine HI1.out.mono ?_
    rintro e w' ⟨rfl, rfl⟩
    go_wp2_with fail
    refine HI2.out.mono ?_
    rintro e w' ⟨rfl, rfl⟩
    go_wp2_with fail
    go_ret
    exact ⟨rfl, HL2.out⟩
theorem Later.grown {w w' : World} (l : Later w w') (row : Option Nat) : w.grownBy w' row := ⟨l.below.os, l.below.tape, l.below.output, l.below.size, fun i hi _ => Below.block l i hi⟩
theorem Spc.glt {w : World} {p g c : Nat} {f : Int} {l : List Bool} (h : Spc w p f l g c) : g < w.heap.size := (h.2.2.lt g rfl).2
theorem Spc.frozen {w : World} {p g c : Nat} {f : Int} {l : List Bool} (h : Spc w p f l g c) (i : Nat) : w.frozen? ⟨g, i, none⟩ = false := h.2.2.frozenAt i
def TInv (p : Nat) (f : Int) (l : List Bool) (g c k m : Nat) (t : Bool) (ge : Nat) (a : Int) (w : World) (iv : Value) (wr : World) : Prop :=
  ∃ j : Nat, iv = .int .i64 j ∧ j ≤ m ∧ Spc wr p f (setL l k j t) g c ∧ w.grownBy wr (some g) ∧ Blk wr ge #[.int .i64 a, .int .i64 m] 30
theorem TInv.mk {p : Nat} {f : Int} {l : List Bool} {g c k m : Nat} {t : Bool} {ge : Nat} {a : Int} {w wr : World} (i : Int) (j : Nat) (hi : i = (j : Int)) (hj : j ≤ m) (h1 : Spc wr p f (setL l k j t) g c) (h2 : w.grownBy wr (some g)) (h3 : Blk wr ge #[.int .i64 a, .int .i64 m] 30) : TInv p f l g c k m t ge a w (.int .i64 i) wr := by
  subst hi; exact ⟨j, rfl, hj, h1, h2, h3⟩

set_option maxRecDepth 100000 in
set_option maxHeartbeats 2000000 in
theorem spaceTurn_yes (p : Nat) (f : Int) (l : List Bool) (g c k m : Nat) (t : Bool) (aB aO : Addr) (w : World) (h : Spc w p f l g c) (hs : S19 w aB aO) (hf : 0 ≤ f) (hf2 : f ≤ 1099511627776) (hl : l.length ≤ 4000) (hm : 1 ≤ m) (hk : k + m ≤ l.length) (hx : idxB (!(!t)) (segL l k m) = -1) :
    Calls Tryd.prog 29 #[sptr p, ext (f + (k : Int)) m, .bool t] w fun e w' => e = .returned (.bool true) ∧ Spc w' p f (setL l k m t) g c ∧ w.grownBy w' (some g) := by
  have HK := Lib.hid hk
  have HM := Lib.hid hm
  have HLL := Lib.hid hl
  have HF := Lib.hid hf
  have HF2 := Lib.hid hf2
  obtain ⟨a, ha⟩ : ∃ a, a = f + (k : Int) := ⟨_, rfl⟩
  have HA := Lib.hid ha
  have HGL := Lib.hid h.glt
  rw [← ha]
  have HL := Lib.hid (Later.new w (.cells #[.int .i64 a, .int .i64 m] 30))
  have BE := Blk.new w #[.int .i64 a, .int .i64 m] 30 w.heap.size rfl
  have HSp := Lib.hid (h.later HL.out)
  have HS := Lib.hid (hs.later HL.out)
  have HC := Lib.hid (spaceCheck_in p f l g c k m (!t) aB aO _ HSp.out HS.out hf hf2 hl hm hk (-1) hx.symm)
  rw [← ha] at HC
  obtain ⟨w1, hw1⟩ : ∃ x, w.alloc (.cells #[.int .i64 a, .int .i64 m] 30) = x := ⟨_, rfl⟩
  rw [hw1] at HL BE HSp HS HC
  obtain ⟨ge, hge⟩ : ∃ x, w.heap.size = x := ⟨_, rfl⟩
  have HGE := Lib.hid hge
  rw [hge] at BE
  have HBE := Lib.hid BE
  have b0 := BE.cell 0 _ rfl
  have b1 := BE.cell 1 _ rfl
  have HR := Lib.hid (fun j (hj : j ≤ m) w' (h : Spc w' p f (setL l k j t) g c) => spaceRun_any p f (setL l k j t) g c k m w' h HF.out HF2.out (by rw [setL_len t (by have := HK.out; omega)]; exact HK.out) HM.out (by rw [setL_len t (by have := HK.out; omega)]; exact HLL.out))
  rw [← HA.out] at HR
  clear h hs hf hf2 hl hm hk ha BE hx
  go_enter Tryd.func29, Tryd.ntmps29
  go_wp2_with fail
  refine HC.out.mono ?_
  rintro e w2 (⟨_, rfl, l2⟩ | ⟨hne, _⟩)
  rotate_left
  · exact absurd rfl hne
  have HL2 := Lib.hid (HL.out.trans l2)
  have S2 := HS.out.later l2
  have g1 := S2.1.1
  have g2 := S2.2.1.1
  have HI1 := Lib.hid (is_nil aB w2)
  have HI2 := Lib.hid (is_nil aO w2)
  have HSp2 := Lib.hid (HSp.out.later l2)
  have HBE2 := Lib.hid (HBE.out.later l2)
  have b0 := HBE2.out.cell 0 _ rfl
  have b1 := HBE2.out.cell 1 _ rfl
  clear l2 S2 HC HSp HBE HS
  go_wp2_with fail
  refine HI1.out.mono ?_
  rintro e w' ⟨rfl, rfl⟩
  go_wp2_with fail
  refine HI2.out.mono ?_
  rintro e w' ⟨rfl, rfl⟩
  have HRR := Lib.hid (HR.out 0 (Nat.zero_le _) w2 (by rw [setL_zero]; exact HSp2.out))
  go_wp2_with fail
  refine HRR.out.mono ?_
  rintro e w3 ⟨rfl, l3⟩
  have HI0 := Lib.hid (TInv.mk (w := w) (p := p) (f := f) (l := l) (g := g) (c := c) (k := k) (m := m) (t := t) (a := a) 0 0 rfl (Nat.zero_le _) (by rw [setL_zero]; exact HSp2.out.later l3) ((HL2.out.trans l3).grown _) (HBE2.out.later l3))
  clear b0 b1 g1 g2 l3 HRR HI1 HI2 HSp2 HBE2
  have hm4 : m ≤ 4000 := by have := HK.out; have := HLL.out; omega
  go_wp2_with fail
  go_loopw [26] (fun iv wr => TInv p f l g c k m t ge a w iv wr) (fun i _ => m - (intOf i).toNat)
  case atStart => exact HI0.out
  case round =>
    obtain ⟨j, rfl, hj, hsp, hgr, hbe⟩ := hrel
    by_cases hlt : j < m
    · have HRR := Lib.hid (HR.out j hj wr hsp)
      have b0 := hbe.cell 0 _ rfl
      have b1 := hbe.cell 1 _ rfl
      have HB := Lib.hid hbe
      have HSP := Lib.hid hsp
      have HG := Lib.hid hgr
      clear hsp hgr hbe
      go_wp2_with fail
      refine HRR.out.mono ?_
      rintro e w4 ⟨rfl, l4⟩
      have s4 := HSP.out.later l4
      have hkl : k + j < (setL l k j t).length := by rw [setL_len t (by have := HK.out; omega)]; have := HK.out; omega
      have hcell := s4.cell (k + j) hkl
      have hfr := s4.frozen (k + j)
      have s5 := s4.turn (k + j) t
      rw [setL_step l k j t (by have := HK.out; omega)] at s5
      have hb5 := (HB.out.later l4).far (p := ⟨g, k + j, none⟩) (by have := HGE.out; have := HGL.out; simp; omega) (.bool t)
      have hg5 := only_setCell (only_trans HG.out (l4.grown _)) (p := ⟨g, k + j, none⟩) (.inl rfl) (.bool t)
      have HS5 := Lib.hid s5
      have HB5 := Lib.hid hb5
      have HG5 := Lib.hid hg5
      obtain ⟨bx, hbx⟩ : ∃ b, b = (setL l k j t)[k + j] := ⟨_, rfl⟩
      rw [← hbx] at hcell
      clear l4 s4 s5 hb5 hg5 b0 b1 hkl hbx
      go_wp2_with fail
      go_roundw
      case rel => exact TInv.mk _ (j + 1) (by go_num) hlt HS5.out HG5.out HB5.out
      case measure => simp [intOf]; omega
    · obtain rfl : j = m := by omega
      have HSP := Lib.hid hsp
      have HG := Lib.hid hgr
      clear hsp hgr hbe
      go_wp2_with fail
      go_ret
      exact ⟨rfl, HSP.out, HG.out⟩
end Go.Proofs.YtnmldploafpbdaaDoor
