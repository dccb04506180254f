/- The walk of SpaceFirst. -/
import Derived.Test.YtnmldploafpbdaaDoorSpaceBeg
namespace Go.Proofs.YtnmldploafpbdaaDoor
open Go.RowKit
set_option linter.unusedVariables false

/-- Of l the first i are marked. -/
def markL (l : List Bool) (i : Nat) : List Bool := l.take i ++ List.replicate (l.length - i) false
theorem markL_len {l : List Bool} {i : Nat} (h : i ≤ l.length) : (markL l i).length = l.length := by simp [markL]; omega
theorem markL_get {l : List Bool} {i : Nat} (h : i ≤ l.length) (j : Nat) : (markL l i)[j]? = if j < i then l[j]? else if j < l.length then some false else none := by
  unfold markL
  rw [List.getElem?_append, List.length_take, Nat.min_eq_left h]
  split
  · rw [List.getElem?_take_of_lt (by omega)]
  · rw [List.getElem?_replicate]
    split
    · rw [if_pos (by omega)]
    · rw [if_neg (by omega)]
theorem markL_zero (l : List Bool) : markL l 0 = List.replicate l.length false := by simp [markL]
theorem markL_all (l : List Bool) : markL l l.length = l := by simp [markL]
theorem markL_false {l : List Bool} {i : Nat} (h : i < l.length) (hb : l[i]? = some false) : markL l (i + 1) = markL l i := by
  apply List.ext_getElem?
  intro j
  rw [markL_get (by omega), markL_get (by omega)]
  by_cases h1 : j < i
  · rw [if_pos h1, if_pos (by omega)]
  · rw [if_neg h1]
    by_cases h2 : j = i
    · subst h2; rw [if_pos (by omega), if_pos h, hb]
    · rw [if_neg (by omega)]
theorem markL_true {l : List Bool} {i : Nat} (h : i < l.length) (hb : l[i]? = some true) : turnS 5 (markL l i) (5 + (i : Int)) 1 true = some (markL l (i + 1)) := by
  have hk : (5 + (i : Int) - 5).toNat = i := by omega
  have h1 : (1 : Int).toNat = 1 := rfl
  have hok : okS (markL l i) i 1 := by
    refine ⟨by rw [markL_len (by omega)]; omega, fun j h1 h2 => ?_⟩
    rw [markL_get (by omega), if_neg (by omega), if_pos (by omega)]
  unfold turnS
  rw [hk, h1, if_pos ⟨by omega, by omega, by rw [markL_len (by omega)]; omega, hok.idx⟩]
  congr 1
  apply List.ext_getElem?
  intro j
  rw [setL_get _ _ _ _ (by rw [markL_len (by omega)]; omega), markL_get (by omega), markL_get (by omega)]
  by_cases h2 : i ≤ j ∧ j < i + 1
  · obtain rfl : j = i := by omega
    rw [if_pos h2, if_pos (by omega), hb]
  · rw [if_neg h2]
    by_cases h3 : j < i
    · rw [if_pos h3, if_pos (by omega)]
    · rw [if_neg h3, if_neg (show ¬ j < i + 1 by omega)]
theorem segAll_zero (l : List Bool) (i : Nat) : (segL l i 0).all (! ·) = true := rfl
theorem segAll_step {l : List Bool} {i q : Nat} {b : Bool} (h : i + q < l.length) (hb : l[i + q]? = some b) : (segL l i (q + 1)).all (! ·) = ((segL l i q).all (! ·) && ! b) := by
  have : segL l i (q + 1) = segL l i q ++ [b] := by
    unfold segL
    rw [List.take_add_one, List.getElem?_drop, hb]; rfl
  rw [this, List.all_append]
  simp
/-- What the search for the first run has found ahead of i. -/
def SeekI (l : List Bool) (m i : Nat) (want : Int) : Prop :=
  (want = -1 ∧ ∀ i' < i, ¬ okS l i' m) ∨ (∃ j : Nat, want = 5 + (j : Int) ∧ okS l j m ∧ ∀ i' < j, ¬ okS l i' m)
theorem SeekI.yes {l : List Bool} {m i : Nat} (h : SeekI l m i (-1)) (hm : i + m ≤ l.length) (ha : (segL l i m).all (! ·) = true) : SeekI l m (i + 1) (5 + (i : Int)) := by
  rcases h with ⟨_, h⟩ | ⟨j, h, _⟩
  · exact .inr ⟨i, rfl, (okB_iff l i m).1 (by unfold okB; rw [ha]; simpa using hm), h⟩
  · omega
theorem SeekI.no {l : List Bool} {m i : Nat} (h : SeekI l m i (-1)) (ha : (segL l i m).all (! ·) = false) : SeekI l m (i + 1) (-1) := by
  rcases h with ⟨_, h⟩ | ⟨j, h, _⟩
  · refine .inl ⟨rfl, fun i' hi hok => ?_⟩
    by_cases h1 : i' < i
    · exact h i' h1 hok
    · obtain rfl : i' = i := by omega
      have := (okB_iff l i' m).2 hok
      unfold okB at this
      rw [ha] at this
      simp at this
  · omega
theorem SeekI.end_ {l : List Bool} {m i : Nat} {want : Int} (hm : 1 ≤ m) (h : SeekI l m i want) (hx : ¬ (i + m ≤ l.length ∧ want < 0)) : (want = -1 ∧ fstS l (m : Int) = none) ∨ (∃ j : Nat, want = 5 + (j : Int) ∧ fstS l (m : Int) = some j) := by
  rcases h with ⟨hw, h⟩ | ⟨j, hw, h1, h2⟩
  · refine .inl ⟨hw, fstS_none fun i' hok => ?_⟩
    by_cases h1 : i' < i
    · exact h i' h1 hok
    · have := hok.1; omega
  · exact .inr ⟨j, hw, fstS_some hm h1 h2⟩

theorem newN_of (n : Nat) (h : n ≤ 4000) : newN (n : Int) = n := by unfold newN; omega

set_option maxRecDepth 100000 in
theorem spaceFirst_long (A : Option Addr) (n c : Nat) (k : Int) (aB aO : Addr) (w : World) (hs : S19 w aB aO) (h : 40 < n) :
    Calls Tryd.prog 5 #[.slice A n c, .int .u8 k] w fun e w' => e = .returned (.bool true) ∧ Later w w' := by
  have HB := Lib.hid (begun19_any aB aO w hs)
  have hd : decide ((40 : Int) < (n : Int)) = true := by simp; omega
  clear hs h
  go_enter Tryd.func5, Tryd.ntmps5
  go_wp2_with fail
  refine HB.out.mono ?_
  rintro e w1 ⟨rfl, l1⟩
  go_wp2_with fail
  go_ret
  exact ⟨rfl, l1⟩

def MkI (l : List Bool) (p g c n : Nat) (w w2 : World) (iv : Value) (wr : World) : Prop :=
  ∃ i : Nat, iv = .int .i64 i ∧ i ≤ n ∧ Spc wr p 5 (markL l i) g c ∧ Later w wr
theorem MkI.mk {l : List Bool} {p g c n : Nat} {w w2 wr : World} (a : Int) (i : Nat) (ha : a = (i : Int)) (hi : i ≤ n) (h1 : Spc wr p 5 (markL l i) g c) (h2 : Later w wr) : MkI l p g c n w w2 (.int .i64 a) wr := by
  subst ha; exact ⟨i, rfl, hi, h1, h2⟩
def SkI (l : List Bool) (n m : Nat) (w : World) (sv iv : Value) (wr : World) : Prop :=
  ∃ (i : Nat) (want : Int), sv = .int .i64 want ∧ iv = .int .i64 i ∧ i ≤ n ∧ SeekI l m i want ∧ wr = w
theorem SkI.mk {l : List Bool} {n m : Nat} {w wr : World} (s a : Int) (i : Nat) (ha : a = (i : Int)) (hi : i ≤ n) (h1 : SeekI l m i s) (hw : wr = w) : SkI l n m w (.int .i64 s) (.int .i64 a) wr := by
  subst ha; exact ⟨i, s, rfl, rfl, hi, h1, hw⟩
def FrI (l : List Bool) (i m : Nat) (w : World) (fv mv : Value) (wr : World) : Prop :=
  ∃ (q : Nat) (b : Bool), fv = .bool b ∧ b = (segL l i q).all (! ·) ∧ mv = .int .i64 ((i : Int) + (q : Int)) ∧ q ≤ m ∧ wr = w
theorem FrI.mk {l : List Bool} {i m : Nat} {w wr : World} (b : Bool) (a : Int) (q : Nat) (ha : a = (i : Int) + (q : Int)) (hb : b = (segL l i q).all (! ·)) (hq : q ≤ m) (hw : wr = w) : FrI l i m w (.bool b) (.int .i64 a) wr := by
  subst ha; exact ⟨q, b, rfl, hb, rfl, hq, hw⟩
/-- A cell of a slice of bools. -/
theorem Has.bool {w : World} {A : Option Addr} {l : List Bool} (h : Has w A (bools l)) (j : Nat) (hj : j < l.length) : ∃ b o, A = some ⟨b, o, none⟩ ∧ w.cell? ⟨b, o + j, none⟩ = some (.bool l[j]) := by
  rcases h with h | ⟨b', o', h1, _, h3⟩
  · have := congrArg List.length h
    rw [bools_length] at this
    rw [show l.length = 0 from this] at hj
    omega
  · exact ⟨b', o', h1, h3 j _ (bools_get _ _ hj)⟩

set_option maxRecDepth 100000 in
set_option maxHeartbeats 8000000 in
theorem spaceFirst_walk (A : Option Addr) (n c : Nat) (l : List Bool) (k : Nat) (aB aO : Addr) (w : World) (hs : S19 w aB aO) (hn : n = l.length) (h40 : n ≤ 40) (hr : Has w A (bools l)) (hk : k < 256) :
    Calls Tryd.prog 5 #[.slice A n c, .int .u8 k] w fun e w' => e = .returned (.bool true) ∧ Later w w' := by
  have HB := Lib.hid (begun19_any aB aO w hs)
  have HS := Lib.hid hs
  have HR := Lib.hid hr
  have HN := Lib.hid hn
  have hd : decide ((40 : Int) < (n : Int)) = false := by simp; omega
  obtain ⟨m, hm⟩ : ∃ m : Nat, 1 + (k : Int) % 8 = (m : Int) := ⟨1 + k % 8, by omega⟩
  have HM := Lib.hid (show 1 ≤ m ∧ m ≤ 8 by omega)
  clear hs hn hr
  go_enter Tryd.func5, Tryd.ntmps5
  go_wp2_with fail
  refine HB.out.mono ?_
  rintro e w1 ⟨rfl, l1⟩
  have HNW := Lib.hid (spaceNew_any 5 n w1)
  have HL1 := Lib.hid l1
  clear l1 HB
  go_wp2_with fail
  refine HNW.out.mono ?_
  rintro e w2 ⟨p, g, cc, rfl, sp2, l2, hp, hg⟩
  rw [newN_of n (by omega), show max (5 : Int) 0 = 5 from rfl] at sp2
  have HSP := Lib.hid (show Spc w2 p 5 (markL l 0) g cc by rw [markL_zero, ← HN.out]; exact sp2)
  have HL2 := Lib.hid (HL1.out.trans l2)
  have HG := Lib.hid (show w.heap.size ≤ g by have := HL1.out.size; omega)
  clear sp2 l2 hp hg HL1 HNW
  go_wp2_with fail
  go_loopw [6] (fun iv wr => MkI l p g cc n w w2 iv wr) (fun iv _ => n - (intOf iv).toNat)
  case atStart => exact MkI.mk 0 0 rfl (Nat.zero_le _) HSP.out HL2.out
  case round =>
    obtain ⟨i, rfl, hi, hsp, hla⟩ := hrel
    have HSPI := Lib.hid hsp
    have HLI := Lib.hid hla
    by_cases hlt : i < n
    · have hlt' : i < l.length := by rw [← HN.out]; exact hlt
      obtain ⟨ab, off, rfl, hcell⟩ := (HR.out.later hla).bool i hlt'
      obtain ⟨x, hx⟩ : ∃ x, x = l[i] := ⟨_, rfl⟩
      rw [← hx] at hcell
      have HX := Lib.hid (show l[i]? = some x by rw [List.getElem?_eq_getElem hlt', hx])
      have HMK := Lib.hid (spaceMark_any p 5 (markL l i) g cc (5 + (i : Int)) 1 aB aO wr hsp (HS.out.later hla) (by decide) (by decide) (by rw [markL_len (by omega), ← HN.out]; omega) (by omega))
      clear hx hlt' hsp hla
      cases x
      · go_wp2_with fail
        go_roundw
        case rel => exact MkI.mk _ (i + 1) (by go_num) (by omega) (by rw [markL_false (by rw [← HN.out]; exact hlt) HX.out]; exact HSPI.out) HLI.out
        case measure => simp [intOf]; omega
      · go_wp2_with fail
        refine HMK.out.mono ?_
        rintro e w3 ⟨rfl, sp3, g3⟩
        rw [markL_true (by rw [← HN.out]; exact hlt) HX.out] at sp3 ⊢
        have SP3 := Lib.hid sp3
        have L3 := Lib.hid (HLI.out.only g3 HG.out)
        rw [show (some (markL l (i + 1))).isSome = true from rfl]
        clear sp3 g3
        go_wp2_with fail
        go_roundw
        case rel => exact MkI.mk _ (i + 1) (by go_num) (by omega) SP3.out L3.out
        case measure => simp [intOf]; omega
    · obtain rfl : i = n := by omega
      clear hsp hla HSP HL2
      have HSW := Lib.hid (show Spc wr p 5 l g cc by have := HSPI.out; rw [HN.out, markL_all] at this; exact this)
      have hm8 := HM.out
      go_wp2_with fail
      go_loopw [8, 9] (fun sv iv wx => SkI l i m wr sv iv wx) (fun sv iv _ => (i - (intOf iv).toNat))
      case atStart => exact SkI.mk (-1) 0 0 rfl (Nat.zero_le _) (.inl ⟨rfl, fun i' h => by omega⟩) rfl
      case round =>
        obtain ⟨j, want, rfl, rfl, hj, hsk, rfl⟩ := hrel
        have HSK := Lib.hid hsk
        clear hsk
        by_cases hgo : j + m ≤ i ∧ want < 0
        · have d1 : decide ((j : Int) + (m : Int) ≤ (i : Int)) = true := by simp; omega
          have d2 : decide (want < 0) = true := by simp; omega
          have hw1 : want = -1 := by
            rcases HSK.out with ⟨h, _⟩ | ⟨j', h, _⟩
            · exact h
            · omega
          subst hw1
          go_wp2_with fail
          have hjm := hgo.1
          have HJM := Lib.hid (show j + m ≤ l.length by rw [← HN.out]; exact hjm)
          go_loopw [10, 11] (fun fv mv wy => FrI l j m wr fv mv wy) (fun fv mv _ => (j + m - (intOf mv).toNat))
          case atStart => exact FrI.mk true _ 0 (by go_num) rfl (Nat.zero_le _) rfl
          case round =>
            obtain ⟨q, b, rfl, hb, rfl, hq, rfl⟩ := hrel
            have HBQ := Lib.hid hb
            clear hb
            by_cases hql : q < m
            · have d3 : decide ((j : Int) + (q : Int) < (j : Int) + (m : Int)) = true := by simp; omega
              have hlt' : j + q < l.length := by have := HJM.out; omega
              obtain ⟨ab, off, rfl, hcell⟩ := (HR.out.later HLI.out).bool (j + q) hlt'
              obtain ⟨x, hx⟩ : ∃ x, x = l[j + q] := ⟨_, rfl⟩
              rw [← hx] at hcell
              have HX := Lib.hid (show l[j + q]? = some x by rw [List.getElem?_eq_getElem hlt', hx])
              have e1 : (j : Int) + (q : Int) = ((j + q : Nat) : Int) := by omega
              rw [e1] at d3
              have hjq : j + q < i := by rw [HN.out]; exact hlt'
              clear hx hlt'
              rw [e1]
              clear e1
              cases b
              · go_wp2_with fail
                go_roundw
                case rel => exact FrI.mk false _ (q + 1) (by go_num) (by rw [segAll_step (by have := HN.out; omega) HX.out, ← HBQ.out]; rfl) (by omega) rfl
                case measure => simp [intOf]; omega
              · go_wp2_with fail
                go_roundw
                case rel => exact FrI.mk _ _ (q + 1) (by go_num) (by rw [segAll_step (by have := HN.out; omega) HX.out, ← HBQ.out]; rfl) (by omega) rfl
                case measure => simp [intOf]; omega
            · obtain rfl : q = m := by omega
              cases b
              · go_wp2_with fail
                go_roundw
                case rel => exact SkI.mk (n := i) _ _ (j + 1) (by go_num) (by omega) (HSK.out.no HBQ.out.symm) rfl
                case measure => simp [intOf]; omega
              · go_wp2_with fail
                go_roundw
                case rel => exact SkI.mk (n := i) _ _ (j + 1) (by go_num) (by omega) (HSK.out.yes HJM.out HBQ.out.symm) rfl
                case measure => simp [intOf]; omega
        · have HE := Lib.hid (HSK.out.end_ HM.out.1 (by rw [← HN.out]; exact hgo))
          have HTK := Lib.hid (spaceTake_any p 5 l g cc (m : Int) aB aO wr HSW.out (HS.out.later HLI.out) (by decide) (by decide) (by rw [← HN.out]; omega))
          by_cases h1 : j + m ≤ i
          · have d1 : decide ((j : Int) + (m : Int) ≤ (i : Int)) = true := by simp; omega
            have d2 : decide (want < 0) = false := by simp; omega
            go_wp2_with fail
            refine HTK.out.mono ?_
            intro e w9 h9
            rcases HE.out with ⟨rfl, hf⟩ | ⟨j', rfl, hf⟩
            · omega
            · rw [hf] at h9
              obtain ⟨rfl, sp9, g9⟩ := h9.yes
              have L9 := Lib.hid (HLI.out.only g9 HG.out)
              have hj5 : (0 : Int) ≤ 5 + (j' : Int) := by omega
              clear sp9 g9
              go_wp2_with fail
              go_ret
              exact ⟨rfl, L9.out.alloc _⟩
          · have d1 : decide ((j : Int) + (m : Int) ≤ (i : Int)) = false := by simp; omega
            go_wp2_with fail
            refine HTK.out.mono ?_
            intro e w9 h9
            rcases HE.out with ⟨rfl, hf⟩ | ⟨j', rfl, hf⟩
            · rw [hf] at h9
              obtain ⟨rfl, g9⟩ := h9.no
              have L9 := Lib.hid (HLI.out.trans g9)
              clear g9
              go_wp2_with fail
              go_ret
              exact ⟨rfl, L9.out.alloc _⟩
            · rw [hf] at h9
              obtain ⟨rfl, sp9, g9⟩ := h9.yes
              have L9 := Lib.hid (HLI.out.only g9 HG.out)
              have hj5 : (0 : Int) ≤ 5 + (j' : Int) := by omega
              clear sp9 g9
              go_wp2_with fail
              go_ret
              exact ⟨rfl, L9.out.alloc _⟩
end Go.Proofs.YtnmldploafpbdaaDoor
