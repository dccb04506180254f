/- Package log: fits, write. -/
import Derived.Test.YtfplppldojlanaaDoorLogD
namespace Go.Proofs.YtfplppldojlanaaDoor
open Go.RowKit
set_option linter.unusedVariables false

/-- Why records may not be laid in so many blocks: 0: they may. -/
def fitsE (room : Int) (L : List (List Nat)) : Int := if L.all (fun r => decide (r.length ≤ 65536)) then (if room < (sumN L : Int) then 6 else 0) else 1
/-- An error that tells e. -/
def LErr (n : Int) (w : World) (e : Ending) (w' : World) : Prop := ((n = 0 ∧ e = .returned .nilIface) ∨ (n ≠ 0 ∧ ∃ v, e = .returned v ∧ WrapsE w' v n)) ∧ Later w w'
theorem sumN_take {L : List (List Nat)} {k : Nat} (h : k < L.length) : sumN (L.take (k + 1)) = sumN (L.take k) + blkN L[k].length := by
  rw [List.take_succ_eq_append_getElem h, sumN_snoc]
theorem sumN_le {L : List (List Nat)} (h : ∀ r ∈ L, r.length ≤ 65536) : sumN L ≤ 600 * L.length := by
  induction L with
  | nil => exact Nat.le_refl _
  | cons r L ih =>
    have h1 := ih fun x hx => h x (by simp [hx])
    have h2 := h r (by simp)
    have h3 : blkN r.length ≤ 600 := by unfold blkN; omega
    have h4 : sumN (r :: L) = blkN r.length + sumN L := by unfold sumN; rw [List.map_cons, List.sum_cons]
    rw [h4, List.length_cons]; omega
/-- Where fits' loop stands. -/
def FtI (L : List (List Nat)) (W : World) (nv iv : Value) (wr : World) : Prop :=
  ∃ k : Nat, nv = .int .i64 ((sumN (L.take k) : Nat) : Int) ∧ iv = .int .i64 k ∧ k ≤ L.length ∧ (∀ r ∈ L.take k, r.length ≤ 65536) ∧ Later W wr
theorem FtI.mk {L : List (List Nat)} {W wr : World} (y x : Int) (k : Nat) (hy : y = (k : Int)) (hx : x = ((sumN (L.take k) : Nat) : Int)) (hk : k ≤ L.length) (h : ∀ r ∈ L.take k, r.length ≤ 65536) (l : Later W wr) : FtI L W (.int .i64 x) (.int .i64 y) wr := by
  subst hy hx; exact ⟨k, rfl, rfl, hk, h, l⟩

set_option maxRecDepth 100000 in
set_option maxHeartbeats 2000000 in
theorem logFits_any (room : Int) (A : Option Addr) (n c : Nat) (ss : List SlB) (w : World) (hn : n = ss.length) (hl : ss.length ≤ 100000) (hr : Has w A (ss.map SlB.v)) (hm : ∀ s ∈ ss, s.l.length ≤ 9223372036854775807) :
    Calls Tryd.prog 38 #[.int .i64 room, .slice A n c] w (LErr (fitsE room (ss.map (·.l))) w) := by
  subst hn
  obtain ⟨L, hL⟩ : ∃ x, ss.map (·.l) = x := ⟨_, rfl⟩
  have HLL := Lib.hid (show ss.length = L.length from by rw [← hL, List.length_map])
  have HLK := Lib.hid (show ∀ k (h : k < ss.length) (h2 : k < L.length), ss[k].l = L[k] from fun k h h2 => by subst hL; simp)
  rw [hL]
  have HR := Lib.hid hr
  have HM := Lib.hid hm
  have HI0 := Lib.hid (FtI.mk (L := L) (W := w) (wr := w) 0 0 0 rfl rfl (Nat.zero_le _) (by intro r hr; simp at hr) (Later.refl _))
  have HE := Lib.hid (fun (s : ByteArray) (p e : Int) (W : World) => at_e s p e W)
  have HO := Lib.hid (fun (e : Int) (h : e ≠ 0) W => of_some e W h)
  clear hr hm hL
  go_enter Tryd.func38, Tryd.ntmps38
  go_wp2_with fail
  go_loopw [5, 10] (fun nv iv wr => FtI L w nv iv wr) (fun _ i _ => ss.length - (intOf i).toNat)
  case atStart => exact HI0.out
  case round =>
    obtain ⟨k, rfl, rfl, hk, hall, lat⟩ := hrel
    have HALL := Lib.hid hall
    have HLAT := Lib.hid lat
    have hll := HLL.out
    have hk' : k ≤ ss.length := by omega
    have hsum := sumN_le HALL.out
    have hs6 : sumN (L.take k) ≤ 60000000 := by rw [List.length_take] at hsum; omega
    clear hall HI0 hk hll hsum
    by_cases hlt : k < ss.length
    · have hkl : k < L.length := by rw [← HLL.out]; exact hlt
      obtain ⟨b, off, hA, _, hc⟩ := (HR.out.later lat).at_ (k := k) (by rw [List.length_map]; exact hlt)
      subst hA
      have hv : (ss.map SlB.v)[k]'(by rw [List.length_map]; exact hlt) = .slice ss[k].a L[k].length ss[k].c := by
        rw [List.getElem_map, ← HLK.out k hlt hkl]; rfl
      rw [hv] at hc
      have hmx := HM.out _ (List.getElem_mem hlt)
      rw [HLK.out k hlt hkl] at hmx
      have HST := Lib.hid (sumN_take hkl)
      have HAL2 := Lib.hid (fun (h : L[k].length ≤ 65536) => show ∀ r ∈ L.take (k + 1), r.length ≤ 65536 from fun r hr => by
        rw [List.take_succ_eq_append_getElem hkl] at hr
        rcases List.mem_append.1 hr with h1 | h1
        · exact HALL.out r h1
        · rw [List.mem_singleton] at h1; subst h1; exact h)
      have HBAD := Lib.hid (fun (h : ¬ L[k].length ≤ 65536) => show fitsE room L = 1 from by
        unfold fitsE
        rw [if_neg]
        intro h2
        rw [List.all_eq_true] at h2
        exact h (of_decide_eq_true (h2 _ (List.getElem_mem hkl))))
      generalize L[k].length = m at hc hmx HST HAL2 HBAD
      generalize ss[k].a = sa at hc
      generalize ss[k].c = sc at hc
      have hkz : (k : Int) < (ss.length : Int) := by omega
      clear lat hv
      by_cases hb : 65536 < m
      · have hd : decide ((65536 : Int) < (m : Int)) = true := by rw [decide_eq_true_iff]; omega
        have hd2 : decide (65536 < m) = true := by rw [decide_eq_true_iff]; omega
        have HX := Lib.hid (HBAD.out (by omega))
        clear hb
        go_wp2_with fail
        refine (HO.out 1 (by decide) _).mono ?_
        rintro e w1 ⟨rfl, rfl⟩
        go_wp2_with fail
        refine (HE.out _ _ _ _).mono ?_
        rintro e w2 ⟨v, rfl, hv, l2⟩
        have HV := Lib.hid hv
        have HL2 := Lib.hid (HLAT.out.trans l2)
        clear hv l2
        go_wp2_with fail
        go_ret
        rw [HX.out]
        exact ⟨.inr ⟨by decide, v, rfl, HV.out⟩, HL2.out⟩
      · have hd : decide ((65536 : Int) < (m : Int)) = false := by rw [decide_eq_false_iff_not]; omega
        have hd2 : decide (65536 < m) = false := by rw [decide_eq_false_iff_not]; omega
        have HBLK := Lib.hid (fun (W : World) => logBlocks_any m W (by omega))
        have hbl : blkN m ≤ 600 := by unfold blkN; omega
        have hw1 : IntKind.i64.wrap (((sumN (L.take k) : Nat) : Int) + ((blkN m : Nat) : Int)) = ((sumN (L.take k) : Nat) : Int) + ((blkN m : Nat) : Int) := IntWalk.i64_in _ ⟨by omega, by omega⟩
        have HNB := Lib.hid hb
        clear hb
        go_wp2_with fail
        refine (HBLK.out _).mono ?_
        rintro e w1 ⟨rfl, rfl⟩
        go_wp2_with fail
        go_roundw
        case rel => exact FtI.mk _ _ (k + 1) (by omega) (by rw [HST.out]; push_cast; rfl) hkl (HAL2.out (by have := HNB.out; omega)) HLAT.out
        case measure => simp [intOf]; omega
    · have HX := Lib.hid (show fitsE room L = if room < (sumN L : Int) then 6 else 0 from by
        unfold fitsE
        rw [if_pos]
        rw [List.all_eq_true]
        intro r hr
        have h1 := HALL.out r (by rw [List.take_of_length_le (by have := HLL.out; omega)]; exact hr)
        exact decide_eq_true h1)
      have hS : L.take k = L := List.take_of_length_le (by have := HLL.out; omega)
      rw [hS] at hs6 ⊢
      have hkz : ¬ (k : Int) < (ss.length : Int) := by omega
      obtain ⟨S, hSS⟩ : ∃ x, sumN L = x := ⟨_, rfl⟩
      rw [hSS] at HX ⊢
      clear lat hS hs6 hSS
      by_cases hr : room < (S : Int)
      · have hd : decide (room < (S : Int)) = true := by rw [decide_eq_true_iff]; exact hr
        have HX2 := Lib.hid (show fitsE room L = 6 from by rw [HX.out, if_pos hr])
        clear hr
        go_wp2_with fail
        refine (HO.out 6 (by decide) _).mono ?_
        rintro e w1 ⟨rfl, rfl⟩
        go_wp2_with fail
        refine (HE.out _ _ _ _).mono ?_
        rintro e w2 ⟨v, rfl, hv, l2⟩
        have HV := Lib.hid hv
        have HL2 := Lib.hid (HLAT.out.trans l2)
        clear hv l2
        go_wp2_with fail
        go_ret
        rw [HX2.out]
        exact ⟨.inr ⟨by decide, v, rfl, HV.out⟩, HL2.out⟩
      · have hd : decide (room < (S : Int)) = false := by rw [decide_eq_false_iff_not]; exact hr
        have HX2 := Lib.hid (show fitsE room L = 0 from by rw [HX.out, if_neg hr])
        clear hr
        go_wp2_with fail
        go_ret
        rw [HX2.out]
        exact ⟨.inl ⟨rfl, rfl⟩, HLAT.out⟩

set_option maxRecDepth 100000 in
set_option maxHeartbeats 2000000 in
theorem logWrite_any (base p gs gn B cs cn : Nat) (A : Option Addr) (cf : Nat) (d : D) (q area gen used i seq : Nat) (A2 : Option Addr) (m c : Nat) (l : List Nat) (w : World) (h : DA w base p gs gn B cs cn A cf d) (hB : B ≤ 4000) (hq : LogBk w q p area gen used) (hg : gen < 4294967296) (hsq : seq < 4294967296) (hi : i < B) (hs : d.stopped = false) (hm : m = l.length) (hl : l.length ≤ 110) (h256 : ∀ x ∈ l, x < 256) (hr : Has w A2 (ints .u8 l)) (hnil : A2 = none → c = 0) (hf : d.fly.length ≤ 100000) (hw : d.writes ≤ 100000 ∧ 0 ≤ d.writes) (hbase : base ≤ w.heap.size) :
    Calls Tryd.prog 43 #[lptr q, .int .i64 i, .int .u32 seq, .slice A2 m c] w fun e w' => e = .returned (.tuple #[]) ∧ DoneG base p gs gn B (d.wr i (tagB gen seq l)) w w' := by
  subst hm
  have HP := Lib.hid (tagPut_any gen seq A2 l.length c l w hg hsq rfl hr hnil)
  have HQ := Lib.hid hq
  have HD := Lib.hid h
  have hput : putT20 gen seq l = some (tagB gen seq l) := if_pos hl
  have HPUT := Lib.hid hput
  have HTL := Lib.hid (tagB_len (g := gen) (s := seq) hl)
  have HTT := Lib.hid (tagB_lt (g := gen) (s := seq) hl h256)
  have hq2 := hq.cell 2 _ rfl
  clear h hq hr h256 hput
  go_enter Tryd.func43, Tryd.ntmps43
  go_wp2_with fail
  refine HP.out.mono ?_
  intro e w1 hpt
  obtain ⟨A3, c3, rfl, hown, l1⟩ := hpt.yes HPUT.out
  have HW := Lib.hid (devWrite_g base p gs gn B cs cn A cf d i A3 c3 (tagB gen seq l) w1 (HD.out.later l1) hi hB hs HTL.out (Has.own hown) HTT.out hf hw (Nat.le_trans hbase l1.size) (fun h => by obtain ⟨gb, hgb⟩ := own_some hown (by decide); rw [h] at hgb; cases hgb))
  have hq0 := (HQ.out.later l1).cell 0 _ rfl
  have HL1 := Lib.hid l1
  clear hpt hown l1 hq2 HP
  go_wp2_with fail
  refine HW.out.mono ?_
  rintro e w2 ⟨rfl, hdone⟩
  have HDN := Lib.hid hdone
  clear hdone HW hq0
  go_wp2_with fail
  go_end0
  exact ⟨rfl, HDN.out.1, (KG.later HL1.out).trans HDN.out.2.1, (Below.mono HL1.out.below hbase).trans HDN.out.2.2⟩
end Go.Proofs.YtfplppldojlanaaDoor
