/- Package log: records. -/
import Derived.Test.YtfplppldojlanaaDoorLogC
namespace Go.Proofs.YtfplppldojlanaaDoor
open Go.RowKit
set_option linter.unusedVariables false

theorem blk_hasL {w : World} {g : Nat} {cs : List Value} {t : TypeId} (h : Blk w g cs.toArray t) : Has w (some ⟨g, 0, none⟩) cs :=
  .inr ⟨g, 0, rfl, h.lt, fun k v hv => by rw [Nat.zero_add]; exact h.cell k v (by simpa using hv)⟩
/-- A slice of bytes as an element. -/
structure SlB where
  a : Option Addr
  c : Nat
  l : List Nat
def SlB.v (s : SlB) : Value := .slice s.a s.l.length s.c
theorem RB.grown {w w' : World} {base : Nat} {A : Option Addr} {l : List Nat} {row : Option Nat} (h : RB w base A l) (hg : w.grownBy w' row) (hr : ∀ x, row = some x → ∃ (cs : Array Value) (t : TypeId), w.heap[x]? = some (Obj.cells cs t (0, 0)) ∧ t ≠ 5) : RB w' base A l := by
  obtain ⟨b, o, cs, h1, h2, h3, h4⟩ := h
  refine ⟨b, o, cs, h1, h2, (hg.block b (Array.getElem?_eq_some_iff.1 h3).1 ?_).trans h3, h4⟩
  intro e
  obtain ⟨cs', t, h5, h6⟩ := hr b e.symm
  exact typed_no h5 h3 h6
theorem RB.low {w : World} {base base' : Nat} {A : Option Addr} {l : List Nat} (h : RB w base A l) (hb : base' ≤ base) : RB w base' A l := by
  obtain ⟨b, o, cs, h1, h2, h3, h4⟩ := h
  exact ⟨b, o, cs, h1, Nat.le_trans hb h2, h3, h4⟩
/-- A table of slices of bytes. -/
def TB (w : World) (base : Nat) (A : Option Addr) (n c : Nat) (ss : List SlB) : Prop :=
  w.ownsRow base 24 1 (.slice A n c) n (ss.map SlB.v) ∧ (∀ s ∈ ss, RB w base s.a s.l) ∧ (A = none → c = 0)
theorem TB.later {w w' : World} {base : Nat} {A : Option Addr} {n c : Nat} {ss : List SlB} (h : TB w base A n c ss) (k : Later w w') : TB w' base A n c ss :=
  ⟨own_later h.1 k, fun s hs => (h.2.1 s hs).later k, h.2.2⟩
theorem recL_fits {gen seq : Nat} {A : List (List Nat)} {r : List Nat} (h : recL gen A seq = some r) : seq + blkN r.length ≤ A.length ∧ r.length ≤ 65536 := by
  rcases ho : loadL gen A seq with _ | t
  · rw [recL_none ho] at h; cases h
  · rw [recL_some ho] at h
    split at h
    · cases h
    · split at h
      · cases h
      · rename_i h1 h2
        generalize numH (t.take 4) = m at h h2
        rcases hg : growL gen A seq (blkN m) (blkN m) 1 t with _ | u
        · rw [hg] at h; cases h
        · rw [hg] at h
          dsimp only at h
          split at h
          · rename_i h3
            injection h with h
            have : r.length = m := by rw [← h, List.length_drop]; omega
            rw [this]; omega
          · cases h
theorem recsL_go {gen f seq : Nat} {A : List (List Nat)} : recsL gen A (f + 1) seq = if seq < A.length then (match recL gen A seq with | none => [] | some r => r :: recsL gen A f (seq + blkN r.length)) else [] := by rw [recsL]; rfl
/-- Where records' loop stands. -/
def RcsI (gen : Nat) (Ar : List (List Nat)) (R : List (List Nat)) (W : World) (rv sv : Value) (wr : World) : Prop :=
  ∃ (k : Nat) (ss : List SlB) (A : Option Addr) (c : Nat), rv = .slice A ss.length c ∧ sv = .int .i64 k ∧ ss.length ≤ k ∧ k ≤ Ar.length ∧ ss.map (·.l) ++ recsL gen Ar (Ar.length + 1 - ss.length) k = R ∧ (∀ s ∈ ss, s.l.length ≤ 65536) ∧ TB wr W.heap.size A ss.length c ss ∧ Later W wr
theorem RcsI.mk {gen : Nat} {Ar : List (List Nat)} {R : List (List Nat)} {W wr : World} (y : Int) (k : Nat) (ss : List SlB) (A : Option Addr) (n c : Nat) (hy : y = (k : Int)) (hn : n = ss.length) (h1 : ss.length ≤ k) (h2 : k ≤ Ar.length) (h3 : ss.map (·.l) ++ recsL gen Ar (Ar.length + 1 - ss.length) k = R) (h6 : ∀ s ∈ ss, s.l.length ≤ 65536) (h4 : TB wr W.heap.size A n c ss) (L : Later W wr) : RcsI gen Ar R W (.slice A n c) (.int .i64 y) wr := by
  subst hy hn; exact ⟨k, ss, A, c, rfl, rfl, h1, h2, h3, h6, h4, L⟩
/-- What records gives. -/
def RcsP (R : List (List Nat)) (w : World) (e : Ending) (w' : World) : Prop :=
  ∃ (ss : List SlB) (A : Option Addr) (c : Nat), e = .returned (.slice A ss.length c) ∧ ss.map (·.l) = R ∧ (∀ s ∈ ss, s.l.length ≤ 65536) ∧ TB w' w.heap.size A ss.length c ss ∧ Later w w'

set_option maxRecDepth 100000 in
set_option maxHeartbeats 4000000 in
theorem logRecords_any (base p gs gn B cs cn : Nat) (A : Option Addr) (cf : Nat) (d : D) (q area gen used : Nat) (a : Addr) (w : World) (h : DA w base p gs gn B cs cn A cf d) (hB : B ≤ 4000) (hq : LogBk w q p area gen used) (hf : FitsD B area) (hg : gen < 4294967296) (hs : S21 w a) :
    Calls Tryd.prog 25 #[lptr q] w (RcsP (recsL gen (areaG area gen d.now) (area + 1) 0) w) := by
  have hAl : (areaG area gen d.now).length = area := areaG_len (by rw [h.2.2.1.1]; have := hf.2.2; omega)
  have harea : area ≤ 1000 := by have := hf.2.1; omega
  have HREC := Lib.hid (fun (W : World) (l : Later w W) (seq : Nat) (hseq : seq < area) => logRecord_any base p gs gn B cs cn A cf d q area gen used seq a W (h.later l) hB (hq.later l) hf hseq hg (hs.later l))
  have HQ := Lib.hid hq
  have HS := Lib.hid hs
  obtain ⟨Ar, hAr⟩ : ∃ x, areaG area gen d.now = x := ⟨_, rfl⟩
  rw [hAr] at HREC hAl ⊢
  have HAL := Lib.hid hAl
  obtain ⟨R, hR⟩ : ∃ x, recsL gen Ar (area + 1) 0 = x := ⟨_, rfl⟩
  rw [hR]
  have HI0 := Lib.hid (RcsI.mk (gen := gen) (Ar := Ar) (R := R) (W := w) (wr := w) 0 0 [] none 0 0 rfl rfl (Nat.zero_le _) (Nat.zero_le _) (by rw [hAl]; exact hR) (fun s hs => by cases hs) ⟨ownG_nil _ _ _ _, (fun s hs => by cases hs), fun _ => rfl⟩ (Later.refl _))
  have HIN := Lib.hid (fun (W : World) => is_nil a W)
  clear h hq hs hAr hAl hR
  go_enter Tryd.func25, Tryd.ntmps25
  go_wp2_with fail
  go_loopw [3, 4] (fun rv sv wr => RcsI gen Ar R w rv sv wr) (fun _ k _ => area - (intOf k).toNat)
  case atStart => exact HI0.out
  case round =>
    obtain ⟨k, ss, T, tc, rfl, rfl, hk1, hk2, hR, h65, htb, lat⟩ := hrel
    have HTB := Lib.hid htb
    have H65 := Lib.hid h65
    have HLAT := Lib.hid lat
    have c1 := (HQ.out.later lat).cell 1 _ rfl
    have hal := HAL.out
    have hk3 : k ≤ area := by omega
    rw [show Ar.length + 1 - ss.length = (Ar.length - ss.length) + 1 by omega, recsL_go] at hR
    clear htb h65 lat HI0 hal hk2
    by_cases hlt : k < area
    · rw [if_pos (by rw [HAL.out]; exact hlt)] at hR
      have HR := Lib.hid hR
      have hd : decide ((k : Int) < (area : Int)) = true := by rw [decide_eq_true_iff]; omega
      have hd2 : decide (k < area) = true := by rw [decide_eq_true_iff]; omega
      clear hR
      go_wp2_with fail
      refine (HREC.out wr HLAT.out k hlt).mono ?_
      rintro e w1 ⟨⟨r, RA, rc, ho, rfl, hrb, hr65⟩ | ⟨ho, pb, po, rfl, hc⟩, l1⟩
      · have hR := HR.out
        rw [ho] at hR
        obtain ⟨hfit, _⟩ := recL_fits ho
        rw [HAL.out] at hfit
        have HR2 := Lib.hid (show ss.map (·.l) ++ (r :: recsL gen Ar (Ar.length - ss.length) (k + blkN r.length)) = R from hR)
        have HL1 := Lib.hid (HLAT.out.trans l1)
        have e0 := (HS.out.later HL1.out).whole
        have HRB := Lib.hid (hrb.low HLAT.out.size)
        have HTB1 := Lib.hid (HTB.out.later l1)
        have HBK := Lib.hid (fun (wz : World) => Blk.new wz #[.slice RA r.length rc] 24 wz.heap.size rfl)
        have HOB := Lib.hid (fun (o : Obj) => own_later HTB1.out.1 (Later.new w1 o))
        have hs1 := HL1.out.size
        have HBLK := Lib.hid (fun (W : World) => logBlocks_any r.length W (by omega))
        have hwb : IntKind.i64.wrap ((k : Int) + ((blkN r.length : Nat) : Int)) = (k : Int) + ((blkN r.length : Nat) : Int) := IntWalk.i64_in _ ⟨by omega, by omega⟩
        have hbp := blkN_pos r.length
        clear hR HR ho hrb l1 HTB
        go_wp2_with fail
        refine (HIN.out w1).mono ?_
        rintro e w2 ⟨rfl, rfl⟩
        go_wp2_with (at_builtin; go_loud (refine wpList_append_g _ rfl (.tmp 22) (.tmp 24) 33 rfl w.heap.size 24 _ 1 24 Tryd.underlying33 info_bs rfl (by decide) _ ss.length _ rfl (HOB.out _) _ 1 1 [.slice RA r.length rc] rfl (blk_hasL (HBK.out w1)) rfl (by intro h; cases h) (by intro u hu; rw [List.mem_singleton] at hu; subst hu; rfl) (by unfold maxLen; omega) (by omega) (by simp; omega) ?_); rintro A' c' wq hO hgr hbel hn2; have HO2 := Lib.hid hO; have HN2 := Lib.hid hn2; have HL3 := Lib.hid (Later.of ((HL1.out.alloc _).below.trans hbel)); have HGR := Lib.hid hgr; clear hO hn2 hbel hgr)
        refine (HBLK.out wq).mono ?_
        rintro e w3 ⟨rfl, rfl⟩
        go_wp2_with fail
        go_roundw
        case rel =>
          refine RcsI.mk _ (k + blkN r.length) (ss ++ [⟨RA, rc, r⟩]) _ _ _ (by omega) (by rw [List.length_append]; rfl) (by rw [List.length_append, List.length_singleton]; omega) (by rw [HAL.out]; exact hfit) ?_ ?_ ⟨by rw [List.map_append]; exact HO2.out, ?_, HN2.out⟩ HL3.out
          · rw [← HR2.out, List.map_append, List.append_assoc, List.length_append, List.length_singleton, show Ar.length + 1 - (ss.length + 1) = Ar.length - ss.length by omega]
            rfl
          · intro s hs
            rcases List.mem_append.1 hs with h | h
            · exact H65.out s h
            · rw [List.mem_singleton] at h; subst h; exact hr65
          · have hr2 : ∀ x, (Value.slice T ss.length tc).ownBlock = some x → ∃ (cs : Array Value) (t : TypeId), (w1.alloc (.cells #[.slice RA r.length rc] 24)).heap[x]? = some (Obj.cells cs t (0, 0)) ∧ t ≠ 5 := fun x hx => by
              obtain ⟨c, hc⟩ := devblk_v (HOB.out _) x hx
              exact ⟨c, _, hc, by decide⟩
            intro s hs
            rcases List.mem_append.1 hs with h | h
            · exact ((HTB1.out.2.1 s h).later (Later.new w1 _)).grown HGR.out hr2
            · rw [List.mem_singleton] at h; subst h
              exact (HRB.out.later (Later.new w1 _)).grown HGR.out hr2
        case measure => simp [intOf]; omega
      · have hR := HR.out
        rw [ho] at hR
        have HX := Lib.hid (show ss.map (·.l) = R from by rw [← hR]; exact (List.append_nil _).symm)
        have HIS := Lib.hid (is_wrap_same pb po a w1 hc)
        have HL1 := Lib.hid (HLAT.out.trans l1)
        have e0 := (HS.out.later HL1.out).whole
        have HTB1 := Lib.hid (HTB.out.later l1)
        clear hR HR ho hc l1 HTB
        go_wp2_with fail
        refine HIS.out.mono ?_
        rintro e w2 ⟨rfl, rfl⟩
        go_wp2_with fail
        go_ret
        exact ⟨ss, T, tc, rfl, HX.out, H65.out, HTB1.out, HL1.out⟩
    · rw [if_neg (by rw [HAL.out]; exact hlt), List.append_nil] at hR
      have HX := Lib.hid hR
      have hd : decide ((k : Int) < (area : Int)) = false := by rw [decide_eq_false_iff_not]; omega
      have hd2 : decide (k < area) = false := by rw [decide_eq_false_iff_not]; omega
      clear hR
      go_wp2_with fail
      go_ret
      exact ⟨ss, T, tc, rfl, HX.out, H65.out, HTB.out, HLAT.out⟩
end Go.Proofs.YtfplppldojlanaaDoor
