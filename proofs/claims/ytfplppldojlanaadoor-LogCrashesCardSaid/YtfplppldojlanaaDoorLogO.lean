/- Package log: Open. -/
import Derived.Test.YtfplppldojlanaaDoorLogL
namespace Go.Proofs.YtfplppldojlanaaDoor
open Go.RowKit
set_option linter.unusedVariables false

theorem TB.kl {w w' : World} {base gs gn q : Nat} {A : Option Addr} {n c : Nat} {ss : List SlB} {xs : Array Value} (h : TB w base A n c ss) (k : KL gs gn q w w') (hq : Blk w q xs 61) (h1 : gs < base) (h2 : gn < base) : TB w' base A n c ss := by
  refine ⟨?_, fun s hs => (h.2.1 s hs).kl k hq, h.2.2⟩
  obtain ⟨a1, a2⟩ := h.1
  refine ⟨a1, ?_⟩
  rcases a2 with a2 | ⟨g, cap, cur, ha, hb, hg, hrest⟩
  · exact .inl a2
  · refine .inr ⟨g, cap, cur, ha, hb, (k.2.2.2.2.2 g cur (fun e => ?_) (by omega) (by omega) hg).trans hg, hrest⟩
    subst e
    exact typed_no hq hg (by decide)
theorem TB.has {w : World} {base : Nat} {A : Option Addr} {n c : Nat} {ss : List SlB} (h : TB w base A n c ss) : Has w A (ss.map SlB.v) ∧ ∀ s ∈ ss, Has w s.a (ints .u8 s.l) := ⟨Has.own h.1, fun s hs => (h.2.1 s hs).has⟩
/-- What Open gives of a log that is there. -/
def OpenP (base p gs gn B area gen wn : Nat) (recs : List (List Nat)) (w : World) (e : Ending) (w' : World) : Prop :=
  ∃ (q : Nat) (T : Option Addr) (c : Nat) (ss : List SlB) (now : List (List Nat)), e = .returned (.tuple #[lptr q, .slice T ss.length c, .int .i64 0]) ∧ ss.map (·.l) = recs ∧ TB w' w.heap.size T ss.length c ss ∧ w.heap.size ≤ q ∧ LgS area (gen + 1) recs now ∧
    LayP base p gs gn B q area (gen + 1) (sumN recs) 0 (wn + area + sumN recs + 1) now w w'
set_option maxRecDepth 100000 in
set_option maxHeartbeats 2000000 in
theorem logOpen_any (base p gs gn B cs cn : Nat) (A : Option Addr) (cf : Nat) (d : D) (area gen : Nat) (recs : List (List Nat)) (a : Addr) (w : World) (f wn : Nat) (h : DA w base p gs gn B cs cn A cf d) (hB : B ≤ 4000) (hf : FitsD B area) (hS : LgS area gen recs d.now) (hg1 : 1 ≤ gen) (hg : gen + 1 ≤ 4294967294) (hd : DOk B f wn d) (hfl : f ≤ 20000) (hwn : wn ≤ 20000) (hbw : base ≤ w.heap.size)
    (hs : ∀ r ∈ recs, r.length ≤ 990 ∧ ∀ x ∈ r, x < 256) (hse : S21B base w a) :
    Calls Tryd.prog 12 #[dptr p, .int .i64 area] w (OpenP base p gs gn B area gen wn recs w) := by
  have harea : area ≤ 1000 := by have := hf.2.1; omega
  obtain ⟨b0, b1, hb0, hb1, hmax⟩ := hS.found (by omega)
  have hlts : gs < w.heap.size ∧ gn < w.heap.size := by
    obtain ⟨_, ⟨_, vs, s2, _⟩, ⟨_, ns, n2, _⟩, _⟩ := h
    exact ⟨(s2.lt gs rfl).2, (n2.lt gn rfl).2⟩
  have hrl : recs.length ≤ 1000 := by
    have h1 := hS.sum
    have h2 : recs.length ≤ sumN recs := by
      clear hS h1 hs hb0 hb1 hmax
      induction recs with
      | nil => exact Nat.le_refl _
      | cons r rs ih =>
        have h4 : sumN (r :: rs) = blkN r.length + sumN rs := by unfold sumN; rw [List.map_cons, List.sum_cons]
        have := blkN_pos r.length
        rw [h4, List.length_cons]; omega
    omega
  have hread := hS.read ⟨hg1, by omega⟩ harea (fun r hr => by have := (hs r hr).1; omega) (area + 1) (by
    have h1 := hS.sum
    have h2 : recs.length ≤ sumN recs := by
      clear hS h1 hs hb0 hb1 hmax hrl
      induction recs with
      | nil => exact Nat.le_refl _
      | cons r rs ih =>
        have h4 : sumN (r :: rs) = blkN r.length + sumN rs := by unfold sumN; rw [List.map_cons, List.sum_cons]
        have := blkN_pos r.length
        rw [h4, List.length_cons]; omega
    omega)
  have hfit : fitsE area recs = 0 := by
    unfold fitsE
    rw [if_pos (by rw [List.all_eq_true]; intro r hr; exact decide_eq_true (by have := (hs r hr).1; omega)), if_neg (by have := hS.sum; omega)]
  have HFD := Lib.hid (logFind_any base p gs gn B cs cn A cf d area b0 b1 w h hB hb0 (fun _ => hb1) hse.s.torn)
  have HRC := Lib.hid (fun (W : World) (l : Later w W) (q : Nat) (hq : LogBk W q p area gen 0) => logRecords_any base p gs gn B cs cn A cf d q area gen 0 a W (h.later l) hB hq hf (by omega) (hse.s.later l))
  have HAN := Lib.hid (fun (W : World) (l : Later w W) (q : Nat) (hq : LogBk W q p area gen 0) (hwq : w.heap.size ≤ q) (b : Nat) (hb : w.heap.size ≤ b) (T : Option Addr) (c : Nat) (ss : List SlB) (htb : TB W b T ss.length c ss) (hm : ss.map (·.l) = recs) =>
    logAnew_top base p gs gn B cs cn A cf d q area gen 0 T ss.length c ss a W f wn (h.later l) hB hq hf hg hd hfl hwn (by omega) rfl (by have := congrArg List.length hm; rw [List.length_map] at this; omega)
      (fun W' hk _ => (htb.kl hk hq (by omega) (by omega)).has) (fun s hs' => by
        have h1 := hs s.l (by rw [← hm]; exact List.mem_map_of_mem hs')
        obtain ⟨_, _, _, h2, _⟩ := htb.2.1 s hs'
        exact ⟨h1.1, h1.2, fun h => by rw [h] at h2; cases h2⟩)
      (by
        have e : (gen + 1 + 1) % 2 = gen % 2 := by omega
        rw [e]
        exact ⟨_, hS.slot, by rw [slotG_tag (by omega)]; omega⟩) (hse.later l))
  have HF := Lib.hid hf
  have HM := Lib.hid hmax
  have HRD := Lib.hid hread
  have HFIT := Lib.hid hfit
  have HLT := Lib.hid hlts
  clear h hf hS hd hs hse hb0 hb1 hmax hread hfit hlts
  go_enter Tryd.func12, Tryd.ntmps12
  go_wp2_with fail
  refine HFD.out.mono ?_
  rintro e w1 ⟨⟨hn, _⟩ | ⟨_, hz, _⟩ | ⟨_, hp, q, a', rfl, haa, hq, hqw⟩, l1⟩
  · exact absurd HF.out hn
  · have := HM.out; omega
  · obtain rfl : a' = area := by omega
    have hq : LogBk w1 q p a' gen 0 := by have h := hq; rw [HM.out] at h; exact h
    have HQ := Lib.hid hq
    have HL1 := Lib.hid l1
    have HR := Lib.hid (HRC.out w1 l1 q hq)
    clear hp haa hq l1 HFD HRC
    go_wp2_with fail
    refine HR.out.mono ?_
    rintro e w2 ⟨ss, T, c, rfl, hm, _, htb, l2⟩
    have hm2 : ss.map (·.l) = recs := by rw [hm]; exact HRD.out
    have HMM := Lib.hid hm2
    have HTB := Lib.hid htb
    have HL2 := Lib.hid (HL1.out.trans l2)
    have HQ2 := Lib.hid (HQ.out.later l2)
    have HA := Lib.hid (HAN.out w2 HL2.out q HQ2.out hqw w1.heap.size HL1.out.size T c ss htb hm2)
    clear hm hm2 htb l2 HR HAN
    go_wp2_with fail
    refine HA.out.mono ?_
    rintro e w3 ⟨rfl, hr⟩
    have hr2 := hr
    rw [HMM.out] at hr2
    rcases hr2 with ⟨h1, _⟩ | ⟨_, now', hn', hlay⟩
    · exact absurd HFIT.out h1
    · have hz : fitsE a' (ss.map (·.l)) = 0 := by rw [HMM.out]; exact HFIT.out
      rw [hz]
      have HN := Lib.hid hn'
      have HLAY := Lib.hid (hlay.from_ HL2.out hbw)
      have HT3 := Lib.hid (show TB w3 w.heap.size T ss.length c ss from by
        obtain ⟨_, _, _, _, _, _, _, _, _, hkl, _⟩ := hlay
        have ht := HTB.out.kl hkl HQ2.out (by have := HLT.out.1; have := HL1.out.size; omega) (by have := HLT.out.2; have := HL1.out.size; omega)
        exact ⟨own_mono ht.1 HL1.out.size, fun s hs => (ht.2.1 s hs).low HL1.out.size, ht.2.2⟩)
      clear hr hn' hlay hz HA HTB
      go_wp2_with fail
      go_ret3
      exact ⟨q, T, c, ss, now', rfl, HMM.out, HT3.out, hqw, HN.out, HLAY.out⟩
end Go.Proofs.YtfplppldojlanaaDoor
