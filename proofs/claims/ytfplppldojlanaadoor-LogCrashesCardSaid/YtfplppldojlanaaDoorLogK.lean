/- Package log: Append, Anew, Make. -/
import Derived.Test.YtfplppldojlanaaDoorLogJ
namespace Go.Proofs.YtfplppldojlanaaDoor
open Go.RowKit
set_option linter.unusedVariables false

/-- The sentinels lie below base. -/
structure S21B (base : Nat) (w : World) (a : Addr) : Prop where
  s : S21 w a
  g1 : 1 < base
  g2 : 0 < base
  g3 : 2 < base
theorem S21B.below {base : Nat} {w w' : World} {a : Addr} (h : S21B base w a) (b : Below base w w') : S21B base w' a := by
  refine ⟨⟨?_, ?_, ?_⟩, h.g1, h.g2, h.g3⟩
  · obtain ⟨x, hx⟩ := h.s.torn
    exact ⟨x, (b.cell h.g3).trans hx⟩
  · exact (b.cell h.g1).trans h.s.err
  · exact (b.cell h.g2).trans h.s.whole
theorem S21B.later {base : Nat} {w w' : World} {a : Addr} (h : S21B base w a) (l : Later w w') : S21B base w' a := ⟨h.s.later l, h.g1, h.g2, h.g3⟩
/-- What Append gives. -/
def AppP (base p gs gn B q area gen used f wn : Nat) (now recs : List (List Nat)) (r : List Nat) (w0 w : World) (e : Ending) (w' : World) : Prop :=
  e = .returned (.int .i64 (fitsE ((area : Int) - (used : Int)) [r])) ∧
  ((fitsE ((area : Int) - (used : Int)) [r] ≠ 0 ∧ LayP base p gs gn B q area gen used f wn now w0 w') ∨
   (fitsE ((area : Int) - (used : Int)) [r] = 0 ∧ ∃ now', LgS area gen (recs ++ [r]) now' ∧ LayP base p gs gn B q area gen (used + blkN r.length) 0 (wn + blkN r.length) now' w0 w'))
set_option maxRecDepth 100000 in
set_option maxHeartbeats 1000000 in
theorem logAppend_any (base p gs gn B q area gen used f wn : Nat) (now : List (List Nat)) (recs : List (List Nat)) (A2 : Option Addr) (c : Nat) (r : List Nat) (a : Addr) (w0 w : World) (h : LayP base p gs gn B q area gen used f wn now w0 w) (hB : B ≤ 4000) (hf : FitsD B area) (hg : gen < 4294967296) (hfl : f ≤ 80000) (hwn : wn ≤ 80000) (hbq : base ≤ q) (hS : LgS area gen recs now) (hu : used = sumN recs)
    (hr : Has w A2 (ints .u8 r)) (hnil : A2 = none → c = 0) (h990 : r.length ≤ 990) (h256 : ∀ x ∈ r, x < 256) (hs : S21B base w0 a) :
    Calls Tryd.prog 16 #[lptr q, .slice A2 r.length c] w (AppP base p gs gn B q area gen used f wn now recs r w0 w) := by
  have HM := Lib.hid (logMore_any base p gs gn B q area gen used f wn now recs A2 c r w0 w h hB hf hg hfl hwn hbq hS hu hr hnil h990 h256)
  have HLAY := Lib.hid h
  have HS := Lib.hid hs
  clear h hS hu hr h256 hs hf
  go_enter Tryd.func16, Tryd.ntmps16
  go_wp2_with fail
  refine HM.out.mono ?_
  rintro e w1 (⟨hz, ⟨v, rfl, hv⟩, l1⟩ | ⟨hz, rfl, now', hn', hlay⟩)
  · have HL := Lib.hid (HLAY.out.later l1 hbq)
    obtain ⟨_, _, _, _, _, _, _, _, _, _, hbel⟩ := HL.out
    have HT := Lib.hid (tell_some v _ w1 (HS.out.below hbel).s.err hv)
    have HZ := Lib.hid hz
    clear hbel hv hz l1 HM
    go_wp2_with fail
    refine HT.out.mono ?_
    rintro e w2 ⟨rfl, l2⟩
    have HL2 := Lib.hid (HL.out.later l2 hbq)
    clear l2 HT
    go_wp2_with fail
    go_ret
    exact ⟨rfl, .inl ⟨HZ.out, HL2.out⟩⟩
  · have HZ := Lib.hid hz
    have HN := Lib.hid hn'
    have HL := Lib.hid hlay
    have HT := Lib.hid (tell_nil w1)
    clear hz hn' hlay HM
    go_wp2_with fail
    refine HT.out.mono ?_
    rintro e w2 ⟨rfl, rfl⟩
    clear HT
    go_wp2_with fail
    go_ret
    exact ⟨by rw [HZ.out]; rfl, .inr ⟨HZ.out, now', HN.out, HL.out⟩⟩
/-- What Anew gives. -/
def AnwP (base p gs gn B q area gen wn : Nat) (L : List (List Nat)) (w : World) (e : Ending) (w' : World) : Prop :=
  e = .returned (.int .i64 (fitsE area L)) ∧
  ((fitsE area L ≠ 0 ∧ Later w w') ∨ (fitsE area L = 0 ∧ ∃ now, LgS area (gen + 1) L now ∧ LayP base p gs gn B q area (gen + 1) (sumN L) 0 (wn + area + sumN L + 1) now w w'))
set_option maxRecDepth 100000 in
set_option maxHeartbeats 1000000 in
theorem logAnew_top (base p gs gn B cs cn : Nat) (A : Option Addr) (cf : Nat) (d : D) (q area gen used : Nat) (T : Option Addr) (n c : Nat) (ss : List SlB) (a : Addr) (w : World) (f wn : Nat) (h : DA w base p gs gn B cs cn A cf d) (hB : B ≤ 4000) (hq : LogBk w q p area gen used) (hf : FitsD B area) (hg : gen + 1 ≤ 4294967294) (hd : DOk B f wn d) (hfl : f ≤ 20000) (hwn : wn ≤ 20000) (hbq : base ≤ q)
    (hn : n = ss.length) (hl : ss.length ≤ 1000) (hstab : ∀ W, KL gs gn q w W → Below base w W → Has W T (ss.map SlB.v) ∧ ∀ s ∈ ss, Has W s.a (ints .u8 s.l)) (hs : ∀ s ∈ ss, s.l.length ≤ 990 ∧ (∀ x ∈ s.l, x < 256) ∧ (s.a = none → s.c = 0))
    (ho : ∃ b, d.now[(gen + 1 + 1) % 2]? = some b ∧ slotG ((gen + 1 + 1) % 2) b < gen + 1) (hse : S21B base w a) :
    Calls Tryd.prog 15 #[lptr q, .slice T n c] w (AnwP base p gs gn B q area gen wn (ss.map (·.l)) w) := by
  subst hn
  have HM := Lib.hid (logAnew_any base p gs gn B cs cn A cf d q area gen used T ss.length c ss w f wn h hB hq hf hg hd hfl hwn hbq rfl hl hstab hs ho)
  have HS := Lib.hid hse
  clear h hq hf hd hstab hs ho hse
  go_enter Tryd.func15, Tryd.ntmps15
  go_wp2_with fail
  refine HM.out.mono ?_
  rintro e w1 (⟨hz, ⟨v, rfl, hv⟩, l1⟩ | ⟨hz, rfl, now', hn', hlay⟩)
  · have HT := Lib.hid (tell_some v _ w1 (HS.out.later l1).s.err hv)
    have HZ := Lib.hid hz
    have HL := Lib.hid l1
    clear hv hz l1 HM
    go_wp2_with fail
    refine HT.out.mono ?_
    rintro e w2 ⟨rfl, l2⟩
    have HL2 := Lib.hid (HL.out.trans l2)
    clear l2 HT
    go_wp2_with fail
    go_ret
    exact ⟨rfl, .inl ⟨HZ.out, HL2.out⟩⟩
  · have HZ := Lib.hid hz
    have HN := Lib.hid hn'
    have HL := Lib.hid hlay
    have HT := Lib.hid (tell_nil w1)
    clear hz hn' hlay HM
    go_wp2_with fail
    refine HT.out.mono ?_
    rintro e w2 ⟨rfl, rfl⟩
    clear HT
    go_wp2_with fail
    go_ret
    exact ⟨by rw [HZ.out]; rfl, .inr ⟨HZ.out, now', HN.out, HL.out⟩⟩
end Go.Proofs.YtfplppldojlanaaDoor
