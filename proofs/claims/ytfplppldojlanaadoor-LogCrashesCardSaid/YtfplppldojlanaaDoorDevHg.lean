/- Crash again, telling that all stays but the device's own. (tools/gen_devhg.py) -/
import Derived.Test.YtfplppldojlanaaDoorDevG
import Derived.Test.YtfplppldojlanaaDoorDevK
namespace Go.Proofs.YtfplppldojlanaaDoor
open Go.RowKit
set_option linter.unusedVariables false

/-- What a crash makes of write j. -/
def stepC (keep : List Nat) (torn at_ : Int) (j : Nat) (x : Nat × List Nat) (s : List (List Nat)) : List (List Nat) :=
  if (j : Int) = torn then s.set x.1 (mixL x.2 (s.getD x.1 []) at_) else if keptB keep j = true then s.set x.1 x.2 else s
def crashJ (keep : List Nat) (torn at_ : Int) (F : List (Nat × List Nat)) (s : List (List Nat)) : Nat → List (List Nat)
  | 0 => s
  | j + 1 => stepC keep torn at_ j (F.getD j (0, [])) (crashJ keep torn at_ F s j)
theorem stepC_len (keep : List Nat) (torn at_ : Int) (j : Nat) (x : Nat × List Nat) (s : List (List Nat)) : (stepC keep torn at_ j x s).length = s.length := by
  unfold stepC; split
  · rw [List.length_set]
  · split
    · rw [List.length_set]
    · rfl
def D.cr (d : D) (keep : List Nat) (torn at_ : Int) : D :=
  ⟨crashJ keep torn at_ d.fly d.sure d.fly.length, crashJ keep torn at_ d.fly d.sure d.fly.length, [], d.writes, false, 0⟩
def DoneCg (base p gs gn B : Nat) (d : D) (w w' : World) : Prop := (∃ gn2 cs cn A cf, (gn2 = gn ∨ w.heap.size ≤ gn2) ∧ DA w' base p gs gn2 B cs cn A cf d) ∧ KG gs gn w w' ∧ Below base w w'

theorem SR.cellD {w : World} {base g n c : Nat} {L : List (List Nat)} (h : SR w base g n c L) (i : Nat) (hi : i < n) : ∃ v, w.cell? ⟨g, i, none⟩ = some v ∧ BV w v (L.getD i []) := by
  obtain ⟨v, h1, h2⟩ := h.cell i hi
  refine ⟨v, h1, ?_⟩
  rw [List.getD, List.getElem?_eq_getElem (by rw [h.1]; exact hi)]
  exact h2
def CrIg (base p gs gn B cs cn : Nat) (A : Option Addr) (nf cf : Nat) (keep : List Nat) (torn at_ : Int) (d : D) (x : Array Value) (w : World) (iv : Value) (wr : World) : Prop :=
  ∃ j : Nat, iv = .int .i64 j ∧ j ≤ nf ∧ DR wr base p gs gn B cs cn A nf cf (crashJ keep torn at_ d.fly d.sure j) d.now d.fly x ∧ KG gs gn w wr ∧ Below base w wr
theorem CrIg.mk {base p gs gn B cs cn nf cf : Nat} {A : Option Addr} {keep : List Nat} {torn at_ : Int} {d : D} {x : Array Value} {w wr : World} (a : Int) (j : Nat) (ha : a = (j : Int)) (hj : j ≤ nf) (h1 : DR wr base p gs gn B cs cn A nf cf (crashJ keep torn at_ d.fly d.sure j) d.now d.fly x) (h2 : KG gs gn w wr) (h3 : Below base w wr) : CrIg base p gs gn B cs cn A nf cf keep torn at_ d x w (.int .i64 a) wr := by
  subst ha; exact ⟨j, rfl, hj, h1, h2, h3⟩
theorem KG.setq {gs gn p : Nat} {w : World} {x : Array Value} (h : Blk w p x 54) (k : Nat) (v : Value) : KG gs gn w (w.setCell ⟨p, k, none⟩ v) :=
  KG.only (row := some p) (only_setCell (World.grownBy.refl _ _) (.inl rfl) v) (fun x hx => by injection hx with hx; subst hx; exact ⟨_, _, h, .inr (.inr rfl)⟩) (fun y cs hy hb => by injection hy with hy; subst hy; exact typed_no h hb (by decide))
set_option maxRecDepth 100000 in
set_option maxHeartbeats 8000000 in
theorem devCrash_g (base p gs gn B cs cn : Nat) (A : Option Addr) (cf : Nat) (d : D) (KA : Option Addr) (n c : Nat) (keep : List Nat) (torn at_ : Int) (w : World) (h : DA w base p gs gn B cs cn A cf d) (hB : 1 ≤ B ∧ B ≤ 4000) (hf : d.fly.length ≤ 100000) (hfl : ∀ x ∈ d.fly, x.1 < B) (hbase : base ≤ w.heap.size)
    (hn : n = keep.length) (hn2 : n ≤ 1000) (hr : ∀ W, KG gs gn w W → Below base w W → Has W KA (ints .u8 keep)) (h256 : ∀ x ∈ keep, x < 256) :
    Calls Tryd.prog 17 #[dptr p, .slice KA n c, .int .i64 torn, .int .i64 at_] w fun e w' => e = .returned (.tuple #[]) ∧ DoneCg base p gs gn B (d.cr keep torn at_) w w' := by
  obtain ⟨nf, hnf⟩ : ∃ nf, nf = d.fly.length := ⟨_, rfl⟩
  have HNF := Lib.hid hnf
  have HDR := Lib.hid (show DR w base p gs gn B cs cn A nf cf d.sure d.now d.fly #[.slice (some ⟨gs, 0, none⟩) B cs, .slice (some ⟨gn, 0, none⟩) B cn, .slice A nf cf, .int .i64 d.writes, .bool d.stops, .int .i64 d.left] by rw [hnf]; exact h)
  have k2 : w.cell? ⟨p, 2, none⟩ = some (.slice A nf cf) := HDR.out.1.cell 2 _ rfl
  have HFL := Lib.hid hfl
  have HBASE := Lib.hid hbase
  have hnf9 : nf ≤ 100000 := by omega
  have hcs := h.2.1.cap
  have hB4 := hB.2
  have hB1 := hB.1
  have HKP := Lib.hid (fun (W : World) (k : KG gs gn w W) (bl : Below base w W) (j : Nat) (hj : j ≤ 100000) => kept_any KA n c keep j W hn hn2 hj (hr W k bl) h256)
  clear h hf hfl hnf hbase hn hr h256 hn2 hB
  go_enter Tryd.func17, Tryd.ntmps17
  go_wp2_with fail
  clear k2
  go_loopw [17] (fun iv wr => CrIg base p gs gn B cs cn A nf cf keep torn at_ d #[.slice (some ⟨gs, 0, none⟩) B cs, .slice (some ⟨gn, 0, none⟩) B cn, .slice A nf cf, .int .i64 d.writes, .bool d.stops, .int .i64 d.left] w iv wr) (fun iv _ => nf - (intOf iv).toNat)
  case atStart => exact CrIg.mk 0 0 rfl (Nat.zero_le _) HDR.out (KG.refl _) (Below.refl _ _)
  case round =>
    obtain ⟨j, rfl, hj, hdr, hkd, hbl⟩ := hrel
    have HB := Lib.hid hbl
    have HK := Lib.hid hkd
    have HD := Lib.hid hdr
    by_cases hlt : j < nf
    · obtain ⟨ga, v, rfl, c0, c1, hbv, hncf⟩ := hdr.2.2.2.1.get j hlt
      have hjl : j < d.fly.length := by rw [← HNF.out]; exact hlt
      have hgd : d.fly.getD j (0, []) = d.fly[j] := by rw [List.getD, List.getElem?_eq_getElem hjl]; rfl
      obtain ⟨⟨ad, l⟩, hx⟩ : ∃ x, x = d.fly[j] := ⟨_, rfl⟩
      rw [← hx] at c0 hbv hgd
      have c0 : wr.cell? ⟨ga, j * 2, none⟩ = some (.int .i64 (ad : Int)) := c0
      have hat : ad < B := HFL.out (ad, l) (by rw [hx]; exact List.getElem_mem _)
      obtain ⟨b, o, cc, rfl, h1, h2, _⟩ := hbv.has
      have L3 := Later.new wr (.cells #[.int .i64 ad, .slice (some ⟨b, o, none⟩) 128 cc] 68)
      have HV3 := Lib.hid (hbv.later L3)
      have D3 := hdr.later L3
      have HD3 := Lib.hid D3
      have HL3 := Lib.hid L3
      have HGD := Lib.hid hgd
      have B3 := Blk.new wr #[.int .i64 ad, .slice (some ⟨b, o, none⟩) 128 cc] 68 wr.heap.size rfl
      have u0 := (Blk.new wr #[.int .i64 0, .slice none 0 0] 68 wr.heap.size rfl).frozen 0
      have u1 := (Blk.new wr #[.int .i64 0, .slice none 0 0] 68 wr.heap.size rfl).frozen 1
      obtain ⟨w3, hw3⟩ : ∃ x, wr.alloc (.cells #[.int .i64 ad, .slice (some ⟨b, o, none⟩) 128 cc] 68) = x := ⟨_, rfl⟩
      rw [hw3] at HV3 D3 HD3 HL3 B3
      have HKD3 := Lib.hid (HK.out.trans (KG.later HL3.out))
      have hbs3 := Nat.le_trans HBASE.out HKD3.out.2.2.2.1
      have HBS3 := Lib.hid hbs3
      have HBB3 := Lib.hid (HB.out.trans (Below.mono HL3.out.below (Nat.le_trans HBASE.out HK.out.2.2.2.1)))
      obtain ⟨t3, ht3⟩ : ∃ x, wr.heap.size = x := ⟨_, rfl⟩
      have HT3 := Lib.hid ht3
      rw [ht3] at B3 u0 u1
      have HB3 := Lib.hid B3
      have e0 := B3.cell 0 _ rfl
      have e1 := B3.cell 1 _ rfl
      have k0 : w3.cell? ⟨p, 0, none⟩ = some (.slice (some ⟨gs, 0, none⟩) B cs) := D3.1.cell 0 _ rfl
      obtain ⟨v0, hc0, hbv0⟩ := D3.2.1.cellD ad hat
      have HV0 := Lib.hid hbv0
      have hfr := D3.2.1.frozen ad
      clear hdr hkd hbl hbv hjl hgd hx L3 hbs3
      by_cases htn : (j : Int) = torn
      · have hte : ((j : Int) == torn) = true := by simpa using htn
        have hst : crashJ keep torn at_ d.fly d.sure (j + 1) = (crashJ keep torn at_ d.fly d.sure j).set ad (mixL l ((crashJ keep torn at_ d.fly d.sure j).getD ad []) at_) := by
          show stepC keep torn at_ j _ _ = _
          unfold stepC
          rw [if_pos htn, HGD.out]
        have HST := Lib.hid hst
        have HM := Lib.hid (fun (W : World) (L : Later w3 W) => mixed_any (.slice (some ⟨b, o, none⟩) 128 cc) v0 l ((crashJ keep torn at_ d.fly d.sure j).getD ad []) at_ W (HV3.out.later L) (HV0.out.later L))
        clear hst D3 hbv0 htn
        go_wp2_with fail
        have P3 := HD3.out.1
        clear B3 hfr u0 u1 c0 c1
        go_region_law (first | (go_simp; go_at_call 28; refine (HM.out _ (Later.refl w3).drew).mono ?_; rintro e wX ⟨v', rfl, bv', lX, XA, xc, rfl⟩; have LX := Lib.hid ((Later.refl w3).drew.trans lX); have BX := HB3.out.later LX.out; have x0 := BX.cell 0 _ rfl; have x1 := BX.cell 1 _ rfl; have xf1 := BX.frozen 1; have PX := P3.later LX.out; have x2 : wX.cell? ⟨p, 0, none⟩ = some (.slice (some ⟨gs, 0, none⟩) B cs) := PX.cell 0 _ rfl; have x3 := LX.out.cell hc0; clear lX PX))
        all_goals
          have L5 := (HL3.out.trans LX.out).set_ (p := ⟨t3, 1, none⟩) (by rw [HT3.out]; exact Nat.le_refl _) (.slice XA 128 xc)
          have HV5 := Lib.hid (bv'.grown (w' := wX.setCell ⟨t3, 1, none⟩ (.slice XA 128 xc)) (row := some t3) (only_setCell (World.grownBy.refl _ _) (.inl rfl) _) (fun y hy => by injection hy with hy; subst hy; exact ⟨_, _, BX, by decide⟩))
          have D5 := HD.out.later L5
          have BX5 := BX.set_ 1 (.slice XA 128 xc)
          have HD5 := Lib.hid D5
          have HK5 := Lib.hid (HK.out.trans (KG.later L5))
          have HB5 := Lib.hid (HB.out.trans (Below.mono L5.below (Nat.le_trans HBASE.out HK.out.2.2.2.1)))
          obtain ⟨w5, hw5⟩ : ∃ x, wX.setCell ⟨t3, 1, none⟩ (.slice XA 128 xc) = x := ⟨_, rfl⟩
          rw [hw5] at HV5 D5 HD5 HK5 HB5 BX5 ⊢
          clear x0 x1 x2 x3 xf1 BX e0 e1 k0 hc0 bv' L5 hw5 P3
          have y0 := BX5.cell 0 _ rfl
          have y1 := BX5.cell 1 _ rfl
          have y2 : w5.cell? ⟨p, 0, none⟩ = some (.slice (some ⟨gs, 0, none⟩) B cs) := D5.1.cell 0 _ rfl
          obtain ⟨v5, y3, hbv5⟩ := D5.2.1.cellD ad hat
          have yf := D5.2.1.frozen ad
          clear D5 BX5 hbv5
          go_wp2_with fail
          go_region
          have hb5 := Nat.le_trans HBASE.out HK5.out.2.2.2.1
          have K6 := KG.puts HD5.out hb5 ad (.slice XA 128 xc)
          have D6 := HD5.out.puts ad _ _ HV5.out
          have HD6 := Lib.hid D6.drew
          have HK6 := Lib.hid ((HK5.out.trans K6.1).trans (KG.later (Later.refl _).drew))
          have HB6 := Lib.hid ((HB5.out.trans K6.2).trans (Below.mono (Later.refl _).drew.below (Nat.le_trans hb5 K6.1.2.2.2.1)))
          clear K6 D6 y0 y1 y2 y3 yf hb5
          go_wp2_with fail
          go_roundw
          case rel => exact CrIg.mk _ (j + 1) (by go_num) hlt (by rw [HST.out]; exact HD6.out) HK6.out HB6.out
          case measure => simp [intOf]; omega
      · have hte : ((j : Int) == torn) = false := by simpa using htn
        have HKJ := Lib.hid (HKP.out w3 HKD3.out HBB3.out j (by omega))
        obtain ⟨kb, hkb⟩ : ∃ kb, keptB keep j = kb := ⟨_, rfl⟩
        have HKB := Lib.hid hkb
        rw [hkb] at HKJ
        clear hkb
        cases kb
        · have hst : crashJ keep torn at_ d.fly d.sure (j + 1) = crashJ keep torn at_ d.fly d.sure j := by
            show stepC keep torn at_ j _ _ = _
            unfold stepC
            rw [if_neg htn, HKB.out]; rfl
          have HST := Lib.hid hst
          clear hst D3 B3 hbv0
          go_wp2_with fail
          refine HKJ.out.mono ?_
          rintro e w' ⟨rfl, rfl⟩
          go_wp2_with fail
          go_roundw
          case rel => exact CrIg.mk _ (j + 1) (by go_num) hlt (by rw [HST.out]; exact HD3.out) HKD3.out HBB3.out
          case measure => simp [intOf]; omega
        · have hst : crashJ keep torn at_ d.fly d.sure (j + 1) = (crashJ keep torn at_ d.fly d.sure j).set ad l := by
            show stepC keep torn at_ j _ _ = _
            unfold stepC
            rw [if_neg htn, if_pos HKB.out, HGD.out]
          have HST := Lib.hid hst
          clear hst D3 B3 hbv0
          go_wp2_with fail
          refine HKJ.out.mono ?_
          rintro e w' ⟨rfl, rfl⟩
          go_wp2_with fail
          go_region
          have K5 := KG.puts HD3.out HBS3.out ad (.slice (some ⟨b, o, none⟩) 128 cc)
          have D5 := HD3.out.puts ad _ _ HV3.out
          have HD5 := Lib.hid D5.drew
          have HK5 := Lib.hid ((HKD3.out.trans K5.1).trans (KG.later (Later.refl _).drew))
          have HB5 := Lib.hid ((HBB3.out.trans K5.2).trans (Below.mono (Later.refl _).drew.below (Nat.le_trans HBS3.out K5.1.2.2.2.1)))
          clear K5 D5 c0 c1 e0 e1 k0 hc0 hfr u0 u1
          go_wp2_with fail
          go_roundw
          case rel => exact CrIg.mk _ (j + 1) (by go_num) hlt (by rw [HST.out]; exact HD5.out) HK5.out HB5.out
          case measure => simp [intOf]; omega
    · obtain rfl : j = nf := by omega
      obtain ⟨S, hS⟩ : ∃ S, S = crashJ keep torn at_ d.fly d.sure j := ⟨_, rfl⟩
      rw [← hS] at hdr HD
      have HS := Lib.hid hS
      obtain ⟨vs, hvl, hvh, hv1, hvb⟩ := hdr.2.1.vals
      have HVB := Lib.hid hvb
      have HCL := Lib.hid (rowClone_any gs B cs vs wr hvl.symm hB1 (by omega) hvh hv1)
      have k0 : wr.cell? ⟨p, 0, none⟩ = some (.slice (some ⟨gs, 0, none⟩) B cs) := hdr.1.cell 0 _ rfl
      clear hdr hkd hbl hvh hv1 hvb hS
      go_wp2_with fail
      refine HCL.out.mono ?_
      rintro e w4 ⟨g4, cap, rfl, ho, l4⟩
      have HG4 := Lib.hid (show w.heap.size ≤ g4 from Nat.le_trans HK.out.2.2.2.1 (ho.lt g4 rfl).1)
      have hb4 := Nat.le_trans HBASE.out HK.out.2.2.2.1
      have D4 : DR w4 base p gs g4 B cs cap none 0 0 S S [] #[.slice (some ⟨gs, 0, none⟩) B cs, .slice (some ⟨gn, 0, none⟩) B cn, .slice A j cf, .int .i64 d.writes, .bool d.stops, .int .i64 d.left] := by
        have h4 := (HD.out.later l4).nil_
        have hg := (ho.lt g4 rfl).1
        exact ⟨h4.1, h4.2.1, SR.clone HD.out.2.1.1 HVB.out ho l4 hb4, h4.2.2.2.1, by have := HD.out.gb.2.2.1; omega, h4.2.2.2.2.2⟩
      have HD4 := Lib.hid D4
      have HK4 := Lib.hid (HK.out.trans (KG.later l4))
      have HB4 := Lib.hid (HB.out.trans (Below.mono l4.below hb4))
      have m1 := D4.1.cell 1 _ rfl
      have m2 := D4.1.cell 2 _ rfl
      have m4 := D4.1.cell 4 _ rfl
      have m5 := D4.1.cell 5 _ rfl
      have g1 := D4.1.frozen 1
      have g2 := D4.1.frozen 2
      have g4' := D4.1.frozen 4
      have g5 := D4.1.frozen 5
      clear D4 ho l4 HCL k0 hb4
      go_wp2_with fail
      have hb4 := Nat.le_trans HBASE.out HK4.out.2.2.2.1
      have K1 := And.intro (KG.setq (gs := gs) (gn := gn) HD4.out.1 1 (.slice (some ⟨g4, 0, none⟩) B cap)) (KG.setp HD4.out hb4 1 (.slice (some ⟨g4, 0, none⟩) B cap)).2
      have D1 := HD4.out.setp 1 (.slice (some ⟨g4, 0, none⟩) B cap)
      have b1 := Nat.le_trans hb4 K1.1.2.2.2.1
      have K2 := And.intro (KG.setq (gs := gs) (gn := gn) D1.1 2 (.slice none 0 0)) (KG.setp D1 b1 2 (.slice none 0 0)).2
      have D2 := D1.setp 2 (.slice none 0 0)
      have b2 := Nat.le_trans b1 K2.1.2.2.2.1
      have K3 := And.intro (KG.setq (gs := gs) (gn := gn) D2.1 4 (.bool false)) (KG.setp D2 b2 4 (.bool false)).2
      have D3 := D2.setp 4 (.bool false)
      have b3 := Nat.le_trans b2 K3.1.2.2.2.1
      have K4 := And.intro (KG.setq (gs := gs) (gn := gn) D3.1 5 (.int .i64 0)) (KG.setp D3 b3 5 (.int .i64 0)).2
      have D5 := D3.setp 5 (.int .i64 0)
      go_end0
      refine ⟨rfl, ⟨g4, _, _, _, _, .inr HG4.out, DA.of (d := d.cr keep torn at_) (nf := 0) (by unfold D.cr; rw [← HNF.out, ← HS.out]; exact D5) rfl rfl⟩, (((HK4.out.trans K1.1).trans K2.1).trans K3.1).trans K4.1, (((HB4.out.trans K1.2).trans K2.2).trans K3.2).trans K4.2⟩
end Go.Proofs.YtfplppldojlanaaDoor
