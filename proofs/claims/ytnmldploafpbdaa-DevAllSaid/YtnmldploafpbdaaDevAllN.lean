/- The walk of DevAll: a round of its deeds. -/
import Derived.Test.YtnmldploafpbdaaDevSt
import Derived.Test.YtnmldploafpbdaaDevBeg
import Derived.Deep.CutRange
import Derived.Deep.CutBlock
namespace Go.Proofs.Ytnmldploafpbdaa
open Go.RowKit
set_option linter.unusedVariables false

theorem light_b2 {L : List DeedS} (h : lightL L = true) : ∀ x ∈ L, x.b.n ≤ 200 ∧ x.keep.n ≤ 20 := by
  unfold lightL at h
  simp at h
  exact h.1
def AlI (base r B n : Nat) (w : World) (pv iv : Value) (wr : World) : Prop :=
  ∃ (i p : Nat) (d : D), pv = dptr p ∧ iv = .int .i64 i ∧ i ≤ n ∧ St base p r B d d wr ∧ Iv B i d ∧ Later w wr
theorem AlI.mk {base r B n : Nat} {w wr : World} (a : Int) (i p : Nat) (d : D) (ha : a = (i : Int)) (hi : i ≤ n) (h1 : St base p r B d d wr) (h2 : Iv B i d) (h3 : Later w wr) : AlI base r B n w (dptr p) (.int .i64 a) wr := by
  subst ha; exact ⟨i, p, d, rfl, rfl, hi, h1, h2, h3⟩

set_option maxRecDepth 100000 in
set_option maxHeartbeats 8000000 in
theorem devAll_walk (B : Nat) (A : Option Addr) (n ca : Nat) (L : List DeedS) (w : World) (hA : IsDeeds7 w A n ca L) (hl : lightL L = true) (hB : 1 ≤ B ∧ B ≤ 50) :
    Calls Try.prog 3 #[.int .i64 (B : Int), .slice A n ca] w fun e w' => e = .returned (.bool true) ∧ Later w w' := by
  have HB := Lib.hid (begun18_any w)
  have HA := Lib.hid hA
  have HLB := Lib.hid hl
  have hn40 : n ≤ 40 := by have h := hA.1; unfold lightL at hl; simp at hl; omega
  have d1 : decide ((50 : Int) < (B : Int)) = false := by simp; omega
  have hB4 : 1 ≤ B ∧ B ≤ 4000 := by omega
  have HB4 := Lib.hid hB4
  clear hA hl
  go_enter Try.func3, Try.ntmps3
  go_wp2_with fail
  refine HB.out.mono ?_
  rintro e w1 ⟨rfl, l1⟩
  have H1 := Lib.hid (by have h := light_any A n ca L w1 (HA.out.later l1); rw [HLB.out] at h; exact h)
  have HL1 := Lib.hid l1
  have HN1 := Lib.hid (devNew_any B w1 HB4.out)
  clear l1 HB
  go_wp2_with fail
  refine H1.out.mono ?_
  rintro e w' ⟨rfl, rfl⟩
  go_wp2_with fail
  refine HN1.out.mono ?_
  rintro e w2 ⟨p, gs, gn, cs, cn, rfl, hda, l2⟩
  have HN2 := Lib.hid (refNew_any B w2 HB4.out)
  have HDA := Lib.hid hda
  have HL2 := Lib.hid l2
  clear hda l2 HN1
  go_wp2_with fail
  refine HN2.out.mono ?_
  rintro e w3 ⟨r, gs3, gn3, cs3, cn3, rfl, hra, l3⟩
  obtain ⟨bs, hbs⟩ : ∃ x, x = w'.heap.size := ⟨_, rfl⟩
  have hra2 : RA w3 bs r gs3 gn3 B cs3 cn3 none 0 (newD B) := by
    have hle : bs ≤ w2.heap.size := by rw [hbs]; exact HL2.out.size
    exact ⟨hra.1, own_mono hra.2.1 hle, own_mono hra.2.2.1 hle, ⟨own_monoK hra.2.2.2.1.1 hle, hra.2.2.2.1.2⟩, hra.2.2.2.2.1, Nat.le_trans hle hra.2.2.2.2.2⟩
  have HBS := Lib.hid (show w.heap.size ≤ bs by rw [hbs]; exact HL1.out.size)
  have HI := Lib.hid (show AlI bs r B n w (dptr p) (.int .i64 0) w3 from AlI.mk 0 0 p (newD B) rfl (Nat.zero_le _) ⟨⟨gs, gn, cs, cn, none, 0, by rw [hbs]; exact HDA.out.later l3⟩, ⟨gs3, gn3, cs3, cn3, none, 0, hra2⟩, by rw [hbs]; exact Nat.le_trans HL2.out.size l3.size⟩ (Iv.new B) ((HL1.out.trans HL2.out).trans l3))
  clear hra hra2 l3 HN2 HDA HL2 HL1 H1 hbs
  go_wp2_with fail
  go_loopw [5, 9] (fun pv iv wr => AlI bs r B n w pv iv wr) (fun _ iv _ => n - (intOf iv).toNat)
  case atStart => exact HI.out
  case round =>
    obtain ⟨i, q, d, rfl, rfl, hi, hst, hiv, hla⟩ := hrel
    have HST := Lib.hid hst
    have HIV := Lib.hid hiv
    have HLA := Lib.hid hla
    clear hst hiv hla HI
    by_cases hlt : i < n
    · have hiL : i < L.length := by rw [HA.out.1]; exact hlt
      obtain ⟨b, off, hAo, dat⟩ := HA.out.2.1 i hiL
      obtain ⟨X, hX⟩ : ∃ X, X = L[i] := ⟨_, rfl⟩
      have HOK := Lib.hid (show X.ok w by rw [hX]; exact HA.out.2.2.1 _ (List.getElem_mem hiL))
      rw [← hX] at dat
      obtain ⟨c0, c1, c2, c3, c4, c5, c6⟩ := dat.later HLA.out
      subst hAo
      have k0 := c0.out
      have k1 := c1.out
      have k2 := c2.out
      have k3 := c3.out
      have k4 := c4.out
      have k5 := c5.out
      have k6 := c6.out
      unfold BSl.v at k5 k6
      have hX2 := Lib.hid hX
      clear c0 c1 c2 c3 c4 c5 c6 dat hX
      have hlx := light_b2 HLB.out L[i] (List.getElem_mem hiL)
      rw [← hX2.out] at hlx
      obtain ⟨hb200, hk20⟩ := hlx
      have L0 := Later.new wr (.cells #[.int .i64 X.k, .int .i64 X.i, .int .i64 X.n, .int .i64 X.torn, .int .i64 X.at_, .slice X.b.a X.b.n X.b.c, .slice X.keep.a X.keep.n X.keep.c] 33)
      have BX := Blk.new wr #[.int .i64 X.k, .int .i64 X.i, .int .i64 X.n, .int .i64 X.torn, .int .i64 X.at_, .slice X.b.a X.b.n X.b.c, .slice X.keep.a X.keep.n X.keep.c] 33 wr.heap.size rfl
      have HL0 := Lib.hid (HLA.out.trans L0)
      have HS0 := Lib.hid (HST.out.later L0)
      go_upto_block 2 with fail
      obtain ⟨w0, hw0⟩ : ∃ x, wr.alloc (.cells #[.int .i64 X.k, .int .i64 X.i, .int .i64 X.n, .int .i64 X.torn, .int .i64 X.at_, .slice X.b.a X.b.n X.b.c, .slice X.keep.a X.keep.n X.keep.c] 33) = x := ⟨_, rfl⟩
      rw [hw0] at BX HL0 HS0
      obtain ⟨t0, ht0⟩ : ∃ x, wr.heap.size = x := ⟨_, rfl⟩
      rw [ht0] at BX
      have HBX := Lib.hid BX
      rw [hw0, ht0]
      clear L0 hw0 ht0 BX k0 k1 k2 k3 k4 k5 k6 HST HLA
      have HLT := Lib.hid (fun (W : World) (k : KX bs w0 W) => (Later.of (HL0.out.below.trans (Below.mono k.1 HBS.out)) : Later w W))
      have hi40 : i ≤ 1000 := by omega
      go_cut [5, 11, 12, 13] from 58 to 189 (fun pv _ _ _ wx => ∃ q' d', pv = dptr q' ∧ St bs q' r B d' d' wx ∧ Iv B (i + 1) d' ∧ Later w wx ∧ Blk wx t0 #[.int .i64 X.k, .int .i64 X.i, .int .i64 X.n, .int .i64 X.torn, .int .i64 X.at_, .slice X.b.a X.b.n X.b.c, .slice X.keep.a X.keep.n X.keep.c] 33)
      case first =>
        have BX := HBX.out
        have e0 := BX.cell 0 _ rfl
        have e1 := BX.cell 1 _ rfl
        have e2 := BX.cell 2 _ rfl
        have e3 := BX.cell 3 _ rfl
        have e4 := BX.cell 4 _ rfl
        have e5 := BX.cell 5 _ rfl
        have e6 := BX.cell 6 _ rfl
        clear BX
        go_wp2_with fail
        · clear e0 e1 e2 e3 e4 e5 e6
          refine (sFlush HS0.out HIV.out HB4.out hi40).mono ?_
          rintro e wA ⟨rfl, st, kx⟩
          have H2 := Lib.hid (rFlush st HIV.out HB4.out)
          have HKA := Lib.hid kx
          clear st kx
          go_wp2_with fail
          refine H2.out.mono ?_
          rintro e wB ⟨rfl, st, kx⟩
          have HSB := Lib.hid st
          have HKB := Lib.hid (HKA.out.trans kx)
          clear st kx H2
          go_wp2_with fail
          go_meet
          case rel => exact ⟨q, d.flT, rfl, HSB.out, HIV.out.flT.mono (Nat.le_succ _), HLT.out _ HKB.out, HKB.out.blk HBX.out (by decide) (by decide) (by decide) (by decide) (by decide) (by decide)⟩
        · clear e0 e1 e2 e3 e4 e5 e6
          refine (sStop HS0.out X.n).mono ?_
          rintro e wA ⟨rfl, st, kx⟩
          have H2 := Lib.hid (rStop st X.n)
          have e2 := (kx.blk HBX.out (by decide) (by decide) (by decide) (by decide) (by decide) (by decide)).cell 2 _ rfl
          have HKA := Lib.hid kx
          clear st kx
          go_wp2_with fail
          refine H2.out.mono ?_
          rintro e wB ⟨rfl, st, kx⟩
          have HSB := Lib.hid st
          have HKB := Lib.hid (HKA.out.trans kx)
          clear st kx H2 e2
          go_wp2_with fail
          go_meet
          case rel => exact ⟨q, d.st X.n, rfl, HSB.out, (HIV.out.st X.n HOK.out.1.2.2.1).mono (Nat.le_succ _), HLT.out _ HKB.out, HKB.out.blk HBX.out (by decide) (by decide) (by decide) (by decide) (by decide) (by decide)⟩
        · clear e0 e1 e2 e3 e4 e5 e6
          have HKP := Lib.hid (fun (W : World) (k : KX bs w0 W) => (HOK.out.2.2.2.2.1.later (HLT.out W k) : Has W X.keep.a (ints .u8 X.keep.l)))
          refine (sCrash HS0.out HIV.out HB4.out hi40 X.keep.a X.keep.n X.keep.c X.keep.l X.torn X.at_ HOK.out.2.2.1 (by omega) HKP.out HOK.out.2.2.2.1).mono ?_
          rintro e wA ⟨rfl, st, kx⟩
          have HKA := Lib.hid kx
          have H2 := Lib.hid (rCrash st HIV.out HB4.out hi40 X.keep.a X.keep.n X.keep.c X.keep.l X.torn X.at_ HOK.out.2.2.1 (by omega) (fun W k => HKP.out W (HKA.out.trans k)) HOK.out.2.2.2.1)
          have BA := kx.blk HBX.out (by decide) (by decide) (by decide) (by decide) (by decide) (by decide)
          have e3 := BA.cell 3 _ rfl
          have e4 := BA.cell 4 _ rfl
          have e6 := BA.cell 6 _ rfl
          clear st kx BA
          go_wp2_with fail
          refine H2.out.mono ?_
          rintro e wB ⟨rfl, st, kx⟩
          have HSB := Lib.hid st
          have HKB := Lib.hid (HKA.out.trans kx)
          clear st kx H2 e3 e4 e6
          go_wp2_with fail
          go_meet
          case rel => exact ⟨q, d.cr X.keep.l X.torn X.at_, rfl, HSB.out, (HIV.out.cr _ _ _).mono (Nat.le_succ _), HLT.out _ HKB.out, HKB.out.blk HBX.out (by decide) (by decide) (by decide) (by decide) (by decide) (by decide)⟩
        · clear e0 e1 e2 e3 e4 e5 e6
          refine (sCopy HS0.out HIV.out HB4.out hi40).mono ?_
          rintro e wA ⟨q2, rfl, st, lA⟩
          have LB := lA.alloc (.cells #[.int .u8 9] 5)
          have HFU := Lib.hid (full_any (some ⟨wA.heap.size, 0, none⟩) 1 1 [9] (wA.alloc (.cells #[.int .u8 9] 5)) rfl (by decide) (Has.lit wA 5 .u8 [9]))
          have HSA := Lib.hid (st.later (Later.new wA (.cells #[.int .u8 9] 5)))
          have HLB2 := Lib.hid LB
          clear st lA LB
          go_wp2_with fail
          refine HFU.out.mono ?_
          rintro e wB ⟨g5, rfl, r5, l5, _⟩
          have HW := Lib.hid (sWriteC (HSA.out.later l5) HIV.out HB4.out hi40 (some ⟨g5, 0, none⟩) 128 (fullL [9]) (fullL_len _) (Has.row r5) (fullL_lt (by intro x hx; simp at hx; omega)) (by intro h; cases h))
          have HKB := Lib.hid (KX.later (HLB2.out.trans l5) HS0.out.2.2)
          clear r5 l5 HFU
          go_wp2_with fail
          refine HW.out.mono ?_
          rintro e wC ⟨rfl, ⟨dp, st, iv⟩, kx⟩
          have HF := Lib.hid (sFlushC st iv HB4.out (by omega))
          have HKC := Lib.hid (HKB.out.trans kx)
          clear st iv kx HW
          go_wp2_with fail
          refine HF.out.mono ?_
          rintro e wD ⟨rfl, st, kx⟩
          have HSB := Lib.hid st
          have HKB := Lib.hid (HKC.out.trans kx)
          clear st kx HF HKC
          go_wp2_with fail
          go_meet
          case rel => exact ⟨q2, d, rfl, HSB.out, HIV.out.mono (Nat.le_succ _), HLT.out _ HKB.out, HKB.out.blk HBX.out (by decide) (by decide) (by decide) (by decide) (by decide) (by decide)⟩
        · go_meet
          case rel => exact ⟨q, d, rfl, HS0.out, HIV.out.mono (Nat.le_succ _), HL0.out, HBX.out⟩
        · clear e0 e1 e2 e3 e4 e5 e6
          have HBOK := Lib.hid HOK.out.2.1
          refine (full_any X.b.a X.b.n X.b.c X.b.l w0 HBOK.out.1 (by omega) (HBOK.out.2.2.1.later HL0.out)).mono ?_
          rintro e w5 ⟨g5, rfl, r5, l5, _⟩
          have BX5 := HBX.out.later l5
          have e2 := BX5.cell 2 _ rfl
          have e5 := BX5.cell 5 _ rfl
          have HB5 := Lib.hid BX5
          have HK5 := Lib.hid (KX.later l5 HS0.out.2.2 : KX bs w0 w5)
          have HS5 := Lib.hid (HS0.out.later l5)
          have HR5 := Lib.hid r5
          obtain ⟨n3, hn3⟩ : ∃ c, (X.n == 3) = c := ⟨_, rfl⟩
          clear BX5 r5 l5
          cases n3
          · obtain ⟨bl, hbl⟩ : ∃ x, x = fullL X.b.l := ⟨_, rfl⟩
            have HH := Lib.hid (fun (W : World) (k : KX bs w5 W) => (by rw [hbl]; exact Has.row (k.row HR5.out) : Has W (some ⟨g5, 0, none⟩) (ints .u8 bl)))
            have HLEN := Lib.hid (show 128 = bl.length by rw [hbl]; exact (fullL_len _).symm)
            have H256 := Lib.hid (show ∀ y ∈ bl, y < 256 by rw [hbl]; exact fullL_lt HBOK.out.2.1)
            have hl200 : bl.length ≤ 200 := by rw [← HLEN.out]; omega
            obtain ⟨cc, hcc⟩ : ∃ x, x = bl.length + 5 := ⟨_, rfl⟩
            have HCC := Lib.hid hcc
            have HHD := Lib.hid ((handed_any (some ⟨g5, 0, none⟩) 128 128 bl w5 HLEN.out (HH.out w5 (KX.refl _)).rd (by omega)).mono fun e w' h => (show e = .returned (.slice (some ⟨w5.heap.size, 0, none⟩) 128 cc) ∧ Row w' w5.heap.size 5 .u8 (bl ++ behind) ∧ Below w5.heap.size w5 w' from by rw [hcc, HLEN.out]; exact h))
            obtain ⟨nb, hnb⟩ : ∃ x : Nat, x = 128 := ⟨_, rfl⟩
            have H128 := Lib.hid hnb
            obtain ⟨ow, how⟩ : ∃ ow, ow = decide (0 ≤ X.i ∧ X.i < B ∧ nb = 128) := ⟨_, rfl⟩
            have HOW := Lib.hid how
            clear hbl hcc how hnb
            go_wp2_with fail
            refine HHD.out.mono ?_
            rintro e w6 ⟨rfl, r6, b6⟩
            have L6 := Later.of b6
            obtain ⟨g6, hg6⟩ : ∃ x, w5.heap.size = x := ⟨_, rfl⟩
            rw [hg6] at r6 ⊢
            have HR6 := Lib.hid r6
            have hb5 : bs ≤ w5.heap.size := HS5.out.2.2
            have HK6 := Lib.hid (KX.later L6 hb5 : KX bs w5 w6)
            have hb6 : bs ≤ w6.heap.size := Nat.le_trans hb5 L6.size
            have HWD := Lib.hid (fun (W : World) (d2 : D) (s : St bs q r B d d2 W) (k : KX bs w6 W) => (show Calls Try.prog 18 #[dptr q, .int .i64 X.i, .slice (some ⟨g6, 0, none⟩) 128 cc] W fun e w' => e = .returned (.bool ow) ∧ St bs q r B (d.wrT X.i bl B) d2 w' ∧ KX bs W w' from by
              rw [HOW.out, H128.out]
              exact sWrite s HIV.out HB4.out hi40 X.i (some ⟨g6, 0, none⟩) 128 cc bl HLEN.out (by have h := (Has.row (k.row HR6.out)).take bl.length; rw [ints_take, List.take_left] at h; exact h) H256.out (by intro h; cases h)))
            have HWR := Lib.hid (fun (W : World) (d2 : D) (s : St bs q r B d2 d W) (k : KX bs w6 W) => (show Calls Try.prog 21 #[dptr r, .int .i64 X.i, .slice (some ⟨g5, 0, none⟩) 128 128] W fun e w' => e = .returned (.bool ow) ∧ St bs q r B d2 (d.wrT X.i bl B) w' ∧ KX bs W w' from by
              rw [HOW.out, H128.out]
              exact rWrite s HIV.out HB4.out hi40 X.i (some ⟨g5, 0, none⟩) 128 128 bl HLEN.out (fun W2 k2 => HH.out W2 ((HK6.out.trans k).trans k2))))
            have HSM := Lib.hid (fun (W : World) (k : KX bs w6 W) => same_any g6 (some ⟨g5, 0, none⟩) 128 128 cc bl W HLEN.out HCC.out (k.row HR6.out) ((HH.out W (HK6.out.trans k)).rd) (by omega))
            have st : St bs q r B d d w6.drew := HS5.out.later (L6.trans (Later.refl _).drew)
            have kx : KX bs w6 w6.drew := KX.later (Later.refl _).drew hb6
            have bx := HB5.out.later (L6.trans (Later.refl _).drew)
            have e1 := bx.cell 1 _ rfl
            have e1' := (HB5.out.later L6).cell 1 _ rfl
            clear hg6 L6 b6 r6 hb5 hb6 HHD
            go_wp2_with fail
            go_region_law (go_simp; first
              | (go_at_call 18; refine (HWD.out _ _ st kx).mono ?_; rintro e wX ⟨rfl, st, k2⟩; have bx := k2.blk bx (by decide) (by decide) (by decide) (by decide) (by decide) (by decide); have e1 := bx.cell 1 _ rfl; have kx := kx.trans k2; clear k2)
              | (go_at_call 21; refine (HWR.out _ _ st kx).mono ?_; rintro e wX ⟨rfl, st, k2⟩; have bx := k2.blk bx (by decide) (by decide) (by decide) (by decide) (by decide) (by decide); have e1 := bx.cell 1 _ rfl; have kx := kx.trans k2; clear k2)
              | (go_at_call 22; refine (HSM.out _ kx).mono ?_; rintro e wX ⟨rfl, rfl⟩))
            all_goals
              go_wp2_with fail
              go_meet
              case rel => exact ⟨q, d.wrT X.i bl B, rfl, st, HIV.out.wrT X.i H256.out, HLT.out _ ((HK5.out.trans HK6.out).trans kx), bx⟩
          · obtain ⟨bl, hbl⟩ : ∃ x, x = X.b.l := ⟨_, rfl⟩
            have HH := Lib.hid (fun (W : World) (k : KX bs w5 W) => (by rw [hbl]; exact (HBOK.out.2.2.1.later (HLT.out W (HK5.out.trans k))) : Has W X.b.a (ints .u8 bl)))
            have HLEN := Lib.hid (show X.b.n = bl.length by rw [hbl]; exact HBOK.out.1)
            have H256 := Lib.hid (show ∀ y ∈ bl, y < 256 by rw [hbl]; exact HBOK.out.2.1)
            have hl200 : bl.length ≤ 200 := by rw [← HLEN.out]; omega
            obtain ⟨cc, hcc⟩ : ∃ x, x = bl.length + 5 := ⟨_, rfl⟩
            have HCC := Lib.hid hcc
            have HHD := Lib.hid ((handed_any X.b.a X.b.n X.b.c bl w5 HLEN.out (HH.out w5 (KX.refl _)).rd (by omega)).mono fun e w' h => (show e = .returned (.slice (some ⟨w5.heap.size, 0, none⟩) X.b.n cc) ∧ Row w' w5.heap.size 5 .u8 (bl ++ behind) ∧ Below w5.heap.size w5 w' from by rw [hcc, HLEN.out]; exact h))
            obtain ⟨nb, hnb⟩ : ∃ x : Nat, x = X.b.n := ⟨_, rfl⟩
            have HX.b.n := Lib.hid hnb
            obtain ⟨ow, how⟩ : ∃ ow, ow = decide (0 ≤ X.i ∧ X.i < B ∧ nb = 128) := ⟨_, rfl⟩
            have HOW := Lib.hid how
            clear hbl hcc how hnb
            go_wp2_with fail
            refine HHD.out.mono ?_
            rintro e w6 ⟨rfl, r6, b6⟩
            have L6 := Later.of b6
            obtain ⟨g6, hg6⟩ : ∃ x, w5.heap.size = x := ⟨_, rfl⟩
            rw [hg6] at r6 ⊢
            have HR6 := Lib.hid r6
            have hb5 : bs ≤ w5.heap.size := HS5.out.2.2
            have HK6 := Lib.hid (KX.later L6 hb5 : KX bs w5 w6)
            have hb6 : bs ≤ w6.heap.size := Nat.le_trans hb5 L6.size
            have HWD := Lib.hid (fun (W : World) (d2 : D) (s : St bs q r B d d2 W) (k : KX bs w6 W) => (show Calls Try.prog 18 #[dptr q, .int .i64 X.i, .slice (some ⟨g6, 0, none⟩) X.b.n cc] W fun e w' => e = .returned (.bool ow) ∧ St bs q r B (d.wrT X.i bl B) d2 w' ∧ KX bs W w' from by
              rw [HOW.out, HX.b.n.out]
              exact sWrite s HIV.out HB4.out hi40 X.i (some ⟨g6, 0, none⟩) X.b.n cc bl HLEN.out (by have h := (Has.row (k.row HR6.out)).take bl.length; rw [ints_take, List.take_left] at h; exact h) H256.out (by intro h; cases h)))
            have HWR := Lib.hid (fun (W : World) (d2 : D) (s : St bs q r B d2 d W) (k : KX bs w6 W) => (show Calls Try.prog 21 #[dptr r, .int .i64 X.i, .slice X.b.a X.b.n X.b.c] W fun e w' => e = .returned (.bool ow) ∧ St bs q r B d2 (d.wrT X.i bl B) w' ∧ KX bs W w' from by
              rw [HOW.out, HX.b.n.out]
              exact rWrite s HIV.out HB4.out hi40 X.i X.b.a X.b.n X.b.c bl HLEN.out (fun W2 k2 => HH.out W2 ((HK6.out.trans k).trans k2))))
            have HSM := Lib.hid (fun (W : World) (k : KX bs w6 W) => same_any g6 X.b.a X.b.n X.b.c cc bl W HLEN.out HCC.out (k.row HR6.out) ((HH.out W (HK6.out.trans k)).rd) (by omega))
            have st : St bs q r B d d w6.drew := HS5.out.later (L6.trans (Later.refl _).drew)
            have kx : KX bs w6 w6.drew := KX.later (Later.refl _).drew hb6
            have bx := HB5.out.later (L6.trans (Later.refl _).drew)
            have e1 := bx.cell 1 _ rfl
            have e1' := (HB5.out.later L6).cell 1 _ rfl
            clear hg6 L6 b6 r6 hb5 hb6 HHD
            go_wp2_with fail
            go_region_law (go_simp; first
              | (go_at_call 18; refine (HWD.out _ _ st kx).mono ?_; rintro e wX ⟨rfl, st, k2⟩; have bx := k2.blk bx (by decide) (by decide) (by decide) (by decide) (by decide) (by decide); have e1 := bx.cell 1 _ rfl; have kx := kx.trans k2; clear k2)
              | (go_at_call 21; refine (HWR.out _ _ st kx).mono ?_; rintro e wX ⟨rfl, st, k2⟩; have bx := k2.blk bx (by decide) (by decide) (by decide) (by decide) (by decide) (by decide); have e1 := bx.cell 1 _ rfl; have kx := kx.trans k2; clear k2)
              | (go_at_call 22; refine (HSM.out _ kx).mono ?_; rintro e wX ⟨rfl, rfl⟩))
            all_goals
              go_wp2_with fail
              go_meet
              case rel => exact ⟨q, d.wrT X.i bl B, rfl, st, HIV.out.wrT X.i H256.out, HLT.out _ ((HK5.out.trans HK6.out).trans kx), bx⟩
      case rest =>
        obtain ⟨q2, d2, rfl, st, iv, la, bx⟩ := hcut
        have HSC := Lib.hid st
        have HIC := Lib.hid iv
        have HLC := Lib.hid la
        have HBC := Lib.hid bx
        have e1 := bx.cell 1 _ rfl
        obtain ⟨ob, hob⟩ : ∃ ob, decide (0 ≤ X.i ∧ X.i < B) = ob := ⟨_, rfl⟩
        obtain ⟨rl, hrl⟩ : ∃ l, d2.rd X.i B = l := ⟨_, rfl⟩
        have H1 := Lib.hid (sRead st iv HB4.out X.i)
        rw [hob, hrl] at H1
        clear st iv la bx HS0 HIV HL0 HBX HLT
        go_wp2_with fail
        refine H1.out.mono ?_
        rintro e wA ⟨A1, cA, rfl, h1, lA⟩
        have H2 := Lib.hid (rRead (HSC.out.later lA) HIC.out HB4.out X.i)
        rw [hob, hrl] at H2
        have e1 := (HBC.out.later lA).cell 1 _ rfl
        have HLA2 := Lib.hid lA
        have HH1 := Lib.hid h1
        clear hob hrl h1 lA H1
        go_wp2_with fail
        refine H2.out.mono ?_
        rintro e wB ⟨A2, cB, rfl, h2, lB⟩
        have q1 := conv_str A1 rl.length cA rl rfl wB _ (HH1.out.later lB).rd
        have q1d := conv_str A1 rl.length cA rl rfl wB.drew _ (HH1.out.later (lB.trans (Later.refl _).drew)).rd
        have q2' := conv_str A2 rl.length cB rl rfl wB _ h2.rd
        have q2d := conv_str A2 rl.length cB rl rfl wB.drew _ (h2.later (Later.refl _).drew).rd
        have HLB2 := Lib.hid ((HLA2.out.trans lB).trans (Later.refl _).drew)
        have st := HSC.out.later HLB2.out
        have kw := rWrites st
        have kw' := rWrites (HSC.out.later (HLA2.out.trans lB))
        have HWs := Lib.hid (sWrites st)
        have HSs := Lib.hid (sStopped st)
        have HSr := Lib.hid (rStopped st HIC.out)
        clear h2 lB st H2 e1
        go_wp2_with fail
        go_region_held3 (fun w' => (convert 31 9 (.slice A1 rl.length cA)).run Try.prog w' = .ok (.string (bstr rl)) w' ∧ (convert 31 9 (.slice A2 rl.length cB)).run Try.prog w' = .ok (.string (bstr rl)) w' ∧ w'.cell? ⟨r, 3, none⟩ = some (.int .i64 d2.writes)) (exact ⟨q1d, q2d, kw⟩) (first
          | (go_at_call 25; refine HWs.out.mono ?_; rintro e wX ⟨rfl, rfl⟩)
          | (go_at_call 26; refine HSs.out.mono ?_; rintro e wX ⟨rfl, rfl⟩)
          | (go_at_call 27; refine HSr.out.mono ?_; rintro e wX ⟨rfl, rfl⟩))
        all_goals
          go_wp2_with fail
          go_roundw
          case rel =>
            first
            | exact AlI.mk _ (i + 1) q2 d2 (by go_num) hlt (HSC.out.later HLB2.out) HIC.out (HLC.out.trans HLB2.out)
            | (repeat apply Exists.intro)
              exact ⟨AlI.mk _ (i + 1) q2 d2 (by go_num) hlt (HSC.out.later HLB2.out) HIC.out (HLC.out.trans HLB2.out), rfl⟩
          case measure => simp [intOf]; omega
    · obtain rfl : i = n := by omega
      have hlen : decide ((i : Int) < (i : Int)) = false := by simp
      go_wp2_with fail
      go_loopw [18] (fun iv wx => ∃ j : Nat, iv = .int .i64 j ∧ j ≤ B ∧ Later wr wx) (fun iv _ => B - (intOf iv).toNat)
      case atStart => exact ⟨0, rfl, Nat.zero_le _, Later.refl _⟩
      case round =>
        obtain ⟨j, rfl, hj, lx⟩ := hrel
        have HLX := Lib.hid lx
        by_cases hltj : j < B
        · have hji : (j : Int) < (B : Int) := by omega
          have hob : decide (0 ≤ (j : Int) ∧ (j : Int) < (B : Int)) = true := by simp; omega
          obtain ⟨rl, hrl⟩ : ∃ l, d.rd (j : Int) B = l := ⟨_, rfl⟩
          have H1 := Lib.hid (sRead (HST.out.later lx) HIV.out HB4.out (j : Int))
          rw [hob, hrl] at H1
          clear lx
          go_wp2_with fail
          refine H1.out.mono ?_
          rintro e wA ⟨A1, cA, rfl, h1, lA⟩
          have H2 := Lib.hid (rRead (HST.out.later (HLX.out.trans lA)) HIV.out HB4.out (j : Int))
          rw [hob, hrl] at H2
          have HLA2 := Lib.hid (HLX.out.trans lA)
          have HH1 := Lib.hid h1
          clear hob hrl h1 lA H1
          go_wp2_with fail
          refine H2.out.mono ?_
          rintro e wB ⟨A2, cB, rfl, h2, lB⟩
          have q1 := conv_str A1 rl.length cA rl rfl wB _ (HH1.out.later lB).rd
          have q1d := conv_str A1 rl.length cA rl rfl wB.drew _ (HH1.out.later (lB.trans (Later.refl _).drew)).rd
          have q2' := conv_str A2 rl.length cB rl rfl wB _ h2.rd
          have q2d := conv_str A2 rl.length cB rl rfl wB.drew _ (h2.later (Later.refl _).drew).rd
          have HLB2 := Lib.hid (HLA2.out.trans lB)
          clear h2 lB H2
          go_wp2_with fail
          all_goals
            go_roundw
            case rel => exact ⟨j + 1, by go_num, hltj, by first | exact HLB2.out | exact HLB2.out.trans (Later.refl _).drew⟩
            case measure => simp [intOf]; omega
        · obtain rfl : j = B := by omega
          have HX := Lib.hid (nilRead wr)
          have HX2 := Lib.hid (nilFlush wr)
          have HX3 := Lib.hid (nilStop 1 wr)
          have HX4 := Lib.hid (nilCrash nilv 0 0 wr)
          have HX6 := Lib.hid (sBlocks (HST.out.later lx))
          have HX5 := Lib.hid (full_any none 0 0 [] wr rfl (by decide) Has.nil_)
          have HLF := Lib.hid (HLA.out.trans lx)
          clear lx HLX
          go_wp2_with fail
          refine HX.out.mono ?_
          rintro e w' ⟨rfl, rfl⟩
          go_wp2_with fail
          refine HX2.out.mono ?_
          rintro e w' ⟨rfl, rfl⟩
          go_wp2_with fail
          refine HX3.out.mono ?_
          rintro e w' ⟨rfl, rfl⟩
          go_wp2_with fail
          refine HX4.out.mono ?_
          rintro e w' ⟨rfl, rfl⟩
          go_wp2_with fail
          refine HX6.out.mono ?_
          rintro e w' ⟨rfl, rfl⟩
          go_wp2_with fail
          refine HX5.out.mono ?_
          rintro e w5 ⟨g5, rfl, r5, l5, _⟩
          have HL5 := Lib.hid (HLF.out.trans l5)
          have HY1 := Lib.hid (nilWrite (some ⟨g5, 0, none⟩) 128 128 w5)
          have HY2 := Lib.hid (nilBlocks w5)
          have HY3 := Lib.hid (nilWrites w5)
          have HY4 := Lib.hid (nilStopped w5)
          have HY5 := Lib.hid (nilCopy w5)
          clear r5 l5
          go_wp2_with fail
          refine HY1.out.mono ?_
          rintro e w' ⟨rfl, rfl⟩
          go_wp2_with fail
          refine HY2.out.mono ?_
          rintro e w' ⟨rfl, rfl⟩
          go_wp2_with fail
          refine HY3.out.mono ?_
          rintro e w' ⟨rfl, rfl⟩
          go_wp2_with fail
          refine HY4.out.mono ?_
          rintro e w' ⟨rfl, rfl⟩
          go_wp2_with fail
          refine HY5.out.mono ?_
          rintro e w' ⟨rfl, rfl⟩
          go_wp2_with fail
          go_ret
          exact ⟨rfl, HL5.out⟩
end Go.Proofs.Ytnmldploafpbdaa
