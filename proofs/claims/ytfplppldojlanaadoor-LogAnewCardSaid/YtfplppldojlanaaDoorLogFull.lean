/- LogFull. -/
import Derived.Test.YtfplppldojlanaaDoorLogS
namespace Go.Proofs.YtfplppldojlanaaDoor
open Go.RowKit
set_option linter.unusedVariables false

theorem wf_u16' (n : Int) (h : (Lit.int .u16 n).wf = true) : 0 ≤ n ∧ n < (65536 : Nat) := by
  simp [Lit.wf, IntKind.min, IntKind.max, IntKind.signed, IntKind.bits] at h
  omega
/-- Bytes of which the first k are filled. -/
def fillB (i m k : Nat) : List Nat := (List.range k).map (fun j => (i + j) % 256) ++ List.replicate (m - k) 0
theorem fillB_len {i m k : Nat} (h : k ≤ m) : (fillB i m k).length = m := by simp [fillB]; omega
theorem fillB_step {i m k : Nat} (h : k < m) : (fillB i m k).set k ((i + k) % 256) = fillB i m (k + 1) := by
  unfold fillB
  obtain ⟨r, hr⟩ : ∃ r, m - k = r + 1 := ⟨m - k - 1, by omega⟩
  rw [hr, show m - (k + 1) = r by omega, List.set_append_right _ _ (by simp), List.length_map, List.length_range, Nat.sub_self, List.replicate_succ, List.set_cons_zero, List.range_succ, List.map_append, List.append_assoc]; rfl
theorem fillB_lt {i m : Nat} : ∀ x ∈ fillB i m m, x < 256 := by
  intro x hx
  simp [fillB] at hx
  obtain ⟨j, _, rfl⟩ := hx
  omega
def FulB (gb i m : Nat) (w : World) (iv : Value) (wr : World) : Prop := ∃ k : Nat, iv = .int .i64 k ∧ k ≤ m ∧ Row wr gb 5 .u8 (fillB i m k) ∧ Later w wr
theorem FulB.mk {gb i m : Nat} {w wr : World} (x : Int) (k : Nat) (hx : x = (k : Int)) (hk : k ≤ m) (h1 : Row wr gb 5 .u8 (fillB i m k)) (h2 : Later w wr) : FulB gb i m w (.int .i64 x) wr := by
  subst hx; exact ⟨k, rfl, hk, h1, h2⟩
/-- Where LogFull's loop stands. -/
def FulI (W1 : World) (p gs gn B q area wb : Nat) (N : Nat) (rv wv iv : Value) (wr : World) : Prop :=
  ∃ (i : Nat) (ss : List SlB) (A : Option Addr) (c wn : Nat) (now : List (List Nat)), rv = .int .i64 ((area : Int) - ((sumN (ss.map (·.l)) : Nat) : Int)) ∧ wv = .slice A ss.length c ∧ iv = .int .i64 i ∧ i ≤ N ∧ ss.length ≤ i ∧ LgS area 2 (ss.map (·.l)) now ∧
    LayP W1.heap.size p gs gn B q area 2 (sumN (ss.map (·.l))) 0 wn now wr wr ∧ wn ≤ 200 + 10 * i ∧ (∀ s ∈ ss, s.l.length ≤ 990 ∧ ∀ x ∈ s.l, x < 256) ∧ TB wr wb A ss.length c ss ∧ Later W1 wr ∧ wb ≤ wr.heap.size
theorem FulI.mk {W1 : World} {p gs gn B q area wb N : Nat} {wr : World} (x y : Int) (i n : Nat) (ss : List SlB) (A : Option Addr) (c wn : Nat) (now : List (List Nat)) (hy : y = (area : Int) - ((sumN (ss.map (·.l)) : Nat) : Int)) (hn : n = ss.length) (hx : x = (i : Int)) (h1 : i ≤ N) (h2 : ss.length ≤ i) (h3 : LgS area 2 (ss.map (·.l)) now)
    (h4 : LayP W1.heap.size p gs gn B q area 2 (sumN (ss.map (·.l))) 0 wn now wr wr) (h5 : wn ≤ 200 + 10 * i) (h6 : ∀ s ∈ ss, s.l.length ≤ 990 ∧ ∀ x ∈ s.l, x < 256) (h7 : TB wr wb A ss.length c ss) (h8 : Later W1 wr) (h9 : wb ≤ wr.heap.size) : FulI W1 p gs gn B q area wb N (.int .i64 y) (.slice A n c) (.int .i64 x) wr := by
  subst hy hn hx; exact ⟨i, ss, A, c, wn, now, rfl, rfl, rfl, h1, h2, h3, h4, h5, h6, h7, h8, h9⟩
theorem fitsE_nil (n : Int) (h : 0 ≤ n) : fitsE n [] = 0 := by
  unfold fitsE sumN
  rw [if_pos (by rfl), if_neg (by simp; omega)]
theorem fitsE_one {n : Int} {r : List Nat} (h : r.length ≤ 65536) : fitsE n [r] = if n < ((blkN r.length : Nat) : Int) then 6 else 0 := by
  unfold fitsE
  rw [if_pos (by simp [h])]
  have : sumN [r] = blkN r.length := by simp [sumN]
  rw [this]

set_option maxRecDepth 100000 in
theorem logFull_long (ar : Int) (A : Option Addr) (n c : Nat) (a : Addr) (w : World) (hs : S21 w a) (hn : 30 < n) :
    Calls Tryd.prog 4 #[.int .u8 ar, .slice A n c] w fun e w' => e = .returned (.bool true) ∧ Later w w' := by
  have HB := Lib.hid (begun21_any a w hs)
  have hd : decide ((30 : Int) < (n : Int)) = true := by simp; omega
  clear hs hn
  go_enter Tryd.func4, Tryd.ntmps4
  go_wp2_with fail
  refine HB.out.mono ?_
  rintro e w1 ⟨rfl, l1⟩
  have HL := Lib.hid l1
  clear l1
  go_wp2_with fail
  go_ret
  exact ⟨rfl, HL.out⟩

set_option maxRecDepth 100000 in
set_option maxHeartbeats 8000000 in
theorem logFull_walk (ar : Nat) (A : Option Addr) (n c : Nat) (L : List Nat) (a : Addr) (w : World) (hs : S21 w a) (ha : ar < 256) (hn : n = L.length) (hn30 : n ≤ 30) (hr : Has w A (ints .u16 L)) (hL : ∀ x ∈ L, x < 65536) :
    Calls Tryd.prog 4 #[.int .u8 (ar : Int), .slice A n c] w fun e w' => e = .returned (.bool true) ∧ Later w w' := by
  have HB := Lib.hid (begun21_any a w hs)
  have HS := Lib.hid hs
  have HR := Lib.hid hr
  have HN := Lib.hid hn
  have HL65 := Lib.hid hL
  have hd : decide ((30 : Int) < (n : Int)) = false := by simp; omega
  obtain ⟨t, ht⟩ : ∃ x, x = ar % 40 := ⟨_, rfl⟩
  obtain ⟨area, har⟩ : ∃ x, x = 2 + t := ⟨_, rfl⟩
  obtain ⟨B, hB⟩ : ∃ x, x = 2 + 2 * area := ⟨_, rfl⟩
  have ha41 : 2 ≤ area ∧ area ≤ 41 := by omega
  have e0 : (ar : Int).tmod 40 = (t : Int) := by rw [Int.tmod_eq_emod_of_nonneg (by omega)]; omega
  have e1 : IntKind.u8.wrap (t : Int) = (t : Int) := by simp [IntKind.wrap, IntKind.bits, IntKind.signed]; omega
  have e2 : IntKind.i64.wrap (t : Int) = (t : Int) := IntWalk.i64_in _ ⟨by omega, by omega⟩
  have e3 : IntKind.i64.wrap (2 + (t : Int)) = (area : Int) := by rw [IntWalk.i64_in _ ⟨by omega, by omega⟩]; omega
  have eB : 2 + 2 * (area : Int) = (B : Int) := by omega
  have hB1 : 1 ≤ B ∧ B ≤ 4000 := by omega
  have hfit : FitsD B (area : Int) := ⟨by omega, by omega, by omega⟩
  have HFT := Lib.hid hfit
  have HSZ := Lib.hid (fun W => logSize_any area W (by omega))
  have HNEW := Lib.hid (fun W => devNew_any B W hB1)
  have HB1 := Lib.hid hB1
  have HEB := Lib.hid eB
  have HA41 := Lib.hid ha41
  have HAN := Lib.hid har
  clear hs hr hn hL ht har hB eB hB1 hfit ha41
  go_enter Tryd.func4, Tryd.ntmps4
  go_wp2_with fail
  refine HB.out.mono ?_
  rintro e w1 ⟨rfl, l1⟩
  have HL1 := Lib.hid l1
  clear l1 HB
  go_wp2_with fail
  refine (HSZ.out w1).mono ?_
  rintro e w1' ⟨rfl, rfl⟩
  rw [HEB.out]
  go_wp2_with fail
  refine (HNEW.out w1).mono ?_
  rintro e w2 ⟨p, gs, gn, cs, cn, rfl, hda, l2⟩
  have HSB := Lib.hid ((S21B.of (HS.out.later HL1.out)).later l2)
  have HL2 := Lib.hid l2
  have HO := Lib.hid (logMake_any w1.heap.size p gs gn B cs cn none 0 (newD B) area none 0 [] a w2 0 0 hda HB1.out.2 HFT.out (DOk.new B) (by decide) (by decide) l2.size (Nat.zero_le _) (fun q W _ _ _ => ⟨.inl rfl, fun s hs => by cases hs⟩) (fun s hs => by cases hs) (new_ho B HB1.out.1) HSB.out)
  clear hda l2 HNEW HSZ
  go_wp2_with fail
  refine HO.out.mono ?_
  rintro e w3 ⟨rfl, hr⟩
  have hfe : fitsE ((area : Nat) : Int) (List.map (·.l) ([] : List SlB)) = 0 := fitsE_nil _ (by omega)
  rcases hr with ⟨h1, _⟩ | ⟨_, q, now, hq, hlg, hlay⟩
  · exact absurd hfe h1
  rw [hfe]
  have hlay : LayP w1.heap.size p gs gn B q area 1 0 0 (0 + area + 0 + 1) now w2 w3 := hlay
  have HB3 := Lib.hid (show Later w1 w3 from (show Below w1.heap.size w1 w2 from HL2.out.below).trans hlay.below)
  have HO := Lib.hid (logOpen_lay w1.heap.size p gs gn B q area 1 0 [] now a w2 w3 0 (0 + area + 0 + 1) hlay HB1.out.2 HFT.out hlg (by decide) (by decide) (by decide) (by have := HA41.out; omega) HB3.out.size (fun r hr => by cases hr) HSB.out)
  have HG3 := Lib.hid (show gs < w3.heap.size ∧ gn < w3.heap.size from ⟨hlay.rows.1, hlay.rows.2.1⟩)
  clear hfe hq hlg hlay
  go_wp2_with fail
  refine HO.out.mono ?_
  rintro e w4 ⟨q1, T, tc, ss, now1, rfl, hm, htb, hq1, hlg1, hlay1⟩
  obtain rfl : ss = [] := by simpa using hm
  have hlen : ([] : List SlB).length = 0 := rfl
  rw [hlen]
  have hlay1 : LayP w1.heap.size p gs gn B q1 area 2 0 0 (0 + area + 0 + 1 + area + 0 + 1) now1 w3 w4 := hlay1
  have HB4 := Lib.hid (show Later w1 w4 from (show Below w1.heap.size w1 w3 from HB3.out.below).trans hlay1.below)
  have HLG := Lib.hid (show LgS area 2 [] now1 from hlg1)
  have HLAY := Lib.hid hlay1.here
  have HRM := Lib.hid (logRoom_any q1 p area 2 0 w4 hlay1.blk (by have := HA41.out; omega) (by decide))
  have HWB := Lib.hid (show gs < w4.heap.size ∧ gn < w4.heap.size from ⟨hlay1.rows.1, hlay1.rows.2.1⟩)
  have HQ1 := Lib.hid (show w1.heap.size ≤ q1 from Nat.le_trans HB3.out.size hq1)
  clear hm htb hq1 hlg1 hlay1 hlen HO HB3 HG3 HL2
  go_wp2_with fail
  refine HRM.out.mono ?_
  rintro e w5 ⟨rfl, l5⟩
  have hz : (area : Int) - ((0 : Nat) : Int) = (area : Int) := by omega
  rw [hz]
  have HI0 := Lib.hid (FulI.mk (W1 := w1) (N := n) (wb := w5.heap.size) (wr := w5) 0 (area : Int) 0 0 [] none 0 _ now1 (by show (area : Int) = (area : Int) - ((0 : Nat) : Int); omega) rfl rfl (Nat.zero_le _) (Nat.le_refl _) HLG.out (HLAY.out.later l5 HQ1.out).here (by have := HA41.out; omega) (fun s hs => by cases hs) ⟨ownG_nil _ _ _ _, (fun s hs => by cases hs), fun _ => rfl⟩ (HB4.out.trans l5) (Nat.le_refl _))
  have HG5 := Lib.hid (show gs < w5.heap.size ∧ gn < w5.heap.size from ⟨by have := HWB.out.1; have := l5.size; omega, by have := HWB.out.2; have := l5.size; omega⟩)
  have HWB1 := Lib.hid (show w1.heap.size ≤ w5.heap.size from Nat.le_trans HB4.out.size l5.size)
  clear l5 hz HRM HWB HLG HLAY HB4
  obtain ⟨wb, hwb⟩ : ∃ x, w5.heap.size = x := ⟨_, rfl⟩
  rw [hwb] at HI0 HG5 HWB1
  clear hwb
  go_wp2_with fail
  go_loopw [11, 12, 13] (fun rv wv iv wr => FulI w1 p gs gn B q1 area wb n rv wv iv wr) (fun _ _ iv _ => n - (intOf iv).toNat)
  case atStart => exact HI0.out
  case round =>
    obtain ⟨i, ss, WA, wc, wn, now, rfl, rfl, rfl, hiN, hsi, hlg, hlay, hwn, h990, htb, hla, hwb⟩ := hrel
    obtain ⟨wo, hwo⟩ : ∃ x, x = wr := ⟨_, rfl⟩
    subst hwo
    have HLG := Lib.hid hlg
    have H990 := Lib.hid h990
    have HTB := Lib.hid htb
    have HLA := Lib.hid hla
    have HWB := Lib.hid hwb
    have hsum := hlg.sum
    obtain ⟨used, hus⟩ : ∃ x, sumN (ss.map (·.l)) = x := ⟨_, rfl⟩
    rw [hus] at hsum hlay ⊢
    have HLAY := Lib.hid hlay
    have HUS := Lib.hid hus
    clear HI0 hlg hlay h990 htb hla hwb hus
    by_cases hlt : i < n
    · have hil : i < L.length := by have := HN.out; omega
      obtain ⟨v, hv⟩ : ∃ x, x = L[i] := ⟨_, rfl⟩
      have hv65 : v < 65536 := by rw [hv]; exact HL65.out _ (List.getElem_mem hil)
      obtain ⟨ab, off, rfl, hcell⟩ : ∃ ab off, A = some ⟨ab, off, none⟩ ∧ wo.cell? ⟨ab, off + i, none⟩ = some (.int .u16 (v : Int)) := by
        rcases HR.out.later (HL1.out.trans HLA.out) with h | ⟨b', o', h1, _, h3⟩
        · have := congrArg List.length h
          rw [ints_length] at this
          rw [show L.length = 0 from this] at hil
          omega
        · exact ⟨b', o', h1, by rw [hv]; exact h3 i _ (ints_get _ _ _ hil)⟩
      obtain ⟨m, hm⟩ : ∃ x, x = v % 900 := ⟨_, rfl⟩
      have hm9 : m ≤ 899 := by omega
      have f0 : (v : Int).tmod 900 = (m : Int) := by rw [Int.tmod_eq_emod_of_nonneg (by omega)]; omega
      have f1 : IntKind.u16.wrap (m : Int) = (m : Int) := by simp [IntKind.wrap, IntKind.bits, IntKind.signed]; omega
      have f2 : IntKind.i64.wrap (m : Int) = (m : Int) := IntWalk.i64_in _ ⟨by omega, by omega⟩
      have mk : ∀ W : World, (Instr.makeSlice 24 (.int .i64 (m : Int)) (.int .i64 (m : Int))).run Tryd.prog W = .ok (.slice (some ⟨W.heap.size, 0, none⟩) m m) (W.alloc (.cells (madeCells #[.int .u8 0] m) 5)) := fun W => run_make_cap m m (Nat.le_refl _) (by omega) W
      obtain ⟨gb, hgb⟩ : ∃ x, wo.heap.size = x := ⟨_, rfl⟩
      obtain ⟨w6, hw6⟩ : ∃ x, wo.alloc (.cells (madeCells #[.int .u8 0] m) 5) = x := ⟨_, rfl⟩
      have HF0 := Lib.hid (show FulB gb i m wo (.int .i64 0) w6 from FulB.mk 0 0 rfl (Nat.zero_le _) (by rw [← hgb, ← hw6]; exact Row.made wo 5 .u8 m) (hw6 ▸ Later.new _ _))
      have HGB := Lib.hid hgb
      have HMM := Lib.hid hm
      clear hv hv65 hm
      go_wp2_with fail
      go_loopw [15] (fun kv wx => FulB gb i m wo kv wx) (fun kv _ => m - (intOf kv).toNat)
      case atStart => exact HF0.out
      case round =>
        obtain ⟨k, rfl, hkm, hrow, hlx⟩ := hrel
        have HROW := Lib.hid hrow
        have HLX := Lib.hid hlx
        clear HF0 hgb hw6 hcell mk f0 f1 f2
        by_cases hk : k < m
        · have hkl : k < (fillB i m k).length := by rw [fillB_len hkm]; exact hk
          have hc := hrow.cell k hkl
          have hf := hrow.frozen k
          obtain ⟨x, hx⟩ : ∃ x, x = (i + k) % 256 := ⟨_, rfl⟩
          have hset := hrow.set' k x (x : Int) rfl _ (hx ▸ fillB_step hk)
          have g1 : IntKind.i64.wrap ((i : Int) + (k : Int)) = (i : Int) + (k : Int) := IntWalk.i64_in _ ⟨by omega, by omega⟩
          have g2 : IntKind.u8.wrap ((i : Int) + (k : Int)) = (x : Int) := by simp [IntKind.wrap, IntKind.bits, IntKind.signed]; omega
          have HSET := Lib.hid hset
          have HL2 := Lib.hid (hlx.set_ (p := ⟨gb, k, none⟩) (by rw [HGB.out]; exact Nat.le_refl _) (.int .u8 (x : Int)))
          clear hrow hlx hset hx
          go_wp2_with fail
          go_roundw
          case rel => exact FulB.mk _ (k + 1) (by go_num) hk HSET.out HL2.out
          case measure => simp [intOf]; omega
        · obtain rfl : k = m := by omega
          obtain ⟨r, hr⟩ : ∃ x, fillB i k k = x := ⟨_, rfl⟩
          rw [hr] at hrow
          have hrl : r.length = k := by rw [← hr]; exact fillB_len (Nat.le_refl _)
          have hr256 : ∀ x ∈ r, x < 256 := by rw [← hr]; exact fillB_lt
          have hlo : LogBk wr q1 p area 2 used := HLAY.out.blk.later hlx
          obtain ⟨b, hbk⟩ : ∃ x, blkN k = x := ⟨_, rfl⟩
          have hb1 : 1 ≤ b ∧ b ≤ 10 := by rw [← hbk]; unfold blkN; omega
          have g1 : IntKind.i64.wrap (4 + (k : Int)) = 4 + (k : Int) := IntWalk.i64_in _ ⟨by omega, by omega⟩
          have g2 : IntKind.i64.wrap (4 + (k : Int) + 109) = 4 + (k : Int) + 109 := IntWalk.i64_in _ ⟨by omega, by omega⟩
          have g3 : (4 + (k : Int) + 109).tdiv 110 = (b : Int) := by
            rw [Int.tdiv_eq_ediv_of_nonneg (by omega), ← hbk]
            unfold blkN
            omega
          have g4 : IntKind.i64.wrap (b : Int) = (b : Int) := IntWalk.i64_in _ ⟨by omega, by omega⟩
          have HLW := Lib.hid (HLA.out.trans hlx)
          have HWR := Lib.hid (Nat.le_trans HWB.out hlx.size)
          have HLAY7 := Lib.hid (HLAY.out.later hlx HQ1.out).here
          have HTB7 := Lib.hid (HTB.out.later hlx)
          have HAPP := Lib.hid (logAppend_any w1.heap.size p gs gn B q1 area 2 used 0 wn now (ss.map (·.l)) (some ⟨gb, 0, none⟩) k r a wr wr HLAY7.out HB1.out.2 HFT.out (by decide) (by decide) (by omega) HQ1.out HLG.out HUS.out.symm (Has.row hrow) (fun h => by cases h) (by omega) hr256 ((S21B.of (HS.out.later HL1.out)).later HLW.out))
          rw [hrl] at HAPP
          have HRB := Lib.hid hrow
          have HHR := Lib.hid hrl
          have H256 := Lib.hid hr256
          have HBK := Lib.hid hbk
          have hA1 := HA41.out.1
          have hA2 := HA41.out.2
          clear hrow hr hrl hr256 hlo hbk hlx HROW HLX
          by_cases hroom : b ≤ area - used
          · have hz : fitsE ((area : Int) - (used : Int)) [r] = 0 := by
              rw [fitsE_one (by have := HHR.out; omega), HHR.out, HBK.out, if_neg (by omega)]
            have d1 : decide ((b : Int) ≤ (area : Int) - (used : Int)) = true := by simp; omega
            obtain ⟨rm, hrm⟩ : ∃ x : Int, x = (area : Int) - ((used + b : Nat) : Int) := ⟨_, rfl⟩
            have g5 : IntKind.i64.wrap ((area : Int) - (used : Int) - (b : Int)) = rm := by rw [IntWalk.i64_in _ ⟨by omega, by omega⟩]; omega
            have HRM := Lib.hid hrm
            clear hrm
            go_wp2_with fail
            refine HAPP.out.mono ?_
            rintro e w7 ⟨rfl, hr⟩
            rcases hr with ⟨h1, _⟩ | ⟨_, now2, hlg2, hlay2⟩
            · exact absurd hz h1
            rw [hz]
            rw [HHR.out, HBK.out] at hlay2
            have HLG2 := Lib.hid hlg2
            have HKL := Lib.hid hlay2.kl
            have HLAY2 := Lib.hid hlay2.here
            have HL7 := Lib.hid (show Later w1 w7 from (show Below w1.heap.size w1 wr from HLW.out.below).trans hlay2.below)
            have HTB8 := Lib.hid (HTB7.out.kl HKL.out HLAY7.out.blk HG5.out.1 HG5.out.2)
            have HRB8 := Lib.hid (show RB w7 wb (some ⟨gb, 0, none⟩) r from ⟨gb, 0, _, rfl, by rw [← HGB.out]; exact HWB.out, (HKL.out.2.2.2.2.1 gb _ _ (fun e => by
                have h1 := HLAY7.out.blk
                rw [← e] at h1
                exact typed_no h1 HRB.out (by decide)) (by decide) (by decide) (by decide) HRB.out).trans HRB.out, fun j u hj => by rw [Nat.zero_add]; simpa using hj⟩)
            clear hz hlg2 hlay2 HAPP HRB
            have HBK7 := Lib.hid (fun (wz : World) => Blk.new wz #[.slice (some ⟨gb, 0, none⟩) k k] 24 wz.heap.size rfl)
            have HOB := Lib.hid (fun (o : Obj) => own_later HTB8.out.1 (Later.new w7 o))
            have HW7 := Lib.hid (show wb ≤ w7.heap.size from Nat.le_trans HWR.out HKL.out.2.2.2.1)
            go_wp2_with (at_builtin; go_loud (refine wpList_append_g _ rfl (.tmp 119) (.tmp 121) 33 rfl wb 24 _ 1 24 Tryd.underlying33 info_bs rfl (by decide) _ ss.length _ rfl (HOB.out _) _ 1 1 [.slice (some ⟨gb, 0, none⟩) k k] rfl (blk_hasL (HBK7.out w7)) rfl (by intro h; cases h) (by intro u hu; rw [List.mem_singleton] at hu; subst hu; rfl) (by unfold maxLen; omega) (by have := HW7.out; omega) (by have := HW7.out; simp; omega) ?_); rintro A' c' wq hO hgr hbel hn2; have HO2 := Lib.hid hO; have HN2 := Lib.hid hn2; have HBEL := Lib.hid hbel; have HGR := Lib.hid hgr; clear hO hn2 hbel hgr)
            have HOWN := Lib.hid (fun (x : Nat) (hx : (Value.slice WA ss.length wc).ownBlock = some x) => show x ≠ gs ∧ x ≠ gn ∧ ∃ (cs : Array Value), (w7.alloc (.cells #[.slice (some ⟨gb, 0, none⟩) k k] 24)).heap[x]? = some (Obj.cells cs 24 (0, 0)) from by
              have h1 := ((HOB.out (.cells #[.slice (some ⟨gb, 0, none⟩) k k] 24)).lt x hx).1
              have h2 := HG5.out
              exact ⟨by omega, by omega, devblk_v (HOB.out _) x hx⟩)
            have HLQ := Lib.hid ((HLAY2.out.later (Later.new w7 _) HQ1.out).grown HGR.out HOWN.out)
            have HL8 := Lib.hid (show Later w1 wq from (HL7.out.alloc _).below.trans (Below.mono HBEL.out HWB1.out))
            have HW8 := Lib.hid (show wb ≤ wq.heap.size from Nat.le_trans HW7.out (Nat.le_trans (Later.new w7 _).size HBEL.out.size))
            have HTQ := Lib.hid (show TB wq wb A' (ss.length + 1) c' (ss ++ [⟨some ⟨gb, 0, none⟩, k, r⟩]) from by
              have hr2 : ∀ x, (Value.slice WA ss.length wc).ownBlock = some x → ∃ (cs : Array Value) (t : TypeId), (w7.alloc (.cells #[.slice (some ⟨gb, 0, none⟩) k k] 24)).heap[x]? = some (Obj.cells cs t (0, 0)) ∧ t ≠ 5 := fun x hx => by
                obtain ⟨_, _, c, hc⟩ := HOWN.out x hx
                exact ⟨c, _, hc, by decide⟩
              refine ⟨?_, ?_, HN2.out⟩
              · have h := HO2.out
                rw [List.map_append]
                show wq.ownsRow wb _ 1 _ _ (ss.map SlB.v ++ [.slice (some ⟨gb, 0, none⟩) r.length k])
                rw [HHR.out]
                exact h
              · intro s hs
                rcases List.mem_append.1 hs with h | h
                · exact ((HTB8.out.2.1 s h).later (Later.new w7 _)).grown HGR.out hr2
                · rw [List.mem_singleton] at h; subst h
                  exact (HRB8.out.later (Later.new w7 _)).grown HGR.out hr2)
            have HRO := Lib.hid (logRoom_any q1 p area 2 (used + b) wq HLQ.out.blk (by omega) (by omega))
            rw [← HRM.out] at HRO
            clear HO2 HN2 HBEL HGR HOWN HBK7 HOB HW7 HL7 HTB8 HRB8 HLAY2 hroom
            go_wp2_with fail
            refine HRO.out.mono ?_
            rintro e w8 ⟨rfl, l8⟩
            have HLAY8 := Lib.hid (HLQ.out.later l8 HQ1.out).here
            have HTB9 := Lib.hid (HTQ.out.later l8)
            have HL9 := Lib.hid (HL8.out.trans l8)
            have HWB8 := Lib.hid (show wb ≤ w8.heap.size from Nat.le_trans HW8.out l8.size)
            have hsn : sumN ((ss ++ [(⟨some ⟨gb, 0, none⟩, k, r⟩ : SlB)]).map (·.l)) = used + b := by
              rw [List.map_append]
              show sumN (ss.map (·.l) ++ [r]) = _
              rw [sumN_snoc, HUS.out, HHR.out, HBK.out]
            have HSN := Lib.hid hsn
            clear l8 HRO hsn
            go_wp2_with fail
            go_roundw
            case rel => exact FulI.mk _ _ (i + 1) _ (ss ++ [⟨some ⟨gb, 0, none⟩, k, r⟩]) _ _ (wn + b) now2 (by rw [HSN.out]; exact HRM.out) (by rw [List.length_append]; rfl) (by go_num) (by omega) (by rw [List.length_append, List.length_singleton]; omega) (by rw [List.map_append]; exact HLG2.out) (by rw [HSN.out]; exact HLAY8.out) (by omega) (fun s hs => by
                rcases List.mem_append.1 hs with h | h
                · exact H990.out s h
                · rw [List.mem_singleton] at h; subst h
                  exact ⟨by show r.length ≤ 990; rw [HHR.out]; omega, H256.out⟩) (by rw [List.length_append]; exact HTB9.out) HL9.out HWB8.out
            case measure => simp [intOf]; omega
          · have hz : fitsE ((area : Int) - (used : Int)) [r] = 6 := by
              rw [fitsE_one (by have := HHR.out; omega), HHR.out, HBK.out, if_pos (by omega)]
            have d1 : decide ((b : Int) ≤ (area : Int) - (used : Int)) = false := by simp; omega
            clear hroom
            go_wp2_with fail
            refine HAPP.out.mono ?_
            rintro e w7 ⟨rfl, hr⟩
            rcases hr with ⟨_, hlay2⟩ | ⟨h1, _⟩
            rotate_left
            · rw [hz] at h1; cases h1
            rw [hz]
            have HKL := Lib.hid hlay2.kl
            have HLAY2 := Lib.hid hlay2.here
            have HL7 := Lib.hid (show Later w1 w7 from (show Below w1.heap.size w1 wr from HLW.out.below).trans hlay2.below)
            have HTB8 := Lib.hid (HTB7.out.kl HKL.out HLAY7.out.blk HG5.out.1 HG5.out.2)
            have HRO := Lib.hid (logRoom_any q1 p area 2 used w7 HLAY2.out.blk (by omega) (by omega))
            clear hz hlay2 HAPP HRB
            go_wp2_with fail
            refine HRO.out.mono ?_
            rintro e w8 ⟨rfl, l8⟩
            have HLAY8 := Lib.hid (HLAY2.out.later l8 HQ1.out).here
            have HTB9 := Lib.hid (HTB8.out.later l8)
            have HL8 := Lib.hid (HL7.out.trans l8)
            have HWB8 := Lib.hid (show wb ≤ w8.heap.size from Nat.le_trans HWR.out (Nat.le_trans HKL.out.2.2.2.1 l8.size))
            clear l8 HRO
            go_wp2_with fail
            go_roundw
            case rel => exact FulI.mk _ _ (i + 1) _ ss _ _ wn now (by rw [HUS.out]) rfl (by go_num) (by omega) (by omega) HLG.out (by rw [HUS.out]; exact HLAY8.out) (by omega) H990.out HTB9.out HL8.out HWB8.out
            case measure => simp [intOf]; omega
    · obtain rfl : i = n := by omega
      have hA1 := HA41.out.1
      have hA2 := HA41.out.2
      have HO := Lib.hid (logOpen_lay w1.heap.size p gs gn B q1 area 2 used (ss.map (·.l)) now a wo wo 0 wn HLAY.out HB1.out.2 HFT.out HLG.out (by decide) (by decide) (by decide) (by omega) HLA.out.size (fun r hr => by
        obtain ⟨s, hs, rfl⟩ := List.mem_map.1 hr
        exact H990.out s hs) ((S21B.of (HS.out.later HL1.out)).later HLA.out))
      go_wp2_with fail
      refine HO.out.mono ?_
      rintro e w5' ⟨q2, T2, tc2, ss2, now3, rfl, hm2, htb2, hq2, hlg3, hlay3⟩
      have HTQ := Lib.hid (HTB.out.kln hlay3.kl hq2 HG5.out.1 HG5.out.2)
      have HT2 := Lib.hid htb2
      have HM2 := Lib.hid hm2
      have HLE := Lib.hid (show Later w1 w5' from (show Below w1.heap.size w1 wo from HLA.out.below).trans hlay3.below)
      have hqb : LogBk w5' q1 p area 2 used := (hlay3.kl.2.2.2.2.1 q1 _ _ (by have := HLAY.out.blk.lt; omega) (by decide) (by decide) (by decide) HLAY.out.blk).trans HLAY.out.blk
      have HQB := Lib.hid hqb
      have hle : ss2.length = ss.length := by have := congrArg List.length hm2; simpa using this
      have HSM := Lib.hid (logSame_any T2 WA ss2.length ss.length tc2 wc ss2 ss w5' rfl rfl (by have := HN.out; omega) htb2.has.1 HTQ.out.has.1 (fun s hs => ⟨htb2.has.2 s hs, by
        have : s.l ∈ ss.map (·.l) := by rw [← hm2]; exact List.mem_map_of_mem hs
        obtain ⟨s', hs', he⟩ := List.mem_map.1 this
        rw [← he]
        exact (H990.out s' hs').2⟩) (fun s hs => ⟨HTQ.out.has.2 s hs, (H990.out s hs).2⟩))
      have mk5 : ∀ W : World, (Instr.makeSlice 24 (.int .i64 65537) (.int .i64 65537)).run Tryd.prog W = .ok (.slice (some ⟨W.heap.size, 0, none⟩) 65537 65537) (W.alloc (.cells (madeCells #[.int .u8 0] 65537) 5)) := fun W => run_make_cap 65537 65537 (Nat.le_refl _) (by omega) W
      clear hm2 htb2 hq2 hlg3 hlay3 hqb hle HO
      go_wp2_with fail
      refine HSM.out.mono ?_
      rintro e w6' ⟨b, hb, rfl, l6⟩
      obtain rfl : b = true := hb.2 HM2.out
      obtain ⟨w7', hw7⟩ : ∃ x, w6'.alloc (.cells (madeCells #[.int .u8 0] 65537) 5) = x := ⟨_, rfl⟩
      have l7 : Later w6' w7' := hw7 ▸ Later.new _ _
      have HL7 := Lib.hid ((HL1.out.trans (HLE.out.trans l6)).trans l7)
      have HAL := Lib.hid (logAppend_over q1 p area 2 used 65537 (some ⟨w6'.heap.size, 0, none⟩) 65537 w7' ((HQB.out.later l6).later l7) (by omega) (by omega) (by decide) (by decide) (HS.out.later HL7.out).err)
      have HW7 := Lib.hid hw7
      clear l6 l7 hw7 HSM
      go_wp2_with fail
      try rw [HW7.out]
      refine HAL.out.mono ?_
      rintro e w8' ⟨rfl, l8⟩
      have HEND := Lib.hid (HL7.out.trans l8)
      clear l8 HAL
      go_wp2_with fail
      go_ret
      exact ⟨rfl, HEND.out⟩
end Go.Proofs.YtfplppldojlanaaDoor
