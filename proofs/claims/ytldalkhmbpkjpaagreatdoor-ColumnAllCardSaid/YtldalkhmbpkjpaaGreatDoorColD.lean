
import Derived.Test.YtldalkhmbpkjpaaGreatDoorColA
import Derived.RegionTactic
import Derived.Deep.RegionLaw
import Derived.BigQuiet
/- Walks of package column: apart, write, Put. -/

namespace Go.Proofs.YtldalkhmbpkjpaaGreatDoor
open Go.RowKit
set_option linter.unusedVariables false

theorem bools_full {L : List Bool} {n : Nat} (h : L.length = n) : L.take n ++ List.replicate (n - n) false = L := by
  rw [Nat.sub_self, List.replicate_zero, List.append_nil, List.take_of_length_le (by omega)]
theorem boolSet {L : List Bool} {k n : Nat} (hL : L.length = n) (hk : k < n) : (bools (L.take k ++ List.replicate (n - k) false)).toArray.setIfInBounds k (.bool (L[k]'(by rw [hL]; exact hk))) = (bools (L.take (k + 1) ++ List.replicate (n - (k + 1)) false)).toArray := by
  rw [← fillB L k n hL hk]
  simp [bools]
theorem Blk.boolOld {w : World} {g : Nat} {L : List Bool} {k : Nat} (h : Blk w g (bools L).toArray 4) (hk : k < L.length) : ∃ x : Bool, w.cell? ⟨g, k, none⟩ = some (.bool x) :=
  ⟨L[k], h.cell k _ (by rw [List.getElem?_toArray]; exact bools_get _ _ _)⟩
theorem bools_at {L : List Bool} {k n : Nat} (hL : L.length = n) (hk : k < n) : (bools (L.take (k + 1) ++ List.replicate (n - (k + 1)) false))[k]? = some (.bool (L[k]'(by rw [hL]; exact hk))) := by
  unfold bools
  rw [List.getElem?_map, List.getElem?_append_left (by rw [List.length_take]; omega), List.getElem?_take_of_lt (by omega), List.getElem?_eq_getElem (by omega)]
  rfl
theorem someL_snoc (l : List Val3) (v : Val3) : someL (l ++ [v]) = someL l ++ (if v.1 = 0 then [] else [v]) := by
  unfold someL
  rw [List.filter_append]
  congr 1
  by_cases h : v.1 = 0
  · rw [if_pos h, List.filter_cons_of_neg (by simp [h])]; rfl
  · rw [if_neg h, List.filter_cons_of_pos (by simp [h])]; rfl
/-- Where apart's loop stands. -/
def ApInv (t : Int) (l : List Val3) (g n : Nat) (w : World) (nv sv iv : Value) (wr : World) : Prop :=
  nv = .slice (some ⟨g, 0, none⟩) n n ∧ ∃ (S : Option Addr) (ns cs k : Nat), sv = .slice S ns cs ∧ iv = .int .i64 (k : Int) ∧ k ≤ l.length ∧ ns = (someL (l.take k)).length ∧ FitL t (l.take k) ∧ Blk wr g (bools ((noneL l).take k ++ List.replicate (l.length - k) false)).toArray 4 ∧ wr.ownsRow (g + 1) 26 3 (.slice S ns cs) ns (fl (someL (l.take k))) ∧ Later w wr
theorem ApInv.mk {t : Int} {l : List Val3} {g n : Nat} {w wr : World} (S : Option Addr) (ns cs k : Nat) (z : Int) (hz : z = (k : Int)) (h1 : k ≤ l.length) (h2 : ns = (someL (l.take k)).length) (h3 : FitL t (l.take k)) (h4 : Blk wr g (bools ((noneL l).take k ++ List.replicate (l.length - k) false)).toArray 4) (h5 : wr.ownsRow (g + 1) 26 3 (.slice S ns cs) ns (fl (someL (l.take k)))) (h6 : Later w wr) : ApInv t l g n w (.slice (some ⟨g, 0, none⟩) n n) (.slice S ns cs) (.int .i64 z) wr := by
  subst hz; exact ⟨rfl, S, ns, cs, k, rfl, rfl, h1, h2, h3, h4, h5, h6⟩
/-- What apart tells. -/
def ApPost (t : Int) (l : List Val3) (w : World) (e : Ending) (w' : World) : Prop :=
  ((¬ FitL t l ∧ ∃ p : Addr, e = .returned (.tuple #[.slice none 0 0, .slice none 0 0, .iface 82 (.pointer (some p))])) ∨
    ∃ g S ns cs, FitL t l ∧ e = .returned (.tuple #[.slice (some ⟨g, 0, none⟩) l.length l.length, .slice S ns cs, .nilIface]) ∧ ns = (someL l).length ∧ Has w' (some ⟨g, 0, none⟩) (bools (noneL l)) ∧ Has w' S (fl (someL l)) ∧ ns ≤ cs ∧ cs ≤ 9223372036854775807) ∧ Later w w'

set_option maxRecDepth 100000 in
set_option maxHeartbeats 2000000 in
theorem colApart_any (t : Int) (A : Option Addr) (n c : Nat) (l : List Val3) (w : World) (hn : n = l.length) (hs : S6 w) (hl : l.length ≤ 1000) (hr : Has w A (fl l)) :
    Calls Tryz.prog 28 #[.int .i64 t, .slice A n c] w (ApPost t l w) := by
  have hmk := fun W => run_make_row' (P := Tryz.prog) 46 4 (.bool false) 1 Tryz.underlying46 info_bool rfl .i64 .i64 n (by omega) (by omega) W
  have HS := Lib.hid hs
  have HR := Lib.hid hr
  have HN := Lib.hid hn
  have hn9 : n ≤ 1000 := by omega
  obtain ⟨g, hg⟩ : ∃ g, g = w.heap.size := ⟨_, rfl⟩
  have HG := Lib.hid hg
  have HB0 := Lib.hid (show Blk (w.alloc (.cells (madeCells #[.bool false] n) 4)) g (bools ((noneL l).take 0 ++ List.replicate (l.length - 0) false)).toArray 4 by
    rw [hg, Nat.sub_zero, List.take_zero, List.nil_append, ← hn]; exact Blk.madeB w n)
  clear hs hr hn hl
  go_enter Tryz.func28, Tryz.ntmps28
  go_wp2_with fail
  clear hmk
  rw [← hg]
  clear hg
  go_loopw [4, 5, 14] (fun nv sv iv wr => ApInv t l g n w nv sv iv wr) (fun _ _ iv _ => n - (intOf iv).toNat)
  case atStart => exact ApInv.mk none 0 0 0 0 rfl (Nat.zero_le _) rfl (fun x hx => by cases hx) HB0.out (ownG_nil _ _ _ _) (Later.new _ _)
  case round =>
    obtain ⟨rfl, S, ns, cs, k, rfl, rfl, hk, hns, hfit, hblk, hown, lat⟩ := hrel
    have HFIT := Lib.hid hfit
    have HBLK := Lib.hid hblk
    have HOWN := Lib.hid hown
    have HLAT := Lib.hid lat
    have HNS := Lib.hid hns
    clear hfit hblk hown lat hns HB0
    by_cases hlt : k < n
    · have hkl : k < l.length := by have := HN.out; omega
      obtain ⟨b, off, hadr, c0, c1, c2⟩ := (HR.out.later HLAT.out).val3 k hkl
      subst hadr
      obtain ⟨v, hv⟩ : ∃ v, v = l[k] := ⟨_, rfl⟩
      rw [← hv] at c0 c1 c2
      have HTK := Lib.hid (show l.take (k + 1) = l.take k ++ [v] by rw [List.take_succ_eq_append_getElem hkl, hv])
      have HNK := Lib.hid (show (noneL l)[k]'(by rw [noneL_len]; exact hkl) = (v.1 == 0) by unfold noneL; rw [List.getElem_map, hv])
      have HMEM := Lib.hid (show v ∈ l by rw [hv]; exact List.getElem_mem hkl)
      obtain ⟨vt, vi, vs⟩ := v
      dsimp only at c0 c1 c2
      obtain ⟨wa, hwa⟩ : ∃ wa, wa = wr.alloc (.cells #[.int .i64 vt, .int .i64 vi, .string vs] 26) := ⟨_, rfl⟩
      obtain ⟨gv, hgv⟩ : ∃ gv, gv = wr.heap.size := ⟨_, rfl⟩
      have LA : Later wr wa := hwa ▸ Later.new _ _
      have BV : Blk wa gv #[.int .i64 vt, .int .i64 vi, .string vs] 26 := by rw [hwa, hgv]; exact Blk.new wr _ _ _ rfl
      obtain ⟨a0, a2, a3, a4, S0⟩ := (HS.out.later (HLAT.out.trans LA)).sn
      have HF := Lib.hid (fits_any t vt vi vs a0 a2 a3 a4 wa S0)
      have HWA := Lib.hid hwa
      have HGV := Lib.hid hgv
      have HLA := Lib.hid LA
      have HBV := Lib.hid BV
      have HKL := Lib.hid hkl
      have hgg : g < gv := by
        have h1 := HG.out
        have h2 := HBLK.out.lt
        rw [hgv]; exact h2
      have v0 := BV.cell 0 _ rfl
      have v1 := BV.cell 1 _ rfl
      have v2 := BV.cell 2 _ rfl
      rw [hwa, hgv] at v0 v1 v2
      clear hv hwa hgv LA BV S0 hk
      go_wp2_with fail
      rw [← HWA.out, ← HGV.out]
      clear v0 v1 v2
      refine HF.out.mono ?_
      intro e w5 h
      by_cases hfv : FitsV t vt vi vs.size
      · obtain ⟨rfl, l5⟩ := TellsP.yes hfv (SaysP.tells h)
        have L5 := Lib.hid (HLA.out.trans l5)
        have BV5 := Lib.hid (HBV.out.later l5)
        have BG5 := HBLK.out.later L5.out
        have OW5 := Lib.hid (own_later HOWN.out L5.out)
        have hLN : (noneL l).length = l.length := noneL_len l
        obtain ⟨xo, hold⟩ := BG5.boolOld (k := k) (by rw [List.length_append, List.length_take, List.length_replicate, hLN]; have := HKL.out; omega)
        have hfr := BG5.frozen k
        have BG6 := BG5.set_ k (.bool ((noneL l)[k]'(by rw [noneL_len]; exact HKL.out)))
        rw [boolSet (noneL_len l) HKL.out, HNK.out] at BG6
        have HFN := Lib.hid (show FitL t (l.take (k + 1)) by
          rw [HTK.out]
          intro x hx
          rcases List.mem_append.1 hx with hx | hx
          · exact HFIT.out x hx
          · rw [List.mem_singleton] at hx; rw [hx]; exact hfv)
        have HSN := Lib.hid (show someL (l.take (k + 1)) = someL (l.take k) ++ (if vt = 0 then [] else [(vt, vi, vs)]) by rw [HTK.out, someL_snoc])
        have hkn0 : (0 : Int) ≤ (k : Int) := by omega
        have hkn1 : (k : Int) < (n : Int) := by omega
        have w0 := BV5.out.cell 0 _ rfl
        have HL6 := Lib.hid (HLAT.out.trans L5.out)
        clear h l5 hfv BG5 hLN
        by_cases h0 : vt = 0
        · have HSE := Lib.hid (show someL (l.take (k + 1)) = someL (l.take k) by rw [HSN.out, if_pos h0, List.append_nil])
          subst h0
          have BG6' := Lib.hid (show Blk (w5.setCell ⟨g, k, none⟩ (.bool true)) g (bools ((noneL l).take (k + 1) ++ List.replicate (l.length - (k + 1)) false)).toArray 4 from BG6)
          have OW6 := Lib.hid (ownsRow_setCell_below OW5.out (a := ⟨g, k, none⟩) (Nat.lt_succ_self g) (.bool true))
          have L6 := Lib.hid (HL6.out.set_ (p := ⟨g, k, none⟩) (by rw [HG.out]; exact Nat.le_refl _) (.bool true))
          have hc6 : (w5.setCell ⟨g, k, none⟩ (.bool true)).cell? ⟨g, k, none⟩ = some (.bool true) := BG6'.out.cell k _ (by rw [List.getElem?_toArray, bools_at (noneL_len l) HKL.out, HNK.out]; rfl)
          clear BG6 w0
          have w0 := BV5.out.cell 0 _ rfl
          go_wp2_with fail
          go_roundw
          case rel => exact ApInv.mk S ns cs (k + 1) _ (by omega) HKL.out (by rw [HSE.out]; exact HNS.out) HFN.out BG6'.out (by rw [HSE.out]; exact OW6.out) L6.out
          case measure => simp [intOf]; omega
        · have d0 : (vt == 0) = false := by simp [h0]
          rw [d0] at BG6
          have hng : gv ≠ g := by omega
          have BG6' := Lib.hid BG6
          have OW6 := ownsRow_setCell_below OW5.out (a := ⟨g, k, none⟩) (Nat.lt_succ_self g) (.bool false)
          have L6 := HL6.out.set_ (p := ⟨g, k, none⟩) (by rw [HG.out]; exact Nat.le_refl _) (.bool false)
          have hc6 : (w5.setCell ⟨g, k, none⟩ (.bool false)).cell? ⟨g, k, none⟩ = some (.bool false) := BG6'.out.cell k _ (by rw [List.getElem?_toArray, bools_at (noneL_len l) HKL.out, HNK.out, d0])
          have BV6 := BV5.out.far (p := ⟨g, k, none⟩) hng (.bool false)
          have u0 := BV6.cell 0 _ rfl
          have u1 := BV6.cell 1 _ rfl
          have u2 := BV6.cell 2 _ rfl
          have HAS := Lib.hid ((Blk.new (w5.setCell ⟨g, k, none⟩ (.bool false)) (fl [(vt, vi, vs)]).toArray 26 w5.heap.size (by simp)).has)
          have O2 := Lib.hid (OW6.alloc (.cells (fl [(vt, vi, vs)]).toArray 26))
          have LT2 := Lib.hid (L6.alloc (.cells (fl [(vt, vi, vs)]).toArray 26))
          have BG7 := Lib.hid (BG6'.out.later (Later.new _ (.cells (fl [(vt, vi, vs)]).toArray 26)))
          have hns9 : ns ≤ 1000 := by
            have h1 := HNS.out
            have h2 := someL_len (l.take k)
            rw [List.length_take] at h2
            omega
          have HV := Lib.hid (show someL (l.take (k + 1)) = someL (l.take k) ++ [(vt, vi, vs)] by rw [HSN.out, if_neg h0])
          have HGS := Lib.hid (show g + 1 ≤ ((w5.setCell ⟨g, k, none⟩ (.bool false)).alloc (.cells (fl [(vt, vi, vs)]).toArray 26)).heap.size by have := BG7.out.lt; omega)
          clear BG6 OW6 L6 BV6 h0 hng
          go_wp2_with (at_builtin; refine wpList_append_g _ rfl (.tmp 37) (.tmp 39) 23 rfl (g + 1) 26 (vagg 0 0 ⟨#[]⟩) 3 32 Tryz.underlying23 info_v rfl (by decide) _ ns (fl (someL (l.take k))) rfl O2.out _ 1 1 (fl [(vt, vi, vs)]) rfl HAS.out (by rfl) (by intro h; cases h) (fl_one _) (by unfold maxLen; omega) (by omega) HGS.out ?_; intro A2 c2 w7 o2 g2 b2 n2; have HO2 := Lib.hid o2; have HB7 := Lib.hid b2; clear o2 g2 b2 n2)
          go_roundw
          case rel => exact ApInv.mk A2 _ c2 (k + 1) _ (by omega) HKL.out (by rw [HV.out, List.length_append, HNS.out]; rfl) HFN.out ((Below.block HB7.out g (Nat.lt_succ_self g)).trans BG7.out) (by rw [HV.out, fl_append]; exact HO2.out) (Later.of (LT2.out.below.trans (Below.mono HB7.out (by rw [HG.out]; exact Nat.le_succ _))))
          case measure => simp [intOf]; omega
      · obtain ⟨rfl, l5⟩ := TellsP.no hfv (SaysP.tells h)
        have HNF := Lib.hid (show ¬ FitL t l from fun hf => hfv (hf _ HMEM.out))
        have L5 := Lib.hid (HLAT.out.trans (HLA.out.trans l5))
        have BV5 := Lib.hid (HBV.out.later l5)
        obtain ⟨sv, hsv⟩ := (HS.out.later L5.out).type
        clear h l5 hfv
        go_wp2_with (go_at_call 27; refine (at_l _ _ _ _).mono ?_; rintro e w6 ⟨q, rfl, l6⟩)
        go_ret3
        exact ⟨.inl ⟨HNF.out, q, rfl⟩, L5.out.trans l6⟩
    · have hkn : k = n := by have := HN.out; omega
      have hkl : k = l.length := by rw [hkn]; exact HN.out
      have HB := Lib.hid (show Has wr (some ⟨g, 0, none⟩) (bools (noneL l)) by
        have h := HBLK.out.hasB
        rw [hkl, bools_full (noneL_len l)] at h
        exact h)
      have HT := Lib.hid (show l.take k = l by rw [hkl]; exact List.take_of_length_le (Nat.le_refl _))
      have hcap := ownG_cap HOWN.out
      have hcm := ownG_capmax HOWN.out
      have HSH := Lib.hid (Has.ownG HOWN.out)
      have HF := Lib.hid HFIT.out
      have HN2 := Lib.hid HNS.out
      rw [HT.out] at HSH HF HN2
      clear hkn hkl
      go_wp2_with fail
      go_ret3
      refine ⟨.inr ⟨g, S, ns, cs, HF.out, ?_, HN2.out, HB.out, HSH.out, hcap, hcm⟩, HLAT.out⟩
      rw [← HN.out]
      rfl

set_option maxRecDepth 100000 in
set_option maxHeartbeats 2000000 in
theorem colWrite_any (enc t : Int) (A : Option Addr) (n c : Nat) (l : List Val3) (w : World) (hn : n = l.length) (hs : S6 w) (hl : l.length ≤ 1000) (hr : Has w A (fl l)) (h64 : All64 l) :
    Calls Tryz.prog 18 #[.int .i64 enc, .int .i64 t, .slice A n c] w (WritesB (putC enc t l) w) := by
  have hif : Tryz.prog.isIface 40 = true := by kernel_rfl
  have HS := Lib.hid hs
  have HN := Lib.hid hn
  have H64 := Lib.hid h64
  have HAP := Lib.hid (fun w' (lz : Later w w') => colApart_any t A n c l w' hn (hs.later lz) hl (hr.later lz))
  have hn9 : n ≤ 1000 := by omega
  have HL9 := Lib.hid hl
  cases hu : usedC enc t with
  | none =>
    have HO := Lib.hid (putC_not (l := l) hu)
    have HU := Lib.hid (colUsed_no enc t w hs hu)
    clear hu hs hr h64 hn hl
    go_enter Tryz.func18, Tryz.ntmps18
    go_wp2_with fail
    refine HU.out.mono ?_
    rintro e w1 ⟨rfl, l1⟩
    obtain ⟨sv, hsv⟩ := (HS.out.later l1).type
    go_wp2_with (go_at_call 27; refine (at_l _ _ _ _).mono ?_; rintro e w5 ⟨q, rfl, l5⟩)
    go_ret2
    exact ⟨.inl ⟨HO.out, q, rfl⟩, l1.trans l5⟩
  | some u =>
    have hsv := usedC_serves hu
    have hu5 : 1 ≤ u ∧ u ≤ 5 := ⟨hsv.2.1, hsv.2.2.1⟩
    have HUU := Lib.hid hu
    have HU := Lib.hid (colUsed_yes enc t u w hu)
    clear hu hsv hs hr h64 hn hl
    go_enter Tryz.func18, Tryz.ntmps18
    go_wp2_with (go_at_call 5; refine HU.out.mono ?_; rintro e w' ⟨rfl, rfl⟩)
    refine (HAP.out w (Later.refl w)).mono ?_
    rintro e w1 ⟨⟨hf, p, rfl⟩ | ⟨g, S, ns, cs, hf, rfl, hns, hbh, hsh, hcs, hcm⟩, l1⟩
    · have HO := Lib.hid (putC_no (enc := enc) hf)
      have heq := run_eql_iface_nil (P := Tryz.prog) (w := w1) 40 hif 82 (.pointer (some p))
      clear hf HAP HU
      go_wp2_with fail
      go_ret2
      exact ⟨.inl ⟨HO.out, p, rfl⟩, l1⟩
    · obtain ⟨pc, hpc, hput⟩ := putC_some HUU.out hf
      have HPUT := Lib.hid hput
      have HPC := Lib.hid hpc
      have L1 := Lib.hid l1
      have HSH := Lib.hid hsh
      have HBH := Lib.hid hbh
      have HNS := Lib.hid hns
      have huw : IntKind.u8.wrap u = ((u.toNat : Nat) : Int) := by rw [IntKind.wrap_u8]; omega
      obtain ⟨un, hun⟩ : ∃ un : Nat, un = u.toNat := ⟨_, rfl⟩
      rw [← hun] at huw
      have HUN := Lib.hid hun
      have hns9 : ns ≤ 1000 := by have := someL_len l; have := HL9.out; omega
      have HENC := Lib.hid (fun w' (lz : Later w1 w') => colEncode_any u t S ns cs (someL l) w' HNS.out (HS.out.later (L1.out.trans lz)) hu5 (by have := someL_len l; have := HL9.out; omega) (HSH.out.later lz) (someL_64 H64.out) (by rw [← HNS.out]; exact hcs) hcm)
      have hlw := putE_le (by have := someL_len l; have := HL9.out; omega) (someL_64 H64.out) hpc
      have HLE := Lib.hid (show pc.length ≤ 31010 by have := someL_len l; have := HL9.out; omega)
      have hln : l.length = n := HN.out.symm
      have HLN := Lib.hid hln
      rw [hln]
      clear hf hpc hput l1 hns hsh hbh HAP HU hun hlw hln
      by_cases hlt : ns < n
      · obtain ⟨w2, hw2⟩ : ∃ w2, w2 = w1.alloc (.cells #[.int .u8 (un : Int), .int .u8 1] 5) := ⟨_, rfl⟩
        have R2 : Row w2 w1.heap.size 5 .u8 [un, 1] := by rw [hw2]; exact Row.lit w1 5 .u8 [un, 1]
        have LZ : Later w1 w2 := hw2 ▸ Later.new _ _
        obtain ⟨m, hm⟩ : ∃ m, m = (n + 7) / 8 := ⟨_, rfl⟩
        have HNP := Lib.hid (nullsPut_any (some ⟨g, 0, none⟩) n n (noneL l) w2 (by rw [noneL_len]; exact HLN.out.symm) (HBH.out.later LZ) (by rw [noneL_len]; have := HL9.out; omega))
        rw [noneL_len, HLN.out, ← hm] at HNP
        have HMP := Lib.hid (show (packN (noneL l)).length = m by rw [packN_length, noneL_len, HLN.out, hm])
        have hm9 : m ≤ 126 := by omega
        have HHEAD := Lib.hid (show headC u l = [un, 1] ++ packN (noneL l) by
          unfold headC
          rw [if_pos (by rw [← HNS.out, HLN.out]; exact hlt), HUN.out]; rfl)
        have s1 := (Row.lit w1 5 .u8 [un, 0]).cell 1 (by simp)
        have f1 := (Row.lit w1 5 .u8 [un, 0]).frozen 1
        have HR2 := Lib.hid R2
        have HZ := Lib.hid LZ
        have HW2 := Lib.hid hw2
        have hnsn : (ns : Int) < (n : Int) := by omega
        clear R2 LZ hw2 hm
        go_wp2_with fail
        rw [← HW2.out]
        refine HNP.out.mono ?_
        rintro e w3 ⟨rfl, r3, l3⟩
        have HR3 := Lib.hid (Has.row r3)
        have O3 := Lib.hid (own_later (HR2.out.own (base := w1.heap.size) (Nat.le_refl _) (by unfold maxLen; simp)) l3)
        have L3 := Lib.hid (HZ.out.trans l3)
        clear r3 l3 s1 f1 HNP
        go_wp2_with (at_builtin; refine wpList_append_rd _ rfl (.tmp 46) (.tmp 48) 22 rfl w1.heap.size 5 (.int .u8 0) 1 Tryz.underlying22 info_u8 rfl _ 2 (ints .u8 [un, 1]) rfl O3.out _ _ m m (ints .u8 (packN (noneL l))) rfl HR3.out ?_ ?_ (ints_one _ _) ?_ ?_ ?_ ?_; (rw [ints_length]; exact HMP.out.symm); (intro h; cases h); (unfold maxLen; omega); omega; (exact L3.out.size); intro A4 c4 w4 o4 g4 b4 n4; have OP := Lib.hid o4; have LP := Lib.hid (Later.of (L3.out.below.trans b4)); clear o4 g4 b4 n4)
        have HCELLS := Lib.hid (show ints .u8 [un, 1] ++ ints .u8 (packN (noneL l)) ++ ints .u8 pc = ints .u8 (headC u l ++ pc) by rw [HHEAD.out]; simp [ints])
        refine (HENC.out _ LP.out).mono ?_
        intro e w5 h
        obtain ⟨P, cp, rfl, ph, _, _, hpn, l5⟩ := h.yes HPC.out
        have HPH := Lib.hid ph
        have HPN := Lib.hid hpn
        have O5 := Lib.hid (own_later OP.out l5)
        have L5 := Lib.hid (LP.out.trans l5)
        clear h ph hpn l5 HENC OP LP
        go_wp2_with (at_builtin; refine wpList_append_rd _ rfl (.tmp 62) (.tmp 63) 22 rfl w1.heap.size 5 (.int .u8 0) 1 Tryz.underlying22 info_u8 rfl _ (2 + m) (ints .u8 [un, 1] ++ ints .u8 (packN (noneL l))) rfl O5.out _ P pc.length cp (ints .u8 pc) rfl HPH.out ?_ HPN.out (ints_one _ _) ?_ ?_ ?_ ?_; (rw [ints_length]); (have := HLE.out; unfold maxLen; omega); (have := HLE.out; omega); (exact L5.out.size); intro A6 c6 w6 o6 g6 b6 n6; have O6 := Lib.hid o6; have L6 := Lib.hid (Later.of (L5.out.below.trans b6)); have N6 := Lib.hid n6; clear o6 g6 b6 n6)
        go_ret2
        have o := O6.out
        rw [HCELLS.out] at o
        have hlen : (2 + m) + pc.length = (headC u l ++ pc).length := by rw [List.length_append, HHEAD.out]; simp [HMP.out]; omega
        have o1 := own_cap o
        exact ⟨.inr ⟨headC u l ++ pc, A6, c6, HPUT.out, by rw [← hlen]; rfl, Has.own o, by omega, own_capmax o, N6.out⟩, L1.out.trans L6.out⟩
      · have s0 := (Row.lit w1 5 .u8 [un, 0])
        have HHEAD := Lib.hid (show headC u l = [un, 0] by
          unfold headC
          rw [if_neg (by rw [← HNS.out, HLN.out]; exact hlt), HUN.out])
        have OP := Lib.hid (s0.own (base := w1.heap.size) (Nat.le_refl _) (by unfold maxLen; simp))
        have LP := Lib.hid (Later.new w1 (.cells (ints .u8 [un, 0]).toArray 5))
        have hnsn : ¬ (ns : Int) < (n : Int) := by omega
        clear s0
        have HCELLS := Lib.hid (show ints .u8 [un, 0] ++ ints .u8 pc = ints .u8 (headC u l ++ pc) by rw [HHEAD.out]; simp [ints])
        go_wp2_with fail
        refine (HENC.out _ LP.out).mono ?_
        intro e w5 h
        obtain ⟨P, cp, rfl, ph, _, _, hpn, l5⟩ := h.yes HPC.out
        have HPH := Lib.hid ph
        have HPN := Lib.hid hpn
        have O5 := Lib.hid (own_later OP.out l5)
        have L5 := Lib.hid (LP.out.trans l5)
        clear h ph hpn l5 HENC OP LP
        go_wp2_with (at_builtin; refine wpList_append_rd _ rfl (.tmp 62) (.tmp 63) 22 rfl w1.heap.size 5 (.int .u8 0) 1 Tryz.underlying22 info_u8 rfl _ 2 (ints .u8 [un, 0]) rfl O5.out _ P pc.length cp (ints .u8 pc) rfl HPH.out ?_ HPN.out (ints_one _ _) ?_ ?_ ?_ ?_; (rw [ints_length]); (have := HLE.out; unfold maxLen; omega); (have := HLE.out; omega); (exact L5.out.size); intro A6 c6 w6 o6 g6 b6 n6; have O6 := Lib.hid o6; have L6 := Lib.hid (Later.of (L5.out.below.trans b6)); have N6 := Lib.hid n6; clear o6 g6 b6 n6)
        go_ret2
        have o := O6.out
        rw [HCELLS.out] at o
        have hlen : 2 + pc.length = (headC u l ++ pc).length := by rw [List.length_append, HHEAD.out]; simp 
        have o1 := own_cap o
        exact ⟨.inr ⟨headC u l ++ pc, A6, c6, HPUT.out, by rw [← hlen]; rfl, Has.own o, by omega, own_capmax o, N6.out⟩, L1.out.trans L6.out⟩

set_option maxRecDepth 100000 in
theorem colPut_any (enc t : Int) (A : Option Addr) (n c : Nat) (l : List Val3) (w : World) (hn : n = l.length) (hs : S6 w) (hl : l.length ≤ 1000) (hr : Has w A (fl l)) (h64 : All64 l) :
    Calls Tryz.prog 7 #[.int .i64 enc, .int .i64 t, .slice A n c] w (PutsB (putC enc t l) w) := by
  have HC := Lib.hid (colWrite_any enc t A n c l w hn hs hl hr h64)
  clear hs hr h64 hl hn
  go_enter Tryz.func7, Tryz.ntmps7
  go_wp2_with fail
  refine HC.out.mono ?_
  rintro e w1 ⟨⟨ho, p, rfl⟩ | ⟨b, B, cb, ho, rfl, h1, h2, h3, h4⟩, l1⟩
  · go_wp2_with (go_at_call 17; refine (listB_no _ _ _ p _).mono ?_; rintro e w' ⟨rfl, rfl⟩)
    go_ret2
    exact ⟨.inl ⟨ho, rfl⟩, l1⟩
  · have H := Lib.hid (show PutsB (putC enc t l) w (.returned (.tuple #[.slice B b.length cb, .bool true])) w1 from ⟨.inr ⟨b, B, cb, ho, rfl, h1, h2, h3, h4⟩, l1⟩)
    clear ho h1 h2 h3 h4 l1
    go_wp2_with (go_at_call 17; refine (listB_yes _ _ _ _).mono ?_; rintro e w' ⟨rfl, rfl⟩)
    go_ret2
    exact H.out
end Go.Proofs.YtldalkhmbpkjpaaGreatDoor

/- Walks of package column: readNone, together. -/

namespace Go.Proofs.YtldalkhmbpkjpaaGreatDoor
open Go.RowKit
set_option linter.unusedVariables false

/-- What readNone tells. -/
def RNPost (o : Option (List Bool × List Nat)) (w : World) (e : Ending) (w' : World) : Prop :=
  ((o = none ∧ ∃ p : Addr, e = .returned (.tuple #[.slice none 0 0, .slice none 0 0, .iface 82 (.pointer (some p))])) ∨
    ∃ x q g B cb, o = some (x, q) ∧ e = .returned (.tuple #[.slice (some ⟨g, 0, none⟩) x.length x.length, .slice B q.length cb, .nilIface]) ∧ Has w' (some ⟨g, 0, none⟩) (bools x) ∧ Has w' B (ints .u8 q) ∧ q.length ≤ cb ∧ cb ≤ 9223372036854775807) ∧ Later w w'
theorem Has.behind {w : World} {bb off : Nat} {b : List Nat} (h : Has w (some ⟨bb, off, none⟩) (ints .u8 b)) (k : Nat) : Has w (some ⟨bb, off + k, none⟩) (ints .u8 (b.drop k)) := by
  have h := h.drop k
  rw [show (ints .u8 b).drop k = ints .u8 (b.drop k) by simp [ints, List.map_drop]] at h
  exact h

set_option maxRecDepth 100000 in
set_option maxHeartbeats 2000000 in
theorem colNone_zero (n : Nat) (hn : n ≤ 1000) (bb off m c : Nat) (r : List Nat) (w : World) (hm : m = r.length + 1) (hr : Has w (some ⟨bb, off, none⟩) (ints .u8 (0 :: r))) (hbc : m ≤ c) (hc : c ≤ 9223372036854775807) :
    Calls Tryz.prog 43 #[.int .i64 n, .slice (some ⟨bb, off, none⟩) m c] w (RNPost (readN n (0 :: r)) w) := by
  have hmk := fun W => run_make_row' (P := Tryz.prog) 46 4 (.bool false) 1 Tryz.underlying46 info_bool rfl .i64 .i64 n (by omega) (by omega) W
  have c0 : w.cell? ⟨bb, off, none⟩ = some (.int .u8 0) := by
    rcases hr with h | ⟨b', o', h, _, hc⟩
    · cases h
    · injection h with h
      injection h with h1 h2
      subst h1 h2
      exact hc 0 _ rfl
  have HRD := Lib.hid (show Has w (some ⟨bb, off + 1, none⟩) (ints .u8 r) from hr.behind 1)
  have HO := Lib.hid (show readN n (0 :: r) = some (List.replicate n false, r) by unfold readN; rfl)
  have HM := Lib.hid hm
  have HB := Lib.hid (show Has (w.alloc (.cells (madeCells #[.bool false] n) 4)).drew (some ⟨w.heap.size, 0, none⟩) (bools (List.replicate n false)) from (Blk.madeB w n).hasB)
  have HL := Lib.hid (show Later w (w.alloc (.cells (madeCells #[.bool false] n) 4)).drew from (Later.new w _).drew)
  have i1 : (1 : Int) ≤ (m : Int) := by omega
  have i2 : (m : Int) ≤ (c : Int) := by omega
  have i3 : 1 ≤ m := by omega
  clear hr hm hn
  by_cases hc1 : c = 1
  · have HR0 := Lib.hid (show r = [] from List.eq_nil_of_length_eq_zero (by have := HM.out; omega))
    have hm1 : m = 1 := by omega
    subst hc1
    subst hm1
    go_enter Tryz.func43, Tryz.ntmps43
    go_wp2_with fail
    go_region
    all_goals go_wp2_with fail
    go_ret3
    refine ⟨.inr ⟨List.replicate n false, r, w.heap.size, some ⟨bb, off, none⟩, 0, HO.out, ?_, HB.out, (by rw [HR0.out]; exact Has.nil_), (by rw [HR0.out]; exact Nat.zero_le _), (by decide)⟩, HL.out⟩
    rw [List.length_replicate, HR0.out]
    rfl
  · go_enter Tryz.func43, Tryz.ntmps43
    go_wp2_with fail
    go_region
    all_goals go_wp2_with fail
    go_ret3
    refine ⟨.inr ⟨List.replicate n false, r, w.heap.size, some ⟨bb, off + 1, none⟩, c - 1, HO.out, ?_, HB.out, (HRD.out.later HL.out), (by have := HM.out; omega), (by omega)⟩, HL.out⟩
    rw [List.length_replicate, show r.length = m - 1 by have := HM.out; omega]
    rfl

set_option maxRecDepth 100000 in
set_option maxHeartbeats 2000000 in
theorem colNone_one (n : Nat) (hn : n ≤ 1000) (bb off m c : Nat) (r : List Nat) (w : World) (hs : S10 w) (hm : m = r.length + 1) (hr : Has w (some ⟨bb, off, none⟩) (ints .u8 (1 :: r))) (h256 : ∀ x ∈ r, x < 256) (hb : r.length ≤ 1000000) (hbc : m ≤ c) (hc : c ≤ 9223372036854775807) :
    Calls Tryz.prog 43 #[.int .i64 n, .slice (some ⟨bb, off, none⟩) m c] w (RNPost (readN n (1 :: r)) w) := by
  have c0 : w.cell? ⟨bb, off, none⟩ = some (.int .u8 1) := by
    rcases hr with h | ⟨b', o', h, _, hc⟩
    · cases h
    · injection h with h
      injection h with h1 h2
      subst h1 h2
      exact hc 0 _ rfl
  have HRD := Lib.hid (show Has w (some ⟨bb, off + 1, none⟩) (ints .u8 r) from hr.behind 1)
  obtain ⟨k, hk⟩ : ∃ k, k = (n + 7) / 8 := ⟨_, rfl⟩
  obtain ⟨e, he⟩ : ∃ e, e = min (1 + k) m := ⟨_, rfl⟩
  have hki : ((n : Int) + 7) / 8 = (k : Int) := by omega
  have hmin : min (1 + (k : Int)) (m : Int) = (e : Int) := by omega
  have HE1 := Lib.hid (show e - 1 = (r.take k).length by rw [List.length_take]; omega)
  have HK := Lib.hid hk
  have HM := Lib.hid hm
  have HS := Lib.hid hs
  have H256K := Lib.hid (show ∀ x ∈ r.take k, x < 256 from fun x hx => h256 x (List.mem_of_mem_take hx))
  obtain ⟨aB, aS, hsn⟩ := hs.two
  have HTK := Lib.hid (fun (A' : Option Addr) (m' c' : Nat) (w' : World) (lz : Later w w') (hA : A' = some ⟨bb, off + 1, none⟩ ∨ r.take k = []) (hm' : m' = (r.take k).length) => nullsTake_any A' m' c' (r.take k) (n : Int) aB aS w' hm' (hsn.later lz) (by
    rcases hA with hA | hA
    · rw [hA]
      have h := (HRD.out.later lz).take k
      rw [ints_take] at h
      exact h
    · rw [hA]; exact Has.nil_) H256K.out)
  have i1 : (1 : Int) ≤ (e : Int) := by omega
  have i2 : (e : Int) ≤ (m : Int) := by omega
  have i3 : (m : Int) ≤ (c : Int) := by omega
  have i4 : e ≤ m := by omega
  have i5 : (e : Int) ≤ (c : Int) := by omega
  have i6 : (0 : Int) ≤ (e : Int) := by omega
  have hk9 : k ≤ 126 := by omega
  clear hk he hr hm hs hsn h256 hb
  by_cases hc1 : c = 1
  · have hm1 : m = 1 := by omega
    have he1 : e = 1 := by omega
    subst hc1
    subst hm1
    subst he1
    have hmin1 : min (1 + (k : Int)) 1 = 1 := by omega
    clear hmin
    have HR0 := Lib.hid (show r.take k = [] by
      have : r = [] := List.eq_nil_of_length_eq_zero (by have := HM.out; omega)
      rw [this]; exact List.take_nil)
    go_enter Tryz.func43, Tryz.ntmps43
    cases hT : takeN (r.take k) n with
    | none =>
      have HO := Lib.hid (show readN n (1 :: r) = none by
        unfold readN; simp only; rw [if_neg (by decide), if_pos trivial, ← HK.out, hT])
      have HT := Lib.hid hT
      clear hT
      go_wp2_with fail
      refine (HTK.out _ _ _ _ (Later.refl _) (by first | exact .inl rfl | exact .inr HR0.out) (by first | exact HE1.out | (have := HE1.out; omega))).mono ?_
      intro e5 w5 h
      obtain ⟨rfl, l5⟩ := h.no HT.out
      obtain ⟨sv, hsv⟩ := (HS.out.s6.later l5).value
      clear h
      go_wp2_with (go_at_call 27; refine (at_l _ _ _ _).mono ?_; rintro e w6 ⟨q, rfl, l6⟩)
      go_ret3
      exact ⟨.inl ⟨HO.out, q, rfl⟩, l5.trans l6⟩
    | some x =>
      obtain ⟨hxl, _, hkl⟩ := takeN_pack H256K.out hT
      rw [← HK.out, List.length_take] at hkl
      have HT := Lib.hid hT
      have HXL := Lib.hid hxl
      have hek : 1 = 1 + k := by have := HE1.out; rw [List.length_take] at this; omega
      have HEK := Lib.hid hek
      clear hT hxl hkl hek
      go_wp2_with fail
      refine (HTK.out _ _ _ _ (Later.refl _) (by first | exact .inl rfl | exact .inr HR0.out) (by first | exact HE1.out | (have := HE1.out; omega))).mono ?_
      intro e5 w5 h
      obtain ⟨g, rfl, _, bx, l5⟩ := h.yes HT.out
      have HBX := Lib.hid bx.hasB
      have HCN := Lib.hid (count_any (some ⟨g, 0, none⟩) x.length x.length x w5 rfl bx.hasB (by have := HXL.out; omega))
      have HL5 := Lib.hid l5
      have HRD5 := Lib.hid (HRD.out.later l5)
      clear h bx
      obtain ⟨xl, hxl⟩ : ∃ xl, xl = x.length := ⟨_, rfl⟩
      rw [← hxl] at HCN ⊢
      have HXX := Lib.hid hxl
      clear hxl
      by_cases hx0 : x.count true = 0
      · have HO := Lib.hid (show readN n (1 :: r) = none by
          unfold readN; simp only; rw [if_neg (by decide), if_pos trivial, ← HK.out, HT.out]; simp only; rw [if_pos hx0])
        rw [hx0] at HCN
        obtain ⟨sv, hsv⟩ := (HS.out.s6.later l5).value
        clear hx0 l5
        go_wp2_with (first
          | (go_at_call 45; refine HCN.out.mono ?_; rintro e w9 ⟨rfl, rfl⟩)
          | (go_at_call 27; refine (at_l _ _ _ _).mono ?_; rintro e w6 ⟨q, rfl, l6⟩; have HL6 := Lib.hid l6; clear l6))
        go_ret3
        exact ⟨.inl ⟨HO.out, _, rfl⟩, HL5.out.trans HL6.out⟩
      · have HO := Lib.hid (show readN n (1 :: r) = some (x, r.drop k) by
          unfold readN; simp only; rw [if_neg (by decide), if_pos trivial, ← HK.out, HT.out]; simp only; rw [if_neg hx0])
        obtain ⟨cn, hcn⟩ : ∃ cn, cn = x.count true := ⟨_, rfl⟩
        rw [← hcn] at hx0 HCN
        have hc0 : ((cn : Int) == 0) = false := by rw [beq_eq_false_iff_ne]; omega
        have HD := Lib.hid (show (r.drop k).length = 1 - 1 by rw [List.length_drop]; have := HEK.out; have := HM.out; omega)
        clear hx0 hcn l5
        have HQ0 := Lib.hid (show r.drop k = [] from List.eq_nil_of_length_eq_zero (by have := HD.out; omega))
        go_wp2_with (go_at_call 45; refine HCN.out.mono ?_; rintro e w9 ⟨rfl, rfl⟩)
        go_quiet (fail)
        go_wp2_with fail
        go_ret3
        refine ⟨.inr ⟨x, r.drop k, g, some ⟨bb, off, none⟩, 0, HO.out, ?_, HBX.out.later ((Later.refl _).drewN _), (by rw [HQ0.out]; exact Has.nil_), (by rw [HQ0.out]; exact Nat.zero_le _), (by decide)⟩, HL5.out.drewN _⟩
        rw [HQ0.out, ← HXX.out]
        simp
  · have HR0 := Lib.hid trivial
    go_enter Tryz.func43, Tryz.ntmps43
    cases hT : takeN (r.take k) n with
    | none =>
      have HO := Lib.hid (show readN n (1 :: r) = none by
        unfold readN; simp only; rw [if_neg (by decide), if_pos trivial, ← HK.out, hT])
      have HT := Lib.hid hT
      clear hT
      go_wp2_with fail
      refine (HTK.out _ _ _ _ (Later.refl _) (by first | exact .inl rfl | exact .inr HR0.out) (by first | exact HE1.out | (have := HE1.out; omega))).mono ?_
      intro e5 w5 h
      obtain ⟨rfl, l5⟩ := h.no HT.out
      obtain ⟨sv, hsv⟩ := (HS.out.s6.later l5).value
      clear h
      go_wp2_with (go_at_call 27; refine (at_l _ _ _ _).mono ?_; rintro e w6 ⟨q, rfl, l6⟩)
      go_ret3
      exact ⟨.inl ⟨HO.out, q, rfl⟩, l5.trans l6⟩
    | some x =>
      obtain ⟨hxl, _, hkl⟩ := takeN_pack H256K.out hT
      rw [← HK.out, List.length_take] at hkl
      have HT := Lib.hid hT
      have HXL := Lib.hid hxl
      have hek : e = 1 + k := by have := HE1.out; rw [List.length_take] at this; omega
      have HEK := Lib.hid hek
      clear hT hxl hkl hek
      go_wp2_with fail
      refine (HTK.out _ _ _ _ (Later.refl _) (by first | exact .inl rfl | exact .inr HR0.out) (by first | exact HE1.out | (have := HE1.out; omega))).mono ?_
      intro e5 w5 h
      obtain ⟨g, rfl, _, bx, l5⟩ := h.yes HT.out
      have HBX := Lib.hid bx.hasB
      have HCN := Lib.hid (count_any (some ⟨g, 0, none⟩) x.length x.length x w5 rfl bx.hasB (by have := HXL.out; omega))
      have HL5 := Lib.hid l5
      have HRD5 := Lib.hid (HRD.out.later l5)
      clear h bx
      obtain ⟨xl, hxl⟩ : ∃ xl, xl = x.length := ⟨_, rfl⟩
      rw [← hxl] at HCN ⊢
      have HXX := Lib.hid hxl
      clear hxl
      by_cases hx0 : x.count true = 0
      · have HO := Lib.hid (show readN n (1 :: r) = none by
          unfold readN; simp only; rw [if_neg (by decide), if_pos trivial, ← HK.out, HT.out]; simp only; rw [if_pos hx0])
        rw [hx0] at HCN
        obtain ⟨sv, hsv⟩ := (HS.out.s6.later l5).value
        clear hx0 l5
        go_wp2_with (first
          | (go_at_call 45; refine HCN.out.mono ?_; rintro e w9 ⟨rfl, rfl⟩)
          | (go_at_call 27; refine (at_l _ _ _ _).mono ?_; rintro e w6 ⟨q, rfl, l6⟩; have HL6 := Lib.hid l6; clear l6))
        go_ret3
        exact ⟨.inl ⟨HO.out, _, rfl⟩, HL5.out.trans HL6.out⟩
      · have HO := Lib.hid (show readN n (1 :: r) = some (x, r.drop k) by
          unfold readN; simp only; rw [if_neg (by decide), if_pos trivial, ← HK.out, HT.out]; simp only; rw [if_neg hx0])
        obtain ⟨cn, hcn⟩ : ∃ cn, cn = x.count true := ⟨_, rfl⟩
        rw [← hcn] at hx0 HCN
        have hc0 : ((cn : Int) == 0) = false := by rw [beq_eq_false_iff_ne]; omega
        have HD := Lib.hid (show (r.drop k).length = m - e by rw [List.length_drop]; have := HEK.out; have := HM.out; omega)
        clear hx0 hcn l5
        by_cases hce : c = e
        · have HQ0 := Lib.hid (show r.drop k = [] from List.eq_nil_of_length_eq_zero (by have := HD.out; omega))
          have hme : m = e := by omega
          go_wp2_with (go_at_call 45; refine HCN.out.mono ?_; rintro e w9 ⟨rfl, rfl⟩)
          go_quiet (fail)
          go_wp2_with fail
          go_ret3
          refine ⟨.inr ⟨x, r.drop k, g, some ⟨bb, off, none⟩, 0, HO.out, ?_, HBX.out.later ((Later.refl _).drewN _), (by rw [HQ0.out]; exact Has.nil_), (by rw [HQ0.out]; exact Nat.zero_le _), (by decide)⟩, HL5.out.drewN _⟩
          rw [HQ0.out, ← HXX.out]
          simp
        · go_wp2_with (go_at_call 45; refine HCN.out.mono ?_; rintro e w9 ⟨rfl, rfl⟩)
          go_quiet (fail)
          go_wp2_with fail
          go_ret3
          refine ⟨.inr ⟨x, r.drop k, g, some ⟨bb, off + e, none⟩, c - e, HO.out, ?_, HBX.out.later ((Later.refl _).drewN _), ?_, (by have := HD.out; omega), (by omega)⟩, HL5.out.drewN _⟩
          · rw [HD.out, ← HXX.out]
            rfl
          · have h := HRD5.out.behind k
            rw [show off + 1 + k = off + e by have := HEK.out; omega] at h
            exact h.later ((Later.refl _).drewN _)

set_option maxRecDepth 100000 in
set_option maxHeartbeats 1000000 in
theorem colNone_bad (n : Nat) (bb off m c f : Nat) (r : List Nat) (w : World) (hs : S10 w) (hf0 : f ≠ 0) (hf1 : f ≠ 1) (hf : f < 256) (hr : Has w (some ⟨bb, off, none⟩) (ints .u8 (f :: r))) (hm : 1 ≤ m) :
    Calls Tryz.prog 43 #[.int .i64 n, .slice (some ⟨bb, off, none⟩) m c] w (RNPost (readN n (f :: r)) w) := by
  have c0 : w.cell? ⟨bb, off, none⟩ = some (.int .u8 (f : Int)) := by
    rcases hr with h | ⟨b', o', h, _, hc⟩
    · cases h
    · injection h with h
      injection h with h1 h2
      subst h1 h2
      exact hc 0 _ rfl
  have c1 : w.drew.cell? ⟨bb, off, none⟩ = some (.int .u8 (f : Int)) := c0
  have HO := Lib.hid (show readN n (f :: r) = none by unfold readN; simp only; rw [if_neg hf0, if_neg hf1])
  obtain ⟨sv, hsv⟩ := hs.s6.value
  have hsv2 : w.drew.cell? ⟨1, 0, none⟩ = some (.iface 164 (.pointer (some sv))) := hsv
  have d0 : ((f : Int) == 0) = false := by rw [beq_eq_false_iff_ne]; omega
  have d1 : ((f : Int) == 1) = false := by rw [beq_eq_false_iff_ne]; omega
  have hfw : IntKind.i64.wrap (f : Int) = (f : Int) := IntWalk.i64_in _ ⟨by omega, by omega⟩
  have i0 : (0 : Int) < (m : Int) := by omega
  have i0n : 0 < m := by omega
  clear hs hr hf0 hf1
  go_enter Tryz.func43, Tryz.ntmps43
  go_wp2_with fail
  first
    | go_region_law (first
        | (go_simp; go_at_call 27; refine (at_l _ _ _ _).mono ?_; rintro e w6 ⟨q, rfl, l6⟩; have HL6 := Lib.hid ((Later.refl w).drew.trans l6); clear l6))
    | fail "no walk"
  all_goals try simp [Act.put]
  all_goals go_wp2_with fail
  all_goals go_ret3
  all_goals exact ⟨.inl ⟨HO.out, _, rfl⟩, HL6.out⟩

theorem colReadNone_any (n : Nat) (hn : n ≤ 1000) (A : Option Addr) (m c : Nat) (b : List Nat) (w : World) (hs : S10 w) (hm : m = b.length) (hb0 : 0 < b.length) (hr : Has w A (ints .u8 b)) (h256 : ∀ x ∈ b, x < 256) (hb : b.length ≤ 1000000) (hbc : m ≤ c) (hc : c ≤ 9223372036854775807) :
    Calls Tryz.prog 43 #[.int .i64 n, .slice A m c] w (RNPost (readN n b) w) := by
  obtain ⟨bb, off, rfl⟩ : ∃ bb off, A = some ⟨bb, off, none⟩ := by
    rcases hr with h | ⟨bb, off, h, _⟩
    · have := congrArg List.length h; rw [ints_length] at this
      have : b.length = 0 := this
      omega
    · exact ⟨bb, off, h⟩
  match b, hm, hb0, hr, h256, hb with
  | f :: r, hm, _, hr, h256, hb =>
    rw [List.length_cons] at hm hb
    have hr256 : ∀ x ∈ r, x < 256 := fun x hx => h256 x (List.mem_cons_of_mem _ hx)
    by_cases h0 : f = 0
    · subst h0; exact colNone_zero n hn bb off m c r w hm hr hbc hc
    · by_cases h1 : f = 1
      · subst h1; exact colNone_one n hn bb off m c r w hs hm hr hr256 (by omega) hbc hc
      · exact colNone_bad n bb off m c f r w hs h0 h1 (h256 f (List.mem_cons_self ..)) hr (by omega)
end Go.Proofs.YtldalkhmbpkjpaaGreatDoor

/- Walks of package column: together, read, Take. -/

namespace Go.Proofs.YtldalkhmbpkjpaaGreatDoor
open Go.RowKit
set_option linter.unusedVariables false

abbrev zV : Val3 := (0, 0, ⟨#[]⟩)
theorem made_fl (n : Nat) : madeCells #[.int .i64 0, .int .i64 0, .string ⟨#[]⟩] (n * 3) = (fl (List.replicate n zV)).toArray := by
  apply Array.ext
  · rw [size_madeCells]; simp [fl_length]
  · intro i h1 h2
    rw [size_madeCells] at h1
    have hk : i / 3 < (List.replicate n zV).length := by rw [List.length_replicate]; omega
    have h := fl_enc (List.replicate n zV) (i / 3) hk (i % 3) (Nat.mod_lt _ (by decide))
    rw [show i / 3 * 3 + i % 3 = i by omega, List.getElem_replicate] at h
    have hr : (fl (List.replicate n zV)).toArray[i]? = (encV zV)[i % 3]? := by rw [List.getElem?_toArray]; exact h
    have hl : (madeCells #[.int .i64 0, .int .i64 0, .string ⟨#[]⟩] (n * 3))[i]? = (encV zV)[i % 3]? := by
      unfold madeCells
      rw [Array.getElem?_map, Array.getElem?_range, if_pos h1]
      have hm : i % 3 = 0 ∨ i % 3 = 1 ∨ i % 3 = 2 := by omega
      show some _ = _
      rw [show (#[Value.int .i64 0, Value.int .i64 0, Value.string ⟨#[]⟩] : Array Value).size = 3 from rfl]
      rcases hm with e | e | e <;> (dsimp only; rw [e]; rfl)
    have := hl.trans hr.symm
    rw [Array.getElem?_eq_getElem (by rw [size_madeCells]; exact h1), Array.getElem?_eq_getElem h2] at this
    injection this
theorem run_make_v (n : Nat) (hn : n ≤ 1000) (w : World) : (Instr.makeSlice 23 (.int .i64 (n : Int)) (.int .i64 (n : Int))).run Tryz.prog w = .ok (.slice (some ⟨w.heap.size, 0, none⟩) n n) (w.alloc (.cells (fl (List.replicate n zV)).toArray 26)) := by
  obtain ⟨i, hi, hzz⟩ := Option.map_eq_some_iff.1 info_v
  simp only [Prod.mk.injEq] at hzz
  obtain ⟨hz, hs, hb⟩ := hzz
  have hr := run_make (P := Tryz.prog) w 23 26 i _ Tryz.underlying23 hi hz .i64 .i64 n n (by omega) (Int.le_refl _) (by rw [hb]; omega) (by omega)
  rw [← made_fl]
  simp only [Int.toNat_natCast, hs] at hr
  exact hr
theorem Blk.cells3 {w : World} {g : Nat} {d : List Val3} {t : TypeId} (h : Blk w g (fl d).toArray t) : Cells3 w g d :=
  ⟨h.lt, fun j v hv => ⟨h.cell j v (by rw [List.getElem?_toArray]; exact hv), h.frozen j⟩⟩
theorem Has.boolAt {w : World} {A : Option Addr} {l : List Bool} (h : Has w A (bools l)) (k : Nat) (hk : k < l.length) : ∃ bb off, A = some ⟨bb, off, none⟩ ∧ w.cell? ⟨bb, off + k, none⟩ = some (.bool l[k]) := by
  obtain ⟨bb, off, hA, hbb, hc⟩ := h.rd.at_ (k := k) (by rw [bools_length]; exact hk)
  exact ⟨bb, off, hA, by rw [hc]; simp [bools]⟩
/-- Where together's loop stands. -/
def TgInv (x : List Bool) (s : List Val3) (g n : Nat) (w : World) (sv iv : Value) (wr : World) : Prop :=
  ∃ (S : Option Addr) (ns cs k : Nat) (done sr : List Val3), sv = .slice S ns cs ∧ iv = .int .i64 (k : Int) ∧ k ≤ n ∧ ns = sr.length ∧ ns ≤ cs ∧ cs ≤ 9223372036854775807 ∧ (x.drop k).count false = ns ∧ done.length = k ∧ done ++ mixL (x.drop k) sr = mixL x s ∧ Cells3 wr g (done ++ List.replicate (n - k) zV) ∧ Has w S (fl sr) ∧ Later w wr
theorem TgInv.mk {x : List Bool} {s : List Val3} {g n : Nat} {w wr : World} (S : Option Addr) (ns cs k : Nat) (done sr : List Val3) (z : Int) (hz : z = (k : Int)) (h1 : k ≤ n) (h2 : ns = sr.length) (h3 : ns ≤ cs) (h4 : cs ≤ 9223372036854775807) (h5 : (x.drop k).count false = ns) (h6 : done.length = k) (h7 : done ++ mixL (x.drop k) sr = mixL x s) (h8 : Cells3 wr g (done ++ List.replicate (n - k) zV)) (h9 : Has w S (fl sr)) (h10 : Later w wr) : TgInv x s g n w (.slice S ns cs) (.int .i64 z) wr := by
  subst hz; exact ⟨S, ns, cs, k, done, sr, rfl, rfl, h1, h2, h3, h4, h5, h6, h7, h8, h9, h10⟩
theorem later_setCells {w w' : World} {g : Nat} (h : Later w w') (hg : w.heap.size ≤ g) (o : Nat) (vs : List Value) : Later w (w'.setCells g o vs) := Later.of (below_setCells _ g hg vs o _ _ h.below)
theorem drop_at {x : List Bool} {k : Nat} (hk : k < x.length) : x.drop k = x[k] :: x.drop (k + 1) := List.drop_eq_getElem_cons hk
theorem tg_fill (done : List Val3) (n : Nat) (hn : done.length < n) (v : Val3) : (done ++ List.replicate (n - done.length) zV).set done.length v = (done ++ [v]) ++ List.replicate (n - (done.length + 1)) zV := by
  rw [List.set_append_right _ _ (Nat.le_refl _), Nat.sub_self, show n - done.length = (n - (done.length + 1)) + 1 by omega, List.replicate_succ, List.set_cons_zero, List.append_assoc]
  rfl
theorem tg_keep (done : List Val3) (n : Nat) (hn : done.length < n) : done ++ List.replicate (n - done.length) zV = (done ++ [zV]) ++ List.replicate (n - (done.length + 1)) zV := by
  rw [show n - done.length = (n - (done.length + 1)) + 1 by omega, List.replicate_succ, List.append_assoc]
  rfl

set_option maxRecDepth 100000 in
set_option maxHeartbeats 2000000 in
theorem colTogether_any (X S : Option Addr) (n cx ns cs : Nat) (x : List Bool) (s : List Val3) (w : World) (hn : n = x.length) (hl : n ≤ 1000) (hx : Has w X (bools x)) (hns : ns = s.length) (hc : ns ≤ cs) (hcm : cs ≤ 9223372036854775807) (hcount : x.count false = ns) (hr : Has w S (fl s)) :
    Calls Tryz.prog 46 #[.slice X n cx, .slice S ns cs] w fun e w' => ∃ g, e = .returned (.slice (some ⟨g, 0, none⟩) n n) ∧ Has w' (some ⟨g, 0, none⟩) (fl (mixL x s)) ∧ Later w w' := by
  have hmk := fun W => run_make_v n hl W
  have HX := Lib.hid hx
  have HN := Lib.hid hn
  have HL := Lib.hid hl
  obtain ⟨g, hg⟩ : ∃ g, g = w.heap.size := ⟨_, rfl⟩
  have HG := Lib.hid hg
  have HL0 := Lib.hid (Later.new w (.cells (fl (List.replicate n zV)).toArray 26))
  have HB0 := Lib.hid (show Cells3 (w.alloc (.cells (fl (List.replicate n zV)).toArray 26)) g ([] ++ List.replicate (n - 0) zV) from (Blk.new w _ _ g hg).cells3)
  have HST := Lib.hid (show TgInv x s g n w (.slice S ns cs) (.int .i64 0) (w.alloc (.cells (fl (List.replicate n zV)).toArray 26)) from TgInv.mk S ns cs 0 [] s 0 rfl (Nat.zero_le _) hns hc hcm hcount rfl rfl HB0.out hr HL0.out)
  clear hx hn hns hc hcm hcount hr HB0
  go_enter Tryz.func46, Tryz.ntmps46
  go_wp2_with fail
  clear hmk
  rw [← hg]
  clear hg
  go_loopw [1, 12] (fun sv iv wr => TgInv x s g n w sv iv wr) (fun _ iv _ => n - (intOf iv).toNat)
  case atStart => exact HST.out
  case round =>
    clear HST
    obtain ⟨S', ns', cs', k, done, sr, rfl, rfl, hk, hns', hcc, hcm', hcnt, hdl, hmix, hcel, hhas, lat⟩ := hrel
    have HLAT := Lib.hid lat
    have HNS := Lib.hid hns'
    have HMIX := Lib.hid hmix
    have HCEL := Lib.hid hcel
    have HHAS := Lib.hid hhas
    have HDL := Lib.hid hdl
    have HCNT := Lib.hid hcnt
    clear hns' hcnt hdl hmix hcel hhas
    by_cases hlt : k < n
    · have hkx : k < x.length := by have := HN.out; omega
      obtain ⟨xb, xo, rfl, hcell⟩ := (HX.out.later lat).boolAt k hkx
      have HDR := Lib.hid (drop_at hkx)
      obtain ⟨xk, hxk⟩ : ∃ xk, xk = x[k] := ⟨_, rfl⟩
      rw [← hxk] at hcell HDR
      have hkn0 : (0 : Int) ≤ (k : Int) := by omega
      have hkn1 : (k : Int) < (n : Int) := by omega
      have hk9 : k < 1000 := by have := HL.out; omega
      clear hxk lat hkx
      cases xk with
      | true =>
        go_wp2_with fail
        go_roundw
        case rel =>
          refine TgInv.mk S' ns' cs' (k + 1) (done ++ [zV]) sr _ (by omega) (by omega) HNS.out hcc hcm' ?_ (by rw [List.length_append, HDL.out]; rfl) ?_ ?_ HHAS.out HLAT.out
          · have h := HCNT.out
            rw [HDR.out] at h
            simpa using h
          · have h := HMIX.out
            rw [HDR.out] at h
            rw [← h, List.append_assoc]
            rfl
          · have h := HCEL.out
            have hd := HDL.out
            subst hd
            rw [tg_keep done n hlt] at h
            exact h
        case measure => simp [intOf]; omega
      | false =>
        match sr, HNS, HMIX, HHAS with
        | [], HNS, HMIX, HHAS =>
          exfalso
          have h := HCNT.out
          rw [HDR.out] at h
          have := HNS.out
          simp at h this
          omega
        | v :: sr', HNS, HMIX, HHAS =>
          obtain ⟨sb, so, rfl, c0, c1, c2⟩ := (HHAS.out.later HLAT.out).val3 0 (by simp)
          simp only [List.getElem_cons_zero, Nat.zero_mul, Nat.add_zero] at c0 c1 c2
          have HH2 := Lib.hid (show Has w (if cs' = 1 then some ⟨sb, so, none⟩ else some ⟨sb, so + 3, none⟩) (fl sr') by
            split
            · have h0 : sr' = [] := List.eq_nil_of_length_eq_zero (by have := HNS.out; simp at this; omega)
              rw [h0]; exact Has.nil_
            · exact HHAS.out.drop 3)
          obtain ⟨o0, o1, o2, f0, f1, f2⟩ := HCEL.out.get k (by rw [List.length_append, HDL.out, List.length_replicate]; omega)
          obtain ⟨vt, vi, vs⟩ := v
          dsimp only at c0 c1 c2
          have HC2 := Lib.hid (show Cells3 (wr.setCells g (k * 3) (encV (vt, vi, vs))) g ((done ++ [(vt, vi, vs)]) ++ List.replicate (n - (k + 1)) zV) by
            have h := cells3_set HCEL.out k (by rw [List.length_append, HDL.out, List.length_replicate]; omega) (vt, vi, vs)
            have hd := HDL.out
            subst hd
            rw [tg_fill done n hlt] at h
            exact h)
          have HL2 := Lib.hid (show Later w (wr.setCells g (k * 3) (encV (vt, vi, vs))) from later_setCells HLAT.out (by rw [HG.out]; exact Nat.le_refl _) _ _)
          have HCN2 := Lib.hid (show (x.drop (k + 1)).count false = ns' - 1 by
            have h := HCNT.out
            rw [HDR.out, List.count_cons_self] at h
            omega)
          have HMX2 := Lib.hid (show (done ++ [(vt, vi, vs)]) ++ mixL (x.drop (k + 1)) sr' = mixL x s by
            have h := HMIX.out
            rw [HDR.out] at h
            rw [← h, List.append_assoc]
            rfl)
          have hns1 : 1 ≤ ns' := by have := HNS.out; simp at this; omega
          have i1 : (1 : Int) ≤ (ns' : Int) := by omega
          have i0 : (0 : Int) < (ns' : Int) := by omega
          have i2 : (ns' : Int) ≤ (cs' : Int) := by omega
          have HNS2 := Lib.hid (show ns' - 1 = sr'.length by have := HNS.out; simp at this; omega)
          have HDL2 := Lib.hid (show (done ++ [(vt, vi, vs)]).length = k + 1 by rw [List.length_append, HDL.out]; rfl)
          go_wp2_with fail
          go_region
          all_goals go_wp2_with fail
          go_roundw
          case rel => exact TgInv.mk _ (ns' - 1) (cs' - 1) (k + 1) (done ++ [(vt, vi, vs)]) sr' _ (by omega) hlt HNS2.out (by omega) (by omega) HCN2.out HDL2.out HMX2.out (HC2.out.later (Later.refl _).drew) HH2.out HL2.out.drew
          case measure => simp [intOf]; omega
    · have hkn : k = n := by omega
      have HRES := Lib.hid (show Has wr (some ⟨g, 0, none⟩) (fl (mixL x s)) by
        have h := HCEL.out.has
        have hm := HMIX.out
        rw [show x.drop k = [] from List.drop_eq_nil_of_le (by have := HN.out; omega)] at hm
        rw [hkn, Nat.sub_self, List.replicate_zero, List.append_nil] at h
        rw [← hm, show mixL [] sr = [] from rfl, List.append_nil]
        exact h)
      clear hkn
      go_wp2_with fail
      go_ret
      exact ⟨g, rfl, HRES.out, HLAT.out⟩

theorem count_ft (x : List Bool) : x.count false + x.count true = x.length := by
  induction x with
  | nil => rfl
  | cons h t ih => cases h <;> simp <;> omega
/-- What read tells. -/
def ReadC (o : Option (List Val3 × Int)) (w : World) (e : Ending) (w' : World) : Prop :=
  ((o = none ∧ ∃ p : Addr, e = .returned (.tuple #[.slice none 0 0, .int .i64 0, .iface 82 (.pointer (some p))])) ∨
    ∃ l u g, o = some (l, u) ∧ e = .returned (.tuple #[.slice (some ⟨g, 0, none⟩) l.length l.length, .int .i64 u, .nilIface]) ∧ Has w' (some ⟨g, 0, none⟩) (fl l)) ∧ Later w w'
/-- What Take tells. -/
def TakesCol (o : Option (List Val3 × Int)) (w : World) (e : Ending) (w' : World) : Prop :=
  ((o = none ∧ e = .returned (.tuple #[.slice none 0 0, .int .i64 0, .bool false])) ∨
    ∃ l u A c, o = some (l, u) ∧ e = .returned (.tuple #[.slice A l.length c, .int .i64 u, .bool true]) ∧ Has w' A (fl l)) ∧ Later w w'
theorem TakesCol.no {o : Option (List Val3 × Int)} {w w' : World} {e : Ending} (h : TakesCol o w e w') (hn : o = none) : e = .returned (.tuple #[.slice none 0 0, .int .i64 0, .bool false]) ∧ Later w w' := by
  obtain ⟨⟨_, h⟩ | ⟨l, u, A, c, h, _⟩, L⟩ := h
  · exact ⟨h, L⟩
  · rw [hn] at h; cases h
theorem TakesCol.yes {o : Option (List Val3 × Int)} {w w' : World} {e : Ending} {l : List Val3} {u : Int} (h : TakesCol o w e w') (hs : o = some (l, u)) : ∃ A c, e = .returned (.tuple #[.slice A l.length c, .int .i64 u, .bool true]) ∧ Has w' A (fl l) ∧ Later w w' := by
  obtain ⟨⟨h, _⟩ | ⟨l', u', A, c, h, h1, h2⟩, L⟩ := h
  · rw [hs] at h; cases h
  · rw [hs] at h; cases h; exact ⟨A, c, h1, h2, L⟩

set_option maxRecDepth 100000 in
theorem colRead_no (t n : Int) (A : Option Addr) (m c : Nat) (w : World) (hs : S6 w) (h : ¬ ((1 ≤ t ∧ t ≤ 4) ∧ 0 ≤ n ∧ n ≤ 1000)) :
    Calls Tryz.prog 24 #[.int .i64 t, .int .i64 n, .slice A m c] w (ReadC none w) := by
  have hif : Tryz.prog.isIface 40 = true := by kernel_rfl
  have HA := Lib.hid (count_no t n w h hs.type hs.bound)
  clear hs h
  go_enter Tryz.func24, Tryz.ntmps24
  go_wp2_with fail
  refine HA.out.mono ?_
  rintro e w1 ⟨v, rfl, ⟨p, rfl⟩, l1⟩
  have heq := run_eql_iface_nil (P := Tryz.prog) (w := w1) 40 hif 82 (.pointer (some p))
  go_wp2_with fail
  go_ret3
  exact ⟨.inl ⟨rfl, p, rfl⟩, l1⟩

set_option maxRecDepth 100000 in
theorem colRead_short (t : Int) (n : Nat) (A : Option Addr) (m c : Nat) (b : List Nat) (w : World) (hs : S6 w) (ht : 1 ≤ t ∧ t ≤ 4) (hn : n ≤ 1000) (hm : m = b.length) (h2 : b.length < 2) :
    Calls Tryz.prog 24 #[.int .i64 t, .int .i64 n, .slice A m c] w (ReadC (readC10 t n b) w) := by
  have HA := Lib.hid (count_yes t n w ht (by omega))
  have HO := Lib.hid (show readC10 t n b = none by
    match b, h2 with
    | [], _ => rfl
    | [e], _ => unfold readC10; simp only; split <;> rfl)
  obtain ⟨sv, hsv⟩ := hs.short
  have hm2 : (m : Int) < 2 := by omega
  clear hs ht hn hm h2
  go_enter Tryz.func24, Tryz.ntmps24
  go_wp2_with (first
    | (go_at_call 42; refine HA.out.mono ?_; rintro e w' ⟨rfl, rfl⟩)
    | (go_at_call 27; refine (at_l _ _ _ _).mono ?_; rintro e w6 ⟨q, rfl, l6⟩; have HL6 := Lib.hid l6; clear l6))
  go_ret3
  exact ⟨.inl ⟨HO.out, _, rfl⟩, HL6.out⟩

theorem usedC_eq {e t u : Int} (h : usedC e t = some u) (h2 : ¬ usedC e t = some e) : u ≠ e := fun h3 => h2 (by rw [h, h3])

set_option maxRecDepth 100000 in
set_option maxHeartbeats 2000000 in
theorem colRead_wrong (t : Int) (n : Nat) (bb off m c : Nat) (e f : Nat) (r : List Nat) (w : World) (hs : S10 w) (ht : 1 ≤ t ∧ t ≤ 4) (hn : n ≤ 1000) (hm : m = r.length + 2) (hr : Has w (some ⟨bb, off, none⟩) (ints .u8 (e :: f :: r))) (he : e < 256) (hu : ¬ usedC e t = some (e : Int)) :
    Calls Tryz.prog 24 #[.int .i64 t, .int .i64 n, .slice (some ⟨bb, off, none⟩) m c] w (ReadC (readC10 t n (e :: f :: r)) w) := by
  have HA := Lib.hid (count_yes t n w ht (by omega))
  have HO := Lib.hid (show readC10 t n (e :: f :: r) = none by unfold readC10; simp only; rw [if_neg hu])
  have c0 : w.cell? ⟨bb, off, none⟩ = some (.int .u8 (e : Int)) := by
    rcases hr with h | ⟨b', o', h, _, hc⟩
    · cases h
    · injection h with h
      injection h with h1 h2
      subst h1 h2
      exact hc 0 _ rfl
  have hew : IntKind.i64.wrap (e : Int) = (e : Int) := IntWalk.i64_in _ ⟨by omega, by omega⟩
  have hm2 : ¬ (m : Int) < 2 := by omega
  have hm0 : (0 : Int) < (m : Int) := by omega
  cases hU : usedC e t with
  | none =>
    have HU := Lib.hid (colUsed_no e t w hs.s6 hU)
    have HS := Lib.hid hs
    clear hs ht hn hm hr hU hu he
    go_enter Tryz.func24, Tryz.ntmps24
    go_wp2_with (go_at_call 42; refine HA.out.mono ?_; rintro e w' ⟨rfl, rfl⟩)
    refine HU.out.mono ?_
    rintro e1 w1 ⟨rfl, l1⟩
    obtain ⟨sv, hsv⟩ := (HS.out.s6.later l1).type
    go_wp2_with (go_at_call 27; refine (at_l _ _ _ _).mono ?_; rintro e w6 ⟨q, rfl, l6⟩; have HL6 := Lib.hid l6; clear l6)
    go_ret3
    exact ⟨.inl ⟨HO.out, _, rfl⟩, l1.trans HL6.out⟩
  | some u =>
    have HU := Lib.hid (colUsed_yes e t u w hU)
    have hne : ((u : Int) == (e : Int)) = false := by rw [beq_eq_false_iff_ne]; exact usedC_eq hU hu
    obtain ⟨sv, hsv⟩ := hs.s6.type
    clear hs ht hn hm hr hU hu he
    go_enter Tryz.func24, Tryz.ntmps24
    go_wp2_with (first
      | (go_at_call 42; refine HA.out.mono ?_; rintro e w' ⟨rfl, rfl⟩)
      | (go_at_call 5; refine HU.out.mono ?_; rintro e w' ⟨rfl, rfl⟩)
      | (go_at_call 27; refine (at_l _ _ _ _).mono ?_; rintro e w6 ⟨q, rfl, l6⟩; have HL6 := Lib.hid l6; clear l6))
    go_ret3
    exact ⟨.inl ⟨HO.out, _, rfl⟩, HL6.out⟩

theorem takesV_copy {o : Option (List Val3)} {w w1 : World} {e : Ending} (h : TakesV o w e w1) : (o = none ∧ e = .returned (.tuple #[.slice none 0 0, .bool false]) ∧ Later w w1) ∨ ∃ l A c, o = some l ∧ e = .returned (.tuple #[.slice A l.length c, .bool true]) ∧ Has w1 A (fl l) ∧ l.length ≤ c ∧ c ≤ 9223372036854775807 ∧ Later w w1 := by
  obtain ⟨⟨h1, h2⟩ | ⟨l, A, c, h1, h2, h3, h4, h5⟩, L⟩ := h
  · exact .inl ⟨h1, h2, L⟩
  · exact .inr ⟨l, A, c, h1, h2, h3, h4, h5, L⟩

set_option maxRecDepth 100000 in
set_option maxHeartbeats 2000000 in
theorem colRead_right (t : Int) (n : Nat) (bb off m c : Nat) (e f : Nat) (r : List Nat) (w : World) (hs : S10 w) (ht : 1 ≤ t ∧ t ≤ 4) (hn : n ≤ 1000) (hm : m = r.length + 2) (hr : Has w (some ⟨bb, off, none⟩) (ints .u8 (e :: f :: r))) (h256 : ∀ x ∈ e :: f :: r, x < 256) (hb : r.length + 2 ≤ 1000000) (hbc : m ≤ c) (hc : c ≤ 9223372036854775807) (hu : usedC e t = some (e : Int)) :
    Calls Tryz.prog 24 #[.int .i64 t, .int .i64 n, .slice (some ⟨bb, off, none⟩) m c] w (ReadC (readC10 t n (e :: f :: r)) w) := by
  have HA := Lib.hid (count_yes t n w ht (by omega))
  have HU := Lib.hid (colUsed_yes e t e w hu)
  have he := h256 e (List.mem_cons_self ..)
  have he5 : 1 ≤ (e : Int) ∧ (e : Int) ≤ 5 := (usedC_serves hu).2.imp id (·.1)
  have c0 : w.cell? ⟨bb, off, none⟩ = some (.int .u8 (e : Int)) := by
    rcases hr with h | ⟨b', o', h, _, hc⟩
    · cases h
    · injection h with h
      injection h with h1 h2
      subst h1 h2
      exact hc 0 _ rfl
  have hew : IntKind.i64.wrap (e : Int) = (e : Int) := IntWalk.i64_in _ ⟨by omega, by omega⟩
  have hm2 : ¬ (m : Int) < 2 := by omega
  have hm0 : (0 : Int) < (m : Int) := by omega
  have hc1 : ¬ c = 1 := by omega
  have i1 : (1 : Int) ≤ (m : Int) := by omega
  have i2 : (m : Int) ≤ (c : Int) := by omega
  have HN := Lib.hid hn
  have HS := Lib.hid hs
  have HT4 := Lib.hid ht
  have HE5 := Lib.hid he5
  have HO := Lib.hid (show readC10 t n (e :: f :: r) = (match readN n (f :: r) with
        | none => none
        | some (x, c) => (takeE e t ((n - x.count true : Nat) : Int) c).map fun s => (mixL x s, (e : Int))) by
    conv => lhs; unfold readC10
    simp only
    rw [if_pos hu]
    rfl)
  have H256R := Lib.hid (show ∀ x ∈ f :: r, x < 256 from fun x hx => h256 x (List.mem_cons_of_mem _ hx))
  have HB := Lib.hid hb
  have HRN := Lib.hid (colReadNone_any n hn (some ⟨bb, off + 1, none⟩) (m - 1) (c - 1) (f :: r) w hs (by rw [List.length_cons]; omega) (by simp) (hr.behind 1) H256R.out (by rw [List.length_cons]; omega) (by omega) (by omega))
  clear hs ht hn hm hr h256 hb hu he he5 hbc hc
  go_enter Tryz.func24, Tryz.ntmps24
  go_wp2_with (first
      | (go_at_call 42; refine HA.out.mono ?_; rintro e w' ⟨rfl, rfl⟩)
      | (go_at_call 5; refine HU.out.mono ?_; rintro e w' ⟨rfl, rfl⟩))
  refine HRN.out.mono ?_
  clear HRN HA HU c0
  rintro e2 w2 ⟨⟨hrn, p, rfl⟩ | ⟨x, q, g, B, cb, hrn, rfl, hx, hq, hqc, hcb⟩, l2⟩
  · have hif : Tryz.prog.isIface 40 = true := by kernel_rfl
    have heq := run_eql_iface_nil (P := Tryz.prog) (w := w2) 40 hif 82 (.pointer (some p))
    have HO2 := Lib.hid (show readC10 t n (e :: f :: r) = none by rw [HO.out, hrn])
    have HL2 := Lib.hid l2
    clear hrn l2
    go_wp2_with fail
    go_ret3
    exact ⟨.inl ⟨HO2.out, p, rfl⟩, HL2.out⟩
  · obtain ⟨hxl, hbq⟩ := readN_is H256R.out hrn
    have hq256 : ∀ y ∈ q, y < 256 := fun y hy => H256R.out y (by rw [hbq]; exact List.mem_append_right _ hy)
    have hql : q.length ≤ 1000000 := by
      have h := congrArg List.length hbq
      rw [List.length_append, List.length_cons] at h
      have := HB.out
      omega
    have HO2 := Lib.hid (show readC10 t n (e :: f :: r) = (takeE e t ((n - x.count true : Nat) : Int) q).map fun s => (mixL x s, (e : Int)) by rw [HO.out, hrn])
    have HCN := Lib.hid (count_any (some ⟨g, 0, none⟩) x.length x.length x w2 rfl hx (by have := HN.out; omega))
    obtain ⟨cn, hcn⟩ : ∃ cn, cn = x.count true := ⟨_, rfl⟩
    have hcx : cn ≤ x.length := by rw [hcn]; exact List.count_le_length
    rw [← hcn] at HCN HO2
    have HCF := Lib.hid (show x.count false = n - cn by have := count_ft x; omega)
    have hsub : ((n - cn : Nat) : Int) = (n : Int) - (cn : Int) := by omega
    have HS2 := Lib.hid (HS.out.later l2)
    have HDC := Lib.hid (colDecode_any e t ((n : Int) - (cn : Int)) B q.length cb q w2 rfl HS2.out.s6 HE5.out hq hq256 hql hqc hcb)
    rw [hsub] at HO2
    have HQ := Lib.hid hq256
    have HX := Lib.hid hx
    have HL2 := Lib.hid l2
    have HXL := Lib.hid hxl
    have hxi : (x.length : Int) ≤ 1000 := by have := HN.out; omega
    have hni : (n : Int) ≤ 1000 := by have := HN.out; omega
    have hci : (cn : Int) ≤ (n : Int) := by omega
    have HSB := Lib.hid hsub
    clear hrn hxl hbq hq256 hql hcn hcx hsub hx hq hqc hcb l2 HO HS HB
    go_wp2_with (go_at_call 45; refine HCN.out.mono ?_; rintro e w9 ⟨rfl, rfl⟩)
    refine HDC.out.mono ?_
    clear HDC HCN
    intro e3 w3 h
    rcases takesV_copy h with ⟨hno, rfl, l3⟩ | ⟨s, S, cs, hyes, rfl, hsh, hsc, hscm, l3⟩
    · have HO3 := Lib.hid (show readC10 t n (e :: f :: r) = none by rw [HO2.out, hno]; rfl)
      obtain ⟨sv, hsv⟩ := (HS2.out.s6.later l3).value
      have HL3 := Lib.hid (HL2.out.trans l3)
      clear hno h l3
      go_wp2_with (go_at_call 27; refine (at_l _ _ _ _).mono ?_; rintro e w6 ⟨q, rfl, l6⟩; have HL6 := Lib.hid l6; clear l6)
      go_ret3
      exact ⟨.inl ⟨HO3.out, _, rfl⟩, HL3.out.trans HL6.out⟩
    · obtain ⟨_, _, hlen, _⟩ := takeE_is HQ.out hyes
      have HO3 := Lib.hid (show readC10 t n (e :: f :: r) = some (mixL x s, (e : Int)) by rw [HO2.out, hyes]; rfl)
      have hsl : s.length = n - cn := by omega
      have HTG := Lib.hid (colTogether_any (some ⟨g, 0, none⟩) S x.length x.length s.length cs x s w3 rfl (by have := HN.out; have := HXL.out; omega) (HX.out.later l3) rfl hsc hscm (by rw [HCF.out, hsl]) hsh)
      have HL3 := Lib.hid (HL2.out.trans l3)
      clear hyes h hlen hsl hsc hscm hsh l3
      go_wp2_with fail
      refine HTG.out.mono ?_
      rintro e4 w4 ⟨g4, rfl, h4, l4⟩
      have H4 := Lib.hid h4
      have HL4 := Lib.hid (HL3.out.trans l4)
      clear h4 l4 HTG
      go_wp2_with fail
      go_ret3
      refine ⟨.inr ⟨mixL x s, e, g4, HO3.out, ?_, H4.out⟩, HL4.out⟩
      rw [mixL_len]
      rfl

theorem colRead_any (t n : Int) (A : Option Addr) (m c : Nat) (b : List Nat) (w : World) (hs : S10 w) (hm : m = b.length) (hr : Has w A (ints .u8 b)) (h256 : ∀ x ∈ b, x < 256) (hb : b.length ≤ 1000000) (hbc : m ≤ c) (hc : c ≤ 9223372036854775807) :
    Calls Tryz.prog 24 #[.int .i64 t, .int .i64 n, .slice A m c] w (ReadC (takeC10 t n b) w) := by
  unfold takeC10
  by_cases h : (1 ≤ t ∧ t ≤ 4) ∧ 0 ≤ n ∧ n ≤ 1000
  · rw [if_pos h]
    obtain ⟨k, rfl⟩ : ∃ k : Nat, n = (k : Int) := ⟨n.toNat, by omega⟩
    rw [show ((k : Nat) : Int).toNat = k from rfl]
    match b, hm, hr, h256, hb with
    | [], hm, hr, h256, hb => exact colRead_short t k A m c [] w hs.s6 h.1 (by omega) hm (by decide)
    | [e], hm, hr, h256, hb => exact colRead_short t k A m c [e] w hs.s6 h.1 (by omega) hm (by simp)
    | e :: f :: r, hm, hr, h256, hb =>
      obtain ⟨bb, off, rfl⟩ : ∃ bb off, A = some ⟨bb, off, none⟩ := by
        rcases hr with h | ⟨bb, off, h, _⟩
        · cases h
        · exact ⟨bb, off, h⟩
      have hm2 : m = r.length + 2 := by rw [hm]; rfl
      by_cases hu : usedC e t = some (e : Int)
      · exact colRead_right t k bb off m c e f r w hs h.1 (by omega) hm2 hr h256 (by have h : (e :: f :: r).length = r.length + 2 := rfl; omega) hbc hc hu
      · exact colRead_wrong t k bb off m c e f r w hs h.1 (by omega) hm2 hr (h256 e (List.mem_cons_self ..)) hu
  · rw [if_neg h]; exact colRead_no t n A m c w hs.s6 h

set_option maxRecDepth 100000 in
theorem colTake_any (t n : Int) (A : Option Addr) (m c : Nat) (b : List Nat) (w : World) (hs : S10 w) (hm : m = b.length) (hr : Has w A (ints .u8 b)) (h256 : ∀ x ∈ b, x < 256) (hb : b.length ≤ 1000000) (hbc : m ≤ c) (hc : c ≤ 9223372036854775807) :
    Calls Tryz.prog 11 #[.int .i64 t, .int .i64 n, .slice A m c] w (TakesCol (takeC10 t n b) w) := by
  have hif : Tryz.prog.isIface 40 = true := by kernel_rfl
  have HC := Lib.hid (colRead_any t n A m c b w hs hm hr h256 hb hbc hc)
  clear hs hm hr h256 hb hbc hc
  go_enter Tryz.func11, Tryz.ntmps11
  go_wp2_with fail
  refine HC.out.mono ?_
  rintro e w1 ⟨⟨ho, p, rfl⟩ | ⟨l, u, g, ho, rfl, h1⟩, l1⟩
  · have heq := run_eql_iface_nil (P := Tryz.prog) (w := w1) 40 hif 82 (.pointer (some p))
    go_wp2_with fail
    go_ret3
    exact ⟨.inl ⟨ho, rfl⟩, l1⟩
  · have H := Lib.hid (show TakesCol (takeC10 t n b) w (.returned (.tuple #[.slice (some ⟨g, 0, none⟩) l.length l.length, .int .i64 u, .bool true])) w1 from ⟨.inr ⟨l, u, some ⟨g, 0, none⟩, l.length, ho, rfl, h1⟩, l1⟩)
    clear ho h1 l1
    go_wp2_with fail
    go_ret3
    exact H.out
end Go.Proofs.YtldalkhmbpkjpaaGreatDoor
