
import Derived.Test.YtkdpjocglfephaaDoorCell
import Derived.Test.YtkdpjocglfephaaDoorBase
import Derived.Laws.Externs
import Derived.WalkKit
import Derived.Laws.OwnMore
import Derived.Laws.BytesArg
import Derived.Laws.Rows
import Derived.Deep.AppendLies
import Derived.Deep.Draws
import Derived.Test.YtkdpjocglfephaaDoorChecked
import Derived.Deep.OwnRows
import Derived.Lib.Hide
import Derived.Deep.Quiet
import Derived.Laws.AppendOwnNone
import Derived.Lib.Strings
import Derived.Outline
import Derived.WalkLawsBesides
import Derived.WalkSpells
import Derived.PlainAid
import Derived.Deep.QuietTactic
import Derived.BigQuiet
import Derived.RegionTactic
import Derived.BigRegion
import Derived.Handy
import Derived.Laws.BitsAllLaws
import Derived.Deep.RegionWith
import Derived.Lib.AppendStr
import Derived.Deep.RegionLaw
import Derived.Maps.AppendAt
import Derived.OpenShut
import Derived.WideShapes
import Derived.ChangeArms
import Derived.Deep.Slices
import Derived.Sort.Grow
import Derived.LaidEql
import Derived.Stop.Asserts
import Derived.RowKitTokens
import Derived.Laws.BitsLemmas
import Derived.Laws.Bits64
import Derived.WalkSmall
import Derived.Stop.IfaceNil
import Derived.Lib.Bytealg
import Derived.Deep.SlicePairs
import Derived.Test.YtkdpjocglfephaaDoorShelf
/- The walk of agg.sum. -/

namespace Go.Proofs.YtkdpjocglfephaaDoor
open Go.RowKit
set_option linter.unusedVariables false

theorem u64_step (i : Int) (hi : -9223372036854775808 ≤ i ∧ i ≤ 9223372036854775807) : ∃ u s : Nat, IntKind.u64.wrap i = (u : Int) ∧ IntKind.u64.wrap (i / 9223372036854775808) = (s : Int) ∧ u < 18446744073709551616 ∧ s < 18446744073709551616 ∧
    ∀ (T : Int) (h l : Nat), Sum128 T h l → Sum128 (T + i) ((h + (s + (l + u) / 18446744073709551616) % 18446744073709551616) % 18446744073709551616) ((l + u) % 18446744073709551616) := by
  by_cases h0 : i < 0
  · have e : i / 9223372036854775808 = -1 := by omega
    have e2 : IntKind.u64.wrap i = i + 18446744073709551616 := by rw [IntKind.wrap_u64]; omega
    refine ⟨(i + 18446744073709551616).toNat, 18446744073709551615, by rw [e2]; omega, by rw [e]; decide, by omega, by omega, fun T h l hs => sum128_neg hs i h0 hi.1 _ (by omega)⟩
  · have e : i / 9223372036854775808 = 0 := by omega
    have e2 : IntKind.u64.wrap i = i := by rw [IntKind.wrap_u64]; omega
    refine ⟨i.toNat, 0, by rw [e2]; omega, by rw [e]; decide, by omega, by omega, fun T h l hs => sum128_pos hs i (by omega) hi.2 _ (by omega)⟩
theorem u64_add (a b : Nat) : IntKind.u64.wrap ((a : Int) + (b : Int)) = (((a + b) % 18446744073709551616 : Nat) : Int) := by rw [IntKind.wrap_u64]; omega
theorem add64_run (x y : Nat) (w : World) : (callFunc 88 #[.int .u64 x, .int .u64 y, .int .u64 0]).run Tryd.prog w = .ok (.value (.tuple #[.int .u64 (((x + y) % 18446744073709551616 : Nat) : Int), .int .u64 (((x + y) / 18446744073709551616 : Nat) : Int)])) w := by
  rw [run_callFunc_extern Tryd.func88 (by kernel_rfl) (by kernel_rfl) (by kernel_rfl) (e := add64Entry) (by kernel_rfl), run_add64 x y 0 (by omega) (by omega) (by omega) (by omega)]
  simp only [Result.andThen]
  congr 5 <;> omega
theorem u64_end {T : Int} {h l : Nat} (hs : Sum128 T h l) (hT : -922337203685477580800000 ≤ T ∧ T ≤ 922337203685477580800000) : ∃ (l2 : Int) (s : Nat), IntKind.i64.wrap (l : Int) = l2 ∧ IntKind.u64.wrap (l2 / 9223372036854775808) = (s : Int) ∧ (h = s ↔ (-9223372036854775808 ≤ T ∧ T ≤ 9223372036854775807)) ∧ (h = s → l2 = T) := by
  by_cases h0 : l < 9223372036854775808
  · have e : (l : Int) / 9223372036854775808 = 0 := by omega
    have h1 := sum128_low hs hT h0
    exact ⟨l, 0, IntWalk.i64_in _ ⟨by omega, by omega⟩, by rw [e]; decide, h1.1, h1.2⟩
  · have hlt := hs.2.1
    have e : ((l : Int) - 18446744073709551616) / 9223372036854775808 = -1 := by omega
    have h1 := sum128_high hs hT (by omega)
    refine ⟨(l : Int) - 18446744073709551616, 18446744073709551615, ?_, by rw [e]; decide, h1.1, h1.2⟩
    rw [IntKind.wrap_i64]; omega
/-- Which sentinel. -/
def sentA (n : Int) (a0 a1 a2 : Addr) : Addr := if n = 4 then a1 else if n = 5 then a2 else a0
/-- What an aggregate gives. -/
def OfP (o : Except Int Val3) (a0 a1 a2 : Addr) (w : World) (e : Ending) (w' : World) : Prop :=
  (∃ x, o = .ok x ∧ e = .returned (.tuple #[vagg x.1 x.2.1 x.2.2, .nilIface]) ∧ Later w w') ∨ (∃ n v, o = .error n ∧ (n = 4 ∨ n = 5) ∧ e = .returned (.tuple #[vagg 0 0 ⟨#[]⟩, v]) ∧ ErrD w.heap.size 1 w' v (sentA n a0 a1 a2) ∧ Later w w')
/-- Where the sum stands. -/
def SuI (l : List Val3) (w : World) (hv lv cv iv : Value) (wr : World) : Prop :=
  ∃ k hi lo cc : Nat, hv = .int .u64 hi ∧ lv = .int .u64 lo ∧ cv = .int .u64 cc ∧ iv = .int .i64 k ∧ k ≤ l.length ∧ (∀ x ∈ l.take k, Num3 x) ∧ Sum128 (sumI (l.take k)) hi lo ∧ Blk wr w.heap.size #[.int .i64 0, .int .i64 0, .string ⟨#[]⟩] 26 ∧ Later w wr
theorem SuI.mk {l : List Val3} {w wr : World} (y : Int) (k hi lo cc : Nat) (hy : y = (k : Int)) (hk : k ≤ l.length) (hn : ∀ x ∈ l.take k, Num3 x) (hs : Sum128 (sumI (l.take k)) hi lo) (R : Blk wr w.heap.size #[.int .i64 0, .int .i64 0, .string ⟨#[]⟩] 26) (L : Later w wr) : SuI l w (.int .u64 hi) (.int .u64 lo) (.int .u64 cc) (.int .i64 y) wr := by
  subst hy; exact ⟨k, hi, lo, cc, rfl, rfl, rfl, rfl, hk, hn, hs, R, L⟩
theorem OfP.bad {o : Except Int Val3} {a0 a1 a2 : Addr} {w w' : World} {v : Value} (n : Int) (ho : o = .error n) (hn : n = 4 ∨ n = 5) (hv : ErrD w.heap.size 1 w' v (sentA n a0 a1 a2)) (L : Later w w') : OfP o a0 a1 a2 w (.returned (.tuple #[.agg #[.int .i64 0, .int .i64 0, .string ⟨#[]⟩], v])) w' := .inr ⟨n, v, ho, hn, rfl, hv, L⟩
theorem OfP.good {o : Except Int Val3} {a0 a1 a2 : Addr} {w w' : World} (t i : Int) (s : ByteArray) (ho : o = .ok (t, i, s)) (L : Later w w') : OfP o a0 a1 a2 w (.returned (.tuple #[.agg #[.int .i64 t, .int .i64 i, .string s], .nilIface])) w' := .inl ⟨(t, i, s), ho, rfl, L⟩

set_option maxRecDepth 100000 in
set_option maxHeartbeats 4000000 in
theorem sum_any (A : Option Addr) (n c : Nat) (l : List Val3) (a0 a1 a2 : Addr) (w : World) (hS : S24 w a0 a1 a2) (hn : n = l.length) (hl : l.length ≤ 100000) (hr : Has w A (fl l)) (h64 : ∀ x ∈ l, -9223372036854775808 ≤ x.2.1 ∧ x.2.1 ≤ 9223372036854775807) :
    Calls Tryd.prog 79 #[.slice A n c] w (OfP (sumV l) a0 a1 a2 w) := by
  subst hn
  have HS := Lib.hid hS
  have R0 := Blk.new w #[.int .i64 0, .int .i64 0, .string ⟨#[]⟩] 26 w.heap.size rfl
  have L0 := Later.new w (.cells #[.int .i64 0, .int .i64 0, .string ⟨#[]⟩] 26)
  have H64 := Lib.hid h64
  by_cases h0 : l.length = 0
  · have HE := Lib.hid (show sumV l = .ok (0, 0, ⟨#[]⟩) from if_pos (List.eq_nil_of_length_eq_zero h0))
    have he : ((l.length : Int) == 0) = true := by simpa using h0
    have HLL := Lib.hid (fun (o : Obj) => Later.new w o)
    clear h0 hr h64 R0 L0
    go_enter Tryd.func79, Tryd.ntmps79
    go_wp2_with fail
    rw [HE.out]
    exact bodyPost_ret (v := .tuple #[.agg #[.int .i64 0, .int .i64 0, .string ⟨#[]⟩], .nilIface]) (by simp [results, Tryd.results79, go_sem]) rfl (OfP.good 0 0 ⟨#[]⟩ rfl (HLL.out _))
  · have he : ((l.length : Int) == 0) = false := by simp; exact fun e => h0 (by rw [e]; rfl)
    have HNE := Lib.hid (show l ≠ [] from fun e => h0 (by rw [e]; rfl))
    have HR := Lib.hid hr
    have HI0 := Lib.hid (SuI.mk (l := l) (w := w) 0 0 0 0 0 rfl (Nat.zero_le _) (by intro x hx; simp at hx) (by rw [List.take_zero]; exact sum128_zero) R0 L0)
    clear hr h64 R0 L0 h0
    go_enter Tryd.func79, Tryd.ntmps79
    go_wp2_with fail
    go_loopw [4, 5, 6, 15] (fun hv lv cv iv wr => SuI l w hv lv cv iv wr) (fun _ _ _ i _ => l.length - (intOf i).toNat)
    case atStart => exact HI0.out
    case round =>
      obtain ⟨k, hi, lo, cc, rfl, rfl, rfl, rfl, hk, hnum, hsum, BR, lat⟩ := hrel
      have HNUM := Lib.hid hnum
      have HSUM := Lib.hid hsum
      have HLAT := Lib.hid lat
      have HBR := Lib.hid BR
      clear HI0 hnum hsum BR
      obtain ⟨gr, hgr⟩ : ∃ g, g = w.heap.size := ⟨_, rfl⟩
      have HGR := Lib.hid hgr
      rw [← hgr] at HBR ⊢
      have hgr2 : w.heap.size ≤ gr := by omega
      clear hgr
      by_cases hlt : k < l.length
      · obtain ⟨bb, off, hadr, c0, c1, c2⟩ := (HR.out.later lat).val3 k hlt
        subst hadr
        have HX := Lib.hid (show l.take (k + 1) = l.take k ++ [(l[k].1, l[k].2.1, l[k].2.2)] from List.take_succ_eq_append_getElem hlt)
        have HM := Lib.hid (show (l[k].1, l[k].2.1, l[k].2.2) ∈ l from List.getElem_mem hlt)
        have hin := H64.out _ (List.getElem_mem hlt)
        generalize l[k].1 = t at c0 HX HM
        generalize l[k].2.1 = i at c1 HX HM hin
        generalize l[k].2.2 = s at c2 HX HM
        obtain ⟨gv, hgv⟩ : ∃ g, wr.heap.size = g := ⟨_, rfl⟩
        obtain ⟨w1, hw1⟩ : ∃ x, wr.alloc (.cells #[.int .i64 t, .int .i64 i, .string s] 26) = x := ⟨_, rfl⟩
        have BV := Blk.new wr #[.int .i64 t, .int .i64 i, .string s] 26 gv hgv.symm
        have BR := HBR.out.later (Later.new wr (.cells #[.int .i64 t, .int .i64 i, .string s] 26))
        have LW := HLAT.out.alloc (.cells #[.int .i64 t, .int .i64 i, .string s] 26)
        rw [hw1] at BV BR LW
        clear lat HBR
        have v0 := BV.cell 0 _ rfl
        have v1 := BV.cell 1 _ rfl
        by_cases hnm : t = 1 ∨ t = 2
        · have HRr := Lib.hid BR
          have HLL := Lib.hid LW
          have HNR := Lib.hid (show ∀ x ∈ l.take (k + 1), Num3 x from fun x hx => by
            rw [HX.out] at hx
            rcases List.mem_append.1 hx with hx | hx
            · exact HNUM.out x hx
            · rw [List.mem_singleton] at hx; subst hx; exact hnm)
          obtain ⟨u, z, hu, hz, hul, hzl, hst⟩ := u64_step i hin
          have HST := Lib.hid (show Sum128 (sumI (l.take (k + 1))) ((hi + (z + (lo + u) / 18446744073709551616) % 18446744073709551616) % 18446744073709551616) ((lo + u) % 18446744073709551616) from by
            rw [HX.out, sumI_append]
            have := hst _ _ _ HSUM.out
            simpa [sumI] using this)
          have hadd := add64_run lo u
          obtain ⟨lo2, hlo2⟩ : ∃ x, (lo + u) % 18446744073709551616 = x := ⟨_, rfl⟩
          obtain ⟨c2', hc2⟩ : ∃ x, (lo + u) / 18446744073709551616 = x := ⟨_, rfl⟩
          rw [hlo2, hc2] at hadd
          rw [hlo2, hc2] at HST
          have hw1' := u64_add z c2'
          obtain ⟨s2, hs2⟩ : ∃ x, (z + c2') % 18446744073709551616 = x := ⟨_, rfl⟩
          rw [hs2] at HST hw1'
          have hw2' := u64_add hi s2
          obtain ⟨h2, hh2⟩ : ∃ x, (hi + s2) % 18446744073709551616 = x := ⟨_, rfl⟩
          rw [hh2] at HST hw2'
          clear hst hlo2 hc2 hs2 hh2 BV BR LW HNUM HSUM HX HM hul hzl hin HLAT
          rcases hnm with rfl | rfl
          · go_wp2_with fail
            go_roundw
            case rel => rw [HGR.out] at HRr; exact SuI.mk _ (k + 1) h2 lo2 c2' (by omega) hlt HNR.out HST.out HRr.out HLL.out
            case measure => simp [intOf]; omega
          · go_wp2_with fail
            go_roundw
            case rel => rw [HGR.out] at HRr; exact SuI.mk _ (k + 1) h2 lo2 c2' (by omega) hlt HNR.out HST.out HRr.out HLL.out
            case measure => simp [intOf]; omega
        · have HE := Lib.hid (show sumV l = .error 4 from by
            unfold sumV
            rw [if_neg HNE.out, if_neg (fun h => hnm (h _ HM.out))])
          have e1 : (t == 1) = false := by simp; omega
          have e2 : (t == 2) = false := by simp; omega
          have n1 : (t != 1) = true := by simp; omega
          have hgw : gr < w1.heap.size := BR.lt
          have hsz : w.heap.size ≤ w1.heap.size := LW.size
          have n2 : (t != 2) = true := by simp; omega
          have x1 := (HS.out.later LW).type
          have r0 := BR.cell 0 _ rfl
          have r1 := BR.cell 1 _ rfl
          have r2 := BR.cell 2 _ rfl
          have f0 := BR.frozen 0
          have f1 := BR.frozen 1
          have f2 := BR.frozen 2
          have HRr := Lib.hid BR
          have HLL := Lib.hid LW
          clear BV BR LW HNUM HSUM HX HM hin HLAT hnm HR H64
          go_wp2_with (go_at_call 48; refine (at_e0 _ _ a1 w1).mono ?_; rintro e wn ⟨v, rfl, hv, l2⟩; have HV := Lib.hid ((((hv.set_ (o := 0) hgw (.int .i64 0)).set_ (o := 1) hgw (.int .i64 0)).set_ (o := 2) hgw (.string ⟨#[]⟩)).mono (B' := w.heap.size) hsz); have BR2 := HRr.out.later l2; have r0 := BR2.cell 0 _ rfl; have r1 := BR2.cell 1 _ rfl; have r2 := BR2.cell 2 _ rfl; have f0 := BR2.frozen 0; have f1 := BR2.frozen 1; have f2 := BR2.frozen 2; have HL2 := Lib.hid (HLL.out.trans l2); have HB2 := Lib.hid (three_blk BR2 rfl (.int .i64 0) (.int .i64 0) (.string ⟨#[]⟩)); have HL4 := Lib.hid (three_later (HLL.out.trans l2) hgr2 (.int .i64 0) (.int .i64 0) (.string ⟨#[]⟩)); obtain ⟨wz, hwz⟩ : ∃ x, (((wn.setCell ⟨gr, 0, none⟩ (.int .i64 0)).setCell ⟨gr, 1, none⟩ (.int .i64 0)).setCell ⟨gr, 2, none⟩ (.string ⟨#[]⟩)) = x := ⟨_, rfl⟩; rw [hwz] at HV HB2 HL4; clear l2 hv BR2 HL2)
          have q0 := HB2.out.cell 0 _ rfl
          have q1 := HB2.out.cell 1 _ rfl
          have q2 := HB2.out.cell 2 _ rfl
          exact bodyPost_ret (v := .tuple #[.agg #[.int .i64 0, .int .i64 0, .string ⟨#[]⟩], v]) (by simp [results, Tryd.results79, go_sem, q0, q1, q2]) rfl (OfP.bad 4 HE.out (.inl rfl) HV.out HL4.out)
      · obtain rfl : k = l.length := by omega
        have hnl := HNUM.out
        have hsl := HSUM.out
        rw [List.take_length] at hnl hsl
        have hb := sumI_bound l H64.out
        obtain ⟨l2, z, hl2, hz, hif, heq⟩ := u64_end hsl ⟨by omega, by omega⟩
        have HL2 := Lib.hid (HLAT.out)
        have BR := HBR.out
        have r0 := BR.cell 0 _ rfl
        have r1 := BR.cell 1 _ rfl
        have r2 := BR.cell 2 _ rfl
        have f0 := BR.frozen 0
        have f1 := BR.frozen 1
        have f2 := BR.frozen 2
        by_cases hh : hi = z
        · have HE := Lib.hid (show sumV l = .ok (2, l2, ⟨#[]⟩) from by
            unfold sumV
            rw [if_neg HNE.out, if_pos hnl, if_pos (hif.1 hh), heq hh])
          have HBq := Lib.hid (three_blk BR rfl (.int .i64 2) (.int .i64 l2) (.string ⟨#[]⟩))
          have HLq := Lib.hid (three_later lat hgr2 (.int .i64 2) (.int .i64 l2) (.string ⟨#[]⟩))
          obtain ⟨wq, hwq⟩ : ∃ x, (((wr.setCell ⟨gr, 0, none⟩ (.int .i64 2)).setCell ⟨gr, 1, none⟩ (.int .i64 l2)).setCell ⟨gr, 2, none⟩ (.string ⟨#[]⟩)) = x := ⟨_, rfl⟩
          rw [hwq] at HBq HLq
          have hd : ((hi : Int) == (z : Int)) = true := by simp [hh]
          clear hh hif heq hsl hnl hb BR HBR HNUM HSUM lat
          go_wp2_with fail
          have q0 := HBq.out.cell 0 _ rfl
          have q1 := HBq.out.cell 1 _ rfl
          have q2 := HBq.out.cell 2 _ rfl
          exact bodyPost_ret (v := .tuple #[.agg #[.int .i64 2, .int .i64 l2, .string ⟨#[]⟩], .nilIface]) (by simp [results, Tryd.results79, go_sem, q0, q1, q2]) rfl (OfP.good 2 l2 ⟨#[]⟩ HE.out HLq.out)
        · have HE := Lib.hid (show sumV l = .error 5 from by
            unfold sumV
            rw [if_neg HNE.out, if_pos hnl, if_neg (fun h => hh (hif.2 h))])
          have hd : ((hi : Int) == (z : Int)) = false := by simp; omega
          have hd2 : ¬ (hi : Int) = (z : Int) := by omega
          have hgw : gr < wr.heap.size := BR.lt
          have hsz : w.heap.size ≤ wr.heap.size := lat.size
          have x1 := (HS.out.later lat).over
          have HRr := Lib.hid BR
          clear hh hif heq hsl hnl hb BR HBR HNUM HSUM lat
          go_wp2_with (go_at_call 48; refine (at_e0 _ _ a2 wr).mono ?_; rintro e wn ⟨v, rfl, hv, l2⟩; have HV := Lib.hid ((((hv.set_ (o := 0) hgw (.int .i64 0)).set_ (o := 1) hgw (.int .i64 0)).set_ (o := 2) hgw (.string ⟨#[]⟩)).mono (B' := w.heap.size) hsz); have BR2 := HRr.out.later l2; have r0 := BR2.cell 0 _ rfl; have r1 := BR2.cell 1 _ rfl; have r2 := BR2.cell 2 _ rfl; have f0 := BR2.frozen 0; have f1 := BR2.frozen 1; have f2 := BR2.frozen 2; have HB2 := Lib.hid (three_blk BR2 rfl (.int .i64 0) (.int .i64 0) (.string ⟨#[]⟩)); have HL4 := Lib.hid (three_later (HL2.out.trans l2) hgr2 (.int .i64 0) (.int .i64 0) (.string ⟨#[]⟩)); obtain ⟨wz, hwz⟩ : ∃ x, (((wn.setCell ⟨gr, 0, none⟩ (.int .i64 0)).setCell ⟨gr, 1, none⟩ (.int .i64 0)).setCell ⟨gr, 2, none⟩ (.string ⟨#[]⟩)) = x := ⟨_, rfl⟩; rw [hwz] at HV HB2 HL4; clear l2 hv BR2)
          have q0 := HB2.out.cell 0 _ rfl
          have q1 := HB2.out.cell 1 _ rfl
          have q2 := HB2.out.cell 2 _ rfl
          exact bodyPost_ret (v := .tuple #[.agg #[.int .i64 0, .int .i64 0, .string ⟨#[]⟩], v]) (by simp [results, Tryd.results79, go_sem, q0, q1, q2]) rfl (OfP.bad 5 HE.out (.inr rfl) HV.out HL4.out)
end Go.Proofs.YtkdpjocglfephaaDoor

/- The walks of package batch: height, Rows. -/

namespace Go.Proofs.YtkdpjocglfephaaDoor
open Go.RowKit
set_option linter.unusedVariables false

/-- How many rows columns have: as many as the shortest. -/
def heightC : List (List Val3) → Nat
  | [] => 0
  | c :: r => r.foldl (fun n x => min n x.length) c.length
theorem heightC_snoc (a : List Val3) (r : List (List Val3)) (x : List Val3) : heightC ((a :: r) ++ [x]) = min (heightC (a :: r)) x.length := by
  show (r ++ [x]).foldl _ _ = _
  rw [List.foldl_append]; rfl
theorem heightC_le : ∀ {l : List (List Val3)} {x : List Val3}, x ∈ l → heightC l ≤ x.length := by
  have key : ∀ (r : List (List Val3)) (n : Nat), r.foldl (fun n x => min n x.length) n ≤ n ∧ ∀ x ∈ r, r.foldl (fun n x => min n x.length) n ≤ x.length := by
    intro r
    induction r with
    | nil => intro n; exact ⟨Nat.le_refl _, fun x hx => by cases hx⟩
    | cons c r ih =>
      intro n
      have := ih (min n c.length)
      refine ⟨Nat.le_trans this.1 (Nat.min_le_left _ _), fun x hx => ?_⟩
      rcases List.mem_cons.1 hx with rfl | hx
      · exact Nat.le_trans this.1 (Nat.min_le_right _ _)
      · exact this.2 x hx
  intro l x hx
  cases l with
  | nil => cases hx
  | cons c r =>
    rcases List.mem_cons.1 hx with rfl | hx
    · exact (key r _).1
    · exact (key r _).2 x hx
/-- The i-th row of columns; all of them. -/
def rowAt (cols : List (List Val3)) (i : Nat) : List Val3 := cols.map fun c => c.getD i (0, 0, ⟨#[]⟩)
def rowsC (cols : List (List Val3)) : List (List Val3) := (List.range (heightC cols)).map (rowAt cols)
def colsOf (ss : List SlV) : List (List Val3) := ss.map (·.l)

/-- Where height's loop stands. -/
def HgI (ss : List SlV) (w : World) (nv iv : Value) (wr : World) : Prop :=
  ∃ k n : Nat, nv = .int .i64 n ∧ iv = .int .i64 k ∧ k ≤ ss.length ∧ n = heightC (colsOf (ss.take (max k 1))) ∧ wr = w
theorem HgI.mk {ss : List SlV} {w wr : World} (x y : Int) (k n : Nat) (hx : x = (n : Int)) (hy : y = (k : Int)) (hk : k ≤ ss.length) (h : n = heightC (colsOf (ss.take (max k 1)))) (hw : wr = w) : HgI ss w (.int .i64 x) (.int .i64 y) wr := by
  subst hx hy; exact ⟨k, n, rfl, rfl, hk, h, hw⟩
set_option maxRecDepth 100000 in
theorem height_any (A : Option Addr) (n c : Nat) (ss : List SlV) (w : World) (hn : n = ss.length) (hl : n ≤ 100000) (hr : RowsAt w A ss) (hb : ∀ s ∈ ss, s.l.length ≤ 100000) :
    Calls Tryd.prog 53 #[.slice A n c] w fun e w' => e = .returned (.int .i64 (heightC (colsOf ss))) ∧ w = w' := by
  have HN := Lib.hid hn
  clear hn
  by_cases h0 : n = 0
  · have hs : ss = [] := List.eq_nil_of_length_eq_zero (by have := HN.out; omega)
    subst h0 hs
    go_enter Tryd.func53, Tryd.ntmps53
    go_wp2_with fail
    go_ret
    exact ⟨rfl, rfl⟩
  · have h1 : 0 < ss.length := by have := HN.out; omega
    obtain ⟨b, off, rfl, c0, _⟩ := hr.get 0 h1
    have hn0 : ((n : Int) == 0) = false := by rw [beq_eq_false_iff_ne]; omega
    have hn1 : (0 : Int) < (n : Int) := by omega
    have HR := Lib.hid hr
    have HB := Lib.hid hb
    have HI0 := Lib.hid (HgI.mk (ss := ss) (w := w) (wr := w) (ss[0].l.length : Int) 0 0 ss[0].l.length rfl rfl (Nat.zero_le _) (by
      rcases ss with _ | ⟨s, r⟩
      · simp at h1
      · simp [colsOf, heightC]) rfl)
    rw [Nat.add_zero] at c0
    generalize ss[0].a = a0 at c0
    generalize ss[0].c = cc0 at c0
    generalize ss[0].l.length = l0 at c0 HI0
    clear hr hb
    go_enter Tryd.func53, Tryd.ntmps53
    go_wp2_with fail
    go_loopw [3, 15] (fun nv iv wr => HgI ss w nv iv wr) (fun _ i _ => n - (intOf i).toNat)
    case atStart => exact HI0.out
    case round =>
      obtain ⟨k, m, rfl, rfl, hk, hm, rfl⟩ := hrel
      by_cases hlt : k < n
      · have hkl : k < ss.length := by have := HN.out; omega
        obtain ⟨b', off', hA, ck, _⟩ := HR.out.get k hkl
        injection hA with hA
        injection hA with h1' h2'
        subst h1' h2'
        have hlk := HB.out _ (List.getElem_mem hkl)
        have hmb : m ≤ 100000 := by
          rw [hm]
          have hmem : (ss[0]'(by omega)).l ∈ colsOf (ss.take (max k 1)) := by
            unfold colsOf
            refine List.mem_map.2 ⟨ss[0]'(by omega), ?_, rfl⟩
            rw [List.mem_take_iff_getElem]
            exact ⟨0, by omega, rfl⟩
          exact Nat.le_trans (heightC_le hmem) (HB.out _ (List.getElem_mem (by omega)))
        have HM := Lib.hid (show min m ss[k].l.length = heightC (colsOf (ss.take (max (k + 1) 1))) by
          rw [show max (k + 1) 1 = k + 1 by omega]
          rcases ss with _ | ⟨s, r⟩
          · simp at hkl
          · rcases Nat.eq_zero_or_pos k with rfl | hp
            · have : m = s.l.length := by rw [hm]; simp [colsOf, heightC]
              rw [this]
              simp [colsOf, heightC]
            · rw [List.take_succ_eq_append_getElem hkl]
              unfold colsOf
              rw [List.map_append]
              rw [show max k 1 = k by omega] at hm
              obtain ⟨k', rfl⟩ : ∃ k', k = k' + 1 := ⟨k - 1, by omega⟩
              rw [List.take_succ_cons] at hm ⊢
              unfold colsOf at hm
              rw [List.map_cons] at hm
              rw [List.map_cons, List.map_singleton, heightC_snoc, ← hm])
        clear hm
        generalize ss[k].a = ak at ck
        generalize ss[k].c = cck at ck
        generalize ss[k].l.length = lk at ck HM hlk
        by_cases hmin : m ≤ lk
        · have hmi : (m : Int) ≤ (lk : Int) := by omega
          have HM2 := Lib.hid (show m = heightC (colsOf (ss.take (max (k + 1) 1))) by rw [← HM.out]; omega)
          clear HM
          go_wp2_with fail
          all_goals go_roundw
          all_goals first
            | exact HgI.mk _ _ (k + 1) m (by omega) (by omega) hkl HM2.out rfl
            | (simp [intOf]; omega)
        · have hmi : (lk : Int) < (m : Int) := by omega
          have HM2 := Lib.hid (show lk = heightC (colsOf (ss.take (max (k + 1) 1))) by rw [← HM.out]; omega)
          clear HM
          go_wp2_with fail
          all_goals go_roundw
          all_goals first
            | exact HgI.mk _ _ (k + 1) lk (by omega) (by omega) hkl HM2.out rfl
            | (simp [intOf]; omega)
      · have HE := Lib.hid (show m = heightC (colsOf ss) by
          have : k = ss.length := by have := HN.out; omega
          subst this
          rw [show max ss.length 1 = ss.length by omega, List.take_length] at hm
          exact hm)
        clear hm
        go_wp2_with fail
        go_ret
        rw [← HE.out]
        exact ⟨rfl, rfl⟩

/-- What Rows gives. -/
def RowsP (L : List (List Val3)) (w : World) (e : Ending) (w' : World) : Prop :=
  ∃ (A : Option Addr) (c : Nat) (rs : List SlV), e = .returned (.slice A rs.length c) ∧ rs.map (·.l) = L ∧ RowsAt w' A rs ∧ rs.length ≤ c ∧ c ≤ 9223372036854775807 ∧ (A = none → c = 0) ∧ Later w w'
/-- Where the outer loop stands: so many rows are made. -/
def RoI (cols : List (List Val3)) (w : World) (rv iv : Value) (wr : World) : Prop :=
  ∃ (k : Nat) (A : Option Addr) (n c : Nat) (rs : List SlV), rv = .slice A n c ∧ iv = .int .i64 k ∧ k ≤ heightC cols ∧ rs.map (·.l) = (List.range k).map (rowAt cols) ∧ RowsOn w.heap.size wr A n c rs ∧ Later w wr
theorem RoI.mk {cols : List (List Val3)} {w wr : World} (y : Int) (k : Nat) (A : Option Addr) (n c : Nat) (rs : List SlV) (hy : y = (k : Int)) (hk : k ≤ heightC cols) (h : rs.map (·.l) = (List.range k).map (rowAt cols)) (ho : RowsOn w.heap.size wr A n c rs) (L : Later w wr) : RoI cols w (.slice A n c) (.int .i64 y) wr := by
  subst hy; exact ⟨k, A, n, c, rs, rfl, rfl, hk, h, ho, L⟩
/-- Where the inner loop stands: so many columns are done. -/
def RiI (cols : List (List Val3)) (i : Nat) (ws : World) (rv jv : Value) (wr : World) : Prop :=
  ∃ (j : Nat) (R : Option Addr) (rn rc : Nat), rv = .slice R rn rc ∧ jv = .int .i64 j ∧ j ≤ cols.length ∧ rn = j ∧ wr.ownsRow ws.heap.size 26 3 (.slice R rn rc) rn (fl ((rowAt cols i).take j)) ∧ (R = none → rc = 0) ∧ Later ws wr
theorem RiI.mk {cols : List (List Val3)} {i : Nat} {ws wr : World} (y : Int) (j : Nat) (R : Option Addr) (rn rc : Nat) (hy : y = (j : Int)) (hj : j ≤ cols.length) (hrn : rn = j) (ho : wr.ownsRow ws.heap.size 26 3 (.slice R rn rc) rn (fl ((rowAt cols i).take j))) (hnil : R = none → rc = 0) (L : Later ws wr) : RiI cols i ws (.slice R rn rc) (.int .i64 y) wr := by
  subst hy; exact ⟨j, R, rn, rc, rfl, rfl, hj, hrn, ho, hnil, L⟩
theorem rowAt_len (cols : List (List Val3)) (i : Nat) : (rowAt cols i).length = cols.length := List.length_map _
set_option maxRecDepth 100000 in
set_option maxHeartbeats 4000000 in
theorem batchRows_any (A : Option Addr) (n c : Nat) (ss : List SlV) (w : World) (hn : n = ss.length) (hl : n ≤ 1000) (hr : RowsAt w A ss) (hb : ∀ s ∈ ss, s.l.length ≤ 1000) :
    Calls Tryd.prog 31 #[.slice A n c] w (RowsP (rowsC (colsOf ss)) w) := by
  have HH := Lib.hid (height_any A n c ss w hn (by omega) hr (fun s hs => by have := hb s hs; omega))
  have hhb : heightC (colsOf ss) ≤ 1000 := by
    rcases ss with _ | ⟨s, r⟩
    · simp [colsOf, heightC]
    · exact Nat.le_trans (heightC_le (x := s.l) (by simp [colsOf])) (hb s (by simp))
  have HCL := Lib.hid (show n = (colsOf ss).length by rw [hn]; simp [colsOf])
  have HN := Lib.hid hn
  have HR := Lib.hid hr
  have HB := Lib.hid hb
  have hlen : ∀ k (h : k < ss.length), heightC (colsOf ss) ≤ ss[k].l.length := fun k h => heightC_le (List.mem_map.2 ⟨ss[k], List.getElem_mem h, rfl⟩)
  have HLEN := Lib.hid hlen
  have HGET := Lib.hid (fun (i j : Nat) (h : j < ss.length) => show (rowAt (colsOf ss) i)[j]? = some (ss[j].l.getD i (0, 0, ⟨#[]⟩)) by
    unfold rowAt colsOf
    rw [List.getElem?_map, List.getElem?_map, List.getElem?_eq_getElem h]; rfl)
  obtain ⟨cols, hcols⟩ : ∃ x, colsOf ss = x := ⟨_, rfl⟩
  simp only [hcols] at HH hhb HCL HLEN HGET
  rw [hcols]
  obtain ⟨ht, hht⟩ : ∃ x, heightC cols = x := ⟨_, rfl⟩
  rw [hht] at HH hhb HLEN
  have HHT := Lib.hid hht
  have HI0 := Lib.hid (RoI.mk (cols := cols) (w := w) (wr := w) 0 0 none 0 0 [] rfl (Nat.zero_le _) rfl (RowsOn.nil_ _ _) (Later.refl _))
  clear hn hr hb hlen hcols hht
  go_enter Tryd.func31, Tryd.ntmps31
  go_wp2_with fail
  refine HH.out.mono ?_
  rintro e wX ⟨rfl, rfl⟩
  clear HH
  go_wp2_with fail
  go_loopw [3, 10] (fun rv iv wr => RoI cols w rv iv wr) (fun _ i _ => ht - (intOf i).toNat)
  case atStart => exact HI0.out
  case round =>
    obtain ⟨k, V, vn, vc, rs, rfl, rfl, hk, hrs, hon, lat⟩ := hrel
    have HRS := Lib.hid hrs
    have HON := Lib.hid hon
    have HLAT := Lib.hid lat
    clear HI0 hrs hon
    have hvn : vn ≤ 1000 := by
      have h1 := HON.out.1
      have h2 := congrArg List.length HRS.out
      rw [List.length_map, List.length_map, List.length_range] at h2
      have := HHT.out
      omega
    by_cases hlt : k < ht
    · obtain ⟨ws, hws⟩ : ∃ x, x = wr := ⟨_, rfl⟩
      subst hws
      have HJ0 := Lib.hid (RiI.mk (cols := cols) (i := k) (ws := ws) (wr := ws) 0 0 none 0 0 rfl (Nat.zero_le _) rfl (by rw [List.take_zero]; exact ownG_nil _ _ _ _) (fun _ => rfl) (Later.refl _))
      clear lat
      go_wp2_with fail
      go_loopw [5, 15] (fun rv jv wr => RiI cols k ws rv jv wr) (fun _ j _ => n - (intOf j).toNat)
      case atStart => exact HJ0.out
      case round =>
        obtain ⟨j, R, rn, rc, rfl, rfl, hj, hrn, hown, hnil, lat2⟩ := hrel
        have HOWN := Lib.hid hown
        have HLAT2 := Lib.hid lat2
        have HNIL := Lib.hid hnil
        have HRNJ := Lib.hid hrn
        have hrnb : rn ≤ 1000 := by have := HCL.out; omega
        clear hown hnil hrn
        by_cases hlj : j < n
        · have hjs : j < ss.length := by have := HN.out; omega
          obtain ⟨b, off, hA, ck, hhas, _, _, _⟩ := (HR.out.later (HLAT.out.trans lat2)).get j hjs
          subst hA
          have hle := HLEN.out j hjs
          obtain ⟨cb, coff, hCA, v0, v1, v2⟩ := hhas.val3 k (by omega)
          have hgd := HGET.out k j hjs
          rw [List.getD_eq_getElem?_getD, List.getElem?_eq_getElem (show k < ss[j].l.length by omega), Option.getD_some] at hgd
          have hjc : j < cols.length := by have := HCL.out; omega
          have HT := Lib.hid (show (rowAt cols k).take (j + 1) = (rowAt cols k).take j ++ [ss[j].l[k]] by
            rw [List.take_add_one, hgd]; rfl)
          generalize ss[j].l[k] = x at v0 v1 v2 HT
          obtain ⟨t, i, s⟩ := x
          dsimp only at v0 v1 v2
          rw [hCA] at ck
          have hkl : (k : Int) < (ss[j].l.length : Int) := by omega
          have hkl2 : k < ss[j].l.length := by omega
          generalize ss[j].c = cc at ck
          generalize ss[j].l.length = ln at ck hkl hkl2
          have HBK := Lib.hid (fun (wz : World) => Blk.new wz #[.int .i64 t, .int .i64 i, .string s] 26 wz.heap.size rfl)
          have HOA := Lib.hid (fun (o : Obj) => own_later HOWN.out (Later.new wr o))
          clear hgd hle hhas hCA HLEN
          have HSZ := Lib.hid (show ws.heap.size ≤ wr.heap.size from HLAT2.out.size)
          go_wp2_with (at_builtin; refine wpList_append_g _ rfl (.tmp 19) (.tmp 24) 56 rfl ws.heap.size 26 _ 3 32 Tryd.underlying56 info_v rfl (by decide) _ rn _ rfl (HOA.out _) _ 1 1 (fl [(t, i, s)]) rfl (HBK.out wr).has rfl (by intro h; cases h) (fl_one _) (by unfold maxLen; omega) (by omega) (by have := HSZ.out; simp; omega) ?_; rintro A' c' wq hO _ hbel hn2; have HO2 := Lib.hid hO; have HN2 := Lib.hid hn2; have HL2 := Lib.hid (Later.of ((HLAT2.out.alloc _).below.trans hbel)); clear hO hn2 hbel)
          go_roundw
          all_goals first
            | exact RiI.mk _ (j + 1) _ _ _ (by omega) (by omega) (by have := HRNJ.out; omega) (by rw [HT.out, fl_append]; exact HO2.out) HN2.out HL2.out
            | (simp [intOf]; omega)
        · have hjn : j = cols.length := by have := HCL.out; omega
          have HOK := Lib.hid (show (⟨R, rc, rowAt cols k⟩ : SlV).okX (Value.slice V vn vc).ownBlock wr by
            have ho := HOWN.out
            rw [List.take_of_length_le (by rw [rowAt_len]; omega)] at ho
            refine SlV.okX.own ho ?_ HNIL.out fun g hg => (HON.out.2.1.lt g hg).2
            have := HRNJ.out
            rw [rowAt_len]; omega)
          have HRL := Lib.hid (show (⟨R, rc, rowAt cols k⟩ : SlV).v = .slice R rn rc by
            rw [SlV.v_eq]
            have := HRNJ.out
            rw [rowAt_len]
            congr 1
            omega)
          have HON2 := Lib.hid (HON.out.later lat2)
          have HLW := Lib.hid (HLAT.out.trans lat2)
          have HBK := Lib.hid (fun (wz : World) => Blk.new wz #[.slice R rn rc] 56 wz.heap.size rfl)
          have HOA := Lib.hid (fun (o : Obj) => HON2.out.later (Later.new wr o))
          have HOKA := Lib.hid (fun (o : Obj) => HOK.out.later (Later.new wr o))
          have HSZ := Lib.hid (show w.heap.size ≤ wr.heap.size from HLW.out.size)
          clear hjn lat2
          go_wp2_with (at_builtin; refine wpList_append_x _ rfl (.tmp 27) (.tmp 29) 67 rfl w.heap.size 56 _ 1 24 Tryd.underlying67 info_row rfl (by decide) _ vn _ rfl (HOA.out _).2.1 _ 0 1 1 [.slice R rn rc] rfl (HBK.out wr).has rfl (by intro u hu; rw [List.mem_singleton] at hu; subst hu; rfl) (by unfold maxLen; omega) (by omega) (by have := HSZ.out; simp; omega) ?_; rintro A' c' wq hO hgr hbel hat hn2; have HO2 := Lib.hid (RowsOn.more (s := ⟨R, rc, rowAt cols k⟩) (HOA.out _) (HOKA.out _) (by rw [HRL.out]; exact hO) hgr hat hn2); have HL2 := Lib.hid (Later.of ((HLW.out.alloc _).below.trans hbel)); clear hO hn2 hbel hgr hat)
          go_roundw
          all_goals first
            | exact RoI.mk _ (k + 1) _ _ _ _ (by omega) (by have := HHT.out; omega) (by rw [List.map_append, HRS.out, List.range_succ, List.map_append]; rfl) HO2.out HL2.out
            | (simp [intOf]; omega)
    · have HF := Lib.hid (show rs.map (·.l) = rowsC cols by
        rw [HRS.out]; unfold rowsC
        rw [show k = heightC cols by have := HHT.out; omega])
      go_wp2_with fail
      go_ret
      have hat := HON.out.at_
      exact ⟨V, vc, rs, by rw [HON.out.1]; rfl, HF.out, hat.1, by rw [← HON.out.1]; exact hat.2.1, hat.2.2, HON.out.2.2.2, HLAT.out⟩
end Go.Proofs.YtkdpjocglfephaaDoor

/- The walk of agg.Agg.of. -/


namespace Go.Proofs.YtkdpjocglfephaaDoor
open Go.RowKit
set_option linter.unusedVariables false

abbrev z3 : Val3 := (0, 0, ⟨#[]⟩)
/-- Places as cells. -/
def pin (l : List Nat) : List Value := l.map fun (x : Nat) => Value.int .i64 (x : Int)
theorem pin_len (l : List Nat) : (pin l).length = l.length := by simp [pin]
theorem pin_append (a b : List Nat) : pin (a ++ b) = pin a ++ pin b := List.map_append
theorem Has.pin {w : World} {A : Option Addr} {l : List Nat} (h : Has w A (pin l)) (k : Nat) (hk : k < l.length) : ∃ b off, A = some ⟨b, off, none⟩ ∧ w.cell? ⟨b, off + k, none⟩ = some (.int .i64 (l[k] : Nat)) := by
  obtain ⟨b, off, hA, _, hc⟩ := h.at_ (k := k) (by rw [pin_len]; exact hk)
  refine ⟨b, off, hA, ?_⟩
  rw [hc]; simp [Go.Proofs.YtkdpjocglfephaaDoor.pin]
/-- What a column has at these places, that is not nothing. -/
def pickN (col : List Val3) (ps : List Nat) : List Val3 := (ps.map fun p => col.getD p z3).filter fun x => decide (x.1 ≠ 0)
theorem pickN_len (col : List Val3) (ps : List Nat) : (pickN col ps).length ≤ ps.length := Nat.le_trans (List.length_filter_le _ _) (by simp)
theorem pickN_step (col : List Val3) (ps : List Nat) (k : Nat) (h : k < ps.length) (x : Val3) (hx : col.getD ps[k] z3 = x) : pickN col (ps.take (k + 1)) = pickN col (ps.take k) ++ (if x.1 = 0 then [] else [x]) := by
  unfold pickN
  rw [List.take_succ_eq_append_getElem h, List.map_append, List.filter_append, List.map_singleton, hx]
  by_cases e : x.1 = 0
  · rw [if_pos e, List.filter_cons_of_neg (by simp [e]), List.filter_nil]
  · rw [if_neg e, List.filter_cons_of_pos (by simp [e]), List.filter_nil]
/-- An aggregate of these places of a table. -/
def ofA (cols : List (List Val3)) (ps : List Nat) (op at_ : Int) : Except Int Val3 :=
  if at_ < 0 then .ok (2, ps.length, ⟨#[]⟩) else ofV (pickN (cols.getD at_.toNat []) ps) op
/-- Where the loop stands. -/
def OfI (W2 : World) (col : List Val3) (ps : List Nat) (rv iv : Value) (wr : World) : Prop :=
  ∃ (k : Nat) (R : Option Addr) (rn rc : Nat), rv = .slice R rn rc ∧ iv = .int .i64 k ∧ k ≤ ps.length ∧ rn = (pickN col (ps.take k)).length ∧ wr.ownsRow W2.heap.size 26 3 (.slice R rn rc) rn (fl (pickN col (ps.take k))) ∧ (R = none → rc = 0) ∧ Later W2 wr
theorem OfI.mk {W2 wr : World} {col : List Val3} {ps : List Nat} (y : Int) (k : Nat) (R : Option Addr) (rn rc : Nat) (hy : y = (k : Int)) (hk : k ≤ ps.length) (hrn : rn = (pickN col (ps.take k)).length) (ho : wr.ownsRow W2.heap.size 26 3 (.slice R rn rc) rn (fl (pickN col (ps.take k)))) (hnil : R = none → rc = 0) (L : Later W2 wr) : OfI W2 col ps (.slice R rn rc) (.int .i64 y) wr := by
  subst hy; exact ⟨k, R, rn, rc, rfl, rfl, hk, hrn, ho, hnil, L⟩
theorem own_len {w : World} {base n c : Nat} {A : Option Addr} {l : List Val3} (h : w.ownsRow base 26 3 (.slice A n c) n (fl l)) : n = l.length := by
  have := h.1
  rw [fl_length] at this; omega

set_option maxRecDepth 100000 in
set_option maxHeartbeats 4000000 in
theorem of_any (A Ap : Option Addr) (n c pn pc : Nat) (zs : List SlV) (ps : List Nat) (op at_ : Int) (a0 a1 a2 : Addr) (w : World) (hS : S24 w a0 a1 a2) (hn : n = zs.length) (hl : n ≤ 1000) (hr : RowsAt w A zs)
    (hpn : pn = ps.length) (hpl : ps.length ≤ 100000) (hp : Has w Ap (pin ps)) (hpz : ∀ p ∈ ps, ∀ s ∈ zs, p < s.l.length) (h64 : ∀ s ∈ zs, ∀ x ∈ s.l, -9223372036854775808 ≤ x.2.1 ∧ x.2.1 ≤ 9223372036854775807) (hop : 1 ≤ op ∧ op ≤ 4) (hat : at_ < (zs.length : Int)) :
    Calls Tryd.prog 58 #[.agg #[.int .i64 op, .int .i64 at_], .slice A n c, .slice Ap pn pc] w (OfP (ofA (colsOf zs) ps op at_) a0 a1 a2 w) := by
  subst hpn
  subst hn
  obtain ⟨g0, hg0⟩ : ∃ g, w.heap.size = g := ⟨_, rfl⟩
  obtain ⟨W2, hW2⟩ : ∃ x, (w.alloc (.cells #[.int .i64 op, .int .i64 at_] 65)).alloc (.cells #[.int .i64 0, .int .i64 0, .string ⟨#[]⟩] 26) = x := ⟨_, rfl⟩
  have L2 : Later w W2 := hW2 ▸ (Later.new w _).alloc _
  have B0 : Blk W2 g0 #[.int .i64 op, .int .i64 at_] 65 := hW2 ▸ (Blk.new w _ _ _ hg0.symm).later (Later.new _ _)
  have B1 : Blk W2 (g0 + 1) #[.int .i64 0, .int .i64 0, .string ⟨#[]⟩] 26 := hW2 ▸ Blk.new _ _ _ _ (by simp [hg0])
  have HSZ := Lib.hid (show w.heap.size ≤ g0 + 1 from by omega)
  have HB0 := Lib.hid B0
  have HB1 := Lib.hid B1
  have HL2 := Lib.hid L2
  have HSS := Lib.hid (hS.later L2)
  have HRR := Lib.hid (hr.later L2)
  have HPP := Lib.hid (hp.later L2)
  have HPZ := Lib.hid hpz
  have H64 := Lib.hid h64
  by_cases hneg : at_ < 0
  · have hd : decide (at_ < 0) = true := by simpa using hneg
    have HE := Lib.hid (show ofA (colsOf zs) ps op at_ = .ok (2, ps.length, ⟨#[]⟩) from if_pos hneg)
    clear hS hr hp hpz h64 L2
    have b1 := B0.cell 1 _ rfl
    clear B0 B1
    have HN := Lib.hid (number_any (ps.length : Int) W2)
    go_enter Tryd.func58, Tryd.ntmps58
    go_wp2_with fail
    refine HN.out.mono ?_
    rintro e w3 ⟨rfl, l3⟩
    have BR := HB1.out.later l3
    have r0 := BR.cell 0 _ rfl
    have r1 := BR.cell 1 _ rfl
    have r2 := BR.cell 2 _ rfl
    have f0 := BR.frozen 0
    have f1 := BR.frozen 1
    have f2 := BR.frozen 2
    have HBq := Lib.hid (three_blk BR rfl (.int .i64 2) (.int .i64 ps.length) (.string ⟨#[]⟩))
    have HLq := Lib.hid (three_later (HL2.out.trans l3) HSZ.out (.int .i64 2) (.int .i64 ps.length) (.string ⟨#[]⟩))
    obtain ⟨wq, hwq⟩ : ∃ x, (((w3.setCell ⟨g0 + 1, 0, none⟩ (.int .i64 2)).setCell ⟨g0 + 1, 1, none⟩ (.int .i64 ps.length)).setCell ⟨g0 + 1, 2, none⟩ (.string ⟨#[]⟩)) = x := ⟨_, rfl⟩
    rw [hwq] at HBq HLq
    clear BR l3 HN
    go_wp2_with fail
    have q0 := HBq.out.cell 0 _ rfl
    have q1 := HBq.out.cell 1 _ rfl
    have q2 := HBq.out.cell 2 _ rfl
    exact bodyPost_ret (v := .tuple #[.agg #[.int .i64 2, .int .i64 ps.length, .string ⟨#[]⟩], .nilIface]) (by simp [results, Tryd.results58, go_sem, q0, q1, q2]) rfl (OfP.good 2 _ ⟨#[]⟩ HE.out HLq.out)
  · obtain ⟨ai, rfl⟩ : ∃ k : Nat, at_ = (k : Int) := ⟨at_.toNat, by omega⟩
    have hai : ai < zs.length := by omega
    have hd : decide ((ai : Int) < 0) = false := by simp
    have HE := Lib.hid (show ofA (colsOf zs) ps op ai = ofV (pickN zs[ai].l ps) op from by
      unfold ofA
      rw [if_neg hneg]
      congr 2
      unfold colsOf
      rw [Int.toNat_natCast, List.getD_eq_getElem?_getD, List.getElem?_map, List.getElem?_eq_getElem hai]; rfl)
    have HI0 := Lib.hid (OfI.mk (W2 := W2) (wr := W2) (col := zs[ai].l) (ps := ps) 0 0 none 0 0 rfl (Nat.zero_le _) rfl (by rw [List.take_zero]; exact ownG_nil _ _ _ _) (fun _ => rfl) (Later.refl _))
    have HP64 := Lib.hid (show ∀ x ∈ pickN zs[ai].l ps, -9223372036854775808 ≤ x.2.1 ∧ x.2.1 ≤ 9223372036854775807 from fun x hx => by
      unfold pickN at hx
      obtain ⟨p, hp1, rfl⟩ := List.mem_map.1 (List.mem_filter.1 hx).1
      have hlt := hpz p hp1 _ (List.getElem_mem hai)
      rw [List.getD_eq_getElem?_getD, List.getElem?_eq_getElem hlt]
      exact h64 _ (List.getElem_mem hai) _ (List.getElem_mem hlt))
    have HPL := Lib.hid (show ∀ k (h : k < ps.length), ps[k] < zs[ai].l.length from fun k h => hpz _ (List.getElem_mem h) _ (List.getElem_mem hai))
    obtain ⟨b, off, hA, ck, hcol, _, _, _⟩ := HRR.out.get ai hai
    subst hA
    generalize hcl : zs[ai].l = col at ck hcol HE HI0 HP64 HPL
    generalize zs[ai].a = cA at ck hcol
    generalize zs[ai].c = cc at ck
    have HCK := Lib.hid ck
    have HCOL := Lib.hid hcol
    have b1 := B0.cell 1 _ rfl
    have hna : (ai : Int) < (zs.length : Int) := by omega
    clear hS hr hp hpz h64 L2 B0 B1 hneg ck hcol
    go_enter Tryd.func58, Tryd.ntmps58
    go_wp2_with fail
    go_loopw [8, 21] (fun rv iv wr => OfI W2 col ps rv iv wr) (fun _ i _ => ps.length - (intOf i).toNat)
    case atStart => exact HI0.out
    case round =>
      obtain ⟨k, R, rn, rc, rfl, rfl, hk, hrn, hown, hnil, lat⟩ := hrel
      have HOWN := Lib.hid hown
      have HNIL := Lib.hid hnil
      have HRN := Lib.hid hrn
      have HLAT := Lib.hid lat
      have hrb : rn ≤ 100000 := by
        have := pickN_len col (ps.take k)
        rw [List.length_take] at this
        omega
      clear HI0 hown hnil hrn b1
      have b1 := (HB0.out.later lat).cell 1 _ rfl
      by_cases hlt : k < ps.length
      · obtain ⟨pb, po, hpA, cp⟩ := (HPP.out.later lat).pin k hlt
        subst hpA
        have hpl2 := HPL.out k hlt
        have ck := lat.cell HCK.out
        obtain ⟨cb, co, hcA, c0, c1, c2⟩ := (HCOL.out.later lat).val3 ps[k] hpl2
        subst hcA
        have HST := Lib.hid (pickN_step col ps k hlt (col[ps[k]].1, col[ps[k]].2.1, col[ps[k]].2.2) (by rw [List.getD_eq_getElem?_getD, List.getElem?_eq_getElem hpl2]; rfl))
        generalize col[ps[k]].1 = t at c0 HST
        generalize col[ps[k]].2.1 = i at c1 HST
        generalize col[ps[k]].2.2 = s at c2 HST
        generalize ps[k] = p at cp c0 c1 c2 hpl2
        have hpz2 : (p : Int) < (col.length : Int) := by omega
        obtain ⟨gv, hgv⟩ : ∃ g, wr.heap.size = g := ⟨_, rfl⟩
        obtain ⟨w1, hw1⟩ : ∃ x, wr.alloc (.cells #[.int .i64 t, .int .i64 i, .string s] 26) = x := ⟨_, rfl⟩
        have BV := Blk.new wr #[.int .i64 t, .int .i64 i, .string s] 26 gv hgv.symm
        have HOA := Lib.hid (own_later HOWN.out (Later.new wr (.cells #[.int .i64 t, .int .i64 i, .string s] 26)))
        have HLW := Lib.hid (HLAT.out.alloc (.cells #[.int .i64 t, .int .i64 i, .string s] 26))
        rw [hw1] at BV HOA HLW
        have v0 := BV.cell 0 _ rfl
        have v1 := BV.cell 1 _ rfl
        have v2 := BV.cell 2 _ rfl
        clear BV lat HLAT HOWN
        by_cases ht : t = 0
        · have htt : (t != 0) = false := by simpa using ht
          rw [if_pos ht, List.append_nil] at HST
          clear ht
          go_wp2_with fail
          go_roundw
          case rel => exact OfI.mk _ (k + 1) R rn rc (by omega) hlt (by rw [HST.out]; exact HRN.out) (by rw [HST.out]; exact HOA.out) HNIL.out HLW.out
          case measure => simp [intOf]; omega
        · have htt : (t != 0) = true := by simpa using ht
          rw [if_neg ht] at HST
          clear ht
          have HBK := Lib.hid (fun (wz : World) => Blk.new wz #[.int .i64 t, .int .i64 i, .string s] 26 wz.heap.size rfl)
          have HOB := Lib.hid (fun (o : Obj) => own_later HOA.out (Later.new w1 o))
          have hs1 := HLW.out.size
          go_wp2_with (at_builtin; refine wpList_append_g _ rfl (.tmp 36) (.tmp 38) 52 rfl W2.heap.size 26 _ 3 32 Tryd.underlying52 info_v rfl (by decide) _ rn _ rfl (HOB.out _) _ 1 1 (fl [(t, i, s)]) rfl (HBK.out w1).has rfl (by intro h; cases h) (fl_one _) (by unfold maxLen; omega) (by omega) (by simp; omega) ?_; rintro A' c' wq hO _ hbel hn2; have HO2 := Lib.hid hO; have HN2 := Lib.hid hn2; have HL3 := Lib.hid (Later.of ((HLW.out.alloc _).below.trans hbel)); clear hO hn2 hbel)
          go_roundw
          case rel =>
            refine OfI.mk _ (k + 1) _ _ _ ?_ hlt ?_ ?_ HN2.out HL3.out
            · omega
            · rw [HST.out, List.length_append, ← HRN.out]; try rfl
            · rw [HST.out, fl_append]; exact HO2.out
          case measure => simp [intOf]; omega
      · have hkl : k = ps.length := by omega
        have HPK := Lib.hid (show pickN col (ps.take k) = pickN col ps from by rw [hkl, List.take_length])
        rw [HPK.out] at HOWN HRN
        have HFL := Lib.hid (Has.ownG HOWN.out)
        have HQL := Lib.hid (show (pickN col ps).length ≤ 100000 from Nat.le_trans (pickN_len _ _) hpl)
        clear hkl HOWN HPK
        generalize pickN col ps = Q at HRN HFL HQL HE HP64
        have b0 := (HB0.out.later lat).cell 0 _ rfl
        have BR := HB1.out.later lat
        have r0 := BR.cell 0 _ rfl
        have r1 := BR.cell 1 _ rfl
        have r2 := BR.cell 2 _ rfl
        have f0 := BR.frozen 0
        have f1 := BR.frozen 1
        have f2 := BR.frozen 2
        obtain ⟨g1, hg1⟩ : ∃ g, g0 + 1 = g := ⟨_, rfl⟩
        have hgz : w.heap.size ≤ g1 := by have := HSZ.out; omega
        have HLW := Lib.hid (HL2.out.trans lat)
        have HBR := Lib.hid BR
        rw [hg1] at HBR r0 r1 r2 f0 f1 f2 ⊢
        clear HB1 BR
        have hcase : op = 1 ∨ op = 2 ∨ op = 4 ∨ op = 3 := by omega
        rcases hcase with rfl | rfl | rfl | rfl
        · have HN := Lib.hid (number_any (rn : Int) wr)
          clear r0 r1 r2 f0 f1 f2
          go_wp2_with fail
          refine HN.out.mono ?_
          rintro e w3 ⟨rfl, l3⟩
          have BR3 := HBR.out.later l3
          have r0 := BR3.cell 0 _ rfl
          have r1 := BR3.cell 1 _ rfl
          have r2 := BR3.cell 2 _ rfl
          have f0 := BR3.frozen 0
          have f1 := BR3.frozen 1
          have f2 := BR3.frozen 2
          have HBq := Lib.hid (three_blk BR3 rfl (.int .i64 2) (.int .i64 rn) (.string ⟨#[]⟩))
          have HLq := Lib.hid (three_later (HLW.out.trans l3) hgz (.int .i64 2) (.int .i64 rn) (.string ⟨#[]⟩))
          obtain ⟨wq, hwq⟩ : ∃ x, (((w3.setCell ⟨g1, 0, none⟩ (.int .i64 2)).setCell ⟨g1, 1, none⟩ (.int .i64 rn)).setCell ⟨g1, 2, none⟩ (.string ⟨#[]⟩)) = x := ⟨_, rfl⟩
          rw [hwq] at HBq HLq
          clear BR3 l3
          go_wp2_with fail
          have q0 := HBq.out.cell 0 _ rfl
          have q1 := HBq.out.cell 1 _ rfl
          have q2 := HBq.out.cell 2 _ rfl
          exact bodyPost_ret (v := .tuple #[.agg #[.int .i64 2, .int .i64 rn, .string ⟨#[]⟩], .nilIface]) (by simp [results, Tryd.results58, go_sem, q0, q1, q2]) rfl (OfP.good 2 rn ⟨#[]⟩ (by rw [HE.out]; unfold ofV; rw [if_pos rfl, HRN.out]) HLq.out)
        · have HN := Lib.hid (sum_any R rn rc Q a0 a1 a2 wr (HSS.out.later lat) HRN.out HQL.out HFL.out HP64.out)
          clear r0 r1 r2 f0 f1 f2
          go_wp2_with fail
          refine HN.out.mono ?_
          have hse : ofV Q 2 = sumV Q := rfl
          rintro e w3 (⟨⟨x1, x2, x3⟩, ho, rfl, l3⟩ | ⟨nn, v, ho, hnn, rfl, hv, l3⟩)
          · dsimp only
            have BR3 := HBR.out.later l3
            have r0 := BR3.cell 0 _ rfl
            have r1 := BR3.cell 1 _ rfl
            have r2 := BR3.cell 2 _ rfl
            have f0 := BR3.frozen 0
            have f1 := BR3.frozen 1
            have f2 := BR3.frozen 2
            have HBq := Lib.hid (three_blk BR3 rfl (.int .i64 x1) (.int .i64 x2) (.string x3))
            have HLq := Lib.hid (three_later (HLW.out.trans l3) hgz (.int .i64 x1) (.int .i64 x2) (.string x3))
            obtain ⟨wq, hwq⟩ : ∃ x, (((w3.setCell ⟨g1, 0, none⟩ (.int .i64 x1)).setCell ⟨g1, 1, none⟩ (.int .i64 x2)).setCell ⟨g1, 2, none⟩ (.string x3)) = x := ⟨_, rfl⟩
            rw [hwq] at HBq HLq
            clear BR3 l3
            go_wp2_with fail
            have q0 := HBq.out.cell 0 _ rfl
            have q1 := HBq.out.cell 1 _ rfl
            have q2 := HBq.out.cell 2 _ rfl
            exact bodyPost_ret (v := .tuple #[.agg #[.int .i64 x1, .int .i64 x2, .string x3], .nilIface]) (by simp [results, Tryd.results58, go_sem, q0, q1, q2]) rfl (OfP.good x1 x2 x3 (by rw [HE.out, hse, ho]) HLq.out)
          · have hgw : g1 < wr.heap.size := HBR.out.lt
            have hv2 := (((hv.set_ (o := 0) hgw (.int .i64 0)).set_ (o := 1) hgw (.int .i64 0)).set_ (o := 2) hgw (.string ⟨#[]⟩)).mono (B' := w.heap.size) HLW.out.size
            have HV := Lib.hid hv2
            have BR3 := HBR.out.later l3
            have r0 := BR3.cell 0 _ rfl
            have r1 := BR3.cell 1 _ rfl
            have r2 := BR3.cell 2 _ rfl
            have f0 := BR3.frozen 0
            have f1 := BR3.frozen 1
            have f2 := BR3.frozen 2
            have HBq := Lib.hid (three_blk BR3 rfl (.int .i64 0) (.int .i64 0) (.string ⟨#[]⟩))
            have HLq := Lib.hid (three_later (HLW.out.trans l3) hgz (.int .i64 0) (.int .i64 0) (.string ⟨#[]⟩))
            obtain ⟨wq, hwq⟩ : ∃ x, (((w3.setCell ⟨g1, 0, none⟩ (.int .i64 0)).setCell ⟨g1, 1, none⟩ (.int .i64 0)).setCell ⟨g1, 2, none⟩ (.string ⟨#[]⟩)) = x := ⟨_, rfl⟩
            rw [hwq] at HBq HLq HV
            clear BR3 l3 hv hv2 hgw
            go_wp2_with fail
            have q0 := HBq.out.cell 0 _ rfl
            have q1 := HBq.out.cell 1 _ rfl
            have q2 := HBq.out.cell 2 _ rfl
            exact bodyPost_ret (v := .tuple #[.agg #[.int .i64 0, .int .i64 0, .string ⟨#[]⟩], v]) (by simp [results, Tryd.results58, go_sem, q0, q1, q2]) rfl (OfP.bad nn (by rw [HE.out, hse, ho]) hnn HV.out HLq.out)
        · have HN := Lib.hid (least_any R rn rc Q (-1) wr HRN.out HQL.out HFL.out (.inr rfl))
          have hse : ofV Q 4 = .ok (leastV (-1) Q) := rfl
          obtain ⟨⟨x1, x2, x3⟩, hx⟩ : ∃ x, leastV (-1) Q = x := ⟨_, rfl⟩
          rw [hx] at hse HN
          clear r0 r1 r2 f0 f1 f2
          go_wp2_with fail
          refine HN.out.mono ?_
          rintro e w3 ⟨rfl, l3⟩
          have BR3 := HBR.out.later l3
          have r0 := BR3.cell 0 _ rfl
          have r1 := BR3.cell 1 _ rfl
          have r2 := BR3.cell 2 _ rfl
          have f0 := BR3.frozen 0
          have f1 := BR3.frozen 1
          have f2 := BR3.frozen 2
          have HBq := Lib.hid (three_blk BR3 rfl (.int .i64 x1) (.int .i64 x2) (.string x3))
          have HLq := Lib.hid (three_later (HLW.out.trans l3) hgz (.int .i64 x1) (.int .i64 x2) (.string x3))
          obtain ⟨wq, hwq⟩ : ∃ x, (((w3.setCell ⟨g1, 0, none⟩ (.int .i64 x1)).setCell ⟨g1, 1, none⟩ (.int .i64 x2)).setCell ⟨g1, 2, none⟩ (.string x3)) = x := ⟨_, rfl⟩
          rw [hwq] at HBq HLq
          clear BR3 l3
          go_wp2_with fail
          have q0 := HBq.out.cell 0 _ rfl
          have q1 := HBq.out.cell 1 _ rfl
          have q2 := HBq.out.cell 2 _ rfl
          exact bodyPost_ret (v := .tuple #[.agg #[.int .i64 x1, .int .i64 x2, .string x3], .nilIface]) (by simp [results, Tryd.results58, go_sem, q0, q1, q2]) rfl (OfP.good x1 x2 x3 (by rw [HE.out, hse]) HLq.out)
        · have HN := Lib.hid (least_any R rn rc Q 1 wr HRN.out HQL.out HFL.out (.inl rfl))
          have hse : ofV Q 3 = .ok (leastV 1 Q) := rfl
          obtain ⟨⟨x1, x2, x3⟩, hx⟩ : ∃ x, leastV 1 Q = x := ⟨_, rfl⟩
          rw [hx] at hse HN
          clear r0 r1 r2 f0 f1 f2
          go_wp2_with fail
          refine HN.out.mono ?_
          rintro e w3 ⟨rfl, l3⟩
          have BR3 := HBR.out.later l3
          have r0 := BR3.cell 0 _ rfl
          have r1 := BR3.cell 1 _ rfl
          have r2 := BR3.cell 2 _ rfl
          have f0 := BR3.frozen 0
          have f1 := BR3.frozen 1
          have f2 := BR3.frozen 2
          have HBq := Lib.hid (three_blk BR3 rfl (.int .i64 x1) (.int .i64 x2) (.string x3))
          have HLq := Lib.hid (three_later (HLW.out.trans l3) hgz (.int .i64 x1) (.int .i64 x2) (.string x3))
          obtain ⟨wq, hwq⟩ : ∃ x, (((w3.setCell ⟨g1, 0, none⟩ (.int .i64 x1)).setCell ⟨g1, 1, none⟩ (.int .i64 x2)).setCell ⟨g1, 2, none⟩ (.string x3)) = x := ⟨_, rfl⟩
          rw [hwq] at HBq HLq
          clear BR3 l3
          go_wp2_with fail
          have q0 := HBq.out.cell 0 _ rfl
          have q1 := HBq.out.cell 1 _ rfl
          have q2 := HBq.out.cell 2 _ rfl
          exact bodyPost_ret (v := .tuple #[.agg #[.int .i64 x1, .int .i64 x2, .string x3], .nilIface]) (by simp [results, Tryd.results58, go_sem, q0, q1, q2]) rfl (OfP.good x1 x2 x3 (by rw [HE.out, hse]) HLq.out)
end Go.Proofs.YtkdpjocglfephaaDoor
