/- The walk of agg.sum. -/
import Derived.Test.YtiacemlloaenoaaDoorAggA
namespace Go.Proofs.YtiacemlloaenoaaDoor
open Go.RowKit
set_option linter.unusedVariables false

theorem u64_step (i : Int) (hi : -9223372036854775808 ≤ i ∧ i ≤ 9223372036854775807) : ∃ u s : Nat, IntKind.u64.wrap i = (u : Int) ∧ IntKind.u64.wrap (i / 9223372036854775808) = (s : Int) ∧ u < 18446744073709551616 ∧ s < 18446744073709551616 ∧
    ∀ (T : Int) (h l : Nat), Sum128 T h l → Sum128 (T + i) ((h + (s + (l + u) / 18446744073709551616) % 18446744073709551616) % 18446744073709551616) ((l + u) % 18446744073709551616) := by
  by_cases h0 : i < 0
  · have e : i / 9223372036854775808 = -1 := by omega
    have e2 : IntKind.u64.wrap i = i + 18446744073709551616 := by rw [IntKind.wrap_u64]; omega
    refine ⟨(i + 18446744073709551616).toNat, 18446744073709551615, by rw [e2]; omega, by rw [e]; decide, by omega, by omega, fun T h l hs => sum128_neg hs i h0 hi.1 _ (by omega)⟩
  · have e : i / 9223372036854775808 = 0 := by omega
    have e2 : IntKind.u64.wrap i = i := by rw [IntKind.wrap_u64]; omega
    refine ⟨i.toNat, 0, by rw [e2]; omega, by rw [e]; decide, by omega, by omega, fun T h l hs => sum128_pos hs i (by omega) hi.2 _ (by omega)⟩
theorem u64_add (a b : Nat) : IntKind.u64.wrap ((a : Int) + (b : Int)) = (((a + b) % 18446744073709551616 : Nat) : Int) := by rw [IntKind.wrap_u64]; omega
theorem add64_run (x y : Nat) (w : World) : (callFunc 36 #[.int .u64 x, .int .u64 y, .int .u64 0]).run Tryd.prog w = .ok (.value (.tuple #[.int .u64 (((x + y) % 18446744073709551616 : Nat) : Int), .int .u64 (((x + y) / 18446744073709551616 : Nat) : Int)])) w := by
  rw [run_callFunc_extern Tryd.func36 (by kernel_rfl) (by kernel_rfl) (by kernel_rfl) (e := add64Entry) (by kernel_rfl), run_add64 x y 0 (by omega) (by omega) (by omega) (by omega)]
  simp only [Result.andThen]
  congr 5 <;> omega
theorem u64_end {T : Int} {h l : Nat} (hs : Sum128 T h l) (hT : -922337203685477580800000 ≤ T ∧ T ≤ 922337203685477580800000) : ∃ (l2 : Int) (s : Nat), IntKind.i64.wrap (l : Int) = l2 ∧ IntKind.u64.wrap (l2 / 9223372036854775808) = (s : Int) ∧ (h = s ↔ (-9223372036854775808 ≤ T ∧ T ≤ 9223372036854775807)) ∧ (h = s → l2 = T) := by
  by_cases h0 : l < 9223372036854775808
  · have e : (l : Int) / 9223372036854775808 = 0 := by omega
    have h1 := sum128_low hs hT h0
    exact ⟨l, 0, IntWalk.i64_in _ ⟨by omega, by omega⟩, by rw [e]; decide, h1.1, h1.2⟩
  · have hlt := hs.2.1
    have e : ((l : Int) - 18446744073709551616) / 9223372036854775808 = -1 := by omega
    have h1 := sum128_high hs hT (by omega)
    refine ⟨(l : Int) - 18446744073709551616, 18446744073709551615, ?_, by rw [e]; decide, h1.1, h1.2⟩
    rw [IntKind.wrap_i64]; omega
/-- Which sentinel. -/
def sentA (n : Int) (a0 a1 a2 : Addr) : Addr := if n = 4 then a1 else if n = 5 then a2 else a0
/-- What an aggregate gives. -/
def OfP (o : Except Int Val3) (a0 a1 a2 : Addr) (w : World) (e : Ending) (w' : World) : Prop :=
  (∃ x, o = .ok x ∧ e = .returned (.tuple #[vagg x.1 x.2.1 x.2.2, .nilIface]) ∧ Later w w') ∨ (∃ n v, o = .error n ∧ (n = 4 ∨ n = 5) ∧ e = .returned (.tuple #[vagg 0 0 ⟨#[]⟩, v]) ∧ ErrD w.heap.size 1 w' v (sentA n a0 a1 a2) ∧ Later w w')
/-- Where the sum stands. -/
def SuI (l : List Val3) (w : World) (hv lv cv iv : Value) (wr : World) : Prop :=
  ∃ k hi lo cc : Nat, hv = .int .u64 hi ∧ lv = .int .u64 lo ∧ cv = .int .u64 cc ∧ iv = .int .i64 k ∧ k ≤ l.length ∧ (∀ x ∈ l.take k, Num3 x) ∧ Sum128 (sumI (l.take k)) hi lo ∧ Blk wr w.heap.size #[.int .i64 0, .int .i64 0, .string ⟨#[]⟩] 40 ∧ Later w wr
theorem SuI.mk {l : List Val3} {w wr : World} (y : Int) (k hi lo cc : Nat) (hy : y = (k : Int)) (hk : k ≤ l.length) (hn : ∀ x ∈ l.take k, Num3 x) (hs : Sum128 (sumI (l.take k)) hi lo) (R : Blk wr w.heap.size #[.int .i64 0, .int .i64 0, .string ⟨#[]⟩] 40) (L : Later w wr) : SuI l w (.int .u64 hi) (.int .u64 lo) (.int .u64 cc) (.int .i64 y) wr := by
  subst hy; exact ⟨k, hi, lo, cc, rfl, rfl, rfl, rfl, hk, hn, hs, R, L⟩
theorem OfP.bad {o : Except Int Val3} {a0 a1 a2 : Addr} {w w' : World} {v : Value} (n : Int) (ho : o = .error n) (hn : n = 4 ∨ n = 5) (hv : ErrD w.heap.size 1 w' v (sentA n a0 a1 a2)) (L : Later w w') : OfP o a0 a1 a2 w (.returned (.tuple #[.agg #[.int .i64 0, .int .i64 0, .string ⟨#[]⟩], v])) w' := .inr ⟨n, v, ho, hn, rfl, hv, L⟩
theorem OfP.good {o : Except Int Val3} {a0 a1 a2 : Addr} {w w' : World} (t i : Int) (s : ByteArray) (ho : o = .ok (t, i, s)) (L : Later w w') : OfP o a0 a1 a2 w (.returned (.tuple #[.agg #[.int .i64 t, .int .i64 i, .string s], .nilIface])) w' := .inl ⟨(t, i, s), ho, rfl, L⟩

set_option maxRecDepth 100000 in
set_option maxHeartbeats 4000000 in
theorem sum_any (A : Option Addr) (n c : Nat) (l : List Val3) (a0 a1 a2 : Addr) (w : World) (hS : S24 w a0 a1 a2) (hn : n = l.length) (hl : l.length ≤ 100000) (hr : Has w A (fl l)) (h64 : ∀ x ∈ l, -9223372036854775808 ≤ x.2.1 ∧ x.2.1 ≤ 9223372036854775807) :
    Calls Tryd.prog 27 #[.slice A n c] w (OfP (sumV l) a0 a1 a2 w) := by
  subst hn
  have HS := Lib.hid hS
  have R0 := Blk.new w #[.int .i64 0, .int .i64 0, .string ⟨#[]⟩] 40 w.heap.size rfl
  have L0 := Later.new w (.cells #[.int .i64 0, .int .i64 0, .string ⟨#[]⟩] 40)
  have H64 := Lib.hid h64
  by_cases h0 : l.length = 0
  · have HE := Lib.hid (show sumV l = .ok (0, 0, ⟨#[]⟩) from if_pos (List.eq_nil_of_length_eq_zero h0))
    have he : ((l.length : Int) == 0) = true := by simpa using h0
    have HLL := Lib.hid (fun (o : Obj) => Later.new w o)
    clear h0 hr h64 R0 L0
    go_enter Tryd.func27, Tryd.ntmps27
    go_wp2_with fail
    rw [HE.out]
    exact bodyPost_ret (v := .tuple #[.agg #[.int .i64 0, .int .i64 0, .string ⟨#[]⟩], .nilIface]) (by simp [results, Tryd.results27, go_sem]) rfl (OfP.good 0 0 ⟨#[]⟩ rfl (HLL.out _))
  · have he : ((l.length : Int) == 0) = false := by simp; exact fun e => h0 (by rw [e]; rfl)
    have HNE := Lib.hid (show l ≠ [] from fun e => h0 (by rw [e]; rfl))
    have HR := Lib.hid hr
    have HI0 := Lib.hid (SuI.mk (l := l) (w := w) 0 0 0 0 0 rfl (Nat.zero_le _) (by intro x hx; simp at hx) (by rw [List.take_zero]; exact sum128_zero) R0 L0)
    clear hr h64 R0 L0 h0
    go_enter Tryd.func27, Tryd.ntmps27
    go_wp2_with fail
    go_loopw [4, 5, 6, 15] (fun hv lv cv iv wr => SuI l w hv lv cv iv wr) (fun _ _ _ i _ => l.length - (intOf i).toNat)
    case atStart => exact HI0.out
    case round =>
      obtain ⟨k, hi, lo, cc, rfl, rfl, rfl, rfl, hk, hnum, hsum, BR, lat⟩ := hrel
      have HNUM := Lib.hid hnum
      have HSUM := Lib.hid hsum
      have HLAT := Lib.hid lat
      have HBR := Lib.hid BR
      clear HI0 hnum hsum BR
      obtain ⟨gr, hgr⟩ : ∃ g, g = w.heap.size := ⟨_, rfl⟩
      have HGR := Lib.hid hgr
      rw [← hgr] at HBR ⊢
      have hgr2 : w.heap.size ≤ gr := by omega
      clear hgr
      by_cases hlt : k < l.length
      · obtain ⟨bb, off, hadr, c0, c1, c2⟩ := (HR.out.later lat).val3 k hlt
        subst hadr
        have HX := Lib.hid (show l.take (k + 1) = l.take k ++ [(l[k].1, l[k].2.1, l[k].2.2)] from List.take_succ_eq_append_getElem hlt)
        have HM := Lib.hid (show (l[k].1, l[k].2.1, l[k].2.2) ∈ l from List.getElem_mem hlt)
        have hin := H64.out _ (List.getElem_mem hlt)
        generalize l[k].1 = t at c0 HX HM
        generalize l[k].2.1 = i at c1 HX HM hin
        generalize l[k].2.2 = s at c2 HX HM
        obtain ⟨gv, hgv⟩ : ∃ g, wr.heap.size = g := ⟨_, rfl⟩
        obtain ⟨w1, hw1⟩ : ∃ x, wr.alloc (.cells #[.int .i64 t, .int .i64 i, .string s] 40) = x := ⟨_, rfl⟩
        have BV := Blk.new wr #[.int .i64 t, .int .i64 i, .string s] 40 gv hgv.symm
        have BR := HBR.out.later (Later.new wr (.cells #[.int .i64 t, .int .i64 i, .string s] 40))
        have LW := HLAT.out.alloc (.cells #[.int .i64 t, .int .i64 i, .string s] 40)
        rw [hw1] at BV BR LW
        clear lat HBR
        have v0 := BV.cell 0 _ rfl
        have v1 := BV.cell 1 _ rfl
        by_cases hnm : t = 1 ∨ t = 2
        · have HRr := Lib.hid BR
          have HLL := Lib.hid LW
          have HNR := Lib.hid (show ∀ x ∈ l.take (k + 1), Num3 x from fun x hx => by
            rw [HX.out] at hx
            rcases List.mem_append.1 hx with hx | hx
            · exact HNUM.out x hx
            · rw [List.mem_singleton] at hx; subst hx; exact hnm)
          obtain ⟨u, z, hu, hz, hul, hzl, hst⟩ := u64_step i hin
          have HST := Lib.hid (show Sum128 (sumI (l.take (k + 1))) ((hi + (z + (lo + u) / 18446744073709551616) % 18446744073709551616) % 18446744073709551616) ((lo + u) % 18446744073709551616) from by
            rw [HX.out, sumI_append]
            have := hst _ _ _ HSUM.out
            simpa [sumI] using this)
          have hadd := add64_run lo u
          obtain ⟨lo2, hlo2⟩ : ∃ x, (lo + u) % 18446744073709551616 = x := ⟨_, rfl⟩
          obtain ⟨c2', hc2⟩ : ∃ x, (lo + u) / 18446744073709551616 = x := ⟨_, rfl⟩
          rw [hlo2, hc2] at hadd
          rw [hlo2, hc2] at HST
          have hw1' := u64_add z c2'
          obtain ⟨s2, hs2⟩ : ∃ x, (z + c2') % 18446744073709551616 = x := ⟨_, rfl⟩
          rw [hs2] at HST hw1'
          have hw2' := u64_add hi s2
          obtain ⟨h2, hh2⟩ : ∃ x, (hi + s2) % 18446744073709551616 = x := ⟨_, rfl⟩
          rw [hh2] at HST hw2'
          clear hst hlo2 hc2 hs2 hh2 BV BR LW HNUM HSUM HX HM hul hzl hin HLAT
          rcases hnm with rfl | rfl
          · go_wp2_with fail
            go_roundw
            case rel => rw [HGR.out] at HRr; exact SuI.mk _ (k + 1) h2 lo2 c2' (by omega) hlt HNR.out HST.out HRr.out HLL.out
            case measure => simp [intOf]; omega
          · go_wp2_with fail
            go_roundw
            case rel => rw [HGR.out] at HRr; exact SuI.mk _ (k + 1) h2 lo2 c2' (by omega) hlt HNR.out HST.out HRr.out HLL.out
            case measure => simp [intOf]; omega
        · have HE := Lib.hid (show sumV l = .error 4 from by
            unfold sumV
            rw [if_neg HNE.out, if_neg (fun h => hnm (h _ HM.out))])
          have e1 : (t == 1) = false := by simp; omega
          have e2 : (t == 2) = false := by simp; omega
          have n1 : (t != 1) = true := by simp; omega
          have hgw : gr < w1.heap.size := BR.lt
          have hsz : w.heap.size ≤ w1.heap.size := LW.size
          have n2 : (t != 2) = true := by simp; omega
          have x1 := (HS.out.later LW).type
          have r0 := BR.cell 0 _ rfl
          have r1 := BR.cell 1 _ rfl
          have r2 := BR.cell 2 _ rfl
          have f0 := BR.frozen 0
          have f1 := BR.frozen 1
          have f2 := BR.frozen 2
          have HRr := Lib.hid BR
          have HLL := Lib.hid LW
          clear BV BR LW HNUM HSUM HX HM hin HLAT hnm HR H64
          go_wp2_with (go_at_call 18; refine (at_e0 _ _ a1 w1).mono ?_; rintro e wn ⟨v, rfl, hv, l2⟩; have HV := Lib.hid ((((hv.set_ (o := 0) hgw (.int .i64 0)).set_ (o := 1) hgw (.int .i64 0)).set_ (o := 2) hgw (.string ⟨#[]⟩)).mono (B' := w.heap.size) hsz); have BR2 := HRr.out.later l2; have r0 := BR2.cell 0 _ rfl; have r1 := BR2.cell 1 _ rfl; have r2 := BR2.cell 2 _ rfl; have f0 := BR2.frozen 0; have f1 := BR2.frozen 1; have f2 := BR2.frozen 2; have HL2 := Lib.hid (HLL.out.trans l2); have HB2 := Lib.hid (three_blk BR2 rfl (.int .i64 0) (.int .i64 0) (.string ⟨#[]⟩)); have HL4 := Lib.hid (three_later (HLL.out.trans l2) hgr2 (.int .i64 0) (.int .i64 0) (.string ⟨#[]⟩)); obtain ⟨wz, hwz⟩ : ∃ x, (((wn.setCell ⟨gr, 0, none⟩ (.int .i64 0)).setCell ⟨gr, 1, none⟩ (.int .i64 0)).setCell ⟨gr, 2, none⟩ (.string ⟨#[]⟩)) = x := ⟨_, rfl⟩; rw [hwz] at HV HB2 HL4; clear l2 hv BR2 HL2)
          have q0 := HB2.out.cell 0 _ rfl
          have q1 := HB2.out.cell 1 _ rfl
          have q2 := HB2.out.cell 2 _ rfl
          exact bodyPost_ret (v := .tuple #[.agg #[.int .i64 0, .int .i64 0, .string ⟨#[]⟩], v]) (by simp [results, Tryd.results27, go_sem, q0, q1, q2]) rfl (OfP.bad 4 HE.out (.inl rfl) HV.out HL4.out)
      · obtain rfl : k = l.length := by omega
        have hnl := HNUM.out
        have hsl := HSUM.out
        rw [List.take_length] at hnl hsl
        have hb := sumI_bound l H64.out
        obtain ⟨l2, z, hl2, hz, hif, heq⟩ := u64_end hsl ⟨by omega, by omega⟩
        have HL2 := Lib.hid (HLAT.out)
        have BR := HBR.out
        have r0 := BR.cell 0 _ rfl
        have r1 := BR.cell 1 _ rfl
        have r2 := BR.cell 2 _ rfl
        have f0 := BR.frozen 0
        have f1 := BR.frozen 1
        have f2 := BR.frozen 2
        by_cases hh : hi = z
        · have HE := Lib.hid (show sumV l = .ok (2, l2, ⟨#[]⟩) from by
            unfold sumV
            rw [if_neg HNE.out, if_pos hnl, if_pos (hif.1 hh), heq hh])
          have HBq := Lib.hid (three_blk BR rfl (.int .i64 2) (.int .i64 l2) (.string ⟨#[]⟩))
          have HLq := Lib.hid (three_later lat hgr2 (.int .i64 2) (.int .i64 l2) (.string ⟨#[]⟩))
          obtain ⟨wq, hwq⟩ : ∃ x, (((wr.setCell ⟨gr, 0, none⟩ (.int .i64 2)).setCell ⟨gr, 1, none⟩ (.int .i64 l2)).setCell ⟨gr, 2, none⟩ (.string ⟨#[]⟩)) = x := ⟨_, rfl⟩
          rw [hwq] at HBq HLq
          have hd : ((hi : Int) == (z : Int)) = true := by simp [hh]
          clear hh hif heq hsl hnl hb BR HBR HNUM HSUM lat
          go_wp2_with fail
          have q0 := HBq.out.cell 0 _ rfl
          have q1 := HBq.out.cell 1 _ rfl
          have q2 := HBq.out.cell 2 _ rfl
          exact bodyPost_ret (v := .tuple #[.agg #[.int .i64 2, .int .i64 l2, .string ⟨#[]⟩], .nilIface]) (by simp [results, Tryd.results27, go_sem, q0, q1, q2]) rfl (OfP.good 2 l2 ⟨#[]⟩ HE.out HLq.out)
        · have HE := Lib.hid (show sumV l = .error 5 from by
            unfold sumV
            rw [if_neg HNE.out, if_pos hnl, if_neg (fun h => hh (hif.2 h))])
          have hd : ((hi : Int) == (z : Int)) = false := by simp; omega
          have hd2 : ¬ (hi : Int) = (z : Int) := by omega
          have hgw : gr < wr.heap.size := BR.lt
          have hsz : w.heap.size ≤ wr.heap.size := lat.size
          have x1 := (HS.out.later lat).over
          have HRr := Lib.hid BR
          clear hh hif heq hsl hnl hb BR HBR HNUM HSUM lat
          go_wp2_with (go_at_call 18; refine (at_e0 _ _ a2 wr).mono ?_; rintro e wn ⟨v, rfl, hv, l2⟩; have HV := Lib.hid ((((hv.set_ (o := 0) hgw (.int .i64 0)).set_ (o := 1) hgw (.int .i64 0)).set_ (o := 2) hgw (.string ⟨#[]⟩)).mono (B' := w.heap.size) hsz); have BR2 := HRr.out.later l2; have r0 := BR2.cell 0 _ rfl; have r1 := BR2.cell 1 _ rfl; have r2 := BR2.cell 2 _ rfl; have f0 := BR2.frozen 0; have f1 := BR2.frozen 1; have f2 := BR2.frozen 2; have HB2 := Lib.hid (three_blk BR2 rfl (.int .i64 0) (.int .i64 0) (.string ⟨#[]⟩)); have HL4 := Lib.hid (three_later (HL2.out.trans l2) hgr2 (.int .i64 0) (.int .i64 0) (.string ⟨#[]⟩)); obtain ⟨wz, hwz⟩ : ∃ x, (((wn.setCell ⟨gr, 0, none⟩ (.int .i64 0)).setCell ⟨gr, 1, none⟩ (.int .i64 0)).setCell ⟨gr, 2, none⟩ (.string ⟨#[]⟩)) = x := ⟨_, rfl⟩; rw [hwz] at HV HB2 HL4; clear l2 hv BR2)
          have q0 := HB2.out.cell 0 _ rfl
          have q1 := HB2.out.cell 1 _ rfl
          have q2 := HB2.out.cell 2 _ rfl
          exact bodyPost_ret (v := .tuple #[.agg #[.int .i64 0, .int .i64 0, .string ⟨#[]⟩], v]) (by simp [results, Tryd.results27, go_sem, q0, q1, q2]) rfl (OfP.bad 5 HE.out (.inr rfl) HV.out HL4.out)
end Go.Proofs.YtiacemlloaenoaaDoor
