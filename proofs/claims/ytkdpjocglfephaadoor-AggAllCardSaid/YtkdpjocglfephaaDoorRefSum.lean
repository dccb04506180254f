
import Derived.Test.YtkdpjocglfephaaDoorAggB
import Derived.Test.YtkdpjocglfephaaDoorBase
import Derived.Test.YtkdpjocglfephaaDoorCell
import Derived.Laws.Externs
import Derived.WalkKit
import Derived.Laws.OwnMore
import Derived.Laws.BytesArg
import Derived.Laws.Rows
import Derived.Deep.AppendLies
import Derived.Deep.Draws
import Derived.Test.YtkdpjocglfephaaDoorChecked
import Derived.Deep.OwnRows
import Derived.Lib.Hide
import Derived.Deep.Quiet
import Derived.Laws.AppendOwnNone
import Derived.Lib.Strings
import Derived.Outline
import Derived.WalkLawsBesides
import Derived.WalkSpells
import Derived.PlainAid
import Derived.Deep.QuietTactic
import Derived.BigQuiet
import Derived.RegionTactic
import Derived.BigRegion
import Derived.Handy
import Derived.Laws.BitsAllLaws
import Derived.Deep.RegionWith
import Derived.Lib.AppendStr
import Derived.Deep.RegionLaw
import Derived.Maps.AppendAt
import Derived.OpenShut
import Derived.WideShapes
import Derived.ChangeArms
import Derived.Deep.Slices
import Derived.Sort.Grow
import Derived.LaidEql
import Derived.Stop.Asserts
import Derived.RowKitTokens
import Derived.Laws.BitsLemmas
import Derived.Laws.Bits64
import Derived.WalkSmall
import Derived.Stop.IfaceNil
import Derived.Lib.Bytealg
import Derived.Deep.SlicePairs
import Derived.Test.YtkdpjocglfephaaDoorShelf
import Derived.OrdersHeld
/- The document's sum of a group's values. -/

namespace Go.Proofs.YtkdpjocglfephaaDoor
open Go.RowKit
set_option linter.unusedVariables false

/-- A value, or why there is none. -/
def ErrE (o : Except Int Val3) (w : World) (e : Ending) (w' : World) : Prop :=
  ((∃ v : Val3, o = .ok v ∧ e = .returned (.tuple #[.agg #[.int .i64 v.1, .int .i64 v.2.1, .string v.2.2], .int .i64 0])) ∨
   (∃ n, o = .error n ∧ (n = 4 ∨ n = 5) ∧ e = .returned (.tuple #[.agg #[.int .i64 0, .int .i64 0, .string ⟨#[]⟩], .int .i64 n]))) ∧ Later w w'
theorem ErrE.good {o : Except Int Val3} {w w' : World} (t i : Int) (s : ByteArray) (ho : o = .ok (t, i, s)) (L : Later w w') : ErrE o w (.returned (.tuple #[.agg #[.int .i64 t, .int .i64 i, .string s], .int .i64 0])) w' := ⟨.inl ⟨(t, i, s), ho, rfl⟩, L⟩
theorem ErrE.bad {o : Except Int Val3} {w w' : World} (n : Int) (ho : o = .error n) (hn : n = 4 ∨ n = 5) (L : Later w w') : ErrE o w (.returned (.tuple #[.agg #[.int .i64 0, .int .i64 0, .string ⟨#[]⟩], .int .i64 n])) w' := ⟨.inr ⟨n, ho, hn, rfl⟩, L⟩
/-- Where the loop stands. -/
def RsI (l : List Val3) (w : World) (hv lv iv : Value) (wr : World) : Prop :=
  ∃ (k : Nat) (hi lo : Int), hv = .int .i64 hi ∧ lv = .int .i64 lo ∧ iv = .int .i64 k ∧ k ≤ l.length ∧ (∀ x ∈ l.take k, Num3 x) ∧ hi * 4294967296 + lo = sumI (l.take k) ∧ (0 ≤ lo ∧ lo ≤ 4294967296 * (k : Int)) ∧ (-2147483648 * (k : Int) ≤ hi ∧ hi ≤ 2147483647 * (k : Int)) ∧ Blk wr w.heap.size #[.int .i64 0, .int .i64 0, .string ⟨#[]⟩] 26 ∧ Later w wr
theorem RsI.mk {l : List Val3} {w wr : World} (y : Int) (k : Nat) (hi lo : Int) (hy : y = (k : Int)) (hk : k ≤ l.length) (hn : ∀ x ∈ l.take k, Num3 x) (hs : hi * 4294967296 + lo = sumI (l.take k)) (h1 : 0 ≤ lo ∧ lo ≤ 4294967296 * (k : Int)) (h2 : -2147483648 * (k : Int) ≤ hi ∧ hi ≤ 2147483647 * (k : Int)) (R : Blk wr w.heap.size #[.int .i64 0, .int .i64 0, .string ⟨#[]⟩] 26) (L : Later w wr) : RsI l w (.int .i64 hi) (.int .i64 lo) (.int .i64 y) wr := by
  subst hy; exact ⟨k, hi, lo, rfl, rfl, rfl, hk, hn, hs, h1, h2, R, L⟩
/-- Go's remainder by 2^32, and what is left. -/
theorem rem32 (i : Int) : ∃ r q b : Int, i.tmod 4294967296 = r ∧ i / 4294967296 = q ∧ i % 4294967296 = b ∧ (0 ≤ b ∧ b < 4294967296) ∧ i = q * 4294967296 + b ∧ ((0 ≤ r ∧ r = b) ∨ (r < 0 ∧ r + 4294967296 = b)) := by
  refine ⟨_, _, _, rfl, rfl, rfl, by omega, by omega, ?_⟩
  by_cases h : 0 ≤ i
  · rw [Int.tmod_eq_emod_of_nonneg h]; left; omega
  · have e : i.tmod 4294967296 = - ((-i).tmod 4294967296) := by rw [Int.neg_tmod, Int.neg_neg]
    rw [e, Int.tmod_eq_emod_of_nonneg (by omega)]
    omega

set_option maxRecDepth 100000 in
set_option maxHeartbeats 4000000 in
theorem refSum_any (A : Option Addr) (n c : Nat) (l : List Val3) (w : World) (hn : n = l.length) (hl : l.length ≤ 1000) (hr : Has w A (fl l)) (h64 : ∀ x ∈ l, -9223372036854775808 ≤ x.2.1 ∧ x.2.1 ≤ 9223372036854775807) :
    Calls Tryd.prog 63 #[.slice A n c] w (ErrE (sumV l) w) := by
  subst hn
  have R0 := Blk.new w #[.int .i64 0, .int .i64 0, .string ⟨#[]⟩] 26 w.heap.size rfl
  have L0 := Later.new w (.cells #[.int .i64 0, .int .i64 0, .string ⟨#[]⟩] 26)
  have H64 := Lib.hid h64
  have HR := Lib.hid hr
  have HI0 := Lib.hid (RsI.mk (l := l) (w := w) 0 0 0 0 rfl (Nat.zero_le _) (by intro x hx; simp at hx) (by simp [sumI]) ⟨by omega, by omega⟩ ⟨by omega, by omega⟩ R0 L0)
  clear hr h64 R0 L0
  go_enter Tryd.func63, Tryd.ntmps63
  go_wp2_with fail
  go_loopw [4, 5, 6] (fun hv lv iv wr => RsI l w hv lv iv wr) (fun _ _ i _ => l.length - (intOf i).toNat)
  case atStart => exact HI0.out
  case round =>
    obtain ⟨k, hi, lo, rfl, rfl, rfl, hk, hnum, hsum, hlo, hhi, BR, lat⟩ := hrel
    have HNUM := Lib.hid hnum
    have HSUM := Lib.hid hsum
    have HLAT := Lib.hid lat
    have HBR := Lib.hid BR
    clear HI0 hnum hsum BR
    obtain ⟨gr, hgr⟩ : ∃ g, g = w.heap.size := ⟨_, rfl⟩
    have HGR := Lib.hid hgr
    rw [← hgr] at HBR ⊢
    clear hgr
    by_cases hlt : k < l.length
    · obtain ⟨bb, off, hadr, c0, c1, c2⟩ := (HR.out.later lat).val3 k hlt
      subst hadr
      have HX := Lib.hid (show l.take (k + 1) = l.take k ++ [(l[k].1, l[k].2.1, l[k].2.2)] from List.take_succ_eq_append_getElem hlt)
      have HM := Lib.hid (show (l[k].1, l[k].2.1, l[k].2.2) ∈ l from List.getElem_mem hlt)
      have hin := H64.out _ (List.getElem_mem hlt)
      generalize l[k].1 = t at c0 HX HM
      generalize l[k].2.1 = i at c1 HX HM hin
      generalize l[k].2.2 = s at c2 HX HM
      have hkz : (k : Int) < (l.length : Int) := by omega
      clear lat c2
      by_cases hnm : t = 1 ∨ t = 2
      · have HNR := Lib.hid (show ∀ x ∈ l.take (k + 1), Num3 x from fun x hx => by
          rw [HX.out] at hx
          rcases List.mem_append.1 hx with hx | hx
          · exact HNUM.out x hx
          · rw [List.mem_singleton] at hx; subst hx; exact hnm)
        obtain ⟨r, q, b, hr, hq, hb, hb2, hib, hrb⟩ := rem32 i
        have HNS := Lib.hid (show (hi + q) * 4294967296 + (lo + b) = sumI (l.take (k + 1)) from by
          rw [HX.out, sumI_append]
          have h1 := HSUM.out
          simp only [sumI]
          omega)
        have hq2 : -2147483648 ≤ q ∧ q ≤ 2147483647 := by omega
        have hwr : IntKind.i64.wrap r = r := IntWalk.i64_in _ ⟨by omega, by omega⟩
        have hwb : IntKind.i64.wrap b = b := IntWalk.i64_in _ ⟨by omega, by omega⟩
        obtain ⟨p, hp⟩ : ∃ p, i - b = p := ⟨_, rfl⟩
        have hwp : IntKind.i64.wrap p = p := IntWalk.i64_in _ ⟨by omega, by omega⟩
        have hpq : p.tdiv 4294967296 = q := by
          have e : p = q * 4294967296 := by omega
          rw [e, Int.mul_tdiv_cancel _ (by decide)]
        have hwq : IntKind.i64.wrap q = q := IntWalk.i64_in _ ⟨by omega, by omega⟩
        have hwh : IntKind.i64.wrap (hi + q) = hi + q := IntWalk.i64_in _ ⟨by omega, by omega⟩
        have hwl : IntKind.i64.wrap (lo + b) = lo + b := IntWalk.i64_in _ ⟨by omega, by omega⟩
        have HRR := Lib.hid (And.intro hlo (And.intro hhi (And.intro hb2 hq2)))
        clear hq hb hib hin HX HM HNUM HSUM hlo hhi hb2 hq2
        rcases hrb with ⟨hr0, rfl⟩ | ⟨hr0, hrb⟩
        · have hrd : decide (r < 0) = false := by simp; omega
          clear hr0
          rcases hnm with rfl | rfl
          · go_wp2_with fail
            go_roundw
            case rel => rw [HGR.out] at HBR; exact RsI.mk _ (k + 1) _ _ (by omega) hlt HNR.out HNS.out (by have := HRR.out; omega) (by have := HRR.out; omega) HBR.out HLAT.out
            case measure => simp [intOf]; omega
          · go_wp2_with fail
            go_roundw
            case rel => rw [HGR.out] at HBR; exact RsI.mk _ (k + 1) _ _ (by omega) hlt HNR.out HNS.out (by have := HRR.out; omega) (by have := HRR.out; omega) HBR.out HLAT.out
            case measure => simp [intOf]; omega
        · have hrd : decide (r < 0) = true := by simp; omega
          clear hr0
          rcases hnm with rfl | rfl
          · go_wp2_with fail
            go_roundw
            case rel => rw [HGR.out] at HBR; exact RsI.mk _ (k + 1) _ _ (by omega) hlt HNR.out HNS.out (by have := HRR.out; omega) (by have := HRR.out; omega) HBR.out HLAT.out
            case measure => simp [intOf]; omega
          · go_wp2_with fail
            go_roundw
            case rel => rw [HGR.out] at HBR; exact RsI.mk _ (k + 1) _ _ (by omega) hlt HNR.out HNS.out (by have := HRR.out; omega) (by have := HRR.out; omega) HBR.out HLAT.out
            case measure => simp [intOf]; omega
      · have HE := Lib.hid (show sumV l = .error 4 from by
          unfold sumV
          rw [if_neg (fun e => by rw [e] at hlt; simp at hlt), if_neg (fun h => hnm (h _ HM.out))])
        have n1 : (t != 1) = true := by simp; omega
        have n2 : (t != 2) = true := by simp; omega
        have r0 := HBR.out.cell 0 _ rfl
        have r1 := HBR.out.cell 1 _ rfl
        have r2 := HBR.out.cell 2 _ rfl
        have f0 := HBR.out.frozen 0
        have f1 := HBR.out.frozen 1
        have f2 := HBR.out.frozen 2
        have b2 := three_blk HBR.out rfl (.int .i64 0) (.int .i64 0) (.string ⟨#[]⟩)
        have HL2 := Lib.hid (three_later HLAT.out (g := gr) (by have := HGR.out; omega) (.int .i64 0) (.int .i64 0) (.string ⟨#[]⟩))
        have q0 := b2.cell 0 _ rfl
        have q1 := b2.cell 1 _ rfl
        have q2 := b2.cell 2 _ rfl
        clear hnm HX HM HNUM HSUM hin b2
        go_wp2_with fail
        rw [HE.out]
        exact bodyPost_ret (v := .tuple #[.agg #[.int .i64 0, .int .i64 0, .string ⟨#[]⟩], .int .i64 4]) (by simp [results, Tryd.results63, go_sem, q0, q1, q2]) rfl (ErrE.bad 4 rfl (.inl rfl) HL2.out)
    · obtain rfl : k = l.length := by omega
      have hnl := HNUM.out
      have hsl := HSUM.out
      rw [List.take_length] at hnl hsl
      have HNUM := Lib.hid hnl
      have hkz : ¬ (l.length : Int) < (l.length : Int) := by omega
      have r0 := HBR.out.cell 0 _ rfl
      have r1 := HBR.out.cell 1 _ rfl
      have r2 := HBR.out.cell 2 _ rfl
      have f0 := HBR.out.frozen 0
      have f1 := HBR.out.frozen 1
      have f2 := HBR.out.frozen 2
      clear lat hnl HSUM
      by_cases h0 : l.length = 0
      · have HE := Lib.hid (show sumV l = .ok (0, 0, ⟨#[]⟩) from if_pos (List.eq_nil_of_length_eq_zero h0))
        have he : ((l.length : Int) == 0) = true := by simpa using h0
        have b2 := three_blk HBR.out rfl (.int .i64 0) (.int .i64 0) (.string ⟨#[]⟩)
        have HL2 := Lib.hid (three_later HLAT.out (g := gr) (by have := HGR.out; omega) (.int .i64 0) (.int .i64 0) (.string ⟨#[]⟩))
        have q0 := b2.cell 0 _ rfl
        have q1 := b2.cell 1 _ rfl
        have q2 := b2.cell 2 _ rfl
        clear b2 h0 hsl
        go_wp2_with fail
        rw [HE.out]
        exact bodyPost_ret (v := .tuple #[.agg #[.int .i64 0, .int .i64 0, .string ⟨#[]⟩], .int .i64 0]) (by simp [results, Tryd.results63, go_sem, q0, q1, q2]) rfl (ErrE.good 0 0 ⟨#[]⟩ rfl HL2.out)
      · have he : ((l.length : Int) == 0) = false := by simp; exact fun e => h0 (by rw [e]; rfl)
        have HNE := Lib.hid (show l ≠ [] from fun e => h0 (by rw [e]; rfl))
        obtain ⟨lq, hlq⟩ : ∃ x, lo / 4294967296 = x := ⟨_, rfl⟩
        obtain ⟨lr, hlr⟩ : ∃ x, lo % 4294967296 = x := ⟨_, rfl⟩
        have ht1 : lo.tdiv 4294967296 = lq := by rw [Int.tdiv_eq_ediv_of_nonneg hlo.1]; exact hlq
        have ht2 : lo.tmod 4294967296 = lr := by rw [Int.tmod_eq_emod_of_nonneg hlo.1]; exact hlr
        have hlr2 : 0 ≤ lr ∧ lr < 4294967296 := by omega
        have hlo3 : lo = lq * 4294967296 + lr := by omega
        have hlq2 : 0 ≤ lq ∧ lq ≤ 1000 := by omega
        have hwq : IntKind.i64.wrap lq = lq := IntWalk.i64_in _ ⟨by omega, by omega⟩
        have hwr : IntKind.i64.wrap lr = lr := IntWalk.i64_in _ ⟨by omega, by omega⟩
        obtain ⟨h2, hh2⟩ : ∃ x, hi + lq = x := ⟨_, rfl⟩
        have hw2 : IntKind.i64.wrap h2 = h2 := IntWalk.i64_in _ ⟨by omega, by omega⟩
        have HSL := Lib.hid (show h2 * 4294967296 + lr = sumI l by omega)
        have HLR := Lib.hid hlr2
        clear hlq hlr hlo3 hlq2 hsl hlo hhi h0 hlr2
        by_cases g1 : h2 < -2147483648
        · have HE := Lib.hid (show sumV l = .error 5 from by
            unfold sumV
            rw [if_neg HNE.out, if_pos HNUM.out, if_neg (by have h := HSL.out; have h' := HLR.out; omega)])
          have d1 : decide (h2 < -2147483648) = true := by simp; omega
          have b2 := three_blk HBR.out rfl (.int .i64 0) (.int .i64 0) (.string ⟨#[]⟩)
          have HL2 := Lib.hid (three_later HLAT.out (g := gr) (by have := HGR.out; omega) (.int .i64 0) (.int .i64 0) (.string ⟨#[]⟩))
          have q0 := b2.cell 0 _ rfl
          have q1 := b2.cell 1 _ rfl
          have q2 := b2.cell 2 _ rfl
          clear b2 g1
          go_wp2_with fail
          rw [HE.out]
          exact bodyPost_ret (v := .tuple #[.agg #[.int .i64 0, .int .i64 0, .string ⟨#[]⟩], .int .i64 5]) (by simp [results, Tryd.results63, go_sem, q0, q1, q2]) rfl (ErrE.bad 5 rfl (.inr rfl) HL2.out)
        by_cases g2 : 2147483648 ≤ h2
        · have HE := Lib.hid (show sumV l = .error 5 from by
            unfold sumV
            rw [if_neg HNE.out, if_pos HNUM.out, if_neg (by have h := HSL.out; have h' := HLR.out; omega)])
          have d1 : decide (h2 < -2147483648) = false := by simp; omega
          have d2 : decide ((2147483648 : Int) ≤ h2) = true := by simp; omega
          have b2 := three_blk HBR.out rfl (.int .i64 0) (.int .i64 0) (.string ⟨#[]⟩)
          have HL2 := Lib.hid (three_later HLAT.out (g := gr) (by have := HGR.out; omega) (.int .i64 0) (.int .i64 0) (.string ⟨#[]⟩))
          have q0 := b2.cell 0 _ rfl
          have q1 := b2.cell 1 _ rfl
          have q2 := b2.cell 2 _ rfl
          clear b2 g1 g2
          go_wp2_with fail
          rw [HE.out]
          exact bodyPost_ret (v := .tuple #[.agg #[.int .i64 0, .int .i64 0, .string ⟨#[]⟩], .int .i64 5]) (by simp [results, Tryd.results63, go_sem, q0, q1, q2]) rfl (ErrE.bad 5 rfl (.inr rfl) HL2.out)
        have d1 : decide (h2 < -2147483648) = false := by simp; omega
        have d2 : decide ((2147483648 : Int) ≤ h2) = false := by simp; omega
        have HE := Lib.hid (show sumV l = .ok (2, sumI l, ⟨#[]⟩) from by
          unfold sumV
          rw [if_neg HNE.out, if_pos HNUM.out, if_pos (by have h := HSL.out; have h' := HLR.out; omega)])
        obtain ⟨h3, hh3⟩ : ∃ x, h2 * 4294967296 = x := ⟨_, rfl⟩
        have hw3 : IntKind.i64.wrap h3 = h3 := IntWalk.i64_in _ ⟨by omega, by omega⟩
        obtain ⟨T, hT⟩ : ∃ x, h3 + lr = x := ⟨_, rfl⟩
        have hwT : IntKind.i64.wrap T = T := IntWalk.i64_in _ ⟨by have := HLR.out; omega, by have := HLR.out; omega⟩
        have HTS := Lib.hid (show sumI l = T by have := HSL.out; omega)
        have b2 := three_blk HBR.out rfl (.int .i64 2) (.int .i64 T) (.string ⟨#[]⟩)
        have HL2 := Lib.hid (three_later HLAT.out (g := gr) (by have := HGR.out; omega) (.int .i64 2) (.int .i64 T) (.string ⟨#[]⟩))
        have q0 := b2.cell 0 _ rfl
        have q1 := b2.cell 1 _ rfl
        have q2 := b2.cell 2 _ rfl
        clear b2 g1 g2
        go_wp2_with fail
        rw [HE.out, HTS.out]
        exact bodyPost_ret (v := .tuple #[.agg #[.int .i64 2, .int .i64 T, .string ⟨#[]⟩], .int .i64 0]) (by simp [results, Tryd.results63, go_sem, q0, q1, q2]) rfl (ErrE.good 2 T ⟨#[]⟩ rfl HL2.out)
end Go.Proofs.YtkdpjocglfephaaDoor

/- A region that draws its order: S holds until the last operation z (a store that waits for all others) has come up. -/


namespace Go.Proofs.YtkdpjocglfephaaDoor
open Go
set_option linter.unusedVariables false

section
variable {P : Program} {ops : Array Oper} {Q : Exit → Act → World → Prop} {md : Region.Mode} {S : World → Prop} {z : Nat}

/-- Whatever order is picked from here on; behind every operation but z S holds. -/
def wpAnyZ (P : Program) (md : Region.Mode) (ops : Array Oper) (Q : Exit → Act → World → Prop) (z : Nat) (S : World → Prop) : Nat → Array Bool → Act → World → Prop
  | 0, listed, a, w => Region.ready md ops listed = [] ∧ Q .normal a w
  | fuel + 1, listed, a, w =>
    (Region.ready md ops listed = [] → Q .normal a w) ∧
    ∀ i ∈ Region.ready md ops listed, wpOp P ops Q i (fun a' w' => (i ≠ z → S w') ∧ wpAnyZ P md ops Q z S fuel (listed.setIfInBounds i true) a' w') a w

theorem wpAny_of_Z : ∀ (fuel : Nat) (listed : Array Bool) (a : Act) (w : World), wpAnyZ P md ops Q z S fuel listed a w → wpAny P md ops Q fuel listed a w
  | 0, _, _, _, h => h
  | fuel + 1, _, _, _, h => ⟨h.1, fun i hi => wpOp_mono (fun a' w' h' => wpAny_of_Z fuel _ a' w' h'.2) (h.2 i hi)⟩

theorem wpAnyZ_first {i : Nat} {oi : Oper} {v : Value} (hi : ops[i]? = some oi) (hsel : ∀ (j : Nat) (o : Oper) cs b, ops[j]? = some o → o.op ≠ .select cs b)
    (hQ : ∀ c a w, Q (.panic c) (a.put oi.dst v) w → Q (.panic c) a w) (hz : ∃ oz, ops[z]? = some oz ∧ ∃ e ∈ oz.after, Region.binds md e = true ∧ e.on = i) :
    ∀ (fuel : Nat) (listed : Array Bool) (a : Act) (w : World),
      (∀ j oj, ops[j]? = some oj → j ≠ i → listed.getD j true = false → (∀ e ∈ oj.after, Region.binds md e = true → e.on ≠ i) → oi.apart ops oj = true) →
      i ∈ Region.ready md ops listed → YieldsIf P ops S oi v a → S w →
      wpAnyZ P md ops Q z S fuel (listed.setIfInBounds i true) (a.put oi.dst v) w → wpAnyZ P md ops Q z S (fuel + 1) listed a w := by
  intro fuel
  induction fuel with
  | zero =>
    intro listed a w _ hr hy hS H
    refine ⟨fun h => (by rw [h] at hr; cases hr), fun j hj => ?_⟩
    by_cases hji : j = i
    · subst hji; exact hy.wpOp hi hS ⟨fun _ => hS, H⟩
    · have := ready_mono hj hji
      rw [H.1] at this
      cases this
  | succ fuel ih =>
    intro listed a w hfree hr hy hS H
    refine ⟨fun h => (by rw [h] at hr; cases hr), fun j hj => ?_⟩
    by_cases hji : j = i
    · subst hji; exact hy.wpOp hi hS ⟨fun _ => hS, H⟩
    · have h1 := H.2 j (ready_mono hj hji)
      obtain ⟨hjun, oj, hoj, hall⟩ := mem_ready.1 hj
      have hnot : ∀ e ∈ oj.after, Region.binds md e = true → e.on ≠ i := fun e he hb heq => by
        have h1 := hall e he hb
        have h0 := (mem_ready.1 hr).1
        rw [heq] at h1
        rcases Nat.lt_or_ge i listed.size with h' | h'
        · simp [h'] at h0 h1; rw [h0] at h1; cases h1
        · simp [Array.getElem?_eq_none h'] at h1
      have hjz : j ≠ z := by
        rintro rfl
        obtain ⟨oz, hoz, e, he, hb, heq⟩ := hz
        rw [hoj] at hoz
        injection hoz with hoz
        subst hoz
        exact hnot e he hb heq
      have h2 := wpOp_putIf hoj (hfree j oj hoj hji hjun hnot) (fun cs b => hsel i oi cs b hi) (fun cs b => hsel j oj cs b hoj) hQ hy h1
      have hfree' : ∀ k ok, ops[k]? = some ok → k ≠ i → (listed.setIfInBounds j true).getD k true = false →
          (∀ e ∈ ok.after, Region.binds md e = true → e.on ≠ i) → oi.apart ops ok = true := fun k ok hk hki hun hno => by
        refine hfree k ok hk hki ?_ hno
        by_cases hjk : j = k
        · subst hjk; exact hjun
        · rw [getD_set_ne true hjk] at hun; exact hun
      refine wpOp_mono (fun a' w' h3 => ⟨fun h => h3.2.1 h, ih (listed.setIfInBounds j true) a' w' hfree' (ready_mono hr (Ne.symm hji)) h3.1 (h3.2.1 hjz) ?_⟩) h2
      rw [Array.setIfInBounds_comm _ _ hji]
      exact h3.2.2

/-- Does z wait for i? -/
def waitsFor (md : Region.Mode) (ops : Array Oper) (z i : Nat) : Bool := match ops[z]? with | some o => o.after.toList.any fun e => Region.binds md e && e.on == i | none => false
theorem waitsFor_spec {i : Nat} (h : waitsFor md ops z i = true) : ∃ oz, ops[z]? = some oz ∧ ∃ e ∈ oz.after, Region.binds md e = true ∧ e.on = i := by
  unfold waitsFor at h
  split at h
  · rename_i o ho
    simp only [List.any_eq_true, Bool.and_eq_true, beq_iff_eq] at h
    obtain ⟨e, he, hb, heq⟩ := h
    exact ⟨o, ho, e, by simpa using he, hb, heq⟩
  · cases h
/-- Take number i first. -/
theorem wpAnyZ_take {i : Nat} {oi : Oper} {v : Value} {fuel : Nat} {listed : Array Bool} {a : Act} {w : World} (hi : ops[i]? = some oi)
    (hs : Region.noSelect ops = true) (hf : Region.free md ops listed i = true) (hr : (Region.ready md ops listed).contains i = true) (hz : waitsFor md ops z i = true)
    (hQ : ∀ c a w, Q (.panic c) (a.put oi.dst v) w → Q (.panic c) a w) (hy : YieldsIf P ops S oi v a) (hS : S w)
    (h : wpAnyZ P md ops Q z S fuel (listed.setIfInBounds i true) (a.put oi.dst v) w) : wpAnyZ P md ops Q z S (fuel + 1) listed a w :=
  wpAnyZ_first hi (Region.noSelect_spec hs) hQ (waitsFor_spec hz) fuel listed a w (Region.free_spec hi hf) (by simpa using hr) hy hS h
theorem wpAnyZ_all {rs : List Nat} {fuel : Nat} {listed : Array Bool} {a : Act} {w : World} (hr : Region.ready md ops listed = rs) (hne : rs ≠ [])
    (h : ∀ i ∈ rs, wpOp P ops Q i (fun a' w' => (i ≠ z → S w') ∧ wpAnyZ P md ops Q z S fuel (listed.setIfInBounds i true) a' w') a w) : wpAnyZ P md ops Q z S (fuel + 1) listed a w :=
  ⟨fun h0 => absurd (hr ▸ h0) hne, hr ▸ h⟩
theorem wpAnyZ_done {listed : Array Bool} {a : Act} {w : World} (hr : Region.ready md ops listed = []) (h : Q .normal a w) :
    ∀ fuel, wpAnyZ P md ops Q z S fuel listed a w
  | 0 => ⟨hr, h⟩
  | _ + 1 => ⟨fun _ => h, by rw [hr]; simp⟩
theorem wp_region_Z (z : Nat) {id : Nat} {a : Act} {w : World} (hm : P.follows .mixedOrders = true)
    (h : wpAnyZ P .any ops Q z S ops.size (Array.replicate ops.size false) a w.drew) : (Code.region id ops true).wp P Q a w :=
  wp_region_any hm (wpAny_of_Z _ _ _ _ h)
/-- One of those that may come up: not the last one; the last one. -/
theorem stepZ {fuel : Nat} {listed : Array Bool} {a : Act} {w : World} {i : Nat} {o : Oper} (ho : ops[i]? = some o)
    (h : ∀ K' : Act → World → Prop, (∀ a w, S w → wpAnyZ P md ops Q z S fuel (listed.setIfInBounds i true) a w → K' a w) → if Region.wanted o (yielded ops a.tmps) = true then Oper.wp P o a w K' Q else K' (a.put o.dst undef) w) :
    wpOp P ops Q i (fun a' w' => (i ≠ z → S w') ∧ wpAnyZ P md ops Q z S fuel (listed.setIfInBounds i true) a' w') a w :=
  wpOp_step ho fun K' hK => h K' fun a w hS hW => hK a w ⟨fun _ => hS, hW⟩
theorem stepZl {fuel : Nat} {listed : Array Bool} {a : Act} {w : World} {o : Oper} (ho : ops[z]? = some o)
    (h : ∀ K' : Act → World → Prop, (∀ a w, wpAnyZ P md ops Q z S fuel (listed.setIfInBounds z true) a w → K' a w) → if Region.wanted o (yielded ops a.tmps) = true then Oper.wp P o a w K' Q else K' (a.put o.dst undef) w) :
    wpOp P ops Q z (fun a' w' => (z ≠ z → S w') ∧ wpAnyZ P md ops Q z S fuel (listed.setIfInBounds z true) a' w') a w :=
  wpOp_step ho fun K' hK => h K' fun a w hW => hK a w ⟨fun h => absurd rfl h, hW⟩
end

open Go.RowKit
/-- append at a step of a region, what it leaves alone told whole. -/
theorem step_append_x {P : Program} {w : World} {ops : Array Oper} {o : Oper} {a : Act} {K : Act → World → Prop} {Q : Exit → Act → World → Prop} {E : Prop} (hgd : o.guard = none) (s x : Operand) (t : TypeId)
    (ho : o.op = .call { callee := .builtin .append, args := #[s, x], argTypes := #[t, t] })
    (base : Nat) (e : TypeId) (z : Value) (size bytes : Nat) (ht : P.underlying t = some (.slice e)) (hinfo : (P.info? e).map (fun i => (i.zero, i.size, i.bytes)) = some (some z, size, bytes)) (hzs : z.cells.size = size) (hsz0 : 0 < size)
    (v : Value) (n : Nat) (xs : List Value) (hs : a.eval s = v) (hown : w.ownsRow base e size v n xs)
    (b off m c : Nat) (news : List Value) (hx : a.eval x = .slice (some ⟨b, off, none⟩) m c) (hr : Has w (some ⟨b, off, none⟩) news) (hm : news.length = m * size) (h1 : ∀ u ∈ news, u.oneCell' = true)
    (h63 : n + m ≤ maxLen) (hbytes : (n + m) * bytes ≤ 140737488355328) (hbase : base ≤ w.heap.size)
    (h : ∀ A' c' w', w'.ownsRow base e size (.slice A' (n + m) c') (n + m) (xs ++ news) → w.grownBy w' v.ownBlock → Below base w w' → ((Value.slice A' (n + m) c').ownBlock = v.ownBlock ∨ (Value.slice A' (n + m) c').ownBlock = some w.heap.size) → (A' = none → c' = 0) → K (a.put o.dst (.slice A' (n + m) c')) w') :
    if Region.wanted o (yielded ops a.tmps) = true then Oper.wp P o a w K Q else E := by
  have hw : Region.wanted o (yielded ops a.tmps) = true := by simp [Region.wanted, hgd]
  rw [if_pos hw]
  obtain ⟨i, hi, hz, hsz, hby⟩ := info_parts hinfo
  have hcells : ∀ j u, news[j]? = some u → w.cell? ((⟨b, off, none⟩ : Addr).add j) = some u := by
    intro j u hu
    rcases hr with h | ⟨b', off', h, _, hc⟩
    · subst h; simp at hu
    · injection h with h
      injection h with h1 h2
      subst h1 h2
      rw [add_plain]
      exact hc j u hu
  obtain ⟨v', w', hrun, h2, h3, _, hat⟩ := run_append_own_at (P := P) w base t o.type e i z size bytes ht hi hz hsz hby hzs hsz0 v n xs hown ⟨b, off, none⟩ m c news hm hcells h1 h63 hbytes hbase
  obtain ⟨A', c', hv, hc'⟩ := ownG_shape h2
  subst hv
  unfold Oper.wp execOp
  simp only [ho, resolve, invoke, builtin, Sem.run_bind, Sem.run_pure, Result.andThen_ok, List.map_toArray, List.map_cons, List.map_nil, hs, hx, hrun]
  exact h A' c' w' h2 h3 ((Below.refl _ _).grown h3 hbase fun k hk => (hown.lt k hk).1) hat hc'
end Go.Proofs.YtkdpjocglfephaaDoor

/- Cells of values in a block that may be written; what lies in old blocks; a turn of a list. -/


namespace Go.Proofs.YtkdpjocglfephaaDoor
open Go.RowKit
set_option linter.unusedVariables false

def Cells3 (w : World) (g : Nat) (d : List Val3) : Prop := g < w.heap.size ∧ ∀ j v, (fl d)[j]? = some v → w.cell? ⟨g, j, none⟩ = some v ∧ w.frozen? ⟨g, j, none⟩ = false
theorem Cells3.has {w : World} {g : Nat} {d : List Val3} (h : Cells3 w g d) : Has w (some ⟨g, 0, none⟩) (fl d) := .inr ⟨g, 0, rfl, h.1, fun k v hv => by rw [Nat.zero_add]; exact (h.2 k v hv).1⟩
theorem Cells3.get {w : World} {g : Nat} {d : List Val3} (h : Cells3 w g d) (k : Nat) (hk : k < d.length) :
    w.cell? ⟨g, k * 3, none⟩ = some (.int .i64 d[k].1) ∧ w.cell? ⟨g, k * 3 + 1, none⟩ = some (.int .i64 d[k].2.1) ∧ w.cell? ⟨g, k * 3 + 2, none⟩ = some (.string d[k].2.2) ∧ w.frozen? ⟨g, k * 3, none⟩ = false ∧ w.frozen? ⟨g, k * 3 + 1, none⟩ = false ∧ w.frozen? ⟨g, k * 3 + 2, none⟩ = false := by
  obtain ⟨h0, h1, h2⟩ := fl_get d k hk
  exact ⟨(h.2 _ _ h0).1, (h.2 _ _ h1).1, (h.2 _ _ h2).1, (h.2 _ _ h0).2, (h.2 _ _ h1).2, (h.2 _ _ h2).2⟩
theorem Cells3.later {w w' : World} {g : Nat} {d : List Val3} (h : Cells3 w g d) (l : Later w w') : Cells3 w' g d := by
  refine ⟨Nat.lt_of_lt_of_le h.1 l.size, fun j v hv => ?_⟩
  obtain ⟨h1, h2⟩ := h.2 j v hv
  refine ⟨l.cell h1, ?_⟩
  have e := Below.block l g h.1
  unfold World.frozen? at h2 ⊢
  rw [e]
  exact h2
/-- A literal of no elements. -/
theorem own_empty (w : World) (base : Nat) (e : TypeId) (size : Nat) (hb : base ≤ w.heap.size) : (w.alloc (.cells #[] e)).ownsRow base e size (.slice (some ⟨w.heap.size, 0, none⟩) 0 0) 0 [] :=
  ⟨by simp, .inr ⟨w.heap.size, 0, #[], rfl, hb, heap_alloc_new w _, Nat.le_refl _, Nat.zero_le _, by simp, by simp⟩⟩

theorem own_some {w : World} {base : Nat} {e : TypeId} {size n c : Nat} {A : Option Addr} {xs : List Value} (h : w.ownsRow base e size (.slice A n c) n xs) (hn : 0 < n) : ∃ g, A = some ⟨g, 0, none⟩ := by
  rcases h.2 with ⟨_, h0⟩ | ⟨g, cap, cur, hv, _⟩
  · omega
  · injection hv with e1 e2 e3; exact ⟨g, e1⟩
end Go.Proofs.YtkdpjocglfephaaDoor

/- append at a step of a region, of a slice that may be nothing. -/

namespace Go.Proofs.YtkdpjocglfephaaDoor
open Go.RowKit
set_option linter.unusedVariables false

theorem step_append_n {P : Program} {w : World} {ops : Array Oper} {o : Oper} {a : Act} {K : Act → World → Prop} {Q : Exit → Act → World → Prop} {E : Prop} (hgd : o.guard = none) (s x : Operand) (t : TypeId)
    (ho : o.op = .call { callee := .builtin .append, args := #[s, x], argTypes := #[t, t] })
    (base : Nat) (e : TypeId) (z : Value) (size bytes : Nat) (ht : P.underlying t = some (.slice e)) (hinfo : (P.info? e).map (fun i => (i.zero, i.size, i.bytes)) = some (some z, size, bytes)) (hzs : z.cells.size = size) (hsz0 : 0 < size)
    (v : Value) (n : Nat) (xs : List Value) (hs : a.eval s = v) (hown : w.ownsRow base e size v n xs)
    (A : Option Addr) (m c : Nat) (news : List Value) (hx : a.eval x = .slice A m c) (hr : Has w A news) (hm : news.length = m * size) (hnil : A = none → c = 0) (h1 : ∀ u ∈ news, u.oneCell' = true)
    (h63 : n + m ≤ maxLen) (hbytes : (n + m) * bytes ≤ 140737488355328) (hbase : base ≤ w.heap.size)
    (h : ∀ A' c' w', w'.ownsRow base e size (.slice A' (n + m) c') (n + m) (xs ++ news) → w.grownBy w' v.ownBlock → Below base w w' → (A' = none → c' = 0) → K (a.put o.dst (.slice A' (n + m) c')) w') :
    if Region.wanted o (yielded ops a.tmps) = true then Oper.wp P o a w K Q else E := by
  have hw : Region.wanted o (yielded ops a.tmps) = true := by simp [Region.wanted, hgd]
  rcases A with _ | ad
  · have hn : news = [] := by
      rcases hr with h | ⟨b, off, h, _⟩
      · exact h
      · cases h
    subst hn
    have hm0 : m = 0 := by
      rcases Nat.eq_zero_or_pos m with h | h
      · exact h
      · have := Nat.mul_pos h hsz0
        rw [← hm] at this
        simp at this
    subst hm0
    have hc0 := hnil rfl
    subst hc0
    obtain ⟨A', c', hv, hc'⟩ := ownG_shape hown
    subst hv
    rw [if_pos hw]
    obtain ⟨i, hi, hz, hsz, hby⟩ := info_parts hinfo
    have hrun := run_append_owned_none (P := P) (w := w) base t o.type e i size ht hi _ n xs hown
    unfold Oper.wp execOp
    simp only [ho, resolve, invoke, builtin, Sem.run_bind, Sem.run_pure, Result.andThen_ok, List.map_toArray, List.map_cons, List.map_nil, hs, hx, hrun]
    exact h A' c' w (by simpa using hown) (World.grownBy.refl _ _) (Below.refl _ _) hc'
  · rcases hr with h0 | ⟨b, off, e1, hb, hc⟩
    · subst h0
      rw [if_pos hw]
      obtain ⟨i, hi, hz, hsz, hby⟩ := info_parts hinfo
      obtain ⟨v', w', hrun, h2, h3, _, hat⟩ := run_append_own_at (P := P) w base t o.type e i z size bytes ht hi hz hsz hby hzs hsz0 v n xs hown ad m c [] hm (fun j u hu => by simp at hu) h1 h63 hbytes hbase
      obtain ⟨A', c', hv, hc'⟩ := ownG_shape h2
      subst hv
      unfold Oper.wp execOp
      simp only [ho, resolve, invoke, builtin, Sem.run_bind, Sem.run_pure, Result.andThen_ok, List.map_toArray, List.map_cons, List.map_nil, hs, hx, hrun]
      exact h A' c' w' h2 h3 ((Below.refl _ _).grown h3 hbase fun k hk => (hown.lt k hk).1) hc'
    · injection e1 with e1
      subst e1
      exact step_append_x hgd s x t ho base e z size bytes ht hinfo hzs hsz0 v n xs hs hown b off m c news hx (.inr ⟨b, off, rfl, hb, hc⟩) hm h1 h63 hbytes hbase fun A' c' w' h2 h3 h4 _ h6 => h A' c' w' h2 h3 h4 h6
theorem has_below {w w' : World} {base : Nat} {A : Option Addr} {xs : List Value} (h : Has w A xs) (hA : ∀ b off, A = some ⟨b, off, none⟩ → b < base) (l : Below base w w') : Has w' A xs := by
  rcases h with h | ⟨b, off, e, hb, hc⟩
  · exact .inl h
  · exact .inr ⟨b, off, e, Nat.lt_of_lt_of_le hb l.size, fun k v hv => (l.cell (p := ⟨b, off + k, none⟩) (hA b off e)).trans (hc k v hv)⟩
theorem has_grown {w w' : World} {g q : Nat} {xs : List Value} {o : Option Nat} (h : Has w (some ⟨g, 0, none⟩) xs) (l : w.grownBy w' o) (ho : o = some q) (hne : g ≠ q) : Has w' (some ⟨g, 0, none⟩) xs := by
  rcases h with h | ⟨b, off, e, hb, hc⟩
  · exact .inl h
  · injection e with e
    injection e with e1 e2
    subst e1 e2
    refine .inr ⟨g, 0, rfl, Nat.lt_of_lt_of_le hb l.size, fun k v hv => ?_⟩
    rw [cell_block (l.block g hb (by rw [ho]; intro e; injection e with e; exact hne e))]
    exact hc k v hv
end Go.Proofs.YtkdpjocglfephaaDoor
