/- The walk of agg.check; the order of the groups. -/
import Derived.Test.YtiacemlloaenoaaDoorAggC
namespace Go.Proofs.YtiacemlloaenoaaDoor
open Go.RowKit
set_option linter.unusedVariables false

/-- Ints as cells. -/
def iin (l : List Int) : List Value := l.map (Value.int .i64)
theorem iin_len (l : List Int) : (iin l).length = l.length := by simp [iin]
theorem Has.iin {w : World} {A : Option Addr} {l : List Int} (h : Has w A (iin l)) (k : Nat) (hk : k < l.length) : ∃ b off, A = some ⟨b, off, none⟩ ∧ w.cell? ⟨b, off + k, none⟩ = some (.int .i64 l[k]) := by
  obtain ⟨b, off, hA, _, hc⟩ := h.at_ (k := k) (by rw [iin_len]; exact hk)
  refine ⟨b, off, hA, ?_⟩
  rw [hc]; simp [Go.Proofs.YtiacemlloaenoaaDoor.iin]
/-- Aggregates as cells. -/
def fa (l : List (Int × Int)) : List Value := l.flatMap fun x => [.int .i64 x.1, .int .i64 x.2]
theorem fa_length : ∀ l : List (Int × Int), (fa l).length = l.length * 2
  | [] => rfl
  | x :: r => by
    have := fa_length r
    show ([_, _] ++ fa r).length = _
    rw [List.length_append, this, List.length_cons]
    simp; omega
theorem fa_get : ∀ (l : List (Int × Int)) (k : Nat) (h : k < l.length), (fa l)[k * 2]? = some (.int .i64 l[k].1) ∧ (fa l)[k * 2 + 1]? = some (.int .i64 l[k].2)
  | x :: r, 0, _ => ⟨rfl, rfl⟩
  | x :: r, k + 1, h => by
    have ih := fa_get r k (by simpa using h)
    rw [show (k + 1) * 2 = k * 2 + 2 by omega, show k * 2 + 2 + 1 = k * 2 + 1 + 2 by omega]
    exact ih
theorem Has.fa {w : World} {A : Option Addr} {l : List (Int × Int)} (h : Has w A (fa l)) (k : Nat) (hk : k < l.length) :
    ∃ b off, A = some ⟨b, off, none⟩ ∧ w.cell? ⟨b, off + k * 2, none⟩ = some (.int .i64 l[k].1) ∧ w.cell? ⟨b, off + k * 2 + 1, none⟩ = some (.int .i64 l[k].2) := by
  rcases h with h | ⟨b, off, hA, _, hc⟩
  · have h1 := fa_length l
    rw [h] at h1
    simp at h1
    omega
  · obtain ⟨h0, h1⟩ := fa_get l k hk
    exact ⟨b, off, hA, hc _ _ h0, hc _ _ h1⟩
def AggOk (W : Int) (a : Int × Int) : Prop := 1 ≤ a.1 ∧ a.1 ≤ 4 ∧ a.2 < W ∧ (0 ≤ a.2 ∨ a.1 = 1)
/-- What may be. -/
def RunOk (W : Int) (bys : List Int) (aggs : List (Int × Int)) : Prop := (∀ c ∈ bys, 0 ≤ c ∧ c < W) ∧ ∀ a ∈ aggs, AggOk W a
def CkI {α : Type} (P : α → Prop) (l : List α) (w : World) (iv : Value) (wr : World) : Prop := ∃ k : Nat, iv = .int .i64 k ∧ k ≤ l.length ∧ (∀ c ∈ l.take k, P c) ∧ Later w wr
theorem CkI.mk {α : Type} {P : α → Prop} {l : List α} {w wr : World} (y : Int) (k : Nat) (hy : y = (k : Int)) (hk : k ≤ l.length) (h : ∀ c ∈ l.take k, P c) (L : Later w wr) : CkI P l w (.int .i64 y) wr := by
  subst hy; exact ⟨k, rfl, hk, h, L⟩
theorem take_all {α : Type} {P : α → Prop} {l : List α} {k : Nat} (h : ∀ c ∈ l.take k, P c) (hk : k < l.length) (hp : P l[k]) : ∀ c ∈ l.take (k + 1), P c := fun c hc => by
  rw [List.take_succ_eq_append_getElem hk] at hc
  rcases List.mem_append.1 hc with hc | hc
  · exact h c hc
  · rw [List.mem_singleton] at hc; subst hc; exact hp
def CheckP (W : Int) (bys : List Int) (aggs : List (Int × Int)) (a0 : Addr) (w : World) (e : Ending) (w' : World) : Prop :=
  (RunOk W bys aggs ∧ e = .returned .nilIface ∧ Later w w') ∨ (¬ RunOk W bys aggs ∧ ∃ v, e = .returned v ∧ ErrD w.heap.size 1 w' v a0 ∧ Later w w')

set_option maxRecDepth 100000 in
set_option maxHeartbeats 4000000 in
theorem check_any24 (W : Int) (Bp Gp : Option Addr) (bn bc gn gc : Nat) (bys : List Int) (aggs : List (Int × Int)) (a0 a1 a2 : Addr) (w : World) (hS : S24 w a0 a1 a2) (hbn : bn = bys.length) (hgn : gn = aggs.length) (hb : Has w Bp (iin bys)) (hg : Has w Gp (fa aggs)) (hl1 : bys.length ≤ 1000) (hl2 : aggs.length ≤ 1000) :
    Calls Tryd.prog 15 #[.int .i64 W, .slice Bp bn bc, .slice Gp gn gc] w (CheckP W bys aggs a0 w) := by
  subst hbn hgn
  have HS := Lib.hid hS
  have HB := Lib.hid hb
  have HG := Lib.hid hg
  have HI0 := Lib.hid (CkI.mk (P := fun c : Int => 0 ≤ c ∧ c < W) (l := bys) (w := w) (wr := w) 0 0 rfl (Nat.zero_le _) (by intro c hc; simp at hc) (Later.refl _))
  clear hS hb hg
  go_enter Tryd.func15, Tryd.ntmps15
  go_wp2_with fail
  go_loopw [13] (fun iv wr => CkI (fun c : Int => 0 ≤ c ∧ c < W) bys w iv wr) (fun i _ => bys.length - (intOf i).toNat)
  case atStart => exact HI0.out
  case round =>
    obtain ⟨k, rfl, hk, hall, lat⟩ := hrel
    have HALL := Lib.hid hall
    have HLAT := Lib.hid lat
    clear HI0 hall
    by_cases hlt : k < bys.length
    · obtain ⟨b, off, hA, c0⟩ := (HB.out.later lat).iin k hlt
      subst hA
      have HTA := Lib.hid (fun (h : 0 ≤ bys[k] ∧ bys[k] < W) => take_all HALL.out hlt h)
      have HMM := Lib.hid (show bys[k] ∈ bys from List.getElem_mem hlt)
      generalize bys[k] = c at c0 HTA HMM
      have x0 := (HS.out.later lat).arg
      clear lat
      by_cases h0 : c < 0
      · have HBAD := Lib.hid (show ¬ RunOk W bys aggs from fun h => by have := h.1 _ HMM.out; omega)
        have hd : decide (c < 0) = true := by simpa using h0
        have hsz := HLAT.out.size
        go_wp2_with (go_at_call 18; refine (at_e0 _ _ a0 wr).mono ?_; rintro e wn ⟨v, rfl, hv, l2⟩; have HV := Lib.hid (hv.mono (B' := w.heap.size) hsz); have HL2 := Lib.hid (HLAT.out.trans l2); clear l2 hv)
        go_ret
        exact .inr ⟨HBAD.out, _, rfl, HV.out, HL2.out⟩
      · have hd : decide (c < 0) = false := by simpa using h0
        by_cases h1 : W ≤ c
        · have HBAD := Lib.hid (show ¬ RunOk W bys aggs from fun h => by have := h.1 _ HMM.out; omega)
          have hd2 : decide (W ≤ c) = true := by simpa using h1
          have hd3 : decide (c ≥ W) = true := by simpa using h1
          have hsz := HLAT.out.size
          go_wp2_with (go_at_call 18; refine (at_e0 _ _ a0 wr).mono ?_; rintro e wn ⟨v, rfl, hv, l2⟩; have HV := Lib.hid (hv.mono (B' := w.heap.size) hsz); have HL2 := Lib.hid (HLAT.out.trans l2); clear l2 hv)
          go_ret
          exact .inr ⟨HBAD.out, _, rfl, HV.out, HL2.out⟩
        · have hd2 : decide (W ≤ c) = false := by simpa using h1
          have hd3 : decide (c ≥ W) = false := by simpa using h1
          have HT2 := Lib.hid (HTA.out ⟨by omega, by omega⟩)
          clear HTA HMM
          go_wp2_with fail
          go_roundw
          case rel => exact CkI.mk _ (k + 1) (by omega) hlt HT2.out HLAT.out
          case measure => simp [intOf]; omega
    · have HBY := Lib.hid (show ∀ c ∈ bys, 0 ≤ c ∧ c < W from by
        have := HALL.out
        rwa [show k = bys.length by omega, List.take_length] at this)
      have HJ0 := Lib.hid (CkI.mk (P := AggOk W) (l := aggs) (w := w) (wr := wr) 0 0 rfl (Nat.zero_le _) (by intro c hc; simp at hc) lat)
      clear HALL lat
      go_wp2_with fail
      go_loopw [31] (fun iv wr => CkI (AggOk W) aggs w iv wr) (fun i _ => aggs.length - (intOf i).toNat)
      case atStart => exact HJ0.out
      case round =>
        obtain ⟨j, rfl, hj, hall, lat⟩ := hrel
        have HALL := Lib.hid hall
        clear HJ0 hall HLAT
        by_cases hltj : j < aggs.length
        · obtain ⟨b, off, hA, c0, c1⟩ := (HG.out.later lat).fa j hltj
          subst hA
          have HTA := Lib.hid (fun (h : AggOk W (aggs[j].1, aggs[j].2)) => take_all HALL.out hltj h)
          have HMM := Lib.hid (show (aggs[j].1, aggs[j].2) ∈ aggs from List.getElem_mem hltj)
          generalize aggs[j].1 = op at c0 HTA HMM
          generalize aggs[j].2 = at_ at c1 HTA HMM
          obtain ⟨gv, hgv⟩ : ∃ g, wr.heap.size = g := ⟨_, rfl⟩
          obtain ⟨w1, hw1⟩ : ∃ x, wr.alloc (.cells #[.int .i64 op, .int .i64 at_] 42) = x := ⟨_, rfl⟩
          have BV := Blk.new wr #[.int .i64 op, .int .i64 at_] 42 gv hgv.symm
          have HLW := Lib.hid (lat.alloc (.cells #[.int .i64 op, .int .i64 at_] 42))
          rw [hw1] at BV HLW
          have v0 := BV.cell 0 _ rfl
          have v1 := BV.cell 1 _ rfl
          have x0 := (HS.out.later HLW.out).arg
          clear lat BV
          have hsz := HLW.out.size
          by_cases hok : AggOk W (op, at_)
          · have HT2 := Lib.hid (HTA.out hok)
            obtain ⟨k1, k2, k3, k4⟩ := hok
            dsimp only at k1 k2 k3 k4
            have d1 : decide (op < 1) = false := by simpa using k1
            have d2 : decide (op > 4) = false := by simpa using k2
            have d3 : decide (at_ ≥ W) = false := by simpa using k3
            have d2' : decide (4 < op) = false := by simpa using k2
            have d3' : decide (W ≤ at_) = false := by simpa using k3
            by_cases h4 : at_ < 0
            · have d4 : decide (at_ < 0) = true := by simpa using h4
              obtain rfl : op = 1 := by omega
              clear HTA HMM k1 k2 k3 k4 h4
              go_wp2_with fail
              go_roundw
              case rel => exact CkI.mk _ (j + 1) (by omega) hltj HT2.out HLW.out
              case measure => simp [intOf]; omega
            · have d4 : decide (at_ < 0) = false := by simpa using h4
              clear HTA HMM k1 k2 k3 k4 h4
              go_wp2_with fail
              go_roundw
              case rel => exact CkI.mk _ (j + 1) (by omega) hltj HT2.out HLW.out
              case measure => simp [intOf]; omega
          · have HBAD := Lib.hid (show ¬ RunOk W bys aggs from fun h => hok (h.2 _ HMM.out))
            clear HTA HMM HALL
            have hcase : (op < 1) ∨ (¬ op < 1 ∧ 4 < op) ∨ (¬ op < 1 ∧ ¬ 4 < op ∧ W ≤ at_) ∨ (¬ op < 1 ∧ ¬ 4 < op ∧ ¬ W ≤ at_ ∧ at_ < 0 ∧ op ≠ 1) := by
              unfold AggOk at hok
              dsimp only at hok
              omega
            clear hok
            rcases hcase with h1 | ⟨h1, h2⟩ | ⟨h1, h2, h3⟩ | ⟨h1, h2, h3, h4, h5⟩
            · have d1 : decide (op < 1) = true := by simpa using h1
              go_wp2_with (go_at_call 18; refine (at_e0 _ _ a0 w1).mono ?_; rintro e wn ⟨v, rfl, hv, l2⟩; have HV := Lib.hid (hv.mono (B' := w.heap.size) hsz); have HL2 := Lib.hid (HLW.out.trans l2); clear l2 hv)
              go_ret
              exact .inr ⟨HBAD.out, _, rfl, HV.out, HL2.out⟩
            · have d1 : decide (op < 1) = false := by simpa using h1
              have d2 : decide (4 < op) = true := by simpa using h2
              go_wp2_with (go_at_call 18; refine (at_e0 _ _ a0 w1).mono ?_; rintro e wn ⟨v, rfl, hv, l2⟩; have HV := Lib.hid (hv.mono (B' := w.heap.size) hsz); have HL2 := Lib.hid (HLW.out.trans l2); clear l2 hv)
              go_ret
              exact .inr ⟨HBAD.out, _, rfl, HV.out, HL2.out⟩
            · have d1 : decide (op < 1) = false := by simpa using h1
              have d2 : decide (4 < op) = false := by simpa using h2
              have d3 : decide (W ≤ at_) = true := by simpa using h3
              go_wp2_with (go_at_call 18; refine (at_e0 _ _ a0 w1).mono ?_; rintro e wn ⟨v, rfl, hv, l2⟩; have HV := Lib.hid (hv.mono (B' := w.heap.size) hsz); have HL2 := Lib.hid (HLW.out.trans l2); clear l2 hv)
              go_ret
              exact .inr ⟨HBAD.out, _, rfl, HV.out, HL2.out⟩
            · have d1 : decide (op < 1) = false := by simpa using h1
              have d2 : decide (4 < op) = false := by simpa using h2
              have d3 : decide (W ≤ at_) = false := by simpa using h3
              have d4 : decide (at_ < 0) = true := by simpa using h4
              have d5 : (op != 1) = true := by simpa using h5
              go_wp2_with (go_at_call 18; refine (at_e0 _ _ a0 w1).mono ?_; rintro e wn ⟨v, rfl, hv, l2⟩; have HV := Lib.hid (hv.mono (B' := w.heap.size) hsz); have HL2 := Lib.hid (HLW.out.trans l2); clear l2 hv)
              go_ret
              exact .inr ⟨HBAD.out, _, rfl, HV.out, HL2.out⟩
        · have HAG := Lib.hid (show ∀ c ∈ aggs, AggOk W c from by
            have := HALL.out
            rwa [show j = aggs.length by omega, List.take_length] at this)
          have HLT := Lib.hid lat
          clear HALL lat
          go_wp2_with fail
          go_ret
          exact .inl ⟨⟨HBY.out, HAG.out⟩, rfl, HLT.out⟩
end Go.Proofs.YtiacemlloaenoaaDoor
