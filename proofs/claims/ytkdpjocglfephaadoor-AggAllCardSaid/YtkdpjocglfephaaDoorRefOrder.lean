
import Derived.Test.YtkdpjocglfephaaDoorRefBef
import Derived.Test.YtkdpjocglfephaaDoorGrpN
import Derived.Test.YtkdpjocglfephaaDoorRefSum
import Derived.Test.YtkdpjocglfephaaDoorBase
import Derived.Test.YtkdpjocglfephaaDoorCell
import Derived.Test.YtkdpjocglfephaaDoorAggB
import Derived.Test.YtkdpjocglfephaaDoorTab
import Derived.Test.YtkdpjocglfephaaDoorAggS
import Derived.Test.YtkdpjocglfephaaDoorGrpT
import Derived.Laws.Externs
import Derived.Shelf.SlSortCmp.QuietGrown
import Derived.BigQuiet
import Derived.Test.YtkdpjocglfephaaDoorInsl
import Derived.WalkKit
import Derived.Laws.OwnMore
import Derived.Laws.BytesArg
import Derived.Laws.Rows
import Derived.Deep.AppendLies
import Derived.Deep.Draws
import Derived.Test.YtkdpjocglfephaaDoorChecked
import Derived.Deep.OwnRows
import Derived.Lib.Hide
import Derived.Deep.Quiet
import Derived.Laws.AppendOwnNone
import Derived.Lib.Strings
import Derived.Outline
import Derived.WalkLawsBesides
import Derived.WalkSpells
import Derived.PlainAid
import Derived.Deep.QuietTactic
import Derived.RegionTactic
import Derived.BigRegion
import Derived.Handy
import Derived.Laws.BitsAllLaws
import Derived.Deep.RegionWith
import Derived.Lib.AppendStr
import Derived.Deep.RegionLaw
import Derived.Maps.AppendAt
import Derived.OpenShut
import Derived.WideShapes
import Derived.ChangeArms
import Derived.Deep.Slices
import Derived.Sort.Grow
import Derived.OrdersHeld
import Derived.LaidEql
import Derived.Stop.Asserts
import Derived.RowKitTokens
import Derived.Laws.BitsLemmas
import Derived.Laws.Bits64
import Derived.WalkSmall
import Derived.Stop.IfaceNil
import Derived.Lib.Bytealg
import Derived.Deep.SlicePairs
import Derived.Test.YtkdpjocglfephaaDoorShelf
import Derived.Deep.RegionHeld3
import Derived.Deep.CutBlock
import Derived.Deep.CutRange
import Derived.Sort.LotA
/- The document's Order. (tools/gen_reforder.py) -/



namespace Go.Proofs.YtkdpjocglfephaaDoor
open Go.RowKit
set_option linter.unusedVariables false

theorem pin_take (l : List Nat) (j : Nat) : pin (l.take j) = (pin l).take j := by simp [pin]
theorem pin_drop (l : List Nat) (j : Nat) : pin (l.drop j) = (pin l).drop j := by simp [pin]
theorem pin_one (l : List Nat) : ∀ u ∈ pin l, u.oneCell' = true := by
  intro u hu
  obtain ⟨n, _, rfl⟩ := List.mem_map.1 hu
  rfl
theorem info_io : (Tryd.prog.info? 3).map (fun i => (i.zero, i.size, i.bytes)) = some (some (.int .i64 0), 1, 8) := by kernel_rfl
theorem Has.ptake {w : World} {A : Option Addr} {l : List Nat} (h : Has w A (Go.Proofs.YtkdpjocglfephaaDoor.pin l)) (j : Nat) : Has w A (Go.Proofs.YtkdpjocglfephaaDoor.pin (l.take j)) := by
  rcases h with h | ⟨b, off, e, hb, hc⟩
  · left; rw [pin_take, h]; simp
  · refine .inr ⟨b, off, e, hb, fun k v hv => hc k v ?_⟩
    rw [pin_take, List.getElem?_take] at hv
    split at hv
    · exact hv
    · cases hv
theorem Has.pdrop {w : World} {b off : Nat} {l : List Nat} (h : Has w (some ⟨b, off, none⟩) (Go.Proofs.YtkdpjocglfephaaDoor.pin l)) (j : Nat) : Has w (some ⟨b, off + j, none⟩) (Go.Proofs.YtkdpjocglfephaaDoor.pin (l.drop j)) := by
  rcases h with h | ⟨b', off', e, hb, hc⟩
  · left; rw [pin_drop, h]; simp
  · injection e with e
    injection e with e1 e2
    subst e1 e2
    refine .inr ⟨b, off + j, rfl, hb, fun k v hv => ?_⟩
    rw [pin_drop, List.getElem?_drop] at hv
    have := hc _ v hv
    rw [Nat.add_assoc]; exact this
/-- Where Order's loop stands. -/
def OrI (cf : Nat → Nat → Int) (N : Nat) (w : World) (pv iv : Value) (wr : World) : Prop :=
  ∃ (i : Nat) (P : Option Addr) (m pc : Nat) (S : List Nat), pv = .slice P m pc ∧ iv = .int .i64 i ∧ i ≤ N ∧ m = S.length ∧ IsS cf i S ∧ wr.ownsRow w.heap.size 3 1 (.slice P m pc) m (pin S) ∧ (P = none → pc = 0) ∧ (m = 0 → P = none) ∧ Later w wr
theorem OrI.mk {cf : Nat → Nat → Int} {N : Nat} {w wr : World} (y : Int) (i : Nat) (P : Option Addr) (m pc : Nat) (S : List Nat) (hy : y = (i : Int)) (hi : i ≤ N) (hm : m = S.length) (hS : IsS cf i S) (ho : wr.ownsRow w.heap.size 3 1 (.slice P m pc) m (pin S)) (hn : P = none → pc = 0) (hz : m = 0 → P = none) (L : Later w wr) : OrI cf N w (.slice P m pc) (.int .i64 y) wr := by
  subst hy; exact ⟨i, P, m, pc, S, rfl, rfl, hi, hm, hS, ho, hn, hz, L⟩
/-- What Order gives. -/
def OrderP (cf : Nat → Nat → Int) (N : Nat) (w : World) (e : Ending) (w' : World) : Prop :=
  ∃ (P : Option Addr) (m pc : Nat) (S : List Nat), e = .returned (.slice P m pc) ∧ m = S.length ∧ IsS cf N S ∧ Has w' P (pin S) ∧ Later w w'
/-- How far the inner loop has come. -/
def OkI (cf : Nat → Nat → Int) (i : Nat) (S : List Nat) (j : Nat) : Prop := ∀ q (h : q < S.length), j ≤ q → cf i S[q] < 0

set_option maxRecDepth 100000 in
set_option maxHeartbeats 8000000 in
theorem refOrder_any (A Kp : Option Addr) (n c kn kc : Nat) (zs : List SlV) (bys : List Int) (N : Nat) (w : World) (hn : n = zs.length) (hkn : kn = bys.length) (hl : zs.length ≤ 1000) (hkl : bys.length ≤ 1000) (hr : RowsAt w A zs) (hk : Has w Kp (fkey bys)) (hin : ∀ c ∈ bys, 0 ≤ c ∧ c < (zs.length : Int))
    (hN : heightC (colsOf zs) = N) (hN1 : N ≤ 1000) (hlen : ∀ s ∈ zs, N ≤ s.l.length ∧ s.l.length ≤ 1000) :
    Calls Tryd.prog 40 #[.slice A n c, .slice Kp kn kc] w (OrderP (cmpBy (colsOf zs) bys) N w) := by
  have HR := Lib.hid hr
  have HK := Lib.hid hk
  have HIN := Lib.hid hin
  have HLEN := Lib.hid hlen
  have HZN := Lib.hid hn
  have HKN := Lib.hid hkn
  have HNN := Lib.hid hN
  have HTU := Lib.hid (fun x y => cmpBy_turn (colsOf zs) bys x y)
  have HTR := Lib.hid (fun x y z h1 h2 => cmpBy_trans (colsOf zs) bys x y z h1 h2)
  have HBF := Lib.hid (fun (i y : Nat) (hi : i < N) (hy : y < N) (W : World) (l : Later w W) => refBefore_any A Kp n c kn kc zs bys i y W HZN.out HKN.out hl hkl (HR.out.later l) (HK.out.later l) HIN.out (fun s hs => by have := HLEN.out s hs; omega))
  have HCT := Lib.hid (fun (W : World) (l : Later w W) => refCount_any A n c zs W HZN.out (by have := HZN.out; omega) (HR.out.later l) (fun s hs => by have := HLEN.out s hs; omega))
  generalize cmpBy (colsOf zs) bys = cf at HTU HTR HBF ⊢
  have HI0 := Lib.hid (OrI.mk (cf := cf) (N := N) (w := w) (wr := w) 0 0 none 0 0 [] rfl (Nat.zero_le _) rfl ⟨by simp, List.Pairwise.nil⟩ (ownG_nil _ _ _ _) (fun _ => rfl) (fun _ => rfl) (Later.refl _))
  clear hr hk hin hlen hn hkn hN
  go_enter Tryd.func40, Tryd.ntmps40
  go_wp2_with fail
  go_loopw [5, 6] (fun pv iv wr => OrI cf N w pv iv wr) (fun _ i _ => N - (intOf i).toNat)
  case atStart => exact HI0.out
  case round =>
    obtain ⟨i, P, m, pc, S, rfl, rfl, hi, hm, hS, hown, hnil, hz, lat⟩ := hrel
    have HM := Lib.hid hm
    have HSS := Lib.hid hS
    have HOWN := Lib.hid hown
    have HNIL := Lib.hid hnil
    have HZ := Lib.hid hz
    have HLAT := Lib.hid lat
    clear HI0 hm hS hown hnil hz
    obtain ⟨wo, hwo⟩ : ∃ x, x = wr := ⟨_, rfl⟩
    subst hwo
    go_wp2_with fail
    refine (HCT.out _ lat).mono ?_
    rintro e w2 ⟨rfl, rfl⟩
    rw [HNN.out]
    by_cases hlt : i < N
    rotate_left
    · have hii : ¬ (i : Int) < (N : Int) := by omega
      have HE := Lib.hid (show i = N by omega)
      clear lat
      go_wp2_with fail
      go_ret
      refine ⟨P, m, pc, S, rfl, HM.out, ?_, Has.ownG HOWN.out, HLAT.out⟩
      rw [← HE.out]; exact HSS.out
    have hii : (i : Int) < (N : Int) := by omega
    have HMI := Lib.hid (show m = i by rw [HM.out, HSS.out.1.length_eq]; simp)
    have hmb : m ≤ 1000 := by have := HMI.out; omega
    have HLTS := Lib.hid (fun (q : Nat) (h : q < S.length) => (List.mem_range.1 (HSS.out.1.mem_iff.1 (List.getElem_mem h)) : S[q] < i))
    clear lat
    go_upto_block 2 with fail
    go_cut [7] from 16 to 30 (fun kv wx => ∃ j : Nat, kv = .int .i64 j ∧ j ≤ m ∧ OkI cf i S j ∧ (∀ (h : j - 1 < S.length), j ≠ 0 → ¬ cf i S[j - 1] < 0) ∧ Later wo wx)
    case first => as_aux_lemma =>
      have HJ0 := Lib.hid (show OkI cf i S m from fun q h hq => absurd h (by have := HM.out; omega))
      go_wp2_with fail
      go_loopw [7] (fun kv wz => ∃ j : Nat, kv = .int .i64 j ∧ j ≤ m ∧ OkI cf i S j ∧ Later wo wz) (fun v _ => (intOf v).toNat)
      case atStart => exact ⟨m, rfl, Nat.le_refl _, HJ0.out, Later.refl _⟩
      case round =>
        obtain ⟨j, rfl, hj, hok, lz⟩ := hrel
        have HOK := Lib.hid hok
        have HLZ := Lib.hid lz
        clear HJ0 hok
        rcases j with _ | j
        · clear lz
          go_wp2_with fail
          go_meet
          exact ⟨0, rfl, Nat.zero_le _, HOK.out, fun _ h => absurd rfl h, HLZ.out⟩
        · have hjS : j < S.length := by have := HM.out; omega
          have hj0 : (0 : Int) < (j : Int) + 1 := by omega
          have hjm : (j : Int) < (m : Int) := by omega
          have hwj : IntKind.i64.wrap (j : Int) = (j : Int) := IntWalk.i64_in _ ⟨by omega, by omega⟩
          obtain ⟨sb, so, hP, cs⟩ := ((Has.ownG HOWN.out).later lz).pin j hjS
          have HB := Lib.hid (HBF.out i S[j] hlt (by have := HLTS.out j hjS; omega) wr (HLAT.out.trans lz))
          have HSTEP := Lib.hid (fun (h : cf i S[j] < 0) => (fun q hq hjq => by
            rcases Nat.lt_or_ge j q with h1 | h1
            · exact HOK.out q hq h1
            · obtain rfl : j = q := by omega
              exact h : OkI cf i S j))
          obtain ⟨y, hy⟩ : ∃ y, S[j] = y := ⟨_, rfl⟩
          rw [hy] at cs HB HSTEP
          have HY := Lib.hid hy
          clear hy
          subst hP
          clear lz
          go_wp2_with fail
          refine HB.out.mono ?_
          rintro e wy ⟨rfl, ly⟩
          have HLY := Lib.hid (HLZ.out.trans ly)
          clear ly HB cs
          by_cases hb : cf i y < 0
          · have hbd : decide (cf i y < 0) = true := by simp [hb]
            have HOJ := Lib.hid (HSTEP.out hb)
            clear hb HSTEP
            go_wp2_with fail
            go_roundw
            case rel => exact ⟨j, by go_num, by omega, HOJ.out, HLY.out⟩
            case measure => first | (simp [intOf]; done) | (simp [intOf]; omega)
          · have hbd : decide (cf i y < 0) = false := by simp; omega
            have HNB := Lib.hid hb
            clear hb HSTEP
            go_wp2_with fail
            go_meet
            refine ⟨j + 1, rfl, hj, HOK.out, fun h1 _ => ?_, HLY.out⟩
            have e : S[j + 1 - 1] = y := HY.out
            rw [e]; exact HNB.out
    case rest =>
    obtain ⟨j, rfl, hj, hok, hprev, lx⟩ := hcut
    have HNEW := Lib.hid (show IsS cf (i + 1) (S.take j ++ i :: S.drop j) from HSS.out.ins HTU.out HTR.out j (by have := HM.out; omega) hok hprev)
    have HLX := Lib.hid (HLAT.out.trans lx)
    have HOX := Lib.hid (own_later HOWN.out lx)
    have HHX := Lib.hid (Has.ownG (own_later HOWN.out lx))
    have HCAP := Lib.hid (show m ≤ pc ∧ pc ≤ 9223372036854775807 from ⟨ownG_cap HOWN.out, ownG_capmax HOWN.out⟩)
    clear hok hprev lx HLTS HSS HOWN
    by_cases h0 : m = 0
    · have hP := HZ.out h0
      subst hP
      have hpc := HNIL.out rfl
      subst hpc
      subst h0
      obtain rfl : j = 0 := by omega
      go_upto_region 8 with fail
      refine wp_region_K (S := fun _ : World => True) (R := fun a b => a = b) (fun _ => rfl) (by kernel_rfl) ?_
      obtain ⟨W0, hW0⟩ : ∃ x, wc.drew = x := ⟨_, rfl⟩
      rw [hW0]
      have lW0 : Later wc W0 := hW0 ▸ (Later.refl wc).drew
      have hS : (fun _ : World => True) W0 := trivial
      have HSZ := Lib.hid (Nat.le_refl W0.heap.size)
      have HWS := Lib.hid (show w.heap.size ≤ W0.heap.size from (HLX.out.trans lW0).size)
      have HLN := Lib.hid (Below.refl W0.heap.size W0)
      have HTL := Lib.hid (show (S.take 0).length = 0 * 1 by rw [List.length_take]; have := HM.out; omega)
      have HDL := Lib.hid (show (S.drop 0).length = (0) * 1 by rw [List.length_drop]; have := HM.out; omega)
      have HH1 := Lib.hid (show Has W0 (none : Option Addr) (pin (S.take 0)) from ((HHX.out.later lW0).ptake 0))
      have HH2 := Lib.hid (show Has W0 (none : Option Addr) (pin (S.drop 0)) from (.inl (by rw [List.drop_eq_nil_of_le (by have := HM.out; omega)]; rfl)))
      have HP1 := Lib.hid (show ∀ b off, (none : Option Addr) = some ⟨b, off, none⟩ → b < W0.heap.size from fun b off e => by cases e)
      have HP2 := Lib.hid (show ∀ b off, (none : Option Addr) = some ⟨b, off, none⟩ → b < W0.heap.size from fun b off e => by cases e)
      have HN1 := Lib.hid (show (none : Option Addr) = none → 0 = 0 from fun _ => rfl)
      have HN2x := Lib.hid (show (none : Option Addr) = none → 0 = 0 from fun _ => rfl)
      have HLW := Lib.hid (HLX.out.trans lW0)
      clear hW0 lW0
      refine wpAnyK_take (fun _ => rfl) (fun _ _ _ h k => h.trans k) (fun _ _ _ _ => trivial) (i := 1) (oi := { dst := some 32, op := _, type := _, pos := _, after := _, guard := _ }) (v := ?_) rfl (by kernel_rfl) (by kernel_rfl) (by kernel_rfl) (fun _ _ _ h => h) (Or.inl (Or.inl ⟨by rfl, ?_⟩)) hS ?_
      rotate_left
      focus ((intro w hSw; clear hSw; go_simp); (try with_reducible rfl))
      intro wq hwq
      subst hwq
      (try simp only [Act.put, List.setIfInBounds_toArray, List.set_cons_zero, List.set_cons_succ])
      refine wpAnyK_take (fun _ => rfl) (fun _ _ _ h k => h.trans k) (fun _ _ _ _ => trivial) (i := 2) (oi := { dst := some 33, op := _, type := _, pos := _, after := _, guard := _ }) (v := ?_) rfl (by kernel_rfl) (by kernel_rfl) (by kernel_rfl) (fun _ _ _ h => h) (Or.inl (Or.inl ⟨by rfl, ?_⟩)) hS ?_
      rotate_left
      focus ((intro w hSw; clear hSw; go_simp); (try with_reducible rfl))
      intro wq hwq
      subst hwq
      (try simp only [Act.put, List.setIfInBounds_toArray, List.set_cons_zero, List.set_cons_succ])
      refine wpAnyK_take (fun _ => rfl) (fun _ _ _ h k => h.trans k) (fun _ _ _ _ => trivial) (i := 3) (oi := { dst := some 34, op := _, type := _, pos := _, after := _, guard := _ }) (v := ?_) rfl (by kernel_rfl) (by kernel_rfl) (by kernel_rfl) (fun _ _ _ h => h) (Or.inl (Or.inl ⟨by rfl, ?_⟩)) hS ?_
      rotate_left
      focus ((intro w hSw; clear hSw; go_simp); (try with_reducible rfl))
      intro wq hwq
      subst hwq
      (try simp only [Act.put, List.setIfInBounds_toArray, List.set_cons_zero, List.set_cons_succ])
      refine wpAnyK_take (fun _ => rfl) (fun _ _ _ h k => h.trans k) (fun _ _ _ _ => trivial) (i := 5) (oi := { dst := some 36, op := _, type := _, pos := _, after := _, guard := _ }) (v := ?_) rfl (by kernel_rfl) (by kernel_rfl) (by kernel_rfl) (fun _ _ _ h => h) (Or.inl (Or.inl ⟨by rfl, ?_⟩)) hS ?_
      rotate_left
      focus ((intro w hSw; clear hSw; go_simp); (try with_reducible rfl))
      intro wq hwq
      subst hwq
      (try simp only [Act.put, List.setIfInBounds_toArray, List.set_cons_zero, List.set_cons_succ])
      refine wpAnyK_take (fun _ => rfl) (fun _ _ _ h k => h.trans k) (fun _ _ _ _ => trivial) (i := 8) (oi := { dst := some 39, op := _, type := _, pos := _, after := _, guard := _ }) (v := ?_) rfl (by kernel_rfl) (by kernel_rfl) (by kernel_rfl) (fun _ _ _ h => h) (Or.inl (Or.inl ⟨by rfl, ?_⟩)) hS ?_
      rotate_left
      focus ((intro w hSw; clear hSw; go_simp); (try with_reducible rfl))
      intro wq hwq
      subst hwq
      (try simp only [Act.put, List.setIfInBounds_toArray, List.set_cons_zero, List.set_cons_succ])
      refine wpAnyK_take (fun _ => rfl) (fun _ _ _ h k => h.trans k) (fun _ _ _ _ => trivial) (i := 9) (oi := { dst := some 40, op := _, type := _, pos := _, after := _, guard := _ }) (v := ?_) rfl (by kernel_rfl) (by kernel_rfl) (by kernel_rfl) (fun _ _ _ h => h) (Or.inl (Or.inl ⟨by rfl, ?_⟩)) hS ?_
      rotate_left
      focus ((intro w hSw; clear hSw; go_simp); (try with_reducible rfl))
      intro wq hwq
      subst hwq
      (try simp only [Act.put, List.setIfInBounds_toArray, List.set_cons_zero, List.set_cons_succ])
      refine wpAnyK_take (fun _ => rfl) (fun _ _ _ h k => h.trans k) (fun _ _ _ _ => trivial) (i := 10) (oi := { dst := some 41, op := _, type := _, pos := _, after := _, guard := _ }) (v := ?_) rfl (by kernel_rfl) (by kernel_rfl) (by kernel_rfl) (fun _ _ _ h => h) (Or.inl (Or.inl ⟨by rfl, ?_⟩)) hS ?_
      rotate_left
      focus ((intro w hSw; clear hSw; go_simp); (try with_reducible rfl))
      intro wq hwq
      subst hwq
      (try simp only [Act.put, List.setIfInBounds_toArray, List.set_cons_zero, List.set_cons_succ])
      refine wpAnyK_all (rs := [0, 6]) (by kernel_rfl) (by simp) (fun i' hi' => ?_)
      simp only [List.mem_cons, List.not_mem_nil, or_false] at hi'
      rcases hi' with rfl | rfl
      · refine stepK (o := { dst := some 31, op := _, type := _, pos := _, after := _, guard := _ }) rfl (fun K hK => ?_)
        go_simp
        obtain ⟨g31, hg31⟩ : ∃ x, W0.heap.size = x := ⟨_, rfl⟩
        obtain ⟨v1, hv⟩ : ∃ y : World, W0.alloc (.cells #[] 3) = y := ⟨_, rfl⟩
        have lv : Later W0 v1 := hv ▸ Later.new _ _
        have H31 := Lib.hid (show W0.heap.size ≤ g31 ∧ g31 < v1.heap.size from ⟨Nat.le_of_eq hg31, by rw [← hv, ← hg31]; simp⟩)
        have HO31 := Lib.hid (show v1.ownsRow W0.heap.size 3 1 (.slice (some ⟨g31, 0, none⟩) 0 0) 0 [] from hg31 ▸ hv ▸ own_empty W0 W0.heap.size 3 1 HSZ.out)
        try rw [hg31]
        rw [hv]
        have HSZO := HSZ
        have HSZ := Lib.hid (Nat.le_trans HSZ.out lv.size)
        have HH1 := Lib.hid (HH1.out.later lv)
        have HH2 := Lib.hid (HH2.out.later lv)
        have HLN := Lib.hid (HLN.out.trans (lv.below.mono HSZO.out))
        clear hv hg31 HSZO lv
        refine hK _ _ hS ?_
        intro wq' hwq
        subst hwq
        clear hK
        (try simp only [Act.put, List.setIfInBounds_toArray, List.set_cons_zero, List.set_cons_succ])
        refine wpAnyK_all (rs := [4, 6]) (by kernel_rfl) (by simp) (fun i' hi' => ?_)
        simp only [List.mem_cons, List.not_mem_nil, or_false] at hi'
        rcases hi' with rfl | rfl
        · refine stepK (o := { dst := some 35, op := _, type := _, pos := _, after := _, guard := _ }) rfl (fun K hK => ?_)
          refine step_append_n rfl (.tmp 31) (.tmp 34) 34 rfl W0.heap.size 3 _ 1 8 Tryd.underlying34 info_io rfl (by decide) _ (0) ([]) rfl HO31.out (none : Option Addr) (0) (0) (pin (S.take 0)) rfl HH1.out (by rw [pin_len]; exact HTL.out) HN1.out (pin_one _) (by unfold maxLen; omega) (by omega) HSZ.out ?_
          rintro QA Qc v2 ho hgr hbl hnl
          rw [Nat.zero_add, List.nil_append] at ho
          rw [Nat.zero_add]
          have HO35 := Lib.hid ho
          have HSZ := Lib.hid (Nat.le_trans HSZ.out hbl.size)
          have HH2 := Lib.hid (has_below HH2.out HP2.out hbl)
          have HLN := Lib.hid (HLN.out.trans hbl)
          clear ho hgr hbl hnl
          refine hK _ _ hS ?_
          intro wq' hwq
          subst hwq
          clear hK
          (try simp only [Act.put, List.setIfInBounds_toArray, List.set_cons_zero, List.set_cons_succ])
          refine wpAnyK_all (rs := [6]) (by kernel_rfl) (by simp) (fun i' hi' => ?_)
          simp only [List.mem_cons, List.not_mem_nil, or_false] at hi'
          subst hi'
          refine stepK (o := { dst := some 37, op := _, type := _, pos := _, after := _, guard := _ }) rfl (fun K hK => ?_)
          go_simp
          obtain ⟨g37, hg37⟩ : ∃ x, v2.heap.size = x := ⟨_, rfl⟩
          obtain ⟨v3, hv⟩ : ∃ y : World, v2.alloc (.cells #[.int .i64 (i : Int)] 3) = y := ⟨_, rfl⟩
          have lv : Later v2 v3 := hv ▸ Later.new _ _
          have HLT := Lib.hid (show Has v3 (some ⟨g37, 0, none⟩) (pin [i]) from hv ▸ (Blk.new v2 [Value.int .i64 (i : Int)].toArray 3 g37 hg37.symm).has)
          have H37 := Lib.hid (show v2.heap.size ≤ g37 ∧ g37 < v3.heap.size from ⟨Nat.le_of_eq hg37, by rw [← hv, ← hg37]; simp⟩)
          try rw [hg37]
          rw [hv]
          have HSZO := HSZ
          have HSZ := Lib.hid (Nat.le_trans HSZ.out lv.size)
          have HH2 := Lib.hid (HH2.out.later lv)
          have HLN := Lib.hid (HLN.out.trans (lv.below.mono HSZO.out))
          have HO35 := Lib.hid (own_later HO35.out lv)
          clear hv hg37 HSZO lv
          refine hK _ _ hS ?_
          intro wq' hwq
          subst hwq
          clear hK
          (try simp only [Act.put, List.setIfInBounds_toArray, List.set_cons_zero, List.set_cons_succ])
          refine wpAnyK_all (rs := [7]) (by kernel_rfl) (by simp) (fun i' hi' => ?_)
          simp only [List.mem_cons, List.not_mem_nil, or_false] at hi'
          subst hi'
          refine stepK (o := { dst := some 38, op := _, type := _, pos := _, after := _, guard := _ }) rfl (fun K hK => ?_)
          refine step_append_n rfl (.tmp 35) (.tmp 37) 34 rfl W0.heap.size 3 _ 1 8 Tryd.underlying34 info_io rfl (by decide) _ (0) (pin (S.take 0)) rfl HO35.out (some ⟨g37, 0, none⟩) (1) (1) (pin [i]) rfl HLT.out rfl (fun h => by cases h) (pin_one _) (by unfold maxLen; omega) (by omega) HSZ.out ?_
          rintro RA Rc v4 ho hgr hbl hnl
          have HO38 := Lib.hid ho
          have HSZ := Lib.hid (Nat.le_trans HSZ.out hbl.size)
          have HH2 := Lib.hid (has_below HH2.out HP2.out hbl)
          have HLN := Lib.hid (HLN.out.trans hbl)
          clear ho hgr hbl hnl
          refine hK _ _ hS ?_
          intro wq' hwq
          subst hwq
          clear hK
          (try simp only [Act.put, List.setIfInBounds_toArray, List.set_cons_zero, List.set_cons_succ])
          refine wpAnyK_all (rs := [11]) (by kernel_rfl) (by simp) (fun i' hi' => ?_)
          simp only [List.mem_cons, List.not_mem_nil, or_false] at hi'
          subst hi'
          refine stepK (o := { dst := some 42, op := _, type := _, pos := _, after := _, guard := _ }) rfl (fun K hK => ?_)
          refine step_append_n rfl (.tmp 38) (.tmp 41) 34 rfl W0.heap.size 3 _ 1 8 Tryd.underlying34 info_io rfl (by decide) _ (0 + 1) (pin (S.take 0) ++ pin [i]) rfl HO38.out (none : Option Addr) (0) (0) (pin (S.drop 0)) rfl HH2.out (by rw [pin_len]; exact HDL.out) HN2x.out (pin_one _) (by unfold maxLen; omega) (by omega) HSZ.out ?_
          rintro TA Tc v5 ho hgr hbl hnl
          have HO42 := Lib.hid ho
          have HSZ := Lib.hid (Nat.le_trans HSZ.out hbl.size)
          have HLN := Lib.hid (HLN.out.trans hbl)
          have HTN := Lib.hid hnl
          clear ho hgr hbl hnl
          refine hK _ _ hS ?_
          intro wq' hwq
          subst hwq
          clear hK
          (try simp only [Act.put, List.setIfInBounds_toArray, List.set_cons_zero, List.set_cons_succ])
          refine wpAnyK_take (fun _ => rfl) (fun _ _ _ h k => h.trans k) (fun _ _ _ _ => trivial) (i := 12) (oi := { dst := some 5, op := _, type := _, pos := _, after := _, guard := _ }) (v := ?_) rfl (by kernel_rfl) (by kernel_rfl) (by kernel_rfl) (fun _ _ _ h => h) (Or.inl (Or.inl ⟨by rfl, ?_⟩)) hS ?_
          rotate_left
          focus ((intro w hSw; clear hSw; go_simp); (try with_reducible rfl))
          intro wq hwq
          subst hwq
          (try simp only [Act.put, List.setIfInBounds_toArray, List.set_cons_zero, List.set_cons_succ])
          refine wpAnyK_done (by kernel_rfl) ?_ _
          obtain ⟨tn, htn⟩ : ∃ tn, 0 + 1 + (0) = tn := ⟨_, rfl⟩
          have hti : tn = (S.take 0 ++ i :: S.drop 0).length := by rw [List.length_append, List.length_cons, List.length_take, List.length_drop]; have := HM.out; omega
          have h1 : tn = 1 := by omega
          subst h1
          rw [htn] at HO42
          try rw [htn]
          have HOF := Lib.hid (show v5.ownsRow w.heap.size 3 1 (.slice TA 1 Tc) 1 (pin (S.take 0 ++ i :: S.drop 0)) from by
            have h := own_mono HO42.out HWS.out
            have e : pin (S.take 0 ++ i :: S.drop 0) = pin (S.take 0) ++ pin [i] ++ pin (S.drop 0) := by rw [show i :: S.drop 0 = [i] ++ S.drop 0 from rfl, pin_append, pin_append, List.append_assoc]
            rw [e]; exact h)
          have HTI := Lib.hid hti
          have HT0 := Lib.hid (show 1 = 0 → TA = none from fun h => by rw [List.length_append, List.length_cons] at hti; omega)
          have HLF := Lib.hid (show Later w v5 from Later.of (HLW.out.below.trans (HLN.out.mono HWS.out)))
          clear hS htn hti
          go_wp2_with fail
          go_roundw
          case rel => exact OrI.mk _ (i + 1) _ _ _ _ (by go_num) hlt HTI.out HNEW.out HOF.out HTN.out HT0.out HLF.out
          case measure => simp [intOf]; omega
        · refine stepK (o := { dst := some 37, op := _, type := _, pos := _, after := _, guard := _ }) rfl (fun K hK => ?_)
          go_simp
          obtain ⟨g37, hg37⟩ : ∃ x, v1.heap.size = x := ⟨_, rfl⟩
          obtain ⟨v6, hv⟩ : ∃ y : World, v1.alloc (.cells #[.int .i64 (i : Int)] 3) = y := ⟨_, rfl⟩
          have lv : Later v1 v6 := hv ▸ Later.new _ _
          have HLT := Lib.hid (show Has v6 (some ⟨g37, 0, none⟩) (pin [i]) from hv ▸ (Blk.new v1 [Value.int .i64 (i : Int)].toArray 3 g37 hg37.symm).has)
          have H37 := Lib.hid (show v1.heap.size ≤ g37 ∧ g37 < v6.heap.size from ⟨Nat.le_of_eq hg37, by rw [← hv, ← hg37]; simp⟩)
          try rw [hg37]
          rw [hv]
          have HSZO := HSZ
          have HSZ := Lib.hid (Nat.le_trans HSZ.out lv.size)
          have HH1 := Lib.hid (HH1.out.later lv)
          have HH2 := Lib.hid (HH2.out.later lv)
          have HLN := Lib.hid (HLN.out.trans (lv.below.mono HSZO.out))
          have HO31 := Lib.hid (own_later HO31.out lv)
          clear hv hg37 HSZO lv
          refine hK _ _ hS ?_
          intro wq' hwq
          subst hwq
          clear hK
          (try simp only [Act.put, List.setIfInBounds_toArray, List.set_cons_zero, List.set_cons_succ])
          refine wpAnyK_all (rs := [4]) (by kernel_rfl) (by simp) (fun i' hi' => ?_)
          simp only [List.mem_cons, List.not_mem_nil, or_false] at hi'
          subst hi'
          refine stepK (o := { dst := some 35, op := _, type := _, pos := _, after := _, guard := _ }) rfl (fun K hK => ?_)
          refine step_append_n rfl (.tmp 31) (.tmp 34) 34 rfl W0.heap.size 3 _ 1 8 Tryd.underlying34 info_io rfl (by decide) _ (0) ([]) rfl HO31.out (none : Option Addr) (0) (0) (pin (S.take 0)) rfl HH1.out (by rw [pin_len]; exact HTL.out) HN1.out (pin_one _) (by unfold maxLen; omega) (by omega) HSZ.out ?_
          rintro QA Qc v7 ho hgr hbl hnl
          rw [Nat.zero_add, List.nil_append] at ho
          rw [Nat.zero_add]
          have HO35 := Lib.hid ho
          have HSZ := Lib.hid (Nat.le_trans HSZ.out hbl.size)
          have HH2 := Lib.hid (has_below HH2.out HP2.out hbl)
          have HLN := Lib.hid (HLN.out.trans hbl)
          have HLT := Lib.hid (has_grown (q := g31) HLT.out hgr rfl (by have := H31.out; have := H37.out; omega))
          clear ho hgr hbl hnl
          refine hK _ _ hS ?_
          intro wq' hwq
          subst hwq
          clear hK
          (try simp only [Act.put, List.setIfInBounds_toArray, List.set_cons_zero, List.set_cons_succ])
          refine wpAnyK_all (rs := [7]) (by kernel_rfl) (by simp) (fun i' hi' => ?_)
          simp only [List.mem_cons, List.not_mem_nil, or_false] at hi'
          subst hi'
          refine stepK (o := { dst := some 38, op := _, type := _, pos := _, after := _, guard := _ }) rfl (fun K hK => ?_)
          refine step_append_n rfl (.tmp 35) (.tmp 37) 34 rfl W0.heap.size 3 _ 1 8 Tryd.underlying34 info_io rfl (by decide) _ (0) (pin (S.take 0)) rfl HO35.out (some ⟨g37, 0, none⟩) (1) (1) (pin [i]) rfl HLT.out rfl (fun h => by cases h) (pin_one _) (by unfold maxLen; omega) (by omega) HSZ.out ?_
          rintro RA Rc v8 ho hgr hbl hnl
          have HO38 := Lib.hid ho
          have HSZ := Lib.hid (Nat.le_trans HSZ.out hbl.size)
          have HH2 := Lib.hid (has_below HH2.out HP2.out hbl)
          have HLN := Lib.hid (HLN.out.trans hbl)
          clear ho hgr hbl hnl
          refine hK _ _ hS ?_
          intro wq' hwq
          subst hwq
          clear hK
          (try simp only [Act.put, List.setIfInBounds_toArray, List.set_cons_zero, List.set_cons_succ])
          refine wpAnyK_all (rs := [11]) (by kernel_rfl) (by simp) (fun i' hi' => ?_)
          simp only [List.mem_cons, List.not_mem_nil, or_false] at hi'
          subst hi'
          refine stepK (o := { dst := some 42, op := _, type := _, pos := _, after := _, guard := _ }) rfl (fun K hK => ?_)
          refine step_append_n rfl (.tmp 38) (.tmp 41) 34 rfl W0.heap.size 3 _ 1 8 Tryd.underlying34 info_io rfl (by decide) _ (0 + 1) (pin (S.take 0) ++ pin [i]) rfl HO38.out (none : Option Addr) (0) (0) (pin (S.drop 0)) rfl HH2.out (by rw [pin_len]; exact HDL.out) HN2x.out (pin_one _) (by unfold maxLen; omega) (by omega) HSZ.out ?_
          rintro TA Tc v9 ho hgr hbl hnl
          have HO42 := Lib.hid ho
          have HSZ := Lib.hid (Nat.le_trans HSZ.out hbl.size)
          have HLN := Lib.hid (HLN.out.trans hbl)
          have HTN := Lib.hid hnl
          clear ho hgr hbl hnl
          refine hK _ _ hS ?_
          intro wq' hwq
          subst hwq
          clear hK
          (try simp only [Act.put, List.setIfInBounds_toArray, List.set_cons_zero, List.set_cons_succ])
          refine wpAnyK_take (fun _ => rfl) (fun _ _ _ h k => h.trans k) (fun _ _ _ _ => trivial) (i := 12) (oi := { dst := some 5, op := _, type := _, pos := _, after := _, guard := _ }) (v := ?_) rfl (by kernel_rfl) (by kernel_rfl) (by kernel_rfl) (fun _ _ _ h => h) (Or.inl (Or.inl ⟨by rfl, ?_⟩)) hS ?_
          rotate_left
          focus ((intro w hSw; clear hSw; go_simp); (try with_reducible rfl))
          intro wq hwq
          subst hwq
          (try simp only [Act.put, List.setIfInBounds_toArray, List.set_cons_zero, List.set_cons_succ])
          refine wpAnyK_done (by kernel_rfl) ?_ _
          obtain ⟨tn, htn⟩ : ∃ tn, 0 + 1 + (0) = tn := ⟨_, rfl⟩
          have hti : tn = (S.take 0 ++ i :: S.drop 0).length := by rw [List.length_append, List.length_cons, List.length_take, List.length_drop]; have := HM.out; omega
          have h1 : tn = 1 := by omega
          subst h1
          rw [htn] at HO42
          try rw [htn]
          have HOF := Lib.hid (show v9.ownsRow w.heap.size 3 1 (.slice TA 1 Tc) 1 (pin (S.take 0 ++ i :: S.drop 0)) from by
            have h := own_mono HO42.out HWS.out
            have e : pin (S.take 0 ++ i :: S.drop 0) = pin (S.take 0) ++ pin [i] ++ pin (S.drop 0) := by rw [show i :: S.drop 0 = [i] ++ S.drop 0 from rfl, pin_append, pin_append, List.append_assoc]
            rw [e]; exact h)
          have HTI := Lib.hid hti
          have HT0 := Lib.hid (show 1 = 0 → TA = none from fun h => by rw [List.length_append, List.length_cons] at hti; omega)
          have HLF := Lib.hid (show Later w v9 from Later.of (HLW.out.below.trans (HLN.out.mono HWS.out)))
          clear hS htn hti
          go_wp2_with fail
          go_roundw
          case rel => exact OrI.mk _ (i + 1) _ _ _ _ (by go_num) hlt HTI.out HNEW.out HOF.out HTN.out HT0.out HLF.out
          case measure => simp [intOf]; omega
      · refine stepK (o := { dst := some 37, op := _, type := _, pos := _, after := _, guard := _ }) rfl (fun K hK => ?_)
        go_simp
        obtain ⟨g37, hg37⟩ : ∃ x, W0.heap.size = x := ⟨_, rfl⟩
        obtain ⟨v10, hv⟩ : ∃ y : World, W0.alloc (.cells #[.int .i64 (i : Int)] 3) = y := ⟨_, rfl⟩
        have lv : Later W0 v10 := hv ▸ Later.new _ _
        have HLT := Lib.hid (show Has v10 (some ⟨g37, 0, none⟩) (pin [i]) from hv ▸ (Blk.new W0 [Value.int .i64 (i : Int)].toArray 3 g37 hg37.symm).has)
        have H37 := Lib.hid (show W0.heap.size ≤ g37 ∧ g37 < v10.heap.size from ⟨Nat.le_of_eq hg37, by rw [← hv, ← hg37]; simp⟩)
        try rw [hg37]
        rw [hv]
        have HSZO := HSZ
        have HSZ := Lib.hid (Nat.le_trans HSZ.out lv.size)
        have HH1 := Lib.hid (HH1.out.later lv)
        have HH2 := Lib.hid (HH2.out.later lv)
        have HLN := Lib.hid (HLN.out.trans (lv.below.mono HSZO.out))
        clear hv hg37 HSZO lv
        refine hK _ _ hS ?_
        intro wq' hwq
        subst hwq
        clear hK
        (try simp only [Act.put, List.setIfInBounds_toArray, List.set_cons_zero, List.set_cons_succ])
        refine wpAnyK_all (rs := [0]) (by kernel_rfl) (by simp) (fun i' hi' => ?_)
        simp only [List.mem_cons, List.not_mem_nil, or_false] at hi'
        subst hi'
        refine stepK (o := { dst := some 31, op := _, type := _, pos := _, after := _, guard := _ }) rfl (fun K hK => ?_)
        go_simp
        obtain ⟨g31, hg31⟩ : ∃ x, v10.heap.size = x := ⟨_, rfl⟩
        obtain ⟨v11, hv⟩ : ∃ y : World, v10.alloc (.cells #[] 3) = y := ⟨_, rfl⟩
        have lv : Later v10 v11 := hv ▸ Later.new _ _
        have H31 := Lib.hid (show v10.heap.size ≤ g31 ∧ g31 < v11.heap.size from ⟨Nat.le_of_eq hg31, by rw [← hv, ← hg31]; simp⟩)
        have HO31 := Lib.hid (show v11.ownsRow W0.heap.size 3 1 (.slice (some ⟨g31, 0, none⟩) 0 0) 0 [] from hg31 ▸ hv ▸ own_empty v10 W0.heap.size 3 1 HSZ.out)
        try rw [hg31]
        rw [hv]
        have HSZO := HSZ
        have HSZ := Lib.hid (Nat.le_trans HSZ.out lv.size)
        have HH1 := Lib.hid (HH1.out.later lv)
        have HH2 := Lib.hid (HH2.out.later lv)
        have HLN := Lib.hid (HLN.out.trans (lv.below.mono HSZO.out))
        have HLT := Lib.hid (HLT.out.later lv)
        clear hv hg31 HSZO lv
        refine hK _ _ hS ?_
        intro wq' hwq
        subst hwq
        clear hK
        (try simp only [Act.put, List.setIfInBounds_toArray, List.set_cons_zero, List.set_cons_succ])
        refine wpAnyK_all (rs := [4]) (by kernel_rfl) (by simp) (fun i' hi' => ?_)
        simp only [List.mem_cons, List.not_mem_nil, or_false] at hi'
        subst hi'
        refine stepK (o := { dst := some 35, op := _, type := _, pos := _, after := _, guard := _ }) rfl (fun K hK => ?_)
        refine step_append_n rfl (.tmp 31) (.tmp 34) 34 rfl W0.heap.size 3 _ 1 8 Tryd.underlying34 info_io rfl (by decide) _ (0) ([]) rfl HO31.out (none : Option Addr) (0) (0) (pin (S.take 0)) rfl HH1.out (by rw [pin_len]; exact HTL.out) HN1.out (pin_one _) (by unfold maxLen; omega) (by omega) HSZ.out ?_
        rintro QA Qc v12 ho hgr hbl hnl
        rw [Nat.zero_add, List.nil_append] at ho
        rw [Nat.zero_add]
        have HO35 := Lib.hid ho
        have HSZ := Lib.hid (Nat.le_trans HSZ.out hbl.size)
        have HH2 := Lib.hid (has_below HH2.out HP2.out hbl)
        have HLN := Lib.hid (HLN.out.trans hbl)
        have HLT := Lib.hid (has_grown (q := g31) HLT.out hgr rfl (by have := H31.out; have := H37.out; omega))
        clear ho hgr hbl hnl
        refine hK _ _ hS ?_
        intro wq' hwq
        subst hwq
        clear hK
        (try simp only [Act.put, List.setIfInBounds_toArray, List.set_cons_zero, List.set_cons_succ])
        refine wpAnyK_all (rs := [7]) (by kernel_rfl) (by simp) (fun i' hi' => ?_)
        simp only [List.mem_cons, List.not_mem_nil, or_false] at hi'
        subst hi'
        refine stepK (o := { dst := some 38, op := _, type := _, pos := _, after := _, guard := _ }) rfl (fun K hK => ?_)
        refine step_append_n rfl (.tmp 35) (.tmp 37) 34 rfl W0.heap.size 3 _ 1 8 Tryd.underlying34 info_io rfl (by decide) _ (0) (pin (S.take 0)) rfl HO35.out (some ⟨g37, 0, none⟩) (1) (1) (pin [i]) rfl HLT.out rfl (fun h => by cases h) (pin_one _) (by unfold maxLen; omega) (by omega) HSZ.out ?_
        rintro RA Rc v13 ho hgr hbl hnl
        have HO38 := Lib.hid ho
        have HSZ := Lib.hid (Nat.le_trans HSZ.out hbl.size)
        have HH2 := Lib.hid (has_below HH2.out HP2.out hbl)
        have HLN := Lib.hid (HLN.out.trans hbl)
        clear ho hgr hbl hnl
        refine hK _ _ hS ?_
        intro wq' hwq
        subst hwq
        clear hK
        (try simp only [Act.put, List.setIfInBounds_toArray, List.set_cons_zero, List.set_cons_succ])
        refine wpAnyK_all (rs := [11]) (by kernel_rfl) (by simp) (fun i' hi' => ?_)
        simp only [List.mem_cons, List.not_mem_nil, or_false] at hi'
        subst hi'
        refine stepK (o := { dst := some 42, op := _, type := _, pos := _, after := _, guard := _ }) rfl (fun K hK => ?_)
        refine step_append_n rfl (.tmp 38) (.tmp 41) 34 rfl W0.heap.size 3 _ 1 8 Tryd.underlying34 info_io rfl (by decide) _ (0 + 1) (pin (S.take 0) ++ pin [i]) rfl HO38.out (none : Option Addr) (0) (0) (pin (S.drop 0)) rfl HH2.out (by rw [pin_len]; exact HDL.out) HN2x.out (pin_one _) (by unfold maxLen; omega) (by omega) HSZ.out ?_
        rintro TA Tc v14 ho hgr hbl hnl
        have HO42 := Lib.hid ho
        have HSZ := Lib.hid (Nat.le_trans HSZ.out hbl.size)
        have HLN := Lib.hid (HLN.out.trans hbl)
        have HTN := Lib.hid hnl
        clear ho hgr hbl hnl
        refine hK _ _ hS ?_
        intro wq' hwq
        subst hwq
        clear hK
        (try simp only [Act.put, List.setIfInBounds_toArray, List.set_cons_zero, List.set_cons_succ])
        refine wpAnyK_take (fun _ => rfl) (fun _ _ _ h k => h.trans k) (fun _ _ _ _ => trivial) (i := 12) (oi := { dst := some 5, op := _, type := _, pos := _, after := _, guard := _ }) (v := ?_) rfl (by kernel_rfl) (by kernel_rfl) (by kernel_rfl) (fun _ _ _ h => h) (Or.inl (Or.inl ⟨by rfl, ?_⟩)) hS ?_
        rotate_left
        focus ((intro w hSw; clear hSw; go_simp); (try with_reducible rfl))
        intro wq hwq
        subst hwq
        (try simp only [Act.put, List.setIfInBounds_toArray, List.set_cons_zero, List.set_cons_succ])
        refine wpAnyK_done (by kernel_rfl) ?_ _
        obtain ⟨tn, htn⟩ : ∃ tn, 0 + 1 + (0) = tn := ⟨_, rfl⟩
        have hti : tn = (S.take 0 ++ i :: S.drop 0).length := by rw [List.length_append, List.length_cons, List.length_take, List.length_drop]; have := HM.out; omega
        have h1 : tn = 1 := by omega
        subst h1
        rw [htn] at HO42
        try rw [htn]
        have HOF := Lib.hid (show v14.ownsRow w.heap.size 3 1 (.slice TA 1 Tc) 1 (pin (S.take 0 ++ i :: S.drop 0)) from by
          have h := own_mono HO42.out HWS.out
          have e : pin (S.take 0 ++ i :: S.drop 0) = pin (S.take 0) ++ pin [i] ++ pin (S.drop 0) := by rw [show i :: S.drop 0 = [i] ++ S.drop 0 from rfl, pin_append, pin_append, List.append_assoc]
          rw [e]; exact h)
        have HTI := Lib.hid hti
        have HT0 := Lib.hid (show 1 = 0 → TA = none from fun h => by rw [List.length_append, List.length_cons] at hti; omega)
        have HLF := Lib.hid (show Later w v14 from Later.of (HLW.out.below.trans (HLN.out.mono HWS.out)))
        clear hS htn hti
        go_wp2_with fail
        go_roundw
        case rel => exact OrI.mk _ (i + 1) _ _ _ _ (by go_num) hlt HTI.out HNEW.out HOF.out HTN.out HT0.out HLF.out
        case measure => simp [intOf]; omega
    obtain ⟨pb, hP⟩ := own_some HOX.out (by omega)
    subst hP
    have hpb := (HOX.out.lt pb rfl).2
    by_cases hjm : j < m
    · have hpj : ¬ pc - j = 0 := by have := HCAP.out; omega
      have hpj2 : ¬ pc = j := by have := HCAP.out; omega
      have hpj3 : j ≤ pc := by have := HCAP.out; omega
      have hpj4 : m ≤ pc := HCAP.out.1
      go_upto_region 8 with fail
      refine wp_region_K (S := fun _ : World => True) (R := fun a b => a = b) (fun _ => rfl) (by kernel_rfl) ?_
      obtain ⟨W0, hW0⟩ : ∃ x, wc.drew = x := ⟨_, rfl⟩
      rw [hW0]
      have lW0 : Later wc W0 := hW0 ▸ (Later.refl wc).drew
      have hS : (fun _ : World => True) W0 := trivial
      have HSZ := Lib.hid (Nat.le_refl W0.heap.size)
      have HWS := Lib.hid (show w.heap.size ≤ W0.heap.size from (HLX.out.trans lW0).size)
      have HLN := Lib.hid (Below.refl W0.heap.size W0)
      have HTL := Lib.hid (show (S.take j).length = j * 1 by rw [List.length_take]; have := HM.out; omega)
      have HDL := Lib.hid (show (S.drop j).length = (m - j) * 1 by rw [List.length_drop]; have := HM.out; omega)
      have HH1 := Lib.hid (show Has W0 (some ⟨pb, 0, none⟩ : Option Addr) (pin (S.take j)) from (HHX.out.later lW0).ptake j)
      have HH2 := Lib.hid (show Has W0 (some ⟨pb, j, none⟩ : Option Addr) (pin (S.drop j)) from by have h := (HHX.out.later lW0).pdrop j; rw [Nat.zero_add] at h; exact h)
      have HP1 := Lib.hid (show ∀ b off, (some ⟨pb, 0, none⟩ : Option Addr) = some ⟨b, off, none⟩ → b < W0.heap.size from fun b off e => by injection e with e; injection e with e1 e2; rw [← e1]; exact Nat.lt_of_lt_of_le hpb lW0.size)
      have HP2 := Lib.hid (show ∀ b off, (some ⟨pb, j, none⟩ : Option Addr) = some ⟨b, off, none⟩ → b < W0.heap.size from fun b off e => by injection e with e; injection e with e1 e2; rw [← e1]; exact Nat.lt_of_lt_of_le hpb lW0.size)
      have HN1 := Lib.hid (show (some ⟨pb, 0, none⟩ : Option Addr) = none → pc = 0 from fun h => by cases h)
      have HN2x := Lib.hid (show (some ⟨pb, j, none⟩ : Option Addr) = none → pc - j = 0 from fun h => by cases h)
      have HLW := Lib.hid (HLX.out.trans lW0)
      clear hW0 lW0
      refine wpAnyK_take (fun _ => rfl) (fun _ _ _ h k => h.trans k) (fun _ _ _ _ => trivial) (i := 1) (oi := { dst := some 32, op := _, type := _, pos := _, after := _, guard := _ }) (v := ?_) rfl (by kernel_rfl) (by kernel_rfl) (by kernel_rfl) (fun _ _ _ h => h) (Or.inl (Or.inl ⟨by rfl, ?_⟩)) hS ?_
      rotate_left
      focus ((intro w hSw; clear hSw; go_simp); (try with_reducible rfl))
      intro wq hwq
      subst hwq
      (try simp only [Act.put, List.setIfInBounds_toArray, List.set_cons_zero, List.set_cons_succ])
      refine wpAnyK_take (fun _ => rfl) (fun _ _ _ h k => h.trans k) (fun _ _ _ _ => trivial) (i := 2) (oi := { dst := some 33, op := _, type := _, pos := _, after := _, guard := _ }) (v := ?_) rfl (by kernel_rfl) (by kernel_rfl) (by kernel_rfl) (fun _ _ _ h => h) (Or.inl (Or.inl ⟨by rfl, ?_⟩)) hS ?_
      rotate_left
      focus ((intro w hSw; clear hSw; go_simp); (try with_reducible rfl))
      intro wq hwq
      subst hwq
      (try simp only [Act.put, List.setIfInBounds_toArray, List.set_cons_zero, List.set_cons_succ])
      refine wpAnyK_take (fun _ => rfl) (fun _ _ _ h k => h.trans k) (fun _ _ _ _ => trivial) (i := 3) (oi := { dst := some 34, op := _, type := _, pos := _, after := _, guard := _ }) (v := ?_) rfl (by kernel_rfl) (by kernel_rfl) (by kernel_rfl) (fun _ _ _ h => h) (Or.inl (Or.inl ⟨by rfl, ?_⟩)) hS ?_
      rotate_left
      focus ((intro w hSw; clear hSw; go_simp); (try with_reducible rfl))
      intro wq hwq
      subst hwq
      (try simp only [Act.put, List.setIfInBounds_toArray, List.set_cons_zero, List.set_cons_succ])
      refine wpAnyK_take (fun _ => rfl) (fun _ _ _ h k => h.trans k) (fun _ _ _ _ => trivial) (i := 5) (oi := { dst := some 36, op := _, type := _, pos := _, after := _, guard := _ }) (v := ?_) rfl (by kernel_rfl) (by kernel_rfl) (by kernel_rfl) (fun _ _ _ h => h) (Or.inl (Or.inl ⟨by rfl, ?_⟩)) hS ?_
      rotate_left
      focus ((intro w hSw; clear hSw; go_simp); (try with_reducible rfl))
      intro wq hwq
      subst hwq
      (try simp only [Act.put, List.setIfInBounds_toArray, List.set_cons_zero, List.set_cons_succ])
      refine wpAnyK_take (fun _ => rfl) (fun _ _ _ h k => h.trans k) (fun _ _ _ _ => trivial) (i := 8) (oi := { dst := some 39, op := _, type := _, pos := _, after := _, guard := _ }) (v := ?_) rfl (by kernel_rfl) (by kernel_rfl) (by kernel_rfl) (fun _ _ _ h => h) (Or.inl (Or.inl ⟨by rfl, ?_⟩)) hS ?_
      rotate_left
      focus ((intro w hSw; clear hSw; go_simp); (try with_reducible rfl))
      intro wq hwq
      subst hwq
      (try simp only [Act.put, List.setIfInBounds_toArray, List.set_cons_zero, List.set_cons_succ])
      refine wpAnyK_take (fun _ => rfl) (fun _ _ _ h k => h.trans k) (fun _ _ _ _ => trivial) (i := 9) (oi := { dst := some 40, op := _, type := _, pos := _, after := _, guard := _ }) (v := ?_) rfl (by kernel_rfl) (by kernel_rfl) (by kernel_rfl) (fun _ _ _ h => h) (Or.inl (Or.inl ⟨by rfl, ?_⟩)) hS ?_
      rotate_left
      focus ((intro w hSw; clear hSw; go_simp); (try with_reducible rfl))
      intro wq hwq
      subst hwq
      (try simp only [Act.put, List.setIfInBounds_toArray, List.set_cons_zero, List.set_cons_succ])
      refine wpAnyK_take (fun _ => rfl) (fun _ _ _ h k => h.trans k) (fun _ _ _ _ => trivial) (i := 10) (oi := { dst := some 41, op := _, type := _, pos := _, after := _, guard := _ }) (v := ?_) rfl (by kernel_rfl) (by kernel_rfl) (by kernel_rfl) (fun _ _ _ h => h) (Or.inl (Or.inl ⟨by rfl, ?_⟩)) hS ?_
      rotate_left
      focus ((intro w hSw; clear hSw; go_simp); (try with_reducible rfl))
      intro wq hwq
      subst hwq
      (try simp only [Act.put, List.setIfInBounds_toArray, List.set_cons_zero, List.set_cons_succ])
      refine wpAnyK_all (rs := [0, 6]) (by kernel_rfl) (by simp) (fun i' hi' => ?_)
      simp only [List.mem_cons, List.not_mem_nil, or_false] at hi'
      rcases hi' with rfl | rfl
      · refine stepK (o := { dst := some 31, op := _, type := _, pos := _, after := _, guard := _ }) rfl (fun K hK => ?_)
        go_simp
        obtain ⟨g31, hg31⟩ : ∃ x, W0.heap.size = x := ⟨_, rfl⟩
        obtain ⟨v15, hv⟩ : ∃ y : World, W0.alloc (.cells #[] 3) = y := ⟨_, rfl⟩
        have lv : Later W0 v15 := hv ▸ Later.new _ _
        have H31 := Lib.hid (show W0.heap.size ≤ g31 ∧ g31 < v15.heap.size from ⟨Nat.le_of_eq hg31, by rw [← hv, ← hg31]; simp⟩)
        have HO31 := Lib.hid (show v15.ownsRow W0.heap.size 3 1 (.slice (some ⟨g31, 0, none⟩) 0 0) 0 [] from hg31 ▸ hv ▸ own_empty W0 W0.heap.size 3 1 HSZ.out)
        try rw [hg31]
        rw [hv]
        have HSZO := HSZ
        have HSZ := Lib.hid (Nat.le_trans HSZ.out lv.size)
        have HH1 := Lib.hid (HH1.out.later lv)
        have HH2 := Lib.hid (HH2.out.later lv)
        have HLN := Lib.hid (HLN.out.trans (lv.below.mono HSZO.out))
        clear hv hg31 HSZO lv
        refine hK _ _ hS ?_
        intro wq' hwq
        subst hwq
        clear hK
        (try simp only [Act.put, List.setIfInBounds_toArray, List.set_cons_zero, List.set_cons_succ])
        refine wpAnyK_all (rs := [4, 6]) (by kernel_rfl) (by simp) (fun i' hi' => ?_)
        simp only [List.mem_cons, List.not_mem_nil, or_false] at hi'
        rcases hi' with rfl | rfl
        · refine stepK (o := { dst := some 35, op := _, type := _, pos := _, after := _, guard := _ }) rfl (fun K hK => ?_)
          refine step_append_n rfl (.tmp 31) (.tmp 34) 34 rfl W0.heap.size 3 _ 1 8 Tryd.underlying34 info_io rfl (by decide) _ (0) ([]) rfl HO31.out (some ⟨pb, 0, none⟩ : Option Addr) (j) (pc) (pin (S.take j)) rfl HH1.out (by rw [pin_len]; exact HTL.out) HN1.out (pin_one _) (by unfold maxLen; omega) (by omega) HSZ.out ?_
          rintro QA Qc v16 ho hgr hbl hnl
          rw [Nat.zero_add, List.nil_append] at ho
          rw [Nat.zero_add]
          have HO35 := Lib.hid ho
          have HSZ := Lib.hid (Nat.le_trans HSZ.out hbl.size)
          have HH2 := Lib.hid (has_below HH2.out HP2.out hbl)
          have HLN := Lib.hid (HLN.out.trans hbl)
          clear ho hgr hbl hnl
          refine hK _ _ hS ?_
          intro wq' hwq
          subst hwq
          clear hK
          (try simp only [Act.put, List.setIfInBounds_toArray, List.set_cons_zero, List.set_cons_succ])
          refine wpAnyK_all (rs := [6]) (by kernel_rfl) (by simp) (fun i' hi' => ?_)
          simp only [List.mem_cons, List.not_mem_nil, or_false] at hi'
          subst hi'
          refine stepK (o := { dst := some 37, op := _, type := _, pos := _, after := _, guard := _ }) rfl (fun K hK => ?_)
          go_simp
          obtain ⟨g37, hg37⟩ : ∃ x, v16.heap.size = x := ⟨_, rfl⟩
          obtain ⟨v17, hv⟩ : ∃ y : World, v16.alloc (.cells #[.int .i64 (i : Int)] 3) = y := ⟨_, rfl⟩
          have lv : Later v16 v17 := hv ▸ Later.new _ _
          have HLT := Lib.hid (show Has v17 (some ⟨g37, 0, none⟩) (pin [i]) from hv ▸ (Blk.new v16 [Value.int .i64 (i : Int)].toArray 3 g37 hg37.symm).has)
          have H37 := Lib.hid (show v16.heap.size ≤ g37 ∧ g37 < v17.heap.size from ⟨Nat.le_of_eq hg37, by rw [← hv, ← hg37]; simp⟩)
          try rw [hg37]
          rw [hv]
          have HSZO := HSZ
          have HSZ := Lib.hid (Nat.le_trans HSZ.out lv.size)
          have HH2 := Lib.hid (HH2.out.later lv)
          have HLN := Lib.hid (HLN.out.trans (lv.below.mono HSZO.out))
          have HO35 := Lib.hid (own_later HO35.out lv)
          clear hv hg37 HSZO lv
          refine hK _ _ hS ?_
          intro wq' hwq
          subst hwq
          clear hK
          (try simp only [Act.put, List.setIfInBounds_toArray, List.set_cons_zero, List.set_cons_succ])
          refine wpAnyK_all (rs := [7]) (by kernel_rfl) (by simp) (fun i' hi' => ?_)
          simp only [List.mem_cons, List.not_mem_nil, or_false] at hi'
          subst hi'
          refine stepK (o := { dst := some 38, op := _, type := _, pos := _, after := _, guard := _ }) rfl (fun K hK => ?_)
          refine step_append_n rfl (.tmp 35) (.tmp 37) 34 rfl W0.heap.size 3 _ 1 8 Tryd.underlying34 info_io rfl (by decide) _ (j) (pin (S.take j)) rfl HO35.out (some ⟨g37, 0, none⟩) (1) (1) (pin [i]) rfl HLT.out rfl (fun h => by cases h) (pin_one _) (by unfold maxLen; omega) (by omega) HSZ.out ?_
          rintro RA Rc v18 ho hgr hbl hnl
          have HO38 := Lib.hid ho
          have HSZ := Lib.hid (Nat.le_trans HSZ.out hbl.size)
          have HH2 := Lib.hid (has_below HH2.out HP2.out hbl)
          have HLN := Lib.hid (HLN.out.trans hbl)
          clear ho hgr hbl hnl
          refine hK _ _ hS ?_
          intro wq' hwq
          subst hwq
          clear hK
          (try simp only [Act.put, List.setIfInBounds_toArray, List.set_cons_zero, List.set_cons_succ])
          refine wpAnyK_all (rs := [11]) (by kernel_rfl) (by simp) (fun i' hi' => ?_)
          simp only [List.mem_cons, List.not_mem_nil, or_false] at hi'
          subst hi'
          refine stepK (o := { dst := some 42, op := _, type := _, pos := _, after := _, guard := _ }) rfl (fun K hK => ?_)
          refine step_append_n rfl (.tmp 38) (.tmp 41) 34 rfl W0.heap.size 3 _ 1 8 Tryd.underlying34 info_io rfl (by decide) _ (j + 1) (pin (S.take j) ++ pin [i]) rfl HO38.out (some ⟨pb, j, none⟩ : Option Addr) (m - j) (pc - j) (pin (S.drop j)) rfl HH2.out (by rw [pin_len]; exact HDL.out) HN2x.out (pin_one _) (by unfold maxLen; omega) (by omega) HSZ.out ?_
          rintro TA Tc v19 ho hgr hbl hnl
          have HO42 := Lib.hid ho
          have HSZ := Lib.hid (Nat.le_trans HSZ.out hbl.size)
          have HLN := Lib.hid (HLN.out.trans hbl)
          have HTN := Lib.hid hnl
          clear ho hgr hbl hnl
          refine hK _ _ hS ?_
          intro wq' hwq
          subst hwq
          clear hK
          (try simp only [Act.put, List.setIfInBounds_toArray, List.set_cons_zero, List.set_cons_succ])
          refine wpAnyK_take (fun _ => rfl) (fun _ _ _ h k => h.trans k) (fun _ _ _ _ => trivial) (i := 12) (oi := { dst := some 5, op := _, type := _, pos := _, after := _, guard := _ }) (v := ?_) rfl (by kernel_rfl) (by kernel_rfl) (by kernel_rfl) (fun _ _ _ h => h) (Or.inl (Or.inl ⟨by rfl, ?_⟩)) hS ?_
          rotate_left
          focus ((intro w hSw; clear hSw; go_simp); (try with_reducible rfl))
          intro wq hwq
          subst hwq
          (try simp only [Act.put, List.setIfInBounds_toArray, List.set_cons_zero, List.set_cons_succ])
          refine wpAnyK_done (by kernel_rfl) ?_ _
          obtain ⟨tn, htn⟩ : ∃ tn, j + 1 + (m - j) = tn := ⟨_, rfl⟩
          have hti : tn = (S.take j ++ i :: S.drop j).length := by rw [List.length_append, List.length_cons, List.length_take, List.length_drop]; have := HM.out; omega
          skip
          skip
          rw [htn] at HO42
          try rw [htn]
          have HOF := Lib.hid (show v19.ownsRow w.heap.size 3 1 (.slice TA tn Tc) tn (pin (S.take j ++ i :: S.drop j)) from by
            have h := own_mono HO42.out HWS.out
            have e : pin (S.take j ++ i :: S.drop j) = pin (S.take j) ++ pin [i] ++ pin (S.drop j) := by rw [show i :: S.drop j = [i] ++ S.drop j from rfl, pin_append, pin_append, List.append_assoc]
            rw [e]; exact h)
          have HTI := Lib.hid hti
          have HT0 := Lib.hid (show tn = 0 → TA = none from fun h => by rw [List.length_append, List.length_cons] at hti; omega)
          have HLF := Lib.hid (show Later w v19 from Later.of (HLW.out.below.trans (HLN.out.mono HWS.out)))
          clear hS htn hti
          go_wp2_with fail
          go_roundw
          case rel => exact OrI.mk _ (i + 1) _ _ _ _ (by go_num) hlt HTI.out HNEW.out HOF.out HTN.out HT0.out HLF.out
          case measure => simp [intOf]; omega
        · refine stepK (o := { dst := some 37, op := _, type := _, pos := _, after := _, guard := _ }) rfl (fun K hK => ?_)
          go_simp
          obtain ⟨g37, hg37⟩ : ∃ x, v15.heap.size = x := ⟨_, rfl⟩
          obtain ⟨v20, hv⟩ : ∃ y : World, v15.alloc (.cells #[.int .i64 (i : Int)] 3) = y := ⟨_, rfl⟩
          have lv : Later v15 v20 := hv ▸ Later.new _ _
          have HLT := Lib.hid (show Has v20 (some ⟨g37, 0, none⟩) (pin [i]) from hv ▸ (Blk.new v15 [Value.int .i64 (i : Int)].toArray 3 g37 hg37.symm).has)
          have H37 := Lib.hid (show v15.heap.size ≤ g37 ∧ g37 < v20.heap.size from ⟨Nat.le_of_eq hg37, by rw [← hv, ← hg37]; simp⟩)
          try rw [hg37]
          rw [hv]
          have HSZO := HSZ
          have HSZ := Lib.hid (Nat.le_trans HSZ.out lv.size)
          have HH1 := Lib.hid (HH1.out.later lv)
          have HH2 := Lib.hid (HH2.out.later lv)
          have HLN := Lib.hid (HLN.out.trans (lv.below.mono HSZO.out))
          have HO31 := Lib.hid (own_later HO31.out lv)
          clear hv hg37 HSZO lv
          refine hK _ _ hS ?_
          intro wq' hwq
          subst hwq
          clear hK
          (try simp only [Act.put, List.setIfInBounds_toArray, List.set_cons_zero, List.set_cons_succ])
          refine wpAnyK_all (rs := [4]) (by kernel_rfl) (by simp) (fun i' hi' => ?_)
          simp only [List.mem_cons, List.not_mem_nil, or_false] at hi'
          subst hi'
          refine stepK (o := { dst := some 35, op := _, type := _, pos := _, after := _, guard := _ }) rfl (fun K hK => ?_)
          refine step_append_n rfl (.tmp 31) (.tmp 34) 34 rfl W0.heap.size 3 _ 1 8 Tryd.underlying34 info_io rfl (by decide) _ (0) ([]) rfl HO31.out (some ⟨pb, 0, none⟩ : Option Addr) (j) (pc) (pin (S.take j)) rfl HH1.out (by rw [pin_len]; exact HTL.out) HN1.out (pin_one _) (by unfold maxLen; omega) (by omega) HSZ.out ?_
          rintro QA Qc v21 ho hgr hbl hnl
          rw [Nat.zero_add, List.nil_append] at ho
          rw [Nat.zero_add]
          have HO35 := Lib.hid ho
          have HSZ := Lib.hid (Nat.le_trans HSZ.out hbl.size)
          have HH2 := Lib.hid (has_below HH2.out HP2.out hbl)
          have HLN := Lib.hid (HLN.out.trans hbl)
          have HLT := Lib.hid (has_grown (q := g31) HLT.out hgr rfl (by have := H31.out; have := H37.out; omega))
          clear ho hgr hbl hnl
          refine hK _ _ hS ?_
          intro wq' hwq
          subst hwq
          clear hK
          (try simp only [Act.put, List.setIfInBounds_toArray, List.set_cons_zero, List.set_cons_succ])
          refine wpAnyK_all (rs := [7]) (by kernel_rfl) (by simp) (fun i' hi' => ?_)
          simp only [List.mem_cons, List.not_mem_nil, or_false] at hi'
          subst hi'
          refine stepK (o := { dst := some 38, op := _, type := _, pos := _, after := _, guard := _ }) rfl (fun K hK => ?_)
          refine step_append_n rfl (.tmp 35) (.tmp 37) 34 rfl W0.heap.size 3 _ 1 8 Tryd.underlying34 info_io rfl (by decide) _ (j) (pin (S.take j)) rfl HO35.out (some ⟨g37, 0, none⟩) (1) (1) (pin [i]) rfl HLT.out rfl (fun h => by cases h) (pin_one _) (by unfold maxLen; omega) (by omega) HSZ.out ?_
          rintro RA Rc v22 ho hgr hbl hnl
          have HO38 := Lib.hid ho
          have HSZ := Lib.hid (Nat.le_trans HSZ.out hbl.size)
          have HH2 := Lib.hid (has_below HH2.out HP2.out hbl)
          have HLN := Lib.hid (HLN.out.trans hbl)
          clear ho hgr hbl hnl
          refine hK _ _ hS ?_
          intro wq' hwq
          subst hwq
          clear hK
          (try simp only [Act.put, List.setIfInBounds_toArray, List.set_cons_zero, List.set_cons_succ])
          refine wpAnyK_all (rs := [11]) (by kernel_rfl) (by simp) (fun i' hi' => ?_)
          simp only [List.mem_cons, List.not_mem_nil, or_false] at hi'
          subst hi'
          refine stepK (o := { dst := some 42, op := _, type := _, pos := _, after := _, guard := _ }) rfl (fun K hK => ?_)
          refine step_append_n rfl (.tmp 38) (.tmp 41) 34 rfl W0.heap.size 3 _ 1 8 Tryd.underlying34 info_io rfl (by decide) _ (j + 1) (pin (S.take j) ++ pin [i]) rfl HO38.out (some ⟨pb, j, none⟩ : Option Addr) (m - j) (pc - j) (pin (S.drop j)) rfl HH2.out (by rw [pin_len]; exact HDL.out) HN2x.out (pin_one _) (by unfold maxLen; omega) (by omega) HSZ.out ?_
          rintro TA Tc v23 ho hgr hbl hnl
          have HO42 := Lib.hid ho
          have HSZ := Lib.hid (Nat.le_trans HSZ.out hbl.size)
          have HLN := Lib.hid (HLN.out.trans hbl)
          have HTN := Lib.hid hnl
          clear ho hgr hbl hnl
          refine hK _ _ hS ?_
          intro wq' hwq
          subst hwq
          clear hK
          (try simp only [Act.put, List.setIfInBounds_toArray, List.set_cons_zero, List.set_cons_succ])
          refine wpAnyK_take (fun _ => rfl) (fun _ _ _ h k => h.trans k) (fun _ _ _ _ => trivial) (i := 12) (oi := { dst := some 5, op := _, type := _, pos := _, after := _, guard := _ }) (v := ?_) rfl (by kernel_rfl) (by kernel_rfl) (by kernel_rfl) (fun _ _ _ h => h) (Or.inl (Or.inl ⟨by rfl, ?_⟩)) hS ?_
          rotate_left
          focus ((intro w hSw; clear hSw; go_simp); (try with_reducible rfl))
          intro wq hwq
          subst hwq
          (try simp only [Act.put, List.setIfInBounds_toArray, List.set_cons_zero, List.set_cons_succ])
          refine wpAnyK_done (by kernel_rfl) ?_ _
          obtain ⟨tn, htn⟩ : ∃ tn, j + 1 + (m - j) = tn := ⟨_, rfl⟩
          have hti : tn = (S.take j ++ i :: S.drop j).length := by rw [List.length_append, List.length_cons, List.length_take, List.length_drop]; have := HM.out; omega
          skip
          skip
          rw [htn] at HO42
          try rw [htn]
          have HOF := Lib.hid (show v23.ownsRow w.heap.size 3 1 (.slice TA tn Tc) tn (pin (S.take j ++ i :: S.drop j)) from by
            have h := own_mono HO42.out HWS.out
            have e : pin (S.take j ++ i :: S.drop j) = pin (S.take j) ++ pin [i] ++ pin (S.drop j) := by rw [show i :: S.drop j = [i] ++ S.drop j from rfl, pin_append, pin_append, List.append_assoc]
            rw [e]; exact h)
          have HTI := Lib.hid hti
          have HT0 := Lib.hid (show tn = 0 → TA = none from fun h => by rw [List.length_append, List.length_cons] at hti; omega)
          have HLF := Lib.hid (show Later w v23 from Later.of (HLW.out.below.trans (HLN.out.mono HWS.out)))
          clear hS htn hti
          go_wp2_with fail
          go_roundw
          case rel => exact OrI.mk _ (i + 1) _ _ _ _ (by go_num) hlt HTI.out HNEW.out HOF.out HTN.out HT0.out HLF.out
          case measure => simp [intOf]; omega
      · refine stepK (o := { dst := some 37, op := _, type := _, pos := _, after := _, guard := _ }) rfl (fun K hK => ?_)
        go_simp
        obtain ⟨g37, hg37⟩ : ∃ x, W0.heap.size = x := ⟨_, rfl⟩
        obtain ⟨v24, hv⟩ : ∃ y : World, W0.alloc (.cells #[.int .i64 (i : Int)] 3) = y := ⟨_, rfl⟩
        have lv : Later W0 v24 := hv ▸ Later.new _ _
        have HLT := Lib.hid (show Has v24 (some ⟨g37, 0, none⟩) (pin [i]) from hv ▸ (Blk.new W0 [Value.int .i64 (i : Int)].toArray 3 g37 hg37.symm).has)
        have H37 := Lib.hid (show W0.heap.size ≤ g37 ∧ g37 < v24.heap.size from ⟨Nat.le_of_eq hg37, by rw [← hv, ← hg37]; simp⟩)
        try rw [hg37]
        rw [hv]
        have HSZO := HSZ
        have HSZ := Lib.hid (Nat.le_trans HSZ.out lv.size)
        have HH1 := Lib.hid (HH1.out.later lv)
        have HH2 := Lib.hid (HH2.out.later lv)
        have HLN := Lib.hid (HLN.out.trans (lv.below.mono HSZO.out))
        clear hv hg37 HSZO lv
        refine hK _ _ hS ?_
        intro wq' hwq
        subst hwq
        clear hK
        (try simp only [Act.put, List.setIfInBounds_toArray, List.set_cons_zero, List.set_cons_succ])
        refine wpAnyK_all (rs := [0]) (by kernel_rfl) (by simp) (fun i' hi' => ?_)
        simp only [List.mem_cons, List.not_mem_nil, or_false] at hi'
        subst hi'
        refine stepK (o := { dst := some 31, op := _, type := _, pos := _, after := _, guard := _ }) rfl (fun K hK => ?_)
        go_simp
        obtain ⟨g31, hg31⟩ : ∃ x, v24.heap.size = x := ⟨_, rfl⟩
        obtain ⟨v25, hv⟩ : ∃ y : World, v24.alloc (.cells #[] 3) = y := ⟨_, rfl⟩
        have lv : Later v24 v25 := hv ▸ Later.new _ _
        have H31 := Lib.hid (show v24.heap.size ≤ g31 ∧ g31 < v25.heap.size from ⟨Nat.le_of_eq hg31, by rw [← hv, ← hg31]; simp⟩)
        have HO31 := Lib.hid (show v25.ownsRow W0.heap.size 3 1 (.slice (some ⟨g31, 0, none⟩) 0 0) 0 [] from hg31 ▸ hv ▸ own_empty v24 W0.heap.size 3 1 HSZ.out)
        try rw [hg31]
        rw [hv]
        have HSZO := HSZ
        have HSZ := Lib.hid (Nat.le_trans HSZ.out lv.size)
        have HH1 := Lib.hid (HH1.out.later lv)
        have HH2 := Lib.hid (HH2.out.later lv)
        have HLN := Lib.hid (HLN.out.trans (lv.below.mono HSZO.out))
        have HLT := Lib.hid (HLT.out.later lv)
        clear hv hg31 HSZO lv
        refine hK _ _ hS ?_
        intro wq' hwq
        subst hwq
        clear hK
        (try simp only [Act.put, List.setIfInBounds_toArray, List.set_cons_zero, List.set_cons_succ])
        refine wpAnyK_all (rs := [4]) (by kernel_rfl) (by simp) (fun i' hi' => ?_)
        simp only [List.mem_cons, List.not_mem_nil, or_false] at hi'
        subst hi'
        refine stepK (o := { dst := some 35, op := _, type := _, pos := _, after := _, guard := _ }) rfl (fun K hK => ?_)
        refine step_append_n rfl (.tmp 31) (.tmp 34) 34 rfl W0.heap.size 3 _ 1 8 Tryd.underlying34 info_io rfl (by decide) _ (0) ([]) rfl HO31.out (some ⟨pb, 0, none⟩ : Option Addr) (j) (pc) (pin (S.take j)) rfl HH1.out (by rw [pin_len]; exact HTL.out) HN1.out (pin_one _) (by unfold maxLen; omega) (by omega) HSZ.out ?_
        rintro QA Qc v26 ho hgr hbl hnl
        rw [Nat.zero_add, List.nil_append] at ho
        rw [Nat.zero_add]
        have HO35 := Lib.hid ho
        have HSZ := Lib.hid (Nat.le_trans HSZ.out hbl.size)
        have HH2 := Lib.hid (has_below HH2.out HP2.out hbl)
        have HLN := Lib.hid (HLN.out.trans hbl)
        have HLT := Lib.hid (has_grown (q := g31) HLT.out hgr rfl (by have := H31.out; have := H37.out; omega))
        clear ho hgr hbl hnl
        refine hK _ _ hS ?_
        intro wq' hwq
        subst hwq
        clear hK
        (try simp only [Act.put, List.setIfInBounds_toArray, List.set_cons_zero, List.set_cons_succ])
        refine wpAnyK_all (rs := [7]) (by kernel_rfl) (by simp) (fun i' hi' => ?_)
        simp only [List.mem_cons, List.not_mem_nil, or_false] at hi'
        subst hi'
        refine stepK (o := { dst := some 38, op := _, type := _, pos := _, after := _, guard := _ }) rfl (fun K hK => ?_)
        refine step_append_n rfl (.tmp 35) (.tmp 37) 34 rfl W0.heap.size 3 _ 1 8 Tryd.underlying34 info_io rfl (by decide) _ (j) (pin (S.take j)) rfl HO35.out (some ⟨g37, 0, none⟩) (1) (1) (pin [i]) rfl HLT.out rfl (fun h => by cases h) (pin_one _) (by unfold maxLen; omega) (by omega) HSZ.out ?_
        rintro RA Rc v27 ho hgr hbl hnl
        have HO38 := Lib.hid ho
        have HSZ := Lib.hid (Nat.le_trans HSZ.out hbl.size)
        have HH2 := Lib.hid (has_below HH2.out HP2.out hbl)
        have HLN := Lib.hid (HLN.out.trans hbl)
        clear ho hgr hbl hnl
        refine hK _ _ hS ?_
        intro wq' hwq
        subst hwq
        clear hK
        (try simp only [Act.put, List.setIfInBounds_toArray, List.set_cons_zero, List.set_cons_succ])
        refine wpAnyK_all (rs := [11]) (by kernel_rfl) (by simp) (fun i' hi' => ?_)
        simp only [List.mem_cons, List.not_mem_nil, or_false] at hi'
        subst hi'
        refine stepK (o := { dst := some 42, op := _, type := _, pos := _, after := _, guard := _ }) rfl (fun K hK => ?_)
        refine step_append_n rfl (.tmp 38) (.tmp 41) 34 rfl W0.heap.size 3 _ 1 8 Tryd.underlying34 info_io rfl (by decide) _ (j + 1) (pin (S.take j) ++ pin [i]) rfl HO38.out (some ⟨pb, j, none⟩ : Option Addr) (m - j) (pc - j) (pin (S.drop j)) rfl HH2.out (by rw [pin_len]; exact HDL.out) HN2x.out (pin_one _) (by unfold maxLen; omega) (by omega) HSZ.out ?_
        rintro TA Tc v28 ho hgr hbl hnl
        have HO42 := Lib.hid ho
        have HSZ := Lib.hid (Nat.le_trans HSZ.out hbl.size)
        have HLN := Lib.hid (HLN.out.trans hbl)
        have HTN := Lib.hid hnl
        clear ho hgr hbl hnl
        refine hK _ _ hS ?_
        intro wq' hwq
        subst hwq
        clear hK
        (try simp only [Act.put, List.setIfInBounds_toArray, List.set_cons_zero, List.set_cons_succ])
        refine wpAnyK_take (fun _ => rfl) (fun _ _ _ h k => h.trans k) (fun _ _ _ _ => trivial) (i := 12) (oi := { dst := some 5, op := _, type := _, pos := _, after := _, guard := _ }) (v := ?_) rfl (by kernel_rfl) (by kernel_rfl) (by kernel_rfl) (fun _ _ _ h => h) (Or.inl (Or.inl ⟨by rfl, ?_⟩)) hS ?_
        rotate_left
        focus ((intro w hSw; clear hSw; go_simp); (try with_reducible rfl))
        intro wq hwq
        subst hwq
        (try simp only [Act.put, List.setIfInBounds_toArray, List.set_cons_zero, List.set_cons_succ])
        refine wpAnyK_done (by kernel_rfl) ?_ _
        obtain ⟨tn, htn⟩ : ∃ tn, j + 1 + (m - j) = tn := ⟨_, rfl⟩
        have hti : tn = (S.take j ++ i :: S.drop j).length := by rw [List.length_append, List.length_cons, List.length_take, List.length_drop]; have := HM.out; omega
        skip
        skip
        rw [htn] at HO42
        try rw [htn]
        have HOF := Lib.hid (show v28.ownsRow w.heap.size 3 1 (.slice TA tn Tc) tn (pin (S.take j ++ i :: S.drop j)) from by
          have h := own_mono HO42.out HWS.out
          have e : pin (S.take j ++ i :: S.drop j) = pin (S.take j) ++ pin [i] ++ pin (S.drop j) := by rw [show i :: S.drop j = [i] ++ S.drop j from rfl, pin_append, pin_append, List.append_assoc]
          rw [e]; exact h)
        have HTI := Lib.hid hti
        have HT0 := Lib.hid (show tn = 0 → TA = none from fun h => by rw [List.length_append, List.length_cons] at hti; omega)
        have HLF := Lib.hid (show Later w v28 from Later.of (HLW.out.below.trans (HLN.out.mono HWS.out)))
        clear hS htn hti
        go_wp2_with fail
        go_roundw
        case rel => exact OrI.mk _ (i + 1) _ _ _ _ (by go_num) hlt HTI.out HNEW.out HOF.out HTN.out HT0.out HLF.out
        case measure => simp [intOf]; omega
    obtain rfl : j = m := by omega
    by_cases hcc : pc = j
    · have hcc2 := hcc.symm
      subst hcc2
      have hpj : j - j = 0 := by omega
      have hpj3 : j ≤ j := by omega
      go_upto_region 8 with fail
      refine wp_region_K (S := fun _ : World => True) (R := fun a b => a = b) (fun _ => rfl) (by kernel_rfl) ?_
      obtain ⟨W0, hW0⟩ : ∃ x, wc.drew = x := ⟨_, rfl⟩
      rw [hW0]
      have lW0 : Later wc W0 := hW0 ▸ (Later.refl wc).drew
      have hS : (fun _ : World => True) W0 := trivial
      have HSZ := Lib.hid (Nat.le_refl W0.heap.size)
      have HWS := Lib.hid (show w.heap.size ≤ W0.heap.size from (HLX.out.trans lW0).size)
      have HLN := Lib.hid (Below.refl W0.heap.size W0)
      have HTL := Lib.hid (show (S.take j).length = j * 1 by rw [List.length_take]; have := HM.out; omega)
      have HDL := Lib.hid (show (S.drop j).length = (0) * 1 by rw [List.length_drop]; have := HM.out; omega)
      have HH1 := Lib.hid (show Has W0 (some ⟨pb, 0, none⟩ : Option Addr) (pin (S.take j)) from (HHX.out.later lW0).ptake j)
      have HH2 := Lib.hid (show Has W0 (some ⟨pb, 0, none⟩ : Option Addr) (pin (S.drop j)) from (.inl (by rw [List.drop_eq_nil_of_le (by have := HM.out; omega)]; rfl)))
      have HP1 := Lib.hid (show ∀ b off, (some ⟨pb, 0, none⟩ : Option Addr) = some ⟨b, off, none⟩ → b < W0.heap.size from fun b off e => by injection e with e; injection e with e1 e2; rw [← e1]; exact Nat.lt_of_lt_of_le hpb lW0.size)
      have HP2 := Lib.hid (show ∀ b off, (some ⟨pb, 0, none⟩ : Option Addr) = some ⟨b, off, none⟩ → b < W0.heap.size from fun b off e => by injection e with e; injection e with e1 e2; rw [← e1]; exact Nat.lt_of_lt_of_le hpb lW0.size)
      have HN1 := Lib.hid (show (some ⟨pb, 0, none⟩ : Option Addr) = none → j = 0 from fun h => by cases h)
      have HN2x := Lib.hid (show (some ⟨pb, 0, none⟩ : Option Addr) = none → 0 = 0 from fun h => by cases h)
      have HLW := Lib.hid (HLX.out.trans lW0)
      clear hW0 lW0
      refine wpAnyK_take (fun _ => rfl) (fun _ _ _ h k => h.trans k) (fun _ _ _ _ => trivial) (i := 1) (oi := { dst := some 32, op := _, type := _, pos := _, after := _, guard := _ }) (v := ?_) rfl (by kernel_rfl) (by kernel_rfl) (by kernel_rfl) (fun _ _ _ h => h) (Or.inl (Or.inl ⟨by rfl, ?_⟩)) hS ?_
      rotate_left
      focus ((intro w hSw; clear hSw; go_simp); (try with_reducible rfl))
      intro wq hwq
      subst hwq
      (try simp only [Act.put, List.setIfInBounds_toArray, List.set_cons_zero, List.set_cons_succ])
      refine wpAnyK_take (fun _ => rfl) (fun _ _ _ h k => h.trans k) (fun _ _ _ _ => trivial) (i := 2) (oi := { dst := some 33, op := _, type := _, pos := _, after := _, guard := _ }) (v := ?_) rfl (by kernel_rfl) (by kernel_rfl) (by kernel_rfl) (fun _ _ _ h => h) (Or.inl (Or.inl ⟨by rfl, ?_⟩)) hS ?_
      rotate_left
      focus ((intro w hSw; clear hSw; go_simp); (try with_reducible rfl))
      intro wq hwq
      subst hwq
      (try simp only [Act.put, List.setIfInBounds_toArray, List.set_cons_zero, List.set_cons_succ])
      refine wpAnyK_take (fun _ => rfl) (fun _ _ _ h k => h.trans k) (fun _ _ _ _ => trivial) (i := 3) (oi := { dst := some 34, op := _, type := _, pos := _, after := _, guard := _ }) (v := ?_) rfl (by kernel_rfl) (by kernel_rfl) (by kernel_rfl) (fun _ _ _ h => h) (Or.inl (Or.inl ⟨by rfl, ?_⟩)) hS ?_
      rotate_left
      focus ((intro w hSw; clear hSw; go_simp); (try with_reducible rfl))
      intro wq hwq
      subst hwq
      (try simp only [Act.put, List.setIfInBounds_toArray, List.set_cons_zero, List.set_cons_succ])
      refine wpAnyK_take (fun _ => rfl) (fun _ _ _ h k => h.trans k) (fun _ _ _ _ => trivial) (i := 5) (oi := { dst := some 36, op := _, type := _, pos := _, after := _, guard := _ }) (v := ?_) rfl (by kernel_rfl) (by kernel_rfl) (by kernel_rfl) (fun _ _ _ h => h) (Or.inl (Or.inl ⟨by rfl, ?_⟩)) hS ?_
      rotate_left
      focus ((intro w hSw; clear hSw; go_simp); (try with_reducible rfl))
      intro wq hwq
      subst hwq
      (try simp only [Act.put, List.setIfInBounds_toArray, List.set_cons_zero, List.set_cons_succ])
      refine wpAnyK_take (fun _ => rfl) (fun _ _ _ h k => h.trans k) (fun _ _ _ _ => trivial) (i := 8) (oi := { dst := some 39, op := _, type := _, pos := _, after := _, guard := _ }) (v := ?_) rfl (by kernel_rfl) (by kernel_rfl) (by kernel_rfl) (fun _ _ _ h => h) (Or.inl (Or.inl ⟨by rfl, ?_⟩)) hS ?_
      rotate_left
      focus ((intro w hSw; clear hSw; go_simp); (try with_reducible rfl))
      intro wq hwq
      subst hwq
      (try simp only [Act.put, List.setIfInBounds_toArray, List.set_cons_zero, List.set_cons_succ])
      refine wpAnyK_take (fun _ => rfl) (fun _ _ _ h k => h.trans k) (fun _ _ _ _ => trivial) (i := 9) (oi := { dst := some 40, op := _, type := _, pos := _, after := _, guard := _ }) (v := ?_) rfl (by kernel_rfl) (by kernel_rfl) (by kernel_rfl) (fun _ _ _ h => h) (Or.inl (Or.inl ⟨by rfl, ?_⟩)) hS ?_
      rotate_left
      focus ((intro w hSw; clear hSw; go_simp); (try with_reducible rfl))
      intro wq hwq
      subst hwq
      (try simp only [Act.put, List.setIfInBounds_toArray, List.set_cons_zero, List.set_cons_succ])
      refine wpAnyK_take (fun _ => rfl) (fun _ _ _ h k => h.trans k) (fun _ _ _ _ => trivial) (i := 10) (oi := { dst := some 41, op := _, type := _, pos := _, after := _, guard := _ }) (v := ?_) rfl (by kernel_rfl) (by kernel_rfl) (by kernel_rfl) (fun _ _ _ h => h) (Or.inl (Or.inl ⟨by rfl, ?_⟩)) hS ?_
      rotate_left
      focus ((intro w hSw; clear hSw; go_simp); (try with_reducible rfl))
      intro wq hwq
      subst hwq
      (try simp only [Act.put, List.setIfInBounds_toArray, List.set_cons_zero, List.set_cons_succ])
      refine wpAnyK_all (rs := [0, 6]) (by kernel_rfl) (by simp) (fun i' hi' => ?_)
      simp only [List.mem_cons, List.not_mem_nil, or_false] at hi'
      rcases hi' with rfl | rfl
      · refine stepK (o := { dst := some 31, op := _, type := _, pos := _, after := _, guard := _ }) rfl (fun K hK => ?_)
        go_simp
        obtain ⟨g31, hg31⟩ : ∃ x, W0.heap.size = x := ⟨_, rfl⟩
        obtain ⟨v29, hv⟩ : ∃ y : World, W0.alloc (.cells #[] 3) = y := ⟨_, rfl⟩
        have lv : Later W0 v29 := hv ▸ Later.new _ _
        have H31 := Lib.hid (show W0.heap.size ≤ g31 ∧ g31 < v29.heap.size from ⟨Nat.le_of_eq hg31, by rw [← hv, ← hg31]; simp⟩)
        have HO31 := Lib.hid (show v29.ownsRow W0.heap.size 3 1 (.slice (some ⟨g31, 0, none⟩) 0 0) 0 [] from hg31 ▸ hv ▸ own_empty W0 W0.heap.size 3 1 HSZ.out)
        try rw [hg31]
        rw [hv]
        have HSZO := HSZ
        have HSZ := Lib.hid (Nat.le_trans HSZ.out lv.size)
        have HH1 := Lib.hid (HH1.out.later lv)
        have HH2 := Lib.hid (HH2.out.later lv)
        have HLN := Lib.hid (HLN.out.trans (lv.below.mono HSZO.out))
        clear hv hg31 HSZO lv
        refine hK _ _ hS ?_
        intro wq' hwq
        subst hwq
        clear hK
        (try simp only [Act.put, List.setIfInBounds_toArray, List.set_cons_zero, List.set_cons_succ])
        refine wpAnyK_all (rs := [4, 6]) (by kernel_rfl) (by simp) (fun i' hi' => ?_)
        simp only [List.mem_cons, List.not_mem_nil, or_false] at hi'
        rcases hi' with rfl | rfl
        · refine stepK (o := { dst := some 35, op := _, type := _, pos := _, after := _, guard := _ }) rfl (fun K hK => ?_)
          refine step_append_n rfl (.tmp 31) (.tmp 34) 34 rfl W0.heap.size 3 _ 1 8 Tryd.underlying34 info_io rfl (by decide) _ (0) ([]) rfl HO31.out (some ⟨pb, 0, none⟩ : Option Addr) (j) (j) (pin (S.take j)) rfl HH1.out (by rw [pin_len]; exact HTL.out) HN1.out (pin_one _) (by unfold maxLen; omega) (by omega) HSZ.out ?_
          rintro QA Qc v30 ho hgr hbl hnl
          rw [Nat.zero_add, List.nil_append] at ho
          rw [Nat.zero_add]
          have HO35 := Lib.hid ho
          have HSZ := Lib.hid (Nat.le_trans HSZ.out hbl.size)
          have HH2 := Lib.hid (has_below HH2.out HP2.out hbl)
          have HLN := Lib.hid (HLN.out.trans hbl)
          clear ho hgr hbl hnl
          refine hK _ _ hS ?_
          intro wq' hwq
          subst hwq
          clear hK
          (try simp only [Act.put, List.setIfInBounds_toArray, List.set_cons_zero, List.set_cons_succ])
          refine wpAnyK_all (rs := [6]) (by kernel_rfl) (by simp) (fun i' hi' => ?_)
          simp only [List.mem_cons, List.not_mem_nil, or_false] at hi'
          subst hi'
          refine stepK (o := { dst := some 37, op := _, type := _, pos := _, after := _, guard := _ }) rfl (fun K hK => ?_)
          go_simp
          obtain ⟨g37, hg37⟩ : ∃ x, v30.heap.size = x := ⟨_, rfl⟩
          obtain ⟨v31, hv⟩ : ∃ y : World, v30.alloc (.cells #[.int .i64 (i : Int)] 3) = y := ⟨_, rfl⟩
          have lv : Later v30 v31 := hv ▸ Later.new _ _
          have HLT := Lib.hid (show Has v31 (some ⟨g37, 0, none⟩) (pin [i]) from hv ▸ (Blk.new v30 [Value.int .i64 (i : Int)].toArray 3 g37 hg37.symm).has)
          have H37 := Lib.hid (show v30.heap.size ≤ g37 ∧ g37 < v31.heap.size from ⟨Nat.le_of_eq hg37, by rw [← hv, ← hg37]; simp⟩)
          try rw [hg37]
          rw [hv]
          have HSZO := HSZ
          have HSZ := Lib.hid (Nat.le_trans HSZ.out lv.size)
          have HH2 := Lib.hid (HH2.out.later lv)
          have HLN := Lib.hid (HLN.out.trans (lv.below.mono HSZO.out))
          have HO35 := Lib.hid (own_later HO35.out lv)
          clear hv hg37 HSZO lv
          refine hK _ _ hS ?_
          intro wq' hwq
          subst hwq
          clear hK
          (try simp only [Act.put, List.setIfInBounds_toArray, List.set_cons_zero, List.set_cons_succ])
          refine wpAnyK_all (rs := [7]) (by kernel_rfl) (by simp) (fun i' hi' => ?_)
          simp only [List.mem_cons, List.not_mem_nil, or_false] at hi'
          subst hi'
          refine stepK (o := { dst := some 38, op := _, type := _, pos := _, after := _, guard := _ }) rfl (fun K hK => ?_)
          refine step_append_n rfl (.tmp 35) (.tmp 37) 34 rfl W0.heap.size 3 _ 1 8 Tryd.underlying34 info_io rfl (by decide) _ (j) (pin (S.take j)) rfl HO35.out (some ⟨g37, 0, none⟩) (1) (1) (pin [i]) rfl HLT.out rfl (fun h => by cases h) (pin_one _) (by unfold maxLen; omega) (by omega) HSZ.out ?_
          rintro RA Rc v32 ho hgr hbl hnl
          have HO38 := Lib.hid ho
          have HSZ := Lib.hid (Nat.le_trans HSZ.out hbl.size)
          have HH2 := Lib.hid (has_below HH2.out HP2.out hbl)
          have HLN := Lib.hid (HLN.out.trans hbl)
          clear ho hgr hbl hnl
          refine hK _ _ hS ?_
          intro wq' hwq
          subst hwq
          clear hK
          (try simp only [Act.put, List.setIfInBounds_toArray, List.set_cons_zero, List.set_cons_succ])
          refine wpAnyK_all (rs := [11]) (by kernel_rfl) (by simp) (fun i' hi' => ?_)
          simp only [List.mem_cons, List.not_mem_nil, or_false] at hi'
          subst hi'
          refine stepK (o := { dst := some 42, op := _, type := _, pos := _, after := _, guard := _ }) rfl (fun K hK => ?_)
          refine step_append_n rfl (.tmp 38) (.tmp 41) 34 rfl W0.heap.size 3 _ 1 8 Tryd.underlying34 info_io rfl (by decide) _ (j + 1) (pin (S.take j) ++ pin [i]) rfl HO38.out (some ⟨pb, 0, none⟩ : Option Addr) (0) (0) (pin (S.drop j)) rfl HH2.out (by rw [pin_len]; exact HDL.out) HN2x.out (pin_one _) (by unfold maxLen; omega) (by omega) HSZ.out ?_
          rintro TA Tc v33 ho hgr hbl hnl
          have HO42 := Lib.hid ho
          have HSZ := Lib.hid (Nat.le_trans HSZ.out hbl.size)
          have HLN := Lib.hid (HLN.out.trans hbl)
          have HTN := Lib.hid hnl
          clear ho hgr hbl hnl
          refine hK _ _ hS ?_
          intro wq' hwq
          subst hwq
          clear hK
          (try simp only [Act.put, List.setIfInBounds_toArray, List.set_cons_zero, List.set_cons_succ])
          refine wpAnyK_take (fun _ => rfl) (fun _ _ _ h k => h.trans k) (fun _ _ _ _ => trivial) (i := 12) (oi := { dst := some 5, op := _, type := _, pos := _, after := _, guard := _ }) (v := ?_) rfl (by kernel_rfl) (by kernel_rfl) (by kernel_rfl) (fun _ _ _ h => h) (Or.inl (Or.inl ⟨by rfl, ?_⟩)) hS ?_
          rotate_left
          focus ((intro w hSw; clear hSw; go_simp); (try with_reducible rfl))
          intro wq hwq
          subst hwq
          (try simp only [Act.put, List.setIfInBounds_toArray, List.set_cons_zero, List.set_cons_succ])
          refine wpAnyK_done (by kernel_rfl) ?_ _
          obtain ⟨tn, htn⟩ : ∃ tn, j + 1 + (0) = tn := ⟨_, rfl⟩
          have hti : tn = (S.take j ++ i :: S.drop j).length := by rw [List.length_append, List.length_cons, List.length_take, List.length_drop]; have := HM.out; omega
          skip
          skip
          rw [htn] at HO42
          try rw [htn]
          have HOF := Lib.hid (show v33.ownsRow w.heap.size 3 1 (.slice TA tn Tc) tn (pin (S.take j ++ i :: S.drop j)) from by
            have h := own_mono HO42.out HWS.out
            have e : pin (S.take j ++ i :: S.drop j) = pin (S.take j) ++ pin [i] ++ pin (S.drop j) := by rw [show i :: S.drop j = [i] ++ S.drop j from rfl, pin_append, pin_append, List.append_assoc]
            rw [e]; exact h)
          have HTI := Lib.hid hti
          have HT0 := Lib.hid (show tn = 0 → TA = none from fun h => by rw [List.length_append, List.length_cons] at hti; omega)
          have HLF := Lib.hid (show Later w v33 from Later.of (HLW.out.below.trans (HLN.out.mono HWS.out)))
          clear hS htn hti
          go_wp2_with fail
          go_roundw
          case rel => exact OrI.mk _ (i + 1) _ _ _ _ (by go_num) hlt HTI.out HNEW.out HOF.out HTN.out HT0.out HLF.out
          case measure => simp [intOf]; omega
        · refine stepK (o := { dst := some 37, op := _, type := _, pos := _, after := _, guard := _ }) rfl (fun K hK => ?_)
          go_simp
          obtain ⟨g37, hg37⟩ : ∃ x, v29.heap.size = x := ⟨_, rfl⟩
          obtain ⟨v34, hv⟩ : ∃ y : World, v29.alloc (.cells #[.int .i64 (i : Int)] 3) = y := ⟨_, rfl⟩
          have lv : Later v29 v34 := hv ▸ Later.new _ _
          have HLT := Lib.hid (show Has v34 (some ⟨g37, 0, none⟩) (pin [i]) from hv ▸ (Blk.new v29 [Value.int .i64 (i : Int)].toArray 3 g37 hg37.symm).has)
          have H37 := Lib.hid (show v29.heap.size ≤ g37 ∧ g37 < v34.heap.size from ⟨Nat.le_of_eq hg37, by rw [← hv, ← hg37]; simp⟩)
          try rw [hg37]
          rw [hv]
          have HSZO := HSZ
          have HSZ := Lib.hid (Nat.le_trans HSZ.out lv.size)
          have HH1 := Lib.hid (HH1.out.later lv)
          have HH2 := Lib.hid (HH2.out.later lv)
          have HLN := Lib.hid (HLN.out.trans (lv.below.mono HSZO.out))
          have HO31 := Lib.hid (own_later HO31.out lv)
          clear hv hg37 HSZO lv
          refine hK _ _ hS ?_
          intro wq' hwq
          subst hwq
          clear hK
          (try simp only [Act.put, List.setIfInBounds_toArray, List.set_cons_zero, List.set_cons_succ])
          refine wpAnyK_all (rs := [4]) (by kernel_rfl) (by simp) (fun i' hi' => ?_)
          simp only [List.mem_cons, List.not_mem_nil, or_false] at hi'
          subst hi'
          refine stepK (o := { dst := some 35, op := _, type := _, pos := _, after := _, guard := _ }) rfl (fun K hK => ?_)
          refine step_append_n rfl (.tmp 31) (.tmp 34) 34 rfl W0.heap.size 3 _ 1 8 Tryd.underlying34 info_io rfl (by decide) _ (0) ([]) rfl HO31.out (some ⟨pb, 0, none⟩ : Option Addr) (j) (j) (pin (S.take j)) rfl HH1.out (by rw [pin_len]; exact HTL.out) HN1.out (pin_one _) (by unfold maxLen; omega) (by omega) HSZ.out ?_
          rintro QA Qc v35 ho hgr hbl hnl
          rw [Nat.zero_add, List.nil_append] at ho
          rw [Nat.zero_add]
          have HO35 := Lib.hid ho
          have HSZ := Lib.hid (Nat.le_trans HSZ.out hbl.size)
          have HH2 := Lib.hid (has_below HH2.out HP2.out hbl)
          have HLN := Lib.hid (HLN.out.trans hbl)
          have HLT := Lib.hid (has_grown (q := g31) HLT.out hgr rfl (by have := H31.out; have := H37.out; omega))
          clear ho hgr hbl hnl
          refine hK _ _ hS ?_
          intro wq' hwq
          subst hwq
          clear hK
          (try simp only [Act.put, List.setIfInBounds_toArray, List.set_cons_zero, List.set_cons_succ])
          refine wpAnyK_all (rs := [7]) (by kernel_rfl) (by simp) (fun i' hi' => ?_)
          simp only [List.mem_cons, List.not_mem_nil, or_false] at hi'
          subst hi'
          refine stepK (o := { dst := some 38, op := _, type := _, pos := _, after := _, guard := _ }) rfl (fun K hK => ?_)
          refine step_append_n rfl (.tmp 35) (.tmp 37) 34 rfl W0.heap.size 3 _ 1 8 Tryd.underlying34 info_io rfl (by decide) _ (j) (pin (S.take j)) rfl HO35.out (some ⟨g37, 0, none⟩) (1) (1) (pin [i]) rfl HLT.out rfl (fun h => by cases h) (pin_one _) (by unfold maxLen; omega) (by omega) HSZ.out ?_
          rintro RA Rc v36 ho hgr hbl hnl
          have HO38 := Lib.hid ho
          have HSZ := Lib.hid (Nat.le_trans HSZ.out hbl.size)
          have HH2 := Lib.hid (has_below HH2.out HP2.out hbl)
          have HLN := Lib.hid (HLN.out.trans hbl)
          clear ho hgr hbl hnl
          refine hK _ _ hS ?_
          intro wq' hwq
          subst hwq
          clear hK
          (try simp only [Act.put, List.setIfInBounds_toArray, List.set_cons_zero, List.set_cons_succ])
          refine wpAnyK_all (rs := [11]) (by kernel_rfl) (by simp) (fun i' hi' => ?_)
          simp only [List.mem_cons, List.not_mem_nil, or_false] at hi'
          subst hi'
          refine stepK (o := { dst := some 42, op := _, type := _, pos := _, after := _, guard := _ }) rfl (fun K hK => ?_)
          refine step_append_n rfl (.tmp 38) (.tmp 41) 34 rfl W0.heap.size 3 _ 1 8 Tryd.underlying34 info_io rfl (by decide) _ (j + 1) (pin (S.take j) ++ pin [i]) rfl HO38.out (some ⟨pb, 0, none⟩ : Option Addr) (0) (0) (pin (S.drop j)) rfl HH2.out (by rw [pin_len]; exact HDL.out) HN2x.out (pin_one _) (by unfold maxLen; omega) (by omega) HSZ.out ?_
          rintro TA Tc v37 ho hgr hbl hnl
          have HO42 := Lib.hid ho
          have HSZ := Lib.hid (Nat.le_trans HSZ.out hbl.size)
          have HLN := Lib.hid (HLN.out.trans hbl)
          have HTN := Lib.hid hnl
          clear ho hgr hbl hnl
          refine hK _ _ hS ?_
          intro wq' hwq
          subst hwq
          clear hK
          (try simp only [Act.put, List.setIfInBounds_toArray, List.set_cons_zero, List.set_cons_succ])
          refine wpAnyK_take (fun _ => rfl) (fun _ _ _ h k => h.trans k) (fun _ _ _ _ => trivial) (i := 12) (oi := { dst := some 5, op := _, type := _, pos := _, after := _, guard := _ }) (v := ?_) rfl (by kernel_rfl) (by kernel_rfl) (by kernel_rfl) (fun _ _ _ h => h) (Or.inl (Or.inl ⟨by rfl, ?_⟩)) hS ?_
          rotate_left
          focus ((intro w hSw; clear hSw; go_simp); (try with_reducible rfl))
          intro wq hwq
          subst hwq
          (try simp only [Act.put, List.setIfInBounds_toArray, List.set_cons_zero, List.set_cons_succ])
          refine wpAnyK_done (by kernel_rfl) ?_ _
          obtain ⟨tn, htn⟩ : ∃ tn, j + 1 + (0) = tn := ⟨_, rfl⟩
          have hti : tn = (S.take j ++ i :: S.drop j).length := by rw [List.length_append, List.length_cons, List.length_take, List.length_drop]; have := HM.out; omega
          skip
          skip
          rw [htn] at HO42
          try rw [htn]
          have HOF := Lib.hid (show v37.ownsRow w.heap.size 3 1 (.slice TA tn Tc) tn (pin (S.take j ++ i :: S.drop j)) from by
            have h := own_mono HO42.out HWS.out
            have e : pin (S.take j ++ i :: S.drop j) = pin (S.take j) ++ pin [i] ++ pin (S.drop j) := by rw [show i :: S.drop j = [i] ++ S.drop j from rfl, pin_append, pin_append, List.append_assoc]
            rw [e]; exact h)
          have HTI := Lib.hid hti
          have HT0 := Lib.hid (show tn = 0 → TA = none from fun h => by rw [List.length_append, List.length_cons] at hti; omega)
          have HLF := Lib.hid (show Later w v37 from Later.of (HLW.out.below.trans (HLN.out.mono HWS.out)))
          clear hS htn hti
          go_wp2_with fail
          go_roundw
          case rel => exact OrI.mk _ (i + 1) _ _ _ _ (by go_num) hlt HTI.out HNEW.out HOF.out HTN.out HT0.out HLF.out
          case measure => simp [intOf]; omega
      · refine stepK (o := { dst := some 37, op := _, type := _, pos := _, after := _, guard := _ }) rfl (fun K hK => ?_)
        go_simp
        obtain ⟨g37, hg37⟩ : ∃ x, W0.heap.size = x := ⟨_, rfl⟩
        obtain ⟨v38, hv⟩ : ∃ y : World, W0.alloc (.cells #[.int .i64 (i : Int)] 3) = y := ⟨_, rfl⟩
        have lv : Later W0 v38 := hv ▸ Later.new _ _
        have HLT := Lib.hid (show Has v38 (some ⟨g37, 0, none⟩) (pin [i]) from hv ▸ (Blk.new W0 [Value.int .i64 (i : Int)].toArray 3 g37 hg37.symm).has)
        have H37 := Lib.hid (show W0.heap.size ≤ g37 ∧ g37 < v38.heap.size from ⟨Nat.le_of_eq hg37, by rw [← hv, ← hg37]; simp⟩)
        try rw [hg37]
        rw [hv]
        have HSZO := HSZ
        have HSZ := Lib.hid (Nat.le_trans HSZ.out lv.size)
        have HH1 := Lib.hid (HH1.out.later lv)
        have HH2 := Lib.hid (HH2.out.later lv)
        have HLN := Lib.hid (HLN.out.trans (lv.below.mono HSZO.out))
        clear hv hg37 HSZO lv
        refine hK _ _ hS ?_
        intro wq' hwq
        subst hwq
        clear hK
        (try simp only [Act.put, List.setIfInBounds_toArray, List.set_cons_zero, List.set_cons_succ])
        refine wpAnyK_all (rs := [0]) (by kernel_rfl) (by simp) (fun i' hi' => ?_)
        simp only [List.mem_cons, List.not_mem_nil, or_false] at hi'
        subst hi'
        refine stepK (o := { dst := some 31, op := _, type := _, pos := _, after := _, guard := _ }) rfl (fun K hK => ?_)
        go_simp
        obtain ⟨g31, hg31⟩ : ∃ x, v38.heap.size = x := ⟨_, rfl⟩
        obtain ⟨v39, hv⟩ : ∃ y : World, v38.alloc (.cells #[] 3) = y := ⟨_, rfl⟩
        have lv : Later v38 v39 := hv ▸ Later.new _ _
        have H31 := Lib.hid (show v38.heap.size ≤ g31 ∧ g31 < v39.heap.size from ⟨Nat.le_of_eq hg31, by rw [← hv, ← hg31]; simp⟩)
        have HO31 := Lib.hid (show v39.ownsRow W0.heap.size 3 1 (.slice (some ⟨g31, 0, none⟩) 0 0) 0 [] from hg31 ▸ hv ▸ own_empty v38 W0.heap.size 3 1 HSZ.out)
        try rw [hg31]
        rw [hv]
        have HSZO := HSZ
        have HSZ := Lib.hid (Nat.le_trans HSZ.out lv.size)
        have HH1 := Lib.hid (HH1.out.later lv)
        have HH2 := Lib.hid (HH2.out.later lv)
        have HLN := Lib.hid (HLN.out.trans (lv.below.mono HSZO.out))
        have HLT := Lib.hid (HLT.out.later lv)
        clear hv hg31 HSZO lv
        refine hK _ _ hS ?_
        intro wq' hwq
        subst hwq
        clear hK
        (try simp only [Act.put, List.setIfInBounds_toArray, List.set_cons_zero, List.set_cons_succ])
        refine wpAnyK_all (rs := [4]) (by kernel_rfl) (by simp) (fun i' hi' => ?_)
        simp only [List.mem_cons, List.not_mem_nil, or_false] at hi'
        subst hi'
        refine stepK (o := { dst := some 35, op := _, type := _, pos := _, after := _, guard := _ }) rfl (fun K hK => ?_)
        refine step_append_n rfl (.tmp 31) (.tmp 34) 34 rfl W0.heap.size 3 _ 1 8 Tryd.underlying34 info_io rfl (by decide) _ (0) ([]) rfl HO31.out (some ⟨pb, 0, none⟩ : Option Addr) (j) (j) (pin (S.take j)) rfl HH1.out (by rw [pin_len]; exact HTL.out) HN1.out (pin_one _) (by unfold maxLen; omega) (by omega) HSZ.out ?_
        rintro QA Qc v40 ho hgr hbl hnl
        rw [Nat.zero_add, List.nil_append] at ho
        rw [Nat.zero_add]
        have HO35 := Lib.hid ho
        have HSZ := Lib.hid (Nat.le_trans HSZ.out hbl.size)
        have HH2 := Lib.hid (has_below HH2.out HP2.out hbl)
        have HLN := Lib.hid (HLN.out.trans hbl)
        have HLT := Lib.hid (has_grown (q := g31) HLT.out hgr rfl (by have := H31.out; have := H37.out; omega))
        clear ho hgr hbl hnl
        refine hK _ _ hS ?_
        intro wq' hwq
        subst hwq
        clear hK
        (try simp only [Act.put, List.setIfInBounds_toArray, List.set_cons_zero, List.set_cons_succ])
        refine wpAnyK_all (rs := [7]) (by kernel_rfl) (by simp) (fun i' hi' => ?_)
        simp only [List.mem_cons, List.not_mem_nil, or_false] at hi'
        subst hi'
        refine stepK (o := { dst := some 38, op := _, type := _, pos := _, after := _, guard := _ }) rfl (fun K hK => ?_)
        refine step_append_n rfl (.tmp 35) (.tmp 37) 34 rfl W0.heap.size 3 _ 1 8 Tryd.underlying34 info_io rfl (by decide) _ (j) (pin (S.take j)) rfl HO35.out (some ⟨g37, 0, none⟩) (1) (1) (pin [i]) rfl HLT.out rfl (fun h => by cases h) (pin_one _) (by unfold maxLen; omega) (by omega) HSZ.out ?_
        rintro RA Rc v41 ho hgr hbl hnl
        have HO38 := Lib.hid ho
        have HSZ := Lib.hid (Nat.le_trans HSZ.out hbl.size)
        have HH2 := Lib.hid (has_below HH2.out HP2.out hbl)
        have HLN := Lib.hid (HLN.out.trans hbl)
        clear ho hgr hbl hnl
        refine hK _ _ hS ?_
        intro wq' hwq
        subst hwq
        clear hK
        (try simp only [Act.put, List.setIfInBounds_toArray, List.set_cons_zero, List.set_cons_succ])
        refine wpAnyK_all (rs := [11]) (by kernel_rfl) (by simp) (fun i' hi' => ?_)
        simp only [List.mem_cons, List.not_mem_nil, or_false] at hi'
        subst hi'
        refine stepK (o := { dst := some 42, op := _, type := _, pos := _, after := _, guard := _ }) rfl (fun K hK => ?_)
        refine step_append_n rfl (.tmp 38) (.tmp 41) 34 rfl W0.heap.size 3 _ 1 8 Tryd.underlying34 info_io rfl (by decide) _ (j + 1) (pin (S.take j) ++ pin [i]) rfl HO38.out (some ⟨pb, 0, none⟩ : Option Addr) (0) (0) (pin (S.drop j)) rfl HH2.out (by rw [pin_len]; exact HDL.out) HN2x.out (pin_one _) (by unfold maxLen; omega) (by omega) HSZ.out ?_
        rintro TA Tc v42 ho hgr hbl hnl
        have HO42 := Lib.hid ho
        have HSZ := Lib.hid (Nat.le_trans HSZ.out hbl.size)
        have HLN := Lib.hid (HLN.out.trans hbl)
        have HTN := Lib.hid hnl
        clear ho hgr hbl hnl
        refine hK _ _ hS ?_
        intro wq' hwq
        subst hwq
        clear hK
        (try simp only [Act.put, List.setIfInBounds_toArray, List.set_cons_zero, List.set_cons_succ])
        refine wpAnyK_take (fun _ => rfl) (fun _ _ _ h k => h.trans k) (fun _ _ _ _ => trivial) (i := 12) (oi := { dst := some 5, op := _, type := _, pos := _, after := _, guard := _ }) (v := ?_) rfl (by kernel_rfl) (by kernel_rfl) (by kernel_rfl) (fun _ _ _ h => h) (Or.inl (Or.inl ⟨by rfl, ?_⟩)) hS ?_
        rotate_left
        focus ((intro w hSw; clear hSw; go_simp); (try with_reducible rfl))
        intro wq hwq
        subst hwq
        (try simp only [Act.put, List.setIfInBounds_toArray, List.set_cons_zero, List.set_cons_succ])
        refine wpAnyK_done (by kernel_rfl) ?_ _
        obtain ⟨tn, htn⟩ : ∃ tn, j + 1 + (0) = tn := ⟨_, rfl⟩
        have hti : tn = (S.take j ++ i :: S.drop j).length := by rw [List.length_append, List.length_cons, List.length_take, List.length_drop]; have := HM.out; omega
        skip
        skip
        rw [htn] at HO42
        try rw [htn]
        have HOF := Lib.hid (show v42.ownsRow w.heap.size 3 1 (.slice TA tn Tc) tn (pin (S.take j ++ i :: S.drop j)) from by
          have h := own_mono HO42.out HWS.out
          have e : pin (S.take j ++ i :: S.drop j) = pin (S.take j) ++ pin [i] ++ pin (S.drop j) := by rw [show i :: S.drop j = [i] ++ S.drop j from rfl, pin_append, pin_append, List.append_assoc]
          rw [e]; exact h)
        have HTI := Lib.hid hti
        have HT0 := Lib.hid (show tn = 0 → TA = none from fun h => by rw [List.length_append, List.length_cons] at hti; omega)
        have HLF := Lib.hid (show Later w v42 from Later.of (HLW.out.below.trans (HLN.out.mono HWS.out)))
        clear hS htn hti
        go_wp2_with fail
        go_roundw
        case rel => exact OrI.mk _ (i + 1) _ _ _ _ (by go_num) hlt HTI.out HNEW.out HOF.out HTN.out HT0.out HLF.out
        case measure => simp [intOf]; omega
    have hpj : ¬ pc - j = 0 := by have := HCAP.out; omega
    have hpj2 : ¬ pc = j := hcc
    have hpj3 : j ≤ pc := HCAP.out.1
    go_upto_region 8 with fail
    refine wp_region_K (S := fun _ : World => True) (R := fun a b => a = b) (fun _ => rfl) (by kernel_rfl) ?_
    obtain ⟨W0, hW0⟩ : ∃ x, wc.drew = x := ⟨_, rfl⟩
    rw [hW0]
    have lW0 : Later wc W0 := hW0 ▸ (Later.refl wc).drew
    have hS : (fun _ : World => True) W0 := trivial
    have HSZ := Lib.hid (Nat.le_refl W0.heap.size)
    have HWS := Lib.hid (show w.heap.size ≤ W0.heap.size from (HLX.out.trans lW0).size)
    have HLN := Lib.hid (Below.refl W0.heap.size W0)
    have HTL := Lib.hid (show (S.take j).length = j * 1 by rw [List.length_take]; have := HM.out; omega)
    have HDL := Lib.hid (show (S.drop j).length = (0) * 1 by rw [List.length_drop]; have := HM.out; omega)
    have HH1 := Lib.hid (show Has W0 (some ⟨pb, 0, none⟩ : Option Addr) (pin (S.take j)) from (HHX.out.later lW0).ptake j)
    have HH2 := Lib.hid (show Has W0 (some ⟨pb, j, none⟩ : Option Addr) (pin (S.drop j)) from (.inl (by rw [List.drop_eq_nil_of_le (by have := HM.out; omega)]; rfl)))
    have HP1 := Lib.hid (show ∀ b off, (some ⟨pb, 0, none⟩ : Option Addr) = some ⟨b, off, none⟩ → b < W0.heap.size from fun b off e => by injection e with e; injection e with e1 e2; rw [← e1]; exact Nat.lt_of_lt_of_le hpb lW0.size)
    have HP2 := Lib.hid (show ∀ b off, (some ⟨pb, j, none⟩ : Option Addr) = some ⟨b, off, none⟩ → b < W0.heap.size from fun b off e => by injection e with e; injection e with e1 e2; rw [← e1]; exact Nat.lt_of_lt_of_le hpb lW0.size)
    have HN1 := Lib.hid (show (some ⟨pb, 0, none⟩ : Option Addr) = none → pc = 0 from fun h => by cases h)
    have HN2x := Lib.hid (show (some ⟨pb, j, none⟩ : Option Addr) = none → pc - j = 0 from fun h => by cases h)
    have HLW := Lib.hid (HLX.out.trans lW0)
    clear hW0 lW0
    refine wpAnyK_take (fun _ => rfl) (fun _ _ _ h k => h.trans k) (fun _ _ _ _ => trivial) (i := 1) (oi := { dst := some 32, op := _, type := _, pos := _, after := _, guard := _ }) (v := ?_) rfl (by kernel_rfl) (by kernel_rfl) (by kernel_rfl) (fun _ _ _ h => h) (Or.inl (Or.inl ⟨by rfl, ?_⟩)) hS ?_
    rotate_left
    focus ((intro w hSw; clear hSw; go_simp); (try with_reducible rfl))
    intro wq hwq
    subst hwq
    (try simp only [Act.put, List.setIfInBounds_toArray, List.set_cons_zero, List.set_cons_succ])
    refine wpAnyK_take (fun _ => rfl) (fun _ _ _ h k => h.trans k) (fun _ _ _ _ => trivial) (i := 2) (oi := { dst := some 33, op := _, type := _, pos := _, after := _, guard := _ }) (v := ?_) rfl (by kernel_rfl) (by kernel_rfl) (by kernel_rfl) (fun _ _ _ h => h) (Or.inl (Or.inl ⟨by rfl, ?_⟩)) hS ?_
    rotate_left
    focus ((intro w hSw; clear hSw; go_simp); (try with_reducible rfl))
    intro wq hwq
    subst hwq
    (try simp only [Act.put, List.setIfInBounds_toArray, List.set_cons_zero, List.set_cons_succ])
    refine wpAnyK_take (fun _ => rfl) (fun _ _ _ h k => h.trans k) (fun _ _ _ _ => trivial) (i := 3) (oi := { dst := some 34, op := _, type := _, pos := _, after := _, guard := _ }) (v := ?_) rfl (by kernel_rfl) (by kernel_rfl) (by kernel_rfl) (fun _ _ _ h => h) (Or.inl (Or.inl ⟨by rfl, ?_⟩)) hS ?_
    rotate_left
    focus ((intro w hSw; clear hSw; go_simp); (try with_reducible rfl))
    intro wq hwq
    subst hwq
    (try simp only [Act.put, List.setIfInBounds_toArray, List.set_cons_zero, List.set_cons_succ])
    refine wpAnyK_take (fun _ => rfl) (fun _ _ _ h k => h.trans k) (fun _ _ _ _ => trivial) (i := 5) (oi := { dst := some 36, op := _, type := _, pos := _, after := _, guard := _ }) (v := ?_) rfl (by kernel_rfl) (by kernel_rfl) (by kernel_rfl) (fun _ _ _ h => h) (Or.inl (Or.inl ⟨by rfl, ?_⟩)) hS ?_
    rotate_left
    focus ((intro w hSw; clear hSw; go_simp); (try with_reducible rfl))
    intro wq hwq
    subst hwq
    (try simp only [Act.put, List.setIfInBounds_toArray, List.set_cons_zero, List.set_cons_succ])
    refine wpAnyK_take (fun _ => rfl) (fun _ _ _ h k => h.trans k) (fun _ _ _ _ => trivial) (i := 8) (oi := { dst := some 39, op := _, type := _, pos := _, after := _, guard := _ }) (v := ?_) rfl (by kernel_rfl) (by kernel_rfl) (by kernel_rfl) (fun _ _ _ h => h) (Or.inl (Or.inl ⟨by rfl, ?_⟩)) hS ?_
    rotate_left
    focus ((intro w hSw; clear hSw; go_simp); (try with_reducible rfl))
    intro wq hwq
    subst hwq
    (try simp only [Act.put, List.setIfInBounds_toArray, List.set_cons_zero, List.set_cons_succ])
    refine wpAnyK_take (fun _ => rfl) (fun _ _ _ h k => h.trans k) (fun _ _ _ _ => trivial) (i := 9) (oi := { dst := some 40, op := _, type := _, pos := _, after := _, guard := _ }) (v := ?_) rfl (by kernel_rfl) (by kernel_rfl) (by kernel_rfl) (fun _ _ _ h => h) (Or.inl (Or.inl ⟨by rfl, ?_⟩)) hS ?_
    rotate_left
    focus ((intro w hSw; clear hSw; go_simp); (try with_reducible rfl))
    intro wq hwq
    subst hwq
    (try simp only [Act.put, List.setIfInBounds_toArray, List.set_cons_zero, List.set_cons_succ])
    refine wpAnyK_take (fun _ => rfl) (fun _ _ _ h k => h.trans k) (fun _ _ _ _ => trivial) (i := 10) (oi := { dst := some 41, op := _, type := _, pos := _, after := _, guard := _ }) (v := ?_) rfl (by kernel_rfl) (by kernel_rfl) (by kernel_rfl) (fun _ _ _ h => h) (Or.inl (Or.inl ⟨by rfl, ?_⟩)) hS ?_
    rotate_left
    focus ((intro w hSw; clear hSw; go_simp); (try with_reducible rfl))
    intro wq hwq
    subst hwq
    (try simp only [Act.put, List.setIfInBounds_toArray, List.set_cons_zero, List.set_cons_succ])
    refine wpAnyK_all (rs := [0, 6]) (by kernel_rfl) (by simp) (fun i' hi' => ?_)
    simp only [List.mem_cons, List.not_mem_nil, or_false] at hi'
    rcases hi' with rfl | rfl
    · refine stepK (o := { dst := some 31, op := _, type := _, pos := _, after := _, guard := _ }) rfl (fun K hK => ?_)
      go_simp
      obtain ⟨g31, hg31⟩ : ∃ x, W0.heap.size = x := ⟨_, rfl⟩
      obtain ⟨v43, hv⟩ : ∃ y : World, W0.alloc (.cells #[] 3) = y := ⟨_, rfl⟩
      have lv : Later W0 v43 := hv ▸ Later.new _ _
      have H31 := Lib.hid (show W0.heap.size ≤ g31 ∧ g31 < v43.heap.size from ⟨Nat.le_of_eq hg31, by rw [← hv, ← hg31]; simp⟩)
      have HO31 := Lib.hid (show v43.ownsRow W0.heap.size 3 1 (.slice (some ⟨g31, 0, none⟩) 0 0) 0 [] from hg31 ▸ hv ▸ own_empty W0 W0.heap.size 3 1 HSZ.out)
      try rw [hg31]
      rw [hv]
      have HSZO := HSZ
      have HSZ := Lib.hid (Nat.le_trans HSZ.out lv.size)
      have HH1 := Lib.hid (HH1.out.later lv)
      have HH2 := Lib.hid (HH2.out.later lv)
      have HLN := Lib.hid (HLN.out.trans (lv.below.mono HSZO.out))
      clear hv hg31 HSZO lv
      refine hK _ _ hS ?_
      intro wq' hwq
      subst hwq
      clear hK
      (try simp only [Act.put, List.setIfInBounds_toArray, List.set_cons_zero, List.set_cons_succ])
      refine wpAnyK_all (rs := [4, 6]) (by kernel_rfl) (by simp) (fun i' hi' => ?_)
      simp only [List.mem_cons, List.not_mem_nil, or_false] at hi'
      rcases hi' with rfl | rfl
      · refine stepK (o := { dst := some 35, op := _, type := _, pos := _, after := _, guard := _ }) rfl (fun K hK => ?_)
        refine step_append_n rfl (.tmp 31) (.tmp 34) 34 rfl W0.heap.size 3 _ 1 8 Tryd.underlying34 info_io rfl (by decide) _ (0) ([]) rfl HO31.out (some ⟨pb, 0, none⟩ : Option Addr) (j) (pc) (pin (S.take j)) rfl HH1.out (by rw [pin_len]; exact HTL.out) HN1.out (pin_one _) (by unfold maxLen; omega) (by omega) HSZ.out ?_
        rintro QA Qc v44 ho hgr hbl hnl
        rw [Nat.zero_add, List.nil_append] at ho
        rw [Nat.zero_add]
        have HO35 := Lib.hid ho
        have HSZ := Lib.hid (Nat.le_trans HSZ.out hbl.size)
        have HH2 := Lib.hid (has_below HH2.out HP2.out hbl)
        have HLN := Lib.hid (HLN.out.trans hbl)
        clear ho hgr hbl hnl
        refine hK _ _ hS ?_
        intro wq' hwq
        subst hwq
        clear hK
        (try simp only [Act.put, List.setIfInBounds_toArray, List.set_cons_zero, List.set_cons_succ])
        refine wpAnyK_all (rs := [6]) (by kernel_rfl) (by simp) (fun i' hi' => ?_)
        simp only [List.mem_cons, List.not_mem_nil, or_false] at hi'
        subst hi'
        refine stepK (o := { dst := some 37, op := _, type := _, pos := _, after := _, guard := _ }) rfl (fun K hK => ?_)
        go_simp
        obtain ⟨g37, hg37⟩ : ∃ x, v44.heap.size = x := ⟨_, rfl⟩
        obtain ⟨v45, hv⟩ : ∃ y : World, v44.alloc (.cells #[.int .i64 (i : Int)] 3) = y := ⟨_, rfl⟩
        have lv : Later v44 v45 := hv ▸ Later.new _ _
        have HLT := Lib.hid (show Has v45 (some ⟨g37, 0, none⟩) (pin [i]) from hv ▸ (Blk.new v44 [Value.int .i64 (i : Int)].toArray 3 g37 hg37.symm).has)
        have H37 := Lib.hid (show v44.heap.size ≤ g37 ∧ g37 < v45.heap.size from ⟨Nat.le_of_eq hg37, by rw [← hv, ← hg37]; simp⟩)
        try rw [hg37]
        rw [hv]
        have HSZO := HSZ
        have HSZ := Lib.hid (Nat.le_trans HSZ.out lv.size)
        have HH2 := Lib.hid (HH2.out.later lv)
        have HLN := Lib.hid (HLN.out.trans (lv.below.mono HSZO.out))
        have HO35 := Lib.hid (own_later HO35.out lv)
        clear hv hg37 HSZO lv
        refine hK _ _ hS ?_
        intro wq' hwq
        subst hwq
        clear hK
        (try simp only [Act.put, List.setIfInBounds_toArray, List.set_cons_zero, List.set_cons_succ])
        refine wpAnyK_all (rs := [7]) (by kernel_rfl) (by simp) (fun i' hi' => ?_)
        simp only [List.mem_cons, List.not_mem_nil, or_false] at hi'
        subst hi'
        refine stepK (o := { dst := some 38, op := _, type := _, pos := _, after := _, guard := _ }) rfl (fun K hK => ?_)
        refine step_append_n rfl (.tmp 35) (.tmp 37) 34 rfl W0.heap.size 3 _ 1 8 Tryd.underlying34 info_io rfl (by decide) _ (j) (pin (S.take j)) rfl HO35.out (some ⟨g37, 0, none⟩) (1) (1) (pin [i]) rfl HLT.out rfl (fun h => by cases h) (pin_one _) (by unfold maxLen; omega) (by omega) HSZ.out ?_
        rintro RA Rc v46 ho hgr hbl hnl
        have HO38 := Lib.hid ho
        have HSZ := Lib.hid (Nat.le_trans HSZ.out hbl.size)
        have HH2 := Lib.hid (has_below HH2.out HP2.out hbl)
        have HLN := Lib.hid (HLN.out.trans hbl)
        clear ho hgr hbl hnl
        refine hK _ _ hS ?_
        intro wq' hwq
        subst hwq
        clear hK
        (try simp only [Act.put, List.setIfInBounds_toArray, List.set_cons_zero, List.set_cons_succ])
        refine wpAnyK_all (rs := [11]) (by kernel_rfl) (by simp) (fun i' hi' => ?_)
        simp only [List.mem_cons, List.not_mem_nil, or_false] at hi'
        subst hi'
        refine stepK (o := { dst := some 42, op := _, type := _, pos := _, after := _, guard := _ }) rfl (fun K hK => ?_)
        refine step_append_n rfl (.tmp 38) (.tmp 41) 34 rfl W0.heap.size 3 _ 1 8 Tryd.underlying34 info_io rfl (by decide) _ (j + 1) (pin (S.take j) ++ pin [i]) rfl HO38.out (some ⟨pb, j, none⟩ : Option Addr) (0) (pc - j) (pin (S.drop j)) rfl HH2.out (by rw [pin_len]; exact HDL.out) HN2x.out (pin_one _) (by unfold maxLen; omega) (by omega) HSZ.out ?_
        rintro TA Tc v47 ho hgr hbl hnl
        have HO42 := Lib.hid ho
        have HSZ := Lib.hid (Nat.le_trans HSZ.out hbl.size)
        have HLN := Lib.hid (HLN.out.trans hbl)
        have HTN := Lib.hid hnl
        clear ho hgr hbl hnl
        refine hK _ _ hS ?_
        intro wq' hwq
        subst hwq
        clear hK
        (try simp only [Act.put, List.setIfInBounds_toArray, List.set_cons_zero, List.set_cons_succ])
        refine wpAnyK_take (fun _ => rfl) (fun _ _ _ h k => h.trans k) (fun _ _ _ _ => trivial) (i := 12) (oi := { dst := some 5, op := _, type := _, pos := _, after := _, guard := _ }) (v := ?_) rfl (by kernel_rfl) (by kernel_rfl) (by kernel_rfl) (fun _ _ _ h => h) (Or.inl (Or.inl ⟨by rfl, ?_⟩)) hS ?_
        rotate_left
        focus ((intro w hSw; clear hSw; go_simp); (try with_reducible rfl))
        intro wq hwq
        subst hwq
        (try simp only [Act.put, List.setIfInBounds_toArray, List.set_cons_zero, List.set_cons_succ])
        refine wpAnyK_done (by kernel_rfl) ?_ _
        obtain ⟨tn, htn⟩ : ∃ tn, j + 1 + (0) = tn := ⟨_, rfl⟩
        have hti : tn = (S.take j ++ i :: S.drop j).length := by rw [List.length_append, List.length_cons, List.length_take, List.length_drop]; have := HM.out; omega
        skip
        skip
        rw [htn] at HO42
        try rw [htn]
        have HOF := Lib.hid (show v47.ownsRow w.heap.size 3 1 (.slice TA tn Tc) tn (pin (S.take j ++ i :: S.drop j)) from by
          have h := own_mono HO42.out HWS.out
          have e : pin (S.take j ++ i :: S.drop j) = pin (S.take j) ++ pin [i] ++ pin (S.drop j) := by rw [show i :: S.drop j = [i] ++ S.drop j from rfl, pin_append, pin_append, List.append_assoc]
          rw [e]; exact h)
        have HTI := Lib.hid hti
        have HT0 := Lib.hid (show tn = 0 → TA = none from fun h => by rw [List.length_append, List.length_cons] at hti; omega)
        have HLF := Lib.hid (show Later w v47 from Later.of (HLW.out.below.trans (HLN.out.mono HWS.out)))
        clear hS htn hti
        go_wp2_with fail
        go_roundw
        case rel => exact OrI.mk _ (i + 1) _ _ _ _ (by go_num) hlt HTI.out HNEW.out HOF.out HTN.out HT0.out HLF.out
        case measure => simp [intOf]; omega
      · refine stepK (o := { dst := some 37, op := _, type := _, pos := _, after := _, guard := _ }) rfl (fun K hK => ?_)
        go_simp
        obtain ⟨g37, hg37⟩ : ∃ x, v43.heap.size = x := ⟨_, rfl⟩
        obtain ⟨v48, hv⟩ : ∃ y : World, v43.alloc (.cells #[.int .i64 (i : Int)] 3) = y := ⟨_, rfl⟩
        have lv : Later v43 v48 := hv ▸ Later.new _ _
        have HLT := Lib.hid (show Has v48 (some ⟨g37, 0, none⟩) (pin [i]) from hv ▸ (Blk.new v43 [Value.int .i64 (i : Int)].toArray 3 g37 hg37.symm).has)
        have H37 := Lib.hid (show v43.heap.size ≤ g37 ∧ g37 < v48.heap.size from ⟨Nat.le_of_eq hg37, by rw [← hv, ← hg37]; simp⟩)
        try rw [hg37]
        rw [hv]
        have HSZO := HSZ
        have HSZ := Lib.hid (Nat.le_trans HSZ.out lv.size)
        have HH1 := Lib.hid (HH1.out.later lv)
        have HH2 := Lib.hid (HH2.out.later lv)
        have HLN := Lib.hid (HLN.out.trans (lv.below.mono HSZO.out))
        have HO31 := Lib.hid (own_later HO31.out lv)
        clear hv hg37 HSZO lv
        refine hK _ _ hS ?_
        intro wq' hwq
        subst hwq
        clear hK
        (try simp only [Act.put, List.setIfInBounds_toArray, List.set_cons_zero, List.set_cons_succ])
        refine wpAnyK_all (rs := [4]) (by kernel_rfl) (by simp) (fun i' hi' => ?_)
        simp only [List.mem_cons, List.not_mem_nil, or_false] at hi'
        subst hi'
        refine stepK (o := { dst := some 35, op := _, type := _, pos := _, after := _, guard := _ }) rfl (fun K hK => ?_)
        refine step_append_n rfl (.tmp 31) (.tmp 34) 34 rfl W0.heap.size 3 _ 1 8 Tryd.underlying34 info_io rfl (by decide) _ (0) ([]) rfl HO31.out (some ⟨pb, 0, none⟩ : Option Addr) (j) (pc) (pin (S.take j)) rfl HH1.out (by rw [pin_len]; exact HTL.out) HN1.out (pin_one _) (by unfold maxLen; omega) (by omega) HSZ.out ?_
        rintro QA Qc v49 ho hgr hbl hnl
        rw [Nat.zero_add, List.nil_append] at ho
        rw [Nat.zero_add]
        have HO35 := Lib.hid ho
        have HSZ := Lib.hid (Nat.le_trans HSZ.out hbl.size)
        have HH2 := Lib.hid (has_below HH2.out HP2.out hbl)
        have HLN := Lib.hid (HLN.out.trans hbl)
        have HLT := Lib.hid (has_grown (q := g31) HLT.out hgr rfl (by have := H31.out; have := H37.out; omega))
        clear ho hgr hbl hnl
        refine hK _ _ hS ?_
        intro wq' hwq
        subst hwq
        clear hK
        (try simp only [Act.put, List.setIfInBounds_toArray, List.set_cons_zero, List.set_cons_succ])
        refine wpAnyK_all (rs := [7]) (by kernel_rfl) (by simp) (fun i' hi' => ?_)
        simp only [List.mem_cons, List.not_mem_nil, or_false] at hi'
        subst hi'
        refine stepK (o := { dst := some 38, op := _, type := _, pos := _, after := _, guard := _ }) rfl (fun K hK => ?_)
        refine step_append_n rfl (.tmp 35) (.tmp 37) 34 rfl W0.heap.size 3 _ 1 8 Tryd.underlying34 info_io rfl (by decide) _ (j) (pin (S.take j)) rfl HO35.out (some ⟨g37, 0, none⟩) (1) (1) (pin [i]) rfl HLT.out rfl (fun h => by cases h) (pin_one _) (by unfold maxLen; omega) (by omega) HSZ.out ?_
        rintro RA Rc v50 ho hgr hbl hnl
        have HO38 := Lib.hid ho
        have HSZ := Lib.hid (Nat.le_trans HSZ.out hbl.size)
        have HH2 := Lib.hid (has_below HH2.out HP2.out hbl)
        have HLN := Lib.hid (HLN.out.trans hbl)
        clear ho hgr hbl hnl
        refine hK _ _ hS ?_
        intro wq' hwq
        subst hwq
        clear hK
        (try simp only [Act.put, List.setIfInBounds_toArray, List.set_cons_zero, List.set_cons_succ])
        refine wpAnyK_all (rs := [11]) (by kernel_rfl) (by simp) (fun i' hi' => ?_)
        simp only [List.mem_cons, List.not_mem_nil, or_false] at hi'
        subst hi'
        refine stepK (o := { dst := some 42, op := _, type := _, pos := _, after := _, guard := _ }) rfl (fun K hK => ?_)
        refine step_append_n rfl (.tmp 38) (.tmp 41) 34 rfl W0.heap.size 3 _ 1 8 Tryd.underlying34 info_io rfl (by decide) _ (j + 1) (pin (S.take j) ++ pin [i]) rfl HO38.out (some ⟨pb, j, none⟩ : Option Addr) (0) (pc - j) (pin (S.drop j)) rfl HH2.out (by rw [pin_len]; exact HDL.out) HN2x.out (pin_one _) (by unfold maxLen; omega) (by omega) HSZ.out ?_
        rintro TA Tc v51 ho hgr hbl hnl
        have HO42 := Lib.hid ho
        have HSZ := Lib.hid (Nat.le_trans HSZ.out hbl.size)
        have HLN := Lib.hid (HLN.out.trans hbl)
        have HTN := Lib.hid hnl
        clear ho hgr hbl hnl
        refine hK _ _ hS ?_
        intro wq' hwq
        subst hwq
        clear hK
        (try simp only [Act.put, List.setIfInBounds_toArray, List.set_cons_zero, List.set_cons_succ])
        refine wpAnyK_take (fun _ => rfl) (fun _ _ _ h k => h.trans k) (fun _ _ _ _ => trivial) (i := 12) (oi := { dst := some 5, op := _, type := _, pos := _, after := _, guard := _ }) (v := ?_) rfl (by kernel_rfl) (by kernel_rfl) (by kernel_rfl) (fun _ _ _ h => h) (Or.inl (Or.inl ⟨by rfl, ?_⟩)) hS ?_
        rotate_left
        focus ((intro w hSw; clear hSw; go_simp); (try with_reducible rfl))
        intro wq hwq
        subst hwq
        (try simp only [Act.put, List.setIfInBounds_toArray, List.set_cons_zero, List.set_cons_succ])
        refine wpAnyK_done (by kernel_rfl) ?_ _
        obtain ⟨tn, htn⟩ : ∃ tn, j + 1 + (0) = tn := ⟨_, rfl⟩
        have hti : tn = (S.take j ++ i :: S.drop j).length := by rw [List.length_append, List.length_cons, List.length_take, List.length_drop]; have := HM.out; omega
        skip
        skip
        rw [htn] at HO42
        try rw [htn]
        have HOF := Lib.hid (show v51.ownsRow w.heap.size 3 1 (.slice TA tn Tc) tn (pin (S.take j ++ i :: S.drop j)) from by
          have h := own_mono HO42.out HWS.out
          have e : pin (S.take j ++ i :: S.drop j) = pin (S.take j) ++ pin [i] ++ pin (S.drop j) := by rw [show i :: S.drop j = [i] ++ S.drop j from rfl, pin_append, pin_append, List.append_assoc]
          rw [e]; exact h)
        have HTI := Lib.hid hti
        have HT0 := Lib.hid (show tn = 0 → TA = none from fun h => by rw [List.length_append, List.length_cons] at hti; omega)
        have HLF := Lib.hid (show Later w v51 from Later.of (HLW.out.below.trans (HLN.out.mono HWS.out)))
        clear hS htn hti
        go_wp2_with fail
        go_roundw
        case rel => exact OrI.mk _ (i + 1) _ _ _ _ (by go_num) hlt HTI.out HNEW.out HOF.out HTN.out HT0.out HLF.out
        case measure => simp [intOf]; omega
    · refine stepK (o := { dst := some 37, op := _, type := _, pos := _, after := _, guard := _ }) rfl (fun K hK => ?_)
      go_simp
      obtain ⟨g37, hg37⟩ : ∃ x, W0.heap.size = x := ⟨_, rfl⟩
      obtain ⟨v52, hv⟩ : ∃ y : World, W0.alloc (.cells #[.int .i64 (i : Int)] 3) = y := ⟨_, rfl⟩
      have lv : Later W0 v52 := hv ▸ Later.new _ _
      have HLT := Lib.hid (show Has v52 (some ⟨g37, 0, none⟩) (pin [i]) from hv ▸ (Blk.new W0 [Value.int .i64 (i : Int)].toArray 3 g37 hg37.symm).has)
      have H37 := Lib.hid (show W0.heap.size ≤ g37 ∧ g37 < v52.heap.size from ⟨Nat.le_of_eq hg37, by rw [← hv, ← hg37]; simp⟩)
      try rw [hg37]
      rw [hv]
      have HSZO := HSZ
      have HSZ := Lib.hid (Nat.le_trans HSZ.out lv.size)
      have HH1 := Lib.hid (HH1.out.later lv)
      have HH2 := Lib.hid (HH2.out.later lv)
      have HLN := Lib.hid (HLN.out.trans (lv.below.mono HSZO.out))
      clear hv hg37 HSZO lv
      refine hK _ _ hS ?_
      intro wq' hwq
      subst hwq
      clear hK
      (try simp only [Act.put, List.setIfInBounds_toArray, List.set_cons_zero, List.set_cons_succ])
      refine wpAnyK_all (rs := [0]) (by kernel_rfl) (by simp) (fun i' hi' => ?_)
      simp only [List.mem_cons, List.not_mem_nil, or_false] at hi'
      subst hi'
      refine stepK (o := { dst := some 31, op := _, type := _, pos := _, after := _, guard := _ }) rfl (fun K hK => ?_)
      go_simp
      obtain ⟨g31, hg31⟩ : ∃ x, v52.heap.size = x := ⟨_, rfl⟩
      obtain ⟨v53, hv⟩ : ∃ y : World, v52.alloc (.cells #[] 3) = y := ⟨_, rfl⟩
      have lv : Later v52 v53 := hv ▸ Later.new _ _
      have H31 := Lib.hid (show v52.heap.size ≤ g31 ∧ g31 < v53.heap.size from ⟨Nat.le_of_eq hg31, by rw [← hv, ← hg31]; simp⟩)
      have HO31 := Lib.hid (show v53.ownsRow W0.heap.size 3 1 (.slice (some ⟨g31, 0, none⟩) 0 0) 0 [] from hg31 ▸ hv ▸ own_empty v52 W0.heap.size 3 1 HSZ.out)
      try rw [hg31]
      rw [hv]
      have HSZO := HSZ
      have HSZ := Lib.hid (Nat.le_trans HSZ.out lv.size)
      have HH1 := Lib.hid (HH1.out.later lv)
      have HH2 := Lib.hid (HH2.out.later lv)
      have HLN := Lib.hid (HLN.out.trans (lv.below.mono HSZO.out))
      have HLT := Lib.hid (HLT.out.later lv)
      clear hv hg31 HSZO lv
      refine hK _ _ hS ?_
      intro wq' hwq
      subst hwq
      clear hK
      (try simp only [Act.put, List.setIfInBounds_toArray, List.set_cons_zero, List.set_cons_succ])
      refine wpAnyK_all (rs := [4]) (by kernel_rfl) (by simp) (fun i' hi' => ?_)
      simp only [List.mem_cons, List.not_mem_nil, or_false] at hi'
      subst hi'
      refine stepK (o := { dst := some 35, op := _, type := _, pos := _, after := _, guard := _ }) rfl (fun K hK => ?_)
      refine step_append_n rfl (.tmp 31) (.tmp 34) 34 rfl W0.heap.size 3 _ 1 8 Tryd.underlying34 info_io rfl (by decide) _ (0) ([]) rfl HO31.out (some ⟨pb, 0, none⟩ : Option Addr) (j) (pc) (pin (S.take j)) rfl HH1.out (by rw [pin_len]; exact HTL.out) HN1.out (pin_one _) (by unfold maxLen; omega) (by omega) HSZ.out ?_
      rintro QA Qc v54 ho hgr hbl hnl
      rw [Nat.zero_add, List.nil_append] at ho
      rw [Nat.zero_add]
      have HO35 := Lib.hid ho
      have HSZ := Lib.hid (Nat.le_trans HSZ.out hbl.size)
      have HH2 := Lib.hid (has_below HH2.out HP2.out hbl)
      have HLN := Lib.hid (HLN.out.trans hbl)
      have HLT := Lib.hid (has_grown (q := g31) HLT.out hgr rfl (by have := H31.out; have := H37.out; omega))
      clear ho hgr hbl hnl
      refine hK _ _ hS ?_
      intro wq' hwq
      subst hwq
      clear hK
      (try simp only [Act.put, List.setIfInBounds_toArray, List.set_cons_zero, List.set_cons_succ])
      refine wpAnyK_all (rs := [7]) (by kernel_rfl) (by simp) (fun i' hi' => ?_)
      simp only [List.mem_cons, List.not_mem_nil, or_false] at hi'
      subst hi'
      refine stepK (o := { dst := some 38, op := _, type := _, pos := _, after := _, guard := _ }) rfl (fun K hK => ?_)
      refine step_append_n rfl (.tmp 35) (.tmp 37) 34 rfl W0.heap.size 3 _ 1 8 Tryd.underlying34 info_io rfl (by decide) _ (j) (pin (S.take j)) rfl HO35.out (some ⟨g37, 0, none⟩) (1) (1) (pin [i]) rfl HLT.out rfl (fun h => by cases h) (pin_one _) (by unfold maxLen; omega) (by omega) HSZ.out ?_
      rintro RA Rc v55 ho hgr hbl hnl
      have HO38 := Lib.hid ho
      have HSZ := Lib.hid (Nat.le_trans HSZ.out hbl.size)
      have HH2 := Lib.hid (has_below HH2.out HP2.out hbl)
      have HLN := Lib.hid (HLN.out.trans hbl)
      clear ho hgr hbl hnl
      refine hK _ _ hS ?_
      intro wq' hwq
      subst hwq
      clear hK
      (try simp only [Act.put, List.setIfInBounds_toArray, List.set_cons_zero, List.set_cons_succ])
      refine wpAnyK_all (rs := [11]) (by kernel_rfl) (by simp) (fun i' hi' => ?_)
      simp only [List.mem_cons, List.not_mem_nil, or_false] at hi'
      subst hi'
      refine stepK (o := { dst := some 42, op := _, type := _, pos := _, after := _, guard := _ }) rfl (fun K hK => ?_)
      refine step_append_n rfl (.tmp 38) (.tmp 41) 34 rfl W0.heap.size 3 _ 1 8 Tryd.underlying34 info_io rfl (by decide) _ (j + 1) (pin (S.take j) ++ pin [i]) rfl HO38.out (some ⟨pb, j, none⟩ : Option Addr) (0) (pc - j) (pin (S.drop j)) rfl HH2.out (by rw [pin_len]; exact HDL.out) HN2x.out (pin_one _) (by unfold maxLen; omega) (by omega) HSZ.out ?_
      rintro TA Tc v56 ho hgr hbl hnl
      have HO42 := Lib.hid ho
      have HSZ := Lib.hid (Nat.le_trans HSZ.out hbl.size)
      have HLN := Lib.hid (HLN.out.trans hbl)
      have HTN := Lib.hid hnl
      clear ho hgr hbl hnl
      refine hK _ _ hS ?_
      intro wq' hwq
      subst hwq
      clear hK
      (try simp only [Act.put, List.setIfInBounds_toArray, List.set_cons_zero, List.set_cons_succ])
      refine wpAnyK_take (fun _ => rfl) (fun _ _ _ h k => h.trans k) (fun _ _ _ _ => trivial) (i := 12) (oi := { dst := some 5, op := _, type := _, pos := _, after := _, guard := _ }) (v := ?_) rfl (by kernel_rfl) (by kernel_rfl) (by kernel_rfl) (fun _ _ _ h => h) (Or.inl (Or.inl ⟨by rfl, ?_⟩)) hS ?_
      rotate_left
      focus ((intro w hSw; clear hSw; go_simp); (try with_reducible rfl))
      intro wq hwq
      subst hwq
      (try simp only [Act.put, List.setIfInBounds_toArray, List.set_cons_zero, List.set_cons_succ])
      refine wpAnyK_done (by kernel_rfl) ?_ _
      obtain ⟨tn, htn⟩ : ∃ tn, j + 1 + (0) = tn := ⟨_, rfl⟩
      have hti : tn = (S.take j ++ i :: S.drop j).length := by rw [List.length_append, List.length_cons, List.length_take, List.length_drop]; have := HM.out; omega
      skip
      skip
      rw [htn] at HO42
      try rw [htn]
      have HOF := Lib.hid (show v56.ownsRow w.heap.size 3 1 (.slice TA tn Tc) tn (pin (S.take j ++ i :: S.drop j)) from by
        have h := own_mono HO42.out HWS.out
        have e : pin (S.take j ++ i :: S.drop j) = pin (S.take j) ++ pin [i] ++ pin (S.drop j) := by rw [show i :: S.drop j = [i] ++ S.drop j from rfl, pin_append, pin_append, List.append_assoc]
        rw [e]; exact h)
      have HTI := Lib.hid hti
      have HT0 := Lib.hid (show tn = 0 → TA = none from fun h => by rw [List.length_append, List.length_cons] at hti; omega)
      have HLF := Lib.hid (show Later w v56 from Later.of (HLW.out.below.trans (HLN.out.mono HWS.out)))
      clear hS htn hti
      go_wp2_with fail
      go_roundw
      case rel => exact OrI.mk _ (i + 1) _ _ _ _ (by go_num) hlt HTI.out HNEW.out HOF.out HTN.out HT0.out HLF.out
      case measure => simp [intOf]; omega
end Go.Proofs.YtkdpjocglfephaaDoor
