/- The walk of package dict: readWords. -/
import Derived.Test.YtfcedbhmbcbiaaaDoorDictM
import Derived.Test.YtfcedbhmbcbiaaaDoorLists
import Derived.Test.YtfcedbhmbcbiaaaDoorCellG
import Derived.BigQuiet
import Derived.Deep.RegionLaw
namespace Go.Proofs.YtfcedbhmbcbiaaaDoor
open Go.RowKit
set_option linter.unusedVariables false

/-- The list that bytes begin with, of at most n values, and how many bytes that is. -/
def readW (t : Int) (n : Nat) (b : List Nat) : Option (List Val3 × Nat) :=
  match takeNum b with
  | none => none
  | some (u, k) => if u ≤ n then (readQ t u (b.drop k)).map fun p => (p.1, b.length - p.2.length) else none
theorem readW_none {t : Int} {n : Nat} {b : List Nat} (h : takeNum b = none) : readW t n b = none := by unfold readW; rw [h]
theorem readW_not {t : Int} {n : Nat} {b : List Nat} {u k : Nat} (h : takeNum b = some (u, k)) (hu : ¬ u ≤ n) : readW t n b = none := by unfold readW; rw [h]; simp only; rw [if_neg hu]
theorem readW_some {t : Int} {n : Nat} {b : List Nat} {u k : Nat} (h : takeNum b = some (u, k)) (hu : u ≤ n) : readW t n b = (readQ t u (b.drop k)).map fun p => (p.1, b.length - p.2.length) := by unfold readW; rw [h]; simp only; rw [if_pos hu]
theorem drop_back {a r b : List Nat} (h : a ++ r = b) : b.drop (b.length - r.length) = r := by
  subst h
  rw [List.length_append, Nat.add_sub_cancel, List.drop_left]
theorem readW_is {t : Int} (ht : 1 ≤ t ∧ t ≤ 4) {n : Nat} {b : List Nat} (h256 : ∀ x ∈ b, x < 256) {d : List Val3} {k : Nat} (h : readW t n b = some (d, k)) :
    0 < b.length ∧ d.length ≤ n ∧ All64 d ∧ k ≤ b.length ∧ readT t n b = (match takeBits (b.drop k) n (widD d.length) with
        | none => none
        | some ps => if ∀ p ∈ ps, p < d.length then some (ps.map fun p => d.getD p (0, 0, ⟨#[]⟩)) else none) := by
  unfold readW at h
  unfold readT
  split at h
  · cases h
  · rename_i u k' hT
    rw [hT]
    split at h
    · rename_i hu
      simp only
      rw [if_pos hu]
      cases hq : readQ t u (b.drop k') with
      | none => rw [hq] at h; cases h
      | some p =>
        obtain ⟨d', r⟩ := p
        rw [hq] at h
        cases h
        obtain ⟨_, h2, h3, h4⟩ := readQ_is ht _ _ (fun x hx => h256 x (List.mem_of_mem_drop hx)) _ _ hq
        have hp : 0 < b.length := by
          obtain ⟨_, hk1, hk3⟩ := takeNum_is h256 hT
          have h5 := putNum_pos u
          have h6 := hk3.length_le
          omega
        refine ⟨hp, by show d'.length ≤ n; omega, h2, Nat.sub_le _ _, ?_⟩
        simp only
        rw [drop_back (a := b.take k' ++ plainB d') (by rw [List.append_assoc, h4, List.take_append_drop])]
        rfl
    · cases h
theorem readW_no {t : Int} {n : Nat} {b : List Nat} (h : readW t n b = none) : readT t n b = none := by
  unfold readW at h
  unfold readT
  split at h
  · rename_i hT; rw [hT]
  · rename_i u k hT
    rw [hT]
    simp only
    split at h
    · rename_i hu
      rw [if_pos hu]
      cases hq : readQ t u (b.drop k) with
      | none => rfl
      | some p => rw [hq] at h; cases h
    · rename_i hu
      rw [if_neg hu]
def WordsPost (o : Option (List Val3 × Nat)) (w : World) (e : Ending) (w' : World) : Prop :=
  ((o = none ∧ ∃ p : Addr, e = .returned (.tuple #[.slice none 0 0, .int .i64 0, .iface 81 (.pointer (some p))])) ∨
    ∃ d k L cl, o = some (d, k) ∧ e = .returned (.tuple #[.slice L d.length cl, .int .i64 (k : Nat), .nilIface]) ∧ Has w' L (fl d)) ∧ Later w w'
/-- Where readWords' loop stands. -/
def RWInv (o : Option (List Val3 × Nat)) (t : Int) (u : Nat) (b : List Nat) (w : World) (kv lv iv : Value) (wr : World) : Prop :=
  ∃ (L : Option Addr) (cl j k : Nat) (done : List Val3), lv = .slice L j cl ∧ kv = .int .i64 (k : Int) ∧ iv = .int .i64 (j : Int) ∧ j ≤ u ∧ 1 ≤ k ∧ k ≤ b.length ∧ done.length = j ∧ wr.ownsRow w.heap.size 34 3 (.slice L j cl) j (fl done) ∧ o = (readQ t (u - j) (b.drop k)).map (fun p => (done ++ p.1, b.length - p.2.length)) ∧ Later w wr
theorem RWInv.mk {o : Option (List Val3 × Nat)} {t : Int} {u : Nat} {b : List Nat} {w wr : World} (L : Option Addr) (cl m j k : Nat) (done : List Val3) (zk zj : Int) (hm : m = j) (hk : zk = (k : Int)) (hj : zj = (j : Int)) (h1 : j ≤ u) (h2 : 1 ≤ k) (h3 : k ≤ b.length) (h4 : done.length = j) (h5 : wr.ownsRow w.heap.size 34 3 (.slice L m cl) m (fl done)) (h6 : o = (readQ t (u - j) (b.drop k)).map (fun p => (done ++ p.1, b.length - p.2.length))) (h7 : Later w wr) : RWInv o t u b w (.int .i64 zk) (.slice L m cl) (.int .i64 zj) wr := by
  subst hm hk hj; exact ⟨L, cl, m, k, done, rfl, rfl, rfl, h1, h2, h3, h4, h5, h6, h7⟩
theorem cellTake_nn (t : Int) (ht : 1 ≤ t ∧ t ≤ 4) (A : Option Addr) (m c : Nat) (b : List Nat) (w : World) (hm : m = b.length) (hs : S6 w) (hr : Has w A (ints .u8 b)) (h256 : ∀ x ∈ b, x < 256) (hb : b.length ≤ 1000000) (hbc : b.length ≤ c) (hc : c ≤ 9223372036854775807) :
    Calls Tryd.prog 44 #[.int .i64 t, .slice A m c] w (TakesC (takeC t b) t w) := by
  subst hm; exact cellTake_any t ht A c b w hs hr h256 hb hbc hc
theorem takeC_nil {t : Int} (ht : 1 ≤ t ∧ t ≤ 4) : takeC t [] = none := by
  obtain rfl | rfl | rfl | rfl : t = 1 ∨ t = 2 ∨ t = 3 ∨ t = 4 := by omega
  all_goals rfl

set_option maxRecDepth 100000 in
set_option maxHeartbeats 2000000 in
theorem readWords_any (t : Int) (ht : 1 ≤ t ∧ t ≤ 4) (n : Nat) (hn : n ≤ 1000) (A : Option Addr) (c : Nat) (b : List Nat) (w : World) (hs : S6 w) (hr : Has w A (ints .u8 b)) (h256 : ∀ x ∈ b, x < 256) (hb : b.length ≤ 1000000) (hbc : b.length ≤ c) (hc : c ≤ 9223372036854775807) :
    Calls Tryd.prog 28 #[.int .i64 t, .int .i64 n, .slice A b.length c] w (WordsPost (readW t n b) w) := by
  have hif : Tryd.prog.isIface 42 = true := by kernel_rfl
  have HN0 := Lib.hid (readW_none (t := t) (n := n) (b := b))
  have HN1 := Lib.hid (fun u k => readW_not (t := t) (n := n) (b := b) (u := u) (k := k))
  have HY0 := Lib.hid (fun u k => readW_some (t := t) (n := n) (b := b) (u := u) (k := k))
  obtain ⟨o, ho⟩ : ∃ o, o = readW t n b := ⟨_, rfl⟩
  rw [← ho] at HN0 HN1 HY0 ⊢
  obtain ⟨aN, hN⟩ := hs.num
  have HTN := Lib.hid (take_num A b.length c b aN w w.heap.size rfl hr h256 hb hN)
  have HS := Lib.hid hs
  have HR := Lib.hid hr
  have H256 := Lib.hid h256
  have HTT := Lib.hid ht
  have hnw : IntKind.u64.wrap (n : Int) = (n : Int) := by rw [IntKind.wrap_u64]; omega
  clear hs hr ho h256 hN ht
  go_enter Tryd.func28, Tryd.ntmps28
  go_wp2_with fail
  refine HTN.out.mono ?_
  rintro e w2 ⟨u, k, ok, hT0, rfl, b2⟩
  have L2 := Lib.hid (Later.of b2)
  clear b2 HTN
  rcases takeR_some hT0 with ⟨rfl, hT⟩ | ⟨rfl, hT⟩
  · obtain ⟨hu64, hk1, hk3⟩ := takeNum_is H256.out hT
    have hkb : k ≤ b.length := by rw [hk1]; exact hk3.length_le
    have hkp : 1 ≤ k := by rw [hk1]; exact putNum_pos u
    have HKB := Lib.hid hkb
    have HTH := Lib.hid hT
    clear hk1 hk3 hu64 hT0 hT
    by_cases hu : u ≤ n
    · have hd1 : decide ((n : Int) < (u : Int)) = false := by simp; omega
      have hd2 : decide (n < u) = false := by simp; omega
      have hd3 : ¬ n < u := by omega
      have huw : IntKind.i64.wrap (u : Int) = (u : Int) := IntWalk.i64_in _ ⟨by omega, by omega⟩
      have HREL0 := Lib.hid (show o = (readQ t (u - 0) (b.drop k)).map (fun p => ([] ++ p.1, b.length - p.2.length)) from by
        rw [HY0.out u k HTH.out hu]; rfl)
      obtain ⟨bb, off, rfl⟩ : ∃ bb off, A = some ⟨bb, off, none⟩ := by
        rcases HR.out with h | ⟨bb, off, h, _⟩
        · have : b.length = 0 := by have := congrArg List.length h; rw [ints_length] at this; exact this
          omega
        · exact ⟨bb, off, h⟩
      have hu9 : u ≤ 1000 := by omega
      clear HN0 HN1 HY0 hu
      go_wp2_with fail
      go_loopw [10, 12, 36] (fun kv lv iv wr => RWInv o t u b w kv lv iv wr) (fun _ _ iv _ => u - (intOf iv).toNat)
      case atStart => exact RWInv.mk none 0 0 0 k [] _ _ rfl rfl rfl (Nat.zero_le _) hkp hkb rfl (ownG_nil _ _ _ _) HREL0.out L2.out
      case round =>
        obtain ⟨L, cl, j, k, done, rfl, rfl, rfl, hju, hk1, hkb, hdl, hown, hrel, lat⟩ := hrel
        clear HREL0 hd1 hd2 hd3
        have HOWN := Lib.hid hown
        have HREL := Lib.hid hrel
        have HLAT := Lib.hid lat
        have HDL := Lib.hid hdl
        clear hown hrel lat hdl
        by_cases hlt : j < u
        · obtain ⟨q, hq⟩ : ∃ q, u - j = q + 1 := ⟨u - j - 1, by omega⟩
          have HJ := Lib.hid (show u - (j + 1) = q by omega)
          have HRQ := Lib.hid (show o = (readQ t (q + 1) (b.drop k)).map (fun p => (done ++ p.1, b.length - p.2.length)) by rw [HREL.out, hq])
          have D256 := Lib.hid (fun x (hx : x ∈ b.drop k) => H256.out x (List.mem_of_mem_drop hx))
          have hdl : (b.drop k).length = b.length - k := List.length_drop
          have hi1 : (0 : Int) ≤ (k : Int) := by omega
          have hi2 : (k : Int) ≤ (b.length : Int) := by omega
          have hi3 : (b.length : Int) ≤ (c : Int) := by omega
          clear hq HREL
          by_cases hck : c = k
          · have hd0 : b.drop k = [] := List.drop_of_length_le (by omega)
            have HTK := Lib.hid (cellTake_nn t HTT.out (some ⟨bb, off, none⟩) 0 0 (b.drop k) wr (by rw [hd0]; rfl) (HS.out.later HLAT.out) (by rw [hd0]; exact Has.nil_) D256.out (by rw [hd0]; decide) (by rw [hd0]; decide) (by decide))
            have HC0 := Lib.hid (show takeC t (b.drop k) = none by rw [hd0]; exact takeC_nil HTT.out)
            have HO := Lib.hid (show o = none by rw [HRQ.out, readQ_none HC0.out]; rfl)
            have hkc : k = c := hck.symm
            have hlc : b.length = c := by omega
            clear hd0 hdl hck
            subst hkc
            go_wp2_with fail
            refine HTK.out.mono ?_
            rintro e w3 ⟨⟨hC, p, rfl⟩ | ⟨i, s, m, hC, rfl⟩, l3⟩
            · have heq := fun w => run_eql_iface_nil (P := Tryd.prog) (w := w) 42 hif 81 (.pointer (some p))
              have HL3 := Lib.hid (HLAT.out.trans l3)
              clear hC l3 HTK
              go_wp2_with (go_at_call 26; refine (at_w _ _ _ _).mono ?_; rintro e w4 ⟨q, rfl, l4⟩)
              go_ret3
              exact ⟨.inl ⟨HO.out, q, rfl⟩, (HL3.out.alloc _).trans l4⟩
            · exfalso
              have := HC0.out
              rw [hC] at this
              cases this
          · have HTK := Lib.hid (cellTake_nn t HTT.out (some ⟨bb, off + k, none⟩) (b.length - k) (c - k) (b.drop k) wr hdl.symm (HS.out.later HLAT.out) (by have h := (HR.out.later HLAT.out).drop k; rw [show (ints .u8 b).drop k = ints .u8 (b.drop k) by simp [ints, List.map_drop]] at h; exact h) D256.out (by omega) (by omega) (by omega))
            clear hdl
            go_wp2_with fail
            refine HTK.out.mono ?_
            rintro e w3 ⟨⟨hC, p, rfl⟩ | ⟨i, s, m, hC, rfl⟩, l3⟩
            · have HO := Lib.hid (show o = none by rw [HRQ.out, readQ_none hC]; rfl)
              have heq := fun w => run_eql_iface_nil (P := Tryd.prog) (w := w) 42 hif 81 (.pointer (some p))
              have HL3 := Lib.hid (HLAT.out.trans l3)
              clear hC l3 HTK
              go_wp2_with (go_at_call 26; refine (at_w _ _ _ _).mono ?_; rintro e w4 ⟨q, rfl, l4⟩)
              go_ret3
              exact ⟨.inl ⟨HO.out, q, rfl⟩, (HL3.out.alloc _).trans l4⟩
            · have HO := Lib.hid (show o = (readQ t (u - (j + 1)) (b.drop (k + m))).map (fun p => ((done ++ [(t, i, bstr s)]) ++ p.1, b.length - p.2.length)) by
                rw [HRQ.out, readQ_some hC, HJ.out, ← List.drop_drop]
                cases readQ t q ((b.drop k).drop m) with
                | none => rfl
                | some p => simp)
              obtain ⟨hm1, hm2, hi64, hs256⟩ := readC_lt D256.out (takeC_read hC).1
              rw [List.length_drop] at hm2
              obtain ⟨S, hS⟩ : ∃ S, S = bstr s := ⟨_, rfl⟩
              rw [← hS] at HO ⊢
              have OWN := Lib.hid (own_later HOWN.out l3)
              have HL3 := Lib.hid (HLAT.out.trans l3)
              have HAS := Lib.hid ((Blk.new (w3.alloc (.cells #[.int .i64 t, .int .i64 i, .string S] 34)) (fl [(t, i, S)]).toArray 34 (w3.heap.size + 1) (by simp)).has)
              have DL := Lib.hid (show (done ++ [(t, i, S)]).length = j + 1 by rw [List.length_append, HDL.out]; rfl)
              obtain ⟨k2, hk2⟩ : ∃ k2, k2 = k + m := ⟨_, rfl⟩
              rw [← hk2] at HO
              have hk2i : (k : Int) + (m : Int) = (k2 : Int) := by omega
              have hk2w : IntKind.i64.wrap ((k : Int) + (m : Int)) = (k2 : Int) := by rw [hk2i]; exact IntWalk.i64_in _ ⟨by omega, by omega⟩
              have hk2b : k2 ≤ b.length := by omega
              have hk21 : 1 ≤ k2 := by omega
              clear hC l3 HRQ HTK hS hi64 hs256 HOWN HLAT hk2
              go_wp2_with (at_builtin; refine wpList_append_g _ rfl (.tmp 53) (.tmp 55) 25 rfl w.heap.size 34 (vagg 0 0 ⟨#[]⟩) 3 32 Tryd.underlying25 info_v rfl (by decide) _ j (fl done) rfl ((OWN.out.alloc _).alloc _) _ 1 1 (fl [(t, i, S)]) rfl HAS.out (by rfl) (by intro h; cases h) (fl_one _) (by unfold maxLen; omega) (by omega) ?_ ?_; (exact ((HL3.out.alloc _).alloc _).size); intro A2 c2 w6 o2 g2 b2 n2; have HO2 := Lib.hid o2; have HB6 := Lib.hid b2; clear o2 g2 b2 n2)
              have LL := Lib.hid (Later.of ((((HL3.out.alloc (.cells #[.int .i64 t, .int .i64 i, .string S] 34)).alloc (.cells (fl [(t, i, S)]).toArray 34)).below).trans HB6.out))
              go_roundw
              case rel => exact RWInv.mk A2 c2 _ (j + 1) k2 (done ++ [(t, i, S)]) _ _ rfl (by omega) (by omega) hlt hk21 hk2b DL.out (by rw [fl_append]; exact HO2.out) HO.out LL.out
              case measure => simp [intOf]; omega
        · obtain rfl : j = u := by omega
          have HO := Lib.hid (show o = some (done, k) by
            rw [HREL.out, Nat.sub_self]
            show some (done ++ [], b.length - (b.drop k).length) = _
            rw [List.append_nil, List.length_drop, show b.length - (b.length - k) = k by omega])
          have HHAS := Lib.hid (Has.ownG HOWN.out)
          go_wp2_with fail
          go_ret3
          refine ⟨.inr ⟨done, k, L, cl, HO.out, ?_, HHAS.out⟩, HLAT.out⟩
          rw [HDL.out]
          rfl
    · have HO := Lib.hid (HN1.out u k HTH.out hu)
      have hd1 : decide ((n : Int) < (u : Int)) = true := by simp; omega
      have hd2 : decide (n < u) = true := by simp; omega
      have hd3 : n < u := by omega
      have HSX := Lib.hid (HS.out.later L2.out)
      obtain ⟨sv, hsv⟩ := HSX.out.bound
      clear hu
      go_wp2_with (go_at_call 26; refine (at_l _ _ _ _).mono ?_; rintro e w5 ⟨q, rfl, l5⟩)
      go_ret3
      exact ⟨.inl ⟨HO.out, q, rfl⟩, L2.out.trans l5⟩
  · have HO := Lib.hid (HN0.out hT)
    have HSX := Lib.hid (HS.out.later L2.out)
    obtain ⟨sv, hsv⟩ := HSX.out.bound
    clear hT hT0
    go_wp2_with (go_at_call 26; refine (at_l _ _ _ _).mono ?_; rintro e w5 ⟨q, rfl, l5⟩)
    go_ret3
    exact ⟨.inl ⟨HO.out, q, rfl⟩, L2.out.trans l5⟩
end Go.Proofs.YtfcedbhmbcbiaaaDoor
