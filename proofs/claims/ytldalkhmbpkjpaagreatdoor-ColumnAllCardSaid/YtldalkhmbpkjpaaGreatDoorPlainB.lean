/- Walks of package plain: write, Put; read, Take. -/
import Derived.Test.YtldalkhmbpkjpaaGreatDoorCell
import Derived.Test.YtldalkhmbpkjpaaGreatDoorCellG
import Derived.BigQuiet
namespace Go.Proofs.YtldalkhmbpkjpaaGreatDoor
open Go.RowKit
set_option linter.unusedVariables false

/-- The bytes of a list of type t. -/
def putP (t : Int) (l : List Val3) : Option (List Nat) := if (1 ≤ t ∧ t ≤ 4) ∧ OkL t l then some (plainB l) else none

set_option maxRecDepth 100000 in
set_option maxHeartbeats 1000000 in
theorem plainWrite_yes (t : Int) (A : Option Addr) (c : Nat) (l : List Val3) (w : World) (hs : S6 w) (ht : 1 ≤ t ∧ t ≤ 4) (hl : l.length ≤ 2000) (hr : Has w A (fl l)) (ho : OkL t l) (h64 : All64 l) :
    Calls Tryz.prog 75 #[.int .i64 t, .slice A l.length c] w (WritesB (some (plainB l)) w) := by
  obtain ⟨a0, a2, a3, a4, S⟩ := hs.sn
  have HA := Lib.hid (all_yes t A c l a0 a2 a3 a4 w S ht (by omega) hr ho)
  have HT := Lib.hid ht
  clear S hs ht
  go_enter Tryz.func75, Tryz.ntmps75
  go_wp2_with fail
  refine HA.out.mono ?_
  rintro e w1 ⟨rfl, l1⟩
  have L1 := l1
  clear l1 HA
  go_wp2_with fail
  go_loopw [7, 18] (fun bv i wr => ∃ (B : Option Addr) (n cb k : Nat), k ≤ l.length ∧ i = .int .i64 k ∧ bv = .slice B n cb ∧ n = (plainB (l.take k)).length ∧ wr.ownsRow w.heap.size 5 1 (.slice B n cb) n (ints .u8 (plainB (l.take k))) ∧ (B = none → cb = 0) ∧ Later w wr) (fun _ i _ => l.length - (intOf i).toNat)
  case atStart => exact ⟨none, 0, 0, 0, Nat.zero_le _, rfl, rfl, rfl, World.ownsRow_nil _ _ _ _, fun _ => rfl, L1⟩
  case round =>
    obtain ⟨B, n, cb, k, hk, rfl, rfl, hn, hown, hnil, lat⟩ := hrel
    by_cases hlt : k < l.length
    · obtain ⟨b, off, rfl, c0, c1, c2⟩ := (hr.later lat).val3 k hlt
      obtain ⟨hx, hm⟩ := ho _ (List.getElem_mem hlt)
      have hi := h64 _ (List.getElem_mem hlt)
      have HK := Lib.hid (show plainB (l.take (k + 1)) = plainB (l.take k) ++ oneB l[k].1 l[k].2.1 l[k].2.2 by
        rw [List.take_succ_eq_append_getElem hlt, plainB_append]; simp [plainB])
      have HLE := Lib.hid (plainB_le (t := t) (l := l.take k) fun x hx => ho x (List.mem_of_mem_take hx))
      have HO1 := Lib.hid (oneB_le hm)
      rw [hx] at c0 hm HK HO1
      generalize l[k].2.1 = i at c1 hm hi HK HO1
      generalize l[k].2.2 = s at c2 hm HK HO1
      have HM := Lib.hid hm
      have HI := Lib.hid hi
      have HR := Lib.hid hr
      have HLAT := Lib.hid lat
      have HN := Lib.hid hn
      have HOWN := Lib.hid hown
      have HNIL := Lib.hid hnil
      clear hm hr lat hx ho hi hn hown hnil h64
      go_wp2_with (first
        | (go_at_call 89; refine (cellPut_any t i s _ HT.out HM.out HI.out).mono ?_; rintro e w5 ⟨P, cp, rfl, r5, b5, m5, n5, l5⟩; have HR5 := Lib.hid r5; have HL5 := Lib.hid ((HLAT.out.alloc _).trans l5); have HW5 := Lib.hid (own_later (HOWN.out.alloc _) l5); have HN5 := Lib.hid n5; clear r5 b5 m5 l5 n5)
        | (at_builtin; refine wpList_append_rd _ rfl (.tmp 22) (.tmp 24) 22 rfl w.heap.size 5 (.int .u8 0) 1 Tryz.underlying22 info_u8 rfl _ n (ints .u8 (plainB (l.take k))) rfl HW5.out _ P (oneB t i s).length cp (ints .u8 (oneB t i s)) rfl HR5.out ?_ HN5.out (ints_one _ _) ?_ ?_ ?_ ?_; (rw [ints_length]); (have h1 := HLE.out; have h2 := HO1.out; have h3 := HN.out; rw [List.length_take] at h1; unfold maxLen; omega); (have h1 := HLE.out; have h2 := HO1.out; have h3 := HN.out; rw [List.length_take] at h1; omega); (exact HL5.out.size); intro A2 c2 w6 o2 g2 b2 n2; have HO2 := Lib.hid o2; have HB6 := Lib.hid b2; have HN2 := Lib.hid n2; clear o2 g2 b2 n2))
      go_roundw
      case rel =>
        refine ⟨A2, _, c2, k + 1, hlt, by go_num, rfl, ?_, ?_, HN2.out, Later.of (HL5.out.below.trans HB6.out)⟩
        · rw [HK.out, List.length_append, HN.out]
        · rw [HK.out, ints_snoc]; exact HO2.out
      case measure => simp [intOf]; omega
    · obtain rfl : k = l.length := by omega
      rw [List.take_of_length_le (Nat.le_refl _)] at hn hown
      subst hn
      have HR := Lib.hid (Has.own hown)
      have H1 := Lib.hid (own_cap hown)
      have H2 := Lib.hid (own_capmax hown)
      have H3 := Lib.hid hnil
      have H4 := Lib.hid lat
      clear hown hnil lat hr ho h64
      go_wp2_with fail
      go_ret2
      exact ⟨.inr ⟨_, _, _, rfl, rfl, HR.out, H1.out, H2.out, H3.out⟩, H4.out⟩

set_option maxRecDepth 100000 in
theorem plainWrite_no (t : Int) (A : Option Addr) (c : Nat) (l : List Val3) (w : World) (hs : S6 w) (hl : l.length ≤ 2000) (hr : Has w A (fl l)) (ho : ¬ ((1 ≤ t ∧ t ≤ 4) ∧ OkL t l)) :
    Calls Tryz.prog 75 #[.int .i64 t, .slice A l.length c] w (WritesB none w) := by
  have hif : Tryz.prog.isIface 40 = true := by kernel_rfl
  obtain ⟨a0, a2, a3, a4, S⟩ := hs.sn
  have HA := Lib.hid (all_no t A c l a0 a2 a3 a4 w S (by omega) hr ho)
  clear S hs ho hr
  go_enter Tryz.func75, Tryz.ntmps75
  go_wp2_with fail
  refine HA.out.mono ?_
  rintro e w1 ⟨v, rfl, ⟨p, rfl⟩, l1⟩
  have heq := run_eql_iface_nil (P := Tryz.prog) (w := w1) 40 hif 82 (.pointer (some p))
  go_wp2_with fail
  go_ret2
  exact ⟨.inl ⟨rfl, p, rfl⟩, l1⟩

theorem plainWrite_any (t : Int) (A : Option Addr) (c : Nat) (l : List Val3) (w : World) (hs : S6 w) (hl : l.length ≤ 2000) (hr : Has w A (fl l)) (h64 : All64 l) :
    Calls Tryz.prog 75 #[.int .i64 t, .slice A l.length c] w (WritesB (putP t l) w) := by
  unfold putP
  by_cases h : (1 ≤ t ∧ t ≤ 4) ∧ OkL t l
  · rw [if_pos h]; exact plainWrite_yes t A c l w hs h.1 hl hr h.2 h64
  · rw [if_neg h]; exact plainWrite_no t A c l w hs hl hr h

set_option maxRecDepth 100000 in
theorem plainPut_any (t : Int) (A : Option Addr) (c : Nat) (l : List Val3) (w : World) (hs : S6 w) (hl : l.length ≤ 2000) (hr : Has w A (fl l)) (h64 : All64 l) :
    Calls Tryz.prog 55 #[.int .i64 t, .slice A l.length c] w (PutsB (putP t l) w) := by
  have HC := Lib.hid (plainWrite_any t A c l w hs hl hr h64)
  clear hs hr h64 hl
  go_enter Tryz.func55, Tryz.ntmps55
  go_wp2_with fail
  refine HC.out.mono ?_
  rintro e w1 ⟨⟨ho, p, rfl⟩ | ⟨b, B, cb, ho, rfl, h1, h2, h3, h4⟩, l1⟩
  · go_wp2_with (go_at_call 17; refine (listB_no _ _ _ p _).mono ?_; rintro e w' ⟨rfl, rfl⟩)
    go_ret2
    exact ⟨.inl ⟨ho, rfl⟩, l1⟩
  · have H := Lib.hid (show PutsB (putP t l) w (.returned (.tuple #[.slice B b.length cb, .bool true])) w1 from ⟨.inr ⟨b, B, cb, ho, rfl, h1, h2, h3, h4⟩, l1⟩)
    clear ho h1 h2 h3 h4 l1
    go_wp2_with (go_at_call 17; refine (listB_yes _ _ _ _).mono ?_; rintro e w' ⟨rfl, rfl⟩)
    go_ret2
    exact H.out
theorem readP_none {t : Int} {n : Nat} {b : List Nat} (h : takeC t b = none) : readP t (n + 1) b = none := by unfold readP; rw [h]
theorem readP_some {t : Int} {n : Nat} {b : List Nat} {i : Int} {s : List Nat} {k : Nat} (h : takeC t b = some (i, s, k)) : readP t (n + 1) b = (readP t n (b.drop k)).map fun l => (t, i, bstr s) :: l := by
  conv => lhs; unfold readP
  rw [h]
/-- The values of type t, n of them, that are just these bytes. -/
def takeP (t n : Int) (b : List Nat) : Option (List Val3) := if (1 ≤ t ∧ t ≤ 4) ∧ 0 ≤ n ∧ n ≤ 1000 then readP t n.toNat b else none

set_option maxRecDepth 100000 in
set_option maxHeartbeats 2000000 in
theorem plainRead_yes (t : Int) (n : Nat) (A : Option Addr) (c : Nat) (b : List Nat) (w : World) (hs : S6 w) (ht : 1 ≤ t ∧ t ≤ 4) (hn : n ≤ 1000) (hr : Has w A (ints .u8 b)) (h256 : ∀ x ∈ b, x < 256) (hb : b.length ≤ 1000000) (hbc : b.length ≤ c) (hc : c ≤ 9223372036854775807) :
    Calls Tryz.prog 84 #[.int .i64 t, .int .i64 n, .slice A b.length c] w (WritesV (readP t n b) w) := by
  have hif : Tryz.prog.isIface 40 = true := by kernel_rfl
  have HC := Lib.hid (count_yes t n w ht (by omega))
  obtain ⟨o, ho⟩ : ∃ o, o = readP t n b := ⟨_, rfl⟩
  rw [← ho]
  have HT := Lib.hid ht
  have REL := Lib.hid (show o = (readP t (n - 0) b).map (fun l => [] ++ l) by rw [ho]; simp)
  clear ht ho
  go_enter Tryz.func84, Tryz.ntmps84
  go_wp2_with (go_at_call 42; refine HC.out.mono ?_; rintro e w' ⟨rfl, rfl⟩)
  clear HC
  go_loopw [9, 2, 21] (fun lv bv i wr => ∃ (B : Option Addr) (cb : Nat) (rest : List Nat) (L : Option Addr) (cl k : Nat) (done : List Val3), k ≤ n ∧ i = .int .i64 k ∧ bv = .slice B rest.length cb ∧ lv = .slice L k cl ∧ Has w B (ints .u8 rest) ∧ (∀ x ∈ rest, x < 256) ∧ rest.length ≤ 1000000 ∧ rest.length ≤ cb ∧ cb ≤ 9223372036854775807 ∧ wr.ownsRow w.heap.size 26 3 (.slice L k cl) k (fl done) ∧ done.length = k ∧ o = (readP t (n - k) rest).map (fun l => done ++ l) ∧ Later w wr) (fun _ _ i _ => n - (intOf i).toNat)
  case atStart => exact ⟨A, c, b, none, 0, 0, [], Nat.zero_le _, rfl, rfl, rfl, hr, h256, hb, hbc, hc, ownG_nil _ _ _ _, rfl, REL.out, Later.refl _⟩
  case round =>
    obtain ⟨B, cb, rest, L, cl, k, done, hk, rfl, rfl, rfl, hrest, hr256, hrl, hrc, hcb, hown, hdl, hrel, lat⟩ := hrel
    clear hr h256 hb hbc hc REL
    by_cases hlt : k < n
    · have HTK := Lib.hid (cellTake_any t HT.out B cb rest wr (hs.later lat) (hrest.later lat) hr256 hrl hrc hcb)
      obtain ⟨j, hj⟩ : ∃ j, n - k = j + 1 := ⟨n - k - 1, by omega⟩
      have hj2 : n - (k + 1) = j := by omega
      rw [hj] at hrel
      have HREL := Lib.hid hrel
      have HOWN := Lib.hid hown
      have HREST := Lib.hid hrest
      have HLAT := Lib.hid lat
      have HDL := Lib.hid hdl
      have H256 := Lib.hid hr256
      have HJ := Lib.hid hj2
      have HNCK := Lib.hid hj
      clear hrel hown hrest lat hdl hr256 hj hj2
      go_wp2_with fail
      refine HTK.out.mono ?_
      rintro e w2 ⟨⟨hT, p, rfl⟩ | ⟨i, s, m, hT, rfl⟩, l2⟩
      · have HO := Lib.hid (show o = none by rw [HREL.out, readP_none hT]; rfl)
        have heq := fun w => run_eql_iface_nil (P := Tryz.prog) (w := w) 40 hif 82 (.pointer (some p))
        have HL2 := Lib.hid (HLAT.out.trans l2)
        clear hT l2 HREL HTK
        go_wp2_with (go_at_call 27; refine (at_w _ _ _ _).mono ?_; rintro e w3 ⟨q, rfl, l3⟩)
        go_ret2
        exact ⟨.inl ⟨HO.out, q, rfl⟩, (HL2.out.alloc _).trans l3⟩
      · have HO := Lib.hid (show o = (readP t (n - (k + 1)) (rest.drop m)).map (fun l => (done ++ [(t, i, bstr s)]) ++ l) by rw [HREL.out, readP_some hT, map_step, HJ.out])
        obtain ⟨_, hm2, hi64, hs256⟩ := readC_lt H256.out (takeC_read hT).1
        obtain ⟨S, hS⟩ : ∃ S, S = bstr s := ⟨_, rfl⟩
        rw [← hS] at HO ⊢
        have R2 := Lib.hid HREST.out
        have OWN := Lib.hid (own_later HOWN.out l2)
        have HL2 := Lib.hid (HLAT.out.trans l2)
        have HAS := Lib.hid ((Blk.new (w2.alloc (.cells #[.int .i64 t, .int .i64 i, .string S] 26)) (fl [(t, i, S)]).toArray 26 (w2.heap.size + 1) (by simp)).has)
        clear hT l2 HREL HTK hS hi64 hs256 HREST HOWN HLAT
        go_wp2_with (at_builtin; refine wpList_append_g _ rfl (.tmp 36) (.tmp 38) 23 rfl w.heap.size 26 (vagg 0 0 ⟨#[]⟩) 3 32 Tryz.underlying23 info_v rfl (by decide) _ k (fl done) rfl ((OWN.out.alloc _).alloc _) _ 1 1 (fl [(t, i, S)]) rfl HAS.out (by rfl) (by intro h; cases h) (fl_one _) (by unfold maxLen; omega) (by omega) ?_ ?_; (exact ((HL2.out.alloc _).alloc _).size); intro A2 c2 w6 o2 g2 b2 n2; have HO2 := Lib.hid o2; have HB6 := Lib.hid b2; have HN2 := Lib.hid n2; clear o2 g2 b2 n2)
        have LL := Lib.hid (Later.of ((((HL2.out.alloc (.cells #[.int .i64 t, .int .i64 i, .string S] 26)).alloc (.cells (fl [(t, i, S)]).toArray 26)).below).trans HB6.out))
        have hlen : (rest.drop m).length = rest.length - m := List.length_drop
        have OK := Lib.hid (show (fl (done ++ [(t, i, S)])) = fl done ++ fl [(t, i, S)] from fl_append _ _)
        have DL := Lib.hid (show (done ++ [(t, i, S)]).length = k + 1 by rw [List.length_append, HDL.out]; rfl)
        have D256 := Lib.hid (fun x (hx : x ∈ rest.drop m) => H256.out x (List.mem_of_mem_drop hx))
        by_cases hcm : cb = m
        · subst hcm
          have hr0 : rest.drop cb = [] := List.drop_of_length_le hrc
          go_wp2_with fail
          go_roundw
          case rel =>
            refine ⟨_, _, rest.drop cb, A2, c2, k + 1, hlt, by simp, ⟨rfl, by rw [hr0]; rfl, rfl⟩, ⟨rfl, rfl, rfl⟩, by rw [hr0]; exact Has.nil_, D256.out, by omega, by rw [hr0]; exact Nat.zero_le _, by decide, done ++ [(t, i, S)], by rw [OK.out]; exact HO2.out, DL.out, HO.out, LL.out⟩
          case measure => simp [intOf]; omega
        · rcases B with _ | ⟨bb, off, inn⟩
          · exfalso
            rcases R2.out with h | ⟨_, _, h, _⟩
            · have : rest.length = 0 := by have := congrArg List.length h; rw [ints_length] at this; exact this
              omega
            · cases h
          · obtain rfl : inn = none := by
              rcases R2.out with h | ⟨_, _, h, _⟩
              · have : rest.length = 0 := by have := congrArg List.length h; rw [ints_length] at this; exact this
                omega
              · injection h with h; injection h
            have HD := Lib.hid (show Has w (some ⟨bb, off + m, none⟩) (ints .u8 (rest.drop m)) from by have h := R2.out.drop m; rw [show (ints .u8 rest).drop m = ints .u8 (rest.drop m) by simp [ints, List.map_drop]] at h; exact h)
            go_wp2_with fail
            go_roundw
            case rel =>
              refine ⟨_, _, rest.drop m, A2, c2, k + 1, hlt, by simp, ⟨rfl, ?_, rfl⟩, ⟨rfl, rfl, rfl⟩, ?_, D256.out, by omega, ?_, ?_, done ++ [(t, i, S)], by rw [OK.out]; exact HO2.out, DL.out, HO.out, LL.out⟩
              · rw [hlen]
              · exact HD.out
              · rw [hlen]; omega
              · omega
            case measure => simp [intOf]; omega
    · obtain rfl : k = n := by omega
      rw [Nat.sub_self] at hrel
      obtain ⟨sa, hsp⟩ := (hs.later lat).spare
      have HLAT := Lib.hid lat
      have HREL := Lib.hid hrel
      have HHAS := Lib.hid (Has.ownG hown)
      have HCP := Lib.hid (And.intro (ownG_cap hown) (ownG_capmax hown))
      have HDL := Lib.hid hdl
      by_cases hr0 : 0 < rest.length
      · have HO := Lib.hid (show o = none by
          rw [hrel]
          match rest, hr0 with
          | x :: r, _ => rfl)
        clear hrel lat hown hdl hs hrest hr256
        go_wp2_with (go_at_call 27; refine (at_l _ _ _ _).mono ?_; rintro e w3 ⟨q, rfl, l3⟩)
        go_ret2
        exact ⟨.inl ⟨HO.out, q, rfl⟩, HLAT.out.trans l3⟩
      · obtain rfl : rest = [] := List.eq_nil_of_length_eq_zero (by omega)
        have HO := Lib.hid (show o = some done by rw [hrel]; show some (done ++ []) = _; rw [List.append_nil])
        clear hrel lat hown hdl hs hrest hr256
        go_wp2_with fail
        go_ret2
        refine ⟨.inr ⟨done, L, cl, HO.out, ?_, HHAS.out, by have := HDL.out; have := HCP.out; omega⟩, HLAT.out⟩
        rw [HDL.out]
        rfl

set_option maxRecDepth 100000 in
theorem plainRead_no (t n : Int) (A : Option Addr) (m c : Nat) (w : World) (hs : S6 w) (h : ¬ ((1 ≤ t ∧ t ≤ 4) ∧ 0 ≤ n ∧ n ≤ 1000)) :
    Calls Tryz.prog 84 #[.int .i64 t, .int .i64 n, .slice A m c] w (WritesV none w) := by
  have hif : Tryz.prog.isIface 40 = true := by kernel_rfl
  have HA := Lib.hid (count_no t n w h hs.type hs.bound)
  clear hs h
  go_enter Tryz.func84, Tryz.ntmps84
  go_wp2_with fail
  refine HA.out.mono ?_
  rintro e w1 ⟨v, rfl, ⟨p, rfl⟩, l1⟩
  have heq := run_eql_iface_nil (P := Tryz.prog) (w := w1) 40 hif 82 (.pointer (some p))
  go_wp2_with fail
  go_ret2
  exact ⟨.inl ⟨rfl, p, rfl⟩, l1⟩

theorem plainRead_any (t n : Int) (A : Option Addr) (c : Nat) (b : List Nat) (w : World) (hs : S6 w) (hr : Has w A (ints .u8 b)) (h256 : ∀ x ∈ b, x < 256) (hb : b.length ≤ 1000000) (hbc : b.length ≤ c) (hc : c ≤ 9223372036854775807) :
    Calls Tryz.prog 84 #[.int .i64 t, .int .i64 n, .slice A b.length c] w (WritesV (takeP t n b) w) := by
  unfold takeP
  by_cases h : (1 ≤ t ∧ t ≤ 4) ∧ 0 ≤ n ∧ n ≤ 1000
  · rw [if_pos h]
    obtain ⟨m, rfl⟩ : ∃ m : Nat, n = (m : Int) := ⟨n.toNat, by omega⟩
    exact plainRead_yes t m A c b w hs h.1 (by omega) hr h256 hb hbc hc
  · rw [if_neg h]; exact plainRead_no t n A _ c w hs h

set_option maxRecDepth 100000 in
theorem plainTake_c (t n : Int) (A : Option Addr) (c : Nat) (b : List Nat) (w : World) (hs : S6 w) (hr : Has w A (ints .u8 b)) (h256 : ∀ x ∈ b, x < 256) (hb : b.length ≤ 1000000) (hbc : b.length ≤ c) (hc : c ≤ 9223372036854775807) :
    Calls Tryz.prog 64 #[.int .i64 t, .int .i64 n, .slice A b.length c] w (TakesV (takeP t n b) w) := by
  have HC := Lib.hid (plainRead_any t n A c b w hs hr h256 hb hbc hc)
  clear hs hr h256 hb hbc hc
  go_enter Tryz.func64, Tryz.ntmps64
  go_wp2_with fail
  refine HC.out.mono ?_
  rintro e w1 ⟨⟨ho, p, rfl⟩ | ⟨l, B, cb, ho, rfl, h1⟩, l1⟩
  · go_wp2_with (go_at_call 79; refine (listV_no _ _ _ p _).mono ?_; rintro e w' ⟨rfl, rfl⟩)
    go_ret2
    exact ⟨.inl ⟨ho, rfl⟩, l1⟩
  · have H := Lib.hid (show TakesV (takeP t n b) w (.returned (.tuple #[.slice B l.length cb, .bool true])) w1 from ⟨.inr ⟨l, B, cb, ho, rfl, h1⟩, l1⟩)
    clear ho h1 l1
    go_wp2_with (go_at_call 79; refine (listV_yes _ _ _ _).mono ?_; rintro e w' ⟨rfl, rfl⟩)
    go_ret2
    exact H.out
theorem plainTake_any (t n : Int) (A : Option Addr) (c : Nat) (b : List Nat) (w : World) (hs : S6 w) (hr : Has w A (ints .u8 b)) (h256 : ∀ x ∈ b, x < 256) (hb : b.length ≤ 1000000) (hbc : b.length ≤ c) (hc : c ≤ 9223372036854775807) :
    Calls Tryz.prog 64 #[.int .i64 t, .int .i64 n, .slice A b.length c] w (PutsV (takeP t n b) w) :=
  (plainTake_c t n A c b w hs hr h256 hb hbc hc).mono fun _ _ h => h.puts

/-- What the laws ask of the bytes. -/
theorem putP_some {t : Int} {l : List Val3} (ht : 1 ≤ t ∧ t ≤ 4) (ho : OkL t l) : ∃ b, putP t l = some b := ⟨plainB l, by unfold putP; rw [if_pos ⟨ht, ho⟩]⟩
theorem putP_is {t : Int} {l : List Val3} {b : List Nat} (h : putP t l = some b) : (1 ≤ t ∧ t ≤ 4) ∧ OkL t l ∧ b = plainB l := by
  unfold putP at h
  split at h
  · rename_i hc; cases h; exact ⟨hc.1, hc.2, rfl⟩
  · cases h
theorem putP_lt {t : Int} {l : List Val3} {b : List Nat} (ho : OkL t l) (h64 : All64 l) (h : putP t l = some b) : ∀ x ∈ b, x < 256 := by
  obtain ⟨_, _, rfl⟩ := putP_is h; exact plainB_lt ho h64
theorem putP_le {t : Int} {l : List Val3} {b : List Nat} (ho : OkL t l) (h : putP t l = some b) : b.length ≤ l.length * 21 := by
  obtain ⟨_, _, rfl⟩ := putP_is h; exact plainB_le ho
theorem takeP_put {t : Int} (ht : 1 ≤ t ∧ t ≤ 4) {l : List Val3} (ho : OkL t l) (h64 : All64 l) (hl : l.length ≤ 1000) {b : List Nat} (h : putP t l = some b) : takeP t l.length b = some l := by
  obtain ⟨_, _, rfl⟩ := putP_is h
  unfold takeP
  rw [if_pos ⟨ht, by omega, by omega⟩]
  exact readP_put ht l ho h64
theorem takeP_none {t : Int} (ht : 1 ≤ t ∧ t ≤ 4) {l : List Val3} (ho : OkL t l) (h64 : All64 l) {b c d : List Nat} (h256 : ∀ x ∈ b ++ c, x < 256) (hc : c ≠ []) (h : (putP t l = some b ∧ d = b ++ c) ∨ (putP t l = some (b ++ c) ∧ d = b)) : takeP t l.length d = none := by
  unfold takeP
  split
  · rw [show ((l.length : Nat) : Int).toNat = l.length from rfl]
    cases hd : readP t l.length d with
    | none => rfl
    | some m =>
      exfalso
      rcases h with ⟨h, rfl⟩ | ⟨h, rfl⟩
      · obtain ⟨_, _, rfl⟩ := putP_is h
        exact hc (readP_prefix ht _ _ _ l m h256 (readP_put ht l ho h64) hd)
      · obtain ⟨_, _, he⟩ := putP_is h
        refine hc (readP_prefix ht _ _ _ m l h256 hd ?_)
        rw [he]; exact readP_put ht l ho h64
  · rfl
theorem takeP_more {t : Int} (ht : 1 ≤ t ∧ t ≤ 4) {l : List Val3} (ho : OkL t l) (h64 : All64 l) {b : List Nat} (h : putP t l = some b) {x : Nat} (hx : x < 256) : takeP t l.length (b ++ [x]) = none :=
  takeP_none ht ho h64 (b := b) (c := [x]) (fun y hy => by
    rcases List.mem_append.1 hy with hy | hy
    · exact putP_lt ho h64 h y hy
    · rw [List.mem_singleton] at hy; omega) (by simp) (.inl ⟨h, rfl⟩)
theorem takeP_cut {t : Int} (ht : 1 ≤ t ∧ t ≤ 4) {l : List Val3} (ho : OkL t l) (h64 : All64 l) {b : List Nat} (h : putP t l = some b) {q : Nat} (hq : q < b.length) : takeP t l.length (b.take q) = none :=
  takeP_none ht ho h64 (b := b.take q) (c := b.drop q) (fun y hy => by rw [List.take_append_drop] at hy; exact putP_lt ho h64 h y hy) (fun e => by have := congrArg List.length e; rw [List.length_drop] at this; simp at this; omega) (.inr ⟨by rw [List.take_append_drop]; exact h, rfl⟩)
end Go.Proofs.YtldalkhmbpkjpaaGreatDoor
