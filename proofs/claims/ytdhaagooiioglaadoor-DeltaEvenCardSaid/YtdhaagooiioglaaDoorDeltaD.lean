/- Walks of package delta: read, Take. -/
import Derived.Test.YtdhaagooiioglaaDoorDeltaW
import Derived.BigQuiet
namespace Go.Proofs.YtdhaagooiioglaaDoor
open Go.RowKit
set_option linter.unusedVariables false

/-- Where read's loop stands. -/
def DRInv (o : Option (List Val3)) (t : Int) (n : Nat) (w : World) (lv pv bv iv : Value) (wr : World) : Prop :=
  ∃ (B : Option Addr) (cb : Nat) (rest : List Nat) (L : Option Addr) (cl k : Nat) (done : List Val3) (p : Int), k ≤ n ∧ iv = .int .i64 k ∧ bv = .slice B rest.length cb ∧ lv = .slice L k cl ∧ pv = .int .i64 p ∧ Has w B (ints .u8 rest) ∧ (∀ x ∈ rest, x < 256) ∧ rest.length ≤ 1000000 ∧ rest.length ≤ cb ∧ cb ≤ 9223372036854775807 ∧ wr.ownsRow w.heap.size 26 3 (.slice L k cl) k (fl done) ∧ done.length = k ∧ o = (readD t (n - k) p rest).map (fun l => done ++ l) ∧ Later w wr
theorem DRInv.mk {o : Option (List Val3)} {t : Int} {n : Nat} {w wr : World} (B : Option Addr) (m cb : Nat) (rest : List Nat) (L : Option Addr) (cl k : Nat) (done : List Val3) (p i : Int) (hk : k ≤ n) (hi : i = (k : Int)) (hm : m = rest.length) (hr : Has w B (ints .u8 rest)) (h256 : ∀ x ∈ rest, x < 256) (h1 : rest.length ≤ 1000000) (h2 : rest.length ≤ cb) (h3 : cb ≤ 9223372036854775807) (ho : wr.ownsRow w.heap.size 26 3 (.slice L k cl) k (fl done)) (hd : done.length = k) (hrel : o = (readD t (n - k) p rest).map (fun l => done ++ l)) (lat : Later w wr) : DRInv o t n w (.slice L k cl) (.int .i64 p) (.slice B m cb) (.int .i64 i) wr := by
  subst hi hm; exact ⟨B, cb, rest, L, cl, k, done, p, hk, rfl, rfl, rfl, rfl, hr, h256, h1, h2, h3, ho, hd, hrel, lat⟩
theorem mapD_step {o : Option (List Val3)} (d : List Val3) (x : Val3) : (o.map fun l => x :: l).map (fun l => d ++ l) = o.map fun l => (d ++ [x]) ++ l := by
  cases o with
  | none => rfl
  | some l => simp

set_option maxRecDepth 100000 in
set_option maxHeartbeats 2000000 in
theorem deltaRead_yes (t : Int) (n : Nat) (A : Option Addr) (c : Nat) (b : List Nat) (w : World) (hs : S6 w) (ht : t = 1 ∨ t = 2) (hn : n ≤ 1000) (hr : Has w A (ints .u8 b)) (h256 : ∀ x ∈ b, x < 256) (hb : b.length ≤ 1000000) (hbc : b.length ≤ c) (hc : c ≤ 9223372036854775807) :
    Calls Tryd.prog 42 #[.int .i64 t, .int .i64 n, .slice A b.length c] w (WritesV (readD t n 0 b) w) := by
  have HK := Lib.hid (deltaCheck_yes t w ht)
  have HC := Lib.hid (count_yes t n w (by omega) (by omega))
  obtain ⟨o, ho⟩ : ∃ o, o = readD t n 0 b := ⟨_, rfl⟩
  rw [← ho]
  have REL := Lib.hid (show o = (readD t (n - 0) 0 b).map (fun l => [] ++ l) by rw [ho]; simp)
  clear ht ho
  go_enter Tryd.func42, Tryd.ntmps42
  go_wp2_with (first
    | (go_at_call 67; refine HK.out.mono ?_; rintro e w' ⟨rfl, rfl⟩)
    | (go_at_call 57; refine HC.out.mono ?_; rintro e w' ⟨rfl, rfl⟩))
  clear HC HK
  go_loopw [10, 11, 2, 29] (fun lv pv bv i wr => DRInv o t n w lv pv bv i wr) (fun _ _ _ i _ => n - (intOf i).toNat)
  case atStart => exact DRInv.mk A b.length c b none 0 0 [] 0 0 (Nat.zero_le _) rfl rfl hr h256 hb hbc hc (ownG_nil _ _ _ _) rfl REL.out (Later.refl _)
  case round =>
    obtain ⟨B, cb, rest, L, cl, k, done, p, hk, rfl, rfl, rfl, rfl, hrest, hr256, hrl, hrc, hcb, hown, hdl, hrel, lat⟩ := hrel
    clear hr h256 hb hbc hc REL
    by_cases hlt : k < n
    · obtain ⟨aN, hN⟩ := (hs.later lat).num
      have HTK := Lib.hid (take_num B rest.length cb rest aN wr wr.heap.size rfl (hrest.later lat) hr256 hrl hN)
      obtain ⟨j, hj⟩ : ∃ j, n - k = j + 1 := ⟨n - k - 1, by omega⟩
      have hj2 : n - (k + 1) = j := by omega
      rw [hj] at hrel
      have HREL := Lib.hid hrel
      have HOWN := Lib.hid hown
      have HREST := Lib.hid hrest
      have HLAT := Lib.hid lat
      have HDL := Lib.hid hdl
      have H256 := Lib.hid hr256
      have HJ := Lib.hid hj2
      have HNCK := Lib.hid hj
      have HS := Lib.hid hs
      clear hrel hown hrest lat hdl hr256 hj hj2 hs hN
      go_wp2_with fail
      refine HTK.out.mono ?_
      rintro e w2 ⟨u, m, ok, hT0, rfl, b2⟩
      have l2 : Later wr w2 := Later.of b2
      have HL2 := Lib.hid (HLAT.out.trans l2)
      have OWN2 := Lib.hid (own_later HOWN.out l2)
      have HS2 := Lib.hid (HS.out.later HL2.out)
      clear b2 l2 HTK HOWN HLAT
      rcases takeR_some hT0 with ⟨rfl, hT⟩ | ⟨rfl, hT⟩
      · obtain ⟨hu64, hm1, hm3⟩ := takeNum_is H256.out hT
        have hm2 : m ≤ rest.length := by rw [hm1]; exact hm3.length_le
        obtain ⟨v, hv⟩ : ∃ v, v = w64 (p + zag u) := ⟨_, rfl⟩
        have hvw : IntKind.i64.wrap (p + zag u) = v := hv.symm
        have HU := Lib.hid hu64
        have HTT := Lib.hid hT
        have HV := Lib.hid hv
        obtain ⟨w3, hw3⟩ : ∃ w3, w3 = w2.alloc (.cells #[.int .i64 t, .int .i64 v, .string ⟨#[]⟩] 26) := ⟨_, rfl⟩
        have L23 : Later w2 w3 := hw3 ▸ Later.new _ _
        have BX : Blk w3 w2.heap.size #[.int .i64 t, .int .i64 v, .string ⟨#[]⟩] 26 := hw3 ▸ Blk.new w2 _ _ _ rfl
        have HS3 := Lib.hid (HS2.out.later L23)
        obtain ⟨a0, a2, a3, a4, S3⟩ := HS3.out.sn
        have HMAY := Lib.hid (may_any t v ⟨#[]⟩ a0 a2 a3 a4 w3 S3)
        have HL3 := Lib.hid (HL2.out.trans L23)
        have OWN3 := Lib.hid (own_later OWN2.out L23)
        have HBX := Lib.hid BX
        have HW3 := Lib.hid hw3
        clear hT hm1 hm3 hu64 hv hw3 L23 BX S3 hT0 HS2 OWN2 HL2
        go_wp2_with (go_at_call 60; refine (zag_any u _ HU.out).mono ?_; rintro e w' ⟨rfl, rfl⟩)
        rw [← HW3.out]
        refine HMAY.out.mono ?_
        rintro e w4 ⟨r, hr, rfl, b4⟩
        have l4 : Later w3 w4 := Later.of b4
        have HL4 := Lib.hid (HL3.out.trans l4)
        have HS4 := Lib.hid (HS3.out.later l4)
        have OWN4 := Lib.hid (own_later OWN3.out l4)
        have BX4 := HBX.out.later l4
        have d0 := BX4.cell 0 _ rfl
        have d1 := BX4.cell 1 _ rfl
        have d2 := BX4.cell 2 _ rfl
        clear b4 l4 HMAY HL3 HS3 OWN3 BX4 HBX HW3
        cases r with
        | false =>
          have HO := Lib.hid (show o = none by rw [HREL.out, readD_not HTT.out (by rw [← HV.out]; exact fun h => by have := hr.2 h; cases this)]; rfl)
          obtain ⟨sv, hsv⟩ := HS4.out.value
          clear hr HREL
          go_wp2_with (go_at_call 45; refine (at_l _ _ _ _).mono ?_; rintro e w5 ⟨q, rfl, l5⟩)
          go_ret2
          exact ⟨.inl ⟨HO.out, q, rfl⟩, HL4.out.trans l5⟩
        | true =>
          have HO := Lib.hid (show o = (readD t (n - (k + 1)) v (rest.drop m)).map (fun l => (done ++ [(t, v, ⟨#[]⟩)]) ++ l) by rw [HREL.out, readD_some HTT.out (by rw [← HV.out]; exact hr.1 rfl), mapD_step, HJ.out, ← HV.out])
          have HAS := Lib.hid ((Blk.new w4 (fl [(t, v, ⟨#[]⟩)]).toArray 26 w4.heap.size rfl).has)
          have HL5 := Lib.hid (HL4.out.alloc (.cells (fl [(t, v, ⟨#[]⟩)]).toArray 26))
          clear hr HREL
          go_wp2_with (at_builtin; refine wpList_append_g _ rfl (.tmp 56) (.tmp 58) 23 rfl w.heap.size 26 (vagg 0 0 ⟨#[]⟩) 3 32 Tryd.underlying23 info_v rfl (by decide) _ k (fl done) rfl (OWN4.out.alloc _) _ 1 1 (fl [(t, v, ⟨#[]⟩)]) rfl HAS.out (by rfl) (by intro h; cases h) (fl_one _) (by unfold maxLen; omega) (by omega) ?_ ?_; (exact HL5.out.size); intro A2 c2 w6 o2 g2 b2 n2; have HO2 := Lib.hid o2; have HB6 := Lib.hid b2; have HN2 := Lib.hid n2; clear o2 g2 b2 n2)
          have LL := Lib.hid (Later.of (HL5.out.below.trans HB6.out))
          have hlen : (rest.drop m).length = rest.length - m := List.length_drop
          have OK := Lib.hid (show (fl (done ++ [(t, v, ⟨#[]⟩)])) = fl done ++ fl [(t, v, ⟨#[]⟩)] from fl_append _ _)
          have DL := Lib.hid (show (done ++ [(t, v, (⟨#[]⟩ : ByteArray))]).length = k + 1 by rw [List.length_append, HDL.out]; rfl)
          have D256 := Lib.hid (fun x (hx : x ∈ rest.drop m) => H256.out x (List.mem_of_mem_drop hx))
          have hmc : m ≤ cb := by omega
          by_cases hcm : cb = m
          · subst hcm
            have hr0 : rest.drop cb = [] := List.drop_of_length_le hrc
            have hl0 : rest.length = cb := by omega
            have HF := Lib.hid (fun (B' : Option Addr) (mb cb' : Nat) (i' : Int) (hB : mb = 0) (hc' : cb' = 0) (hi : i' = ((k + 1 : Nat) : Int)) => (by
              subst hB hc'
              exact DRInv.mk B' 0 0 (rest.drop cb) A2 c2 (k + 1) (done ++ [(t, v, ⟨#[]⟩)]) v i' hlt hi (by rw [hr0]; rfl) (by rw [hr0]; exact Has.nil_) D256.out (by rw [hr0]; exact Nat.zero_le _) (by rw [hr0]; exact Nat.zero_le _) (by decide) (by rw [OK.out]; exact HO2.out) DL.out HO.out LL.out : DRInv o t n w (.slice A2 (k + 1) c2) (.int .i64 v) (.slice B' mb cb') (.int .i64 i') w6))
            clear hr0 hlen
            go_wp2_with fail
            go_roundw
            case rel => exact HF.out _ _ _ _ (by first | rfl | omega) (by first | rfl | omega) (by go_num)
            case measure => simp [intOf]; omega
          · rcases B with _ | ⟨bb, off, inn⟩
            · exfalso
              rcases HREST.out with h | ⟨_, _, h, _⟩
              · have : rest.length = 0 := by have := congrArg List.length h; rw [ints_length] at this; exact this
                have hT := HTT.out
                obtain rfl := List.eq_nil_of_length_eq_zero this
                cases hT
              · cases h
            · obtain rfl : inn = none := by
                rcases HREST.out with h | ⟨_, _, h, _⟩
                · have : rest.length = 0 := by have := congrArg List.length h; rw [ints_length] at this; exact this
                  have hT := HTT.out
                  obtain rfl := List.eq_nil_of_length_eq_zero this
                  cases hT
                · injection h with h; injection h
              have HD := Lib.hid (show Has w (some ⟨bb, off + m, none⟩) (ints .u8 (rest.drop m)) from by have h := HREST.out.drop m; rw [show (ints .u8 rest).drop m = ints .u8 (rest.drop m) by simp [ints, List.map_drop]] at h; exact h)
              have HF := Lib.hid (fun (mb cb' : Nat) (i' : Int) (hB : mb = rest.length - m) (hc' : cb' = cb - m) (hi : i' = ((k + 1 : Nat) : Int)) => (by
                subst hB hc'
                exact DRInv.mk _ (rest.length - m) (cb - m) (rest.drop m) A2 c2 (k + 1) (done ++ [(t, v, ⟨#[]⟩)]) v i' hlt hi hlen.symm HD.out D256.out (by omega) (by rw [hlen]; omega) (by omega) (by rw [OK.out]; exact HO2.out) DL.out HO.out LL.out : DRInv o t n w (.slice A2 (k + 1) c2) (.int .i64 v) (.slice (some ⟨bb, off + m, none⟩) mb cb') (.int .i64 i') w6))
              clear hlen
              go_wp2_with fail
              go_roundw
              case rel => exact HF.out _ _ _ (by first | rfl | omega) (by first | rfl | omega) (by go_num)
              case measure => simp [intOf]; omega
      · have HO := Lib.hid (show o = none by rw [HREL.out, readD_none hT]; rfl)
        obtain ⟨sv, hsv⟩ := HS2.out.short
        clear hT HREL hT0
        go_wp2_with (go_at_call 45; refine (at_l _ _ _ _).mono ?_; rintro e w5 ⟨q, rfl, l5⟩)
        go_ret2
        exact ⟨.inl ⟨HO.out, q, rfl⟩, HL2.out.trans l5⟩
    · obtain rfl : k = n := by omega
      rw [Nat.sub_self] at hrel
      obtain ⟨sa, hsp⟩ := (hs.later lat).spare
      have HLAT := Lib.hid lat
      have HHAS := Lib.hid (Has.ownG hown)
      have HDL := Lib.hid hdl
      by_cases hr0 : 0 < rest.length
      · have HO := Lib.hid (show o = none by
          rw [hrel]
          match rest, hr0 with
          | x :: r, _ => rfl)
        clear hrel lat hown hdl hs hrest hr256
        go_wp2_with (go_at_call 45; refine (at_l _ _ _ _).mono ?_; rintro e w3 ⟨q, rfl, l3⟩)
        go_ret2
        exact ⟨.inl ⟨HO.out, q, rfl⟩, HLAT.out.trans l3⟩
      · obtain rfl : rest = [] := List.eq_nil_of_length_eq_zero (by omega)
        have HO := Lib.hid (show o = some done by rw [hrel]; show some (done ++ []) = _; rw [List.append_nil])
        clear hrel lat hown hdl hs hrest hr256
        go_wp2_with fail
        go_ret2
        refine ⟨.inr ⟨done, L, cl, HO.out, ?_, HHAS.out⟩, HLAT.out⟩
        rw [HDL.out]
        rfl

set_option maxRecDepth 100000 in
theorem deltaRead_no (t n : Int) (A : Option Addr) (m c : Nat) (w : World) (hs : S6 w) (h : ¬ ((t = 1 ∨ t = 2) ∧ 0 ≤ n ∧ n ≤ 1000)) :
    Calls Tryd.prog 42 #[.int .i64 t, .int .i64 n, .slice A m c] w (WritesV none w) := by
  have hif : Tryd.prog.isIface 52 = true := by kernel_rfl
  by_cases ht : t = 1 ∨ t = 2
  · have HA := Lib.hid (count_no t n w (fun hh => h ⟨ht, hh.2⟩) hs.type hs.bound)
    have HC := Lib.hid (deltaCheck_yes t w ht)
    clear hs h ht
    go_enter Tryd.func42, Tryd.ntmps42
    go_wp2_with (go_at_call 67; refine HC.out.mono ?_; rintro e w' ⟨rfl, rfl⟩)
    refine HA.out.mono ?_
    rintro e w1 ⟨v, rfl, ⟨p, rfl⟩, l1⟩
    have heq := run_eql_iface_nil (P := Tryd.prog) (w := w1) 52 hif 90 (.pointer (some p))
    go_wp2_with fail
    go_ret2
    exact ⟨.inl ⟨rfl, p, rfl⟩, l1⟩
  · have HC := Lib.hid (deltaCheck_no t w ht hs.type)
    clear hs h ht
    go_enter Tryd.func42, Tryd.ntmps42
    go_wp2_with fail
    refine HC.out.mono ?_
    rintro e w1 ⟨v, rfl, ⟨p, rfl⟩, l1⟩
    have heq := run_eql_iface_nil (P := Tryd.prog) (w := w1) 52 hif 90 (.pointer (some p))
    go_wp2_with fail
    go_ret2
    exact ⟨.inl ⟨rfl, p, rfl⟩, l1⟩

theorem deltaRead_any (t n : Int) (A : Option Addr) (c : Nat) (b : List Nat) (w : World) (hs : S6 w) (hr : Has w A (ints .u8 b)) (h256 : ∀ x ∈ b, x < 256) (hb : b.length ≤ 1000000) (hbc : b.length ≤ c) (hc : c ≤ 9223372036854775807) :
    Calls Tryd.prog 42 #[.int .i64 t, .int .i64 n, .slice A b.length c] w (WritesV (takeD t n b) w) := by
  unfold takeD
  by_cases h : (t = 1 ∨ t = 2) ∧ 0 ≤ n ∧ n ≤ 1000
  · rw [if_pos h]
    obtain ⟨m, rfl⟩ : ∃ m : Nat, n = (m : Int) := ⟨n.toNat, by omega⟩
    exact deltaRead_yes t m A c b w hs h.1 (by omega) hr h256 hb hbc hc
  · rw [if_neg h]; exact deltaRead_no t n A _ c w hs h

set_option maxRecDepth 100000 in
theorem deltaTake_any (t n : Int) (A : Option Addr) (c : Nat) (b : List Nat) (w : World) (hs : S6 w) (hr : Has w A (ints .u8 b)) (h256 : ∀ x ∈ b, x < 256) (hb : b.length ≤ 1000000) (hbc : b.length ≤ c) (hc : c ≤ 9223372036854775807) :
    Calls Tryd.prog 25 #[.int .i64 t, .int .i64 n, .slice A b.length c] w (PutsV (takeD t n b) w) := by
  have HC := Lib.hid (deltaRead_any t n A c b w hs hr h256 hb hbc hc)
  clear hs hr h256 hb hbc hc
  go_enter Tryd.func25, Tryd.ntmps25
  go_wp2_with fail
  refine HC.out.mono ?_
  rintro e w1 ⟨⟨ho, p, rfl⟩ | ⟨l, B, cb, ho, rfl, h1⟩, l1⟩
  · go_wp2_with (go_at_call 37; refine (listV_no _ _ _ p _).mono ?_; rintro e w' ⟨rfl, rfl⟩)
    go_ret2
    exact ⟨.inl ⟨ho, rfl⟩, l1⟩
  · have H := Lib.hid (show PutsV (takeD t n b) w (.returned (.tuple #[.slice B l.length cb, .bool true])) w1 from ⟨.inr ⟨l, B, cb, ho, rfl, h1⟩, l1⟩)
    clear ho h1 l1
    go_wp2_with (go_at_call 37; refine (listV_yes _ _ _ _).mono ?_; rintro e w' ⟨rfl, rfl⟩)
    go_ret2
    exact H.out
end Go.Proofs.YtdhaagooiioglaaDoor
