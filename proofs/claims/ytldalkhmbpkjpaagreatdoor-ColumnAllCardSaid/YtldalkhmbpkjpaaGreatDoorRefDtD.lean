/- The walks of the reference's readDict, read, Decode of a list of values. -/
import Derived.Test.YtldalkhmbpkjpaaGreatDoorRefDtE
import Derived.Test.YtldalkhmbpkjpaaGreatDoorRefPkD
import Derived.Test.YtldalkhmbpkjpaaGreatDoorRefOneT
import Derived.BigQuiet
namespace Go.Proofs.YtldalkhmbpkjpaaGreatDoor
open Go.RowKit
set_option linter.unusedVariables false

theorem readT_none {t : Int} {n : Nat} {b : List Nat} (h : takeNum b = none) : readT t n b = none := by unfold readT; rw [h]
theorem readT_not {t : Int} {n : Nat} {b : List Nat} {u k : Nat} (h : takeNum b = some (u, k)) (hu : ¬ u ≤ n) : readT t n b = none := by unfold readT; rw [h]; simp only; rw [if_neg hu]
theorem readT_nq {t : Int} {n : Nat} {b : List Nat} {u k : Nat} (h : takeNum b = some (u, k)) (hu : u ≤ n) (hq : readQ t u (b.drop k) = none) : readT t n b = none := by unfold readT; rw [h]; simp only; rw [if_pos hu, hq]
theorem readT_nb {t : Int} {n : Nat} {b : List Nat} {u k : Nat} {d : List Val3} {r : List Nat} (h : takeNum b = some (u, k)) (hu : u ≤ n) (hq : readQ t u (b.drop k) = some (d, r)) (hb : takeBits r n (widD d.length) = none) : readT t n b = none := by unfold readT; rw [h]; simp only; rw [if_pos hu, hq]; simp only; rw [hb]
theorem readT_np {t : Int} {n : Nat} {b : List Nat} {u k : Nat} {d : List Val3} {r us : List Nat} (h : takeNum b = some (u, k)) (hu : u ≤ n) (hq : readQ t u (b.drop k) = some (d, r)) (hb : takeBits r n (widD d.length) = some us) (hp : ¬ ∀ p ∈ us, p < d.length) : readT t n b = none := by unfold readT; rw [h]; simp only; rw [if_pos hu, hq]; simp only; rw [hb]; simp only; rw [if_neg hp]
def pickR (d : List Val3) (ps : List Nat) : List Val3 := ps.map fun p => d.getD p (0, 0, ⟨#[]⟩)
theorem pickR_len (d : List Val3) (ps : List Nat) : (pickR d ps).length = ps.length := List.length_map _
theorem readT_yes {t : Int} {n : Nat} {b : List Nat} {u k : Nat} {d : List Val3} {r us : List Nat} (h : takeNum b = some (u, k)) (hu : u ≤ n) (hq : readQ t u (b.drop k) = some (d, r)) (hb : takeBits r n (widD d.length) = some us) (hp : ∀ p ∈ us, p < d.length) : readT t n b = some (pickR d us) := by unfold readT; rw [h]; simp only; rw [if_pos hu, hq]; simp only; rw [hb]; simp only; rw [if_pos hp]; rfl

/-- Where readDict's first loop stands. -/
def QDInv (o : Option (List Val3 × List Nat)) (t : Int) (u : Nat) (w : World) (bv lv iv : Value) (wr : World) : Prop :=
  ∃ (B : Option Addr) (cb : Nat) (rest : List Nat) (L : Option Addr) (cl j : Nat) (done : List Val3), bv = .slice B rest.length cb ∧ lv = .slice L j cl ∧ iv = .int .u64 (j : Int) ∧ j ≤ u ∧ done.length = j ∧ Has w B (ints .u8 rest) ∧ (∀ x ∈ rest, x < 256) ∧ rest.length ≤ 1000000 ∧ rest.length ≤ cb ∧ cb ≤ 9223372036854775807 ∧ wr.ownsRow w.heap.size 26 3 (.slice L j cl) j (fl done) ∧ o = (readQ t (u - j) rest).map (fun p => (done ++ p.1, p.2)) ∧ Later w wr
theorem QDInv.mk {o : Option (List Val3 × List Nat)} {t : Int} {u : Nat} {w wr : World} (B : Option Addr) (cb mb : Nat) (rest : List Nat) (L : Option Addr) (cl m j : Nat) (done : List Val3) (z : Int) (hmb : mb = rest.length) (hm : m = j) (hz : z = (j : Int)) (h1 : j ≤ u) (h2 : done.length = j) (h3 : Has w B (ints .u8 rest)) (h4 : ∀ x ∈ rest, x < 256) (h5 : rest.length ≤ 1000000) (h6 : rest.length ≤ cb) (h7 : cb ≤ 9223372036854775807) (h8 : wr.ownsRow w.heap.size 26 3 (.slice L m cl) m (fl done)) (h9 : o = (readQ t (u - j) rest).map (fun p => (done ++ p.1, p.2))) (h10 : Later w wr) : QDInv o t u w (.slice B mb cb) (.slice L m cl) (.int .u64 z) wr := by
  subst hmb hm hz; exact ⟨B, cb, rest, L, cl, m, done, rfl, rfl, rfl, h1, h2, h3, h4, h5, h6, h7, h8, h9, h10⟩
/-- Where its second loop stands. -/
def QRInv (d : List Val3) (us : List Nat) (wb : World) (lv iv : Value) (wr : World) : Prop :=
  ∃ (L : Option Addr) (cl j : Nat), lv = .slice L j cl ∧ iv = .int .i64 (j : Int) ∧ j ≤ us.length ∧ (∀ q (h : q < us.length), q < j → us[q] < d.length) ∧ wr.ownsRow wb.heap.size 26 3 (.slice L j cl) j (fl (pickR d (us.take j))) ∧ Later wb wr
theorem QRInv.mk {d : List Val3} {us : List Nat} {wb wr : World} (L : Option Addr) (cl m j : Nat) (i : Int) (hm : m = j) (hi : i = (j : Int)) (h1 : j ≤ us.length) (h0 : ∀ q (h : q < us.length), q < j → us[q] < d.length) (h2 : wr.ownsRow wb.heap.size 26 3 (.slice L m cl) m (fl (pickR d (us.take j)))) (h3 : Later wb wr) : QRInv d us wb (.slice L m cl) (.int .i64 i) wr := by
  subst hm hi; exact ⟨L, cl, m, rfl, rfl, h1, h0, h2, h3⟩
theorem takeOne_nn (t : Int) (ht : 1 ≤ t ∧ t ≤ 4) (A : Option Addr) (m c : Nat) (b : List Nat) (w : World) (hm : m = b.length) (hr : Has w A (ints .u8 b)) (h256 : ∀ x ∈ b, x < 256) (hb : b.length ≤ 1000000) (hbc : b.length ≤ c) (hc : c ≤ 9223372036854775807) :
    Calls Tryz.prog 65 #[.int .i64 t, .slice A m c] w (TakesO (takeC t b) t w) := by
  subst hm; exact takeOne_any t ht A c b w hr h256 hb hbc hc

set_option maxRecDepth 100000 in
set_option maxHeartbeats 4000000 in
theorem refReadDict_any (t : Int) (ht : 1 ≤ t ∧ t ≤ 4) (n : Nat) (A : Option Addr) (c : Nat) (b : List Nat) (w : World) (hn : n ≤ 1000) (hr : Has w A (ints .u8 b)) (h256 : ∀ x ∈ b, x < 256) (hb : b.length ≤ 1000000) (hbc : b.length ≤ c) (hc : c ≤ 9223372036854775807) :
    Calls Tryz.prog 67 #[.int .i64 t, .int .i64 n, .slice A b.length c] w (ReadsL (readT t n b) w) := by
  have HN0 := Lib.hid (readT_none (t := t) (n := n) (b := b))
  have HN1 := Lib.hid (fun u k => readT_not (t := t) (n := n) (b := b) (u := u) (k := k))
  have HN2 := Lib.hid (fun u k => readT_nq (t := t) (n := n) (b := b) (u := u) (k := k))
  have HN3 := Lib.hid (fun u k d r => readT_nb (t := t) (n := n) (b := b) (u := u) (k := k) (d := d) (r := r))
  have HN4 := Lib.hid (fun u k d r us => readT_np (t := t) (n := n) (b := b) (u := u) (k := k) (d := d) (r := r) (us := us))
  have HY := Lib.hid (fun u k d r us => readT_yes (t := t) (n := n) (b := b) (u := u) (k := k) (d := d) (r := r) (us := us))
  obtain ⟨o, ho⟩ : ∃ o, o = readT t n b := ⟨_, rfl⟩
  rw [← ho] at HN0 HN1 HN2 HN3 HN4 HY ⊢
  have HTN := Lib.hid (refTake_num A b.length c b w rfl hbc hr h256 hb)
  have HR := Lib.hid hr
  have H256 := Lib.hid h256
  have HTT := Lib.hid ht
  have hnw : IntKind.u64.wrap (n : Int) = (n : Int) := by rw [IntKind.wrap_u64]; omega
  clear hr ho h256 ht
  go_enter Tryz.func67, Tryz.ntmps67
  go_wp2_with fail
  refine HTN.out.mono ?_
  rintro e w2 ⟨u, k, ok, hT0, rfl, b2⟩
  have L2 := Lib.hid (Later.of b2)
  clear b2 HTN
  rcases takeR_some hT0 with ⟨rfl, hT⟩ | ⟨rfl, hT⟩
  · obtain ⟨hu64, hk1, hk3⟩ := takeNum_is H256.out hT
    have hkb : k ≤ b.length := by rw [hk1]; exact hk3.length_le
    have hkp : 1 ≤ k := by rw [hk1]; exact putNum_pos u
    have HTH := Lib.hid hT
    clear hk1 hk3 hu64 hT0 hT
    by_cases hu : u ≤ n
    · have hd1 : decide ((n : Int) < (u : Int)) = false := by simp; omega
      have hd2 : decide (n < u) = false := by simp; omega
      have hd3 : ¬ n < u := by omega
      have hu9 : u ≤ 1000 := by omega
      obtain ⟨bb, off, rfl⟩ : ∃ bb off, A = some ⟨bb, off, none⟩ := by
        rcases HR.out with h | ⟨bb, off, h, _⟩
        · have : b.length = 0 := by have := congrArg List.length h; rw [ints_length] at this; exact this
          omega
        · exact ⟨bb, off, h⟩
      have HN2 := Lib.hid (HN2.out u k HTH.out hu)
      have HN3 := Lib.hid (fun d r => HN3.out u k d r HTH.out hu)
      have HN4 := Lib.hid (fun d r us => HN4.out u k d r us HTH.out hu)
      have HY := Lib.hid (fun d r us => HY.out u k d r us HTH.out hu)
      obtain ⟨r0, hr0⟩ : ∃ r0, r0 = b.drop k := ⟨_, rfl⟩
      rw [← hr0] at HN2 HN3 HN4 HY
      have hr0l : r0.length = b.length - k := by rw [hr0, List.length_drop]
      have HR0 := Lib.hid (show Has w2 (some ⟨bb, off + k, none⟩) (ints .u8 r0) from by have h := (HR.out.later L2.out).drop k; rw [show (ints .u8 b).drop k = ints .u8 (b.drop k) by simp [ints, List.map_drop], ← hr0] at h; exact h)
      have H0256 := Lib.hid (show ∀ x ∈ r0, x < 256 by rw [hr0]; exact fun x hx => H256.out x (List.mem_of_mem_drop hx))
      obtain ⟨Q, hQ⟩ : ∃ Q, Q = readQ t u r0 := ⟨_, rfl⟩
      have HREL0 := Lib.hid (show Q = (readQ t (u - 0) r0).map (fun p => ([] ++ p.1, p.2)) from by
        rw [hQ, Nat.sub_zero]; cases readQ t u r0 <;> rfl)
      have HQ := Lib.hid hQ.symm
      obtain ⟨wo, hwo⟩ : ∃ wo, wo = w2 := ⟨_, rfl⟩
      subst hwo
      have HSTART := Lib.hid (fun (B' : Option Addr) (m' c' : Nat) (hA : B' = some ⟨bb, off + k, none⟩ ∨ r0 = []) (hm : m' = r0.length) (hc' : r0.length ≤ c') (hcc : c' ≤ 9223372036854775807) => QDInv.mk (o := Q) (t := t) (u := u) (w := wo) (wr := wo) B' c' m' r0 none 0 0 0 [] 0 hm rfl rfl (Nat.zero_le _) rfl (by
        rcases hA with hA | hA
        · rw [hA]; exact HR0.out
        · rw [hA]; exact Has.nil_) H0256.out (by omega) hc' hcc (ownG_nil _ _ _ _) HREL0.out (Later.refl _))
      clear HN0 HN1 hu hr0 hQ HREL0 HR0 H0256
      by_cases hck : c = k
      · have hkc : k = c := hck.symm
        have hr00 : r0 = [] := List.eq_nil_of_length_eq_zero (by omega)
        have HS := Lib.hid (fun (B' : Option Addr) => HSTART.out B' 0 0 (.inr hr00) (by rw [hr00]; rfl) (by rw [hr00]; exact Nat.le_refl _) (by decide))
        have hbk : b.length = k := by omega
        have HBK := Lib.hid hbk
        clear HSTART hr0l hck hr00
        subst hkc
        obtain ⟨nb, hnb⟩ : ∃ nb, nb = b.length := ⟨_, rfl⟩
        rw [← hnb] at hbk hkb hbc ⊢
        subst hbk
        go_wp2_with fail
        go_loopw [2, 11, 12] (fun bv lv iv wr => QDInv Q t u wo bv lv iv wr) (fun _ _ iv _ => u - (intOf iv).toNat)
        case atStart => exact HS.out _
        case round =>
          obtain ⟨B, cb, rest, L, cl, j, done, rfl, rfl, rfl, hju, hdl, hrest, hr256, hrl, hrc, hcb, hown, hrel, lat⟩ := hrel
          obtain ⟨m0, hm⟩ : ∃ m0, m0 = rest.length := ⟨_, rfl⟩
          have HML := Lib.hid hm
          have HTK := Lib.hid (takeOne_nn t HTT.out B m0 cb rest wr hm (hrest.later lat) hr256 hrl hrc hcb)
          rw [← hm] at hrl hrc ⊢
          have HREST := Lib.hid hrest
          have HR256 := Lib.hid hr256
          have HOWN := Lib.hid hown
          have HREL := Lib.hid hrel
          have HLAT := Lib.hid lat
          have HDL := Lib.hid hdl
          clear HS hrest hr256 hown hrel lat hdl hm
          by_cases hlt : j < u
          · obtain ⟨q, hq⟩ : ∃ q, u - j = q + 1 := ⟨u - j - 1, by omega⟩
            have HJ := Lib.hid (show u - (j + 1) = q by omega)
            have HREL := Lib.hid (show Q = (readQ t (q + 1) rest).map (fun p => (done ++ p.1, p.2)) by rw [HREL.out, hq])
            clear hq
            go_wp2_with fail
            refine HTK.out.mono ?_
            rintro e w3 ⟨⟨hC, t', i', n', s', rfl⟩ | ⟨i, s, m, hC, rfl⟩, l3⟩
            · have HO := Lib.hid (HN2.out (by rw [HQ.out, HREL.out, readQ_none hC]; rfl))
              have HL3 := Lib.hid (L2.out.trans (HLAT.out.trans l3))
              clear hC l3 HREL HTK
              go_wp2_with fail
              go_ret2
              exact ⟨.inl ⟨HO.out, rfl⟩, HL3.out.alloc _⟩
            · have HO := Lib.hid (show Q = (readQ t (u - (j + 1)) (rest.drop m)).map (fun p => ((done ++ [(t, i, bstr s)]) ++ p.1, p.2)) by rw [HREL.out, readQ_some hC, readQ_step, HJ.out])
              obtain ⟨_, hm2, hi64, hs256⟩ := readC_lt HR256.out (takeC_read hC).1
              rw [← HML.out] at hm2
              obtain ⟨S, hS⟩ : ∃ S, S = bstr s := ⟨_, rfl⟩
              rw [← hS] at HO ⊢
              have OWN := Lib.hid (own_later HOWN.out l3)
              have HL2 := Lib.hid (HLAT.out.trans l3)
              have HAS := Lib.hid ((Blk.new (w3.alloc (.cells #[.int .i64 t, .int .i64 i, .string S] 26)) (fl [(t, i, S)]).toArray 26 (w3.heap.size + 1) (by simp)).has)
              have HL3 := Lib.hid ((HL2.out.alloc (.cells #[.int .i64 t, .int .i64 i, .string S] 26)).alloc (.cells (fl [(t, i, S)]).toArray 26))
              have HDLEN := Lib.hid (show (rest.drop m).length = m0 - m by rw [List.length_drop, ← HML.out])
              have DL := Lib.hid (show (done ++ [(t, i, S)]).length = j + 1 by rw [List.length_append, HDL.out]; rfl)
              have D256 := Lib.hid (fun x (hx : x ∈ rest.drop m) => HR256.out x (List.mem_of_mem_drop hx))
              clear hC l3 HREL HTK hS hi64 hs256 HOWN HLAT
              by_cases hcm : cb = m
              · have hcm' : m = cb := hcm.symm
                subst hcm'
                have HFIN := Lib.hid (fun (A2 : Option Addr) (c2 : Nat) (w6 : World) (mb : Nat) (B' : Option Addr) (cb' : Nat) (z : Int) (hB : mb = 0) (hc' : cb' = 0) (hz : z = ((j + 1 : Nat) : Int)) (o2 : w6.ownsRow wo.heap.size 26 3 (.slice A2 (j + 1) c2) (j + 1) (fl done ++ fl [(t, i, S)])) (L6 : Later wo w6) => (by
                  have hr0 : rest.drop m = [] := List.drop_of_length_le (by have := HML.out; omega)
                  exact QDInv.mk B' cb' mb (rest.drop m) A2 c2 (j + 1) (j + 1) (done ++ [(t, i, S)]) z (by rw [hr0, hB]; rfl) rfl hz hlt DL.out (by rw [hr0]; exact Has.nil_) D256.out (by rw [hr0]; exact Nat.zero_le _) (by rw [hr0]; exact Nat.zero_le _) (by omega) (by rw [fl_append]; exact o2) HO.out L6 : QDInv Q t u wo (.slice B' mb cb') (.slice A2 (j + 1) c2) (.int .u64 z) w6))
                have hmm : m0 = m := by omega
                clear hcm
                subst hmm
                go_wp2_with fail
                go_region_law (first
                  | (refine step_append_g (by rfl) (.tmp 50) (.tmp 52) 23 (by rfl) wo.heap.size 26 (vagg 0 0 ⟨#[]⟩) 3 32 Tryz.underlying23 info_v rfl (by decide) _ j (fl done) (by rfl) ((OWN.out.alloc _).alloc _).drew _ _ 1 1 (fl [(t, i, S)]) (by rfl) HAS.out (by rfl) (fl_one _) (by unfold maxLen; omega) (by omega) HL3.out.drew.size ?_; intro A2 c2 w6 o2 b2 n2; have HO2 := Lib.hid o2; have LL := Lib.hid (Later.of (Below.trans HL3.out.drew.below b2)); clear o2 b2 n2))
                all_goals try simp [Act.put]
                all_goals go_wp2_with fail
                all_goals go_roundw
                all_goals first
                  | exact HFIN.out _ _ _ _ _ _ _ (by first | rfl | omega) (by first | rfl | omega) (by omega) HO2.out LL.out
                  | (simp [intOf]; omega)
              · rcases B with _ | ⟨bb, off, inn⟩
                · exfalso
                  rcases HREST.out with h | ⟨_, _, h, _⟩
                  · have : rest.length = 0 := by have := congrArg List.length h; rw [ints_length] at this; exact this
                    have := HML.out
                    omega
                  · cases h
                · obtain rfl : inn = none := by
                    rcases HREST.out with h | ⟨_, _, h, _⟩
                    · have : rest.length = 0 := by have := congrArg List.length h; rw [ints_length] at this; exact this
                      have := HML.out
                      omega
                    · injection h with h; injection h
                  have HD := Lib.hid (show Has wo (some ⟨bb, off + m, none⟩) (ints .u8 (rest.drop m)) from by have h := HREST.out.drop m; rw [show (ints .u8 rest).drop m = ints .u8 (rest.drop m) by simp [ints, List.map_drop]] at h; exact h)
                  have HFIN := Lib.hid (fun (A2 : Option Addr) (c2 : Nat) (w6 : World) (mb : Nat) (cb' : Nat) (z : Int) (hB : mb = m0 - m) (hc' : cb' = cb - m) (hz : z = ((j + 1 : Nat) : Int)) (o2 : w6.ownsRow wo.heap.size 26 3 (.slice A2 (j + 1) c2) (j + 1) (fl done ++ fl [(t, i, S)])) (L6 : Later wo w6) => (by
                    have h1 := HDLEN.out
                    exact QDInv.mk _ cb' mb (rest.drop m) A2 c2 (j + 1) (j + 1) (done ++ [(t, i, S)]) z (by omega) rfl hz hlt DL.out HD.out D256.out (by omega) (by omega) (by omega) (by rw [fl_append]; exact o2) HO.out L6 : QDInv Q t u wo (.slice (some ⟨bb, off + m, none⟩) mb cb') (.slice A2 (j + 1) c2) (.int .u64 z) w6))
                  go_wp2_with fail
                  go_region_law (first
                    | (refine step_append_g (by rfl) (.tmp 50) (.tmp 52) 23 (by rfl) wo.heap.size 26 (vagg 0 0 ⟨#[]⟩) 3 32 Tryz.underlying23 info_v rfl (by decide) _ j (fl done) (by rfl) ((OWN.out.alloc _).alloc _).drew _ _ 1 1 (fl [(t, i, S)]) (by rfl) HAS.out (by rfl) (fl_one _) (by unfold maxLen; omega) (by omega) HL3.out.drew.size ?_; intro A2 c2 w6 o2 b2 n2; have HO2 := Lib.hid o2; have LL := Lib.hid (Later.of (Below.trans HL3.out.drew.below b2)); clear o2 b2 n2))
                  all_goals try simp [Act.put]
                  all_goals go_wp2_with fail
                  all_goals go_roundw
                  all_goals first
                    | exact HFIN.out _ _ _ _ _ _ (by first | rfl | omega) (by first | rfl | omega) (by omega) HO2.out LL.out
                    | (simp [intOf]; omega)
          · obtain rfl : j = u := by omega
            have HO := Lib.hid (show readQ t j r0 = some (done, rest) by
              rw [HQ.out, HREL.out, Nat.sub_self]
              show some (done ++ [], rest) = _
              rw [List.append_nil])
            have HN3 := Lib.hid (HN3.out done rest HO.out)
            have HN4 := Lib.hid (fun us => HN4.out done rest us HO.out)
            have HY := Lib.hid (fun us => HY.out done rest us HO.out)
            rw [HDL.out] at HN3 HN4 HY
            have L3 := Lib.hid (L2.out.trans HLAT.out)
            have HDH := Lib.hid (Has.ownG HOWN.out)
            obtain ⟨z, hz⟩ : ∃ z : Nat, z = max j 1 - 1 := ⟨_, rfl⟩
            have HZW := Lib.hid (fun w' => ref_width z (by omega) w')
            rw [show wid z = widD j by rw [hz]; exact widD_ref j] at HZW
            have HTB := Lib.hid (refBitsTake_o B m0 cb rest n (widD j : Int) n (widD j) wr HML.out rfl rfl (HREST.out.later HLAT.out) HR256.out (by have := HML.out; omega))
            have hmax : max (j : Int) 1 = (z : Int) + 1 := by omega
            have hzw : IntKind.u64.wrap (z : Int) = (z : Int) := by rw [IntKind.wrap_u64]; omega
            have hjw : IntKind.u64.wrap (j : Int) = (j : Int) := by rw [IntKind.wrap_u64]; omega
            clear HOWN HREL HTK HREST HR256 hz
            go_wp2_with (go_at_call 58; refine (HZW.out _).mono ?_; rintro e w' ⟨rfl, rfl⟩)
            clear hmax hzw
            cases htb : takeBits rest n (widD j) with
            | none =>
              have HO := Lib.hid (HN3.out htb)
              have HB := Lib.hid htb
              clear htb
              refine HTB.out.mono ?_
              intro e w4 h
              obtain ⟨rfl, l4⟩ := h.no HB.out
              clear h HTB
              go_wp2_with fail
              go_ret2
              exact ⟨.inl ⟨HO.out, rfl⟩, L3.out.trans l4⟩
            | some us =>
              have HB := Lib.hid htb
              have HUN := Lib.hid (takeBits_len htb).1
              have HU64 := Lib.hid (takeBits_lt htb)
              have HN4b := Lib.hid (HN4.out us htb)
              have HYb := Lib.hid (HY.out us htb)
              clear htb
              refine HTB.out.mono ?_
              intro e w4 h
              obtain ⟨UA, uc, rfl, uh, l4⟩ := h.yes HB.out
              have HUH := Lib.hid uh
              have L4 := Lib.hid (L3.out.trans l4)
              have HDX := Lib.hid (HDH.out.later l4)
              obtain ⟨ul, hul⟩ : ∃ ul, ul = us.length := ⟨_, rfl⟩
              rw [← hul]
              have HUL := Lib.hid hul
              have hun : ul = n := by rw [hul]; exact HUN.out
              clear h uh l4 HTB HDH hul
              subst hun
              go_wp2_with fail
              go_loopw [17, 18] (fun lv iv wr => QRInv done us w4 lv iv wr) (fun _ iv _ => ul - (intOf iv).toNat)
              case atStart => exact QRInv.mk none 0 0 0 0 rfl rfl (Nat.zero_le _) (fun q h hq => by omega) (ownG_nil _ _ _ _) (Later.refl _)
              case round =>
                obtain ⟨L5, cl5, i, rfl, rfl, hi, hall, hown, lat⟩ := hrel
                by_cases hlt2 : i < ul
                · have hius : i < us.length := by have := HUL.out; omega
                  obtain ⟨ub, uo, hua, hcell⟩ : ∃ ub uo, UA = some ⟨ub, uo, none⟩ ∧ wr.cell? ⟨ub, uo + i, none⟩ = some (.int .u64 ((us[i] : Nat) : Int)) := by
                    rcases HUH.out.later lat with h | ⟨ub, uo, h1, _, hc⟩
                    · have h2 : us.length = 0 := by have h := congrArg List.length h; rw [ints_length] at h; exact h
                      omega
                    · exact ⟨ub, uo, h1, hc i _ (by rw [ints_get _ _ _ hius])⟩
                  subst hua
                  have HREP := Lib.hid (show pickR done (us.take (i + 1)) = pickR done (us.take i) ++ [done.getD us[i] (0, 0, ⟨#[]⟩)] by
                    unfold pickR; rw [List.take_succ_eq_append_getElem hius, List.map_append]; rfl)
                  have HMEM := Lib.hid (List.getElem_mem hius)
                  have HALL := Lib.hid (fun (hx : us[i] < done.length) => (show ∀ q (h : q < us.length), q < i + 1 → us[q] < done.length from fun q h hq => by
                    rcases Nat.lt_or_ge q i with h' | h'
                    · exact hall q h h'
                    · obtain rfl : q = i := by omega
                      exact hx))
                  have hu64 := HU64.out _ (List.getElem_mem hius)
                  generalize us[i] = a at hcell HREP HMEM HALL hu64
                  have HOWN := Lib.hid hown
                  have LAT := Lib.hid lat
                  have HIU := Lib.hid hius
                  have hi0 : (0 : Int) ≤ (i : Int) := by omega
                  have hi1 : (i : Int) < (ul : Int) := by omega
                  have hi9 : i < 1000 := by omega
                  clear hown lat hall hius hi
                  by_cases ha : a < j
                  · have hge : decide ((j : Int) ≤ (a : Int)) = false := by simp; omega
                    have hge2 : decide (j ≤ a) = false := by simp; omega
                    have hge3 : ¬ j ≤ a := by omega
                    have had : a < done.length := by have := HDL.out; omega
                    obtain ⟨db, doff, hda, c0, c1, c2⟩ := (HDX.out.later LAT.out).val3 a had
                    subst hda
                    rw [show done.getD a (0, 0, ⟨#[]⟩) = (done[a].1, done[a].2.1, done[a].2.2) by rw [List.getD_eq_getElem?_getD, List.getElem?_eq_getElem had]; rfl] at HREP
                    generalize done[a].1 = vt at c0 HREP
                    generalize done[a].2.1 = vi at c1 HREP
                    generalize done[a].2.2 = vs at c2 HREP
                    have ha0 : (0 : Int) ≤ (a : Int) := by omega
                    have ha1 : (a : Int) < (j : Int) := by omega
                    have HAS := Lib.hid ((Blk.new wr (fl [(vt, vi, vs)]).toArray 26 _ rfl).has)
                    have O2 := Lib.hid (HOWN.out.alloc (.cells (fl [(vt, vi, vs)]).toArray 26))
                    have LT2 := Lib.hid (LAT.out.alloc (.cells (fl [(vt, vi, vs)]).toArray 26))
                    have HAN := Lib.hid (HALL.out had)
                    clear had hu64 ha HALL
                    go_wp2_with (at_builtin; refine wpList_append_g _ rfl (.tmp 84) (.tmp 92) 23 rfl w4.heap.size 26 (vagg 0 0 ⟨#[]⟩) 3 32 Tryz.underlying23 info_v rfl (by decide) _ i (fl (pickR done (us.take i))) rfl O2.out _ 1 1 (fl [(vt, vi, vs)]) rfl HAS.out (by rfl) (by intro h; cases h) (fl_one _) (by unfold maxLen; omega) (by omega) ?_ ?_; (exact LT2.out.size); intro A2 c2 w6 o2 g2 b2 n2; have HO2 := Lib.hid o2; have HB6 := Lib.hid (Later.of (LT2.out.below.trans b2)); clear o2 g2 b2 n2)
                    go_roundw
                    case rel => exact QRInv.mk A2 c2 _ (i + 1) _ rfl (by omega) HIU.out HAN.out (by rw [HREP.out, fl_append]; exact HO2.out) HB6.out
                    case measure => simp [intOf]; omega
                  · have HO := Lib.hid (HN4b.out fun h => ha (h a HMEM.out))
                    have hge : decide ((j : Int) ≤ (a : Int)) = true := by simp; omega
                    have hge2 : decide (j ≤ a) = true := by simp; omega
                    have hge3 : j ≤ a := by omega
                    have LZ := Lib.hid (L4.out.trans LAT.out)
                    clear ha hu64 HALL
                    go_wp2_with fail
                    go_ret2
                    exact ⟨.inl ⟨HO.out, rfl⟩, LZ.out⟩
                · have hiu : i = us.length := by have := HUL.out; omega
                  rw [List.take_of_length_le (by omega)] at hown
                  have HRK := Lib.hid (show o = some (pickR done us) from HYb.out fun p hp => by
                    obtain ⟨q, hq, rfl⟩ := List.getElem_of_mem hp
                    have := hall q hq (by omega)
                    have := HDL.out
                    omega)
                  have HLH := Lib.hid (Has.ownG hown)
                  have HCP := Lib.hid (And.intro (ownG_cap hown) (ownG_capmax hown))
                  have LZ := Lib.hid (L4.out.trans lat)
                  have HIL := Lib.hid (show i = (pickR done us).length by rw [pickR_len]; exact hiu)
                  clear hown lat hall hi hiu
                  go_wp2_with fail
                  go_ret2
                  refine ⟨.inr ⟨_, L5, cl5, HRK.out, ?_, HLH.out, by have := HIL.out; have := HCP.out; omega⟩, LZ.out⟩
                  rw [← HIL.out]
                  rfl
      · have HS := Lib.hid (HSTART.out (some ⟨bb, off + k, none⟩) (b.length - k) (c - k) (.inl rfl) hr0l.symm (by omega) (by omega))
        clear HSTART hr0l
        go_wp2_with fail
        go_loopw [2, 11, 12] (fun bv lv iv wr => QDInv Q t u wo bv lv iv wr) (fun _ _ iv _ => u - (intOf iv).toNat)
        case atStart => exact HS.out
        case round =>
          obtain ⟨B, cb, rest, L, cl, j, done, rfl, rfl, rfl, hju, hdl, hrest, hr256, hrl, hrc, hcb, hown, hrel, lat⟩ := hrel
          obtain ⟨m0, hm⟩ : ∃ m0, m0 = rest.length := ⟨_, rfl⟩
          have HML := Lib.hid hm
          have HTK := Lib.hid (takeOne_nn t HTT.out B m0 cb rest wr hm (hrest.later lat) hr256 hrl hrc hcb)
          rw [← hm] at hrl hrc ⊢
          have HREST := Lib.hid hrest
          have HR256 := Lib.hid hr256
          have HOWN := Lib.hid hown
          have HREL := Lib.hid hrel
          have HLAT := Lib.hid lat
          have HDL := Lib.hid hdl
          clear HS hrest hr256 hown hrel lat hdl hm
          by_cases hlt : j < u
          · obtain ⟨q, hq⟩ : ∃ q, u - j = q + 1 := ⟨u - j - 1, by omega⟩
            have HJ := Lib.hid (show u - (j + 1) = q by omega)
            have HREL := Lib.hid (show Q = (readQ t (q + 1) rest).map (fun p => (done ++ p.1, p.2)) by rw [HREL.out, hq])
            clear hq
            go_wp2_with fail
            refine HTK.out.mono ?_
            rintro e w3 ⟨⟨hC, t', i', n', s', rfl⟩ | ⟨i, s, m, hC, rfl⟩, l3⟩
            · have HO := Lib.hid (HN2.out (by rw [HQ.out, HREL.out, readQ_none hC]; rfl))
              have HL3 := Lib.hid (L2.out.trans (HLAT.out.trans l3))
              clear hC l3 HREL HTK
              go_wp2_with fail
              go_ret2
              exact ⟨.inl ⟨HO.out, rfl⟩, HL3.out.alloc _⟩
            · have HO := Lib.hid (show Q = (readQ t (u - (j + 1)) (rest.drop m)).map (fun p => ((done ++ [(t, i, bstr s)]) ++ p.1, p.2)) by rw [HREL.out, readQ_some hC, readQ_step, HJ.out])
              obtain ⟨_, hm2, hi64, hs256⟩ := readC_lt HR256.out (takeC_read hC).1
              rw [← HML.out] at hm2
              obtain ⟨S, hS⟩ : ∃ S, S = bstr s := ⟨_, rfl⟩
              rw [← hS] at HO ⊢
              have OWN := Lib.hid (own_later HOWN.out l3)
              have HL2 := Lib.hid (HLAT.out.trans l3)
              have HAS := Lib.hid ((Blk.new (w3.alloc (.cells #[.int .i64 t, .int .i64 i, .string S] 26)) (fl [(t, i, S)]).toArray 26 (w3.heap.size + 1) (by simp)).has)
              have HL3 := Lib.hid ((HL2.out.alloc (.cells #[.int .i64 t, .int .i64 i, .string S] 26)).alloc (.cells (fl [(t, i, S)]).toArray 26))
              have HDLEN := Lib.hid (show (rest.drop m).length = m0 - m by rw [List.length_drop, ← HML.out])
              have DL := Lib.hid (show (done ++ [(t, i, S)]).length = j + 1 by rw [List.length_append, HDL.out]; rfl)
              have D256 := Lib.hid (fun x (hx : x ∈ rest.drop m) => HR256.out x (List.mem_of_mem_drop hx))
              clear hC l3 HREL HTK hS hi64 hs256 HOWN HLAT
              by_cases hcm : cb = m
              · have hcm' : m = cb := hcm.symm
                subst hcm'
                have HFIN := Lib.hid (fun (A2 : Option Addr) (c2 : Nat) (w6 : World) (mb : Nat) (B' : Option Addr) (cb' : Nat) (z : Int) (hB : mb = 0) (hc' : cb' = 0) (hz : z = ((j + 1 : Nat) : Int)) (o2 : w6.ownsRow wo.heap.size 26 3 (.slice A2 (j + 1) c2) (j + 1) (fl done ++ fl [(t, i, S)])) (L6 : Later wo w6) => (by
                  have hr0 : rest.drop m = [] := List.drop_of_length_le (by have := HML.out; omega)
                  exact QDInv.mk B' cb' mb (rest.drop m) A2 c2 (j + 1) (j + 1) (done ++ [(t, i, S)]) z (by rw [hr0, hB]; rfl) rfl hz hlt DL.out (by rw [hr0]; exact Has.nil_) D256.out (by rw [hr0]; exact Nat.zero_le _) (by rw [hr0]; exact Nat.zero_le _) (by omega) (by rw [fl_append]; exact o2) HO.out L6 : QDInv Q t u wo (.slice B' mb cb') (.slice A2 (j + 1) c2) (.int .u64 z) w6))
                have hmm : m0 = m := by omega
                clear hcm
                subst hmm
                go_wp2_with fail
                go_region_law (first
                  | (refine step_append_g (by rfl) (.tmp 50) (.tmp 52) 23 (by rfl) wo.heap.size 26 (vagg 0 0 ⟨#[]⟩) 3 32 Tryz.underlying23 info_v rfl (by decide) _ j (fl done) (by rfl) ((OWN.out.alloc _).alloc _).drew _ _ 1 1 (fl [(t, i, S)]) (by rfl) HAS.out (by rfl) (fl_one _) (by unfold maxLen; omega) (by omega) HL3.out.drew.size ?_; intro A2 c2 w6 o2 b2 n2; have HO2 := Lib.hid o2; have LL := Lib.hid (Later.of (Below.trans HL3.out.drew.below b2)); clear o2 b2 n2))
                all_goals try simp [Act.put]
                all_goals go_wp2_with fail
                all_goals go_roundw
                all_goals first
                  | exact HFIN.out _ _ _ _ _ _ _ (by first | rfl | omega) (by first | rfl | omega) (by omega) HO2.out LL.out
                  | (simp [intOf]; omega)
              · rcases B with _ | ⟨bb, off, inn⟩
                · exfalso
                  rcases HREST.out with h | ⟨_, _, h, _⟩
                  · have : rest.length = 0 := by have := congrArg List.length h; rw [ints_length] at this; exact this
                    have := HML.out
                    omega
                  · cases h
                · obtain rfl : inn = none := by
                    rcases HREST.out with h | ⟨_, _, h, _⟩
                    · have : rest.length = 0 := by have := congrArg List.length h; rw [ints_length] at this; exact this
                      have := HML.out
                      omega
                    · injection h with h; injection h
                  have HD := Lib.hid (show Has wo (some ⟨bb, off + m, none⟩) (ints .u8 (rest.drop m)) from by have h := HREST.out.drop m; rw [show (ints .u8 rest).drop m = ints .u8 (rest.drop m) by simp [ints, List.map_drop]] at h; exact h)
                  have HFIN := Lib.hid (fun (A2 : Option Addr) (c2 : Nat) (w6 : World) (mb : Nat) (cb' : Nat) (z : Int) (hB : mb = m0 - m) (hc' : cb' = cb - m) (hz : z = ((j + 1 : Nat) : Int)) (o2 : w6.ownsRow wo.heap.size 26 3 (.slice A2 (j + 1) c2) (j + 1) (fl done ++ fl [(t, i, S)])) (L6 : Later wo w6) => (by
                    have h1 := HDLEN.out
                    exact QDInv.mk _ cb' mb (rest.drop m) A2 c2 (j + 1) (j + 1) (done ++ [(t, i, S)]) z (by omega) rfl hz hlt DL.out HD.out D256.out (by omega) (by omega) (by omega) (by rw [fl_append]; exact o2) HO.out L6 : QDInv Q t u wo (.slice (some ⟨bb, off + m, none⟩) mb cb') (.slice A2 (j + 1) c2) (.int .u64 z) w6))
                  go_wp2_with fail
                  go_region_law (first
                    | (refine step_append_g (by rfl) (.tmp 50) (.tmp 52) 23 (by rfl) wo.heap.size 26 (vagg 0 0 ⟨#[]⟩) 3 32 Tryz.underlying23 info_v rfl (by decide) _ j (fl done) (by rfl) ((OWN.out.alloc _).alloc _).drew _ _ 1 1 (fl [(t, i, S)]) (by rfl) HAS.out (by rfl) (fl_one _) (by unfold maxLen; omega) (by omega) HL3.out.drew.size ?_; intro A2 c2 w6 o2 b2 n2; have HO2 := Lib.hid o2; have LL := Lib.hid (Later.of (Below.trans HL3.out.drew.below b2)); clear o2 b2 n2))
                  all_goals try simp [Act.put]
                  all_goals go_wp2_with fail
                  all_goals go_roundw
                  all_goals first
                    | exact HFIN.out _ _ _ _ _ _ (by first | rfl | omega) (by first | rfl | omega) (by omega) HO2.out LL.out
                    | (simp [intOf]; omega)
          · obtain rfl : j = u := by omega
            have HO := Lib.hid (show readQ t j r0 = some (done, rest) by
              rw [HQ.out, HREL.out, Nat.sub_self]
              show some (done ++ [], rest) = _
              rw [List.append_nil])
            have HN3 := Lib.hid (HN3.out done rest HO.out)
            have HN4 := Lib.hid (fun us => HN4.out done rest us HO.out)
            have HY := Lib.hid (fun us => HY.out done rest us HO.out)
            rw [HDL.out] at HN3 HN4 HY
            have L3 := Lib.hid (L2.out.trans HLAT.out)
            have HDH := Lib.hid (Has.ownG HOWN.out)
            obtain ⟨z, hz⟩ : ∃ z : Nat, z = max j 1 - 1 := ⟨_, rfl⟩
            have HZW := Lib.hid (fun w' => ref_width z (by omega) w')
            rw [show wid z = widD j by rw [hz]; exact widD_ref j] at HZW
            have HTB := Lib.hid (refBitsTake_o B m0 cb rest n (widD j : Int) n (widD j) wr HML.out rfl rfl (HREST.out.later HLAT.out) HR256.out (by have := HML.out; omega))
            have hmax : max (j : Int) 1 = (z : Int) + 1 := by omega
            have hzw : IntKind.u64.wrap (z : Int) = (z : Int) := by rw [IntKind.wrap_u64]; omega
            have hjw : IntKind.u64.wrap (j : Int) = (j : Int) := by rw [IntKind.wrap_u64]; omega
            clear HOWN HREL HTK HREST HR256 hz
            go_wp2_with (go_at_call 58; refine (HZW.out _).mono ?_; rintro e w' ⟨rfl, rfl⟩)
            clear hmax hzw
            cases htb : takeBits rest n (widD j) with
            | none =>
              have HO := Lib.hid (HN3.out htb)
              have HB := Lib.hid htb
              clear htb
              refine HTB.out.mono ?_
              intro e w4 h
              obtain ⟨rfl, l4⟩ := h.no HB.out
              clear h HTB
              go_wp2_with fail
              go_ret2
              exact ⟨.inl ⟨HO.out, rfl⟩, L3.out.trans l4⟩
            | some us =>
              have HB := Lib.hid htb
              have HUN := Lib.hid (takeBits_len htb).1
              have HU64 := Lib.hid (takeBits_lt htb)
              have HN4b := Lib.hid (HN4.out us htb)
              have HYb := Lib.hid (HY.out us htb)
              clear htb
              refine HTB.out.mono ?_
              intro e w4 h
              obtain ⟨UA, uc, rfl, uh, l4⟩ := h.yes HB.out
              have HUH := Lib.hid uh
              have L4 := Lib.hid (L3.out.trans l4)
              have HDX := Lib.hid (HDH.out.later l4)
              obtain ⟨ul, hul⟩ : ∃ ul, ul = us.length := ⟨_, rfl⟩
              rw [← hul]
              have HUL := Lib.hid hul
              have hun : ul = n := by rw [hul]; exact HUN.out
              clear h uh l4 HTB HDH hul
              subst hun
              go_wp2_with fail
              go_loopw [17, 18] (fun lv iv wr => QRInv done us w4 lv iv wr) (fun _ iv _ => ul - (intOf iv).toNat)
              case atStart => exact QRInv.mk none 0 0 0 0 rfl rfl (Nat.zero_le _) (fun q h hq => by omega) (ownG_nil _ _ _ _) (Later.refl _)
              case round =>
                obtain ⟨L5, cl5, i, rfl, rfl, hi, hall, hown, lat⟩ := hrel
                by_cases hlt2 : i < ul
                · have hius : i < us.length := by have := HUL.out; omega
                  obtain ⟨ub, uo, hua, hcell⟩ : ∃ ub uo, UA = some ⟨ub, uo, none⟩ ∧ wr.cell? ⟨ub, uo + i, none⟩ = some (.int .u64 ((us[i] : Nat) : Int)) := by
                    rcases HUH.out.later lat with h | ⟨ub, uo, h1, _, hc⟩
                    · have h2 : us.length = 0 := by have h := congrArg List.length h; rw [ints_length] at h; exact h
                      omega
                    · exact ⟨ub, uo, h1, hc i _ (by rw [ints_get _ _ _ hius])⟩
                  subst hua
                  have HREP := Lib.hid (show pickR done (us.take (i + 1)) = pickR done (us.take i) ++ [done.getD us[i] (0, 0, ⟨#[]⟩)] by
                    unfold pickR; rw [List.take_succ_eq_append_getElem hius, List.map_append]; rfl)
                  have HMEM := Lib.hid (List.getElem_mem hius)
                  have HALL := Lib.hid (fun (hx : us[i] < done.length) => (show ∀ q (h : q < us.length), q < i + 1 → us[q] < done.length from fun q h hq => by
                    rcases Nat.lt_or_ge q i with h' | h'
                    · exact hall q h h'
                    · obtain rfl : q = i := by omega
                      exact hx))
                  have hu64 := HU64.out _ (List.getElem_mem hius)
                  generalize us[i] = a at hcell HREP HMEM HALL hu64
                  have HOWN := Lib.hid hown
                  have LAT := Lib.hid lat
                  have HIU := Lib.hid hius
                  have hi0 : (0 : Int) ≤ (i : Int) := by omega
                  have hi1 : (i : Int) < (ul : Int) := by omega
                  have hi9 : i < 1000 := by omega
                  clear hown lat hall hius hi
                  by_cases ha : a < j
                  · have hge : decide ((j : Int) ≤ (a : Int)) = false := by simp; omega
                    have hge2 : decide (j ≤ a) = false := by simp; omega
                    have hge3 : ¬ j ≤ a := by omega
                    have had : a < done.length := by have := HDL.out; omega
                    obtain ⟨db, doff, hda, c0, c1, c2⟩ := (HDX.out.later LAT.out).val3 a had
                    subst hda
                    rw [show done.getD a (0, 0, ⟨#[]⟩) = (done[a].1, done[a].2.1, done[a].2.2) by rw [List.getD_eq_getElem?_getD, List.getElem?_eq_getElem had]; rfl] at HREP
                    generalize done[a].1 = vt at c0 HREP
                    generalize done[a].2.1 = vi at c1 HREP
                    generalize done[a].2.2 = vs at c2 HREP
                    have ha0 : (0 : Int) ≤ (a : Int) := by omega
                    have ha1 : (a : Int) < (j : Int) := by omega
                    have HAS := Lib.hid ((Blk.new wr (fl [(vt, vi, vs)]).toArray 26 _ rfl).has)
                    have O2 := Lib.hid (HOWN.out.alloc (.cells (fl [(vt, vi, vs)]).toArray 26))
                    have LT2 := Lib.hid (LAT.out.alloc (.cells (fl [(vt, vi, vs)]).toArray 26))
                    have HAN := Lib.hid (HALL.out had)
                    clear had hu64 ha HALL
                    go_wp2_with (at_builtin; refine wpList_append_g _ rfl (.tmp 84) (.tmp 92) 23 rfl w4.heap.size 26 (vagg 0 0 ⟨#[]⟩) 3 32 Tryz.underlying23 info_v rfl (by decide) _ i (fl (pickR done (us.take i))) rfl O2.out _ 1 1 (fl [(vt, vi, vs)]) rfl HAS.out (by rfl) (by intro h; cases h) (fl_one _) (by unfold maxLen; omega) (by omega) ?_ ?_; (exact LT2.out.size); intro A2 c2 w6 o2 g2 b2 n2; have HO2 := Lib.hid o2; have HB6 := Lib.hid (Later.of (LT2.out.below.trans b2)); clear o2 g2 b2 n2)
                    go_roundw
                    case rel => exact QRInv.mk A2 c2 _ (i + 1) _ rfl (by omega) HIU.out HAN.out (by rw [HREP.out, fl_append]; exact HO2.out) HB6.out
                    case measure => simp [intOf]; omega
                  · have HO := Lib.hid (HN4b.out fun h => ha (h a HMEM.out))
                    have hge : decide ((j : Int) ≤ (a : Int)) = true := by simp; omega
                    have hge2 : decide (j ≤ a) = true := by simp; omega
                    have hge3 : j ≤ a := by omega
                    have LZ := Lib.hid (L4.out.trans LAT.out)
                    clear ha hu64 HALL
                    go_wp2_with fail
                    go_ret2
                    exact ⟨.inl ⟨HO.out, rfl⟩, LZ.out⟩
                · have hiu : i = us.length := by have := HUL.out; omega
                  rw [List.take_of_length_le (by omega)] at hown
                  have HRK := Lib.hid (show o = some (pickR done us) from HYb.out fun p hp => by
                    obtain ⟨q, hq, rfl⟩ := List.getElem_of_mem hp
                    have := hall q hq (by omega)
                    have := HDL.out
                    omega)
                  have HLH := Lib.hid (Has.ownG hown)
                  have HCP := Lib.hid (And.intro (ownG_cap hown) (ownG_capmax hown))
                  have LZ := Lib.hid (L4.out.trans lat)
                  have HIL := Lib.hid (show i = (pickR done us).length by rw [pickR_len]; exact hiu)
                  clear hown lat hall hi hiu
                  go_wp2_with fail
                  go_ret2
                  refine ⟨.inr ⟨_, L5, cl5, HRK.out, ?_, HLH.out, by have := HIL.out; have := HCP.out; omega⟩, LZ.out⟩
                  rw [← HIL.out]
                  rfl
    · have HO := Lib.hid (HN1.out u k HTH.out hu)
      have hd1 : decide ((n : Int) < (u : Int)) = true := by simp; omega
      have hd2 : decide (n < u) = true := by simp; omega
      have hd3 : n < u := by omega
      clear hu
      go_wp2_with fail
      go_ret2
      exact ⟨.inl ⟨HO.out, rfl⟩, L2.out⟩
  · have HO := Lib.hid (HN0.out hT)
    clear hT hT0
    go_wp2_with fail
    go_ret2
    exact ⟨.inl ⟨HO.out, rfl⟩, L2.out⟩

set_option maxRecDepth 100000 in
theorem refReadT_any (t : Int) (ht : 1 ≤ t ∧ t ≤ 4) (n : Nat) (A : Option Addr) (c : Nat) (b : List Nat) (w : World) (hn : n ≤ 1000) (hr : Has w A (ints .u8 b)) (h256 : ∀ x ∈ b, x < 256) (hb : b.length ≤ 1000000) (hbc : b.length ≤ c) (hc : c ≤ 9223372036854775807) :
    Calls Tryz.prog 48 #[.int .i64 3, .int .i64 t, .int .i64 n, .slice A b.length c] w (ReadsL (readT t n b) w) := by
  have HP := Lib.hid (refReadDict_any t ht n A c b w hn hr h256 hb hbc hc)
  clear hr h256 hb hbc hc hn ht
  go_enter Tryz.func48, Tryz.ntmps48
  go_wp2_with fail
  refine HP.out.mono ?_
  rintro e w1 ⟨⟨hq, rfl⟩ | ⟨l, L, cl, hq, rfl, hl⟩, l1⟩
  · go_wp2_with fail
    go_ret2
    exact ⟨.inl ⟨hq, rfl⟩, l1⟩
  · have H := Lib.hid (show ReadsL (readT t n b) w (.returned (.tuple #[.slice L l.length cl, .bool true])) w1 from ⟨.inr ⟨l, L, cl, hq, rfl, hl⟩, l1⟩)
    clear hq hl l1
    go_wp2_with fail
    go_ret2
    exact H.out

theorem takeT_bad {t n : Int} {b : List Nat} (h : ¬ ((1 ≤ t ∧ t ≤ 4) ∧ 0 ≤ n ∧ n ≤ 1000)) : takeT t n b = none := by unfold takeT; rw [if_neg h]
theorem refDecT_c (t n : Int) (A : Option Addr) (c : Nat) (b : List Nat) (w : World) (hr : Has w A (ints .u8 b)) (h256 : ∀ x ∈ b, x < 256) (hb : b.length ≤ 1000000) (hbc : b.length ≤ c) (hc : c ≤ 9223372036854775807) :
    Calls Tryz.prog 26 #[.int .i64 3, .int .i64 t, .int .i64 n, .slice A b.length c] w (TakesV (takeT t n b) w) := by
  by_cases h : (1 ≤ t ∧ t ≤ 4) ∧ 0 ≤ n ∧ n ≤ 1000
  · obtain ⟨m, rfl⟩ : ∃ m : Nat, n = (m : Int) := ⟨n.toNat, by omega⟩
    refine refDec_gen 3 t m A c b w (putT t) _ (readT t m b) h.1 (by omega) hr h256 hb (fun w' l => refReadT_any t h.1 m A c b w' (by omega) (hr.later l) h256 hb hbc hc) (fun L cl l w' h1 h2 h3 => refEncT_any t L cl l w' h1 h2 h3) ?_ ?_ ?_ ?_
    · intro l hl
      obtain ⟨h1, h2, h3⟩ := readT_is h.1 h256 hl
      exact ⟨by omega, h2⟩
    · intro l pb hl hp
      obtain ⟨h1, h2, h3⟩ := readT_is h.1 h256 hl
      have := putT_le (by omega) hp
      exact ⟨putT_lt (by omega) h2 hp, by omega⟩
    · intro l hl hln hp
      obtain ⟨h1, h2, h3⟩ := readT_is h.1 h256 hl
      have := takeT_put h2 (by omega) hp
      rw [hln] at this
      exact this
    · intro hno
      cases hT : takeT t (m : Int) b with
      | none => rfl
      | some l =>
        obtain ⟨h1, h2, h3, _⟩ := takeT_is h256 hT
        exact absurd h1 (hno l (takeT_read hT).1 (by omega))
  · rw [takeT_bad h]; exact (refDec_no 3 t n A _ c w h).mono fun _ _ h => ⟨.inl ⟨rfl, (h.no rfl).1⟩, (h.no rfl).2⟩
theorem refDecT_any (t n : Int) (A : Option Addr) (c : Nat) (b : List Nat) (w : World) (hr : Has w A (ints .u8 b)) (h256 : ∀ x ∈ b, x < 256) (hb : b.length ≤ 1000000) (hbc : b.length ≤ c) (hc : c ≤ 9223372036854775807) :
    Calls Tryz.prog 26 #[.int .i64 3, .int .i64 t, .int .i64 n, .slice A b.length c] w (PutsV (takeT t n b) w) :=
  (refDecT_c t n A c b w hr h256 hb hbc hc).mono fun _ _ h => h.puts
end Go.Proofs.YtldalkhmbpkjpaaGreatDoor
