
import Derived.Test.YtldalkhmbpkjpaaGreatDoorRefL
import Derived.Test.YtldalkhmbpkjpaaGreatDoorPlainB
import Derived.Test.YtldalkhmbpkjpaaGreatDoorPlainMath
import Derived.Test.YtldalkhmbpkjpaaGreatDoorRefOneT
import Derived.Test.YtldalkhmbpkjpaaGreatDoorBase
/- The walk of the reference's Encode of plain. -/

namespace Go.Proofs.YtldalkhmbpkjpaaGreatDoor
open Go.RowKit
set_option linter.unusedVariables false

set_option maxRecDepth 100000 in
set_option maxHeartbeats 1000000 in
theorem refEncP_yes (t : Int) (A : Option Addr) (c : Nat) (l : List Val3) (w : World) (ht : 1 ≤ t ∧ t ≤ 4) (hl : l.length ≤ 2000) (hr : Has w A (fl l)) (ho : OkL t l) (h64 : All64 l) :
    Calls Tryz.prog 21 #[.int .i64 1, .int .i64 t, .slice A l.length c] w (OwnB (plainB l) w) := by
  have HA := Lib.hid (refRight_any t A c l w hl hr)
  have HT := Lib.hid ht
  have HOK := Lib.hid ho
  clear ht
  go_enter Tryz.func21, Tryz.ntmps21
  go_wp2_with fail
  refine HA.out.mono ?_
  intro e w1 h
  obtain ⟨rfl, L1⟩ := h.yes ⟨HT.out, HOK.out⟩
  clear h HA
  go_wp2_with fail
  go_loopw [8, 9] (fun bv i wr => ∃ (B : Option Addr) (n cb k : Nat), k ≤ l.length ∧ i = .int .i64 k ∧ bv = .slice B n cb ∧ n = (plainB (l.take k)).length ∧ wr.ownsRow w.heap.size 5 1 (.slice B n cb) n (ints .u8 (plainB (l.take k))) ∧ (B = none → cb = 0) ∧ Later w wr) (fun _ i _ => l.length - (intOf i).toNat)
  case atStart => exact ⟨none, 0, 0, 0, Nat.zero_le _, rfl, rfl, rfl, World.ownsRow_nil _ _ _ _, fun _ => rfl, L1⟩
  case round =>
    obtain ⟨B, n, cb, k, hk, rfl, rfl, hn, hown, hnil, lat⟩ := hrel
    by_cases hlt : k < l.length
    · obtain ⟨b, off, rfl, c0, c1, c2⟩ := (hr.later lat).val3 k hlt
      obtain ⟨hx, hm⟩ := ho _ (List.getElem_mem hlt)
      have hi := h64 _ (List.getElem_mem hlt)
      have HK := Lib.hid (show plainB (l.take (k + 1)) = plainB (l.take k) ++ oneB l[k].1 l[k].2.1 l[k].2.2 by
        rw [List.take_succ_eq_append_getElem hlt, plainB_append]; simp [plainB])
      have HLE := Lib.hid (plainB_le (t := t) (l := l.take k) fun x hx => ho x (List.mem_of_mem_take hx))
      have HO1 := Lib.hid (oneB_le hm)
      rw [hx] at c0 hm HK HO1
      generalize l[k].2.1 = i at c1 hm hi HK HO1
      generalize l[k].2.2 = s at c2 hm HK HO1
      have HM := Lib.hid hm
      have HI := Lib.hid hi
      have HR := Lib.hid hr
      have HLAT := Lib.hid lat
      have HN := Lib.hid hn
      have HOWN := Lib.hid hown
      have HNIL := Lib.hid hnil
      clear hm hr lat hx ho hi hn hown hnil h64 L1
      go_wp2_with (first
        | (go_at_call 35; refine (refOne_any t i s _ HT.out HM.out HI.out).mono ?_; rintro e w5 ⟨P, cp, rfl, r5, b5, m5, n5, l5⟩; have HR5 := Lib.hid r5; have HL5 := Lib.hid (HLAT.out.trans l5); have HW5 := Lib.hid (own_later HOWN.out l5); have HN5 := Lib.hid n5; clear r5 b5 m5 l5 n5)
        | (at_builtin; refine wpList_append_rd _ rfl (.tmp 48) (.tmp 53) 22 rfl w.heap.size 5 (.int .u8 0) 1 Tryz.underlying22 info_u8 rfl _ n (ints .u8 (plainB (l.take k))) rfl HW5.out _ P (oneB t i s).length cp (ints .u8 (oneB t i s)) rfl HR5.out ?_ HN5.out (ints_one _ _) ?_ ?_ ?_ ?_; (rw [ints_length]); (have h1 := HLE.out; have h2 := HO1.out; have h3 := HN.out; rw [List.length_take] at h1; unfold maxLen; omega); (have h1 := HLE.out; have h2 := HO1.out; have h3 := HN.out; rw [List.length_take] at h1; omega); (exact HL5.out.size); intro A2 c2 w6 o2 g2 b2 n2; have HO2 := Lib.hid o2; have HB6 := Lib.hid b2; have HN2 := Lib.hid n2; clear o2 g2 b2 n2))
      go_roundw
      case rel =>
        refine ⟨A2, _, c2, k + 1, hlt, by go_num, rfl, ?_, ?_, HN2.out, Later.of (HL5.out.below.trans HB6.out)⟩
        · rw [HK.out, List.length_append, HN.out]
        · rw [HK.out, ints_snoc]; exact HO2.out
      case measure => simp [intOf]; omega
    · obtain rfl : k = l.length := by omega
      rw [List.take_of_length_le (Nat.le_refl _)] at hn hown
      subst hn
      have HR := Lib.hid hown
      have H3 := Lib.hid hnil
      have H4 := Lib.hid lat
      clear hown hnil lat hr ho h64 L1
      go_wp2_with fail
      go_ret2
      exact ⟨_, _, rfl, HR.out, H3.out, H4.out⟩

theorem refEncP_any (t : Int) (A : Option Addr) (c : Nat) (l : List Val3) (w : World) (hl : l.length ≤ 2000) (hr : Has w A (fl l)) (h64 : All64 l) :
    Calls Tryz.prog 21 #[.int .i64 1, .int .i64 t, .slice A l.length c] w (PutsB (putP t l) w) := by
  unfold putP
  by_cases h : (1 ≤ t ∧ t ≤ 4) ∧ OkL t l
  · rw [if_pos h]; exact (refEncP_yes t A c l w h.1 hl hr h.2 h64).mono fun _ _ h => h.puts
  · rw [if_neg h]; exact refEnc_no 1 t A c l w hl hr h
theorem refEncP_own (t : Int) (A : Option Addr) (c : Nat) (l : List Val3) (pb : List Nat) (w : World) (hl : l.length ≤ 2000) (hr : Has w A (fl l)) (h64 : All64 l) (hp : putP t l = some pb) :
    Calls Tryz.prog 21 #[.int .i64 1, .int .i64 t, .slice A l.length c] w (OwnB pb w) := by
  obtain ⟨h1, h2, rfl⟩ := putP_is hp
  exact refEncP_yes t A c l w h1 hl hr h2 h64
end Go.Proofs.YtldalkhmbpkjpaaGreatDoor

/- The walk of the reference's read of plain. -/

namespace Go.Proofs.YtldalkhmbpkjpaaGreatDoor
open Go.RowKit
set_option linter.unusedVariables false

def RInv (o : Option (List Val3 × List Nat)) (t : Int) (n : Nat) (w : World) (lv bv : Value) (wr : World) : Prop :=
  ∃ (L : Option Addr) (cl : Nat) (done : List Val3) (B : Option Addr) (cb : Nat) (rest : List Nat), lv = .slice L done.length cl ∧ bv = .slice B rest.length cb ∧ done.length ≤ n ∧ Has w B (ints .u8 rest) ∧ (∀ x ∈ rest, x < 256) ∧ rest.length ≤ 1000000 ∧ rest.length ≤ cb ∧ cb ≤ 9223372036854775807 ∧ wr.ownsRow w.heap.size 26 3 (.slice L done.length cl) done.length (fl done) ∧ o = (readQ t (n - done.length) rest).map (fun p => (done ++ p.1, p.2)) ∧ Later w wr
theorem RInv.mk {o : Option (List Val3 × List Nat)} {t : Int} {n : Nat} {w wr : World} (L : Option Addr) (cl m : Nat) (done : List Val3) (B : Option Addr) (cb mb : Nat) (rest : List Nat) (hm : m = done.length) (hmb : mb = rest.length) (h1 : done.length ≤ n) (h2 : Has w B (ints .u8 rest)) (h3 : ∀ x ∈ rest, x < 256) (h4 : rest.length ≤ 1000000) (h5 : rest.length ≤ cb) (h6 : cb ≤ 9223372036854775807) (h7 : wr.ownsRow w.heap.size 26 3 (.slice L m cl) m (fl done)) (h8 : o = (readQ t (n - done.length) rest).map (fun p => (done ++ p.1, p.2))) (h9 : Later w wr) : RInv o t n w (.slice L m cl) (.slice B mb cb) wr := by
  subst hm hmb
  exact ⟨L, cl, done, B, cb, rest, rfl, rfl, h1, h2, h3, h4, h5, h6, h7, h8, h9⟩
/-- What read tells, the room too. -/
def ReadsQP (o : Option (List Val3 × List Nat)) (w : World) (e : Ending) (w' : World) : Prop :=
  ((o = none ∧ e = .returned (.tuple #[.slice none 0 0, .bool false])) ∨
    ∃ l r L cl, o = some (l, r) ∧ e = .returned (.tuple #[.slice L l.length cl, .bool true]) ∧ Has w' L (fl l) ∧ l.length ≤ cl ∧ cl ≤ 9223372036854775807) ∧ Later w w'
set_option maxRecDepth 100000 in
set_option maxHeartbeats 4000000 in
theorem refReadP_any (t : Int) (n : Nat) (A : Option Addr) (c : Nat) (b : List Nat) (w : World) (ht : 1 ≤ t ∧ t ≤ 4) (hn : n ≤ 1000) (hr : Has w A (ints .u8 b)) (h256 : ∀ x ∈ b, x < 256) (hb : b.length ≤ 1000000) (hbc : b.length ≤ c) (hc : c ≤ 9223372036854775807) :
    Calls Tryz.prog 48 #[.int .i64 1, .int .i64 t, .int .i64 n, .slice A b.length c] w (ReadsQP (readQ t n b) w) := by
  obtain ⟨o, ho⟩ : ∃ o, o = readQ t n b := ⟨_, rfl⟩
  rw [← ho]
  have HT := Lib.hid ht
  have REL := Lib.hid (show o = (readQ t (n - 0) b).map (fun p => ([] ++ p.1, p.2)) by rw [ho, Nat.sub_zero]; cases readQ t n b <;> rfl)
  clear ht ho
  go_enter Tryz.func48, Tryz.ntmps48
  go_wp2_with fail
  go_loopw [10, 3] (fun lv bv wr => RInv o t n w lv bv wr) (fun lv _ _ => n - lenOf lv)
  case atStart => exact RInv.mk none 0 0 [] A c _ b rfl rfl (Nat.zero_le _) hr h256 hb hbc hc (ownG_nil _ _ _ _) REL.out (Later.refl _)
  case round =>
    obtain ⟨L, cl, done, B, cb, rest, rfl, rfl, hk, hrest, hr256, hrl, hrc, hcb, hown, hrel, lat⟩ := hrel
    clear hr h256 hb hbc hc REL
    obtain ⟨k, hkk⟩ : ∃ k, k = done.length := ⟨_, rfl⟩
    rw [← hkk] at hk hown hrel ⊢
    by_cases hlt : k < n
    · have HTK := Lib.hid (takeOne_any t HT.out B cb rest wr (hrest.later lat) hr256 hrl hrc hcb)
      obtain ⟨j, hj⟩ : ∃ j, n - k = j + 1 := ⟨n - k - 1, by omega⟩
      have hj2 : n - (k + 1) = j := by omega
      rw [hj] at hrel
      have HREL := Lib.hid hrel
      have HOWN := Lib.hid hown
      have HREST := Lib.hid hrest
      have HLAT := Lib.hid lat
      have HDL := Lib.hid hkk
      have H256 := Lib.hid hr256
      have HJ := Lib.hid hj2
      clear hrel hown hrest lat hkk hr256 hj hj2
      go_wp2_with fail
      refine HTK.out.mono ?_
      rintro e w2 ⟨⟨hT, t', i', n', s', rfl⟩ | ⟨i, s, m, hT, rfl⟩, l2⟩
      · have HO := Lib.hid (show o = none by rw [HREL.out, readQ_none hT]; rfl)
        have HL2 := Lib.hid (HLAT.out.trans l2)
        clear hT l2 HREL HTK
        go_wp2_with fail
        go_ret2
        exact ⟨.inl ⟨HO.out, rfl⟩, HL2.out.alloc _⟩
      · have HO := Lib.hid (show o = (readQ t (n - (k + 1)) (rest.drop m)).map (fun p => ((done ++ [(t, i, bstr s)]) ++ p.1, p.2)) by rw [HREL.out, readQ_some hT, readQ_step, HJ.out])
        obtain ⟨_, hm2, hi64, hs256⟩ := readC_lt H256.out (takeC_read hT).1
        obtain ⟨S, hS⟩ : ∃ S, S = bstr s := ⟨_, rfl⟩
        rw [← hS] at HO ⊢
        have OWN := Lib.hid (own_later HOWN.out l2)
        have HL2 := Lib.hid (HLAT.out.trans l2)
        have HAS := Lib.hid ((Blk.new (w2.alloc (.cells #[.int .i64 t, .int .i64 i, .string S] 26)) (fl [(t, i, S)]).toArray 26 (w2.heap.size + 1) (by simp)).has)
        have HL3 := Lib.hid ((HL2.out.alloc (.cells #[.int .i64 t, .int .i64 i, .string S] 26)).alloc (.cells (fl [(t, i, S)]).toArray 26))
        have hlen : (rest.drop m).length = rest.length - m := List.length_drop
        have OK := Lib.hid (show (fl (done ++ [(t, i, S)])) = fl done ++ fl [(t, i, S)] from fl_append _ _)
        have DL := Lib.hid (show (done ++ [(t, i, S)]).length = k + 1 by rw [List.length_append, ← HDL.out]; rfl)
        have D256 := Lib.hid (fun x (hx : x ∈ rest.drop m) => H256.out x (List.mem_of_mem_drop hx))
        clear hT l2 HREL HTK hS hi64 hs256 HOWN HLAT
        by_cases hcm : cb = m
        · subst hcm
          have hr0 : rest.drop cb = [] := List.drop_of_length_le hrc
          have hl0 : rest.length = cb := by omega
          have HFIN := Lib.hid (fun (A2 : Option Addr) (c2 : Nat) (w6 : World) (mb : Nat) (B' : Option Addr) (cb' : Nat) (hB : mb = 0) (hc' : cb' = 0) (o2 : w6.ownsRow w.heap.size 26 3 (.slice A2 (k + 1) c2) (k + 1) (fl done ++ fl [(t, i, S)])) (L6 : Later w w6) => (by
            subst hB hc'
            exact RInv.mk A2 c2 (k + 1) (done ++ [(t, i, S)]) B' 0 0 (rest.drop cb) DL.out.symm (by rw [hr0]; rfl) (by rw [DL.out]; exact hlt) (by rw [hr0]; exact Has.nil_) D256.out (by rw [hr0]; exact Nat.zero_le _) (by rw [hr0]; exact Nat.zero_le _) (by decide) (by rw [OK.out]; exact o2) (by rw [DL.out]; exact HO.out) L6 : RInv o t n w (.slice A2 (k + 1) c2) (.slice B' mb cb') w6))
          clear hr0
          go_wp2_with fail
          first
            | go_region_law (first
                | (refine step_append_g (by rfl) (.tmp 41) (.tmp 43) 23 (by rfl) w.heap.size 26 (vagg 0 0 ⟨#[]⟩) 3 32 Tryz.underlying23 info_v rfl (by decide) _ k (fl done) (by rfl) ((OWN.out.alloc _).alloc _).drew _ _ 1 1 (fl [(t, i, S)]) (by rfl) HAS.out (by rfl) (fl_one _) (by unfold maxLen; omega) (by omega) HL3.out.drew.size ?_; intro A2 c2 w6 o2 b2 n2; have HO2 := Lib.hid o2; have LL := Lib.hid (Later.of (Below.trans HL3.out.drew.below b2)); clear o2 b2 n2))
            | fail "no walk"
          all_goals try simp [Act.put]
          all_goals go_wp2_with fail
          all_goals go_roundw
          all_goals first
            | exact HFIN.out _ _ _ _ _ _ (by first | rfl | omega) (by first | rfl | omega) HO2.out LL.out
            | (show n - (k + 1) < n - k; omega)
            | (simp [lenOf, Act.put]; omega)
        · rcases B with _ | ⟨bb, off, inn⟩
          · exfalso
            rcases HREST.out with h | ⟨_, _, h, _⟩
            · have : rest.length = 0 := by have := congrArg List.length h; rw [ints_length] at this; exact this
              omega
            · cases h
          · obtain rfl : inn = none := by
              rcases HREST.out with h | ⟨_, _, h, _⟩
              · have : rest.length = 0 := by have := congrArg List.length h; rw [ints_length] at this; exact this
                omega
              · injection h with h; injection h
            have HD := Lib.hid (show Has w (some ⟨bb, off + m, none⟩) (ints .u8 (rest.drop m)) from by have h := HREST.out.drop m; rw [show (ints .u8 rest).drop m = ints .u8 (rest.drop m) by simp [ints, List.map_drop]] at h; exact h)
            have HFIN := Lib.hid (fun (A2 : Option Addr) (c2 : Nat) (w6 : World) (mb : Nat) (cb' : Nat) (hB : mb = rest.length - m) (hc' : cb' = cb - m) (o2 : w6.ownsRow w.heap.size 26 3 (.slice A2 (k + 1) c2) (k + 1) (fl done ++ fl [(t, i, S)])) (L6 : Later w w6) => (by
              subst hB hc'
              exact RInv.mk A2 c2 (k + 1) (done ++ [(t, i, S)]) _ (cb - m) (rest.length - m) (rest.drop m) DL.out.symm hlen.symm (by rw [DL.out]; exact hlt) HD.out D256.out (by omega) (by rw [hlen]; omega) (by omega) (by rw [OK.out]; exact o2) (by rw [DL.out]; exact HO.out) L6 : RInv o t n w (.slice A2 (k + 1) c2) (.slice (some ⟨bb, off + m, none⟩) mb cb') w6))
            go_wp2_with fail
            first
              | go_region_law (first
                  | (refine step_append_g (by rfl) (.tmp 41) (.tmp 43) 23 (by rfl) w.heap.size 26 (vagg 0 0 ⟨#[]⟩) 3 32 Tryz.underlying23 info_v rfl (by decide) _ k (fl done) (by rfl) ((OWN.out.alloc _).alloc _).drew _ _ 1 1 (fl [(t, i, S)]) (by rfl) HAS.out (by rfl) (fl_one _) (by unfold maxLen; omega) (by omega) HL3.out.drew.size ?_; intro A2 c2 w6 o2 b2 n2; have HO2 := Lib.hid o2; have LL := Lib.hid (Later.of (Below.trans HL3.out.drew.below b2)); clear o2 b2 n2))
              | fail "no walk"
            all_goals try simp [Act.put]
            all_goals go_wp2_with fail
            all_goals go_roundw
            all_goals first
              | exact HFIN.out _ _ _ _ _ (by first | rfl | omega) (by first | rfl | omega) HO2.out LL.out
              | (show n - (k + 1) < n - k; omega)
              | (simp [lenOf, Act.put]; omega)
    · obtain rfl : k = n := by omega
      rw [Nat.sub_self] at hrel
      have HO := Lib.hid (show o = some (done, rest) by rw [hrel]; show some (done ++ [], rest) = _; rw [List.append_nil])
      have HLAT := Lib.hid lat
      have HHAS := Lib.hid (Has.ownG hown)
      have HCP := Lib.hid (And.intro (ownG_cap hown) (ownG_capmax hown))
      have HDL := Lib.hid hkk
      clear hrel lat hown hkk hrest hr256
      go_wp2_with fail
      go_ret2
      refine ⟨.inr ⟨done, rest, L, cl, HO.out, ?_, HHAS.out, by have := HDL.out; have := HCP.out; omega⟩, HLAT.out⟩
      rw [← HDL.out]
      rfl

/-- The names under which Decode's walk asks for the mathematics of plain. -/
abbrev readPQ := readQ
theorem readPQ_is {t : Int} (ht : 1 ≤ t ∧ t ≤ 4) (n : Nat) (b : List Nat) (h256 : ∀ x ∈ b, x < 256) (l : List Val3) (r : List Nat) (h : readPQ t n b = some (l, r)) : OkL t l ∧ All64 l ∧ l.length = n ∧ plainB l ++ r = b := readQ_is ht n b h256 l r h
theorem takeP_readQ {t : Int} {n : Nat} {b : List Nat} {l : List Val3} (ht : 1 ≤ t ∧ t ≤ 4) (hn : n ≤ 1000) (h : readPQ t n b = some (l, [])) : takeP t n b = some l := by
  unfold takeP
  rw [if_pos ⟨ht, by omega, by omega⟩, show ((n : Nat) : Int).toNat = n from rfl, readP_readQ, show readQ t n b = some (l, []) from h]
theorem takeP_notQ {t : Int} {n : Nat} {b : List Nat} (ht : 1 ≤ t ∧ t ≤ 4) (hn : n ≤ 1000) (h : ∀ l, readPQ t n b ≠ some (l, [])) : takeP t n b = none := by
  unfold takeP
  rw [if_pos ⟨ht, by omega, by omega⟩, show ((n : Nat) : Int).toNat = n from rfl, readP_readQ]
  cases hq : readQ t n b with
  | none => rfl
  | some q =>
    obtain ⟨l, r⟩ := q
    cases r with
    | nil => exact absurd hq (h l)
    | cons x r => rfl
theorem takeP_bad {t n : Int} {b : List Nat} (h : ¬ ((1 ≤ t ∧ t ≤ 4) ∧ 0 ≤ n ∧ n ≤ 1000)) : takeP t n b = none := by unfold takeP; rw [if_neg h]
theorem takeP_len {t n : Int} {b : List Nat} {l : List Val3} (h : takeP t n b = some l) : l.length ≤ 1000 := by
  unfold takeP at h
  split at h
  · rename_i hc
    have key : ∀ (m : Nat) (b : List Nat) (l : List Val3), readP t m b = some l → l.length = m := by
      intro m
      induction m with
      | zero =>
        intro b l h
        cases b with
        | nil => cases h; rfl
        | cons x r => cases h
      | succ m ih =>
        intro b l h
        unfold readP at h
        split at h
        · rename_i i s k hT
          cases hr : readP t m (b.drop k) with
          | none => rw [hr] at h; cases h
          | some q => rw [hr] at h; cases h; rw [List.length_cons, ih _ _ hr]
        · cases h
    have := key _ _ _ h
    omega
  · cases h
theorem catP {t : Int} {l : List Val3} {pb r b : List Nat} (hp : putP t l = some pb) (hc : plainB l ++ r = b) : (r = [] ∧ pb = b) ∨ (r ≠ [] ∧ pb ≠ b) := by
  obtain ⟨_, _, rfl⟩ := putP_is hp
  subst hc
  by_cases h : r = []
  · exact .inl ⟨h, by rw [h, List.append_nil]⟩
  · refine .inr ⟨h, fun e => h ?_⟩
    have := congrArg List.length e
    rw [List.length_append] at this
    exact List.eq_nil_of_length_eq_zero (by omega)
end Go.Proofs.YtldalkhmbpkjpaaGreatDoor

/- The walk of the reference's Decode, encoding 1. -/

namespace Go.Proofs.YtldalkhmbpkjpaaGreatDoor
open Go.RowKit
set_option linter.unusedVariables false

set_option maxRecDepth 100000 in
set_option maxHeartbeats 1000000 in
theorem refDecP_yes (t : Int) (n : Nat) (A : Option Addr) (c : Nat) (b : List Nat) (w : World) (ht : 1 ≤ t ∧ t ≤ 4) (hn : n ≤ 1000) (hr : Has w A (ints .u8 b)) (h256 : ∀ x ∈ b, x < 256) (hb : b.length ≤ 1000000) (hbc : b.length ≤ c) (hc : c ≤ 9223372036854775807) :
    Calls Tryz.prog 26 #[.int .i64 1, .int .i64 t, .int .i64 n, .slice A b.length c] w (TakesV (takeP t n b) w) := by
  have HO1 := Lib.hid (fun l (h : readPQ t n b = some (l, [])) => takeP_readQ (n := n) ht hn h)
  have HO2 := Lib.hid (fun (h : ∀ l, readPQ t n b ≠ some (l, [])) => takeP_notQ (n := n) ht hn h)
  have HQ := Lib.hid (readPQ_is ht n b h256)
  obtain ⟨o, ho⟩ : ∃ o, o = takeP t (n : Int) b := ⟨_, rfl⟩
  rw [← ho] at HO1 HO2 ⊢
  have HT := Lib.hid ht
  have HIT := Lib.hid (fun w => isType_any t w)
  have HRD := Lib.hid (fun w' (l : Later w w') => refReadP_any t n A c b w' ht hn (hr.later l) h256 hb hbc hc)
  have HR := Lib.hid hr
  have HB := Lib.hid h256
  clear ho ht hr h256
  have hn0 : ¬ (n : Int) < 0 := by omega
  have hn1 : ¬ (1000 : Int) < (n : Int) := by omega
  go_enter Tryz.func26, Tryz.ntmps26
  go_wp2_with fail
  refine (HIT.out w).mono ?_
  intro e w1 h
  obtain ⟨rfl, L1⟩ := TellsP.yes HT.out (SaysP.tells h)
  clear h
  go_wp2_with fail
  refine (HRD.out w1 L1).mono ?_
  rintro e w2 ⟨⟨hq, rfl⟩ | ⟨l, r, L, cl, hq, rfl, hl, hcap⟩, l2⟩
  · have HN := Lib.hid (HO2.out fun l h => by have h := hq.symm.trans h; cases h)
    have L2 := L1.trans l2
    have HE := Lib.hid (refEncP_any t none 0 [] w2 (by simp) Has.nil_ (fun x hx => by cases hx))
    clear hq L1 l2 HO1 HO2 HQ
    go_wp2_with fail
    refine HE.out.mono ?_
    rintro e w3 ⟨⟨_, rfl⟩ | ⟨l', C, cc, _, rfl, _, _, _, _⟩, l3⟩
    · go_wp2_with fail
      go_ret2
      exact ⟨.inl ⟨HN.out, rfl⟩, L2.trans l3⟩
    · go_wp2_with fail
      go_ret2
      exact ⟨.inl ⟨HN.out, rfl⟩, L2.trans l3⟩
  · have L2 := L1.trans l2
    obtain ⟨hok, h64, hlen, hcat⟩ := HQ.out l r hq
    have hd : ((l.length : Int) != (n : Int)) = false := by simp [hlen]
    have HE := Lib.hid (refEncP_any t L cl l w2 (by omega) hl h64)
    obtain ⟨pb, hpb⟩ := putP_some HT.out hok
    have HPB := Lib.hid hpb
    have HPL := Lib.hid (putP_lt hok h64 hpb)
    have hcase := catP hpb hcat
    have HL := Lib.hid hl
    have HCP := Lib.hid hcap
    have HLEN := Lib.hid hlen
    clear hcap
    clear hok h64 hlen hpb L1 l2 hcat hl
    go_wp2_with fail
    refine HE.out.mono ?_
    intro e w3 h
    obtain ⟨C, cc, rfl, r3, _, _, _, l3⟩ := h.yes HPB.out
    have L3 := L2.trans l3
    have cv1 := conv_str C pb.length cc pb rfl w3 _ r3
    have cv2 := conv_str A b.length c b rfl w3 _ (HR.out.later L3)
    have HL3 := Lib.hid (HL.out.later l3)
    clear h HE l3 L2 r3
    rcases hcase with ⟨hr0, heq⟩ | ⟨hr0, hne⟩
    · subst hr0
      have HS := Lib.hid (HO1.out l hq)
      subst heq
      clear hq HO1 HO2 HQ
      go_wp2_with fail
      go_ret2
      exact ⟨.inr ⟨l, L, cl, HS.out, rfl, HL3.out, HCP.out⟩, L3⟩
    · have HS := Lib.hid (HO2.out fun l' h => by have h := hq.symm.trans h; cases h; exact hr0 rfl)
      have hbn := bstr_ne HPL.out HB.out hne
      clear hq HO1 HO2 HQ hne
      go_wp2_with fail
      go_ret2
      exact ⟨.inl ⟨HS.out, rfl⟩, L3⟩

theorem refDecP_c (t n : Int) (A : Option Addr) (c : Nat) (b : List Nat) (w : World) (hr : Has w A (ints .u8 b)) (h256 : ∀ x ∈ b, x < 256) (hb : b.length ≤ 1000000) (hbc : b.length ≤ c) (hc : c ≤ 9223372036854775807) :
    Calls Tryz.prog 26 #[.int .i64 1, .int .i64 t, .int .i64 n, .slice A b.length c] w (TakesV (takeP t n b) w) := by
  by_cases h : (1 ≤ t ∧ t ≤ 4) ∧ 0 ≤ n ∧ n ≤ 1000
  · obtain ⟨m, rfl⟩ : ∃ m : Nat, n = (m : Int) := ⟨n.toNat, by omega⟩
    exact refDecP_yes t m A c b w h.1 (by omega) hr h256 hb hbc hc
  · rw [takeP_bad h]; exact (refDec_no 1 t n A _ c w h).mono fun _ _ h => ⟨.inl ⟨rfl, (h.no rfl).1⟩, (h.no rfl).2⟩
theorem refDecP_any (t n : Int) (A : Option Addr) (c : Nat) (b : List Nat) (w : World) (hr : Has w A (ints .u8 b)) (h256 : ∀ x ∈ b, x < 256) (hb : b.length ≤ 1000000) (hbc : b.length ≤ c) (hc : c ≤ 9223372036854775807) :
    Calls Tryz.prog 26 #[.int .i64 1, .int .i64 t, .int .i64 n, .slice A b.length c] w (PutsV (takeP t n b) w) :=
  (refDecP_c t n A c b w hr h256 hb hbc hc).mono fun _ _ h => h.puts
end Go.Proofs.YtldalkhmbpkjpaaGreatDoor
