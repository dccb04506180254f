
import Derived.Test.YtldalkhmbpkjpaaGreatDoorRefL
import Derived.Test.YtldalkhmbpkjpaaGreatDoorBitsJ
import Derived.BigQuiet
import Derived.Test.YtldalkhmbpkjpaaGreatDoorPlainMath
import Derived.Test.YtldalkhmbpkjpaaGreatDoorBase
/- The walk of the reference's Decode, of any encoding: what read gives, put again, and compared. -/

namespace Go.Proofs.YtldalkhmbpkjpaaGreatDoor
open Go.RowKit
set_option linter.unusedVariables false

/-- What read tells: a list, as far as it goes, or a no. -/
def ReadsL (o : Option (List Val3)) (w : World) (e : Ending) (w' : World) : Prop :=
  ((o = none ∧ e = .returned (.tuple #[.slice none 0 0, .bool false])) ∨
    ∃ l L cl, o = some l ∧ e = .returned (.tuple #[.slice L l.length cl, .bool true]) ∧ Has w' L (fl l) ∧ l.length ≤ cl ∧ cl ≤ 9223372036854775807) ∧ Later w w'

set_option maxRecDepth 100000 in
set_option maxHeartbeats 1000000 in
theorem refDec_gen (en t : Int) (n : Nat) (A : Option Addr) (c : Nat) (b : List Nat) (w : World) (put : List Val3 → Option (List Nat)) (o q : Option (List Val3)) (ht : 1 ≤ t ∧ t ≤ 4) (hn : n ≤ 1000) (hr : Has w A (ints .u8 b)) (h256 : ∀ x ∈ b, x < 256) (hb : b.length ≤ 1000000)
    (hrd : ∀ w', Later w w' → Calls Tryz.prog 48 #[.int .i64 en, .int .i64 t, .int .i64 n, .slice A b.length c] w' (ReadsL q w'))
    (he : ∀ (L : Option Addr) (cl : Nat) (l : List Val3) (w' : World), l.length ≤ 1000 → Has w' L (fl l) → All64 l → Calls Tryz.prog 21 #[.int .i64 en, .int .i64 t, .slice L l.length cl] w' (PutsB (put l) w'))
    (hq1 : ∀ l, q = some l → l.length ≤ 1000 ∧ All64 l)
    (hpl : ∀ l pb, q = some l → put l = some pb → (∀ x ∈ pb, x < 256) ∧ pb.length ≤ 1000000)
    (hy : ∀ l, q = some l → l.length = n → put l = some b → o = some l)
    (hno : (∀ l, q = some l → l.length = n → put l ≠ some b) → o = none) :
    Calls Tryz.prog 26 #[.int .i64 en, .int .i64 t, .int .i64 n, .slice A b.length c] w (TakesV o w) := by
  have HT := Lib.hid ht
  have HIT := Lib.hid (fun w => isType_any t w)
  have HRD := Lib.hid hrd
  have HENC := Lib.hid he
  have HQ1 := Lib.hid hq1
  have HPL := Lib.hid hpl
  have HY := Lib.hid hy
  have HNO := Lib.hid hno
  have HR := Lib.hid hr
  have HB := Lib.hid h256
  clear ht hr h256 hrd he hq1 hpl hy hno
  have hn0 : ¬ (n : Int) < 0 := by omega
  have hn1 : ¬ (1000 : Int) < (n : Int) := by omega
  go_enter Tryz.func26, Tryz.ntmps26
  go_wp2_with fail
  refine (HIT.out w).mono ?_
  intro e w1 h
  obtain ⟨rfl, L1⟩ := TellsP.yes HT.out (SaysP.tells h)
  clear h
  go_wp2_with fail
  refine (HRD.out w1 L1).mono ?_
  rintro e w2 ⟨⟨hq, rfl⟩ | ⟨l, L, cl, hq, rfl, hl, hcap⟩, l2⟩
  · have HN := Lib.hid (HNO.out fun l h => by have h := hq.symm.trans h; cases h)
    have L2 := L1.trans l2
    have HE := Lib.hid (HENC.out none 0 [] w2 (by simp) Has.nil_ (fun x hx => by cases hx))
    clear hq L1 l2 HNO HY HQ1 HPL HENC HRD
    go_wp2_with fail
    refine HE.out.mono ?_
    rintro e w3 ⟨⟨_, rfl⟩ | ⟨l', C, cc, _, rfl, _, _, _, _⟩, l3⟩
    · go_wp2_with fail
      go_ret2
      exact ⟨.inl ⟨HN.out, rfl⟩, L2.trans l3⟩
    · go_wp2_with fail
      go_ret2
      exact ⟨.inl ⟨HN.out, rfl⟩, L2.trans l3⟩
  · have L2 := L1.trans l2
    obtain ⟨hl1000, h64⟩ := HQ1.out l hq
    have HE := Lib.hid (HENC.out L cl l w2 (by omega) hl h64)
    have HQ := Lib.hid hq
    have HL := Lib.hid hl
    have HCP := Lib.hid hcap
    clear hq l2 L1 h64 HENC HRD hl hcap
    cases hput : put l with
    | none =>
      have HPUT := Lib.hid hput
      have HN := Lib.hid (HNO.out fun l' h _ hp => by
        have h := HQ.out.symm.trans h; cases h; rw [hput] at hp; cases hp)
      clear hput HNO HY
      go_wp2_with fail
      refine HE.out.mono ?_
      intro e w3 h
      obtain ⟨rfl, l3⟩ := h.no HPUT.out
      clear h
      go_wp2_with fail
      go_ret2
      exact ⟨.inl ⟨HN.out, rfl⟩, L2.trans l3⟩
    | some pb =>
      have HPUT := Lib.hid hput
      have HLT := Lib.hid (HPL.out l pb HQ.out hput)
      clear hput HPL
      go_wp2_with fail
      refine HE.out.mono ?_
      intro e w3 h
      obtain ⟨C, cc, rfl, r3, _, _, _, l3⟩ := h.yes HPUT.out
      have L3 := L2.trans l3
      have cv1 := conv_str C pb.length cc pb rfl w3 _ r3
      have cv2 := conv_str A b.length c b rfl w3 _ (HR.out.later L3)
      have HL3 := Lib.hid (HL.out.later l3)
      clear h HE l3 L2 r3
      by_cases hlen : l.length = n
      · have HLEN := Lib.hid hlen
        have hd : ((l.length : Int) != (n : Int)) = false := by simp [hlen]
        clear hlen
        by_cases heq : pb = b
        · have HS := Lib.hid (HY.out l HQ.out HLEN.out (by rw [HPUT.out, heq]))
          subst heq
          clear HY HNO
          go_wp2_with fail
          go_ret2
          exact ⟨.inr ⟨l, L, cl, HS.out, rfl, HL3.out, HCP.out⟩, L3⟩
        · have HS := Lib.hid (HNO.out fun l' h _ hp => by
            have h := HQ.out.symm.trans h; cases h; rw [HPUT.out] at hp; cases hp; exact heq rfl)
          have hbn := bstr_ne HLT.out.1 HB.out heq
          clear HY HNO heq
          go_wp2_with fail
          go_ret2
          exact ⟨.inl ⟨HS.out, rfl⟩, L3⟩
      · have HS := Lib.hid (HNO.out fun l' h hln _ => by
          have h := HQ.out.symm.trans h; cases h; exact hlen hln)
        have hd : ((l.length : Int) != (n : Int)) = true := by simp; omega
        clear HY HNO hlen
        go_wp2_with fail
        go_ret2
        exact ⟨.inl ⟨HS.out, rfl⟩, L3⟩
end Go.Proofs.YtldalkhmbpkjpaaGreatDoor

/- The walks of the reference's number, pack, and of Encode of few bits. -/

namespace Go.Proofs.YtldalkhmbpkjpaaGreatDoor
open Go.RowKit
set_option linter.unusedVariables false

theorem refNumber_yes (t : Int) (w : World) (h : KT t) : Calls Tryz.prog 34 #[.int .i64 t] w fun e w' => e = .returned (.bool true) ∧ w = w' := by
  rcases h with rfl | rfl | rfl
  all_goals go_enter Tryz.func34, Tryz.ntmps34
  all_goals go_wp2_with fail
  all_goals go_ret
  all_goals exact ⟨rfl, rfl⟩
theorem refNumber_no (t : Int) (w : World) (h : ¬ KT t) : Calls Tryz.prog 34 #[.int .i64 t] w fun e w' => e = .returned (.bool false) ∧ w = w' := by
  have d1 : (t == 1) = false := by rw [beq_eq_false_iff_ne]; exact fun e => h (.inl e)
  have d2 : (t == 2) = false := by rw [beq_eq_false_iff_ne]; exact fun e => h (.inr (.inl e))
  have d3 : (t == 3) = false := by rw [beq_eq_false_iff_ne]; exact fun e => h (.inr (.inr e))
  clear h
  go_enter Tryz.func34, Tryz.ntmps34
  go_wp2_with fail
  go_ret
  exact ⟨rfl, rfl⟩

/-- Where pack's first loop stands. -/
def RPInv (x0 : Int) (l : List Val3) (w : World) (pv iv : Value) (wr : World) : Prop :=
  ∃ (k : Nat) (p : Int), k ≤ l.length ∧ iv = .int .i64 k ∧ pv = .int .i64 p ∧ p = lowF x0 (l.take k) ∧ Later w wr
theorem RPInv.mk {x0 : Int} {l : List Val3} {w wr : World} (k : Nat) (p i : Int) (hk : k ≤ l.length) (hi : i = (k : Int)) (hp : p = lowF x0 (l.take k)) (lat : Later w wr) : RPInv x0 l w (.int .i64 p) (.int .i64 i) wr := by
  subst hi; exact ⟨k, p, hk, rfl, rfl, hp, lat⟩
/-- Where its second loop stands. -/
def RUInv (U : List Nat) (w : World) (uv iv : Value) (wr : World) : Prop :=
  ∃ (B : Option Addr) (cb j : Nat), j ≤ U.length ∧ iv = .int .i64 j ∧ uv = .slice B j cb ∧ wr.ownsRow w.heap.size 63 1 (.slice B j cb) j (ints .u64 (U.take j)) ∧ Later w wr
theorem RUInv.mk {U : List Nat} {w wr : World} (B : Option Addr) (m cb j : Nat) (i : Int) (hm : m = j) (hj : j ≤ U.length) (hi : i = (j : Int)) (ho : wr.ownsRow w.heap.size 63 1 (.slice B m cb) m (ints .u64 (U.take j))) (lat : Later w wr) : RUInv U w (.slice B m cb) (.int .i64 i) wr := by
  subst hm hi; exact ⟨B, cb, m, hj, rfl, rfl, ho, lat⟩

set_option maxRecDepth 100000 in
set_option maxHeartbeats 2000000 in
theorem refPack_yes (A : Option Addr) (c : Nat) (l : List Val3) (w : World) (h0 : 0 < l.length) (hl : l.length ≤ 1000) (hr : Has w A (fl l)) (h64 : All64 l) :
    Calls Tryz.prog 38 #[.slice A l.length c] w (Makes (packB l) w) := by
  obtain ⟨b, off, rfl, c0, c1, c2⟩ := hr.val3 0 h0
  obtain ⟨x0, hx0⟩ : ∃ x0, x0 = l[0].2.1 := ⟨_, rfl⟩
  have HLOW := Lib.hid (show lowI l = lowF x0 l by
    match l, h0, hx0 with
    | x :: r, _, hx0 => rw [hx0]; rfl)
  rw [← hx0] at c1
  have c1' : w.cell? ⟨b, off + 1, none⟩ = some (.int .i64 x0) := by simpa using c1
  obtain ⟨n, hn⟩ : ∃ n, n = l.length := ⟨_, rfl⟩
  obtain ⟨m, hm⟩ : ∃ m, m = lowI l := ⟨_, rfl⟩
  obtain ⟨U, hU⟩ : ∃ U, U = aboveL m l := ⟨_, rfl⟩
  obtain ⟨wd, hwd⟩ : ∃ wd, wd = widL U := ⟨_, rfl⟩
  obtain ⟨Q, hQ⟩ : ∃ Q, Q = putBits U wd := ⟨_, rfl⟩
  have HBYTES := Lib.hid (show packB l = (putNum (zig m) ++ [wd]) ++ Q by
    unfold packB
    rw [if_neg (by intro e; rw [e] at h0; cases h0), List.append_assoc, hQ, hwd, hU, hm]; rfl)
  have HMI := Lib.hid (show In64 m by rw [hm]; exact lowI_in h64)
  have HMLE := Lib.hid (show ∀ v ∈ l, m ≤ v.2.1 by rw [hm]; exact lowI_le)
  have HU64 := Lib.hid (show ∀ x ∈ U, x < 18446744073709551616 by rw [hU, hm]; exact aboveL_lt (lowI_in h64) h64)
  have HUL := Lib.hid (show U.length = n by rw [hU, hn]; exact aboveL_len m l)
  have HUG := Lib.hid (fun (j : Nat) (hj : j < l.length) (hj' : j < U.length) => (show U[j] = (l[j].2.1 - m).toNat by subst hU; simp [aboveL]))
  have HWD := Lib.hid (show wd ≤ 64 by rw [hwd]; exact widL_le64 U HU64.out)
  have HWE := Lib.hid hwd
  have HQL := Lib.hid (show Q.length ≤ 8001 by
    have h1 := HWD.out
    have h2 := HUL.out
    have h3 : U.length * wd ≤ 1000 * 64 := Nat.mul_le_mul (by omega) h1
    rw [hQ, putBits_len]; omega)
  have H64 := Lib.hid h64
  have HNL := Lib.hid hn
  have HRL := Lib.hid hr
  have HMM := Lib.hid hm
  have HQQ := Lib.hid hQ
  have hn0 : 0 < n := by omega
  have hn9 : n ≤ 1000 := by omega
  have d0 : ((n : Int) == 0) = false := by rw [beq_eq_false_iff_ne]; omega
  have i0 : (0 : Int) < (n : Int) := by omega
  rw [← hn]
  clear hr h64 h0 hl hn hm hU hwd hQ c0 c1 c2 hx0
  go_enter Tryz.func38, Tryz.ntmps38
  go_wp2_with fail
  go_loopw [3, 4] (fun pv iv wr => RPInv x0 l w pv iv wr) (fun _ i _ => n - (intOf i).toNat)
  case atStart => exact RPInv.mk 0 _ _ (Nat.zero_le _) rfl rfl (Later.refl _)
  case round =>
    obtain ⟨k, p, hk, rfl, rfl, hp, lat⟩ := hrel
    by_cases hlt : k < n
    · have hkl : k < l.length := by have := HNL.out; omega
      obtain ⟨b', off', hadr, e0, e1, e2⟩ := (HRL.out.later lat).val3 k hkl
      obtain ⟨rfl, rfl⟩ : b = b' ∧ off = off' := by injection hadr with h; injection h with h1 h2; exact ⟨h1, h2⟩
      have HK := Lib.hid (show lowF x0 (l.take (k + 1)) = min (lowF x0 (l.take k)) l[k].2.1 by rw [List.take_succ_eq_append_getElem hkl, lowF_snoc])
      rw [← hp] at HK
      generalize l[k].2.1 = i at e1 HK
      have HLAT := Lib.hid lat
      have hki : (k : Int) < (n : Int) := by omega
      have hk0 : (0 : Int) ≤ (k : Int) := by omega
      have HKL := Lib.hid hkl
      clear lat hp hadr c1' e0 e2 hkl hk
      go_wp2_with fail
      go_roundw
      case rel => exact RPInv.mk (k + 1) _ _ HKL.out (by go_num) (by first | exact HK.out.symm | (rw [HK.out, Int.min_def]; split <;> split <;> omega)) HLAT.out
      case measure => simp [intOf]; omega
    · obtain rfl : k = n := by have := HNL.out; omega
      have hpm : p = m := by rw [hp, HMM.out, HLOW.out, List.take_of_length_le (by have := HNL.out; omega)]
      subst hpm
      have L1 := Lib.hid lat
      obtain ⟨wo, hwo⟩ : ∃ wo, wo = wr := ⟨_, rfl⟩
      subst hwo
      clear hp lat c1' hk hlt
      go_wp2_with fail
      go_loopw [5, 6] (fun uv iv wr => RUInv U wo uv iv wr) (fun _ i _ => k - (intOf i).toNat)
      case atStart => exact RUInv.mk none 0 0 0 _ rfl (Nat.zero_le _) rfl (World.ownsRow_nil _ _ _ _) (Later.refl _)
      case round =>
        obtain ⟨B, cb, j, hj, rfl, rfl, hown, lat⟩ := hrel
        by_cases hlt : j < k
        · have hjl : j < l.length := by have := HNL.out; omega
          have hju : j < U.length := by have := HUL.out; omega
          obtain ⟨b', off', hadr, e0, e1, e2⟩ := (HRL.out.later (L1.out.trans lat)).val3 j hjl
          obtain ⟨rfl, rfl⟩ : b = b' ∧ off = off' := by injection hadr with h; injection h with h1 h2; exact ⟨h1, h2⟩
          have hq := HUG.out j hjl hju
          have hi := H64.out _ (List.getElem_mem hjl)
          have hmle := HMLE.out _ (List.getElem_mem hjl)
          have HREP0 := (show U.take (j + 1) = U.take j ++ [U[j]] from List.take_succ_eq_append_getElem hju)
          generalize l[j].2.1 = i at e1 hi hmle hq
          obtain ⟨q, hqq⟩ : ∃ q : Nat, q = (i - p).toNat := ⟨_, rfl⟩
          rw [hq, ← hqq] at HREP0
          have HREP := Lib.hid HREP0
          have hsub : IntKind.u64.wrap (IntKind.u64.wrap i - IntKind.u64.wrap p) = (q : Int) := by
            have h1 := HMI.out
            unfold In64 at hi h1
            rw [IntKind.wrap_u64, IntKind.wrap_u64, IntKind.wrap_u64]
            omega
          have O2 := Lib.hid (hown.alloc (.cells (ints .u64 [q]).toArray 63))
          have LT := Lib.hid (lat.alloc (.cells (ints .u64 [q]).toArray 63))
          have hji : (j : Int) < (k : Int) := by omega
          have hj0 : (0 : Int) ≤ (j : Int) := by omega
          have HJU := Lib.hid hju
          have hjk : j < 1000 := by omega
          clear hq hqq hi hmle HREP0 e0 e2 hadr hown lat hjl hju hj
          go_wp2_with (at_builtin; refine wpList_append_rd _ rfl (.tmp 35) (.tmp 45) 62 rfl wo.heap.size 63 (.int .u64 0) 8 Tryz.underlying62 info_u64 rfl _ j (ints .u64 (U.take j)) rfl O2.out _ _ 1 1 (ints .u64 [q]) rfl (rd_lit _ _ .u64 [q] _ rfl) ?_ ?_ (ints_one _ _) ?_ ?_ ?_ ?_; rfl; (intro h; cases h); (unfold maxLen; omega); omega; (exact LT.out.size); intro A2 c2 w6 o2 g2 b2 n2; have HO2 := Lib.hid o2; have HB6 := Lib.hid (Later.of (LT.out.below.trans b2)); clear o2 g2 b2 n2)
          go_roundw
          case rel => exact RUInv.mk A2 _ c2 (j + 1) _ rfl HJU.out (by go_num) (by rw [HREP.out, ints_snoc]; exact HO2.out) HB6.out
          case measure => simp [intOf]; omega
        · obtain rfl : j = k := by have := HUL.out; omega
          rw [List.take_of_length_le (by have := HUL.out; omega)] at hown
          have L2 := Lib.hid (L1.out.trans lat)
          have HUH := Lib.hid (Has.own hown)
          have HW := Lib.hid (show ∀ w', Later wr w' → Calls Tryz.prog 56 #[.slice B j cb] w' (fun e w'' => e = .returned (.int .i64 (wd : Int)) ∧ w' = w'') from fun w' lz => by
            have h := refWidth_o B j cb U w' HUL.out.symm (HUH.out.later lz) (by have := HUL.out; omega) HU64.out
            rw [← HWE.out] at h
            exact h)
          have HPT := Lib.hid (refBitsPut_o B j cb U (wd : Int) wd wr HUL.out.symm rfl HUH.out (by have := HUL.out; omega) HU64.out HWD.out (by rw [HWE.out]; exact Nat.le_refl _))
          rw [← HQQ.out] at HPT
          have HZL := Lib.hid (zig_lt p HMI.out.1 HMI.out.2)
          have HPL := Lib.hid (putNum_le (zig p))
          have hwdw : IntKind.u8.wrap (wd : Int) = (wd : Int) := by have := HWD.out; rw [IntKind.wrap_u8]; omega
          clear hown lat hj hlt
          go_wp2_with (go_at_call 56; refine (HW.out _ (Later.refl _)).mono ?_; rintro e w' ⟨rfl, rfl⟩)
          refine HPT.out.mono ?_
          intro e w3 h
          obtain ⟨QA, qc, rfl, qh, hqc1, hqc2, hqn, l3⟩ := h.yes rfl
          have L3 := Lib.hid (L2.out.trans l3)
          have LQ3 := Lib.hid l3
          have HQH := Lib.hid qh
          have HQN := Lib.hid hqn
          clear h l3 L2 HPT qh hqn
          go_wp2_with (first
            | (go_at_call 39; refine (refZig_any p _ HMI.out.1 HMI.out.2).mono ?_; rintro e w' ⟨rfl, rfl⟩)
            | (go_at_call 36; refine (refPut_makes (zig p) HZL.out _).mono ?_; rintro e w5 ⟨P, cp, rfl, o5, b5, n5⟩; have O5 := Lib.hid o5; have L5 := Lib.hid (Later.of b5); clear o5 b5 n5)
            | (go_at_call 56; refine (HW.out _ (LQ3.out.trans L5.out)).mono ?_; rintro e w' ⟨rfl, rfl⟩)
            | (at_builtin; refine wpList_append_rd _ rfl (.tmp 56) (.tmp 60) 22 rfl w3.heap.size 5 (.int .u8 0) 1 Tryz.underlying22 info_u8 rfl _ (putNum (zig p)).length (ints .u8 (putNum (zig p))) rfl (O5.out.alloc _) _ _ 1 1 (ints .u8 [wd]) rfl (rd_lit w5 _ .u8 [wd] _ rfl) ?_ ?_ (ints_one _ _) ?_ ?_ ?_ ?_; rfl; (intro h; cases h); (have := HPL.out; unfold maxLen; omega); (have := HPL.out; omega); (have := L5.out.size; simp; omega); intro A6 c6 w6 o6 g6 b6 n6; have O6 := Lib.hid o6; have L6 := Lib.hid (Later.of ((L5.out.alloc (.cells (ints .u8 [wd]).toArray 5)).below.trans b6)); have HQ6 := Lib.hid (HQH.out.later L6.out); clear o6 g6 b6 n6)
            | (at_builtin; refine wpList_append_rd _ rfl (.tmp 61) (.tmp 62) 22 rfl w3.heap.size 5 (.int .u8 0) 1 Tryz.underlying22 info_u8 rfl _ ((putNum (zig p)).length + 1) (ints .u8 (putNum (zig p)) ++ ints .u8 [wd]) rfl O6.out _ QA Q.length qc (ints .u8 Q) rfl HQ6.out ?_ HQN.out (ints_one _ _) ?_ ?_ ?_ ?_; (rw [ints_length]); (have h1 := HPL.out; have h2 := HQL.out; unfold maxLen; omega); (have h1 := HPL.out; have h2 := HQL.out; omega); (exact L6.out.size); intro A7 c7 w7 o7 g7 b7 n7; have O7 := Lib.hid o7; have L7 := Lib.hid (Later.of (L6.out.below.trans b7)); have N7 := Lib.hid n7; clear o7 g7 b7 n7))
          go_ret
          have hlen : (putNum (zig p)).length + 1 + Q.length = (packB l).length := by
            rw [HBYTES.out, List.length_append, List.length_append]; rfl
          have hcells : ints .u8 (putNum (zig p)) ++ ints .u8 [wd] ++ ints .u8 Q = ints .u8 (packB l) := by rw [HBYTES.out]; simp [ints]
          have o := O7.out
          rw [hcells, hlen] at o
          exact ⟨A7, c7, by rw [← hlen]; rfl, own_mono o L3.out.size, (L3.out.trans L7.out).below, N7.out⟩

set_option maxRecDepth 100000 in
theorem refPack_nil (A : Option Addr) (c : Nat) (w : World) : Calls Tryz.prog 38 #[.slice A 0 c] w (Makes (packB []) w) := by
  go_enter Tryz.func38, Tryz.ntmps38
  go_wp2_with fail
  go_ret
  exact ⟨none, 0, rfl, World.ownsRow_nil _ _ _ _, Below.refl _ _, fun _ => rfl⟩
theorem refPack_any (A : Option Addr) (c : Nat) (l : List Val3) (w : World) (hl : l.length ≤ 1000) (hr : Has w A (fl l)) (h64 : All64 l) :
    Calls Tryz.prog 38 #[.slice A l.length c] w (Makes (packB l) w) := by
  by_cases h0 : 0 < l.length
  · exact refPack_yes A c l w h0 hl hr h64
  · obtain rfl : l = [] := List.eq_nil_of_length_eq_zero (by omega)
    exact refPack_nil A c w

set_option maxRecDepth 100000 in
theorem refEncK_yes (t : Int) (A : Option Addr) (c : Nat) (l : List Val3) (w : World) (ht : KT t) (hl : l.length ≤ 1000) (hr : Has w A (fl l)) (ho : OkL t l) (h64 : All64 l) :
    Calls Tryz.prog 21 #[.int .i64 4, .int .i64 t, .slice A l.length c] w (OwnB (packB l) w) := by
  have HA := Lib.hid (refRight_any t A c l w (by omega) hr)
  have HT := Lib.hid (show (1 ≤ t ∧ t ≤ 4) ∧ OkL t l from ⟨by unfold KT at ht; omega, ho⟩)
  have HN := Lib.hid (fun w' => refNumber_yes t w' ht)
  have HP := Lib.hid (fun w' (lz : Later w w') => refPack_any A c l w' hl (hr.later lz) h64)
  clear ht ho hr h64
  go_enter Tryz.func21, Tryz.ntmps21
  go_wp2_with fail
  refine HA.out.mono ?_
  intro e w1 h
  obtain ⟨rfl, l1⟩ := h.yes HT.out
  have L1 := Lib.hid l1
  clear h HA l1
  go_wp2_with (go_at_call 34; refine (HN.out _).mono ?_; rintro e w' ⟨rfl, rfl⟩)
  refine (HP.out w1 L1.out).mono ?_
  rintro e w2 ⟨B, cb, rfl, own, bel, hnil⟩
  have O := Lib.hid (own_mono own L1.out.size)
  have L2 := Lib.hid (L1.out.trans (Later.of bel))
  have HN2 := Lib.hid hnil
  clear own bel hnil
  go_wp2_with fail
  go_ret2
  exact ⟨B, cb, rfl, O.out, HN2.out, L2.out⟩

set_option maxRecDepth 100000 in
theorem refEncK_not (t : Int) (A : Option Addr) (c : Nat) (l : List Val3) (w : World) (ht : ¬ KT t) (hl : l.length ≤ 2000) (hr : Has w A (fl l)) :
    Calls Tryz.prog 21 #[.int .i64 4, .int .i64 t, .slice A l.length c] w (PutsB none w) := by
  by_cases ho : (1 ≤ t ∧ t ≤ 4) ∧ OkL t l
  · have HA := Lib.hid (refRight_any t A c l w hl hr)
    have HO := Lib.hid ho
    have HN := Lib.hid (fun w' => refNumber_no t w' ht)
    clear ho hr ht
    go_enter Tryz.func21, Tryz.ntmps21
    go_wp2_with fail
    refine HA.out.mono ?_
    intro e w1 h
    obtain ⟨rfl, L1⟩ := h.yes HO.out
    clear h HA
    go_wp2_with (go_at_call 34; refine (HN.out _).mono ?_; rintro e w' ⟨rfl, rfl⟩)
    go_ret2
    exact ⟨.inl ⟨rfl, rfl⟩, L1⟩
  · exact refEnc_no 4 t A c l w hl hr ho
theorem refEncK_any (t : Int) (A : Option Addr) (c : Nat) (l : List Val3) (w : World) (hl : l.length ≤ 1000) (hr : Has w A (fl l)) (h64 : All64 l) :
    Calls Tryz.prog 21 #[.int .i64 4, .int .i64 t, .slice A l.length c] w (PutsB (putK t l) w) := by
  unfold putK
  by_cases ht : KT t
  · by_cases ho : OkL t l
    · rw [if_pos ⟨ht, ho⟩]; exact (refEncK_yes t A c l w ht hl hr ho h64).mono fun _ _ h => h.puts
    · rw [if_neg fun h => ho h.2]; exact refEnc_no 4 t A c l w (by omega) hr fun h => ho h.2
  · rw [if_neg fun h => ht h.1]; exact refEncK_not t A c l w ht (by omega) hr
theorem refEncK_own (t : Int) (A : Option Addr) (c : Nat) (l : List Val3) (pb : List Nat) (w : World) (hl : l.length ≤ 1000) (hr : Has w A (fl l)) (h64 : All64 l) (hp : putK t l = some pb) :
    Calls Tryz.prog 21 #[.int .i64 4, .int .i64 t, .slice A l.length c] w (OwnB pb w) := by
  obtain ⟨h1, h2, rfl⟩ := putK_is hp
  exact refEncK_yes t A c l w h1 hl hr h2 h64
end Go.Proofs.YtldalkhmbpkjpaaGreatDoor

/- The walks of the reference's readPack, read, Decode of few bits. -/

namespace Go.Proofs.YtldalkhmbpkjpaaGreatDoor
open Go.RowKit
set_option linter.unusedVariables false

/-- What readPack reads: of none, just no bytes. -/
def readKQ (t : Int) (n : Nat) (b : List Nat) : Option (List Val3) := if n = 0 then (if b = [] then some [] else none) else readK t n b
/-- Where readPack's loop stands. -/
def KRInv (t z : Int) (us : List Nat) (wb : World) (lv iv : Value) (wr : World) : Prop :=
  ∃ (L : Option Addr) (cl j : Nat), lv = .slice L j cl ∧ iv = .int .i64 (j : Int) ∧ j ≤ us.length ∧ wr.ownsRow wb.heap.size 26 3 (.slice L j cl) j (fl (unpackV t z (us.take j))) ∧ Later wb wr
theorem KRInv.mk {t z : Int} {us : List Nat} {wb wr : World} (L : Option Addr) (cl m j : Nat) (i : Int) (hm : m = j) (hi : i = (j : Int)) (h1 : j ≤ us.length) (h2 : wr.ownsRow wb.heap.size 26 3 (.slice L m cl) m (fl (unpackV t z (us.take j)))) (h3 : Later wb wr) : KRInv t z us wb (.slice L m cl) (.int .i64 i) wr := by
  subst hm hi; exact ⟨L, cl, m, rfl, rfl, h1, h2, h3⟩

set_option maxRecDepth 100000 in
set_option maxHeartbeats 4000000 in
theorem refReadPack_any (t : Int) (n : Nat) (A : Option Addr) (c : Nat) (b : List Nat) (w : World) (hn : n ≤ 1000) (hr : Has w A (ints .u8 b)) (h256 : ∀ x ∈ b, x < 256) (hb : b.length ≤ 1000000) (hbc : b.length ≤ c) (hc : c ≤ 9223372036854775807) :
    Calls Tryz.prog 68 #[.int .i64 t, .int .i64 n, .slice A b.length c] w (ReadsL (readKQ t n b) w) := by
  by_cases h0 : n = 0
  · have e0 : ((n : Int) == 0) = true := by simp [h0]
    by_cases hb0 : b = []
    · have HQ := Lib.hid (show readKQ t n b = some [] by unfold readKQ; rw [if_pos h0, if_pos hb0])
      have e1 : ((b.length : Int) == 0) = true := by simp [hb0]
      clear hr h256 h0 hb0
      go_enter Tryz.func68, Tryz.ntmps68
      go_wp2_with fail
      go_ret2
      exact ⟨.inr ⟨[], none, 0, HQ.out, rfl, Has.nil_, Nat.le_refl _, by decide⟩, Later.refl _⟩
    · have HQ := Lib.hid (show readKQ t n b = none by unfold readKQ; rw [if_pos h0, if_neg hb0])
      have e1 : ((b.length : Int) == 0) = false := by
        rw [beq_eq_false_iff_ne]; intro e
        exact hb0 (List.eq_nil_of_length_eq_zero (by omega))
      clear hr h256 h0 hb0
      go_enter Tryz.func68, Tryz.ntmps68
      go_wp2_with fail
      go_ret2
      exact ⟨.inl ⟨HQ.out, rfl⟩, Later.refl _⟩
  · have e0 : ((n : Int) == 0) = false := by rw [beq_eq_false_iff_ne]; omega
    obtain ⟨o, ho⟩ : ∃ o, o = readKQ t n b := ⟨_, rfl⟩
    have hoe : o = readK t n b := by rw [ho]; unfold readKQ; rw [if_neg h0]
    have HRK0 := Lib.hid (show ∀ hT : takeNum b = none, o = none from fun hT => by rw [hoe]; unfold readK; rw [if_neg h0, hT])
    have HRK1 := Lib.hid (show ∀ u k, takeNum b = some (u, k) → b.drop k = [] → o = none from fun u k hT hd => by rw [hoe]; unfold readK; rw [if_neg h0, hT]; simp only; rw [hd])
    have HRK2 := Lib.hid (show ∀ u k wd r, takeNum b = some (u, k) → b.drop k = wd :: r → o = (takeBits r n wd).map (unpackV t (zag u)) from fun u k wd r hT hd => by rw [hoe]; unfold readK; rw [if_neg h0, hT]; simp only; rw [hd])
    rw [← ho]
    have HR := Lib.hid hr
    have H256 := Lib.hid h256
    have HTN := Lib.hid (refTake_num A b.length c b w rfl hbc hr h256 hb)
    clear ho hoe hr h256 h0
    go_enter Tryz.func68, Tryz.ntmps68
    go_wp2_with fail
    refine HTN.out.mono ?_
    rintro e w2 ⟨u, k, ok, hT0, rfl, b2⟩
    have L2 := Lib.hid (Later.of b2)
    clear b2 HTN
    rcases takeR_some hT0 with ⟨rfl, hT⟩ | ⟨rfl, hT⟩
    · obtain ⟨hu64, hk1, hk3⟩ := takeNum_is H256.out hT
      have hkb : k ≤ b.length := by rw [hk1]; exact hk3.length_le
      have hk10 : k ≤ 10 := by rw [hk1]; exact putNum_le u
      have HU := Lib.hid hu64
      by_cases hk : k = b.length
      · have HO := Lib.hid (HRK1.out u k hT (List.drop_of_length_le (by omega)))
        have f0 : decide ((b.length : Int) ≤ (k : Int)) = true := decide_eq_true (by omega)
        have f1 : decide (b.length ≤ k) = true := decide_eq_true (by omega)
        have f2 : b.length ≤ k := by omega
        clear hT hk1 hk3 hu64 hT0 hk HRK0 HRK1 HRK2
        go_wp2_with fail
        go_ret2
        exact ⟨.inl ⟨HO.out, rfl⟩, L2.out⟩
      · have hkl : k < b.length := by omega
        have f0 : decide ((b.length : Int) ≤ (k : Int)) = false := by simp; omega
        have f1 : decide (b.length ≤ k) = false := by simp; omega
        have f2 : ¬ b.length ≤ k := by omega
        obtain ⟨wd, hwd⟩ : ∃ wd, wd = b[k] := ⟨_, rfl⟩
        obtain ⟨r, hrr⟩ : ∃ r, r = b.drop (k + 1) := ⟨_, rfl⟩
        have hd : b.drop k = wd :: r := by rw [hwd, hrr]; exact List.drop_eq_getElem_cons hkl
        have HRKM := Lib.hid (HRK2.out u k wd r hT hd)
        have HRKN := Lib.hid (fun (h : takeBits r n wd = none) => (show o = none by rw [HRKM.out, h]; rfl))
        have HRKS := Lib.hid (fun us (h : takeBits r n wd = some us) => (show o = some (unpackV t (zag u) us) by rw [HRKM.out, h]; rfl))
        have hrl : r.length = b.length - (k + 1) := by rw [hrr, List.length_drop]
        have hwd256 : wd < 256 := by rw [hwd]; exact H256.out _ (List.getElem_mem hkl)
        obtain ⟨bb, off, rfl, hcell⟩ : ∃ bb off, A = some ⟨bb, off, none⟩ ∧ w.cell? ⟨bb, off + k, none⟩ = some (.int .u8 (wd : Int)) := by
          rcases HR.out with h | ⟨bb, off, h1, _, hc⟩
          · have h2 : b.length = 0 := by have h := congrArg List.length h; rw [ints_length] at h; exact h
            omega
          · exact ⟨bb, off, h1, hc k _ (by rw [ints_get _ _ _ hkl, hwd])⟩
        have HRD := Lib.hid (show Has w (some ⟨bb, off + (k + 1), none⟩) (ints .u8 r) from by have h := HR.out.drop (k + 1); rw [show (ints .u8 b).drop (k + 1) = ints .u8 (b.drop (k + 1)) by simp [ints, List.map_drop], ← hrr] at h; exact h)
        have HR256 := Lib.hid (show ∀ x ∈ r, x < 256 by rw [hrr]; exact fun x hx => H256.out x (List.mem_of_mem_drop hx))
        obtain ⟨k1, hk1'⟩ : ∃ k1, k1 = k + 1 := ⟨_, rfl⟩
        rw [← hk1'] at HRD
        have hk1w : IntKind.i64.wrap ((k : Int) + 1) = (k1 : Int) := by rw [IntKind.wrap_i64]; omega
        have hwdw : IntKind.i64.wrap (wd : Int) = (wd : Int) := IntWalk.i64_in _ ⟨by omega, by omega⟩
        have i1 : (0 : Int) ≤ (k1 : Int) := by omega
        have i2 : (k1 : Int) ≤ (b.length : Int) := by omega
        have i3 : (k : Int) < (b.length : Int) := by omega
        have i4 : (0 : Int) ≤ (k : Int) := by omega
        have i5 : k1 ≤ b.length := by omega
        have hce : w2.drew.cell? ⟨bb, off + k, none⟩ = some (.int .u8 (wd : Int)) := by have h := L2.out.cell hcell; exact h
        have hrl2 : r.length = b.length - k1 := by omega
        have HTK := Lib.hid (fun (A' : Option Addr) (m' c' : Nat) (zn zk : Int) (w' : World) (lz : Later w2 w') (hA : A' = some ⟨bb, off + k1, none⟩ ∨ r = []) (hm : m' = r.length) (hzn : zn = (n : Int)) (hzk : zk = (wd : Int)) => refBitsTake_o A' m' c' r zn zk n wd w' hm hzn hzk (by
          rcases hA with hA | hA
          · rw [hA]; exact HRD.out.later (L2.out.trans lz)
          · rw [hA]; exact Has.nil_) HR256.out (by omega))
        clear hT hk1 hk3 hu64 hT0 hk hwd hrr hd HRK0 HRK1 HRK2 hcell hrl hk1' HRD HR256
        by_cases hcm : c = k1
        · have HR0 := Lib.hid (show r = [] from List.eq_nil_of_length_eq_zero (by omega))
          subst hcm
          cases htb : takeBits r n wd with
          | none =>
            have HO := Lib.hid (HRKN.out htb)
            have HTB := Lib.hid htb
            clear htb
            go_wp2_with fail
            first
              | go_region_law (first
                  | (go_simp; go_at_call 47; refine (HTK.out _ _ _ _ _ _ ((Later.refl _).drew) (by first | exact .inl rfl | exact .inr HR0.out) (by first | rfl | omega) rfl rfl).mono ?_; intro e wX h; obtain ⟨rfl, lX⟩ := h.no HTB.out; have LX := Lib.hid (L2.out.trans ((Later.refl w2).drew.trans lX)); clear h lX))
              | fail "no walk"
            all_goals try simp [Act.put]
            go_wp2_with fail
            go_ret2
            exact ⟨.inl ⟨HO.out, rfl⟩, LX.out⟩
          | some us =>
            have HTB := Lib.hid htb
            have HUN := Lib.hid (takeBits_len htb).1
            have HU64 := Lib.hid (takeBits_lt htb)
            have HO := Lib.hid (HRKS.out us htb)
            clear htb
            go_wp2_with fail
            first
              | go_region_law (first
                  | (go_simp; go_at_call 47; refine (HTK.out _ _ _ _ _ _ ((Later.refl _).drew) (by first | exact .inl rfl | exact .inr HR0.out) (by first | rfl | omega) rfl rfl).mono ?_; intro e wX h; obtain ⟨UA, uc, rfl, uh, lX⟩ := h.yes HTB.out; have LX := Lib.hid (L2.out.trans ((Later.refl w2).drew.trans lX)); have HUH := Lib.hid uh; clear h lX uh))
              | fail "no walk"
            all_goals try simp [Act.put]
            clear hce hrl2 HTK hk1w hwdw i1 i2 i3 i4 i5 e0 hkb hk10 hkl hwd256 f0 f1 f2
            have hun : us.length = n := HUN.out
            obtain ⟨nn, hnn⟩ : ∃ nn, nn = us.length := ⟨_, rfl⟩
            have HNN := Lib.hid hnn
            have hnnn : n = nn := by omega
            subst hnnn
            clear hun hnn
            go_wp2_with fail
            go_loopw [12, 13] (fun lv iv wr => KRInv t (zag u) us wX lv iv wr) (fun _ iv _ => n - (intOf iv).toNat)
            case atStart => exact KRInv.mk none 0 0 0 0 rfl rfl (Nat.zero_le _) (ownG_nil _ _ _ _) (Later.refl _)
            case round =>
              obtain ⟨L, cl, j, rfl, rfl, hj, hown, lat⟩ := hrel
              by_cases hlt : j < n
              · have hju : j < us.length := by have := HNN.out; omega
                obtain ⟨ub, uo, rfl, hcell⟩ : ∃ ub uo, UA = some ⟨ub, uo, none⟩ ∧ CellIs wX ⟨ub, uo + j, none⟩ (.int .u64 ((us[j] : Nat) : Int)) := by
                  rcases HUH.out with h | ⟨ub, uo, h1, _, hc⟩
                  · have h2 : us.length = 0 := by have h := congrArg List.length h; rw [ints_length] at h; exact h
                    omega
                  · exact ⟨ub, uo, h1, hc j _ (by rw [ints_get _ _ _ hju])⟩
                have ha := HU64.out _ (List.getElem_mem hju)
                have HREP := Lib.hid (show unpackV t (zag u) (us.take (j + 1)) = unpackV t (zag u) (us.take j) ++ [(t, w64 (zag u + ((us[j] : Nat) : Int)), ⟨#[]⟩)] by
                  unfold unpackV; rw [List.take_succ_eq_append_getElem hju, List.map_append]; rfl)
                generalize us[j] = a at hcell ha HREP
                obtain ⟨v, hv⟩ : ∃ v, v = w64 (zag u + (a : Int)) := ⟨_, rfl⟩
                rw [← hv] at HREP
                have hvw : IntKind.i64.wrap (IntKind.u64.wrap (IntKind.u64.wrap (zag u) + (a : Int))) = v := by
                  rw [hv]; unfold w64
                  rw [IntKind.wrap_u64, IntKind.wrap_u64, IntKind.wrap_i64, IntKind.wrap_i64]
                  omega
                have hce := (hcell.later lat).drew.out
                have HLATD := Lib.hid (lat.drew)
                have HAS := Lib.hid ((Blk.new wr.drew (fl [(t, v, (⟨#[]⟩ : ByteArray))]).toArray 26 _ rfl).has)
                have O2 := Lib.hid ((own_later hown (Later.refl wr).drew).alloc (.cells (fl [(t, v, (⟨#[]⟩ : ByteArray))]).toArray 26))
                have LT2 := Lib.hid (lat.drew.alloc (.cells (fl [(t, v, (⟨#[]⟩ : ByteArray))]).toArray 26))
                have hj9 : j < 1000 := by omega
                have ji0 : (0 : Int) ≤ (j : Int) := by omega
                have ji1 : (j : Int) < (n : Int) := by omega
                have hjuc : j + 1 ≤ us.length := hju
                have HJU := Lib.hid hjuc
                have hjun : (j : Int) < (us.length : Int) := by omega
                clear hown lat hv ha hcell hju hjuc hj
                go_wp2_with fail
                first
                  | go_region_law (first
                      | (go_simp; go_at_call 69; refine (refZag_any u _ HU.out).mono ?_; rintro e w' ⟨rfl, rfl⟩)
                      | (refine step_append_g (by rfl) (.tmp 54) (.tmp 66) 23 (by rfl) wX.heap.size 26 (vagg 0 0 ⟨#[]⟩) 3 32 Tryz.underlying23 info_v rfl (by decide) _ j (fl (unpackV t (zag u) (us.take j))) (by rfl) O2.out _ _ 1 1 (fl [(t, v, (⟨#[]⟩ : ByteArray))]) (by rfl) HAS.out (by rfl) (fl_one _) (by unfold maxLen; omega) (by omega) LT2.out.size ?_; intro A2 c2 w6 o2 b2 n2; have HO2 := Lib.hid o2; have HB6 := Lib.hid (Later.of (LT2.out.below.trans b2)); clear o2 b2 n2))
                  | fail "no walk"
                all_goals try simp [Act.put]
                all_goals go_wp2_with fail
                all_goals go_roundw
                all_goals first
                  | exact KRInv.mk A2 c2 _ (j + 1) _ rfl (by first | go_num | omega) HJU.out (by rw [HREP.out, fl_append]; exact HO2.out) HB6.out
                  | (simp [intOf]; omega)
                  | omega
              · obtain rfl : j = n := by have := HNN.out; omega
                rw [List.take_of_length_le (by have := HNN.out; omega)] at hown
                have LX := Lib.hid (LX.out.trans lat)
                have HLH := Lib.hid (Has.ownG hown)
                have HCP := Lib.hid (And.intro (ownG_cap hown) (ownG_capmax hown))
                have HLL := Lib.hid (show j = (unpackV t (zag u) us).length by have := HNN.out; unfold unpackV; rw [List.length_map]; exact this)
                clear hown lat hj hlt
                go_wp2_with fail
                go_ret2
                refine ⟨.inr ⟨_, L, cl, HO.out, ?_, HLH.out, by have := HLL.out; have := HCP.out; omega⟩, LX.out⟩
                rw [← HLL.out]
                rfl
        · have HR0 := Lib.hid (trivial : True)
          cases htb : takeBits r n wd with
          | none =>
            have HO := Lib.hid (HRKN.out htb)
            have HTB := Lib.hid htb
            clear htb
            go_wp2_with fail
            first
              | go_region_law (first
                  | (go_simp; go_at_call 47; refine (HTK.out _ _ _ _ _ _ ((Later.refl _).drew) (by first | exact .inl rfl | exact .inr HR0.out) (by first | rfl | omega) rfl rfl).mono ?_; intro e wX h; obtain ⟨rfl, lX⟩ := h.no HTB.out; have LX := Lib.hid (L2.out.trans ((Later.refl w2).drew.trans lX)); clear h lX))
              | fail "no walk"
            all_goals try simp [Act.put]
            go_wp2_with fail
            go_ret2
            exact ⟨.inl ⟨HO.out, rfl⟩, LX.out⟩
          | some us =>
            have HTB := Lib.hid htb
            have HUN := Lib.hid (takeBits_len htb).1
            have HU64 := Lib.hid (takeBits_lt htb)
            have HO := Lib.hid (HRKS.out us htb)
            clear htb
            go_wp2_with fail
            first
              | go_region_law (first
                  | (go_simp; go_at_call 47; refine (HTK.out _ _ _ _ _ _ ((Later.refl _).drew) (by first | exact .inl rfl | exact .inr HR0.out) (by first | rfl | omega) rfl rfl).mono ?_; intro e wX h; obtain ⟨UA, uc, rfl, uh, lX⟩ := h.yes HTB.out; have LX := Lib.hid (L2.out.trans ((Later.refl w2).drew.trans lX)); have HUH := Lib.hid uh; clear h lX uh))
              | fail "no walk"
            all_goals try simp [Act.put]
            clear hce hrl2 HTK hk1w hwdw i1 i2 i3 i4 i5 e0 hkb hk10 hkl hwd256 f0 f1 f2
            have hun : us.length = n := HUN.out
            obtain ⟨nn, hnn⟩ : ∃ nn, nn = us.length := ⟨_, rfl⟩
            have HNN := Lib.hid hnn
            have hnnn : n = nn := by omega
            subst hnnn
            clear hun hnn
            go_wp2_with fail
            go_loopw [12, 13] (fun lv iv wr => KRInv t (zag u) us wX lv iv wr) (fun _ iv _ => n - (intOf iv).toNat)
            case atStart => exact KRInv.mk none 0 0 0 0 rfl rfl (Nat.zero_le _) (ownG_nil _ _ _ _) (Later.refl _)
            case round =>
              obtain ⟨L, cl, j, rfl, rfl, hj, hown, lat⟩ := hrel
              by_cases hlt : j < n
              · have hju : j < us.length := by have := HNN.out; omega
                obtain ⟨ub, uo, rfl, hcell⟩ : ∃ ub uo, UA = some ⟨ub, uo, none⟩ ∧ CellIs wX ⟨ub, uo + j, none⟩ (.int .u64 ((us[j] : Nat) : Int)) := by
                  rcases HUH.out with h | ⟨ub, uo, h1, _, hc⟩
                  · have h2 : us.length = 0 := by have h := congrArg List.length h; rw [ints_length] at h; exact h
                    omega
                  · exact ⟨ub, uo, h1, hc j _ (by rw [ints_get _ _ _ hju])⟩
                have ha := HU64.out _ (List.getElem_mem hju)
                have HREP := Lib.hid (show unpackV t (zag u) (us.take (j + 1)) = unpackV t (zag u) (us.take j) ++ [(t, w64 (zag u + ((us[j] : Nat) : Int)), ⟨#[]⟩)] by
                  unfold unpackV; rw [List.take_succ_eq_append_getElem hju, List.map_append]; rfl)
                generalize us[j] = a at hcell ha HREP
                obtain ⟨v, hv⟩ : ∃ v, v = w64 (zag u + (a : Int)) := ⟨_, rfl⟩
                rw [← hv] at HREP
                have hvw : IntKind.i64.wrap (IntKind.u64.wrap (IntKind.u64.wrap (zag u) + (a : Int))) = v := by
                  rw [hv]; unfold w64
                  rw [IntKind.wrap_u64, IntKind.wrap_u64, IntKind.wrap_i64, IntKind.wrap_i64]
                  omega
                have hce := (hcell.later lat).drew.out
                have HLATD := Lib.hid (lat.drew)
                have HAS := Lib.hid ((Blk.new wr.drew (fl [(t, v, (⟨#[]⟩ : ByteArray))]).toArray 26 _ rfl).has)
                have O2 := Lib.hid ((own_later hown (Later.refl wr).drew).alloc (.cells (fl [(t, v, (⟨#[]⟩ : ByteArray))]).toArray 26))
                have LT2 := Lib.hid (lat.drew.alloc (.cells (fl [(t, v, (⟨#[]⟩ : ByteArray))]).toArray 26))
                have hj9 : j < 1000 := by omega
                have ji0 : (0 : Int) ≤ (j : Int) := by omega
                have ji1 : (j : Int) < (n : Int) := by omega
                have hjuc : j + 1 ≤ us.length := hju
                have HJU := Lib.hid hjuc
                have hjun : (j : Int) < (us.length : Int) := by omega
                clear hown lat hv ha hcell hju hjuc hj
                go_wp2_with fail
                first
                  | go_region_law (first
                      | (go_simp; go_at_call 69; refine (refZag_any u _ HU.out).mono ?_; rintro e w' ⟨rfl, rfl⟩)
                      | (refine step_append_g (by rfl) (.tmp 54) (.tmp 66) 23 (by rfl) wX.heap.size 26 (vagg 0 0 ⟨#[]⟩) 3 32 Tryz.underlying23 info_v rfl (by decide) _ j (fl (unpackV t (zag u) (us.take j))) (by rfl) O2.out _ _ 1 1 (fl [(t, v, (⟨#[]⟩ : ByteArray))]) (by rfl) HAS.out (by rfl) (fl_one _) (by unfold maxLen; omega) (by omega) LT2.out.size ?_; intro A2 c2 w6 o2 b2 n2; have HO2 := Lib.hid o2; have HB6 := Lib.hid (Later.of (LT2.out.below.trans b2)); clear o2 b2 n2))
                  | fail "no walk"
                all_goals try simp [Act.put]
                all_goals go_wp2_with fail
                all_goals go_roundw
                all_goals first
                  | exact KRInv.mk A2 c2 _ (j + 1) _ rfl (by first | go_num | omega) HJU.out (by rw [HREP.out, fl_append]; exact HO2.out) HB6.out
                  | (simp [intOf]; omega)
                  | omega
              · obtain rfl : j = n := by have := HNN.out; omega
                rw [List.take_of_length_le (by have := HNN.out; omega)] at hown
                have LX := Lib.hid (LX.out.trans lat)
                have HLH := Lib.hid (Has.ownG hown)
                have HCP := Lib.hid (And.intro (ownG_cap hown) (ownG_capmax hown))
                have HLL := Lib.hid (show j = (unpackV t (zag u) us).length by have := HNN.out; unfold unpackV; rw [List.length_map]; exact this)
                clear hown lat hj hlt
                go_wp2_with fail
                go_ret2
                refine ⟨.inr ⟨_, L, cl, HO.out, ?_, HLH.out, by have := HLL.out; have := HCP.out; omega⟩, LX.out⟩
                rw [← HLL.out]
                rfl
    · have HO := Lib.hid (HRK0.out hT)
      clear hT hT0
      go_wp2_with fail
      go_ret2
      exact ⟨.inl ⟨HO.out, rfl⟩, L2.out⟩

set_option maxRecDepth 100000 in
theorem refReadK_any (t : Int) (n : Nat) (A : Option Addr) (c : Nat) (b : List Nat) (w : World) (hn : n ≤ 1000) (hr : Has w A (ints .u8 b)) (h256 : ∀ x ∈ b, x < 256) (hb : b.length ≤ 1000000) (hbc : b.length ≤ c) (hc : c ≤ 9223372036854775807) :
    Calls Tryz.prog 48 #[.int .i64 4, .int .i64 t, .int .i64 n, .slice A b.length c] w (ReadsL (readKQ t n b) w) := by
  have HP := Lib.hid (refReadPack_any t n A c b w hn hr h256 hb hbc hc)
  clear hr h256 hb hbc hc hn
  go_enter Tryz.func48, Tryz.ntmps48
  go_wp2_with fail
  refine HP.out.mono ?_
  rintro e w1 ⟨⟨hq, rfl⟩ | ⟨l, L, cl, hq, rfl, hl⟩, l1⟩
  · go_wp2_with fail
    go_ret2
    exact ⟨.inl ⟨hq, rfl⟩, l1⟩
  · have H := Lib.hid (show ReadsL (readKQ t n b) w (.returned (.tuple #[.slice L l.length cl, .bool true])) w1 from ⟨.inr ⟨l, L, cl, hq, rfl, hl⟩, l1⟩)
    clear hq hl l1
    go_wp2_with fail
    go_ret2
    exact H.out

theorem readKQ_is {t : Int} {n : Nat} {b : List Nat} {l : List Val3} (h : readKQ t n b = some l) : readK t n b = some l := by
  unfold readKQ at h
  split at h
  · rename_i h0
    split at h
    · cases h; unfold readK; rw [if_pos h0]
    · cases h
  · exact h
theorem takeK_read {t n : Int} {b : List Nat} {l : List Val3} (h : takeK t n b = some l) : readK t n.toNat b = some l := by
  unfold takeK at h
  split at h
  · split at h
    · cases h
    · rename_i l' hr
      split at h
      · cases h; exact hr
      · cases h
  · cases h
theorem takeK_bad {t n : Int} {b : List Nat} (h : ¬ ((1 ≤ t ∧ t ≤ 4) ∧ 0 ≤ n ∧ n ≤ 1000)) : takeK t n b = none := by unfold takeK; rw [if_neg h]
theorem refDecK_c (t n : Int) (A : Option Addr) (c : Nat) (b : List Nat) (w : World) (hr : Has w A (ints .u8 b)) (h256 : ∀ x ∈ b, x < 256) (hb : b.length ≤ 1000000) (hbc : b.length ≤ c) (hc : c ≤ 9223372036854775807) :
    Calls Tryz.prog 26 #[.int .i64 4, .int .i64 t, .int .i64 n, .slice A b.length c] w (TakesV (takeK t n b) w) := by
  by_cases h : (1 ≤ t ∧ t ≤ 4) ∧ 0 ≤ n ∧ n ≤ 1000
  · obtain ⟨m, rfl⟩ : ∃ m : Nat, n = (m : Int) := ⟨n.toNat, by omega⟩
    refine refDec_gen 4 t m A c b w (putK t) _ (readKQ t m b) h.1 (by omega) hr h256 hb (fun w' l => refReadK_any t m A c b w' (by omega) (hr.later l) h256 hb hbc hc) (fun L cl l w' h1 h2 h3 => refEncK_any t L cl l w' h1 h2 h3) ?_ ?_ ?_ ?_
    · intro l hl
      obtain ⟨h1, h2⟩ := readK_is (readKQ_is hl)
      exact ⟨by omega, h2⟩
    · intro l pb hl hp
      obtain ⟨h1, h2⟩ := readK_is (readKQ_is hl)
      have := putK_le h2 hp
      exact ⟨putK_lt h2 hp, by omega⟩
    · intro l hl hln hp
      obtain ⟨h1, h2⟩ := readK_is (readKQ_is hl)
      have := takeK_put h2 (by omega) hp
      rw [hln] at this
      exact this
    · intro hno
      cases hT : takeK t (m : Int) b with
      | none => rfl
      | some l =>
        obtain ⟨h1, h2, h3, _⟩ := takeK_is hT
        have hln : l.length = m := by omega
        refine absurd h1 (hno l ?_ hln)
        unfold readKQ
        by_cases h0 : m = 0
        · obtain rfl : l = [] := List.eq_nil_of_length_eq_zero (by omega)
          obtain ⟨_, _, hb0⟩ := putK_is h1
          rw [if_pos h0, if_pos (by rw [hb0]; rfl)]
        · rw [if_neg h0]
          exact takeK_read hT
  · rw [takeK_bad h]; exact (refDec_no 4 t n A _ c w h).mono fun _ _ h => ⟨.inl ⟨rfl, (h.no rfl).1⟩, (h.no rfl).2⟩
theorem refDecK_any (t n : Int) (A : Option Addr) (c : Nat) (b : List Nat) (w : World) (hr : Has w A (ints .u8 b)) (h256 : ∀ x ∈ b, x < 256) (hb : b.length ≤ 1000000) (hbc : b.length ≤ c) (hc : c ≤ 9223372036854775807) :
    Calls Tryz.prog 26 #[.int .i64 4, .int .i64 t, .int .i64 n, .slice A b.length c] w (PutsV (takeK t n b) w) :=
  (refDecK_c t n A c b w hr h256 hb hbc hc).mono fun _ _ h => h.puts
end Go.Proofs.YtldalkhmbpkjpaaGreatDoor

/- The walk of the reference's Encode by steps. -/

namespace Go.Proofs.YtldalkhmbpkjpaaGreatDoor
open Go.RowKit
set_option linter.unusedVariables false

/-- Where Encode's loop stands. -/
def EDInv (l : List Val3) (w : World) (bv iv : Value) (wr : World) : Prop :=
  ∃ (B : Option Addr) (n cb k : Nat), k ≤ l.length ∧ iv = .int .i64 k ∧ bv = .slice B n cb ∧ n = (stepsB 0 (l.take k)).length ∧ wr.ownsRow w.heap.size 5 1 (.slice B n cb) n (ints .u8 (stepsB 0 (l.take k))) ∧ (B = none → cb = 0) ∧ Later w wr
theorem EDInv.mk {l : List Val3} {w wr : World} (B : Option Addr) (n cb k : Nat) (i : Int) (hk : k ≤ l.length) (hi : i = (k : Int)) (hn : n = (stepsB 0 (l.take k)).length) (ho : wr.ownsRow w.heap.size 5 1 (.slice B n cb) n (ints .u8 (stepsB 0 (l.take k)))) (hb : B = none → cb = 0) (lat : Later w wr) : EDInv l w (.slice B n cb) (.int .i64 i) wr := by
  subst hi; exact ⟨B, n, cb, k, hk, rfl, rfl, hn, ho, hb, lat⟩

set_option maxRecDepth 100000 in
set_option maxHeartbeats 2000000 in
theorem refEncD_yes (t : Int) (A : Option Addr) (c m : Nat) (l : List Val3) (w : World) (hm : m = l.length) (ht : t = 1 ∨ t = 2) (hl : m ≤ 2000) (hr : Has w A (fl l)) (ho : OkL t l) (h64 : All64 l) :
    Calls Tryz.prog 21 #[.int .i64 5, .int .i64 t, .slice A m c] w (OwnB (stepsB 0 l) w) := by
  have HA := Lib.hid (refRight_any t A c l w (by omega) hr)
  rw [← hm] at HA
  have HT := Lib.hid ht
  have HOK := Lib.hid ho
  have H64 := Lib.hid h64
  have HHAS := Lib.hid hr
  have HML := Lib.hid hm
  have HTD : (t = 1 ∧ (t != 1) = false) ∨ (t = 2 ∧ (t != 1) = true ∧ (t != 2) = false) := by
    rcases ht with rfl | rfl
    · exact .inl ⟨rfl, rfl⟩
    · exact .inr ⟨rfl, rfl, rfl⟩
  have HD := Lib.hid HTD
  clear ht ho h64 hr hm HTD
  go_enter Tryz.func21, Tryz.ntmps21
  go_wp2_with fail
  refine HA.out.mono ?_
  intro e w1 h
  obtain ⟨rfl, l1⟩ := h.yes ⟨by have := HT.out; omega, HOK.out⟩
  have L1 := Lib.hid l1
  clear h HA l1
  rcases HD.out with ⟨ht1, d1⟩ | ⟨ht1, d1, d2⟩
  all_goals have HT1 := Lib.hid ht1
  all_goals clear ht1 HD
  all_goals go_wp2_with fail
  all_goals go_loopw [8, 12] (fun bv iv wr => EDInv l w bv iv wr) (fun _ iv _ => m - (intOf iv).toNat)
  case atStart => exact EDInv.mk none 0 0 0 0 (Nat.zero_le _) rfl rfl (World.ownsRow_nil _ _ _ _) (fun _ => rfl) L1.out
  case atStart => exact EDInv.mk none 0 0 0 0 (Nat.zero_le _) rfl rfl (World.ownsRow_nil _ _ _ _) (fun _ => rfl) L1.out
  all_goals case round =>
    obtain ⟨B, n, cb, k, hk, rfl, rfl, hn, hown, hnil, lat⟩ := hrel
    by_cases hlt : k < l.length
    · obtain ⟨b, off, rfl, c0, c1, c2⟩ := HHAS.out.val3 k hlt
      have hi := H64.out _ (List.getElem_mem hlt)
      have HK := Lib.hid (show stepsB 0 (l.take (k + 1)) = stepsB 0 (l.take k) ++ putNum (zig (w64 (l[k].2.1 - lastI 0 (l.take k)))) by
        rw [List.take_succ_eq_append_getElem hlt, stepsB_snoc])
      have HLE := Lib.hid (stepsB_le 0 (l.take k))
      obtain ⟨x, hx⟩ : ∃ x, x = l[k] := ⟨_, rfl⟩
      rw [← hx] at c0 c1 c2 hi HK
      clear hx
      have HKM := Lib.hid (show k < m by have := HML.out; omega)
      have hkm : (k : Int) < (m : Int) := by have := HML.out; omega
      have hk0 : (0 : Int) ≤ (k : Int) := by omega
      obtain ⟨z, hz⟩ : ∃ z, z = w64 (x.2.1 - lastI 0 (l.take k)) := ⟨_, rfl⟩
      have HZI := Lib.hid (hz ▸ w64_in (x.2.1 - lastI 0 (l.take k)) : In64 z)
      have HZL := Lib.hid (hz ▸ zig_w64_lt (x.2.1 - lastI 0 (l.take k)) : zig z < 18446744073709551616)
      have HO1 := Lib.hid (putNum_le (zig z))
      rw [← hz] at HK
      have HHK := Lib.hid hlt
      have HLAT := Lib.hid lat
      have HN := Lib.hid hn
      have HOWN := Lib.hid hown
      have HNIL := Lib.hid hnil
      have e1 := lat.cell c1
      have hd : decide ((k : Int) < (m : Int)) = true := decide_eq_true hkm
      by_cases h0 : k = 0
      · have hzi : z = x.2.1 := by
          have h00 : lastI 0 (l.take k) = 0 := by rw [h0]; rfl
          rw [hz, h00, Int.sub_zero]
          exact w64_of hi
        have d0 : decide ((0 : Int) < (k : Int)) = false := by simp; omega
        have d0n : decide (0 < k) = false := by simp; omega
        have d0m : ¬ 0 < k := by omega
        rw [← hzi] at e1
        clear lat hn hown hnil hz hzi c0 c1 c2 h0 hi hlt hk
        go_wp2_with (first
          | (go_at_call 39; refine (refZig_any z _ HZI.out.1 HZI.out.2).mono ?_; rintro e w' ⟨rfl, rfl⟩)
          | (go_at_call 36; refine (refPut_makes (zig z) HZL.out _).mono ?_; intro e w5 h; obtain ⟨P, cp, rfl, r5, b5, m5, n5, l5⟩ := Makes.gives h; have HR5 := Lib.hid r5; have HL5 := Lib.hid (HLAT.out.trans l5); have HW5 := Lib.hid (own_later HOWN.out l5); have HN5 := Lib.hid n5; clear h r5 b5 m5 l5 n5)
          | (at_builtin; refine wpList_append_rd _ rfl (.tmp 131) (.tmp 134) 22 rfl w.heap.size 5 (.int .u8 0) 1 Tryz.underlying22 info_u8 rfl _ n (ints .u8 (stepsB 0 (l.take k))) rfl HW5.out _ P (putNum (zig z)).length cp (ints .u8 (putNum (zig z))) rfl HR5.out ?_ HN5.out (ints_one _ _) ?_ ?_ ?_ ?_; (rw [ints_length]); (have h1 := HLE.out; have h2 := HO1.out; have h3 := HN.out; rw [List.length_take] at h1; unfold maxLen; omega); (have h1 := HLE.out; have h2 := HO1.out; have h3 := HN.out; rw [List.length_take] at h1; omega); (exact HL5.out.size); intro A2 c2 w6 o2 g2 b2 n2; have HO2 := Lib.hid o2; have HB6 := Lib.hid b2; have HN2 := Lib.hid n2; clear o2 g2 b2 n2))
        go_roundw
        case rel =>
          refine EDInv.mk A2 _ c2 (k + 1) _ HHK.out (by go_num) ?_ ?_ HN2.out (Later.of (HL5.out.below.trans HB6.out))
          · rw [HK.out, List.length_append, HN.out]
          · rw [HK.out, ints_snoc]; exact HO2.out
        case measure => simp [intOf]; omega
      · obtain ⟨j, hj⟩ : ∃ j, k = j + 1 := ⟨k - 1, by omega⟩
        have hjl : j < l.length := by omega
        obtain ⟨b', off', hadr, f0, f1, f2⟩ := HHAS.out.val3 j hjl
        obtain ⟨rfl, rfl⟩ : b = b' ∧ off = off' := by injection hadr with h; injection h with h1 h2; exact ⟨h1, h2⟩
        have hlast : lastI 0 (l.take k) = l[j].2.1 := by
          subst hj
          rw [List.take_succ_eq_append_getElem hjl, lastI_snoc]
        have e2 := lat.cell f1
        rw [hlast] at hz
        generalize x.2.1 = i at e1 hz
        generalize l[j].2.1 = p at e2 hz
        have hzw : IntKind.i64.wrap (i - p) = z := hz.symm
        have hjk : (k : Int) - 1 = (j : Int) := by omega
        have hjw : IntKind.i64.wrap ((k : Int) - 1) = (j : Int) := by rw [hjk]; exact IntWalk.i64_in _ ⟨by omega, by omega⟩
        have hj0 : (0 : Int) ≤ (j : Int) := by omega
        have hjm : (j : Int) < (m : Int) := by omega
        have d0 : decide ((0 : Int) < (k : Int)) = true := decide_eq_true (by omega)
        have d0n : decide (0 < k) = true := decide_eq_true (by omega)
        have d0m : 0 < k := by omega
        have HKJ := Lib.hid hj
        clear lat hn hown hnil hz c0 c1 c2 f0 f1 f2 h0 hi hlt hk hadr hlast hjl hj hjk
        go_wp2_with fail
        go_quiet (fail)
        rename_i nq
        obtain ⟨wz, hwz⟩ : ∃ wz, wz = wr.drewN nq := ⟨_, rfl⟩
        have LZ := Lib.hid (show Later w wz from hwz ▸ (HLAT.out.drewN nq))
        have OZ := Lib.hid (own_later HOWN.out (show Later wr wz from hwz ▸ ((Later.refl _).drewN nq)))
        rw [← hwz]
        clear hwz e1 e2
        go_wp2_with (first
          | (go_at_call 39; refine (refZig_any z _ HZI.out.1 HZI.out.2).mono ?_; rintro e w' ⟨rfl, rfl⟩)
          | (go_at_call 36; refine (refPut_makes (zig z) HZL.out _).mono ?_; intro e w5 h; obtain ⟨P, cp, rfl, r5, b5, m5, n5, l5⟩ := Makes.gives h; have HR5 := Lib.hid r5; have HL5 := Lib.hid (LZ.out.trans l5); have HW5 := Lib.hid (own_later OZ.out l5); have HN5 := Lib.hid n5; clear h r5 b5 m5 l5 n5)
          | (at_builtin; refine wpList_append_rd _ rfl (.tmp 131) (.tmp 134) 22 rfl w.heap.size 5 (.int .u8 0) 1 Tryz.underlying22 info_u8 rfl _ n (ints .u8 (stepsB 0 (l.take k))) rfl HW5.out _ P (putNum (zig z)).length cp (ints .u8 (putNum (zig z))) rfl HR5.out ?_ HN5.out (ints_one _ _) ?_ ?_ ?_ ?_; (rw [ints_length]); (have h1 := HLE.out; have h2 := HO1.out; have h3 := HN.out; rw [List.length_take] at h1; unfold maxLen; omega); (have h1 := HLE.out; have h2 := HO1.out; have h3 := HN.out; rw [List.length_take] at h1; omega); (exact HL5.out.size); intro A2 c2 w6 o2 g2 b2 n2; have HO2 := Lib.hid o2; have HB6 := Lib.hid b2; have HN2 := Lib.hid n2; clear o2 g2 b2 n2))
        go_roundw
        case rel =>
          refine EDInv.mk A2 _ c2 (k + 1) _ HHK.out (by go_num) ?_ ?_ HN2.out (Later.of (HL5.out.below.trans HB6.out))
          · rw [HK.out, List.length_append, HN.out]
          · rw [HK.out, ints_snoc]; exact HO2.out
        case measure => simp [intOf]; omega
    · obtain rfl : k = m := by have := HML.out; omega
      rw [List.take_of_length_le (by have := HML.out; omega)] at hn hown
      subst hn
      have HR := Lib.hid hown
      have H3 := Lib.hid hnil
      have H4 := Lib.hid lat
      clear hown hnil lat hlt hk
      go_wp2_with fail
      go_ret2
      exact ⟨_, _, rfl, HR.out, H3.out, H4.out⟩

set_option maxRecDepth 100000 in
theorem refEncD_not (t : Int) (A : Option Addr) (c : Nat) (l : List Val3) (w : World) (ht : ¬ (t = 1 ∨ t = 2)) (hl : l.length ≤ 2000) (hr : Has w A (fl l)) :
    Calls Tryz.prog 21 #[.int .i64 5, .int .i64 t, .slice A l.length c] w (PutsB none w) := by
  by_cases ho : (1 ≤ t ∧ t ≤ 4) ∧ OkL t l
  · have HA := Lib.hid (refRight_any t A c l w hl hr)
    have HO := Lib.hid ho
    have d1 : (t != 1) = true := by simp; omega
    have d2 : (t != 2) = true := by simp; omega
    clear ho hr ht
    go_enter Tryz.func21, Tryz.ntmps21
    go_wp2_with fail
    refine HA.out.mono ?_
    intro e w1 h
    obtain ⟨rfl, L1⟩ := h.yes HO.out
    clear h HA
    go_wp2_with fail
    go_ret2
    exact ⟨.inl ⟨rfl, rfl⟩, L1⟩
  · exact refEnc_no 5 t A c l w hl hr ho

theorem refEncD_any (t : Int) (A : Option Addr) (c : Nat) (l : List Val3) (w : World) (hl : l.length ≤ 2000) (hr : Has w A (fl l)) (h64 : All64 l) :
    Calls Tryz.prog 21 #[.int .i64 5, .int .i64 t, .slice A l.length c] w (PutsB (putD t l) w) := by
  unfold putD
  by_cases ht : t = 1 ∨ t = 2
  · by_cases ho : OkL t l
    · rw [if_pos ⟨ht, ho⟩]; exact (refEncD_yes t A c l.length l w rfl ht hl hr ho h64).mono fun _ _ h => h.puts
    · rw [if_neg fun h => ho h.2]; exact refEnc_no 5 t A c l w hl hr fun h => ho h.2
  · rw [if_neg fun h => ht h.1]; exact refEncD_not t A c l w ht hl hr
theorem refEncD_own (t : Int) (A : Option Addr) (c : Nat) (l : List Val3) (pb : List Nat) (w : World) (hl : l.length ≤ 2000) (hr : Has w A (fl l)) (h64 : All64 l) (hp : putD t l = some pb) :
    Calls Tryz.prog 21 #[.int .i64 5, .int .i64 t, .slice A l.length c] w (OwnB pb w) := by
  obtain ⟨h1, h2, rfl⟩ := putD_is hp
  exact refEncD_yes t A c l.length l w rfl h1 hl hr h2 h64
end Go.Proofs.YtldalkhmbpkjpaaGreatDoor

/- The walks of the reference's read and Decode by steps. -/

namespace Go.Proofs.YtldalkhmbpkjpaaGreatDoor
open Go.RowKit
set_option linter.unusedVariables false

theorem refZag_q (u : Nat) (w : World) (m : Nat) (h1 : u < 18446744073709551616) : Calls Tryz.prog 69 #[.int .u64 u] (w.drewN m) fun e w'' => e = .returned (.int .i64 (zag u)) ∧ ∃ m', w'' = w.drewN m' :=
  Calls.quiet_of_same ((refZag_any u (w.drewN m) h1).mono fun e w' h => ⟨h.1, h.2.symm⟩)
/-- Where read's loop stands. -/
def EDR (o : Option (List Val3 × List Nat)) (t : Int) (n : Nat) (w : World) (lv pv bv : Value) (wr : World) : Prop :=
  ∃ (B : Option Addr) (cb : Nat) (rest : List Nat) (L : Option Addr) (cl k : Nat) (done : List Val3) (p : Int), k ≤ n ∧ bv = .slice B rest.length cb ∧ lv = .slice L k cl ∧ pv = .int .i64 p ∧ Has w B (ints .u8 rest) ∧ (∀ x ∈ rest, x < 256) ∧ rest.length ≤ 1000000 ∧ rest.length ≤ cb ∧ cb ≤ 9223372036854775807 ∧ wr.ownsRow w.heap.size 26 3 (.slice L k cl) k (fl done) ∧ done.length = k ∧ o = (readE t (n - k) p rest).map (fun q => (done ++ q.1, q.2)) ∧ Later w wr
theorem EDR.mk {o : Option (List Val3 × List Nat)} {t : Int} {n : Nat} {w wr : World} (B : Option Addr) (m cb : Nat) (rest : List Nat) (L : Option Addr) (cl k : Nat) (done : List Val3) (p : Int) (hk : k ≤ n) (hm : m = rest.length) (hr : Has w B (ints .u8 rest)) (h256 : ∀ x ∈ rest, x < 256) (h1 : rest.length ≤ 1000000) (h2 : rest.length ≤ cb) (h3 : cb ≤ 9223372036854775807) (ho : wr.ownsRow w.heap.size 26 3 (.slice L k cl) k (fl done)) (hd : done.length = k) (hrel : o = (readE t (n - k) p rest).map (fun q => (done ++ q.1, q.2))) (lat : Later w wr) : EDR o t n w (.slice L k cl) (.int .i64 p) (.slice B m cb) wr := by
  subst hm; exact ⟨B, cb, rest, L, cl, k, done, p, hk, rfl, rfl, rfl, hr, h256, h1, h2, h3, ho, hd, hrel, lat⟩

set_option maxRecDepth 100000 in
set_option maxHeartbeats 2000000 in
theorem refReadD_any (t : Int) (n : Nat) (A : Option Addr) (c : Nat) (b : List Nat) (w : World) (hn : n ≤ 1000) (hr : Has w A (ints .u8 b)) (h256 : ∀ x ∈ b, x < 256) (hb : b.length ≤ 1000000) (hbc : b.length ≤ c) (hc : c ≤ 9223372036854775807) :
    Calls Tryz.prog 48 #[.int .i64 5, .int .i64 t, .int .i64 n, .slice A b.length c] w (ReadsL ((readE t n 0 b).map Prod.fst) w) := by
  obtain ⟨o, ho⟩ : ∃ o, o = readE t n 0 b := ⟨_, rfl⟩
  rw [← ho]
  have REL := Lib.hid (show o = (readE t (n - 0) 0 b).map (fun q => ([] ++ q.1, q.2)) by rw [ho]; simp)
  clear ho
  go_enter Tryz.func48, Tryz.ntmps48
  go_wp2_with fail
  go_loopw [10, 21, 3] (fun lv pv bv wr => EDR o t n w lv pv bv wr) (fun lv _ _ _ => n - lenOf lv)
  case atStart => exact EDR.mk A b.length c b none 0 0 [] 0 (Nat.zero_le _) rfl hr h256 hb hbc hc (ownG_nil _ _ _ _) rfl REL.out (Later.refl _)
  case round =>
    obtain ⟨B, cb, rest, L, cl, k, done, p, hk, rfl, rfl, rfl, hrest, hr256, hrl, hrc, hcb, hown, hdl, hrel, lat⟩ := hrel
    clear hr h256 hb hbc hc REL
    by_cases hlt : k < n
    · have HTK := Lib.hid (refTake_num B rest.length cb rest wr rfl hrc (hrest.later lat) hr256 hrl)
      obtain ⟨j, hj⟩ : ∃ j, n - k = j + 1 := ⟨n - k - 1, by omega⟩
      have hj2 : n - (k + 1) = j := by omega
      rw [hj] at hrel
      have HREL := Lib.hid hrel
      have HOWN := Lib.hid hown
      have HREST := Lib.hid hrest
      have HLAT := Lib.hid lat
      have HDL := Lib.hid hdl
      have H256 := Lib.hid hr256
      have HJ := Lib.hid hj2
      have HNCK := Lib.hid hj
      clear hrel hown hrest lat hdl hr256 hj hj2
      go_wp2_with fail
      refine HTK.out.mono ?_
      rintro e w2 ⟨u, m, ok, hT0, rfl, b2⟩
      have l2 : Later wr w2 := Later.of b2
      have HL2 := Lib.hid (HLAT.out.trans l2)
      have OWN2 := Lib.hid (own_later HOWN.out l2)
      clear b2 l2 HTK HOWN HLAT
      rcases takeR_some hT0 with ⟨rfl, hT⟩ | ⟨rfl, hT⟩
      · obtain ⟨hu64, hm1, hm3⟩ := takeNum_is H256.out hT
        have hm2 : m ≤ rest.length := by rw [hm1]; exact hm3.length_le
        obtain ⟨v, hv⟩ : ∃ v, v = w64 (p + zag u) := ⟨_, rfl⟩
        have hvw : IntKind.i64.wrap (p + zag u) = v := hv.symm
        have HO := Lib.hid (show o = (readE t (n - (k + 1)) v (rest.drop m)).map (fun q => ((done ++ [(t, v, ⟨#[]⟩)]) ++ q.1, q.2)) by rw [HREL.out, readE_some hT, readE_step, HJ.out, ← hv])
        have HZQ := Lib.hid (fun m => refZag_q u w2 m hu64)
        have hlen : (rest.drop m).length = rest.length - m := List.length_drop
        have OK := Lib.hid (show (fl (done ++ [(t, v, ⟨#[]⟩)])) = fl done ++ fl [(t, v, ⟨#[]⟩)] from fl_append _ _)
        have DL := Lib.hid (show (done ++ [(t, v, (⟨#[]⟩ : ByteArray))]).length = k + 1 by rw [List.length_append, HDL.out]; rfl)
        have D256 := Lib.hid (fun x (hx : x ∈ rest.drop m) => H256.out x (List.mem_of_mem_drop hx))
        have hpos : 0 < rest.length := by have := putNum_pos u; omega
        clear hT hm1 hm3 hu64 hv hT0 HREL
        rcases B with _ | ⟨bb, off, inn⟩
        · exfalso
          rcases HREST.out with h | ⟨_, _, h, _⟩
          · have : rest.length = 0 := by have := congrArg List.length h; rw [ints_length] at this; exact this
            omega
          · cases h
        · obtain rfl : inn = none := by
            rcases HREST.out with h | ⟨_, _, h, _⟩
            · have : rest.length = 0 := by have := congrArg List.length h; rw [ints_length] at this; exact this
              omega
            · injection h with h; injection h
          have hmc : m ≤ cb := by omega
          by_cases hcm : cb = m
          · subst hcm
            have hr0 : rest.drop cb = [] := List.drop_of_length_le hrc
            have hl0 : rest.length = cb := by omega
            have HR0 := Lib.hid hr0
            clear hr0 hlen
            go_wp2_with fail
            go_quiet ((go_at_call 69; (with_reducible exact HZQ.out _)))
            rename_i nq
            obtain ⟨wz, hwz⟩ : ∃ wz, wz = w2.drewN nq := ⟨_, rfl⟩
            have OWNZ := Lib.hid (own_later OWN2.out (show Later w2 wz from hwz ▸ (Later.refl _).drewN nq))
            have HAS := Lib.hid ((Blk.new wz (fl [(t, v, ⟨#[]⟩)]).toArray 26 wz.heap.size rfl).has)
            have HL5 := Lib.hid ((show Later w wz from hwz ▸ HL2.out.drewN nq).alloc (.cells (fl [(t, v, ⟨#[]⟩)]).toArray 26))
            rw [← hwz]
            clear hwz
            go_wp2_with (at_builtin; refine wpList_append_g _ rfl (.tmp 137) (.tmp 141) 23 rfl w.heap.size 26 (vagg 0 0 ⟨#[]⟩) 3 32 Tryz.underlying23 info_v rfl (by decide) _ k (fl done) rfl (OWNZ.out.alloc _) _ 1 1 (fl [(t, v, ⟨#[]⟩)]) rfl HAS.out (by rfl) (by intro h; cases h) (fl_one _) (by unfold maxLen; omega) (by omega) ?_ ?_; (exact HL5.out.size); intro A2 c2 w6 o2 g2 b2 n2; have HO2 := Lib.hid o2; have HB6 := Lib.hid b2; have HN2 := Lib.hid n2; clear o2 g2 b2 n2)
            have LL := Lib.hid (Later.of (HL5.out.below.trans HB6.out))
            have HF := Lib.hid (fun (B' : Option Addr) (mb cb' : Nat) (hB : mb = 0) (hc' : cb' = 0) => (by
              subst hB hc'
              exact EDR.mk B' 0 0 (rest.drop cb) A2 c2 (k + 1) (done ++ [(t, v, ⟨#[]⟩)]) v hlt (by rw [HR0.out]; rfl) (by rw [HR0.out]; exact Has.nil_) D256.out (by rw [HR0.out]; exact Nat.zero_le _) (by rw [HR0.out]; exact Nat.zero_le _) (by decide) (by rw [OK.out]; exact HO2.out) DL.out HO.out LL.out : EDR o t n w (.slice A2 (k + 1) c2) (.int .i64 v) (.slice B' mb cb') w6))
            go_roundw
            case rel => exact HF.out _ _ _ (by first | rfl | omega) (by first | rfl | omega)
            case measure => simp [lenOf]; omega
          · have HD := Lib.hid (show Has w (some ⟨bb, off + m, none⟩) (ints .u8 (rest.drop m)) from by have h := HREST.out.drop m; rw [show (ints .u8 rest).drop m = ints .u8 (rest.drop m) by simp [ints, List.map_drop]] at h; exact h)
            have HLEN := Lib.hid hlen
            clear hlen
            go_wp2_with fail
            go_quiet ((go_at_call 69; (with_reducible exact HZQ.out _)))
            rename_i nq
            obtain ⟨wz, hwz⟩ : ∃ wz, wz = w2.drewN nq := ⟨_, rfl⟩
            have OWNZ := Lib.hid (own_later OWN2.out (show Later w2 wz from hwz ▸ (Later.refl _).drewN nq))
            have HAS := Lib.hid ((Blk.new wz (fl [(t, v, ⟨#[]⟩)]).toArray 26 wz.heap.size rfl).has)
            have HL5 := Lib.hid ((show Later w wz from hwz ▸ HL2.out.drewN nq).alloc (.cells (fl [(t, v, ⟨#[]⟩)]).toArray 26))
            rw [← hwz]
            clear hwz
            go_wp2_with (at_builtin; refine wpList_append_g _ rfl (.tmp 137) (.tmp 141) 23 rfl w.heap.size 26 (vagg 0 0 ⟨#[]⟩) 3 32 Tryz.underlying23 info_v rfl (by decide) _ k (fl done) rfl (OWNZ.out.alloc _) _ 1 1 (fl [(t, v, ⟨#[]⟩)]) rfl HAS.out (by rfl) (by intro h; cases h) (fl_one _) (by unfold maxLen; omega) (by omega) ?_ ?_; (exact HL5.out.size); intro A2 c2 w6 o2 g2 b2 n2; have HO2 := Lib.hid o2; have HB6 := Lib.hid b2; have HN2 := Lib.hid n2; clear o2 g2 b2 n2)
            have LL := Lib.hid (Later.of (HL5.out.below.trans HB6.out))
            have HF := Lib.hid (fun (mb cb' : Nat) (hB : mb = rest.length - m) (hc' : cb' = cb - m) => (by
              subst hB hc'
              exact EDR.mk _ (rest.length - m) (cb - m) (rest.drop m) A2 c2 (k + 1) (done ++ [(t, v, ⟨#[]⟩)]) v hlt HLEN.out.symm HD.out D256.out (by have := HLEN.out; omega) (by rw [HLEN.out]; omega) (by omega) (by rw [OK.out]; exact HO2.out) DL.out HO.out LL.out : EDR o t n w (.slice A2 (k + 1) c2) (.int .i64 v) (.slice (some ⟨bb, off + m, none⟩) mb cb') w6))
            go_roundw
            case rel => exact HF.out _ _ (by first | rfl | omega) (by first | rfl | omega)
            case measure => simp [lenOf]; omega
      · have HO := Lib.hid (show o.map Prod.fst = none by rw [HREL.out, readE_none hT]; rfl)
        clear hT HREL hT0
        go_wp2_with fail
        go_ret2
        exact ⟨.inl ⟨HO.out, rfl⟩, HL2.out⟩
    · obtain rfl : k = n := by omega
      rw [Nat.sub_self] at hrel
      have HLAT := Lib.hid lat
      have HHAS := Lib.hid (Has.ownG hown)
      have HCP := Lib.hid (And.intro (ownG_cap hown) (ownG_capmax hown))
      have HDL := Lib.hid hdl
      have HO := Lib.hid (show o.map Prod.fst = some done by rw [hrel]; show some (done ++ []) = _; rw [List.append_nil])
      clear hrel lat hown hdl hrest hr256
      go_wp2_with fail
      go_ret2
      refine ⟨.inr ⟨done, L, cl, HO.out, ?_, HHAS.out, by have := HDL.out; have := HCP.out; omega⟩, HLAT.out⟩
      rw [HDL.out]
      rfl

theorem takeD_bad {t n : Int} {b : List Nat} (h : ¬ ((t = 1 ∨ t = 2) ∧ 0 ≤ n ∧ n ≤ 1000)) : takeD t n b = none := by unfold takeD; rw [if_neg h]
theorem refDecD_c (t n : Int) (A : Option Addr) (c : Nat) (b : List Nat) (w : World) (hr : Has w A (ints .u8 b)) (h256 : ∀ x ∈ b, x < 256) (hb : b.length ≤ 1000000) (hbc : b.length ≤ c) (hc : c ≤ 9223372036854775807) :
    Calls Tryz.prog 26 #[.int .i64 5, .int .i64 t, .int .i64 n, .slice A b.length c] w (TakesV (takeD t n b) w) := by
  by_cases h : (1 ≤ t ∧ t ≤ 4) ∧ 0 ≤ n ∧ n ≤ 1000
  · obtain ⟨m, rfl⟩ : ∃ m : Nat, n = (m : Int) := ⟨n.toNat, by omega⟩
    refine refDec_gen 5 t m A c b w (putD t) _ _ h.1 (by omega) hr h256 hb (fun w' l => refReadD_any t m A c b w' (by omega) (hr.later l) h256 hb hbc hc) (fun L cl l w' h1 h2 h3 => refEncD_any t L cl l w' (by omega) h2 h3) ?_ ?_ ?_ ?_
    · intro l hl
      cases hq : readE t m 0 b with
      | none => rw [hq] at hl; cases hl
      | some q =>
        obtain ⟨l', r⟩ := q
        rw [hq] at hl; cases hl
        obtain ⟨_, h2, h3, _⟩ := readE_is m 0 b h256 _ r hq
        exact ⟨by show l'.length ≤ 1000; omega, h2⟩
    · intro l pb hl hp
      refine ⟨putD_lt hp, ?_⟩
      have := putD_le hp
      cases hq : readE t m 0 b with
      | none => rw [hq] at hl; cases hl
      | some q =>
        obtain ⟨l', r⟩ := q
        rw [hq] at hl; cases hl
        obtain ⟨_, _, h3, _⟩ := readE_is m 0 b h256 _ r hq
        have hp2 : pb.length ≤ l'.length * 10 := this
        omega
    · intro l hl hln hp
      cases hq : readE t m 0 b with
      | none => rw [hq] at hl; cases hl
      | some q =>
        obtain ⟨l', r⟩ := q
        rw [hq] at hl; cases hl
        obtain ⟨h1, h2, h3, h4⟩ := readE_is m 0 b h256 _ r hq
        have := takeD_put h2 (by omega) hp
        rw [hln] at this
        exact this
    · intro hno
      cases hT : takeD t (m : Int) b with
      | none => rfl
      | some l =>
        obtain ⟨h1, h2, h3, _⟩ := takeD_is h256 hT
        unfold takeD at hT
        split at hT
        · rename_i hc
          have e := ((readD_readE m 0 b l).1 hT).1
          exact absurd h1 (hno l (by rw [e]; rfl) (by omega))
        · cases hT
  · rw [takeD_bad (by omega)]; exact (refDec_no 5 t n A _ c w h).mono fun _ _ h => ⟨.inl ⟨rfl, (h.no rfl).1⟩, (h.no rfl).2⟩
theorem refDecD_any (t n : Int) (A : Option Addr) (c : Nat) (b : List Nat) (w : World) (hr : Has w A (ints .u8 b)) (h256 : ∀ x ∈ b, x < 256) (hb : b.length ≤ 1000000) (hbc : b.length ≤ c) (hc : c ≤ 9223372036854775807) :
    Calls Tryz.prog 26 #[.int .i64 5, .int .i64 t, .int .i64 n, .slice A b.length c] w (PutsV (takeD t n b) w) :=
  (refDecD_c t n A c b w hr h256 hb hbc hc).mono fun _ _ h => h.puts
end Go.Proofs.YtldalkhmbpkjpaaGreatDoor
