/- The walk of DeltaEven. -/
import Derived.Test.YtdhaagooiioglaaDoorDeltaLaw
import Derived.BigQuiet
import Derived.Deep.RegionHeld3
import Derived.RegionTactic
import Derived.Deep.RegionLaw
namespace Go.Proofs.YtdhaagooiioglaaDoor
open Go.RowKit
set_option linter.unusedVariables false

/-- Numbers that rise by as much each. -/
abbrev ev (f s : Int) (i : Nat) : Val3 := (2, f + (i : Int) * s, ⟨#[]⟩)
def evens (f s : Int) (k : Nat) : List Val3 := (List.range k).map (ev f s)
theorem evens_len (f s : Int) (k : Nat) : (evens f s k).length = k := by unfold evens; rw [List.length_map, List.length_range]
theorem evens_succ (f s : Int) (k : Nat) : evens f s (k + 1) = evens f s k ++ [ev f s k] := by unfold evens; rw [List.range_succ, List.map_append]; rfl
theorem evens_take (f s : Int) (k j : Nat) (h : j ≤ k) : (evens f s k).take j = evens f s j := by
  unfold evens
  rw [← List.map_take, List.take_range, Nat.min_eq_left h]
theorem evens_ok (f s : Int) (k : Nat) : OkL 2 (evens f s k) := fun x hx => by
  obtain ⟨i, _, rfl⟩ := List.mem_map.1 hx
  exact ⟨rfl, by unfold MayV; right; right; left; exact ⟨rfl, rfl⟩⟩
theorem mul_bd (s : Int) (h1 : -32768 ≤ s) (h2 : s ≤ 32767) : ∀ j : Nat, -32768 * (j : Int) ≤ (j : Int) * s ∧ (j : Int) * s ≤ 32768 * (j : Int)
  | 0 => by simp
  | j + 1 => by
    have ih := mul_bd s h1 h2 j
    have e : ((j + 1 : Nat) : Int) * s = (j : Int) * s + s := by rw [Int.natCast_add, Int.add_mul]; simp
    rw [e]
    omega
theorem evens_64 (f s : Int) (k : Nat) (hf : -2147483648 ≤ f ∧ f ≤ 2147483647) (hs : -32768 ≤ s ∧ s ≤ 32767) (hk : k ≤ 100) : All64 (evens f s k) := fun x hx => by
  obtain ⟨i, hi, rfl⟩ := List.mem_map.1 hx
  have h := mul_bd s hs.1 hs.2 i
  have := List.mem_range.1 hi
  unfold In64
  show _ ≤ f + (i : Int) * s ∧ f + (i : Int) * s ≤ _
  omega
/-- So often the same bytes. -/
def repB (S : List Nat) : Nat → List Nat
  | 0 => []
  | n + 1 => repB S n ++ S
theorem repB_len (S : List Nat) : ∀ n, (repB S n).length = n * S.length
  | 0 => by simp [repB]
  | n + 1 => by unfold repB; rw [List.length_append, repB_len S n, Nat.succ_mul]
theorem repB_front (S : List Nat) : ∀ n, repB S (n + 1) = S ++ repB S n
  | 0 => by simp [repB]
  | n + 1 => by
    show repB S (n + 1) ++ S = S ++ (repB S n ++ S)
    rw [repB_front S n, List.append_assoc]
theorem evens_B (f s : Int) (hf : -2147483648 ≤ f ∧ f ≤ 2147483647) (hs : -32768 ≤ s ∧ s ≤ 32767) : ∀ k, stepsB 0 (evens f s (k + 1)) = putNum (zig f) ++ repB (putNum (zig s)) k
  | 0 => by
    show putNum (zig (w64 (f + ((0 : Nat) : Int) * s - 0))) ++ [] = putNum (zig f) ++ []
    rw [show f + ((0 : Nat) : Int) * s - 0 = f by simp, w64_of (by unfold In64; omega)]
  | k + 1 => by
    rw [evens_succ, stepsB_snoc, evens_B f s hf hs k, List.append_assoc]
    congr 1
    have hl : lastI 0 (evens f s (k + 1)) = f + (k : Int) * s := by rw [evens_succ, lastI_snoc]
    rw [hl]
    have e : ((k + 1 : Nat) : Int) * s = (k : Int) * s + s := by rw [Int.natCast_add, Int.add_mul]; simp
    show repB _ k ++ putNum (zig (w64 (f + ((k + 1 : Nat) : Int) * s - (f + (k : Int) * s)))) = repB _ k ++ putNum (zig s)
    rw [e, show f + ((k : Int) * s + s) - (f + (k : Int) * s) = s by omega, w64_of (by unfold In64; omega)]
theorem evens_put (f s : Int) (k : Nat) : putD 2 (evens f s k) = some (stepsB 0 (evens f s k)) := by unfold putD; rw [if_pos ⟨.inr rfl, evens_ok f s k⟩]
def EvInv (f s : Int) (k : Nat) (w : World) (lv iv : Value) (wr : World) : Prop :=
  ∃ (L : Option Addr) (cl j : Nat), lv = .slice L j cl ∧ iv = .int .i64 (j : Int) ∧ j ≤ k ∧ wr.ownsRow w.heap.size 26 3 (.slice L j cl) j (fl (evens f s j)) ∧ Later w wr
theorem EvInv.mk {f s : Int} {k : Nat} {w wr : World} (L : Option Addr) (cl m j : Nat) (i : Int) (hm : m = j) (hi : i = (j : Int)) (h1 : j ≤ k) (h2 : wr.ownsRow w.heap.size 26 3 (.slice L m cl) m (fl (evens f s j))) (h3 : Later w wr) : EvInv f s k w (.slice L m cl) (.int .i64 i) wr := by
  subst hm hi; exact ⟨L, cl, m, rfl, rfl, h1, h2, h3⟩

set_option maxRecDepth 100000 in
set_option maxHeartbeats 4000000 in
theorem deltaEven_walk (f s : Int) (n : Nat) (w : World) (hs : S6 w) (hf : -2147483648 ≤ f ∧ f ≤ 2147483647) (hsb : -32768 ≤ s ∧ s ≤ 32767) (hn : n < 256) :
    Calls Tryd.prog 12 #[.int .i32 f, .int .i16 s, .int .u8 n] w fun e w' => e = .returned (.bool true) ∧ Later w w' := by
  have HB := Lib.hid (begun9_any w hs)
  have HS := Lib.hid hs
  obtain ⟨k, hk⟩ : ∃ k : Nat, k = 2 + n % 60 := ⟨_, rfl⟩
  have hk2 : 2 ≤ k := by omega
  have hk9 : k ≤ 61 := by omega
  have HK := Lib.hid (show 2 + (n : Int) % 60 = (k : Int) by omega)
  have HF := Lib.hid hf
  have HSB := Lib.hid hsb
  have hfw : IntKind.i64.wrap f = f := IntWalk.i64_in _ ⟨by omega, by omega⟩
  have hsw : IntKind.i64.wrap s = s := IntWalk.i64_in _ ⟨by omega, by omega⟩
  clear hs hk hf hsb
  go_enter Tryd.func12, Tryd.ntmps12
  go_wp2_with fail
  refine HB.out.mono ?_
  rintro e w1 ⟨rfl, l1⟩
  have HL1 := Lib.hid l1
  clear l1 HB
  go_wp2_with fail
  rw [HK.out]
  go_loopw [8, 9] (fun lv iv wr => EvInv f s k w lv iv wr) (fun _ iv _ => k - (intOf iv).toNat)
  case atStart => exact EvInv.mk none 0 0 0 0 rfl rfl (Nat.zero_le _) (ownG_nil _ _ _ _) HL1.out
  case round =>
    obtain ⟨L, cl, j, rfl, rfl, hj, hown, lat⟩ := hrel
    by_cases hlt : j < k
    · obtain ⟨q, hq⟩ : ∃ q, q = (j : Int) * s := ⟨_, rfl⟩
      obtain ⟨v, hv⟩ : ∃ v, v = f + q := ⟨_, rfl⟩
      have hbd := mul_bd s HSB.out.1 HSB.out.2 j
      rw [← hq] at hbd
      have hqw : IntKind.i64.wrap ((j : Int) * s) = q := by rw [← hq]; exact IntWalk.i64_in _ ⟨by omega, by omega⟩
      have hvw : IntKind.i64.wrap (f + q) = v := by rw [← hv]; have := HF.out; exact IntWalk.i64_in _ ⟨by omega, by omega⟩
      have HAS := Lib.hid ((Blk.new wr (fl [((2 : Int), v, (⟨#[]⟩ : ByteArray))]).toArray 26 _ rfl).has)
      have O2 := Lib.hid (hown.alloc (.cells (fl [((2 : Int), v, (⟨#[]⟩ : ByteArray))]).toArray 26))
      have LT2 := Lib.hid (lat.alloc (.cells (fl [((2 : Int), v, (⟨#[]⟩ : ByteArray))]).toArray 26))
      have HREP := Lib.hid (show evens f s (j + 1) = evens f s j ++ [((2 : Int), v, (⟨#[]⟩ : ByteArray))] by rw [evens_succ, hv, hq])
      clear hown lat hq hv hbd
      go_wp2_with (at_builtin; refine wpList_append_g _ rfl (.tmp 28) (.tmp 37) 23 rfl w.heap.size 26 (vagg 0 0 ⟨#[]⟩) 3 32 Tryd.underlying23 info_v rfl (by decide) _ j (fl (evens f s j)) rfl O2.out _ 1 1 (fl [((2 : Int), v, (⟨#[]⟩ : ByteArray))]) rfl HAS.out (by rfl) (by intro h; cases h) (fl_one _) (by unfold maxLen; omega) (by omega) ?_ ?_; (exact LT2.out.size); intro A2 c2 w6 o2 g2 b2 n2; have HO2 := Lib.hid o2; have HB6 := Lib.hid b2; clear o2 g2 b2 n2)
      go_roundw
      case rel => exact EvInv.mk A2 c2 _ (j + 1) _ rfl (by omega) hlt (by rw [HREP.out, fl_append]; exact HO2.out) (Later.of (LT2.out.below.trans HB6.out))
      case measure => simp [intOf]; omega
    · obtain rfl : j = k := by omega
      obtain ⟨r, hr⟩ : ∃ r, j = r + 2 := ⟨j - 2, by omega⟩
      have hcap := ownG_cap hown
      have hcm := ownG_capmax hown
      have HAS := Lib.hid (Has.ownG hown)
      have HLAT := Lib.hid lat
      obtain ⟨O, hO⟩ : ∃ O, O = putNum (zig f) := ⟨_, rfl⟩
      obtain ⟨S, hS⟩ : ∃ S, S = putNum (zig s) := ⟨_, rfl⟩
      obtain ⟨M, hM⟩ : ∃ M, M = repB S r := ⟨_, rfl⟩
      have hb1 : putD 2 (evens f s 1) = some O := by rw [evens_put, evens_B f s HF.out HSB.out 0, hO]; show some (_ ++ []) = _; rw [List.append_nil]
      have hb2 : putD 2 (evens f s 2) = some (O ++ S) := by rw [evens_put, evens_B f s HF.out HSB.out 1, hO, hS]; rfl
      have hbj : putD 2 (evens f s j) = some (O ++ (M ++ S)) := by
        rw [evens_put, hr, evens_B f s HF.out HSB.out (r + 1), hO, hM, hS]; rfl
      have HFR := Lib.hid (show O ++ (M ++ S) = (O ++ S) ++ M by
        rw [hM, List.append_assoc, ← repB_front]; rfl)
      have HML := Lib.hid (show M.length = r * S.length by rw [hM, repB_len])
      have hS1 : 0 < S.length := by rw [hS]; exact putNum_pos _
      have hS2 : S.length ≤ 10 := by rw [hS]; exact putNum_le _
      have hO2 : O.length ≤ 10 := by rw [hO]; exact putNum_le _
      obtain ⟨BJ, hBJ⟩ : ∃ BJ, BJ = O ++ (M ++ S) := ⟨_, rfl⟩
      obtain ⟨B2, hB2⟩ : ∃ B2, B2 = O ++ S := ⟨_, rfl⟩
      rw [← hBJ] at hbj
      rw [← hB2] at hb2
      have HBJ := Lib.hid hBJ
      have HB2 := Lib.hid hB2
      have HP0 := Lib.hid hbj
      have HP1 := Lib.hid hb1
      have HP2 := Lib.hid hb2
      have hll := evens_len f s j
      have HPJ := Lib.hid (deltaPut_any 2 L cl (evens f s j) wr (HS.out.later lat) (by rw [hll]; omega) HAS.out (evens_64 f s j HF.out HSB.out (by omega)))
      rw [hll] at HPJ
      have hi1 : (1 : Int) ≤ (cl : Int) := by omega
      have hi2 : (2 : Int) ≤ (cl : Int) := by omega
      have HR := Lib.hid hr
      clear hown lat hO hS hM hb1 hb2 hbj hll hr hBJ hB2
      go_wp2_with fail
      refine HPJ.out.mono ?_
      intro e w2 h
      obtain ⟨PA, pc, rfl, ph, hp1, hp2, _, l2⟩ := h.yes HP0.out
      have HPH := Lib.hid ph
      have HL2 := Lib.hid (HLAT.out.trans l2)
      have e1 := evens_len f s 1
      have HPA := Lib.hid (deltaPut_any 2 L cl (evens f s 1) w2 (HS.out.later HL2.out) (by rw [e1]; omega) (by
        have h := (HAS.out.later l2).take 3
        rw [← fl_take _ 1, evens_take f s j 1 (by omega)] at h
        exact h) (evens_64 f s 1 HF.out HSB.out (by omega)))
      rw [e1] at HPA
      clear h ph HPJ e1
      go_wp2_with fail
      refine HPA.out.mono ?_
      intro e w3 h
      obtain ⟨QA, qc, rfl, _, _, _, _, l3⟩ := h.yes HP1.out
      have HL3 := Lib.hid (HL2.out.trans l3)
      have e2 := evens_len f s 2
      have HPB := Lib.hid (deltaPut_any 2 L cl (evens f s 2) w3 (HS.out.later HL3.out) (by rw [e2]; omega) (by
        have h := (HAS.out.later (l2.trans l3)).take 6
        rw [← fl_take _ 2, evens_take f s j 2 (by omega)] at h
        exact h) (evens_64 f s 2 HF.out HSB.out (by omega)))
      rw [e2] at HPB
      have HPH3 := Lib.hid (HPH.out.later l3)
      clear h l2 l3 HPA e2 HPH HL2
      go_wp2_with fail
      refine HPB.out.mono ?_
      intro e w4 h
      obtain ⟨RA, rc, rfl, rh, hr1, hr2, _, l4⟩ := h.yes HP2.out
      have HL4 := Lib.hid (HL3.out.trans l4)
      have ph4 := HPH3.out.later l4
      clear h l4 HPB HPH3 HL3
      -- the lengths
      obtain ⟨N, hN⟩ : ∃ N, N = BJ.length := ⟨_, rfl⟩
      obtain ⟨N2, hN2⟩ : ∃ N2, N2 = B2.length := ⟨_, rfl⟩
      obtain ⟨N1, hN1⟩ : ∃ N1, N1 = O.length := ⟨_, rfl⟩
      obtain ⟨st, hst⟩ : ∃ st, st = S.length := ⟨_, rfl⟩
      have a2 : N2 = N1 + st := by rw [hN2, HB2.out, hN1, hst, List.length_append]
      have aN : N = N1 + r * st + st := by rw [hN, HBJ.out, hN1, hst, List.length_append, List.length_append, HML.out]; omega
      have bMl : M.length = r * st := by rw [HML.out, hst]
      obtain ⟨p, hp⟩ : ∃ p, p = (r + 1) * st := ⟨_, rfl⟩
      have hp' : p = r * st + st := by rw [hp, Nat.succ_mul]
      obtain ⟨rs, hrs⟩ : ∃ rs, rs = r * st := ⟨_, rfl⟩
      rw [← hrs] at hp' aN bMl
      have hrs9 : rs ≤ 61 * 10 := by rw [hrs]; exact Nat.mul_le_mul (by have := HR.out; omega) (by omega)
      obtain ⟨lo, hlo⟩ : ∃ lo, lo = N1 + rs := ⟨_, rfl⟩
      obtain ⟨pb, off, rfl, hpb, hpc⟩ : ∃ pb off, PA = some ⟨pb, off, none⟩ ∧ pb < w4.heap.size ∧ Has w4 (some ⟨pb, off, none⟩) (ints .u8 BJ) := by
        rcases ph4 with h | ⟨b, o, h1, h2, h3⟩
        · have := congrArg List.length h; rw [ints_length, ← hN] at this; have : N = 0 := this; omega
        · exact ⟨b, o, h1, h2, h1 ▸ .inr ⟨b, o, h1, h2, h3⟩⟩
      obtain ⟨rb, ro, rfl, hrb, hrc⟩ : ∃ rb ro, RA = some ⟨rb, ro, none⟩ ∧ rb < w4.heap.size ∧ Has w4 (some ⟨rb, ro, none⟩) (ints .u8 B2) := by
        rcases rh with h | ⟨b, o, h1, h2, h3⟩
        · have := congrArg List.length h; rw [ints_length, ← hN2] at this; have : N2 = 0 := this; omega
        · exact ⟨b, o, h1, h2, h1 ▸ .inr ⟨b, o, h1, h2, h3⟩⟩
      have cvB := conv_str (some ⟨rb, ro, none⟩) N2 rc B2 hN2 w4.drew _ (hrc.later (Later.refl w4).drew)
      have cvA := conv_str (some ⟨pb, off, none⟩) N2 pc B2 hN2 w4.drew _ (by
        have h := (hpc.later (Later.refl w4).drew).take N2
        rw [ints_take, HBJ.out, HFR.out, ← HB2.out, List.take_left' hN2.symm] at h
        exact h)
      have cvC := conv_str (some ⟨pb, off + lo, none⟩) (N - lo) (pc - lo) S (by omega) w4.drew _ (by
        have h := (hpc.later (Later.refl w4).drew).drop lo
        rw [show (ints .u8 BJ).drop lo = ints .u8 (BJ.drop lo) by simp [ints, List.map_drop], HBJ.out, ← List.append_assoc, List.drop_left' (by rw [List.length_append]; omega)] at h
        exact h)
      have cvD := conv_str (some ⟨rb, ro + N1, none⟩) (N2 - N1) (rc - N1) S (by omega) w4.drew _ (by
        have h := (hrc.later (Later.refl w4).drew).drop N1
        rw [show (ints .u8 B2).drop N1 = ints .u8 (B2.drop N1) by simp [ints, List.map_drop], HB2.out, List.drop_left' hN1.symm] at h
        exact h)
      rw [← hN] at hp1 ⊢
      rw [← hN1, ← hN2]
      rw [← hN2] at hr1
      have hrj := HR.out
      have dA : decide ((N2 : Int) ≤ (N1 : Int)) = false := by simp; omega
      have dA2 : decide (N2 ≤ N1) = false := by simp; omega
      have dA3 : ¬ N2 ≤ N1 := by omega
      have sub1 : (N2 : Int) - (N1 : Int) = (st : Int) := by omega
      have sub1w : IntKind.i64.wrap ((N2 : Int) - (N1 : Int)) = (st : Int) := by rw [sub1]; exact IntWalk.i64_in _ ⟨by omega, by omega⟩
      obtain ⟨r1, hr1'⟩ : ∃ r1, r1 = r + 1 := ⟨_, rfl⟩
      have sub2w : IntKind.i64.wrap ((j : Int) - 1) = (r1 : Int) := by rw [show (j : Int) - 1 = (r1 : Int) by omega]; exact IntWalk.i64_in _ ⟨by omega, by omega⟩
      have hmul : (r1 : Int) * (st : Int) = (p : Int) := by rw [hp, hr1']; exact (Int.natCast_mul (r + 1) st).symm
      have hmulw : IntKind.i64.wrap ((r1 : Int) * (st : Int)) = (p : Int) := by rw [hmul]; exact IntWalk.i64_in _ ⟨by omega, by omega⟩
      have hadd : (N1 : Int) + (p : Int) = (N : Int) := by omega
      have haddw : IntKind.i64.wrap ((N1 : Int) + (p : Int)) = (N : Int) := by rw [hadd]; exact IntWalk.i64_in _ ⟨by omega, by omega⟩
      have sub3 : (N : Int) - (st : Int) = (lo : Int) := by omega
      have sub3w : IntKind.i64.wrap ((N : Int) - (st : Int)) = (lo : Int) := by rw [sub3]; exact IntWalk.i64_in _ ⟨by omega, by omega⟩
      have i0 : (0 : Int) ≤ (N2 : Int) := by omega
      have i1 : (N2 : Int) ≤ (pc : Int) := by omega
      have i2 : (0 : Int) ≤ (lo : Int) := by omega
      have i3 : (lo : Int) ≤ (N : Int) := by omega
      have i4 : (N1 : Int) ≤ (N2 : Int) := by omega
      have i5 : (0 : Int) ≤ (N1 : Int) := by omega
      have i6 : N2 ≤ pc := by omega
      have i7 : lo ≤ N := by omega
      have i8 : N1 ≤ N2 := by omega
      have i9 : ¬ pc = lo := by omega
      have i10 : ¬ rc = N1 := by omega
      clear hN hN1 hN2 hst a2 aN bMl hp hp' hrs hrs9 hlo hpb hrb hpc hrc ph4 rh hrj hr1' hS1 hS2 hO2 HP0 HP1 HP2 HML HFR HR sub1 hmul hadd sub3 hk2 hj hlt
      go_wp2_with fail
      first
        | go_region_held3 (fun w' => (convert 22 9 (.slice (some ⟨rb, ro, none⟩) N2 rc)).run Tryd.prog w' = .ok (.string (bstr B2)) w' ∧ (convert 22 9 (.slice (some ⟨pb, off, none⟩) N2 pc)).run Tryd.prog w' = .ok (.string (bstr B2)) w' ∧ (convert 22 9 (.slice (some ⟨pb, off + lo, none⟩) (N - lo) (pc - lo))).run Tryd.prog w' = .ok (.string (bstr S)) w' ∧ (convert 22 9 (.slice (some ⟨rb, ro + N1, none⟩) (N2 - N1) (rc - N1))).run Tryd.prog w' = .ok (.string (bstr S)) w') (exact ⟨cvB, cvA, cvC, cvD⟩) (fail)
        | fail "no walk"
      all_goals try simp [Act.put]
      all_goals go_wp2_with fail
      all_goals go_ret
      all_goals exact ⟨rfl, HL4.out.drew⟩
end Go.Proofs.YtdhaagooiioglaaDoor
