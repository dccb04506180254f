/- The walk of BitsBack: true. -/
import Derived.Test.YtbmlipandjbbbaaLawA
import Derived.Test.YtbmlipandjbbbaaAppend
namespace Go.Proofs.Ytbmlipandjbbbaa
open Go.RowKit
set_option linter.unusedVariables false

theorem back_long (A : Option Addr) (n c : Nat) (z : Int) (w : World) (h : 40 < n) :
    Calls Try.prog 4 #[.slice A n c, .int .u8 z] w fun e w' => e = .returned (.bool true) ∧ Below w.heap.size w w' := by
  go_enter Try.func4, Try.ntmps4
  go_wp2_with fail
  refine (begun_any _).mono ?_
  rintro e wb ⟨rfl, bb⟩
  have BB := Lib.hid bb
  clear bb
  go_wp2_with fail
  go_ret
  exact ⟨rfl, BB.out⟩

theorem min_w (a r : Nat) : min ((a : Int) + ((r : Int) % 9)) 64 = ((min (a + r % 9) 64 : Nat) : Int) := by omega

theorem back_walk (A : Option Addr) (c : Nat) (l : List Nat) (r : Nat) (w : World) (hr : Rd w w.heap.size A (ints .u64 l)) (h64 : ∀ x ∈ l, x < 18446744073709551616) (hl : l.length ≤ 40) (hlc : l.length ≤ c) (hr8 : r < 256) :
    Calls Try.prog 4 #[.slice A l.length c, .int .u8 r] w fun e w' => e = .returned (.bool true) ∧ Below w.heap.size w w' := by
  have HR := Lib.hid hr
  clear hr
  obtain ⟨k, hk⟩ : ∃ k, k = min (widL l + r % 9) 64 := ⟨_, rfl⟩
  have hk64 : k ≤ 64 := by omega
  have hw64 := widL_le64 l h64
  have hwk : widL l ≤ k := by omega
  have HW := Lib.hid hwk
  have HM := Lib.hid (show min ((widL l : Int) + ((r : Int) % 9)) 64 = (k : Int) by rw [hk]; exact min_w _ _)
  clear hk hwk
  go_enter Try.func4, Try.ntmps4
  go_wp2_with fail
  refine (begun_any _).mono ?_
  rintro e wb ⟨rfl, bb⟩
  have BB := Lib.hid bb
  have zb := bb.size
  clear bb
  have hm := HM.out
  go_wp2_with (go_at_call 13; refine (width_at A _ c l (widL l) wb w.heap.size rfl rfl (HR.out.below BB.out) (by omega) h64).mono ?_; rintro e w' ⟨rfl, rfl⟩)
  have hwx := (widL_le l k).1 HW.out
  have hlk : l.length * k ≤ 2560 := Nat.le_trans (Nat.mul_le_mul hl hk64) (by decide)
  have h1 : (l.length : Int) * (k : Int) ≤ 2560 := by have := Int.ofNat_le.2 hlk; simpa using this
  have h0 : 0 ≤ (l.length : Int) * (k : Int) := Int.mul_nonneg (by omega) (by omega)
  obtain ⟨m, hmm⟩ : ∃ m, m = (l.length * k + 7) / 8 := ⟨_, rfl⟩
  have hm8 : m ≤ 400 := by omega
  have hme : ((l.length : Int) * (k : Int) + 7) / 8 = (m : Int) := by rw [hmm]; simp
  have hmne : ((m : Int) != (m : Int)) = false := by simp
  obtain ⟨q1, q2, q3⟩ := back_bytes k m l hwx hmm
  have HQ1 := Lib.hid q1
  have HQ2 := Lib.hid q2
  have HQ3 := Lib.hid q3
  have HMM := Lib.hid hmm
  have HWX := Lib.hid hwx
  obtain ⟨bs, hbs⟩ : ∃ bs, bs = chop 8 (cat k l) m := ⟨_, rfl⟩
  have hbl : bs.length = m := by rw [hbs, chop_length]
  have hb256 : ∀ x ∈ bs, x < 256 := by rw [hbs]; exact chop_lt 8 m _
  have HBL := Lib.hid hbl
  have HBS := Lib.hid hbs
  clear q1 q2 q3 hmm hwx hbs hbl hm HM
  refine (put_yes A l.length c l k k m wb.heap.size wb rfl rfl HMM.out rfl ((HR.out.below BB.out).more zb) (by omega) h64 hk64 HW.out).mono ?_
  rintro e w1 ⟨rfl, r1, b1⟩
  rw [← HBS.out] at r1
  have z1 := r1.lt
  have R1 := Lib.hid r1
  have HB1 := Lib.hid (BB.out.trans (b1.mono zb))
  clear r1 b1 BB
  go_wp2_with fail
  refine (take_yes (some ⟨wb.heap.size, 0, none⟩) m m bs l.length k l.length k w1.heap.size w1 HBL.out.symm rfl rfl rfl (by have := R1.out.rd; exact this) hb256 (by have := HBL.out; omega) (by omega) hk64 (by rw [HBL.out]; exact HMM.out)
    (by rw [HBS.out, HQ1.out]; exact HQ2.out)).mono ?_
  rintro e w2 ⟨rfl, r2, b2⟩
  rw [HBS.out, HQ1.out, HQ3.out] at r2
  have z2 := r2.lt
  have R12 := Lib.hid (R1.out.below b2 z1)
  have R2 := Lib.hid r2
  have HB2 := Lib.hid (HB1.out.trans (b2.mono (by omega)))
  have HO := Lib.hid (show (w2.alloc (.cells #[] 5)).ownsRow w2.heap.size 5 1 (.slice (some ⟨w2.heap.size, 0, none⟩) 0 0) 0 [] from (Row.lit w2 5 .u8 []).own (Nat.le_refl _) (by simp))
  have HRD := Lib.hid ((R12.out.alloc (.cells #[] 5)).rd)
  clear r2 b2 HB1 R1
  go_wp2_with (first
    | (at_builtin; refine wpList_append_rd _ rfl (.tmp 56) (.tmp 57) 23 rfl w2.heap.size 5 (.int .u8 0) 1 Try.underlying23 info_u8 rfl _ 0 [] rfl HO.out _ _ m m (ints .u8 bs) rfl HRD.out ?_ ?_ (ints_one _ _) ?_ ?_ ?_ ?_; (rw [ints_length]; exact HBL.out.symm); (intro h; cases h); (unfold maxLen; omega); omega; (simp); intro A1 c1 w4 o1 g1 b1 n1; simp only [Nat.zero_add, List.nil_append] at o1; have HO1 := Lib.hid (o1.alloc (.cells #[.int .u8 0] 5)); have HG1 := Lib.hid g1; have HB4 := Lib.hid b1; have HN1 := Lib.hid n1; have z4 := b1.size; (simp at z4); clear o1 g1 b1 n1)
    | (at_builtin; refine wpList_append_rd _ rfl (.tmp 58) (.tmp 59) 23 rfl w2.heap.size 5 (.int .u8 0) 1 Try.underlying23 info_u8 rfl _ m (ints .u8 bs) rfl HO1.out _ _ 1 1 (ints .u8 [0]) rfl (rd_lit w4 _ .u8 [0] _ rfl) ?_ ?_ (ints_one _ _) ?_ ?_ ?_ ?_; rfl; (intro h; cases h); (unfold maxLen; omega); omega; (simp; omega); intro A2 c2 w5 o2 g2 b2 n2; have HO2 := Lib.hid o2; have HG2 := Lib.hid g2; have HB5 := Lib.hid b2; have HN2 := Lib.hid n2; clear o2 g2 b2 n2))
  refine (take_no A2 (m + 1) c2 (bs ++ [0]) l.length k w5 _ (by rw [List.length_append, HBL.out]; rfl) (by have := Rd.own HO2.out; rw [ints_snoc]; exact this) (by intro x hx; rcases List.mem_append.1 hx with h | h; exact hb256 x h; simp at h; omega) (by rw [List.length_append, HBL.out]; simp; omega)
    (notOK l.length k rfl rfl (by intro h; have := h.2.2.1; rw [List.length_append, HBL.out] at this; have := HMM.out; simp at *; omega))).mono ?_
  rintro e w6 ⟨rfl, rfl⟩
  have B25 : Below w2.heap.size w2 w5 := ((((Below.refl _ w2).alloc (Nat.le_refl _) _).trans HB4.out).alloc (by omega) _).trans HB5.out
  have RB := Lib.hid (R12.out.below B25 (by omega))
  have RX := Lib.hid (R2.out.below B25 z2)
  have HB6 := Lib.hid (HB2.out.trans (B25.mono (by omega)))
  have hll : ((l.length : Int) != (l.length : Int)) = false := by simp
  clear B25 HB2 HO HRD HO1 HG1 HB4 HN1 HO2 HG2 HB5 HN2 R2 R12
  by_cases hm0 : 0 < m
  · go_wp2_with fail
    refine (take_no (some ⟨wb.heap.size, 0, none⟩) (m - 1) m (bs.take (m - 1)) l.length k w5 _ (by rw [List.length_take, HBL.out]; omega) (by rw [← ints_take]; exact RB.out.rd.take _) (fun x hx => hb256 x (List.mem_of_mem_take hx)) (by rw [List.length_take, HBL.out]; omega)
      (notOK l.length k rfl rfl (by intro h; have := h.2.2.1; rw [List.length_take, HBL.out] at this; have := HMM.out; omega))).mono ?_
    rintro e w6 ⟨rfl, rfl⟩
    go_wp2_with fail
    go_loopw [13] (fun i wr => ∃ j : Nat, j ≤ l.length ∧ i = .int .i64 j ∧ wr.heap = w5.heap ∧ Below w.heap.size w wr) (fun i _ => l.length - (intOf i).toNat)
    case atStart => exact ⟨0, Nat.zero_le _, rfl, rfl, HB6.out⟩
    case round =>
      obtain ⟨j, hj, rfl, hh, hbel⟩ := hrel
      by_cases hlt : j < l.length
      · have hcx := (show Row wr w1.heap.size 32 .u64 l from by unfold Row; rw [hh]; exact RX.out).cell j hlt
        obtain ⟨b, off, rfl, hb, hc⟩ := (HR.out.below hbel).at_ (k := j) (by rw [ints_length]; exact hlt)
        simp only [ints, List.getElem_map] at hc
        have HH := Lib.hid hh
        have HBL2 := Lib.hid hbel
        obtain ⟨x, hxe⟩ : ∃ x, x = l[j] := ⟨_, rfl⟩
        rw [← hxe] at hcx hc
        have hxx : ((x : Int) != (x : Int)) = false := by simp
        clear hxe hh hbel
        go_wp2_with fail
        go_region
        all_goals go_wp2_with fail
        all_goals go_roundw
        case rel => exact ⟨j + 1, hlt, by go_num, HH.out, HBL2.out.drew⟩
        case measure => simp [intOf]; omega
      · have HBL2 := Lib.hid hbel
        have HRW := Lib.hid ((HR.out.below hbel))
        clear hh hbel
        go_wp2_with (go_at_call 13; refine (width_at A _ c l (widL l) wr w.heap.size rfl rfl HRW.out (by omega) h64).mono ?_; rintro e w' ⟨rfl, rfl⟩)
        refine (put_no A l.length c l ((widL l : Int) - 1) wr w.heap.size rfl HRW.out (by omega) h64 (by omega)).mono ?_
        rintro e w7 ⟨rfl, rfl⟩
        go_wp2_with fail
        go_ret
        exact ⟨rfl, HBL2.out⟩
  · go_wp2_with fail
    go_loopw [13] (fun i wr => ∃ j : Nat, j ≤ l.length ∧ i = .int .i64 j ∧ wr.heap = w5.heap ∧ Below w.heap.size w wr) (fun i _ => l.length - (intOf i).toNat)
    case atStart => exact ⟨0, Nat.zero_le _, rfl, rfl, HB6.out⟩
    case round =>
      obtain ⟨j, hj, rfl, hh, hbel⟩ := hrel
      by_cases hlt : j < l.length
      · have hcx := (show Row wr w1.heap.size 32 .u64 l from by unfold Row; rw [hh]; exact RX.out).cell j hlt
        obtain ⟨b, off, rfl, hb, hc⟩ := (HR.out.below hbel).at_ (k := j) (by rw [ints_length]; exact hlt)
        simp only [ints, List.getElem_map] at hc
        have HH := Lib.hid hh
        have HBL2 := Lib.hid hbel
        obtain ⟨x, hxe⟩ : ∃ x, x = l[j] := ⟨_, rfl⟩
        rw [← hxe] at hcx hc
        have hxx : ((x : Int) != (x : Int)) = false := by simp
        clear hxe hh hbel
        go_wp2_with fail
        go_region
        all_goals go_wp2_with fail
        all_goals go_roundw
        case rel => exact ⟨j + 1, hlt, by go_num, HH.out, HBL2.out.drew⟩
        case measure => simp [intOf]; omega
      · have HBL2 := Lib.hid hbel
        have HRW := Lib.hid ((HR.out.below hbel))
        clear hh hbel
        go_wp2_with (go_at_call 13; refine (width_at A _ c l (widL l) wr w.heap.size rfl rfl HRW.out (by omega) h64).mono ?_; rintro e w' ⟨rfl, rfl⟩)
        refine (put_no A l.length c l ((widL l : Int) - 1) wr w.heap.size rfl HRW.out (by omega) h64 (by omega)).mono ?_
        rintro e w7 ⟨rfl, rfl⟩
        go_wp2_with fail
        go_ret
        exact ⟨rfl, HBL2.out⟩
end Go.Proofs.Ytbmlipandjbbbaa
