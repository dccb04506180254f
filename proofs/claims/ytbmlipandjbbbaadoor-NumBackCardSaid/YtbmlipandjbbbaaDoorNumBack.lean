/- The walk of NumBack. -/
import Derived.Test.YtbmlipandjbbbaaDoorNumLawA
import Derived.Test.YtbmlipandjbbbaaDoorSent
namespace Go.Proofs.YtbmlipandjbbbaaDoor
open Go.RowKit
set_option linter.unusedVariables false

set_option maxRecDepth 100000 in
theorem numBack_long (u ww : Nat) (v : Int) (A : Option Addr) (n c : Nat) (k : Int) (a : Addr) (w : World) (hs : Sent w w.heap.size a) (h : 20 < n) :
    Calls Tryd.prog 9 #[.int .u64 u, .int .u64 ww, .int .i64 v, .slice A n c, .int .u8 k] w fun e w' => e = .returned (.bool true) ∧ Below w.heap.size w w' := by
  have HS := Lib.hid hs
  clear hs
  go_enter Tryd.func9, Tryd.ntmps9
  go_wp2_with fail
  refine (begun2_any a w HS.out).mono ?_
  rintro e wb ⟨rfl, bb⟩
  have BB := Lib.hid bb
  clear bb
  go_wp2_with fail
  go_ret
  exact ⟨rfl, BB.out⟩

theorem takeR_put {v : Nat} (h : v < 18446744073709551616) (r : List Nat) : takeR (putNum v ++ r) = (v, (putNum v).length, true) := by
  unfold takeR; rw [takeNum_put h r]
theorem takeR_cut {v : Nat} (h : v < 18446744073709551616) (k : Nat) (hk : k < (putNum v).length) : takeR ((putNum v).take k) = (0, 0, false) := by
  unfold takeR; rw [takeNum_cut h k hk]

set_option maxRecDepth 100000 in
set_option maxHeartbeats 1000000 in
theorem numBack_walk (u ww : Nat) (v : Int) (A : Option Addr) (c : Nat) (b : List Nat) (cut : Nat) (a : Addr) (w : World) (hs : Sent w w.heap.size a) (hr : Rd w w.heap.size A (ints .u8 b)) (hnil : A = none → c = 0) (h256 : ∀ x ∈ b, x < 256) (hb : b.length ≤ 20)
    (hu : u < 18446744073709551616) (hww : ww < 18446744073709551616) (h0 : -9223372036854775808 ≤ v) (h1 : v ≤ 9223372036854775807) (hcut : cut < 256) :
    Calls Tryd.prog 9 #[.int .u64 u, .int .u64 ww, .int .i64 v, .slice A b.length c, .int .u8 cut] w fun e w' => e = .returned (.bool true) ∧ Below w.heap.size w w' := by
  have HS := Lib.hid hs
  have HR := Lib.hid hr
  have HNIL := Lib.hid hnil
  clear hs hr hnil
  go_enter Tryd.func9, Tryd.ntmps9
  go_wp2_with fail
  refine (begun2_any a w HS.out).mono ?_
  rintro e wb ⟨rfl, bb⟩
  have BB := Lib.hid bb
  have zb := bb.size
  clear bb
  go_wp2_with fail
  refine (put_makes u hu wb).mono ?_
  rintro e w1 ⟨P, cp, rfl, o1, b1, n1⟩
  have z1 := b1.size
  have B1 := Lib.hid (BB.out.trans (b1.mono zb))
  have S1 := Lib.hid ((HS.out.below B1.out).more (B' := w1.heap.size) (by omega))
  have R1 := Lib.hid (Rd.own o1)
  have C1 := own_cap o1
  have N1 := Lib.hid n1
  obtain ⟨bs, hbs⟩ : ∃ bs, bs = putNum u := ⟨_, rfl⟩
  have hbs256 : ∀ x ∈ bs, x < 256 := by rw [hbs]; exact putNum_lt hu
  have hL1 : 1 ≤ bs.length := by rw [hbs]; exact putNum_pos u
  have hL10 : bs.length ≤ 10 := by rw [hbs]; exact putNum_le u
  have HBS := Lib.hid hbs
  rw [← hbs] at R1 C1 ⊢
  clear o1 b1 n1 hbs BB
  have HO := Lib.hid (show (w1.alloc (.cells #[] 5)).ownsRow w1.heap.size 5 1 (.slice (some ⟨w1.heap.size, 0, none⟩) 0 0) 0 [] from (Row.lit w1 5 .u8 []).own (Nat.le_refl _) (by simp))
  have ba : Below w1.heap.size w1 (w1.alloc (.cells #[] 5)) := (Below.refl _ _).alloc (Nat.le_refl _) _
  have HRD := Lib.hid (R1.out.below ba)
  have HBA := Lib.hid ba
  clear ba
  go_wp2_with (first
    | (at_builtin; refine wpList_append_rd _ rfl (.tmp 34) (.tmp 35) 24 rfl w1.heap.size 5 (.int .u8 0) 1 Tryd.underlying24 info_u8 rfl _ 0 [] rfl HO.out _ _ bs.length cp (ints .u8 bs) rfl HRD.out ?_ N1.out (ints_one _ _) ?_ ?_ ?_ ?_; (rw [ints_length]); (unfold maxLen; omega); omega; (simp); intro A1 c1 w4 o1 g1 b1 n1; simp only [Nat.zero_add, List.nil_append] at o1; have HO1 := Lib.hid o1; have HB4 := Lib.hid b1; have HN1 := Lib.hid n1; have HBW := Lib.hid (HBA.out.trans b1); clear o1 g1 b1 n1)
    | (at_builtin; refine wpList_append_rd _ rfl (.tmp 36) (.tmp 37) 24 rfl w1.heap.size 5 (.int .u8 0) 1 Tryd.underlying24 info_u8 rfl _ bs.length (ints .u8 bs) rfl HO1.out _ _ b.length c (ints .u8 b) rfl (((HR.out.below B1.out).more (B' := w1.heap.size) (by omega)).below HBW.out) ?_ HNIL.out (ints_one _ _) ?_ ?_ ?_ ?_; (rw [ints_length]); (unfold maxLen; omega); omega; exact HBW.out.size; intro A2 c2 w5 o2 g2 b2 n2; have HO2 := Lib.hid o2; have HB5 := Lib.hid (HBW.out.trans b2); have HN2 := Lib.hid n2; clear o2 g2 b2 n2))
  have z5 := HB5.out.size
  have B5 := Lib.hid (B1.out.trans (HB5.out.mono (by omega)))
  have S5 := Lib.hid ((S1.out.below HB5.out).more z5)
  have R5 := Lib.hid ((R1.out.below HB5.out).more z5)
  refine (take_num A2 (bs.length + b.length) c2 (bs ++ b) a w5 _ (by rw [List.length_append]) (by rw [ints_snoc]; exact (Rd.own HO2.out)) (by intro x hx; rcases List.mem_append.1 hx with h | h; exact hbs256 x h; exact h256 x h) (by rw [List.length_append]; omega) S5.out).mono ?_
  rintro e w6 ⟨v6, n6, ok6, hR, rfl, b6⟩
  rw [HBS.out, takeR_put hu b, ← HBS.out] at hR
  obtain ⟨rfl, rfl, rfl⟩ : u = v6 ∧ n6 = bs.length ∧ ok6 = true := by
    injection hR with h1 h2; injection h2 with h2 h3; exact ⟨h1, h2.symm, h3.symm⟩
  have z6 := b6.size
  have B6 := Lib.hid (B5.out.trans (b6.mono (by omega)))
  have S6 := Lib.hid ((S5.out.below b6).more z6)
  have R6 := Lib.hid ((R5.out.below b6).more z6)
  have hk : cut % bs.length < bs.length := Nat.mod_lt _ (by omega)
  obtain ⟨k, hke⟩ : ∃ k, k = cut % bs.length := ⟨_, rfl⟩
  have hkm : (cut : Int) % (bs.length : Int) = (k : Int) := by rw [hke]; simp
  rw [← hke] at hk
  clear hR hke b6 B5 S5 R5 HO HRD HBA HO1 HB4 HN1 HBW HO2 HN2 B1 S1 R1
  go_wp2_with fail
  refine (take_num P k cp (bs.take k) a w6 _ (by rw [List.length_take]; omega) (by rw [← ints_take]; exact R6.out.take k) (fun x hx => hbs256 x (List.mem_of_mem_take hx)) (by rw [List.length_take]; omega) S6.out).mono ?_
  rintro e w7 ⟨v7, n7, ok7, hR, rfl, b7⟩
  rw [HBS.out, takeR_cut hu k (by rw [← HBS.out]; exact hk)] at hR
  obtain ⟨rfl, rfl, rfl⟩ : v7 = 0 ∧ n7 = 0 ∧ ok7 = false := by
    injection hR with h1 h2; injection h2 with h2 h3; exact ⟨h1.symm, h2.symm, h3.symm⟩
  have B7 := Lib.hid (B6.out.trans (b7.mono (by omega)))
  have z7 := b7.size
  clear hR b7 B6 S6 R6
  have ZL := zig_lt v h0 h1
  have hzz := zag_zig v
  have YI := zag_in u hu
  have hzg := zig_zag u
  have huu : ((u : Int) == (u : Int)) = true := by simp
  have hvv : (v == v) = true := by simp
  have hll : ((bs.length : Int) == (bs.length : Int)) = true := by simp
  by_cases hwu : u < ww
  · go_wp2_with fail
    refine (zig_any v _ h0 h1).mono ?_
    rintro e w' ⟨rfl, rfl⟩
    go_wp2_with fail
    refine (zag_any (zig v) _ ZL).mono ?_
    rintro e w' ⟨rfl, rfl⟩
    go_wp2_with fail
    refine (zag_any u _ hu).mono ?_
    rintro e w' ⟨rfl, rfl⟩
    go_wp2_with fail
    refine (zig_any (zag u) _ YI.1 YI.2).mono ?_
    rintro e w' ⟨rfl, rfl⟩
    go_wp2_with fail
    go_ret
    exact ⟨rfl, B7.out⟩
  · go_wp2_with fail
    refine (put_makes ww hww w7).mono ?_
    rintro e w8 ⟨P8, c8, rfl, o8, b8, n8⟩
    have hmono := putNum_mono (show ww ≤ u by omega)
    rw [← HBS.out] at hmono
    have hle : ((putNum ww).length : Int) ≤ (bs.length : Int) := by omega
    have B8 := Lib.hid (B7.out.trans (b8.mono (by omega)))
    clear o8 b8 n8 hmono
    go_wp2_with fail
    refine (zig_any v _ h0 h1).mono ?_
    rintro e w' ⟨rfl, rfl⟩
    go_wp2_with fail
    refine (zag_any (zig v) _ ZL).mono ?_
    rintro e w' ⟨rfl, rfl⟩
    go_wp2_with fail
    refine (zag_any u _ hu).mono ?_
    rintro e w' ⟨rfl, rfl⟩
    go_wp2_with fail
    refine (zig_any (zag u) _ YI.1 YI.2).mono ?_
    rintro e w' ⟨rfl, rfl⟩
    go_wp2_with fail
    go_ret
    exact ⟨rfl, B8.out⟩
end Go.Proofs.YtbmlipandjbbbaaDoor
