/- The walk of BitsAll: true. -/
import Derived.Test.YtbmlipandjbbbaaLawA
import Derived.Test.YtbmlipandjbbbaaRefBitsB
import Derived.Test.YtbmlipandjbbbaaHand
namespace Go.Proofs.Ytbmlipandjbbbaa
open Go.RowKit
set_option linter.unusedVariables false

def putV (l : List Nat) (z : Int) : Bool × List Nat :=
  if 0 ≤ z ∧ z ≤ 64 ∧ (widL l : Int) ≤ z then (true, chop 8 (cat z.toNat l) ((l.length * z.toNat + 7) / 8)) else (false, [])
def takeV (b : List Nat) (n k : Int) : Bool × List Nat :=
  if 0 ≤ n ∧ n ≤ 1000 ∧ 0 ≤ k ∧ k ≤ 64 ∧ b.length = (n.toNat * k.toNat + 7) / 8 ∧ cat 8 b < 2 ^ (n.toNat * k.toNat) then (true, chop k.toNat (cat 8 b) n.toNat) else (false, [])

theorem takeV_len {b : List Nat} {n k : Int} {ok : Bool} {ys : List Nat} (h : (ok, ys) = takeV b n k) : ys.length ≤ 1000 := by
  unfold takeV at h
  split at h
  · rename_i hc
    obtain ⟨-, rfl⟩ := Prod.mk.inj h
    rw [chop_length]; omega
  · obtain ⟨-, rfl⟩ := Prod.mk.inj h
    simp
/-- What a call tells of a list of numbers: the list, and whether there is one. -/
def Tells (k : IntKind) (V : Bool × List Nat) (B : Nat) (w : World) (e : Ending) (w' : World) : Prop :=
  ∃ A n c ok xs, e = .returned (.tuple #[.slice A n c, .bool ok]) ∧ (ok, xs) = V ∧ n = xs.length ∧ Rd w' w'.heap.size A (ints k xs) ∧ Below B w w'

theorem tells_no {k : IntKind} {V : Bool × List Nat} {w : World} {e : Ending} {w' : World} (hV : (false, []) = V) (he : e = .returned (.tuple #[.slice none 0 0, .bool false])) (hw : Below w.heap.size w w') : Tells k V w.heap.size w e w' :=
  ⟨none, 0, 0, false, [], he, hV, rfl, .inl rfl, hw⟩

theorem put_tells (A : Option Addr) (c : Nat) (l : List Nat) (z : Int) (w : World) (hr : Rd w w.heap.size A (ints .u64 l)) (hl : l.length ≤ 1000) (h64 : ∀ x ∈ l, x < 18446744073709551616) :
    Calls Try.prog 9 #[.slice A l.length c, .int .i64 z] w (Tells .u8 (putV l z) w.heap.size w) := by
  by_cases h : 0 ≤ z ∧ z ≤ 64 ∧ (widL l : Int) ≤ z
  · obtain ⟨k, rfl⟩ := Int.eq_ofNat_of_zero_le h.1
    refine (put_yes A l.length c l k k _ w.heap.size w rfl rfl rfl rfl hr hl h64 (by omega) (by omega)).mono fun e w' ⟨he, hrow, hb⟩ => ?_
    exact ⟨_, _, _, _, _, he, by rw [putV, if_pos h, Int.toNat_natCast], by rw [chop_length], hrow.rd, hb⟩
  · refine (put_no A l.length c l z w _ rfl hr hl h64 (by omega)).mono fun e w' ⟨he, hw⟩ => ?_
    subst hw
    exact tells_no (by rw [putV, if_neg h]) he (Below.refl _ _)
theorem refPut_tells (A : Option Addr) (c : Nat) (l : List Nat) (z : Int) (w : World) (hr : Rd w w.heap.size A (ints .u64 l)) (hl : l.length ≤ 1000) (h64 : ∀ x ∈ l, x < 18446744073709551616) :
    Calls Try.prog 10 #[.slice A l.length c, .int .i64 z] w (Tells .u8 (putV l z) w.heap.size w) := by
  by_cases h : 0 ≤ z ∧ z ≤ 64 ∧ (widL l : Int) ≤ z
  · obtain ⟨k, rfl⟩ := Int.eq_ofNat_of_zero_le h.1
    refine (refPut_yes A l.length c l k k _ w.heap.size w rfl rfl rfl rfl hr hl h64 (by omega) (by omega)).mono fun e w' ⟨he, hrow, hb⟩ => ?_
    exact ⟨_, _, _, _, _, he, by rw [putV, if_pos h, Int.toNat_natCast], by rw [chop_length], hrow.rd, hb⟩
  · refine (refPut_no A l.length c l z w _ rfl hr hl h64 (by omega)).mono fun e w' ⟨he, hw⟩ => ?_
    subst hw
    exact tells_no (by rw [putV, if_neg h]) he (Below.refl _ _)
theorem take_tells (A : Option Addr) (c : Nat) (b : List Nat) (n k : Int) (w : World) (hr : Rd w w.heap.size A (ints .u8 b)) (h256 : ∀ x ∈ b, x < 256) (hc : b.length ≤ c) (hb : b.length ≤ 1000000) :
    Calls Try.prog 11 #[.slice A b.length c, .int .i64 n, .int .i64 k] w (Tells .u64 (takeV b n k) w.heap.size w) := by
  by_cases h : 0 ≤ n ∧ n ≤ 1000 ∧ 0 ≤ k ∧ k ≤ 64 ∧ b.length = (n.toNat * k.toNat + 7) / 8 ∧ cat 8 b < 2 ^ (n.toNat * k.toNat)
  · have hV : takeV b n k = (true, chop k.toNat (cat 8 b) n.toNat) := by rw [takeV, if_pos h]
    obtain ⟨h1, h2, h3, h4, h5, h6⟩ := h
    obtain ⟨n, rfl⟩ := Int.eq_ofNat_of_zero_le h1
    obtain ⟨k, rfl⟩ := Int.eq_ofNat_of_zero_le h3
    simp only [Int.toNat_natCast] at h5 h6 hV
    refine (take_yes A b.length c b n k n k w.heap.size w rfl rfl rfl rfl hr h256 hc (by omega) (by omega) h5 h6).mono fun e w' ⟨he, hrow, hb⟩ => ?_
    exact ⟨_, _, _, _, _, he, hV.symm, by rw [chop_length], hrow.rd, hb⟩
  · refine (take_no A b.length c b n k w _ rfl hr h256 hb ?_).mono fun e w' ⟨he, hw⟩ => ?_
    · rintro ⟨n', k', rfl, rfl, h1, h2, h3, h4⟩
      exact h ⟨by omega, by omega, by omega, by omega, by simpa using h3, by simpa using h4⟩
    · subst hw
      exact tells_no (by rw [takeV, if_neg h]) he (Below.refl _ _)
theorem refTake_tells (A : Option Addr) (c : Nat) (b : List Nat) (n k : Int) (w : World) (hr : Rd w w.heap.size A (ints .u8 b)) (h256 : ∀ x ∈ b, x < 256) (hb : b.length ≤ 1000000) :
    Calls Try.prog 12 #[.slice A b.length c, .int .i64 n, .int .i64 k] w (Tells .u64 (takeV b n k) w.heap.size w) := by
  by_cases h0 : n < 0 ∨ 1000 < n ∨ k < 0 ∨ 64 < k
  · refine (refTake_arg A b.length c n k w h0).mono fun e w' ⟨he, hw⟩ => ?_
    subst hw
    exact tells_no (by rw [takeV, if_neg (by omega)]) he (Below.refl _ _)
  · obtain ⟨n, rfl⟩ := Int.eq_ofNat_of_zero_le (show 0 ≤ n by omega)
    obtain ⟨k, rfl⟩ := Int.eq_ofNat_of_zero_le (show 0 ≤ k by omega)
    by_cases h5 : b.length = (n * k + 7) / 8
    · refine (refTake_body _ A c b n k w hr h256 (by omega) (by omega) h5 rfl).mono fun e w' ⟨hy, hn, hb⟩ => ?_
      by_cases h6 : cat 8 b < 2 ^ (n * k)
      · obtain ⟨he, hrow⟩ := hy (decide_eq_true h6)
        exact ⟨_, _, _, _, _, he, by rw [takeV, if_pos ⟨by omega, by omega, by omega, by omega, by simpa using h5, by simpa using h6⟩, Int.toNat_natCast, Int.toNat_natCast], by rw [chop_length], hrow.rd, hb⟩
      · exact tells_no (by rw [takeV, if_neg (fun h => h6 (by simpa using h.2.2.2.2.2))]) (hn (decide_eq_false h6)) hb
    · refine (refTake_len A b.length c n k w (by omega) (by omega) h5 hb).mono fun e w' ⟨he, hw⟩ => ?_
      subst hw
      exact tells_no (by rw [takeV, if_neg (fun h => h5 (by simpa using h.2.2.2.2.1))]) he (Below.refl _ _)

theorem all_long (A A2 : Option Addr) (n c n2 c2 : Nat) (z z2 : Int) (w : World) (h : 40 < n ∨ 60 < n2) :
    Calls Try.prog 3 #[.slice A n c, .int .i64 z, .slice A2 n2 c2, .int .i64 z2] w fun e w' => e = .returned (.bool true) ∧ Below w.heap.size w w' := by
  by_cases h1 : 40 < n
  · clear h
    go_enter Try.func3, Try.ntmps3
    go_wp2_with fail
    refine (begun_any _).mono ?_
    rintro e wb ⟨rfl, bb⟩
    have BB := Lib.hid bb
    clear bb
    go_wp2_with fail
    go_ret
    exact ⟨rfl, BB.out⟩
  · have h2 : 60 < n2 := by omega
    clear h
    go_enter Try.func3, Try.ntmps3
    go_wp2_with fail
    refine (begun_any _).mono ?_
    rintro e wb ⟨rfl, bb⟩
    have BB := Lib.hid bb
    clear bb
    go_wp2_with fail
    go_ret
    exact ⟨rfl, BB.out⟩

set_option maxHeartbeats 1000000 in
theorem all_walk (A A2 : Option Addr) (c c2 : Nat) (l b : List Nat) (z z2 : Int) (w : World) (hr : Rd w w.heap.size A (ints .u64 l)) (hr2 : Rd w w.heap.size A2 (ints .u8 b)) (h64 : ∀ x ∈ l, x < 18446744073709551616) (h256 : ∀ x ∈ b, x < 256)
    (hl : l.length ≤ 40) (hb : b.length ≤ 60) :
    Calls Try.prog 3 #[.slice A l.length c, .int .i64 z, .slice A2 b.length c2, .int .i64 z2] w fun e w' => e = .returned (.bool true) ∧ Below w.heap.size w w' := by
  have HR := Lib.hid hr
  have HR2 := Lib.hid hr2
  clear hr hr2
  go_enter Try.func3, Try.ntmps3
  go_wp2_with fail
  refine (begun_any _).mono ?_
  rintro e wb ⟨rfl, bb⟩
  have BB := Lib.hid bb
  have zb := bb.size
  clear bb
  go_wp2_with fail
  refine (handed_any A2 b.length c2 b wb rfl ((HR2.out.below BB.out).more zb) (by omega)).mono ?_
  rintro e w1 ⟨rfl, r1, b1⟩
  have z1 := r1.lt
  have B1 := Lib.hid (BB.out.trans (b1.mono zb))
  have R1 := Lib.hid r1
  clear r1 b1 BB
  go_wp2_with fail
  refine (put_tells A c l z w1 ((HR.out.below B1.out).more (by omega)) (by omega) h64).mono ?_
  rintro e w2 ⟨P, np, cp, ok, xs, rfl, hV, hn, hrd, hbel⟩
  have B2 := Lib.hid (B1.out.trans (hbel.mono (by omega)))
  have R2 := Lib.hid (R1.out.below hbel z1)
  have X2 := Lib.hid hrd
  have z2' := hbel.size
  have V1 := Lib.hid hV
  have N1 := Lib.hid hn
  clear hV hn hrd hbel B1 R1
  go_wp2_with fail
  refine (refPut_tells A c l z w2 ((HR.out.below B2.out).more (by omega)) (by omega) h64).mono ?_
  rintro e w3 ⟨P', np', cp', ok', xs', rfl, hV, hn, hrd, hbel⟩
  obtain ⟨rfl, rfl⟩ := Prod.mk.inj (V1.out.trans hV.symm)
  have B3 := Lib.hid (B2.out.trans (hbel.mono (by omega)))
  have R3 := Lib.hid (R2.out.below hbel (by have := R2.out.lt; omega))
  have X3 := Lib.hid (X2.out.below hbel)
  have Y3 := Lib.hid hrd
  have z3' := hbel.size
  have N1' := Lib.hid hn
  clear hV hn hrd hbel B2 R2 X2 V1
  go_wp2_with fail
  have hrh : Rd w3 w3.heap.size (some ⟨wb.heap.size, 0, none⟩) (ints .u8 b) := by
    have h := R3.out.rd.take b.length
    rw [ints_take, List.take_left] at h
    exact h
  refine (take_tells (some ⟨wb.heap.size, 0, none⟩) (b.length + 5) b z2 z w3 hrh h256 (by omega) (by omega)).mono ?_
  rintro e w4 ⟨Q, nq, cq, ok2, ys, rfl, hV, hn, hrd, hbel⟩
  have B4 := Lib.hid (B3.out.trans (hbel.mono (by omega)))
  have R4 := Lib.hid (R3.out.below hbel (by have := R3.out.lt; omega))
  have X4 := Lib.hid ((X3.out.more z3').below hbel)
  have Y4 := Lib.hid (Y3.out.below hbel)
  have Q4 := Lib.hid hrd
  have z4' := hbel.size
  have V2 := Lib.hid hV
  have N2 := Lib.hid hn
  clear hV hn hrd hbel B3 R3 X3 Y3 hrh
  go_wp2_with fail
  refine (refTake_tells A2 c2 b z2 z w4 ((HR2.out.below B4.out).more (by omega)) h256 (by omega)).mono ?_
  rintro e w5 ⟨Q', nq', cq', ok2', ys', rfl, hV, hn, hrd, hbel⟩
  obtain ⟨rfl, rfl⟩ := Prod.mk.inj (V2.out.trans hV.symm)
  have B5 := Lib.hid (B4.out.trans (hbel.mono (by omega)))
  have R5 := Lib.hid (R4.out.below hbel (by have := R4.out.lt; omega))
  have z5' := hbel.size
  have hcv1 := run_cv' P np cp xs N1.out w5 _ ((X4.out.more z4').below hbel)
  have hcv2 := run_cv' P' np' cp' xs N1'.out w5 _ ((Y4.out.more z4').below hbel)
  have Q5 := Lib.hid (Q4.out.below hbel)
  have Q5' := Lib.hid hrd
  have hyl := takeV_len V2.out
  have e1 : nq = ys.length := N2.out
  have e2 : nq' = ys.length := hn
  subst e1 e2
  obtain ⟨S, hS⟩ : ∃ S, S = bstr xs := ⟨_, rfl⟩
  rw [← hS] at hcv1 hcv2
  have hne1 : ((widL l : Int) != (widL l : Int)) = false := by simp
  have hne2 : ((ys.length : Int) != (ys.length : Int)) = false := by simp
  clear hV hn hrd hbel B4 R4 X4 Y4 Q4 V2 N2 hS N1 N1'
  go_wp2_with (first
    | (go_at_call 13; refine (width_at A _ c l (widL l) w5 _ rfl rfl (HR.out.below B5.out) (by omega) h64).mono ?_; rintro e w6 ⟨rfl, rfl⟩)
    | (go_at_call 14; refine (ref_Width A _ c l (widL l) w5 _ rfl rfl (HR.out.below B5.out) (by omega) h64).mono ?_; rintro e w6 ⟨rfl, rfl⟩)
    | (go_at_call 15; refine (same_any wb.heap.size A2 b.length c2 (b.length + 5) b w5 rfl rfl R5.out ((HR2.out.below B5.out).more (by omega)) (by omega)).mono ?_; rintro e w6 ⟨rfl, rfl⟩))
  clear hcv1 hcv2
  go_loopw [18] (fun i wr => ∃ j : Nat, j ≤ ys.length ∧ i = .int .i64 j ∧ wr.heap = w5.heap ∧ Below w.heap.size w wr) (fun i _ => ys.length - (intOf i).toNat)
  case atStart => exact ⟨0, Nat.zero_le _, rfl, rfl, B5.out⟩
  case round =>
    obtain ⟨j, hj, rfl, hh, hbel⟩ := hrel
    have hcells : ∀ p : Addr, wr.cell? p = w5.cell? p := fun p => by simp [World.cell?, hh]
    have HH := Lib.hid hh
    have HB := Lib.hid hbel
    by_cases hlt : j < ys.length
    · obtain ⟨o1, f1, rfl, _, c1⟩ := (Q5.out.keep fun p _ => hcells p).at_ (k := j) (by rw [ints_length]; exact hlt)
      obtain ⟨o2, f2, rfl, _, c2⟩ := (Q5'.out.keep fun p _ => hcells p).at_ (k := j) (by rw [ints_length]; exact hlt)
      simp only [ints, List.getElem_map] at c1 c2
      obtain ⟨x, hxe⟩ : ∃ x, x = ys[j] := ⟨_, rfl⟩
      rw [← hxe] at c1 c2
      have hxx : ((x : Int) != (x : Int)) = false := by simp
      clear hxe hh hbel hcells
      go_wp2_with fail
      go_region
      all_goals go_wp2_with fail
      all_goals go_roundw
      case rel => exact ⟨j + 1, hlt, by go_num, HH.out, HB.out.drew⟩
      case measure => simp [intOf]; omega
    · clear hh hbel hcells
      go_wp2_with fail
      go_ret
      exact ⟨rfl, HB.out⟩
end Go.Proofs.Ytbmlipandjbbbaa
