/- The walk of TagForms. -/
import Derived.Test.YtnmldploafpbdaaDoorTagBack
import Derived.Test.YtnmldploafpbdaaDoorTagRef
namespace Go.Proofs.YtnmldploafpbdaaDoor
open Go.RowKit
set_option linter.unusedVariables false

def zl110 : List Nat := List.replicate 110 0
def fG : Nat := 16909060
def fS : Nat := 84281096
def fB : List Nat := tagB fG fS zl110
theorem zl110_len : zl110.length = 110 := List.length_replicate
theorem fB_len : fB.length = 128 := tagB_len (by rw [zl110_len]; decide)
theorem fB_lt : ∀ x ∈ fB, x < 256 := tagB_lt (by rw [zl110_len]; decide) (fun x hx => by have := (List.mem_replicate.1 hx).2; omega)
theorem fB_put : putT20 fG fS zl110 = some fB := if_pos (by rw [zl110_len]; decide)
theorem f111 : putT20 1 1 (List.replicate 111 0) = none := if_neg (by rw [List.length_replicate]; decide)
/-- A block with a bit of byte i turned. -/
def flipB (i : Nat) : List Nat := fB.set i (fB.getD i 0 ^^^ 1)
def fOut (i : Nat) : Option (List Nat) := if 9 ≤ i ∧ i < 119 then some (zl110.set (i - 9) 1) else none
theorem flip_all : ∀ i : Fin 128, takeT20 fG fS (flipB i.val) = fOut i.val := by decide +kernel
theorem flip_len (i : Nat) : (flipB i).length = 128 := by unfold flipB; rw [List.length_set, fB_len]
theorem flip_lt : ∀ i : Fin 128, ∀ x ∈ flipB i.val, x < 256 := by decide +kernel
theorem fB_xor : ∀ i : Fin 128, bits .xor .u8 ((fB.getD i.val 0 : Nat) : Int) 1 = ((fB.getD i.val 0 ^^^ 1 : Nat) : Int) := by decide +kernel
theorem z128_00 : takeT20 0 0 (List.replicate 128 0) = some [] := by decide +kernel
theorem z127 : takeT20 0 0 (List.replicate 127 0) = none := if_neg (fun h => by have := h.1; rw [List.length_replicate] at this; cases this)
theorem z128_10 : takeT20 1 0 (List.replicate 128 0) = none := by decide +kernel
theorem head9 : fB.take 9 = [1, 2, 3, 4, 5, 6, 7, 8, 110] := by decide +kernel
theorem tail8 : fB.drop 120 = [1, 2, 3, 4, 5, 6, 7, 8] := by decide +kernel
theorem at119 : fB[119]? = some 0 := by decide +kernel

theorem fP : putT20 16909060 84281096 zl110 = some fB := fB_put
theorem flipT (i : Nat) (h : i < 128) : takeT20 16909060 84281096 (flipB i) = fOut i := flip_all ⟨i, h⟩
theorem bstr9 : bstr [1, 2, 3, 4, 5, 6, 7, 8, 110] = ⟨#[1, 2, 3, 4, 5, 6, 7, 8, 110]⟩ := rfl
theorem bstr8 : bstr [1, 2, 3, 4, 5, 6, 7, 8] = ⟨#[1, 2, 3, 4, 5, 6, 7, 8]⟩ := rfl

theorem own_base {w : World} {base : Nat} {e : TypeId} {g n c : Nat} {xs : List Value} (h : w.ownsRow base e 1 (.slice (some ⟨g, 0, none⟩) n c) n xs) : base ≤ g := by
  rcases h.2 with ⟨h', _⟩ | ⟨g', cap', cur, h', hb, _⟩
  · injection h' with h1; cases h1
  · injection h' with h1
    injection h1 with h1
    injection h1 with h1
    subst h1
    exact hb
theorem fB_cell (j : Nat) (h : j < 128) : (ints .u8 fB)[j]? = some (.int .u8 ((fB.getD j 0 : Nat) : Int)) := by
  have hl : j < fB.length := by rw [fB_len]; exact h
  rw [ints_get _ _ _ hl, List.getD, List.getElem?_eq_getElem hl]; rfl
theorem fB_set (j y : Nat) : (ints .u8 fB).set j (.int .u8 (y : Int)) = ints .u8 (fB.set j y) := by simp [ints, List.map_set]
theorem fOut_in (j : Nat) (h1 : 9 ≤ j) (h2 : j < 119) : fOut j = some (zl110.set (j - 9) 1) := if_pos ⟨h1, h2⟩
theorem fOut_out (j : Nat) (h : ¬ (9 ≤ j ∧ j < 119)) : fOut j = none := if_neg h
/-- A cell of a row that a slice holds. -/
theorem Has.cell {w : World} {A : Option Addr} {q : List Nat} (h : Has w A (ints .u8 q)) (j : Nat) (hj : j < q.length) : ∃ b o, A = some ⟨b, o, none⟩ ∧ w.cell? ⟨b, o + j, none⟩ = some (.int .u8 ((q[j] : Nat) : Int)) := by
  rcases h with h | ⟨b', o', h1, _, h3⟩
  · have := congrArg List.length h
    rw [ints_length] at this
    rw [show q.length = 0 from this] at hj
    omega
  · exact ⟨b', o', h1, h3 j _ (ints_get _ _ _ hj)⟩

set_option maxRecDepth 100000 in
set_option maxHeartbeats 8000000 in
theorem tagForms_walk (w : World) (hs : S20 w) : Calls Tryd.prog 9 #[] w fun e w' => e = .returned (.bool true) ∧ Later w w' := by
  have HB := Lib.hid (begun20_any w hs)
  have HS := Lib.hid hs
  have mk : ∀ (N : Nat), N ≤ 1000 → ∀ W : World, (Instr.makeSlice 39 (.int .i64 (N : Int)) (.int .i64 (N : Int))).run Tryd.prog W = .ok (.slice (some ⟨W.heap.size, 0, none⟩) N N) (W.alloc (.cells (madeCells #[.int .u8 0] N) 5)) := fun N h W => run_make_cap N N (Nat.le_refl _) (by omega) W
  have m110 : ∀ W : World, (Instr.makeSlice 39 (.int .i64 110) (.int .i64 110)).run Tryd.prog W = .ok (.slice (some ⟨W.heap.size, 0, none⟩) 110 110) (W.alloc (.cells (madeCells #[.int .u8 0] 110) 5)) := mk 110 (by decide)
  have m111 : ∀ W : World, (Instr.makeSlice 39 (.int .i64 111) (.int .i64 111)).run Tryd.prog W = .ok (.slice (some ⟨W.heap.size, 0, none⟩) 111 111) (W.alloc (.cells (madeCells #[.int .u8 0] 111) 5)) := mk 111 (by decide)
  have m128 : ∀ W : World, (Instr.makeSlice 39 (.int .i64 128) (.int .i64 128)).run Tryd.prog W = .ok (.slice (some ⟨W.heap.size, 0, none⟩) 128 128) (W.alloc (.cells (madeCells #[.int .u8 0] 128) 5)) := mk 128 (by decide)
  have m127 : ∀ W : World, (Instr.makeSlice 39 (.int .i64 127) (.int .i64 127)).run Tryd.prog W = .ok (.slice (some ⟨W.heap.size, 0, none⟩) 127 127) (W.alloc (.cells (madeCells #[.int .u8 0] 127) 5)) := mk 127 (by decide)
  clear hs mk
  go_enter Tryd.func9, Tryd.ntmps9
  go_wp2_with fail
  refine HB.out.mono ?_
  rintro e w1 ⟨rfl, l1⟩
  have HP := Lib.hid (tagPut_any 16909060 84281096 (some ⟨w1.heap.size, 0, none⟩) 110 110 zl110 _ (by decide) (by decide) zl110_len.symm (Has.row (Row.made w1 5 .u8 110)) (by intro h; cases h))
  have HL1 := Lib.hid (l1.alloc (.cells (madeCells #[.int .u8 0] 110) 5))
  clear l1 HB
  go_wp2_with fail
  refine HP.out.mono ?_
  intro e w2 h
  obtain ⟨A, c, rfl, o2, l2⟩ := h.yes fP
  obtain ⟨gb, rfl⟩ := own_some o2 (by decide)
  have HH := Lib.hid (Has.own o2)
  have HC := Lib.hid (own_cap o2)
  have HL2 := Lib.hid (HL1.out.trans l2)
  have HP := Lib.hid (tagPut_any 1 1 (some ⟨w2.heap.size, 0, none⟩) 111 111 (List.replicate 111 0) _ (by decide) (by decide) (by simp) (Has.row (Row.made w2 5 .u8 111)) (by intro h; cases h))
  clear h o2 l2 HL1
  go_wp2_with fail
  refine HP.out.mono ?_
  intro e w3 h
  obtain ⟨rfl, l3⟩ := h.no f111
  have HL3 := Lib.hid ((HL2.out.alloc (.cells (madeCells #[.int .u8 0] 111) 5)).trans l3)
  have HH3 := Lib.hid (HH.out.later ((Later.new _ _).trans l3))
  have h9 := HH3.out.take 9
  rw [ints_take, head9] at h9
  have h8 := HH3.out.drop 120
  rw [show (ints .u8 fB).drop 120 = ints .u8 (fB.drop 120) by simp [ints, List.map_drop], tail8, Nat.zero_add] at h8
  have cv1 := conv_str (some ⟨gb, 0, none⟩) 9 c _ rfl w3 _ h9
  have cv2 := conv_str (some ⟨gb, 120, none⟩) 8 (c - 120) _ rfl w3 _ h8
  rw [bstr9] at cv1
  rw [bstr8] at cv2
  have c119 : w3.cell? ⟨gb, 119, none⟩ = some (.int .u8 0) := by
    rcases HH3.out with h | ⟨b', o', h1, _, h3⟩
    · have := congrArg List.length h
      rw [ints_length, fB_len] at this
      cases this
    · injection h1 with h1
      injection h1 with h4 h5
      subst h4 h5
      have := h3 119 (.int .u8 0) (by unfold ints; rw [List.getElem?_map, at119]; rfl)
      simpa using this
  have hi1 : (120 : Int) ≤ (c : Int) := by have := HC.out; omega
  have hi2 : (c : Int) - 120 = ((c - 120 : Nat) : Int) := by have := HC.out; omega
  have hi3 : ¬ c = 120 := by have := HC.out; omega
  have hi4 : (9 : Int) ≤ (c : Int) := by have := HC.out; omega
  have hi5 : (128 : Int) ≤ (c : Int) := by have := HC.out; omega
  clear h l3 HP h9 h8 HH HL2 m110 m111
  go_wp2_with fail
  clear cv1 cv2 c119 hi1 hi2 hi3 hi4 hi5
  go_loopw [5] (fun iv wr => ∃ j : Nat, j ≤ 128 ∧ iv = .int .i64 j ∧ Later w3 wr) (fun iv _ => 128 - (intOf iv).toNat)
  case atStart => exact ⟨0, Nat.zero_le _, rfl, Later.refl _⟩
  case round =>
    obtain ⟨j, hj, rfl, lat⟩ := hrel
    by_cases hlt : j < 128
    · have hji : (j : Int) < 128 := by omega
      have OW := Lib.hid ((Blk.new wr ([] : List Value).toArray 5 _ rfl).ownG (base := wr.heap.size) (size := 1) (n := 0) (Nat.le_refl _) rfl (by decide))
      have HF := Lib.hid (HH3.out.later (lat.trans (Later.new wr (.cells #[] 5))))
      have HLAT := Lib.hid lat
      obtain ⟨x, hx⟩ : ∃ x, fB.getD j 0 = x := ⟨_, rfl⟩
      obtain ⟨y, hy⟩ : ∃ y, (fB.getD j 0 ^^^ 1) = y := ⟨_, rfl⟩
      have hxy : bits .xor .u8 (x : Int) 1 = (y : Int) := by rw [← hx, ← hy]; exact fB_xor ⟨j, hlt⟩
      have HX := Lib.hid hx
      have HY := Lib.hid hy
      obtain ⟨q, hq⟩ : ∃ q, (fOut j).getD [] = q := ⟨_, rfl⟩
      obtain ⟨r, hr⟩ : ∃ r, (fOut j).isSome = r := ⟨_, rfl⟩
      obtain ⟨m, hm⟩ : ∃ m, q.length = m := ⟨_, rfl⟩
      have HQ := Lib.hid hq
      have HRR := Lib.hid hr
      have HM := Lib.hid hm
      clear lat hx hy hq hr hm
      go_wp2_with (at_builtin; refine wpList_append_rd _ rfl (.tmp 59) (.tmp 60) 39 rfl wr.heap.size 5 (.int .u8 0) 1 Tryd.underlying39 info_u8 rfl _ 0 [] rfl OW.out _ (some ⟨gb, 0, none⟩) 128 c (ints .u8 fB) rfl HF.out.rd ?_ (by intro h; cases h) (ints_one _ _) ?_ ?_ ?_ ?_; (rw [ints_length, fB_len]); (unfold maxLen; omega); omega; (exact (Later.new _ _).size); intro A4 c4 w4 o4 g4 b4 n4; rw [Nat.zero_add] at o4 ⊢; rw [List.nil_append] at o4; obtain ⟨gc, rfl⟩ := own_some o4 (by decide); have hbc : w4.cell? ⟨gc, j, none⟩ = some (.int .u8 (x : Int)) := (by rw [o4.cellAt j (by omega), fB_cell j hlt, HX.out]); have hbf := o4.frozenAt j; have hgl := o4.lt gc rfl; have hst := o4.stored j (.int .u8 (y : Int)); have hbs := own_base o4; obtain ⟨wq, hwq⟩ : ∃ q, w4.setCell ⟨gc, j, none⟩ (.int .u8 (y : Int)) = q := ⟨_, rfl⟩; have hLq : Later wr wq := (by rw [← hwq]; exact (Later.of ((Later.new wr _).below.trans b4)).set_ hbs _); have HLq := Lib.hid hLq; have hoq : wq.ownsRow wr.heap.size 5 1 (.slice (some ⟨gc, 0, none⟩) 128 c4) 128 (ints .u8 (flipB j)) := (by rw [← hwq, show flipB j = fB.set j y from by unfold flipB; rw [HY.out], ← fB_set]; exact hst.1); have HT := Lib.hid ((tagTake_any 16909060 84281096 (some ⟨gc, 0, none⟩) 128 c4 (flipB j) wq (by decide) (by decide) (flip_len j).symm (Has.own hoq) (flip_lt ⟨j, hlt⟩) (by rw [flip_len]; decide) (own_cap hoq) (own_capmax hoq) ((HS.out.later HL3.out).later (HLAT.out.trans hLq))).mono fun _ _ h => (by rw [flipT j hlt] at h; exact h.u HQ.out HM.out HRR.out)); clear o4 g4 b4 n4 hst hLq hoq hbs)
      refine HT.out.mono ?_
      rintro e wz ⟨X, cx, rfl, hh, lz⟩
      have LZ := Lib.hid (HLAT.out.trans (HLq.out.trans lz))
      clear lz hbc hbf hgl hwq
      by_cases hin : 9 ≤ j ∧ j < 119
      · have hq := fOut_in j hin.1 hin.2
        have hq2 : q = zl110.set (j - 9) 1 := by rw [← HQ.out, hq]; rfl
        obtain rfl : r = true := by rw [← HRR.out, hq]; rfl
        obtain rfl : m = 110 := by rw [← HM.out, hq2, List.length_set, zl110_len]
        obtain ⟨bx, ox, rfl, hcx⟩ := hh.cell (j - 9) (by rw [HM.out]; omega)
        have hcx : wz.cell? ⟨bx, ox + (j - 9), none⟩ = some (.int .u8 1) := by
          rw [hcx]
          subst hq2
          simp
        have i1 : (9 : Int) ≤ (j : Int) := by omega
        have i2 : (j : Int) < 119 := by omega
        have i3 : IntKind.i64.wrap ((j : Int) - 9) = ((j - 9 : Nat) : Int) := by
          rw [IntWalk.i64_in _ ⟨by omega, by omega⟩]; omega
        have i4 : ((j - 9 : Nat) : Int) < 110 := by omega
        have i5 : j - 9 < 110 := by omega
        clear hh
        go_wp2_with fail
        go_roundw
        case rel => exact ⟨j + 1, by omega, by go_num, LZ.out⟩
        case measure => simp [intOf]; omega
      · have hq := fOut_out j hin
        obtain rfl : r = false := by rw [← HRR.out, hq]; rfl
        obtain rfl : m = 0 := by rw [← HM.out, ← HQ.out, hq]; rfl
        have i1 : (decide ((9 : Int) ≤ (j : Int)) && decide ((j : Int) < 119)) = false := by simp; omega
        clear hh
        by_cases h9 : 9 ≤ j
        · have i2 : (9 : Int) ≤ (j : Int) := by omega
          have i3 : ¬ (j : Int) < 119 := by omega
          go_wp2_with fail
          go_roundw
          case rel => exact ⟨j + 1, by omega, by go_num, LZ.out⟩
          case measure => simp [intOf]; omega
        · have i2 : ¬ (9 : Int) ≤ (j : Int) := by omega
          go_wp2_with fail
          go_roundw
          case rel => exact ⟨j + 1, by omega, by go_num, LZ.out⟩
          case measure => simp [intOf]; omega
    · obtain rfl : j = 128 := by omega
      have HL := Lib.hid (HL3.out.trans lat)
      have T1 := Lib.hid ((tagTake_any 0 0 (some ⟨wr.heap.size, 0, none⟩) 128 128 (List.replicate 128 0) _ (by decide) (by decide) (by simp) (Has.row (Row.made wr 5 .u8 128)) (fun x hx => by have := (List.mem_replicate.1 hx).2; omega) (by simp) (by decide) (by decide) ((HS.out.later HL.out).later (Later.new _ _))).mono fun _ _ h => by rw [z128_00] at h; exact h.u (q := []) (m := 0) (r := true) rfl rfl rfl)
      clear lat
      go_wp2_with fail
      refine T1.out.mono ?_
      rintro e wa ⟨X1, c1, rfl, _, la⟩
      have HL := Lib.hid ((HL.out.alloc (.cells (madeCells #[.int .u8 0] 128) 5)).trans la)
      have T2 := Lib.hid ((tagTake_any 0 0 (some ⟨wa.heap.size, 0, none⟩) 127 127 (List.replicate 127 0) _ (by decide) (by decide) (by simp) (Has.row (Row.made wa 5 .u8 127)) (fun x hx => by have := (List.mem_replicate.1 hx).2; omega) (by simp) (by decide) (by decide) ((HS.out.later HL.out).later (Later.new _ _))).mono fun _ _ h => by rw [z127] at h; exact h.u (q := []) (m := 0) (r := false) rfl rfl rfl)
      clear la T1
      go_wp2_with fail
      refine T2.out.mono ?_
      rintro e wb ⟨X2, c2, rfl, _, lb⟩
      have HL := Lib.hid ((HL.out.alloc (.cells (madeCells #[.int .u8 0] 127) 5)).trans lb)
      have T3 := Lib.hid ((tagTake_any 1 0 (some ⟨wb.heap.size, 0, none⟩) 128 128 (List.replicate 128 0) _ (by decide) (by decide) (by simp) (Has.row (Row.made wb 5 .u8 128)) (fun x hx => by have := (List.mem_replicate.1 hx).2; omega) (by simp) (by decide) (by decide) ((HS.out.later HL.out).later (Later.new _ _))).mono fun _ _ h => by rw [z128_10] at h; exact h.u (q := []) (m := 0) (r := false) rfl rfl rfl)
      clear lb T2
      go_wp2_with fail
      refine T3.out.mono ?_
      rintro e wc ⟨X3, c3, rfl, _, lc⟩
      have HL := Lib.hid ((HL.out.alloc (.cells (madeCells #[.int .u8 0] 128) 5)).trans lc)
      clear lc T3
      go_wp2_with fail
      go_ret
      exact ⟨rfl, HL.out⟩
end Go.Proofs.YtnmldploafpbdaaDoor
