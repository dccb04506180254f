/- The walk of ValueOrder, all three right. -/
import Derived.Test.YtbmlipandjbbbaaDoorValBegun
import Derived.Test.YtbmlipandjbbbaaDoorSents
import Derived.Deep.RegionHeld3
namespace Go.Proofs.YtbmlipandjbbbaaDoor
open Go.RowKit
set_option linter.unusedVariables false

theorem size0 {s s' : ByteArray} (h : s.size = 0) (h' : s'.size = 0) : s = s' := by
  cases s with | mk d => cases s' with | mk d' =>
    have e : d.toList = [] := List.eq_nil_of_length_eq_zero (by rw [Array.length_toList]; exact h)
    have e' : d'.toList = [] := List.eq_nil_of_length_eq_zero (by rw [Array.length_toList]; exact h')
    rw [Array.ext' (e.trans e'.symm)]
theorem ord_1 {t i : Int} {s : ByteArray} {t' i' : Int} {s' : ByteArray} (h : cmpV t i s t' i' s' = 1) : t ≠ 0 := by
  intro h0
  have r0 : rankV t = 0 := by rw [h0]; rfl
  by_cases hr : rankV t = rankV t'
  · rw [cmpV_near hr, if_pos r0] at h; exact absurd h (by decide)
  · rw [cmpV_far hr] at h
    have := rankV_in t'
    rcases cmpI_in (rankV t) (rankV t') with k | k | k <;> omega
theorem ord_n {t i : Int} {s : ByteArray} {t' i' : Int} {s' : ByteArray} (h : cmpV t i s t' i' s' = -1) : (t = 0 ∧ t' ≠ 0) ∨ (t ≠ 0 ∧ t ≠ 4) ∨ (t = 4 ∧ t' = 4) := by
  have h1 := rankV_in t
  have h2 := rankV_in t'
  by_cases hr : rankV t = rankV t'
  · rw [cmpV_near hr] at h
    by_cases r0 : rankV t = 0
    · rw [if_pos r0] at h; exact absurd h (by decide)
    · omega
  · rw [cmpV_far hr] at h
    rcases cmpI_in (rankV t) (rankV t') with k | k | k <;> omega
theorem ord_0 {t i : Int} {s : ByteArray} {t' i' : Int} {s' : ByteArray} (ha : MayV t i s.size) (hb : MayV t' i' s'.size) (h : cmpV t i s t' i' s' = 0) : (t = t' ∧ i = i' ∧ s = s') ∨ (t ≠ 0 ∧ t ≠ 4 ∧ t' ≠ 0 ∧ t' ≠ 4 ∧ t ≠ t' ∧ i = i') := by
  have h1 := rankV_in t
  have h2 := rankV_in t'
  by_cases hr : rankV t = rankV t'
  · rw [cmpV_near hr] at h
    by_cases r0 : rankV t = 0
    · left
      unfold MayV at ha hb
      exact ⟨by omega, by omega, size0 (by omega) (by omega)⟩
    · rw [if_neg r0] at h
      by_cases r2 : rankV t = 2
      · rw [if_pos r2] at h
        left
        unfold MayV at ha hb
        refine ⟨by omega, by omega, ?_⟩
        have := cmpS_zero _ _ h
        cases s with | mk d => cases s' with | mk d' =>
          have e : d = d' := Array.ext' this
          rw [e]
      · rw [if_neg r2] at h
        have hi : i = i' := by rcases cmpI_in i i' with k | k | k <;> omega
        by_cases ht : t = t'
        · left
          unfold MayV at ha hb
          exact ⟨ht, hi, size0 (by omega) (by omega)⟩
        · right; omega
  · rw [cmpV_far hr] at h
    rcases cmpI_in (rankV t) (rankV t') with k | k | k <;> omega

set_option maxRecDepth 100000 in
set_option maxHeartbeats 16000000 in
theorem valOrder_yes (t i : Int) (s : ByteArray) (t' i' : Int) (s' : ByteArray) (u j : Int) (r : ByteArray) (w : World) (hs : Sn w) (hma : MayV t i s.size) (hmb : MayV t' i' s'.size) (hmc : MayV u j r.size) :
    Calls Tryd.prog 4 #[vagg t i s, vagg t' i' s', vagg u j r] w fun e w' => e = .returned (.bool true) ∧ Later w w' := by
  obtain ⟨w1, hw1⟩ : ∃ w1 : World, ((w.alloc (.cells #[.int .i64 t, .int .i64 i, .string s] 23)).alloc (.cells #[.int .i64 t', .int .i64 i', .string s'] 23)).alloc (.cells #[.int .i64 u, .int .i64 j, .string r] 23) = w1 := ⟨_, rfl⟩
  have L : Later w w1 := hw1 ▸ (((Later.refl w).alloc _).alloc _).alloc _
  have A : Blk w1 w.heap.size #[.int .i64 t, .int .i64 i, .string s] 23 := hw1 ▸ ((Blk.new w _ _ _ rfl).later (Later.new _ _)).later (Later.new _ _)
  have B : Blk w1 (w.heap.size + 1) #[.int .i64 t', .int .i64 i', .string s'] 23 := hw1 ▸ (Blk.new _ _ _ _ (by simp)).later (Later.new _ _)
  have C : Blk w1 (w.heap.size + 1 + 1) #[.int .i64 u, .int .i64 j, .string r] 23 := hw1 ▸ Blk.new _ _ _ _ (by simp)
  have HW := Lib.hid hw1
  clear hw1
  go_enter Tryd.func4, Tryd.ntmps4
  go_wp2_with fail
  rw [HW.out]
  refine (begun1_any w1 (hs.later L)).mono ?_
  rintro e w2 ⟨rfl, l⟩
  clear HW
  have A := A.later l
  have B := B.later l
  have C := C.later l
  have L := L.trans l
  have a0 := A.cell 0 _ rfl
  have a1 := A.cell 1 _ rfl
  have a2 := A.cell 2 _ rfl
  have b0 := B.cell 0 _ rfl
  have b1 := B.cell 1 _ rfl
  have b2 := B.cell 2 _ rfl
  have c0 := C.cell 0 _ rfl
  have c1 := C.cell 1 _ rfl
  have c2 := C.cell 2 _ rfl
  go_wp2_with fail
  refine (may_l t i s w2 (hs.later L)).mono ?_
  intro e w3 h
  obtain ⟨rfl, l⟩ := h.yes hma
  clear h
  have A := A.later l
  have B := B.later l
  have C := C.later l
  have L := L.trans l
  have a0 := A.cell 0 _ rfl
  have a1 := A.cell 1 _ rfl
  have a2 := A.cell 2 _ rfl
  have b0 := B.cell 0 _ rfl
  have b1 := B.cell 1 _ rfl
  have b2 := B.cell 2 _ rfl
  have c0 := C.cell 0 _ rfl
  have c1 := C.cell 1 _ rfl
  have c2 := C.cell 2 _ rfl
  go_wp2_with fail
  refine (may_l t' i' s' w3 (hs.later L)).mono ?_
  intro e w4 h
  obtain ⟨rfl, l⟩ := h.yes hmb
  clear h
  have A := A.later l
  have B := B.later l
  have C := C.later l
  have L := L.trans l
  have a0 := A.cell 0 _ rfl
  have a1 := A.cell 1 _ rfl
  have a2 := A.cell 2 _ rfl
  have b0 := B.cell 0 _ rfl
  have b1 := B.cell 1 _ rfl
  have b2 := B.cell 2 _ rfl
  have c0 := C.cell 0 _ rfl
  have c1 := C.cell 1 _ rfl
  have c2 := C.cell 2 _ rfl
  go_wp2_with fail
  refine (may_l u j r w4 (hs.later L)).mono ?_
  intro e w5 h
  obtain ⟨rfl, l⟩ := h.yes hmc
  clear h
  have A := A.later l
  have B := B.later l
  have C := C.later l
  have L := L.trans l
  have a0 := A.cell 0 _ rfl
  have a1 := A.cell 1 _ rfl
  have a2 := A.cell 2 _ rfl
  have b0 := B.cell 0 _ rfl
  have b1 := B.cell 1 _ rfl
  have b2 := B.cell 2 _ rfl
  have c0 := C.cell 0 _ rfl
  have c1 := C.cell 1 _ rfl
  have c2 := C.cell 2 _ rfl
  go_wp2_with fail
  have A := A.drew
  have B := B.drew
  have C := C.drew
  have L := L.drew
  go_region_held3 (fun w' => w'.cell? ⟨w.heap.size, 0, none⟩ = some (.int .i64 t) ∧ w'.cell? ⟨w.heap.size, 1, none⟩ = some (.int .i64 i) ∧ w'.cell? ⟨w.heap.size, 2, none⟩ = some (.string s) ∧ w'.cell? ⟨w.heap.size + 1, 0, none⟩ = some (.int .i64 t') ∧ w'.cell? ⟨w.heap.size + 1, 1, none⟩ = some (.int .i64 i') ∧ w'.cell? ⟨w.heap.size + 1, 2, none⟩ = some (.string s') ∧ w'.cell? ⟨w.heap.size + 1 + 1, 0, none⟩ = some (.int .i64 u) ∧ w'.cell? ⟨w.heap.size + 1 + 1, 1, none⟩ = some (.int .i64 j) ∧ w'.cell? ⟨w.heap.size + 1 + 1, 2, none⟩ = some (.string r)) (exact ⟨A.cell 0 _ rfl, A.cell 1 _ rfl, A.cell 2 _ rfl, B.cell 0 _ rfl, B.cell 1 _ rfl, B.cell 2 _ rfl, C.cell 0 _ rfl, C.cell 1 _ rfl, C.cell 2 _ rfl⟩) (first | (go_at_call 22; refine (valCmp_any _ _ _ _ _ _ _).mono ?_; rintro e wX ⟨rfl, lX⟩; have A := A.later lX; have B := B.later lX; have C := C.later lX; have L := L.trans lX; clear lX))
  have hx := cmpV_in t i s t' i' s'
  have hturn := cmpV_turn t i s t' i' s'
  have hself := cmpV_self t i s
  have htr := cmpV_trans t i s t' i' s' u j r
  have hy := cmpV_in t' i' s' u j r
  have hz := cmpV_in t i s u j r
  have HC := Lib.hid (valCmp_any t' i' s' t i s)
  have HS := Lib.hid (valCmp_any t i s t i s)
  rw [hturn] at HC
  rw [hself] at HS
  have O1 := Lib.hid (ord_1 (t := t) (i := i) (s := s) (t' := t') (i' := i') (s' := s'))
  have ON := Lib.hid (ord_n (t := t) (i := i) (s := s) (t' := t') (i' := i') (s' := s'))
  have O0 := Lib.hid (ord_0 hma hmb)
  obtain ⟨x, hxe⟩ : ∃ x, x = cmpV t i s t' i' s' := ⟨_, rfl⟩
  obtain ⟨y, hye⟩ : ∃ y, y = cmpV t' i' s' u j r := ⟨_, rfl⟩
  obtain ⟨z, hze⟩ : ∃ z, z = cmpV t i s u j r := ⟨_, rfl⟩
  rw [← hxe] at hx htr O1 ON O0 HC ⊢
  rw [← hye] at hy htr ⊢
  rw [← hze] at hz htr ⊢
  have a0 := A.cell 0 _ rfl
  have a1 := A.cell 1 _ rfl
  have a2 := A.cell 2 _ rfl
  have b0 := B.cell 0 _ rfl
  have b1 := B.cell 1 _ rfl
  have b2 := B.cell 2 _ rfl
  have hcase : (x = 1) ∨ (x = 0 ∧ y = 1) ∨ (x = -1 ∧ y = 1) ∨ (x = 0 ∧ y = 0 ∧ z = 0) ∨ (x = 0 ∧ y = -1 ∧ z = -1) ∨ (x = -1 ∧ y = 0 ∧ z = -1) ∨ (x = -1 ∧ y = -1 ∧ z = -1) := by
    rcases hx with h | h | h
    · rcases hy with k | k | k
      · right; right; right; right; right; right
        have := htr (by omega) (by omega)
        exact ⟨h, k, by omega⟩
      · right; right; right; right; right; left
        have := htr (by omega) (by omega)
        exact ⟨h, k, by omega⟩
      · right; right; left; exact ⟨h, k⟩
    · rcases hy with k | k | k
      · right; right; right; right; left
        have := htr (by omega) (by omega)
        exact ⟨h, k, by omega⟩
      · right; right; right; left
        have h1 := htr (by omega) (by omega)
        have h2 := cmpV_trans u j r t' i' s' t i s (by rw [cmpV_turn t' i' s' u j r, ← hye]; omega) (by rw [hturn, ← hxe]; omega)
        rw [cmpV_turn t i s u j r, ← hze] at h2
        exact ⟨h, k, by omega⟩
      · right; left; exact ⟨h, k⟩
    · left; exact h
  clear hx hy hz htr hturn hself hxe hye hze hma hmb hmc
  rcases hcase with rfl | ⟨rfl, rfl⟩ | ⟨rfl, rfl⟩ | ⟨rfl, rfl, rfl⟩ | ⟨rfl, rfl, rfl⟩ | ⟨rfl, rfl, rfl⟩ | ⟨rfl, rfl, rfl⟩
  · skip
    go_wp2_with fail
    refine (HC.out _).mono ?_
    rintro e wY ⟨rfl, l⟩
    have A := A.later l
    have B := B.later l
    have L := L.trans l
    have a0 := A.cell 0 _ rfl
    have a1 := A.cell 1 _ rfl
    have a2 := A.cell 2 _ rfl
    have b0 := B.cell 0 _ rfl
    have b1 := B.cell 1 _ rfl
    have b2 := B.cell 2 _ rfl
    clear l
    go_wp2_with fail
    refine (HS.out _).mono ?_
    rintro e wZ ⟨rfl, l⟩
    have A := A.later l
    have B := B.later l
    have L := L.trans l
    have a0 := A.cell 0 _ rfl
    have a1 := A.cell 1 _ rfl
    have a2 := A.cell 2 _ rfl
    have b0 := B.cell 0 _ rfl
    have b1 := B.cell 1 _ rfl
    have b2 := B.cell 2 _ rfl
    clear l
    have h1 := O1.out (by simp)
    have h1a : (t == 0) = false := by simpa using h1
    have h1b : (t != 0) = true := by simpa using h1
    by_cases k4 : t = 4
    · subst k4
      by_cases m4 : t' = 4
      · subst m4
        go_wp2_with fail
        go_ret
        exact ⟨rfl, L⟩
      · have m4a : (t' == 4) = false := by simpa using m4
        go_wp2_with fail
        go_ret
        exact ⟨rfl, L⟩
    · have k4a : (t == 4) = false := by simpa using k4
      have k4b : (t != 4) = true := by simpa using k4
      go_wp2_with fail
      go_ret
      exact ⟨rfl, L⟩
  · skip
    go_wp2_with fail
    refine (HC.out _).mono ?_
    rintro e wY ⟨rfl, l⟩
    have A := A.later l
    have B := B.later l
    have L := L.trans l
    have a0 := A.cell 0 _ rfl
    have a1 := A.cell 1 _ rfl
    have a2 := A.cell 2 _ rfl
    have b0 := B.cell 0 _ rfl
    have b1 := B.cell 1 _ rfl
    have b2 := B.cell 2 _ rfl
    clear l
    go_wp2_with fail
    refine (HS.out _).mono ?_
    rintro e wZ ⟨rfl, l⟩
    have A := A.later l
    have B := B.later l
    have L := L.trans l
    have a0 := A.cell 0 _ rfl
    have a1 := A.cell 1 _ rfl
    have a2 := A.cell 2 _ rfl
    have b0 := B.cell 0 _ rfl
    have b1 := B.cell 1 _ rfl
    have b2 := B.cell 2 _ rfl
    clear l
    rcases O0.out (by simp) with ⟨h1, h2, h3⟩ | ⟨h1, h2, h3, h4, h5, h6⟩
    · subst h1 h2 h3
      by_cases k0 : t = 0
      · subst k0
        go_wp2_with fail
        go_ret
        exact ⟨rfl, L⟩
      · have k0a : (t == 0) = false := by simpa using k0
        have k0b : (t != 0) = true := by simpa using k0
        by_cases k4 : t = 4
        · subst k4
          go_wp2_with fail
          go_ret
          exact ⟨rfl, L⟩
        · have k4a : (t == 4) = false := by simpa using k4
          have k4b : (t != 4) = true := by simpa using k4
          go_wp2_with fail
          go_ret
          exact ⟨rfl, L⟩
    · subst h6
      have h1a : (t == 0) = false := by simpa using h1
      have h1b : (t != 0) = true := by simpa using h1
      have h2a : (t == 4) = false := by simpa using h2
      have h2b : (t != 4) = true := by simpa using h2
      have h3a : (t' == 0) = false := by simpa using h3
      have h3b : (t' != 0) = true := by simpa using h3
      have h4a : (t' == 4) = false := by simpa using h4
      have h4b : (t' != 4) = true := by simpa using h4
      have h5a : (t == t') = false := by simpa using h5
      have h5b : (t != t') = true := by simpa using h5
      go_wp2_with fail
      go_ret
      exact ⟨rfl, L⟩
  · skip
    go_wp2_with fail
    refine (HC.out _).mono ?_
    rintro e wY ⟨rfl, l⟩
    have A := A.later l
    have B := B.later l
    have L := L.trans l
    have a0 := A.cell 0 _ rfl
    have a1 := A.cell 1 _ rfl
    have a2 := A.cell 2 _ rfl
    have b0 := B.cell 0 _ rfl
    have b1 := B.cell 1 _ rfl
    have b2 := B.cell 2 _ rfl
    clear l
    go_wp2_with fail
    refine (HS.out _).mono ?_
    rintro e wZ ⟨rfl, l⟩
    have A := A.later l
    have B := B.later l
    have L := L.trans l
    have a0 := A.cell 0 _ rfl
    have a1 := A.cell 1 _ rfl
    have a2 := A.cell 2 _ rfl
    have b0 := B.cell 0 _ rfl
    have b1 := B.cell 1 _ rfl
    have b2 := B.cell 2 _ rfl
    clear l
    rcases ON.out (by simp) with ⟨h1, h2⟩ | ⟨h1, h2⟩ | ⟨h1, h2⟩
    · subst h1
      have h2a : (t' == 0) = false := by simpa using h2
      have h2b : (t' != 0) = true := by simpa using h2
      go_wp2_with fail
      go_ret
      exact ⟨rfl, L⟩
    · have h1a : (t == 0) = false := by simpa using h1
      have h1b : (t != 0) = true := by simpa using h1
      have h2a : (t == 4) = false := by simpa using h2
      have h2b : (t != 4) = true := by simpa using h2
      go_wp2_with fail
      go_ret
      exact ⟨rfl, L⟩
    · subst h1 h2
      go_wp2_with fail
      go_ret
      exact ⟨rfl, L⟩
  · skip
    go_wp2_with fail
    refine (HC.out _).mono ?_
    rintro e wY ⟨rfl, l⟩
    have A := A.later l
    have B := B.later l
    have L := L.trans l
    have a0 := A.cell 0 _ rfl
    have a1 := A.cell 1 _ rfl
    have a2 := A.cell 2 _ rfl
    have b0 := B.cell 0 _ rfl
    have b1 := B.cell 1 _ rfl
    have b2 := B.cell 2 _ rfl
    clear l
    go_wp2_with fail
    refine (HS.out _).mono ?_
    rintro e wZ ⟨rfl, l⟩
    have A := A.later l
    have B := B.later l
    have L := L.trans l
    have a0 := A.cell 0 _ rfl
    have a1 := A.cell 1 _ rfl
    have a2 := A.cell 2 _ rfl
    have b0 := B.cell 0 _ rfl
    have b1 := B.cell 1 _ rfl
    have b2 := B.cell 2 _ rfl
    clear l
    rcases O0.out (by simp) with ⟨h1, h2, h3⟩ | ⟨h1, h2, h3, h4, h5, h6⟩
    · subst h1 h2 h3
      by_cases k0 : t = 0
      · subst k0
        go_wp2_with fail
        go_ret
        exact ⟨rfl, L⟩
      · have k0a : (t == 0) = false := by simpa using k0
        have k0b : (t != 0) = true := by simpa using k0
        by_cases k4 : t = 4
        · subst k4
          go_wp2_with fail
          go_ret
          exact ⟨rfl, L⟩
        · have k4a : (t == 4) = false := by simpa using k4
          have k4b : (t != 4) = true := by simpa using k4
          go_wp2_with fail
          go_ret
          exact ⟨rfl, L⟩
    · subst h6
      have h1a : (t == 0) = false := by simpa using h1
      have h1b : (t != 0) = true := by simpa using h1
      have h2a : (t == 4) = false := by simpa using h2
      have h2b : (t != 4) = true := by simpa using h2
      have h3a : (t' == 0) = false := by simpa using h3
      have h3b : (t' != 0) = true := by simpa using h3
      have h4a : (t' == 4) = false := by simpa using h4
      have h4b : (t' != 4) = true := by simpa using h4
      have h5a : (t == t') = false := by simpa using h5
      have h5b : (t != t') = true := by simpa using h5
      go_wp2_with fail
      go_ret
      exact ⟨rfl, L⟩
  · skip
    go_wp2_with fail
    refine (HC.out _).mono ?_
    rintro e wY ⟨rfl, l⟩
    have A := A.later l
    have B := B.later l
    have L := L.trans l
    have a0 := A.cell 0 _ rfl
    have a1 := A.cell 1 _ rfl
    have a2 := A.cell 2 _ rfl
    have b0 := B.cell 0 _ rfl
    have b1 := B.cell 1 _ rfl
    have b2 := B.cell 2 _ rfl
    clear l
    go_wp2_with fail
    refine (HS.out _).mono ?_
    rintro e wZ ⟨rfl, l⟩
    have A := A.later l
    have B := B.later l
    have L := L.trans l
    have a0 := A.cell 0 _ rfl
    have a1 := A.cell 1 _ rfl
    have a2 := A.cell 2 _ rfl
    have b0 := B.cell 0 _ rfl
    have b1 := B.cell 1 _ rfl
    have b2 := B.cell 2 _ rfl
    clear l
    rcases O0.out (by simp) with ⟨h1, h2, h3⟩ | ⟨h1, h2, h3, h4, h5, h6⟩
    · subst h1 h2 h3
      by_cases k0 : t = 0
      · subst k0
        go_wp2_with fail
        go_ret
        exact ⟨rfl, L⟩
      · have k0a : (t == 0) = false := by simpa using k0
        have k0b : (t != 0) = true := by simpa using k0
        by_cases k4 : t = 4
        · subst k4
          go_wp2_with fail
          go_ret
          exact ⟨rfl, L⟩
        · have k4a : (t == 4) = false := by simpa using k4
          have k4b : (t != 4) = true := by simpa using k4
          go_wp2_with fail
          go_ret
          exact ⟨rfl, L⟩
    · subst h6
      have h1a : (t == 0) = false := by simpa using h1
      have h1b : (t != 0) = true := by simpa using h1
      have h2a : (t == 4) = false := by simpa using h2
      have h2b : (t != 4) = true := by simpa using h2
      have h3a : (t' == 0) = false := by simpa using h3
      have h3b : (t' != 0) = true := by simpa using h3
      have h4a : (t' == 4) = false := by simpa using h4
      have h4b : (t' != 4) = true := by simpa using h4
      have h5a : (t == t') = false := by simpa using h5
      have h5b : (t != t') = true := by simpa using h5
      go_wp2_with fail
      go_ret
      exact ⟨rfl, L⟩
  · skip
    go_wp2_with fail
    refine (HC.out _).mono ?_
    rintro e wY ⟨rfl, l⟩
    have A := A.later l
    have B := B.later l
    have L := L.trans l
    have a0 := A.cell 0 _ rfl
    have a1 := A.cell 1 _ rfl
    have a2 := A.cell 2 _ rfl
    have b0 := B.cell 0 _ rfl
    have b1 := B.cell 1 _ rfl
    have b2 := B.cell 2 _ rfl
    clear l
    go_wp2_with fail
    refine (HS.out _).mono ?_
    rintro e wZ ⟨rfl, l⟩
    have A := A.later l
    have B := B.later l
    have L := L.trans l
    have a0 := A.cell 0 _ rfl
    have a1 := A.cell 1 _ rfl
    have a2 := A.cell 2 _ rfl
    have b0 := B.cell 0 _ rfl
    have b1 := B.cell 1 _ rfl
    have b2 := B.cell 2 _ rfl
    clear l
    rcases ON.out (by simp) with ⟨h1, h2⟩ | ⟨h1, h2⟩ | ⟨h1, h2⟩
    · subst h1
      have h2a : (t' == 0) = false := by simpa using h2
      have h2b : (t' != 0) = true := by simpa using h2
      go_wp2_with fail
      go_ret
      exact ⟨rfl, L⟩
    · have h1a : (t == 0) = false := by simpa using h1
      have h1b : (t != 0) = true := by simpa using h1
      have h2a : (t == 4) = false := by simpa using h2
      have h2b : (t != 4) = true := by simpa using h2
      go_wp2_with fail
      go_ret
      exact ⟨rfl, L⟩
    · subst h1 h2
      go_wp2_with fail
      go_ret
      exact ⟨rfl, L⟩
  · skip
    go_wp2_with fail
    refine (HC.out _).mono ?_
    rintro e wY ⟨rfl, l⟩
    have A := A.later l
    have B := B.later l
    have L := L.trans l
    have a0 := A.cell 0 _ rfl
    have a1 := A.cell 1 _ rfl
    have a2 := A.cell 2 _ rfl
    have b0 := B.cell 0 _ rfl
    have b1 := B.cell 1 _ rfl
    have b2 := B.cell 2 _ rfl
    clear l
    go_wp2_with fail
    refine (HS.out _).mono ?_
    rintro e wZ ⟨rfl, l⟩
    have A := A.later l
    have B := B.later l
    have L := L.trans l
    have a0 := A.cell 0 _ rfl
    have a1 := A.cell 1 _ rfl
    have a2 := A.cell 2 _ rfl
    have b0 := B.cell 0 _ rfl
    have b1 := B.cell 1 _ rfl
    have b2 := B.cell 2 _ rfl
    clear l
    rcases ON.out (by simp) with ⟨h1, h2⟩ | ⟨h1, h2⟩ | ⟨h1, h2⟩
    · subst h1
      have h2a : (t' == 0) = false := by simpa using h2
      have h2b : (t' != 0) = true := by simpa using h2
      go_wp2_with fail
      go_ret
      exact ⟨rfl, L⟩
    · have h1a : (t == 0) = false := by simpa using h1
      have h1b : (t != 0) = true := by simpa using h1
      have h2a : (t == 4) = false := by simpa using h2
      have h2b : (t != 4) = true := by simpa using h2
      go_wp2_with fail
      go_ret
      exact ⟨rfl, L⟩
    · subst h1 h2
      go_wp2_with fail
      go_ret
      exact ⟨rfl, L⟩
end Go.Proofs.YtbmlipandjbbbaaDoor
