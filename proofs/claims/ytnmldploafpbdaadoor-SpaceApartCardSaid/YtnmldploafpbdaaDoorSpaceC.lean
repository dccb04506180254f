/- The walks of package space: New, Mark, Free, Take. -/
import Derived.Test.YtnmldploafpbdaaDoorSpaceB
namespace Go.Proofs.YtnmldploafpbdaaDoor
open Go.RowKit
set_option linter.unusedVariables false

theorem info_bool : (Tryd.prog.info? 4).map (fun i => (i.zero, i.size, i.bytes)) = some (some (.bool false), 1, 1) := by kernel_rfl
/-- How many blocks New makes. -/
def newN (n : Int) : Nat := (min (max n 0) 4000).toNat
theorem newN_eq (n : Int) : min (max n 0) 4000 = (newN n : Int) := by unfold newN; omega
theorem newN_le (n : Int) : newN n ≤ 4000 := by unfold newN; omega

/-- What New makes. -/
def NewPost (F : Int) (N : Nat) (w : World) (e : Ending) (w' : World) : Prop :=
  ∃ p g c, e = .returned (sptr p) ∧ Spc w' p F (List.replicate N false) g c ∧ Later w w' ∧ w.heap.size ≤ p ∧ w.heap.size ≤ g

set_option maxRecDepth 100000 in
set_option maxHeartbeats 2000000 in
theorem spaceNew_any (f n : Int) (w : World) :
    Calls Tryd.prog 11 #[.int .i64 f, .int .i64 n] w (NewPost (max f 0) (newN n) w) := by
  obtain ⟨mf, hmf⟩ : ∃ x, max f 0 = x := ⟨_, rfl⟩
  obtain ⟨K, hK⟩ : ∃ x, newN n = x := ⟨_, rfl⟩
  have HK := Lib.hid (show K = (min (max n 0) 4000).toNat from hK.symm)
  rw [hmf, hK]
  have mk : ∀ N : Nat, N ≤ 4000 → ∀ W : World, (Instr.makeSlice 40 (.int .i64 (N : Int)) (.int .i64 (N : Int))).run Tryd.prog W = .ok (.slice (some ⟨W.heap.size, 0, none⟩) N N) (W.alloc (.cells (madeCells #[.bool false] N) 4)) := fun N h W => run_make_row' (P := Tryd.prog) 40 4 (.bool false) 1 Tryd.underlying40 info_bool rfl .i64 .i64 N (by omega) (by omega) W
  have fin : ∀ (N : Nat) (F : Int), N ≤ 4000 → NewPost F N w (.returned (sptr (w.heap.size + 1))) ((w.alloc (.cells (madeCells #[.bool false] N) 4)).alloc (.cells #[.int .i64 F, .slice (some ⟨w.heap.size, 0, none⟩) N N] 53)) := by
    intro N F hN
    have B0 := Blk.new w (bools (List.replicate N false)).toArray 4 w.heap.size rfl
    have hmc : madeCells #[.bool false] N = (bools (List.replicate N false)).toArray := by
      apply Array.ext'
      simp [madeCells, bools, Nat.mod_one, List.map_const']
    rw [hmc]
    refine ⟨w.heap.size + 1, w.heap.size, N, rfl, ⟨?_, by omega, ?_⟩, (Later.new w _).alloc _, by omega, Nat.le_refl _⟩
    · rw [List.length_replicate]; exact Blk.new _ _ _ _ (by simp)
    · rw [List.length_replicate]
      exact (B0.later (Later.new _ _)).ownG (Nat.zero_le _) (by simp [bools]) (by unfold maxLen; omega)
  clear hK
  by_cases h1 : n < 0
  · have hmk : ∀ W : World, (Instr.makeSlice 40 (.int .i64 0) (.int .i64 0)).run Tryd.prog W = .ok (.slice (some ⟨W.heap.size, 0, none⟩) 0 0) (W.alloc (.cells (madeCells #[.bool false] 0) 4)) := mk 0 (by omega)
    rw [show K = 0 from by have := HK.out; omega]
    have hd : max n 0 = 0 := by omega
    have hF := fin 0
    clear mk fin
    by_cases hf : f < 0
    · rw [show mf = 0 from by omega]; clear hmf HK
      go_enter Tryd.func11, Tryd.ntmps11
      go_wp2_with fail
      all_goals try go_ret
      all_goals (first | exact hF 0 (by omega) | (exfalso; omega))
    · rw [show mf = f from by omega]; clear hmf HK
      go_enter Tryd.func11, Tryd.ntmps11
      go_wp2_with fail
      all_goals try go_ret
      all_goals (first | exact hF _ (by omega) | (exfalso; omega))
  · by_cases h2 : n ≤ 4000
    · obtain ⟨N, rfl⟩ := Int.eq_ofNat_of_zero_le (show 0 ≤ n by omega)
      have hmk : ∀ W : World, (Instr.makeSlice 40 (.int .i64 (N : Int)) (.int .i64 (N : Int))).run Tryd.prog W = .ok (.slice (some ⟨W.heap.size, 0, none⟩) N N) (W.alloc (.cells (madeCells #[.bool false] N) 4)) := mk N (by omega)
      rw [show K = N from by have := HK.out; omega]
      have hF := fin N
      clear mk fin
      by_cases hf : f < 0
      · rw [show mf = 0 from by omega]; clear hmf HK
        go_enter Tryd.func11, Tryd.ntmps11
        go_wp2_with fail
        all_goals try go_ret
        all_goals (first | exact hF 0 (by omega) | (exfalso; omega))
      · rw [show mf = f from by omega]; clear hmf HK
        go_enter Tryd.func11, Tryd.ntmps11
        go_wp2_with fail
        all_goals try go_ret
        all_goals (first | exact hF _ (by omega) | (exfalso; omega))
    · have hmk : ∀ W : World, (Instr.makeSlice 40 (.int .i64 4000) (.int .i64 4000)).run Tryd.prog W = .ok (.slice (some ⟨W.heap.size, 0, none⟩) 4000 4000) (W.alloc (.cells (madeCells #[.bool false] 4000) 4)) := mk 4000 (by omega)
      rw [show K = 4000 from by have := HK.out; omega]
      have hd : max n 0 = n := by omega
      have hd2 : min n 4000 = 4000 := by omega
      have hF := fin 4000
      clear mk fin
      by_cases hf : f < 0
      · rw [show mf = 0 from by omega]; clear hmf HK
        go_enter Tryd.func11, Tryd.ntmps11
        go_wp2_with fail
        all_goals try go_ret
        all_goals (first | exact hF 0 (by omega) | (exfalso; omega))
      · rw [show mf = f from by omega]; clear hmf HK
        go_enter Tryd.func11, Tryd.ntmps11
        go_wp2_with fail
        all_goals try go_ret
        all_goals (first | exact hF _ (by omega) | (exfalso; omega))

set_option maxRecDepth 100000 in
set_option maxHeartbeats 2000000 in
theorem spaceMark_of (v : Value) (a n : Int) (Q : Ending → World → Prop) (w : World)
    (h : ∀ w1, Later w w1 → Calls Tryd.prog 29 #[v, ext a n, .bool true] w1 Q) (hq : ∀ e w', Q e w' → ∃ b, e = .returned (.bool b)) :
    Calls Tryd.prog 13 #[v, ext a n] w Q := by
  have BE := Blk.new w #[.int .i64 a, .int .i64 n] 30 w.heap.size rfl
  have b0 := BE.cell 0 _ rfl
  have b1 := BE.cell 1 _ rfl
  have H := Lib.hid (h _ (Later.new w (.cells #[.int .i64 a, .int .i64 n] 30)))
  have HQ := Lib.hid hq
  clear h BE hq
  go_enter Tryd.func13, Tryd.ntmps13
  go_wp2_with fail
  refine H.out.mono ?_
  intro e w2 h2
  obtain ⟨b, rfl⟩ := HQ.out _ _ h2
  have H2 := Lib.hid h2
  clear h2 b0 b1 H
  go_wp2_with fail
  exact H2.out
set_option maxRecDepth 100000 in
set_option maxHeartbeats 2000000 in
theorem spaceFree_of (v : Value) (a n : Int) (Q : Ending → World → Prop) (w : World)
    (h : ∀ w1, Later w w1 → Calls Tryd.prog 29 #[v, ext a n, .bool false] w1 Q) (hq : ∀ e w', Q e w' → ∃ b, e = .returned (.bool b)) :
    Calls Tryd.prog 15 #[v, ext a n] w Q := by
  have BE := Blk.new w #[.int .i64 a, .int .i64 n] 30 w.heap.size rfl
  have b0 := BE.cell 0 _ rfl
  have b1 := BE.cell 1 _ rfl
  have H := Lib.hid (h _ (Later.new w (.cells #[.int .i64 a, .int .i64 n] 30)))
  have HQ := Lib.hid hq
  clear h BE hq
  go_enter Tryd.func15, Tryd.ntmps15
  go_wp2_with fail
  refine H.out.mono ?_
  intro e w2 h2
  obtain ⟨b, rfl⟩ := HQ.out _ _ h2
  have H2 := Lib.hid h2
  clear h2 b0 b1 H
  go_wp2_with fail
  exact H2.out

/-- What turn leaves: none if a block of the extent is not there, or is not as it is wanted. -/
def turnS (f : Int) (l : List Bool) (a n : Int) (t : Bool) : Option (List Bool) :=
  if 1 ≤ n ∧ f ≤ a ∧ a - f + n ≤ l.length ∧ idxB t (segL l (a - f).toNat n.toNat) = -1 then some (setL l (a - f).toNat n.toNat t) else none

theorem spaceTurn_any (p : Nat) (f : Int) (l : List Bool) (g c : Nat) (a n : Int) (t : Bool) (aB aO : Addr) (w : World) (h : Spc w p f l g c) (hs : S19 w aB aO) (hf : 0 ≤ f) (hf2 : f ≤ 1099511627776) (hl : l.length ≤ 4000) (ha : a ≤ 9223372036854775807) :
    Calls Tryd.prog 29 #[sptr p, ext a n, .bool t] w fun e w' => e = .returned (.bool (turnS f l a n t).isSome) ∧ Spc w' p f ((turnS f l a n t).getD l) g c ∧ w.grownBy w' (some g) := by
  by_cases hi : insideS f l a n
  · obtain ⟨h1, h2, h3⟩ := hi
    obtain ⟨k, hk⟩ := Int.eq_ofNat_of_zero_le (show 0 ≤ a - f by omega)
    obtain ⟨m, rfl⟩ := Int.eq_ofNat_of_zero_le (show 0 ≤ n by omega)
    obtain rfl : a = f + (k : Int) := by omega
    have hkk : (f + (k : Int) - f).toNat = k := by omega
    have hmm : ((m : Nat) : Int).toNat = m := rfl
    by_cases hx : idxB t (segL l k m) = -1
    · have ht : turnS f l (f + (k : Int)) m t = some (setL l k m t) := by
        unfold turnS; rw [hkk, hmm]; exact if_pos ⟨h1, h2, h3, hx⟩
      rw [ht]
      exact spaceTurn_yes p f l g c k m t aB aO w h hs hf hf2 hl (by omega) (by omega) (by rw [Bool.not_not]; exact hx)
    · have ht : turnS f l (f + (k : Int)) m t = none := by
        unfold turnS; rw [hkk, hmm]; exact if_neg (fun h => hx h.2.2.2)
      rw [ht]
      refine (spaceTurn_no (sptr p) (f + (k : Int)) m t aB aO aO w hs (.inr rfl) (fun w1 l1 => ?_)).mono ?_
      · refine (spaceCheck_in p f l g c k m (!t) aB aO w1 (h.later l1) (hs.later l1) hf hf2 hl (by omega) (by omega) _ rfl).mono ?_
        rintro e w' (⟨h0, _⟩ | ⟨_, h0⟩)
        · rw [Bool.not_not] at h0; exact absurd h0 hx
        · exact h0
      · rintro e w' ⟨rfl, l1⟩
        exact ⟨rfl, h.later l1, l1.grown _⟩
  · have ht : turnS f l a n t = none := if_neg (fun h => hi ⟨h.1, h.2.1, h.2.2.1⟩)
    rw [ht]
    refine (spaceTurn_no (sptr p) a n t aB aO aB w hs (.inl rfl) (fun w1 l1 => spaceCheck_out p f l g c a n (!t) aB aO w1 (h.later l1) (hs.later l1) hf hf2 hl ha hi)).mono ?_
    rintro e w' ⟨rfl, l1⟩
    exact ⟨rfl, h.later l1, l1.grown _⟩
end Go.Proofs.YtnmldploafpbdaaDoor
