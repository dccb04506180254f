/- slices.CompactFunc at values. -/
import Derived.Test.YtfcedbhmbcbiaaaDoorDictU
import Derived.Deep.RegionHeld3
import Derived.Lib.SliceRun
namespace Go.Proofs.YtfcedbhmbcbiaaaDoor
open Go.RowKit
set_option linter.unusedVariables false

abbrev gv (s : List Val3) (i : Nat) : Val3 := s.getD i (0, 0, ⟨#[]⟩)
theorem gv_eq {s : List Val3} {i : Nat} (h : i < s.length) : gv s i = s[i] := by unfold gv; rw [List.getD_eq_getElem?_getD, List.getElem?_eq_getElem h]; rfl
/-- Is the value at i kept: unlike the one ahead of it? -/
def keepsV (s : List Val3) (i : Nat) : Bool := i == 0 || !(decide (cmp3 (gv s i) (gv s (i - 1)) = 0))
def unlN (s : List Val3) (m : Nat) : List Val3 := ((List.range m).filter (keepsV s)).map (gv s)
theorem unlN_succ (s : List Val3) (m : Nat) : unlN s (m + 1) = unlN s m ++ (if keepsV s m then [gv s m] else []) := by
  unfold unlN
  rw [List.range_succ, List.filter_append, List.map_append]
  congr 1
  by_cases h : keepsV s m = true
  · rw [if_pos h, List.filter_cons_of_pos h]; rfl
  · rw [if_neg h, List.filter_cons_of_neg h]; rfl
theorem unlN_len (s : List Val3) (m : Nat) : (unlN s m).length ≤ m := by
  unfold unlN
  rw [List.length_map]
  exact Nat.le_trans (List.length_filter_le _ _) (by rw [List.length_range]; exact Nat.le_refl _)
theorem unlN_all {s : List Val3} : ∀ {k : Nat}, k ≤ s.length → (∀ i, i < k → keepsV s i = true) → unlN s k = s.take k
  | 0, _, _ => rfl
  | k + 1, hk, h => by
    rw [unlN_succ, if_pos (h k (by omega)), unlN_all (by omega) (fun i hi => h i (by omega)), gv_eq (by omega), List.take_succ_eq_append_getElem (by omega)]
theorem le_of_sorted {s : List Val3} (hs : s.Pairwise fun x y => ¬ cmp3 y x < 0) {i j : Nat} (hj : j < s.length) (hij : i ≤ j) : ¬ cmp3 s[j] (s[i]'(by omega)) < 0 := by
  rcases Nat.lt_or_ge i j with h | h
  · exact List.pairwise_iff_getElem.1 hs i j (by omega) hj h
  · obtain rfl : i = j := by omega
    rw [cmp3_self]; omega
/-- Of rising values the unlike ones are the words. -/
theorem unlN_words {t : Int} (ht : 1 ≤ t ∧ t ≤ 4) {l s : List Val3} (ol : OkL t l) (hp : s.Perm l) (hs : s.Pairwise fun x y => ¬ cmp3 y x < 0) : unlN s s.length = wordsOf l := by
  have os : OkL t s := fun x hx => ol x (hp.mem_iff.1 hx)
  refine asc_unique ?_ (words_asc ht ol) fun z => ?_
  · unfold unlN Asc
    rw [List.pairwise_map]
    have hr : ((List.range s.length).filter (keepsV s)).Pairwise fun i j => i < j ∧ j < s.length ∧ keepsV s j = true := by
      rw [List.pairwise_filter]
      have h1 : (List.range s.length).Pairwise (· < ·) := List.pairwise_lt_range
      refine (List.pairwise_iff_getElem.2 fun i j hi hj hij => ?_)
      intro _ hk
      rw [List.length_range] at hi hj
      rw [List.getElem_range, List.getElem_range] at *
      exact ⟨hij, hj, hk⟩
    refine hr.imp fun {i j} h => ?_
    obtain ⟨hij, hj, hk⟩ := h
    have hj0 : j ≠ 0 := by omega
    unfold keepsV at hk
    rw [gv_eq hj, gv_eq (show j - 1 < s.length by omega)] at hk
    have hne : ¬ cmp3 s[j] s[j - 1] = 0 := by simpa [hj0] using hk
    have h1 := le_of_sorted hs hj (show j - 1 ≤ j by omega)
    have h2 := le_of_sorted hs (show j - 1 < s.length by omega) (show i ≤ j - 1 by omega)
    rw [gv_eq (show i < s.length by omega), gv_eq hj]
    have a := cmp3_turn s[j] s[j - 1]
    have b := cmp3_turn s[j - 1] s[i]
    exact (cmpV_trans _ _ _ _ _ _ _ _ _ (show cmp3 s[i] s[j - 1] ≤ 0 by omega) (show cmp3 s[j - 1] s[j] ≤ 0 by omega)).2 (.inr (show cmp3 s[j - 1] s[j] < 0 by omega))
  · rw [words_mem ht ol, ← hp.mem_iff]
    constructor
    · intro hz
      obtain ⟨i, hi, rfl⟩ := List.mem_map.1 hz
      have := List.mem_range.1 (List.mem_filter.1 hi).1
      rw [gv_eq this]
      exact List.getElem_mem this
    · intro hz
      obtain ⟨i, hi, rfl⟩ := List.getElem_of_mem hz
      have key : ∀ (i : Nat) (hi : i < s.length), s[i] ∈ unlN s s.length := by
        intro i
        induction i with
        | zero =>
          intro hi
          refine List.mem_map.2 ⟨0, List.mem_filter.2 ⟨List.mem_range.2 hi, rfl⟩, gv_eq hi⟩
        | succ i ih =>
          intro hi
          by_cases hk : keepsV s (i + 1) = true
          · exact List.mem_map.2 ⟨i + 1, List.mem_filter.2 ⟨List.mem_range.2 hi, hk⟩, gv_eq hi⟩
          · unfold keepsV at hk
            rw [gv_eq hi, gv_eq (show i + 1 - 1 < s.length by omega)] at hk
            have h0 : cmp3 s[i + 1] (s[i]'(by omega)) = 0 := by simpa using hk
            have e := (cmp3_zero ht (os _ (List.getElem_mem hi)) (os _ (List.getElem_mem (show i < s.length by omega)))).1 h0
            rw [e]
            exact ih (by omega)
      exact key i hi
theorem Cells3.get {w : World} {g : Nat} {d : List Val3} (h : Cells3 w g d) (k : Nat) (hk : k < d.length) :
    w.cell? ⟨g, k * 3, none⟩ = some (.int .i64 d[k].1) ∧ w.cell? ⟨g, k * 3 + 1, none⟩ = some (.int .i64 d[k].2.1) ∧ w.cell? ⟨g, k * 3 + 2, none⟩ = some (.string d[k].2.2) ∧ w.frozen? ⟨g, k * 3, none⟩ = false ∧ w.frozen? ⟨g, k * 3 + 1, none⟩ = false ∧ w.frozen? ⟨g, k * 3 + 2, none⟩ = false := by
  obtain ⟨h0, h1, h2⟩ := fl_get d k hk
  exact ⟨(h.2 _ _ h0).1, (h.2 _ _ h1).1, (h.2 _ _ h2).1, (h.2 _ _ h0).2, (h.2 _ _ h1).2, (h.2 _ _ h2).2⟩
end Go.Proofs.YtfcedbhmbcbiaaaDoor
