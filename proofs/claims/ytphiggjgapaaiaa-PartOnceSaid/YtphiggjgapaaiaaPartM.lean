/- In which part a value is, and which rows are in each: mathematics. -/
import Derived.Test.YtphiggjgapaaiaaBatR
namespace Go.Proofs.Ytphiggjgapaaiaa
open Go.RowKit
set_option linter.unusedVariables false

/-- The bytes that tell a value. -/
def highB (i : Int) : List Nat := (List.range 8).map fun k => ((i % 18446744073709551616).toNat / 256 ^ (7 - k)) % 256
def speltV (t i : Int) (s : ByteArray) : List Nat := if t = 4 then 2 :: s.data.toList.map UInt8.toNat else if t = 0 then [0] else 1 :: highB i
def fnvStep (h b : Nat) : Nat := ((h ^^^ b) * 16777619) % 4294967296
def fnv (l : List Nat) : Nat := l.foldl fnvStep 2166136261
def partV (v : Val3) (n : Nat) : Nat := if n < 2 then 0 else fnv (speltV v.1 v.2.1 v.2.2) % n
theorem partV_lt (v : Val3) (n : Nat) (h : 1 ≤ n) : partV v n < n := by
  unfold partV
  split
  · omega
  · exact Nat.mod_lt _ (by omega)
theorem fnvStep_lt (h b : Nat) : fnvStep h b < 4294967296 := by unfold fnvStep; omega
theorem fnv_snoc (l : List Nat) (b : Nat) : fnv (l ++ [b]) = fnvStep (fnv l) b := by unfold fnv; rw [List.foldl_append, List.foldl_cons, List.foldl_nil]
theorem fnv_lt (l : List Nat) : fnv l < 4294967296 := by
  rcases List.eq_nil_or_concat l with rfl | ⟨r, b, rfl⟩
  · show (2166136261 : Nat) < 4294967296; omega
  · rw [List.concat_eq_append, fnv_snoc]; exact fnvStep_lt _ _
/-- The rows, of the first k, that are in part p. -/
def inPart (f : Nat → Nat) (k p : Nat) : List Nat := (List.range k).filter fun i => decide (f i = p)
theorem inPart_succ (f : Nat → Nat) (k p : Nat) : inPart f (k + 1) p = inPart f k p ++ (if f k = p then [k] else []) := by
  unfold inPart
  rw [List.range_succ, List.filter_append]
  congr 1
  by_cases h : f k = p
  · rw [if_pos h, List.filter_cons_of_pos (by simpa using h)]; rfl
  · rw [if_neg h, List.filter_cons_of_neg (by simpa using h)]; rfl
theorem inPart_mem (f : Nat → Nat) (k p r : Nat) : r ∈ inPart f k p ↔ r < k ∧ f r = p := by
  unfold inPart; rw [List.mem_filter, List.mem_range]; simp
theorem inPart_len (f : Nat → Nat) (k p : Nat) : (inPart f k p).length ≤ k := by
  unfold inPart
  refine Nat.le_trans (List.length_filter_le _ _) ?_
  rw [List.length_range]; exact Nat.le_refl _
theorem inPart_inc (f : Nat → Nat) (k p : Nat) : (inPart f k p).Pairwise (· < ·) := List.pairwise_lt_range.filter _
theorem inPart_sum (f : Nat → Nat) (n k : Nat) (h : ∀ i, i < k → f i < n) : ((List.range n).map fun p => (inPart f k p).length).sum = k := by
  induction k with
  | zero =>
    have : (fun p => (inPart f 0 p).length) = fun _ => 0 := by funext p; rfl
    rw [this]
    clear this h
    induction n with
    | zero => rfl
    | succ n ih => rw [List.range_succ, List.map_append, List.sum_append, ih]; rfl
  | succ k ih =>
    have e : ∀ n, f k < n → ((List.range n).map fun p => (inPart f (k + 1) p).length).sum = ((List.range n).map fun p => (inPart f k p).length).sum + 1 := by
      intro m
      induction m with
      | zero => intro h; omega
      | succ m im =>
        intro hm
        rw [List.range_succ, List.map_append, List.map_append, List.sum_append, List.sum_append]
        rw [List.map_singleton, List.map_singleton, List.sum_singleton, List.sum_singleton, inPart_succ, List.length_append]
        by_cases hf : f k = m
        · rw [if_pos hf]
          have hno : ∀ q, q ≤ m → ((List.range q).map fun p => (inPart f (k + 1) p).length).sum = ((List.range q).map fun p => (inPart f k p).length).sum := by
            intro q
            induction q with
            | zero => intro _; rfl
            | succ q iq =>
              intro hq
              rw [List.range_succ, List.map_append, List.map_append, List.sum_append, List.sum_append, iq (by omega)]
              rw [List.map_singleton, List.map_singleton, inPart_succ, if_neg (by omega), List.append_nil]
          rw [hno m (Nat.le_refl _)]
          simp; omega
        · rw [if_neg hf, im (by omega)]
          simp; omega
    rw [e n (h k (Nat.lt_succ_self _)), ih fun i hi => h i (by omega)]
end Go.Proofs.Ytphiggjgapaaiaa
