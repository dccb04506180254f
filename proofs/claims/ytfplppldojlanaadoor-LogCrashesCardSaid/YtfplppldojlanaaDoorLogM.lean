/- The mathematics of logs: records in blocks. -/
import Derived.Test.YtfplppldojlanaaDoorTagM
import Derived.Test.YtfplppldojlanaaDoorHighT
namespace Go.Proofs.YtfplppldojlanaaDoor
open Go.RowKit
set_option linter.unusedVariables false

theorem numH_top4 {v : Nat} (h : v < 4294967296) : numH (topB v 4) = v := by
  rw [topB4]
  simp only [numH, List.foldl_cons, List.foldl_nil]
  omega
/-- How many blocks a record of m bytes takes. -/
def blkN (m : Nat) : Nat := (113 + m) / 110
theorem blkN_pos (m : Nat) : 1 ≤ blkN m := by unfold blkN; omega
/-- A record's text, and its i-th piece. -/
def recT (r : List Nat) : List Nat := topB r.length 4 ++ r
theorem recT_len (r : List Nat) : (recT r).length = 4 + r.length := by unfold recT; rw [List.length_append, topB_length]
def pieceT (T : List Nat) (i : Nat) : List Nat := (T.drop (110 * i)).take 110
theorem pieceT_len (T : List Nat) (i : Nat) : (pieceT T i).length ≤ 110 := by unfold pieceT; rw [List.length_take]; omega
theorem take_piece (T : List Nat) (i : Nat) : T.take (110 * i) ++ pieceT T i = T.take (110 * (i + 1)) := by
  unfold pieceT
  rw [show 110 * (i + 1) = 110 * i + 110 by omega, List.take_add]
/-- A record's blocks from the place seq on. -/
def laidR (gen seq : Nat) (r : List Nat) : List (List Nat) := (List.range (blkN r.length)).map fun i => tagB gen (seq + i) (pieceT (recT r) i)
theorem laidR_len (gen seq : Nat) (r : List Nat) : (laidR gen seq r).length = blkN r.length := by unfold laidR; rw [List.length_map, List.length_range]
/-- Records, one behind the other. -/
def layR (gen : Nat) : Nat → List (List Nat) → List (List Nat)
  | _, [] => []
  | seq, r :: rs => laidR gen seq r ++ layR gen (seq + blkN r.length) rs
def sumN (rs : List (List Nat)) : Nat := (rs.map fun r => blkN r.length).sum
theorem layR_len (gen : Nat) : ∀ (seq : Nat) (rs : List (List Nat)), (layR gen seq rs).length = sumN rs
  | _, [] => rfl
  | seq, r :: rs => by
    unfold layR sumN
    rw [List.length_append, laidR_len, layR_len gen _ rs, List.map_cons, List.sum_cons]; rfl
theorem layR_snoc (gen : Nat) : ∀ (seq : Nat) (rs : List (List Nat)) (r : List Nat), layR gen seq (rs ++ [r]) = layR gen seq rs ++ laidR gen (seq + sumN rs) r
  | seq, [], r => by simp [layR, sumN]
  | seq, x :: rs, r => by
    rw [List.cons_append]
    unfold layR
    rw [layR_snoc gen _ rs r, List.append_assoc]
    unfold sumN
    rw [List.map_cons, List.sum_cons, Nat.add_assoc]
/-- What a block of the area bears. -/
def loadL (gen : Nat) (A : List (List Nat)) (i : Nat) : Option (List Nat) := A[i]?.bind fun b => takeT20 gen i b
/-- The text that grows, block by block. -/
def growL (gen : Nat) (A : List (List Nat)) (seq n : Nat) : Nat → Nat → List Nat → Option (List Nat)
  | 0, _, t => some t
  | f + 1, k, t => if k < n ∧ t.length = k * 110 then (match loadL gen A (seq + k) with | none => none | some more => growL gen A seq n f (k + 1) (t ++ more)) else some t
/-- The record whose first block stands at seq. -/
def recL (gen : Nat) (A : List (List Nat)) (seq : Nat) : Option (List Nat) :=
  match loadL gen A seq with
  | none => none
  | some t => if t.length < 4 then none else if 65536 < numH (t.take 4) ∨ A.length < seq + blkN (numH (t.take 4)) then none else
    match growL gen A seq (blkN (numH (t.take 4))) (blkN (numH (t.take 4))) 1 t with
    | none => none
    | some u => if u.length = 4 + numH (t.take 4) then some (u.drop 4) else none
/-- The records of an area. -/
def recsL (gen : Nat) (A : List (List Nat)) : Nat → Nat → List (List Nat)
  | 0, _ => []
  | f + 1, seq => if seq < A.length then (match recL gen A seq with | none => [] | some r => r :: recsL gen A f (seq + blkN r.length)) else []

theorem loadL_laid {gen seq : Nat} {A : List (List Nat)} {r : List Nat} (h : ∀ i, i < blkN r.length → A[seq + i]? = some (tagB gen (seq + i) (pieceT (recT r) i))) (i : Nat) (hi : i < blkN r.length) : loadL gen A (seq + i) = some (pieceT (recT r) i) := by
  unfold loadL
  rw [h i hi]
  exact takeT20_put (pieceT_len _ _)
theorem growL_laid {gen seq : Nat} {A : List (List Nat)} {r : List Nat} (h : ∀ i, i < blkN r.length → A[seq + i]? = some (tagB gen (seq + i) (pieceT (recT r) i))) :
    ∀ (f k : Nat), 1 ≤ k → k ≤ blkN r.length → blkN r.length ≤ k + f → growL gen A seq (blkN r.length) f k ((recT r).take (110 * k)) = some (recT r)
  | 0, k, _, hk, hf => by
    have e : k = blkN r.length := by omega
    unfold growL
    rw [List.take_of_length_le (by rw [recT_len, e]; unfold blkN; omega)]
  | f + 1, k, h1, hk, hf => by
    unfold growL
    by_cases hlt : k < blkN r.length
    · have hl : ((recT r).take (110 * k)).length = k * 110 := by
        rw [List.length_take, recT_len]
        unfold blkN at hlt
        omega
      rw [if_pos ⟨hlt, hl⟩, loadL_laid h k hlt]
      show growL gen A seq (blkN r.length) f (k + 1) ((recT r).take (110 * k) ++ pieceT (recT r) k) = _
      rw [take_piece]
      exact growL_laid h f (k + 1) (by omega) (by omega) (by omega)
    · have e : k = blkN r.length := by omega
      rw [if_neg (fun h => hlt h.1), List.take_of_length_le (by rw [recT_len, e]; unfold blkN; omega)]
theorem recL_laid {gen seq : Nat} {A : List (List Nat)} {r : List Nat} (hr : r.length ≤ 65536) (hA : seq + blkN r.length ≤ A.length) (h : ∀ i, i < blkN r.length → A[seq + i]? = some (tagB gen (seq + i) (pieceT (recT r) i))) : recL gen A seq = some r := by
  have h0 := loadL_laid h 0 (blkN_pos _)
  rw [Nat.add_zero] at h0
  have hp : pieceT (recT r) 0 = (recT r).take 110 := by unfold pieceT; rw [Nat.mul_zero, List.drop_zero]
  have h4 : ((recT r).take 110).take 4 = topB r.length 4 := by
    rw [List.take_take, show min 4 110 = 4 from rfl]
    unfold recT
    rw [List.take_append_of_le_length (by rw [topB_length]; exact Nat.le_refl _), List.take_of_length_le (by rw [topB_length]; exact Nat.le_refl _)]
  have hn : numH (topB r.length 4) = r.length := numH_top4 (by omega)
  have hg := growL_laid h (blkN r.length) 1 (Nat.le_refl _) (blkN_pos _) (by omega)
  rw [Nat.mul_one] at hg
  unfold recL
  rw [h0, hp]
  show (if ((recT r).take 110).length < 4 then none else if 65536 < numH (((recT r).take 110).take 4) ∨ A.length < seq + blkN (numH (((recT r).take 110).take 4)) then none else
    match growL gen A seq (blkN (numH (((recT r).take 110).take 4))) (blkN (numH (((recT r).take 110).take 4))) 1 ((recT r).take 110) with
    | none => none
    | some u => if u.length = 4 + numH (((recT r).take 110).take 4) then some (u.drop 4) else none) = some r
  rw [h4, hn, if_neg (by rw [List.length_take, recT_len]; omega), if_neg (by omega), hg]
  show (if (recT r).length = 4 + r.length then some ((recT r).drop 4) else none) = some r
  rw [if_pos (recT_len r)]
  unfold recT
  rw [List.drop_append_of_le_length (by rw [topB_length]; exact Nat.le_refl _), List.drop_of_length_le (by rw [topB_length]; exact Nat.le_refl _), List.nil_append]
theorem take_zero {gen seq : Nat} (hg : 1 ≤ gen ∧ gen < 4294967296) (hs : seq < 4294967296) (z : List Nat) (hz : z = List.replicate 128 0) : takeT20 gen seq z = none := by
  rcases ho : takeT20 gen seq z with _ | l
  · rfl
  · obtain ⟨h1, h2⟩ := takeT20_iff.1 ho
    have h3 := congrArg (List.drop 120) h2
    rw [tagB_tail h1, hz, List.drop_replicate] at h3
    have h4 : nums8 0 0 = nums8 gen seq := by rw [nums8_zero]; exact h3
    have := (nums8_inj (by omega) (by omega) hg.2 hs h4).1
    omega
theorem recL_zero {gen seq : Nat} {A : List (List Nat)} (hg : 1 ≤ gen ∧ gen < 4294967296) (hs : seq < 4294967296) (z : List Nat) (hz : z = List.replicate 128 0) (h : A[seq]? = some z) : recL gen A seq = none := by
  have e : loadL gen A seq = none := by
    unfold loadL
    rw [h, Option.bind_some, take_zero hg hs z hz]
  unfold recL
  rw [e]
theorem recsL_laid {gen k : Nat} (hg : 1 ≤ gen ∧ gen < 4294967296) (z : List Nat) (hz : z = List.replicate 128 0) : ∀ (rs : List (List Nat)) (P : List (List Nat)) (f : Nat), (∀ r ∈ rs, r.length ≤ 65536) → rs.length < f → P.length < 4294967296 →
    P.length + sumN rs < 4294967296 → recsL gen (P ++ (layR gen P.length rs ++ List.replicate k z)) f P.length = rs
  | [], P, f, _, hf, hP, _ => by
    obtain ⟨f, rfl⟩ : ∃ g, f = g + 1 := ⟨f - 1, by simp at hf; omega⟩
    unfold recsL layR
    rw [List.nil_append]
    rcases k with _ | k
    · simp
    · rw [if_pos (by simp), recL_zero hg hP z hz (by rw [List.getElem?_append_right (Nat.le_refl _), Nat.sub_self]; rfl)]
  | r :: rs, P, f, hr, hf, hP, hs => by
    obtain ⟨f, rfl⟩ : ∃ g, f = g + 1 := ⟨f - 1, by simp at hf; omega⟩
    have hsum : sumN (r :: rs) = blkN r.length + sumN rs := by unfold sumN; rw [List.map_cons, List.sum_cons]
    have hb := blkN_pos r.length
    unfold recsL
    have hlen : P.length + blkN r.length ≤ (P ++ (layR gen P.length (r :: rs) ++ List.replicate k z)).length := by
      rw [List.length_append, List.length_append, layR_len, hsum]; omega
    have hall : ∀ i, i < blkN r.length → (P ++ (layR gen P.length (r :: rs) ++ List.replicate k z))[P.length + i]? = some (tagB gen (P.length + i) (pieceT (recT r) i)) := by
      intro i hi
      rw [List.getElem?_append_right (by omega), Nat.add_sub_cancel_left]
      unfold layR
      rw [List.append_assoc, List.getElem?_append_left (by rw [laidR_len]; exact hi)]
      unfold laidR
      rw [List.getElem?_map, List.getElem?_range hi]
      rfl
    rw [if_pos (by omega), recL_laid (hr r (by simp)) hlen hall]
    dsimp only
    have ih := recsL_laid (k := k) hg z hz rs (P ++ laidR gen P.length r) f (fun x hx => hr x (by simp [hx])) (by simp at hf; omega) (by rw [List.length_append, laidR_len]; omega) (by rw [List.length_append, laidR_len]; omega)
    rw [List.length_append, laidR_len] at ih
    rw [show P ++ (layR gen P.length (r :: rs) ++ List.replicate k z) = (P ++ laidR gen P.length r) ++ (layR gen (P.length + blkN r.length) rs ++ List.replicate k z) from by
      rw [show layR gen P.length (r :: rs) = laidR gen P.length r ++ layR gen (P.length + blkN r.length) rs from rfl]
      simp only [List.append_assoc], ih]
end Go.Proofs.YtfplppldojlanaaDoor
