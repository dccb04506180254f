/- The mathematics of logs: an area among the blocks of a device. -/
import Derived.Test.YtfplppldojlanaaDoorLogM
namespace Go.Proofs.YtfplppldojlanaaDoor
open Go.RowKit
set_option linter.unusedVariables false

/-- Blocks with L laid from off on. -/
def putAt (now : List (List Nat)) (off : Nat) (L : List (List Nat)) : List (List Nat) := now.take off ++ (L ++ now.drop (off + L.length))
theorem putAt_len {now : List (List Nat)} {off : Nat} {L : List (List Nat)} (h : off + L.length ≤ now.length) : (putAt now off L).length = now.length := by
  unfold putAt
  rw [List.length_append, List.length_append, List.length_take, List.length_drop]; omega
theorem putAt_self {now : List (List Nat)} {off area : Nat} (h : off + area ≤ now.length) : putAt now off ((now.drop off).take area) = now := by
  have hl : ((now.drop off).take area).length = area := by rw [List.length_take, List.length_drop]; omega
  unfold putAt
  rw [hl, ← List.drop_drop, List.take_append_drop, List.take_append_drop]
theorem putAt_set {now : List (List Nat)} {off : Nat} {L : List (List Nat)} (h : off + L.length ≤ now.length) (i : Nat) (hi : i < L.length) (b : List Nat) : (putAt now off L).set (off + i) b = putAt now off (L.set i b) := by
  unfold putAt
  have hl : (now.take off).length = off := by rw [List.length_take]; omega
  rw [List.set_append_right _ _ (by rw [hl]; omega), hl, Nat.add_sub_cancel_left, List.set_append_left _ _ hi, List.length_set]
theorem putAt_in {now : List (List Nat)} {off : Nat} {L : List (List Nat)} (h : off + L.length ≤ now.length) (i : Nat) (hi : i < L.length) : (putAt now off L)[off + i]? = L[i]? := by
  unfold putAt
  have hl : (now.take off).length = off := by rw [List.length_take]; omega
  rw [List.getElem?_append_right (by rw [hl]; omega), hl, Nat.add_sub_cancel_left, List.getElem?_append_left hi]
theorem putAt_out {now : List (List Nat)} {off : Nat} {L : List (List Nat)} (h : off + L.length ≤ now.length) (i : Nat) (hi : i < off) : (putAt now off L)[i]? = now[i]? := by
  unfold putAt
  rw [List.getElem?_append_left (by rw [List.length_take]; omega), List.getElem?_take, if_pos hi]
theorem putAt_far {now : List (List Nat)} {off : Nat} {L : List (List Nat)} (h : off + L.length ≤ now.length) (i : Nat) (hi : off + L.length ≤ i) : (putAt now off L)[i]? = now[i]? := by
  unfold putAt
  have hl : (now.take off).length = off := by rw [List.length_take]; omega
  rw [List.getElem?_append_right (by rw [hl]; omega), hl, List.getElem?_append_right (by omega), List.getElem?_drop]
  congr 1; omega
/-- The area of a generation. -/
def offG (area gen : Nat) : Nat := 2 + gen % 2 * area
def areaG (area gen : Nat) (now : List (List Nat)) : List (List Nat) := (now.drop (offG area gen)).take area
theorem areaG_len {area gen : Nat} {now : List (List Nat)} (h : 2 + 2 * area ≤ now.length) : (areaG area gen now).length = area := by
  unfold areaG offG
  rw [List.length_take, List.length_drop]
  rcases Nat.mod_two_eq_zero_or_one gen with e | e <;> rw [e] <;> omega
theorem offG_le {area gen n : Nat} (h : 2 + 2 * area ≤ n) : offG area gen + area ≤ n := by
  unfold offG
  rcases Nat.mod_two_eq_zero_or_one gen with e | e <;> rw [e] <;> omega
theorem areaG_put {area gen : Nat} {now L : List (List Nat)} (h : 2 + 2 * area ≤ now.length) (hL : L.length = area) : areaG area gen (putAt now (offG area gen) L) = L := by
  have ho := offG_le (gen := gen) h
  unfold areaG putAt
  have hl : (now.take (offG area gen)).length = offG area gen := by rw [List.length_take]; omega
  rw [List.drop_append_of_le_length (by rw [hl]; exact Nat.le_refl _), List.drop_of_length_le (by rw [hl]; exact Nat.le_refl _), List.nil_append, List.take_append_of_le_length (by omega), List.take_of_length_le (by omega)]
theorem areaG_slot {area gen s : Nat} {now : List (List Nat)} (hs : s < 2) (b : List Nat) : areaG area gen (now.set s b) = areaG area gen now := by
  unfold areaG
  rw [List.drop_set_of_lt (by unfold offG; omega)]
theorem areaG_at {area gen i : Nat} {now : List (List Nat)} (hi : i < area) : (areaG area gen now)[i]? = now[offG area gen + i]? := by
  unfold areaG
  rw [List.getElem?_take, if_pos hi, List.getElem?_drop]
/-- The generation that a slot's block tells; 0: none. -/
def slotG (s : Nat) (b : List Nat) : Nat :=
  if (takeT20 (numH (b.take 4)) 4294967295 b).isSome = true ∧ numH (b.take 4) ≤ 4294967294 ∧ numH (b.take 4) % 2 = s then numH (b.take 4) else 0
theorem slotG_tag {gen : Nat} (hg : gen ≤ 4294967294) : slotG (gen % 2) (tagB gen 4294967295 []) = gen := by
  have h4 : (tagB gen 4294967295 []).take 4 = topB gen 4 := by
    unfold tagB tagHead nums8
    rw [List.append_assoc, List.append_assoc, List.take_append_of_le_length (by rw [topB_length]; exact Nat.le_refl _), List.take_of_length_le (by rw [topB_length]; exact Nat.le_refl _)]
  unfold slotG
  rw [h4, numH_top4 (by omega), takeT20_put (by simp)]
  rw [if_pos ⟨rfl, hg, rfl⟩]
theorem slotG_zero (s : Nat) (z : List Nat) (hz : z = List.replicate 128 0) : slotG s z = 0 := by
  have h4 : numH (z.take 4) = 0 := by rw [hz, List.take_replicate]; rfl
  unfold slotG
  rw [h4]
  split
  · rfl
  · rfl
/-- A log of a generation that has these records, as the blocks are now. -/
structure LgS (area gen : Nat) (recs : List (List Nat)) (now : List (List Nat)) : Prop where
  len : 2 + 2 * area ≤ now.length
  sum : sumN recs ≤ area
  area : areaG area gen now = layR gen 0 recs ++ List.replicate (area - sumN recs) (List.replicate 128 0)
  slot : now[gen % 2]? = some (tagB gen 4294967295 [])
  other : ∃ b, now[(gen + 1) % 2]? = some b ∧ slotG ((gen + 1) % 2) b < gen
theorem sumN_snoc (rs : List (List Nat)) (r : List Nat) : sumN (rs ++ [r]) = sumN rs + blkN r.length := by
  unfold sumN; rw [List.map_append, List.sum_append]; simp
/-- What is appended. -/
theorem LgS.append {area gen : Nat} {recs : List (List Nat)} {now : List (List Nat)} (h : LgS area gen recs now) (r : List Nat) (hr : sumN recs + blkN r.length ≤ area) :
    LgS area gen (recs ++ [r]) (putAt now (offG area gen) (layR gen 0 (recs ++ [r]) ++ List.replicate (area - sumN (recs ++ [r])) (List.replicate 128 0))) := by
  have hs := sumN_snoc recs r
  have hL : (layR gen 0 (recs ++ [r]) ++ List.replicate (area - sumN (recs ++ [r])) (List.replicate 128 0)).length = area := by
    rw [List.length_append, layR_len, List.length_replicate]; omega
  have ho := offG_le (gen := gen) h.len
  have h2 : 2 ≤ offG area gen := by unfold offG; omega
  refine ⟨by rw [putAt_len (by omega)]; exact h.len, by omega, areaG_put h.len hL, ?_, ?_⟩
  · rw [putAt_out (by omega) _ (by omega)]; exact h.slot
  · obtain ⟨b, hb1, hb2⟩ := h.other
    exact ⟨b, by rw [putAt_out (by omega) _ (by omega)]; exact hb1, hb2⟩
/-- What is made anew. -/
theorem LgS.anew {area gen : Nat} {recs : List (List Nat)} {now : List (List Nat)} (hlen : 2 + 2 * area ≤ now.length) (hsum : sumN recs ≤ area) (ho : ∃ b, now[(gen + 1) % 2]? = some b ∧ slotG ((gen + 1) % 2) b < gen) :
    LgS area gen recs ((putAt now (offG area gen) (layR gen 0 recs ++ List.replicate (area - sumN recs) (List.replicate 128 0))).set (gen % 2) (tagB gen 4294967295 [])) := by
  have hL : (layR gen 0 recs ++ List.replicate (area - sumN recs) (List.replicate 128 0)).length = area := by
    rw [List.length_append, layR_len, List.length_replicate]; omega
  have hof := offG_le (gen := gen) hlen
  have h2 : 2 ≤ offG area gen := by unfold offG; omega
  have hpl : (putAt now (offG area gen) (layR gen 0 recs ++ List.replicate (area - sumN recs) (List.replicate 128 0))).length = now.length := putAt_len (by omega)
  refine ⟨by rw [List.length_set, hpl]; exact hlen, hsum, ?_, ?_, ?_⟩
  · rw [areaG_slot (by omega), areaG_put hlen hL]
  · rw [List.getElem?_set_self (by rw [hpl]; omega)]
  · obtain ⟨b, hb1, hb2⟩ := ho
    refine ⟨b, ?_, hb2⟩
    rw [List.getElem?_set_ne (by omega), putAt_out (by omega) _ (by omega)]
    exact hb1
/-- Which generation is found. -/
theorem LgS.found {area gen : Nat} {recs : List (List Nat)} {now : List (List Nat)} (h : LgS area gen recs now) (hg : gen ≤ 4294967294) : ∃ b0 b1, now[0]? = some b0 ∧ now[1]? = some b1 ∧ max (slotG 0 b0) (slotG 1 b1) = gen := by
  obtain ⟨b, hb1, hb2⟩ := h.other
  have hs := slotG_tag hg
  have h0 := h.slot
  rcases Nat.mod_two_eq_zero_or_one gen with e | e
  · have e1 : (gen + 1) % 2 = 1 := by omega
    rw [e] at hs h0
    rw [e1] at hb1 hb2
    exact ⟨_, b, h0, hb1, by rw [hs]; omega⟩
  · have e1 : (gen + 1) % 2 = 0 := by omega
    rw [e] at hs h0
    rw [e1] at hb1 hb2
    exact ⟨b, _, hb1, h0, by rw [hs]; omega⟩
/-- .. and which records. -/
theorem LgS.read {area gen : Nat} {recs : List (List Nat)} {now : List (List Nat)} (h : LgS area gen recs now) (hg : 1 ≤ gen ∧ gen < 4294967296) (ha : area ≤ 1000) (hr : ∀ r ∈ recs, r.length ≤ 65536) (f : Nat) (hf : recs.length < f) : recsL gen (areaG area gen now) f 0 = recs := by
  rw [h.area]
  have := h.sum
  exact recsL_laid hg _ rfl recs [] f hr hf (by simp) (by simp; omega)
/-- A step of laying. -/
theorem lay_step {gen : Nat} {r : List Nat} {P : List (List Nat)} (z : List Nat) {k m : Nat} (hk : k < blkN r.length) (hm : blkN r.length ≤ m) :
    (P ++ ((laidR gen P.length r).take k ++ List.replicate (m - k) z)).set (P.length + k) (tagB gen (P.length + k) (pieceT (recT r) k)) = P ++ ((laidR gen P.length r).take (k + 1) ++ List.replicate (m - (k + 1)) z) := by
  have hl : (laidR gen P.length r).length = blkN r.length := laidR_len _ _ _
  have ht : ((laidR gen P.length r).take k).length = k := by rw [List.length_take]; omega
  have hg : (laidR gen P.length r)[k]'(by omega) = tagB gen (P.length + k) (pieceT (recT r) k) := by
    unfold laidR
    rw [List.getElem_map, List.getElem_range]
  rw [List.set_append_right _ _ (by omega), Nat.add_sub_cancel_left, List.set_append_right _ _ (by omega), ht, Nat.sub_self, show m - k = (m - (k + 1)) + 1 by omega, List.replicate_succ, List.set_cons_zero,
    List.take_succ_eq_append_getElem (by omega), hg, List.append_assoc]
  rfl
theorem text_more (r : List Nat) (k : Nat) : 0 < ((recT r).drop (110 * k)).length ↔ k < blkN r.length := by
  rw [List.length_drop, recT_len]
  unfold blkN
  omega
theorem text_next (r : List Nat) (k : Nat) : ((recT r).drop (110 * k)).take (min ((recT r).drop (110 * k)).length 110) = pieceT (recT r) k := by
  unfold pieceT
  rcases Nat.le_total ((recT r).drop (110 * k)).length 110 with h | h
  · rw [Nat.min_eq_left h, List.take_of_length_le (Nat.le_refl _), List.take_of_length_le h]
  · rw [Nat.min_eq_right h]
theorem text_drop (r : List Nat) (k : Nat) : ((recT r).drop (110 * k)).drop (min ((recT r).drop (110 * k)).length 110) = (recT r).drop (110 * (k + 1)) := by
  rcases Nat.le_total ((recT r).drop (110 * k)).length 110 with h | h
  · rw [Nat.min_eq_left h, List.drop_of_length_le (Nat.le_refl _), List.drop_of_length_le (by rw [List.length_drop] at h; omega)]
  · rw [Nat.min_eq_right h, List.drop_drop, show 110 * k + 110 = 110 * (k + 1) by omega]
theorem laidR_all (gen seq : Nat) (r : List Nat) : (laidR gen seq r).take (blkN r.length) = laidR gen seq r := List.take_of_length_le (by rw [laidR_len]; exact Nat.le_refl _)
/-- A step of laying noughts. -/
theorem zero_step {L : List (List Nat)} (z : List Nat) {k : Nat} (hk : k < L.length) : (List.replicate k z ++ L.drop k).set k z = List.replicate (k + 1) z ++ L.drop (k + 1) := by
  rw [List.set_append_right _ _ (by simp), List.length_replicate, Nat.sub_self, List.drop_eq_getElem_cons hk, List.set_cons_zero, List.replicate_succ']
  simp
end Go.Proofs.YtfplppldojlanaaDoor
