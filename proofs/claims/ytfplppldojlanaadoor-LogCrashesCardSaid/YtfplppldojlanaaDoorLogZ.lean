
import Derived.Test.YtfplppldojlanaaDoorLogY
/- The mathematics of logs and crashes: slots that are torn, records of which blocks are torn. -/

namespace Go.Proofs.YtfplppldojlanaaDoor
open Go.RowKit
set_option linter.unusedVariables false

/-- What the other slot may have: a block of an older generation, or noughts, over which the next one's may be torn. -/
def Old (g : Nat) (o1 : List Nat) : Prop := o1 = List.replicate 128 0 ∨ ∃ go, 1 ≤ go ∧ go < g ∧ o1 = tagB go 4294967295 []
def Oth (g : Nat) (o : List Nat) : Prop := ∃ k o1, k ≤ 128 ∧ Old g o1 ∧ o = (tagB (g + 1) 4294967295 []).take k ++ o1.drop k ∧ o ≠ tagB (g + 1) 4294967295 []
theorem Old.len {g : Nat} {o : List Nat} (h : Old g o) : o.length = 128 := by
  rcases h with rfl | ⟨go, _, _, rfl⟩
  · simp
  · exact tagB_len (by simp)
theorem Old.more {g g' : Nat} {o : List Nat} (h : Old g o) (hg : g ≤ g') : Old g' o := by
  rcases h with h | ⟨go, h1, h2, h3⟩
  · exact .inl h
  · exact .inr ⟨go, h1, by omega, h3⟩
theorem Old.tail {g : Nat} {o : List Nat} (h : Old g o) (hg : g + 1 < 4294967296) : o.drop 120 ≠ nums8 (g + 1) 4294967295 := by
  rcases h with rfl | ⟨go, h1, h2, rfl⟩
  · intro e
    have : nums8 0 0 = nums8 (g + 1) 4294967295 := by rw [nums8_zero, ← e, List.drop_replicate]
    have := (nums8_inj (by decide) (by decide) hg (by decide) this).2
    omega
  · rw [tagB_tail (by simp)]
    intro e
    have := (nums8_inj (by omega) (by decide) hg (by decide) e).1
    omega
/-- A slot that is torn is whole, or tells less. -/
theorem torn_slot {g k s : Nat} {o1 : List Nat} (hg1 : 1 ≤ g) (hg : g + 1 ≤ 4294967294) (hk : k ≤ 128) (ho : Old g o1) :
    (tagB (g + 1) 4294967295 []).take k ++ o1.drop k = tagB (g + 1) 4294967295 [] ∨ slotG s ((tagB (g + 1) 4294967295 []).take k ++ o1.drop k) < g := by
  have hol := ho.len
  have htail := ho.tail (by omega)
  have hN : (tagB (g + 1) 4294967295 []).length = 128 := tagB_len (by simp)
  have hT := takeT20_torn (g := g + 1) (s := 4294967295) (a := []) (by simp) hol htail k hk
  obtain ⟨M, hM⟩ : ∃ M, M = (tagB (g + 1) 4294967295 []).take k ++ o1.drop k := ⟨_, rfl⟩
  rw [← hM] at hT ⊢
  by_cases hw : M = tagB (g + 1) 4294967295 []
  · exact .inl hw
  · right
    rw [if_neg hw] at hT
    obtain ⟨gm, hgm⟩ : ∃ x, numH (M.take 4) = x := ⟨_, rfl⟩
    unfold slotG
    rw [hgm]
    split
    · rename_i h
      obtain ⟨hs, hle, _⟩ := h
      obtain ⟨l, hl⟩ := Option.isSome_iff_exists.1 hs
      obtain ⟨hl1, hl2⟩ := takeT20_iff.1 hl
      have hd : M.drop 120 = nums8 gm 4294967295 := by rw [hl2]; exact tagB_tail hl1
      by_cases hk2 : k ≤ 120
      · have he : M.drop 120 = o1.drop 120 := by
          rw [hM, List.drop_append, List.drop_of_length_le (by rw [List.length_take]; omega), List.nil_append, List.length_take, hN, Nat.min_eq_left hk, List.drop_drop]
          congr 1; omega
        rw [he] at hd
        rcases ho with rfl | ⟨go, h1, h2, rfl⟩
        · exfalso
          have : nums8 0 0 = nums8 gm 4294967295 := by rw [nums8_zero, ← hd, List.drop_replicate]
          have := (nums8_inj (by decide) (by decide) (by omega) (by decide) this).2
          omega
        · rw [tagB_tail (by simp)] at hd
          have := (nums8_inj (by omega) (by decide) (by omega) (by decide) hd).1
          omega
      · exfalso
        have he : M.take 4 = topB (g + 1) 4 := by
          rw [hM, List.take_append_of_le_length (by rw [List.length_take]; omega), List.take_take, Nat.min_eq_left (by omega)]
          unfold tagB tagHead nums8
          rw [List.append_assoc, List.append_assoc, List.take_append_of_le_length (by rw [topB_length]; exact Nat.le_refl _), List.take_of_length_le (by rw [topB_length]; exact Nat.le_refl _)]
        rw [he, numH_top4 (by omega)] at hgm
        subst hgm
        rw [hT] at hl
        cases hl
    · omega
theorem Oth.slot {g : Nat} {o : List Nat} (h : Oth g o) (hg1 : 1 ≤ g) (hg : g + 1 ≤ 4294967294) (s : Nat) : slotG s o < g := by
  obtain ⟨k, o1, hk, ho, rfl, hne⟩ := h
  rcases torn_slot (s := s) hg1 hg hk ho with h | h
  · exact absurd h hne
  · exact h
theorem Oth.of {g : Nat} {o : List Nat} (h : Old g o) (hg : g + 1 < 4294967296) : Oth g o := by
  refine ⟨0, o, Nat.zero_le _, h, by simp, fun e => h.tail hg ?_⟩
  rw [e]
  exact tagB_tail (by simp)
/-- Torn once more. -/
theorem Oth.mix {g k : Nat} {o : List Nat} (h : Oth g o) (hk : k ≤ 128) : (tagB (g + 1) 4294967295 []).take k ++ o.drop k = tagB (g + 1) 4294967295 [] ∨ Oth g ((tagB (g + 1) 4294967295 []).take k ++ o.drop k) := by
  obtain ⟨m, o1, hm, ho, rfl, hne⟩ := h
  have hN : (tagB (g + 1) 4294967295 []).length = 128 := tagB_len (by simp)
  obtain ⟨N, hNN⟩ : ∃ N, N = tagB (g + 1) 4294967295 [] := ⟨_, rfl⟩
  rw [← hNN] at hN ⊢
  have key : N.take k ++ (N.take m ++ o1.drop m).drop k = N.take (max k m) ++ o1.drop (max k m) := by
    have hol := ho.len
    rcases Nat.le_total k m with h | h
    · rw [Nat.max_eq_right h, List.drop_append_of_le_length (by rw [List.length_take]; omega), ← List.append_assoc]
      congr 1
      rw [List.drop_take, ← List.take_add, show k + (m - k) = m by omega]
    · rw [Nat.max_eq_left h, List.drop_append, List.drop_of_length_le (by rw [List.length_take]; omega), List.nil_append, List.length_take, hN, Nat.min_eq_left hm, List.drop_drop]
      congr 2; omega
  by_cases hw : N.take k ++ (N.take m ++ o1.drop m).drop k = N
  · exact .inl hw
  · right
    rw [key] at hw ⊢
    exact ⟨max k m, o1, by omega, ho, by rw [← hNN], by rw [← hNN]; exact hw⟩
/-- Records ahead of anything. -/
theorem recsL_app {gen : Nat} (T : List (List Nat)) : ∀ (rs : List (List Nat)) (P : List (List Nat)) (f : Nat), (∀ r ∈ rs, r.length ≤ 65536) → rs.length ≤ f →
    recsL gen (P ++ (layR gen P.length rs ++ T)) f P.length = rs ++ recsL gen (P ++ (layR gen P.length rs ++ T)) (f - rs.length) (P.length + sumN rs)
  | [], P, f, _, _ => by simp [sumN]
  | r :: rs, P, f, hr, hf => by
    obtain ⟨f, rfl⟩ : ∃ g, f = g + 1 := ⟨f - 1, by simp at hf; omega⟩
    have hsum : sumN (r :: rs) = blkN r.length + sumN rs := by unfold sumN; rw [List.map_cons, List.sum_cons]
    have hb := blkN_pos r.length
    have hlen : P.length + blkN r.length ≤ (P ++ (layR gen P.length (r :: rs) ++ T)).length := by
      rw [List.length_append, List.length_append, layR_len, hsum]; omega
    have hall : ∀ i, i < blkN r.length → (P ++ (layR gen P.length (r :: rs) ++ T))[P.length + i]? = some (tagB gen (P.length + i) (pieceT (recT r) i)) := by
      intro i hi
      rw [List.getElem?_append_right (by omega), Nat.add_sub_cancel_left]
      unfold layR
      rw [List.append_assoc, List.getElem?_append_left (by rw [laidR_len]; exact hi)]
      unfold laidR
      rw [List.getElem?_map, List.getElem?_range hi]
      rfl
    have ih := recsL_app (gen := gen) T rs (P ++ laidR gen P.length r) f (fun x hx => hr x (by simp [hx])) (by simp at hf; omega)
    rw [List.length_append, laidR_len] at ih
    have e : P ++ (layR gen P.length (r :: rs) ++ T) = (P ++ laidR gen P.length r) ++ (layR gen (P.length + blkN r.length) rs ++ T) := by
      rw [show layR gen P.length (r :: rs) = laidR gen P.length r ++ layR gen (P.length + blkN r.length) rs from rfl]
      simp only [List.append_assoc]
    have h1 : recsL gen (P ++ (layR gen P.length (r :: rs) ++ T)) (f + 1) P.length = r :: recsL gen (P ++ (layR gen P.length (r :: rs) ++ T)) f (P.length + blkN r.length) := by
      rw [recsL, if_pos (by omega), recL_laid (hr r (by simp)) hlen hall]
    rw [h1, e, ih, hsum, List.length_cons, List.cons_append, Nat.add_assoc, Nat.add_sub_add_right]
/-- A record of which a block is missing. -/
theorem growL_bad {gen seq j : Nat} {A : List (List Nat)} {r : List Nat} (hj : j < blkN r.length) (hgood : ∀ i, i < j → loadL gen A (seq + i) = some (pieceT (recT r) i)) (hbad : loadL gen A (seq + j) = none) :
    ∀ (f k : Nat), 1 ≤ k → k ≤ j → j < k + f → growL gen A seq (blkN r.length) f k ((recT r).take (110 * k)) = none
  | 0, k, _, _, h => by omega
  | f + 1, k, h1, hk, hf => by
    have hl : ((recT r).take (110 * k)).length = k * 110 := by
      rw [List.length_take, recT_len]
      unfold blkN at hj
      omega
    rw [growL_go, if_pos ⟨by omega, hl⟩]
    rcases Nat.lt_or_ge k j with h | h
    · rw [hgood k h]
      show growL gen A seq (blkN r.length) f (k + 1) ((recT r).take (110 * k) ++ pieceT (recT r) k) = _
      rw [take_piece]
      exact growL_bad hj hgood hbad f (k + 1) (by omega) (by omega) (by omega)
    · obtain rfl : k = j := by omega
      rw [hbad]
theorem recL_bad {gen seq j : Nat} {A : List (List Nat)} {r : List Nat} (hr : r.length ≤ 65536) (hA : seq + blkN r.length ≤ A.length) (hj : j < blkN r.length) (hgood : ∀ i, i < j → loadL gen A (seq + i) = some (pieceT (recT r) i)) (hbad : loadL gen A (seq + j) = none) : recL gen A seq = none := by
  rcases Nat.eq_zero_or_pos j with rfl | hp
  · exact recL_none hbad
  · have h0 := hgood 0 hp
    rw [Nat.add_zero] at h0
    have hp0 : pieceT (recT r) 0 = (recT r).take 110 := by unfold pieceT; rw [Nat.mul_zero, List.drop_zero]
    have h4 : ((recT r).take 110).take 4 = topB r.length 4 := by
      rw [List.take_take, show min 4 110 = 4 from rfl]
      unfold recT
      rw [List.take_append_of_le_length (by rw [topB_length]; exact Nat.le_refl _), List.take_of_length_le (by rw [topB_length]; exact Nat.le_refl _)]
    have hn : numH (topB r.length 4) = r.length := numH_top4 (by omega)
    have hg := growL_bad hj hgood hbad (blkN r.length) 1 (Nat.le_refl _) hp (by omega)
    rw [Nat.mul_one] at hg
    rw [hp0] at h0
    rw [recL_some h0, h4, hn, if_neg (by rw [List.length_take, recT_len]; omega), if_neg (by omega), hg]
/-- Records, and one more of which some blocks may be missing. -/
theorem recsL_more {g : Nat} {A : List (List Nat)} {have_ : List (List Nat)} {r : List Nat} (hg : 1 ≤ g ∧ g < 4294967296) (hh : ∀ x ∈ have_, x.length ≤ 65536) (hr : r.length ≤ 65536) (hA : A.length < 4294967296) (hl : have_.length ≤ sumN have_) (hroom : sumN have_ + blkN r.length ≤ A.length)
    (h1 : A.take (sumN have_) = layR g 0 have_) (h2 : ∀ j, j < blkN r.length → ∃ c, A[sumN have_ + j]? = some c ∧ (c = tagB g (sumN have_ + j) (pieceT (recT r) j) ∨ takeT20 g (sumN have_ + j) c = none))
    (h3 : ∀ i, sumN have_ + blkN r.length ≤ i → i < A.length → A[i]? = some (List.replicate 128 0)) : recsL g A (A.length + 1) 0 = have_ ∨ recsL g A (A.length + 1) 0 = have_ ++ [r] := by
  have happ := recsL_app (gen := g) (A.drop (sumN have_)) have_ [] (A.length + 1) hh (by omega)
  rw [List.nil_append] at happ
  have e : layR g ([] : List (List Nat)).length have_ ++ A.drop (sumN have_) = A := by
    show layR g 0 have_ ++ _ = A
    rw [← h1, List.take_append_drop]
  rw [e] at happ
  have happ : recsL g A (A.length + 1) 0 = have_ ++ recsL g A (A.length + 1 - have_.length) (0 + sumN have_) := happ
  rw [Nat.zero_add] at happ
  rw [happ]
  obtain ⟨f, hf⟩ : ∃ f, A.length + 1 - have_.length = f + 1 := ⟨A.length - have_.length, by omega⟩
  have hbp := blkN_pos r.length
  by_cases hall : ∀ j, j < blkN r.length → A[sumN have_ + j]? = some (tagB g (sumN have_ + j) (pieceT (recT r) j))
  · right
    rw [hf, recsL, if_pos (by omega), recL_laid hr hroom hall]
    dsimp only
    have hend : recsL g A f (sumN have_ + blkN r.length) = [] := by
      rcases f with _ | f
      · rfl
      · rw [recsL]
        split
        · rename_i h
          rw [recL_zero hg (by omega) _ rfl (h3 _ (Nat.le_refl _) h)]
        · rfl
    rw [hend]
  · left
    have hex : ∃ j, j < blkN r.length ∧ (∀ i, i < j → loadL g A (sumN have_ + i) = some (pieceT (recT r) i)) ∧ loadL g A (sumN have_ + j) = none := by
      have key : ∀ n, n ≤ blkN r.length → (∀ i, i < n → loadL g A (sumN have_ + i) = some (pieceT (recT r) i) ∧ A[sumN have_ + i]? = some (tagB g (sumN have_ + i) (pieceT (recT r) i))) ∨ ∃ j, j < n ∧ (∀ i, i < j → loadL g A (sumN have_ + i) = some (pieceT (recT r) i)) ∧ loadL g A (sumN have_ + j) = none := by
        intro n
        induction n with
        | zero => intro _; exact .inl fun i h => absurd h (Nat.not_lt_zero _)
        | succ n ih =>
          intro hn
          rcases ih (by omega) with h | ⟨j, hj, h⟩
          · obtain ⟨c, hc1, hc2⟩ := h2 n (by omega)
            rcases hc2 with rfl | hc2
            · left
              intro i hi
              rcases Nat.lt_or_ge i n with h4 | h4
              · exact h i h4
              · obtain rfl : i = n := by omega
                refine ⟨?_, hc1⟩
                unfold loadL
                rw [hc1]
                exact takeT20_put (pieceT_len _ _)
            · right
              refine ⟨n, by omega, fun i hi => (h i hi).1, ?_⟩
              unfold loadL
              rw [hc1]
              exact hc2
          · exact .inr ⟨j, by omega, h⟩
      rcases key _ (Nat.le_refl _) with h | ⟨j, hj, h⟩
      · exact absurd (fun j hj => (h j hj).2) hall
      · exact ⟨j, hj, h⟩
    obtain ⟨j, hj, hgood, hbad⟩ := hex
    rw [hf, recsL]
    split
    · rw [recL_bad hr hroom hj hgood hbad, List.append_nil]
    · rw [List.append_nil]
end Go.Proofs.YtfplppldojlanaaDoor

/- The mathematics of logs and crashes: what a crash leaves of Append, of Anew. -/

namespace Go.Proofs.YtfplppldojlanaaDoor
open Go.RowKit
set_option linter.unusedVariables false

theorem len_le_sumN : ∀ (R : List (List Nat)), R.length ≤ sumN R
  | [] => Nat.le_refl _
  | r :: rs => by
    have h1 := len_le_sumN rs
    have h2 : sumN (r :: rs) = blkN r.length + sumN rs := by unfold sumN; rw [List.map_cons, List.sum_cons]
    have := blkN_pos r.length
    rw [h2, List.length_cons]; omega
/-- What is found in blocks. -/
structure Seen (area g : Nat) (R X : List (List Nat)) : Prop where
  len : 2 + 2 * area ≤ X.length
  slot : X[g % 2]? = some (tagB g 4294967295 [])
  other : ∃ o, X[(g + 1) % 2]? = some o ∧ Oth g o
  recs : recsL g (areaG area g X) (area + 1) 0 = R
/-- A log that is whole. -/
structure Lg (area g : Nat) (R X : List (List Nat)) : Prop where
  lg : LgS area g R X
  other : ∃ o, X[(g + 1) % 2]? = some o ∧ Oth g o
theorem Lg.seen {area g : Nat} {R X : List (List Nat)} (h : Lg area g R X) (hg : 1 ≤ g ∧ g < 4294967296) (ha : area ≤ 1000) (hr : ∀ r ∈ R, r.length ≤ 65536) : Seen area g R X :=
  ⟨h.lg.len, h.lg.slot, h.other, h.lg.read hg ha hr (area + 1) (by have := len_le_sumN R; have := h.lg.sum; omega)⟩
theorem Seen.found {area g : Nat} {R X : List (List Nat)} (h : Seen area g R X) (hg1 : 1 ≤ g) (hg : g + 1 ≤ 4294967294) : ∃ b0 b1, X[0]? = some b0 ∧ X[1]? = some b1 ∧ max (slotG 0 b0) (slotG 1 b1) = g := by
  obtain ⟨b, hb1, hb2⟩ := h.other
  have hs := slotG_tag (gen := g) (by omega)
  have h0 := h.slot
  rcases Nat.mod_two_eq_zero_or_one g with e | e
  · have e1 : (g + 1) % 2 = 1 := by omega
    rw [e] at hs h0
    rw [e1] at hb1
    have := hb2.slot hg1 hg 1
    exact ⟨_, b, h0, hb1, by rw [hs]; omega⟩
  · have e1 : (g + 1) % 2 = 0 := by omega
    rw [e] at hs h0
    rw [e1] at hb1
    have := hb2.slot hg1 hg 0
    exact ⟨b, _, hb1, h0, by rw [hs]; omega⟩
def Agree (X Y : List (List Nat)) (off n : Nat) : Prop := Y.length = X.length ∧ ∀ i, ¬ (off ≤ i ∧ i < off + n) → Y[i]? = X[i]?
theorem Agree.refl (X : List (List Nat)) (off n : Nat) : Agree X X off n := ⟨rfl, fun _ _ => rfl⟩
theorem Agree.set {X Y : List (List Nat)} {off n i : Nat} (h : Agree X Y off n) (hi : off ≤ i ∧ i < off + n) (b : List Nat) : Agree X (Y.set i b) off n :=
  ⟨by rw [List.length_set]; exact h.1, fun j hj => by rw [List.getElem?_set_ne (by intro e; subst e; exact hj hi)]; exact h.2 j hj⟩
theorem areaG_agree {area g : Nat} {X Y : List (List Nat)} (h : Agree X Y (offG area (g + 1)) area) : areaG area g Y = areaG area g X := by
  refine List.ext_getElem? fun i => ?_
  unfold areaG
  rw [List.getElem?_take, List.getElem?_take]
  split
  · rename_i hi
    rw [List.getElem?_drop, List.getElem?_drop]
    refine h.2 _ fun hc => ?_
    have h1 := hc.1
    have h2 := hc.2
    unfold offG at h1 h2
    rcases Nat.mod_two_eq_zero_or_one g with e | e
    · have e1 : (g + 1) % 2 = 1 := by omega
      rw [e, e1] at h1 h2
      omega
    · have e1 : (g + 1) % 2 = 0 := by omega
      rw [e, e1] at h1 h2
      omega
  · rfl
theorem Seen.agree {area g : Nat} {R X Y : List (List Nat)} (h : Seen area g R X) (ha : Agree X Y (offG area (g + 1)) area) : Seen area g R Y := by
  have h2 : 2 ≤ offG area (g + 1) := by unfold offG; omega
  exact ⟨by rw [ha.1]; exact h.len, by rw [ha.2 _ (by omega)]; exact h.slot, by obtain ⟨o, h3, h4⟩ := h.other; exact ⟨o, by rw [ha.2 _ (by omega)]; exact h3, h4⟩, by rw [areaG_agree ha]; exact h.recs⟩
/-- What was written last is what is there now. -/
def Coh (d : D) : Prop := layAll d.sure d.fly = d.now
theorem Coh.wrT {d : D} (h : Coh d) (i : Nat) (b : List Nat) : Coh (d.wrT i b) := by
  unfold D.wrT
  split
  · exact h
  · show layAll d.sure (d.fly ++ [(i, b)]) = d.now.set i b
    unfold Coh layAll at h
    unfold layAll
    rw [List.foldl_append, h]
    rfl
theorem Coh.flT {d : D} (h : Coh d) : Coh d.flT := by
  unfold D.flT
  split
  · exact h
  · exact h
theorem Coh.flat {d : D} (h : d.sure = d.now) (hf : d.fly = []) : Coh d := by unfold Coh; rw [hf, ← h]; rfl
theorem layAll_agree {X : List (List Nat)} {off n : Nat} : ∀ (F : List (Nat × List Nat)) (s : List (List Nat)), Agree X s off n → (∀ x ∈ F, off ≤ x.1 ∧ x.1 < off + n) → Agree X (layAll s F) off n
  | [], s, h, _ => h
  | x :: F, s, h, hF => layAll_agree F (s.set x.1 x.2) (h.set (hF x (by simp)) x.2) fun y hy => hF y (by simp [hy])
/-- All that is on the way lies in a stretch. -/
def PhA (X : List (List Nat)) (off n : Nat) (d : D) : Prop := Agree X d.sure off n ∧ ∀ x ∈ d.fly, off ≤ x.1 ∧ x.1 < off + n
theorem PhA.wrT {X : List (List Nat)} {off n : Nat} {d : D} (h : PhA X off n d) {i : Nat} (hi : off ≤ i ∧ i < off + n) (b : List Nat) : PhA X off n (d.wrT i b) := by
  unfold D.wrT
  split
  · exact h
  · refine ⟨h.1, fun x hx => ?_⟩
    rcases List.mem_append.1 hx with hx | hx
    · exact h.2 x hx
    · rw [List.mem_singleton] at hx; subst hx; exact hi
theorem PhA.flT {X : List (List Nat)} {off n : Nat} {d : D} (h : PhA X off n d) : PhA X off n d.flT := by
  unfold D.flT
  split
  · exact h
  · exact ⟨layAll_agree d.fly d.sure h.1 h.2, fun x hx => by cases hx⟩
theorem zeroT_ph {X : List (List Nat)} {off n : Nat} {d : D} (h : PhA X off n d) (hc : Coh d) : ∀ k, k ≤ n → PhA X off n (zeroT off d k) ∧ Coh (zeroT off d k)
  | 0, _ => ⟨h, hc⟩
  | k + 1, hk => ⟨(zeroT_ph h hc k (by omega)).1.wrT (by omega) _, (zeroT_ph h hc k (by omega)).2.wrT _ _⟩
theorem layT_ph {X : List (List Nat)} {off n gen used : Nat} {r : List Nat} {d : D} (h : PhA X off n d) (hc : Coh d) : ∀ k, used + k ≤ n → PhA X off n (layT gen off used r d k) ∧ Coh (layT gen off used r d k)
  | 0, _ => ⟨h, hc⟩
  | k + 1, hk => ⟨(layT_ph h hc k (by omega)).1.wrT (by omega) _, (layT_ph h hc k (by omega)).2.wrT _ _⟩
theorem laysT_ph {X : List (List Nat)} {off n gen : Nat} : ∀ (L : List (List Nat)) (used : Nat) (d : D), PhA X off n d → Coh d → used + sumN L ≤ n → PhA X off n (laysT gen off used L d) ∧ Coh (laysT gen off used L d)
  | [], used, d, h, hc, _ => ⟨h, hc⟩
  | r :: rs, used, d, h, hc, hs => by
    have e : sumN (r :: rs) = blkN r.length + sumN rs := by unfold sumN; rw [List.map_cons, List.sum_cons]
    rw [e] at hs
    have h1 := layT_ph (gen := gen) (used := used) (r := r) h hc (blkN r.length) (by omega)
    exact laysT_ph rs (used + blkN r.length) _ h1.1 h1.2 (by omega)
/-- A device that has not stopped did all. -/
theorem wrT_run {d : D} {i : Nat} {b : List Nat} (h : (d.wrT i b).stopped = false) : d.stopped = false ∧ d.wrT i b = d.wr i b := by
  rcases hs : d.stopped with _ | _
  · exact ⟨rfl, by unfold D.wrT; rw [hs]; rfl⟩
  · have e : d.wrT i b = d := by unfold D.wrT; rw [hs]; rfl
    rw [e, hs] at h; cases h
theorem flT_run {d : D} (h : d.flT.stopped = false) : d.stopped = false ∧ d.flT = d.fl := by
  rcases hs : d.stopped with _ | _
  · exact ⟨rfl, by unfold D.flT; rw [hs]; rfl⟩
  · have e : d.flT = d := by unfold D.flT; rw [hs]; rfl
    rw [e, hs] at h; cases h
theorem wrT_halt {d : D} (h : d.stopped = true) (i : Nat) (b : List Nat) : d.wrT i b = d := by unfold D.wrT; rw [h]; rfl
theorem flT_halt {d : D} (h : d.stopped = true) : d.flT = d := by unfold D.flT; rw [h]; rfl
theorem zeroT_now {off area : Nat} {d : D} (hl : off + area ≤ d.now.length) : ∀ k, k ≤ area → (zeroT off d k).stopped = false → d.stopped = false ∧ (zeroT off d k).now = putAt d.now off (List.replicate k (List.replicate 128 0) ++ ((d.now.drop off).take area).drop k)
  | 0, _, h => ⟨h, by
    show d.now = _
    rw [List.replicate_zero, List.nil_append, List.drop_zero]
    exact (putAt_self hl).symm⟩
  | k + 1, hk, h => by
    obtain ⟨h1, h2⟩ := wrT_run (show ((zeroT off d k).wrT (off + k) (List.replicate 128 0)).stopped = false from h)
    obtain ⟨h3, h4⟩ := zeroT_now hl k (by omega) h1
    refine ⟨h3, ?_⟩
    show ((zeroT off d k).wrT (off + k) (List.replicate 128 0)).now = _
    rw [h2]
    show (zeroT off d k).now.set (off + k) (List.replicate 128 0) = _
    have hal : ((d.now.drop off).take area).length = area := by rw [List.length_take, List.length_drop]; omega
    have hLn : (List.replicate k (List.replicate 128 0) ++ ((d.now.drop off).take area).drop k).length = area := by
      rw [List.length_append, List.length_replicate, List.length_drop, hal]; omega
    rw [h4, putAt_set (by rw [hLn]; exact hl) k (by rw [hLn]; omega), zero_step (List.replicate 128 0) (by rw [hal]; omega)]
theorem layT_now {off area gen : Nat} {r : List Nat} {d : D} {P : List (List Nat)} (z : List Nat) (hl : off + area ≤ d.now.length) (hroom : P.length + blkN r.length ≤ area) (har : (d.now.drop off).take area = P ++ List.replicate (area - P.length) z) :
    ∀ k, k ≤ blkN r.length → (layT gen off P.length r d k).stopped = false → d.stopped = false ∧ (layT gen off P.length r d k).now = putAt d.now off (P ++ ((laidR gen P.length r).take k ++ List.replicate (area - P.length - k) z))
  | 0, _, h => ⟨h, by
    show d.now = _
    rw [List.take_zero, List.nil_append, Nat.sub_zero, ← har]
    exact (putAt_self hl).symm⟩
  | k + 1, hk, h => by
    obtain ⟨h1, h2⟩ := wrT_run (show ((layT gen off P.length r d k).wrT (off + (P.length + k)) (tagB gen (P.length + k) (pieceT (recT r) k))).stopped = false from h)
    obtain ⟨h3, h4⟩ := layT_now z hl hroom har k (by omega) h1
    refine ⟨h3, ?_⟩
    show ((layT gen off P.length r d k).wrT _ _).now = _
    rw [h2]
    show (layT gen off P.length r d k).now.set _ _ = _
    have hPL : (P ++ ((laidR gen P.length r).take k ++ List.replicate (area - P.length - k) z)).length = area := by
      rw [List.length_append, List.length_append, List.length_take, laidR_len, List.length_replicate]; omega
    rw [h4, putAt_set (by rw [hPL]; exact hl) (P.length + k) (by rw [hPL]; omega)]
    congr 1
    exact lay_step z (by omega) (by omega)
theorem laysT_now {off area gen : Nat} (z : List Nat) : ∀ (L : List (List Nat)) (P : List (List Nat)) (d : D), off + area ≤ d.now.length → P.length + sumN L ≤ area → (d.now.drop off).take area = P ++ List.replicate (area - P.length) z →
    (laysT gen off P.length L d).stopped = false → d.stopped = false ∧ (laysT gen off P.length L d).now = putAt d.now off (P ++ (layR gen P.length L ++ List.replicate (area - P.length - sumN L) z))
  | [], P, d, hl, _, har, h => ⟨h, by
    show d.now = _
    rw [show layR gen P.length [] = [] from rfl, show sumN [] = 0 from rfl, List.nil_append, Nat.sub_zero, ← har]
    exact (putAt_self hl).symm⟩
  | r :: rs, P, d, hl, hs, har, h => by
    have e : sumN (r :: rs) = blkN r.length + sumN rs := by unfold sumN; rw [List.map_cons, List.sum_cons]
    rw [e] at hs
    obtain ⟨d1, hd1⟩ : ∃ x, x = layT gen off P.length r d (blkN r.length) := ⟨_, rfl⟩
    have hlen : (P ++ laidR gen P.length r).length = P.length + blkN r.length := by rw [List.length_append, laidR_len]
    have h : (laysT gen off (P ++ laidR gen P.length r).length rs d1).stopped = false := by rw [hlen, hd1]; exact h
    have hd1l : d1.now.length = d.now.length := by
      rw [hd1]
      have : ∀ k, (layT gen off P.length r d k).now.length = d.now.length := by
        intro k
        induction k with
        | zero => rfl
        | succ k ih =>
          show ((layT gen off P.length r d k).wrT _ _).now.length = _
          unfold D.wrT
          split
          · exact ih
          · show ((layT gen off P.length r d k).now.set _ _).length = _
            rw [List.length_set]; exact ih
      exact this _
    have stop1 : ∀ (L : List (List Nat)) (u : Nat) (d : D), (laysT gen off u L d).stopped = false → d.stopped = false := by
      intro L
      induction L with
      | nil => intro u d h; exact h
      | cons r rs ih =>
        intro u d h
        have h1 := ih _ _ h
        have : ∀ k, (layT gen off u r d k).stopped = false → d.stopped = false := by
          intro k
          induction k with
          | zero => exact fun h => h
          | succ k ih2 => exact fun h => ih2 (wrT_run h).1
        exact this _ h1
    have hs1 := stop1 rs _ d1 h
    obtain ⟨h3, h4⟩ := layT_now z hl (by omega) har (blkN r.length) (Nat.le_refl _) (by rw [← hd1]; exact hs1)
    rw [← hd1, laidR_all] at h4
    have hPL : (P ++ (laidR gen P.length r ++ List.replicate (area - P.length - blkN r.length) z)).length = area := by
      rw [List.length_append, List.length_append, laidR_len, List.length_replicate]; omega
    have har1 : (d1.now.drop off).take area = (P ++ laidR gen P.length r) ++ List.replicate (area - (P ++ laidR gen P.length r).length) z := by
      rw [h4, hlen]
      unfold putAt
      have hto : (d.now.take off).length = off := by rw [List.length_take]; omega
      rw [List.drop_append_of_le_length (by rw [hto]; exact Nat.le_refl _), List.drop_of_length_le (by rw [hto]; exact Nat.le_refl _), List.nil_append, List.take_append_of_le_length (by rw [hPL]; exact Nat.le_refl _), List.take_of_length_le (by rw [hPL]; exact Nat.le_refl _), List.append_assoc, Nat.sub_sub]
    obtain ⟨h5, h6⟩ := laysT_now z rs (P ++ laidR gen P.length r) d1 (by rw [hd1l]; exact hl) (by rw [hlen]; omega) har1 h
    refine ⟨h3, ?_⟩
    have h7 : (laysT gen off P.length (r :: rs) d).now = (laysT gen off (P ++ laidR gen P.length r).length rs d1).now := by rw [hlen, hd1]; rfl
    rw [h7, h6, h4, putAt_putAt (by rw [hPL]; simp only [List.length_append, layR_len, laidR_len, List.length_replicate]; omega) (by rw [hPL]; exact hl), hlen, e, show layR gen P.length (r :: rs) = laidR gen P.length r ++ layR gen (P.length + blkN r.length) rs from rfl]
    congr 1
    rw [List.append_assoc, List.append_assoc]
    congr 3
    rw [show area - (P.length + blkN r.length) - sumN rs = area - P.length - (blkN r.length + sumN rs) by omega]
end Go.Proofs.YtfplppldojlanaaDoor

/- What a crash leaves of Append, of Anew. -/

namespace Go.Proofs.YtfplppldojlanaaDoor
open Go.RowKit
set_option linter.unusedVariables false

theorem crashJ_agree {X : List (List Nat)} {off n : Nat} {keep : List Nat} {torn at_ : Int} {F : List (Nat × List Nat)} {s : List (List Nat)} (h : Agree X s off n) (hF : ∀ x ∈ F, off ≤ x.1 ∧ x.1 < off + n) : ∀ j, j ≤ F.length → Agree X (crashJ keep torn at_ F s j) off n
  | 0, _ => h
  | j + 1, hj => by
    have ih := crashJ_agree (keep := keep) (torn := torn) (at_ := at_) h hF j (by omega)
    show Agree X (stepC keep torn at_ j (F.getD j (0, [])) (crashJ keep torn at_ F s j)) off n
    have hx : F.getD j (0, []) ∈ F := by
      rw [List.getD_eq_getElem?_getD, List.getElem?_eq_getElem (by omega)]
      exact List.getElem_mem _
    unfold stepC
    split
    · exact ih.set (hF _ hx) _
    · split
      · exact ih.set (hF _ hx) _
      · exact ih
theorem PhA.crash {X : List (List Nat)} {off n : Nat} {d : D} (h : PhA X off n d) (keep : List Nat) (torn at_ : Int) : Agree X (d.cr keep torn at_).now off n := crashJ_agree h.1 h.2 _ (Nat.le_refl _)
theorem crash_flat {d : D} (h : d.fly = []) (keep : List Nat) (torn at_ : Int) : (d.cr keep torn at_).now = d.sure := by
  show crashJ keep torn at_ d.fly d.sure d.fly.length = _
  rw [h]
  rfl
/-- A crash over writes one beside the other. -/
theorem crash_range {keep : List Nat} {torn at_ : Int} {s : List (List Nat)} {off n : Nat} {T : Nat → List Nat} {F : List (Nat × List Nat)} (hF : F = (List.range n).map fun j => (off + j, T j)) (hs : off + n ≤ s.length) : ∀ m, m ≤ n →
    (crashJ keep torn at_ F s m).length = s.length ∧ (∀ i, i < off ∨ off + m ≤ i → (crashJ keep torn at_ F s m)[i]? = s[i]?) ∧
    ∀ j, j < m → (crashJ keep torn at_ F s m)[off + j]? = s[off + j]? ∨ (crashJ keep torn at_ F s m)[off + j]? = some (T j) ∨ (crashJ keep torn at_ F s m)[off + j]? = some (mixL (T j) (s.getD (off + j) []) at_)
  | 0, _ => ⟨rfl, fun _ _ => rfl, fun j hj => absurd hj (Nat.not_lt_zero _)⟩
  | m + 1, hm => by
    obtain ⟨h0, h1, h2⟩ := crash_range (keep := keep) (torn := torn) (at_ := at_) hF hs m (by omega)
    have hx : F.getD m (0, []) = (off + m, T m) := by
      rw [hF, List.getD_eq_getElem?_getD, List.getElem?_map, List.getElem?_range (by omega)]; rfl
    have hg : (crashJ keep torn at_ F s m).getD (off + m) [] = s.getD (off + m) [] := by
      rw [List.getD_eq_getElem?_getD, List.getD_eq_getElem?_getD, h1 (off + m) (.inr (Nat.le_refl _))]
    have key : ∀ c : List Nat, (c = T m ∨ c = mixL (T m) (s.getD (off + m) []) at_) → ((crashJ keep torn at_ F s m).set (off + m) c).length = s.length ∧ (∀ i, i < off ∨ off + (m + 1) ≤ i → ((crashJ keep torn at_ F s m).set (off + m) c)[i]? = s[i]?) ∧
        ∀ j, j < m + 1 → ((crashJ keep torn at_ F s m).set (off + m) c)[off + j]? = s[off + j]? ∨ ((crashJ keep torn at_ F s m).set (off + m) c)[off + j]? = some (T j) ∨ ((crashJ keep torn at_ F s m).set (off + m) c)[off + j]? = some (mixL (T j) (s.getD (off + j) []) at_) := by
      intro c hc
      refine ⟨by rw [List.length_set]; exact h0, fun i hi => by rw [List.getElem?_set_ne (by omega)]; exact h1 i (by omega), fun j hj => ?_⟩
      rcases Nat.lt_or_ge j m with h | h
      · rw [List.getElem?_set_ne (by omega)]
        exact h2 j h
      · obtain rfl : j = m := by omega
        rw [List.getElem?_set_self (by rw [h0]; omega)]
        rcases hc with rfl | rfl
        · exact .inr (.inl rfl)
        · exact .inr (.inr rfl)
    show (stepC keep torn at_ m (F.getD m (0, [])) (crashJ keep torn at_ F s m)).length = s.length ∧ (∀ i, i < off ∨ off + (m + 1) ≤ i → (stepC keep torn at_ m (F.getD m (0, [])) (crashJ keep torn at_ F s m))[i]? = s[i]?) ∧ _
    show _ ∧ _ ∧ ∀ j, j < m + 1 → (stepC keep torn at_ m (F.getD m (0, [])) (crashJ keep torn at_ F s m))[off + j]? = s[off + j]? ∨ (stepC keep torn at_ m (F.getD m (0, [])) (crashJ keep torn at_ F s m))[off + j]? = some (T j) ∨ (stepC keep torn at_ m (F.getD m (0, [])) (crashJ keep torn at_ F s m))[off + j]? = some (mixL (T j) (s.getD (off + j) []) at_)
    rw [hx]
    unfold stepC
    split
    · rw [hg]; exact key _ (.inr rfl)
    · split
      · exact key _ (.inl rfl)
      · refine ⟨h0, fun i hi => h1 i (by omega), fun j hj => ?_⟩
        rcases Nat.lt_or_ge j m with h | h
        · exact h2 j h
        · obtain rfl : j = m := by omega
          exact .inl (h1 _ (.inr (Nat.le_refl _)))
/-- The writes of a record, so far. -/
theorem layT_fly {gen off used : Nat} {r : List Nat} {d : D} (hf : d.fly = []) : ∀ k, ∃ n, n ≤ k ∧ (layT gen off used r d k).fly = ((List.range n).map fun j => (off + used + j, tagB gen (used + j) (pieceT (recT r) j))) ∧ (layT gen off used r d k).sure = d.sure ∧ ((layT gen off used r d k).stopped = false → n = k)
  | 0 => ⟨0, Nat.le_refl _, hf, rfl, fun _ => rfl⟩
  | k + 1 => by
    obtain ⟨n, h1, h2, h3, h4⟩ := layT_fly (gen := gen) (off := off) (used := used) (r := r) hf k
    rcases hs : (layT gen off used r d k).stopped with _ | _
    · have hn := h4 hs
      subst hn
      have e : layT gen off used r d (n + 1) = (layT gen off used r d n).wr (off + (used + n)) (tagB gen (used + n) (pieceT (recT r) n)) := by
        show (layT gen off used r d n).wrT _ _ = _
        unfold D.wrT; rw [hs]; rfl
      refine ⟨n + 1, Nat.le_refl _, ?_, ?_, fun _ => rfl⟩
      · rw [e]
        show (layT gen off used r d n).fly ++ _ = _
        rw [h2, List.range_succ, List.map_append, ← Nat.add_assoc]; rfl
      · rw [e]; exact h3
    · have e : layT gen off used r d (k + 1) = layT gen off used r d k := wrT_halt hs _ _
      refine ⟨n, by omega, by rw [e]; exact h2, by rw [e]; exact h3, fun h => ?_⟩
      rw [e, hs] at h; cases h
/-- Append, and a crash. -/
theorem append_safe {area g : Nat} {R : List (List Nat)} {r : List Nat} {d : D} (hA : area ≤ 1000) (hg : 1 ≤ g ∧ g + 1 ≤ 4294967294) (hfl : d.fly = []) (hco : d.sure = d.now) (hL : Lg area g R d.now) (hR : ∀ x ∈ R, x.length ≤ 65536) (hr : r.length ≤ 65536) (hroom : sumN R + blkN r.length ≤ area) :
    (∀ keep torn at_, Seen area g R ((layT g (offG area g) (sumN R) r d (blkN r.length)).flT.cr keep torn at_).now ∨ Seen area g (R ++ [r]) ((layT g (offG area g) (sumN R) r d (blkN r.length)).flT.cr keep torn at_).now) ∧
    ((layT g (offG area g) (sumN R) r d (blkN r.length)).flT.stopped = false → (layT g (offG area g) (sumN R) r d (blkN r.length)).flT.fly = [] ∧ (layT g (offG area g) (sumN R) r d (blkN r.length)).flT.sure = (layT g (offG area g) (sumN R) r d (blkN r.length)).flT.now ∧ Lg area g (R ++ [r]) (layT g (offG area g) (sumN R) r d (blkN r.length)).flT.now) := by
  have hlen := hL.lg.len
  have hof := offG_le (gen := g) hlen
  have hof2 : 2 ≤ offG area g := by unfold offG; omega
  have hco2 := (layT_ph (X := d.now) (off := 0) (n := d.now.length) (gen := g) (used := sumN R) (r := r) ⟨by rw [hco]; exact Agree.refl _ _ _, fun x hx => by rw [hfl] at hx; cases hx⟩ (Coh.flat hco hfl) 0 (by omega))
  have hcoh : ∀ k, Coh (layT g (offG area g) (sumN R) r d k) := by
    intro k
    induction k with
    | zero => exact Coh.flat hco hfl
    | succ k ih => exact ih.wrT _ _
  obtain ⟨n, h1, h2, h3, h4⟩ := layT_fly (gen := g) (off := offG area g) (used := sumN R) (r := r) hfl (blkN r.length)
  have hc := hcoh (blkN r.length)
  have hPl : (layR g 0 R).length = sumN R := layR_len _ _ _
  have hnow := layT_now (off := offG area g) (area := area) (gen := g) (r := r) (d := d) (P := layR g 0 R) (List.replicate 128 0) hof (by rw [hPl]; exact hroom) (by rw [hPl]; exact hL.lg.area) (blkN r.length) (Nat.le_refl _)
  rw [hPl] at hnow
  obtain ⟨dL, hdL⟩ : ∃ x, x = layT g (offG area g) (sumN R) r d (blkN r.length) := ⟨_, rfl⟩
  rw [← hdL] at h2 h3 h4 hc hnow ⊢
  rcases hs : dL.stopped with _ | _
  · have e : dL.flT = dL.fl := by unfold D.flT; rw [hs]; rfl
    rw [e]
    have hflS : dL.fl.sure = dL.fl.now := hc
    obtain ⟨_, hn⟩ := hnow hs
    have hLg : Lg area g (R ++ [r]) dL.fl.now := by
      have hap := hL.lg.append r hroom
      have hne : putAt d.now (offG area g) (layR g 0 (R ++ [r]) ++ List.replicate (area - sumN (R ++ [r])) (List.replicate 128 0)) = dL.fl.now := by
        show _ = dL.now
        rw [hn, laidR_all, layR_snoc, sumN_snoc, Nat.zero_add, List.append_assoc, Nat.sub_sub]
      rw [hne] at hap
      refine ⟨hap, ?_⟩
      obtain ⟨o, ho1, ho2⟩ := hL.other
      refine ⟨o, ?_, ho2⟩
      rw [← hne, putAt_out (by rw [List.length_append, layR_len, List.length_replicate, sumN_snoc]; omega) _ (by omega)]
      exact ho1
    refine ⟨fun keep torn at_ => ?_, fun _ => ⟨rfl, hflS, hLg⟩⟩
    rw [crash_flat rfl, hflS]
    exact .inr (hLg.seen ⟨hg.1, by omega⟩ hA fun x hx => by
      rcases List.mem_append.1 hx with h | h
      · exact hR x h
      · rw [List.mem_singleton] at h; rw [h]; exact hr)
  · rw [flT_halt hs]
    refine ⟨fun keep torn at_ => ?_, fun h => by rw [hs] at h; cases h⟩
    have hnl : dL.fly.length = n := by rw [h2]; simp
    have hcr := crash_range (keep := keep) (torn := torn) (at_ := at_) (s := dL.sure) (off := offG area g + sumN R) (n := n) (T := fun j => tagB g (sumN R + j) (pieceT (recT r) j)) h2 (by rw [h3, hco]; omega) n (Nat.le_refl _)
    obtain ⟨Y, hY⟩ : ∃ Y, Y = (dL.cr keep torn at_).now := ⟨_, rfl⟩
    have hY2 : Y = crashJ keep torn at_ dL.fly dL.sure n := by rw [hY]; show crashJ keep torn at_ dL.fly dL.sure dL.fly.length = _; rw [hnl]
    rw [← hY2] at hcr
    rw [← hY]
    obtain ⟨y0, y1, y2⟩ := hcr
    rw [h3, hco] at y0 y1 y2
    have hAl : (areaG area g Y).length = area := areaG_len (by rw [y0]; exact hlen)
    have hXA : areaG area g d.now = layR g 0 R ++ List.replicate (area - sumN R) (List.replicate 128 0) := hL.lg.area
    have hat : ∀ i, i < area → (areaG area g Y)[i]? = Y[offG area g + i]? := fun i hi => areaG_at hi
    have hatX : ∀ i, i < area → (areaG area g d.now)[i]? = d.now[offG area g + i]? := fun i hi => areaG_at hi
    have hzero : ∀ i, sumN R ≤ i → i < area → d.now[offG area g + i]? = some (List.replicate 128 0) := fun i h1 h2 => by
      rw [← hatX i h2, hXA, List.getElem?_append_right (by rw [hPl]; exact h1), List.getElem?_replicate, if_pos (by rw [hPl]; omega)]
    have hsum := hL.lg.sum
    have hrec := recsL_more (g := g) (A := areaG area g Y) (have_ := R) (r := r) ⟨hg.1, by omega⟩ hR hr (by rw [hAl]; omega) (len_le_sumN R) (by rw [hAl]; exact hroom)
      (by
        refine List.ext_getElem? fun i => ?_
        rw [List.getElem?_take]
        split
        · rename_i hi
          rw [hat i (by omega), y1 _ (.inl (by omega)), ← hatX i (by omega), hXA, List.getElem?_append_left (by rw [hPl]; exact hi)]
        · rw [List.getElem?_eq_none (by rw [hPl]; omega)])
      (fun j hj => by
        rw [hat _ (by omega)]
        have hz := hzero (sumN R + j) (by omega) (by omega)
        rw [← Nat.add_assoc] at hz ⊢
        have hbad : takeT20 g (sumN R + j) (List.replicate 128 0) = none := take_zero ⟨hg.1, by omega⟩ (by omega) _ rfl
        by_cases hjn : j < n
        · rcases y2 j hjn with h | h | h
          · exact ⟨_, h.trans hz, .inr hbad⟩
          · exact ⟨_, h, .inl rfl⟩
          · rw [List.getD_eq_getElem?_getD, hz] at h
            refine ⟨_, h, ?_⟩
            have ht := takeT20_torn (g := g) (s := sumN R + j) (a := pieceT (recT r) j) (y := List.replicate 128 0) (pieceT_len _ _) (by simp) (by
              intro e
              have : nums8 0 0 = nums8 g (sumN R + j) := by rw [nums8_zero, ← e, List.drop_replicate]
              have := (nums8_inj (by decide) (by decide) (by omega) (by omega) this).1
              omega) (mixK at_) (mixK_le _)
            by_cases hw : (tagB g (sumN R + j) (pieceT (recT r) j)).take (mixK at_) ++ (List.replicate 128 0).drop (mixK at_) = tagB g (sumN R + j) (pieceT (recT r) j)
            · exact .inl hw
            · rw [if_neg hw] at ht
              exact .inr ht
        · exact ⟨_, (y1 _ (.inr (by omega))).trans hz, .inr hbad⟩)
      (fun i hi1 hi2 => by
        rw [hAl] at hi2
        rw [hat i hi2, y1 _ (.inr (by omega))]
        exact hzero i (by omega) hi2)
    rw [hAl] at hrec
    have hslot : Y[g % 2]? = some (tagB g 4294967295 []) := by rw [y1 _ (.inl (by omega))]; exact hL.lg.slot
    have hoth : ∃ o, Y[(g + 1) % 2]? = some o ∧ Oth g o := by
      obtain ⟨o, ho1, ho2⟩ := hL.other
      exact ⟨o, by rw [y1 _ (.inl (by omega))]; exact ho1, ho2⟩
    rcases hrec with h | h
    · exact .inl ⟨by rw [y0]; exact hlen, hslot, hoth, h⟩
    · exact .inr ⟨by rw [y0]; exact hlen, hslot, hoth, h⟩
/-- Anew, and a crash. -/
theorem anew_safe {area g : Nat} {R R2 : List (List Nat)} {d : D} (hA : area ≤ 1000) (hg : 1 ≤ g ∧ g + 2 ≤ 4294967294) (hfl : d.fly = []) (hco : d.sure = d.now) (hS : Seen area g R d.now) (hR2 : ∀ x ∈ R2, x.length ≤ 65536) (hsum : sumN R2 ≤ area) :
    (∀ keep torn at_, Seen area g R ((anewT (g + 1) area R2 d).cr keep torn at_).now ∨ Seen area (g + 1) R2 ((anewT (g + 1) area R2 d).cr keep torn at_).now) ∧
    ((anewT (g + 1) area R2 d).stopped = false → (anewT (g + 1) area R2 d).fly = [] ∧ (anewT (g + 1) area R2 d).sure = (anewT (g + 1) area R2 d).now ∧ Lg area (g + 1) R2 (anewT (g + 1) area R2 d).now) := by
  have hlen := hS.len
  have hof := offG_le (gen := g + 1) hlen
  have hof2 : 2 ≤ offG area (g + 1) := by unfold offG; omega
  have hp0 : PhA d.now (offG area (g + 1)) area d := ⟨by rw [hco]; exact Agree.refl _ _ _, fun x hx => by rw [hfl] at hx; cases hx⟩
  have hc0 : Coh d := Coh.flat hco hfl
  have hz := zeroT_ph hp0 hc0 area (Nat.le_refl _)
  have hzn := zeroT_now (d := d) hof area (Nat.le_refl _)
  obtain ⟨d1, hd1⟩ : ∃ x, x = (zeroT (offG area (g + 1)) d area).flT := ⟨_, rfl⟩
  have hp1 : PhA d.now (offG area (g + 1)) area d1 := by rw [hd1]; exact hz.1.flT
  have hc1 : Coh d1 := by rw [hd1]; exact hz.2.flT
  have hl := laysT_ph (gen := g + 1) R2 0 d1 hp1 hc1 (by omega)
  obtain ⟨dl, hdl⟩ : ∃ x, x = (laysT (g + 1) (offG area (g + 1)) 0 R2 d1).flT := ⟨_, rfl⟩
  have hp2 : PhA d.now (offG area (g + 1)) area dl := by rw [hdl]; exact hl.1.flT
  have hc2 : Coh dl := by rw [hdl]; exact hl.2.flT
  have he : anewT (g + 1) area R2 d = (dl.wrT ((g + 1) % 2) (tagB (g + 1) 4294967295 [])).flT := by unfold anewT; rw [hdl, hd1]
  rw [he]
  rcases hs : dl.stopped with _ | _
  · have hld : (laysT (g + 1) (offG area (g + 1)) 0 R2 d1).stopped = false ∧ dl = (laysT (g + 1) (offG area (g + 1)) 0 R2 d1).fl := by
      have := flT_run (d := laysT (g + 1) (offG area (g + 1)) 0 R2 d1) (by rw [← hdl]; exact hs)
      exact ⟨this.1, by rw [hdl]; exact this.2⟩
    have hlf : dl.fly = [] := by rw [hld.2]; rfl
    have hls : dl.sure = dl.now := by
      have := hc2
      unfold Coh at this
      rw [hlf] at this
      exact this
    -- the stretch of noughts
    have stop1 : d1.stopped = false := by
      have stop2 : ∀ (L : List (List Nat)) (u : Nat) (d : D), (laysT (g + 1) (offG area (g + 1)) u L d).stopped = false → d.stopped = false := by
        intro L
        induction L with
        | nil => intro u d h; exact h
        | cons r rs ih =>
          intro u d h
          have h1 := ih _ _ h
          have : ∀ k, (layT (g + 1) (offG area (g + 1)) u r d k).stopped = false → d.stopped = false := by
            intro k
            induction k with
            | zero => exact fun h => h
            | succ k ih2 => exact fun h => ih2 (wrT_run h).1
          exact this _ h1
      exact stop2 _ _ _ hld.1
    have hz1 : (zeroT (offG area (g + 1)) d area).stopped = false ∧ d1 = (zeroT (offG area (g + 1)) d area).fl := by
      have := flT_run (d := zeroT (offG area (g + 1)) d area) (by rw [← hd1]; exact stop1)
      exact ⟨this.1, by rw [hd1]; exact this.2⟩
    have hn1 : d1.now = putAt d.now (offG area (g + 1)) (List.replicate area (List.replicate 128 0)) := by
      rw [hz1.2]
      show (zeroT (offG area (g + 1)) d area).now = _
      rw [(hzn hz1.1).2, List.drop_of_length_le (by rw [List.length_take, List.length_drop]; omega), List.append_nil]
    have hz128 : (List.replicate area (List.replicate 128 0)).length = area := by simp
    have hn1l : d1.now.length = d.now.length := by rw [hn1, putAt_len (by rw [hz128]; exact hof)]
    have har : (d1.now.drop (offG area (g + 1))).take area = ([] : List (List Nat)) ++ List.replicate (area - ([] : List (List Nat)).length) (List.replicate 128 0) := by
      have := areaG_put (area := area) (gen := g + 1) (now := d.now) (L := List.replicate area (List.replicate 128 0)) hlen hz128
      unfold areaG at this
      rw [hn1, this]; rfl
    have hln := (laysT_now (gen := g + 1) (List.replicate 128 0) R2 [] d1 (by rw [hn1l]; exact hof) (by simpa using hsum) har hld.1).2
    have hX2 : dl.now = putAt d.now (offG area (g + 1)) (layR (g + 1) 0 R2 ++ List.replicate (area - sumN R2) (List.replicate 128 0)) := by
      rw [hld.2]
      show (laysT (g + 1) (offG area (g + 1)) 0 R2 d1).now = _
      have hln : (laysT (g + 1) (offG area (g + 1)) 0 R2 d1).now = putAt d1.now (offG area (g + 1)) ([] ++ (layR (g + 1) 0 R2 ++ List.replicate (area - 0 - sumN R2) (List.replicate 128 0))) := hln
      rw [hln, hn1, List.nil_append, Nat.sub_zero, putAt_putAt (by rw [hz128, List.length_append, layR_len, List.length_replicate]; omega) (by rw [hz128]; exact hof)]
    have hLl : (layR (g + 1) 0 R2 ++ List.replicate (area - sumN R2) (List.replicate 128 0)).length = area := by rw [List.length_append, layR_len, List.length_replicate]; omega
    have hX2l : dl.now.length = d.now.length := by rw [hX2, putAt_len (by rw [hLl]; exact hof)]
    obtain ⟨o, ho1, ho2⟩ := hS.other
    have hX2o : dl.now[(g + 1) % 2]? = some o := by rw [hX2, putAt_out (by rw [hLl]; exact hof) _ (by omega)]; exact ho1
    have hX2s : dl.now[g % 2]? = some (tagB g 4294967295 []) := by rw [hX2, putAt_out (by rw [hLl]; exact hof) _ (by omega)]; exact hS.slot
    have hag : Agree d.now dl.now (offG area (g + 1)) area := by rw [← hls]; exact hp2.1
    have hseenX2 : Seen area g R dl.now := hS.agree hag
    have hold : ∀ c, Oth g c → Seen area g R (dl.now.set ((g + 1) % 2) c) := fun c hc =>
      ⟨by rw [List.length_set]; exact hseenX2.len, by rw [List.getElem?_set_ne (by omega)]; exact hseenX2.slot, ⟨c, by rw [List.getElem?_set_self (by rw [hX2l]; omega)], hc⟩, by rw [areaG_slot (by omega)]; exact hseenX2.recs⟩
    have hnew : Lg area (g + 1) R2 (dl.now.set ((g + 1) % 2) (tagB (g + 1) 4294967295 [])) := by
      have h2 : (g + 1 + 1) % 2 = g % 2 := by omega
      have hA2 := LgS.anew (area := area) (gen := g + 1) (recs := R2) (now := d.now) hlen hsum ⟨tagB g 4294967295 [], by rw [h2]; exact hS.slot, by rw [h2, slotG_tag (by omega)]; omega⟩
      rw [← hX2] at hA2
      exact ⟨hA2, tagB g 4294967295 [], by rw [h2, List.getElem?_set_ne (by omega)]; exact hX2s, Oth.of (.inr ⟨g, hg.1, by omega, rfl⟩) (by omega)⟩
    have hnewS := hnew.seen ⟨by omega, by omega⟩ hA hR2
    have hw : dl.wrT ((g + 1) % 2) (tagB (g + 1) 4294967295 []) = dl.wr ((g + 1) % 2) (tagB (g + 1) 4294967295 []) := by unfold D.wrT; rw [hs]; rfl
    rw [hw]
    obtain ⟨d3, hd3⟩ : ∃ x, x = dl.wr ((g + 1) % 2) (tagB (g + 1) 4294967295 []) := ⟨_, rfl⟩
    have h3f : d3.fly = [((g + 1) % 2, tagB (g + 1) 4294967295 [])] := by rw [hd3]; show dl.fly ++ _ = _; rw [hlf]; rfl
    have h3s : d3.sure = dl.now := by rw [hd3, ← hls]; rfl
    have h3n : d3.now = dl.now.set ((g + 1) % 2) (tagB (g + 1) 4294967295 []) := by rw [hd3]; rfl
    rw [← hd3]
    rcases hs3 : d3.stopped with _ | _
    · have e3 : d3.flT = d3.fl := by unfold D.flT; rw [hs3]; rfl
      rw [e3]
      have hfs : d3.fl.sure = d3.fl.now := by
        show layAll d3.sure d3.fly = d3.now
        rw [h3f, h3s, h3n]; rfl
      refine ⟨fun keep torn at_ => ?_, fun _ => ⟨rfl, hfs, by show Lg area (g + 1) R2 d3.now; rw [h3n]; exact hnew⟩⟩
      rw [crash_flat rfl, hfs]
      right
      show Seen area (g + 1) R2 d3.now
      rw [h3n]; exact hnewS
    · rw [flT_halt hs3]
      refine ⟨fun keep torn at_ => ?_, fun h => by rw [hs3] at h; cases h⟩
      have hcr : (d3.cr keep torn at_).now = stepC keep torn at_ 0 ((g + 1) % 2, tagB (g + 1) 4294967295 []) dl.now := by
        show crashJ keep torn at_ d3.fly d3.sure d3.fly.length = _
        rw [h3f, h3s]; rfl
      rw [hcr]
      unfold stepC
      split
      · show Seen area g R (dl.now.set ((g + 1) % 2) (mixL _ (dl.now.getD ((g + 1) % 2) []) at_)) ∨ _
        rw [List.getD_eq_getElem?_getD, hX2o]
        show Seen area g R (dl.now.set ((g + 1) % 2) ((tagB (g + 1) 4294967295 []).take (mixK at_) ++ o.drop (mixK at_))) ∨ Seen area (g + 1) R2 (dl.now.set ((g + 1) % 2) ((tagB (g + 1) 4294967295 []).take (mixK at_) ++ o.drop (mixK at_)))
        rcases ho2.mix (mixK_le at_) with h | h
        · rw [h]; exact .inr hnewS
        · exact .inl (hold _ h)
      · split
        · exact .inr hnewS
        · exact .inl hseenX2
  · rw [wrT_halt hs, flT_halt hs]
    exact ⟨fun keep torn at_ => .inl (hS.agree (hp2.crash keep torn at_)), fun h => by rw [hs] at h; cases h⟩
end Go.Proofs.YtfplppldojlanaaDoor
