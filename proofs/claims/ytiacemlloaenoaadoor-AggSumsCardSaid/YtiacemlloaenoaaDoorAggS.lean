/- The sort of agg.groups: mathematics, and the walks of slices.SortStableFunc at ints, up to 20 of them. -/
import Derived.Test.YtiacemlloaenoaaDoorAggG
import Derived.Test.YtiacemlloaenoaaDoorStM
import Derived.Test.YtiacemlloaenoaaDoorInsl
namespace Go.Proofs.YtiacemlloaenoaaDoor
open Go.RowKit Go.Shelf
open Go.Sort hiding Below
set_option linter.unusedVariables false

/-- These places, sorted, those alike as they stand. -/
def IsS (cf : Nat → Nat → Int) (N : Nat) (S : List Nat) : Prop := S.Perm (List.range N) ∧ S.Pairwise fun x y => cf x y < 0 ∨ cf x y = 0 ∧ x < y
theorem cmpBy_turn (cols : List (List Val3)) : ∀ (bys : List Int) (x y : Nat), cmpBy cols bys y x = - cmpBy cols bys x y
  | [], _, _ => rfl
  | c :: r, x, y => by
    have h := cmp3_turn (cellAt cols c x) (cellAt cols c y)
    show (if cmp3 (cellAt cols c y) (cellAt cols c x) = 0 then _ else _) = - (if cmp3 (cellAt cols c x) (cellAt cols c y) = 0 then _ else _)
    rw [h]
    by_cases e : cmp3 (cellAt cols c x) (cellAt cols c y) = 0
    · rw [if_pos e, if_pos (by omega)]; exact cmpBy_turn cols r x y
    · rw [if_neg e, if_neg (by omega)]
theorem cmp3_trans (x y z : Val3) (h1 : cmp3 x y ≤ 0) (h2 : cmp3 y z ≤ 0) : cmp3 x z ≤ 0 ∧ (cmp3 x y < 0 ∨ cmp3 y z < 0 → cmp3 x z < 0) := cmpV_trans _ _ _ _ _ _ _ _ _ h1 h2
theorem cmpBy_trans (cols : List (List Val3)) : ∀ (bys : List Int) (x y z : Nat), cmpBy cols bys x y ≤ 0 → cmpBy cols bys y z ≤ 0 → cmpBy cols bys x z ≤ 0 ∧ (cmpBy cols bys x y < 0 ∨ cmpBy cols bys y z < 0 → cmpBy cols bys x z < 0)
  | [], _, _, _, _, _ => ⟨Int.le_refl _, fun h => by rcases h with h | h <;> exact absurd h (Int.lt_irrefl 0)⟩
  | c :: r, x, y, z, h1, h2 => by
    have ih := cmpBy_trans cols r x y z
    obtain ⟨a, ha⟩ : ∃ a, cellAt cols c x = a := ⟨_, rfl⟩
    obtain ⟨b, hb⟩ : ∃ a, cellAt cols c y = a := ⟨_, rfl⟩
    obtain ⟨d, hd⟩ : ∃ a, cellAt cols c z = a := ⟨_, rfl⟩
    have e1 : cmpBy cols (c :: r) x y = if cmp3 a b = 0 then cmpBy cols r x y else cmp3 a b := by rw [← ha, ← hb]; rfl
    have e2 : cmpBy cols (c :: r) y z = if cmp3 b d = 0 then cmpBy cols r y z else cmp3 b d := by rw [← hb, ← hd]; rfl
    have e3 : cmpBy cols (c :: r) x z = if cmp3 a d = 0 then cmpBy cols r x z else cmp3 a d := by rw [← ha, ← hd]; rfl
    rw [e1] at h1 ⊢
    rw [e2] at h2 ⊢
    rw [e3]
    have t1 := cmp3_trans a b d
    have t2 := cmp3_trans d b a
    have u1 := cmp3_turn a b
    have u2 := cmp3_turn b d
    have u3 := cmp3_turn a d
    by_cases c1 : cmp3 a b = 0
    · rw [if_pos c1] at h1 ⊢
      by_cases c2 : cmp3 b d = 0
      · rw [if_pos c2] at h2 ⊢
        have c3 : cmp3 a d = 0 := by
          have := (t1 (by omega) (by omega)).1
          have := (t2 (by omega) (by omega)).1
          omega
        rw [if_pos c3]
        exact ih h1 h2
      · rw [if_neg c2] at h2 ⊢
        have := (t1 (by omega) (by omega)).2 (.inr (by omega))
        rw [if_neg (by omega)]
        exact ⟨by omega, fun _ => this⟩
    · rw [if_neg c1] at h1 ⊢
      have h2' : cmp3 b d ≤ 0 := by
        by_cases c2 : cmp3 b d = 0
        · omega
        · rw [if_neg c2] at h2; omega
      have := (t1 (by omega) h2').2 (.inl (by omega))
      rw [if_neg (by omega)]
      exact ⟨by omega, fun _ => this⟩
theorem cmpBy_pre (cols : List (List Val3)) (bys : List Int) (M : Nat) : PreO fun x y : Fin (M + 1) => cmpBy cols bys x.val y.val :=
  ⟨fun x y => cmpBy_turn cols bys x.val y.val, fun x y z => cmpBy_trans cols bys x.val y.val z.val⟩
/-- The places in their order. -/
def idF (M : Nat) : Array (Fin (M + 1)) := (List.finRange (M + 1)).toArray
theorem idF_size (M : Nat) : (idF M).size = M + 1 := by simp [idF]
theorem idF_get (M k : Nat) (h : k < M + 1) : (idF M)[k]! = ⟨k, h⟩ := by
  rw [getElem!_pos (idF M) k (by rw [idF_size]; exact h)]
  simp [idF]
theorem ext_all {α : Type} (a : Array α) (n : Nat) (h : a.size = n) : a.extract 0 n = a := by subst h; exact Array.extract_size
theorem sorted_is (cols : List (List Val3)) (bys : List Int) (M : Nat) : IsS (cmpBy cols bys) (M + 1) ((insertionSort (ltOf fun x y : Fin (M + 1) => cmpBy cols bys x.val y.val) (idF M) 0 (M + 1)).toList.map Fin.val) := by
  have h := ins_stable (cmpBy_pre cols bys M) (fun x => x.val) (idF M) (fun k hk => by rw [idF_get M k (by rw [idF_size] at hk; exact hk)])
  rw [idF_size] at h
  obtain ⟨⟨hsz, _, hperm⟩, hsort⟩ := h
  have e : (insertionSort (ltOf fun x y : Fin (M + 1) => cmpBy cols bys x.val y.val) (idF M) 0 (M + 1)) = insertionSort (ltC fun x y : Fin (M + 1) => cmpBy cols bys x.val y.val) (idF M) 0 (M + 1) := rfl
  rw [e]
  obtain ⟨T, hT⟩ : ∃ T, insertionSort (ltC fun x y : Fin (M + 1) => cmpBy cols bys x.val y.val) (idF M) 0 (M + 1) = T := ⟨_, rfl⟩
  rw [hT] at hsz hperm hsort ⊢
  rw [idF_size] at hsz
  have hp : (T.toList.map Fin.val).Perm (List.range (M + 1)) := by
    have h1 := ext_all T _ hsz
    have h2 := ext_all (idF M) _ (idF_size M)
    rw [h1, h2] at hperm
    have h3 := hperm.map Fin.val
    have h4 : (idF M).toList.map Fin.val = List.range (M + 1) := by
      refine List.ext_getElem (by simp [idF]) fun i a b => ?_
      simp [idF]
    rwa [h4] at h3
  refine ⟨hp, ?_⟩
  have hnd : (T.toList.map Fin.val).Nodup := hp.nodup_iff.2 List.nodup_range
  rw [List.pairwise_iff_getElem]
  intro i j hi hj hij
  rw [List.length_map, Array.length_toList] at hi hj
  have hs := hsort i j (Nat.zero_le _) hij (by omega)
  rw [getElem!_pos T i hi, getElem!_pos T j hj] at hs
  rw [List.getElem_map, List.getElem_map, Array.getElem_toList, Array.getElem_toList]
  have hne : (T[i].val) ≠ (T[j].val) := by
    have := (List.pairwise_iff_getElem.1 hnd) i j (by rw [List.length_map, Array.length_toList]; exact hi) (by rw [List.length_map, Array.length_toList]; exact hj) hij
    rw [List.getElem_map, List.getElem_map, Array.getElem_toList, Array.getElem_toList] at this
    exact this
  unfold ltS at hs
  rw [decide_eq_false_iff_not] at hs
  have ht := cmpBy_turn cols bys T[i].val T[j].val
  dsimp only at hs
  omega
/-- There is but one such list. -/
theorem IsS.one {cf : Nat → Nat → Int} {N : Nat} {S T : List Nat} (hc : ∀ x y, cf y x = - cf x y) (h : IsS cf N S) (k : IsS cf N T) : S = T := by
  refine (h.1.trans k.1.symm).eq_of_pairwise (fun a b _ _ h1 h2 => ?_) h.2 k.2
  have := hc a b
  omega

def encF (M : Nat) (x : Fin (M + 1)) : Value := .int .i64 ((x.val : Nat) : Int)
theorem below_sw {α : Type} [Inhabited α] (enc : α → Value) (w : World) (B g m : Nat) (d : Array α) (os : Array Obj) (h : B ≤ g) (hg : g < w.heap.size) : Below B w (sortWorld enc w g 0 m d os) := by
  refine ⟨rfl, rfl, rfl, ?_, ?_⟩
  · show w.heap.size ≤ ((w.heap.modify g _) ++ os).size
    rw [Array.size_append, Array.size_modify]; omega
  · intro k hk
    show ((w.heap.modify g _) ++ os)[k]? = w.heap[k]?
    rw [Array.getElem?_append_left (by rw [Array.size_modify]; omega), Array.getElem?_modify, if_neg (by omega)]

set_option maxRecDepth 100000 in
set_option maxHeartbeats 2000000 in
theorem stable_few (N g cap gb gc : Nat) (w : World) (Q : World → Prop) (hN : N < 20)
    (h : Calls Tryd.prog 40 #[.slice (some ⟨g, 0, none⟩) N cap, .int .i64 0, .int .i64 N, (.func (.func 23) #[] #[.pointer (some ⟨gb, 0, none⟩), .pointer (some ⟨gc, 0, none⟩)])] w fun e w' => e = .returned (.tuple #[]) ∧ Q w') :
    Calls Tryd.prog 35 #[.slice (some ⟨g, 0, none⟩) N cap, .int .i64 N, (.func (.func 23) #[] #[.pointer (some ⟨gb, 0, none⟩), .pointer (some ⟨gc, 0, none⟩)])] w fun e w' => e = .returned (.tuple #[]) ∧ Q w' := by
  have hd1 : decide ((20 : Int) ≤ (N : Int)) = false := by simp; omega
  have hd2 : decide ((20 : Int) < (N : Int)) = false := by simp; omega
  have HI := Lib.hid h
  clear h hN
  go_enter Tryd.func35, Tryd.ntmps35
  go_wp2_with fail
  refine wp_loop_rounds 1 ?_
  rw [rounds_succ]
  go_wp2_with fail
  refine HI.out.mono ?_
  rintro e w' ⟨rfl, hS⟩
  have HS := Lib.hid hS
  clear hS HI
  go_wp2_with fail
  refine wp_loop_rounds 1 ?_
  rw [rounds_succ]
  go_wp2_with fail
  (try simp only [Exit.inBlock, Exit.then])
  go_end0
  exact ⟨rfl, HS.out⟩
set_option maxRecDepth 100000 in
set_option maxHeartbeats 2000000 in
theorem stable_20 (g cap gb gc : Nat) (w : World) (Q1 Q : World → Prop)
    (h : Calls Tryd.prog 40 #[.slice (some ⟨g, 0, none⟩) 20 cap, .int .i64 0, .int .i64 20, (.func (.func 23) #[] #[.pointer (some ⟨gb, 0, none⟩), .pointer (some ⟨gc, 0, none⟩)])] w fun e w' => e = .returned (.tuple #[]) ∧ Q1 w')
    (h2 : ∀ W, Q1 W → Calls Tryd.prog 40 #[.slice (some ⟨g, 0, none⟩) 20 cap, .int .i64 20, .int .i64 20, (.func (.func 23) #[] #[.pointer (some ⟨gb, 0, none⟩), .pointer (some ⟨gc, 0, none⟩)])] W fun e w' => e = .returned (.tuple #[]) ∧ Q w') :
    Calls Tryd.prog 35 #[.slice (some ⟨g, 0, none⟩) 20 cap, .int .i64 20, (.func (.func 23) #[] #[.pointer (some ⟨gb, 0, none⟩), .pointer (some ⟨gc, 0, none⟩)])] w fun e w' => e = .returned (.tuple #[]) ∧ Q w' := by
  have HI := Lib.hid h
  have HI2 := Lib.hid h2
  clear h h2
  go_enter Tryd.func35, Tryd.ntmps35
  go_wp2_with fail
  refine wp_loop_rounds 2 ?_
  rw [rounds_succ]
  go_wp2_with fail
  refine HI.out.mono ?_
  rintro e w' ⟨rfl, hS⟩
  have HS := Lib.hid (HI2.out _ hS)
  clear hS HI HI2
  go_wp2_with fail
  rw [rounds_succ]
  go_wp2_with fail
  refine HS.out.mono ?_
  rintro e w2 ⟨rfl, hS⟩
  have HS2 := Lib.hid hS
  clear hS HS
  go_wp2_with fail
  refine wp_loop_rounds 1 ?_
  rw [rounds_succ]
  go_wp2_with fail
  (try simp only [Exit.inBlock, Exit.then])
  go_end0
  exact ⟨rfl, HS2.out⟩
theorem sort_any (N g cap gb gc : Nat) (w : World) (Q : World → Prop)
    (h : Calls Tryd.prog 35 #[.slice (some ⟨g, 0, none⟩) N cap, .int .i64 N, (.func (.func 23) #[] #[.pointer (some ⟨gb, 0, none⟩), .pointer (some ⟨gc, 0, none⟩)])] w fun e w' => e = .returned (.tuple #[]) ∧ Q w') :
    Calls Tryd.prog 25 #[.slice (some ⟨g, 0, none⟩) N cap, (.func (.func 23) #[] #[.pointer (some ⟨gb, 0, none⟩), .pointer (some ⟨gc, 0, none⟩)])] w fun e w' => e = .returned (.tuple #[]) ∧ Q w' := by
  have HI := Lib.hid h
  clear h
  go_enter Tryd.func25, Tryd.ntmps25
  go_wp2_with fail
  refine HI.out.mono ?_
  rintro e w' ⟨rfl, hS⟩
  have HS := Lib.hid hS
  clear hS HI
  go_wp2_with fail
  (try simp only [Exit.inBlock, Exit.then])
  go_end0
  exact ⟨rfl, HS.out⟩

/-- SortStableFunc of the places 0, 1, .. by the closure. -/
theorem sortF_any (M g cap gb gc B : Nat) (cf : Fin (M + 1) → Fin (M + 1) → Int) (w : World) (hM : M + 1 ≤ 20) (hB : B ≤ g) (hg : g < w.heap.size) (hh : Holds (encF M) w g 0 (idF M)) (hsz : (insertionSort (ltOf cf) (idF M) 0 (M + 1)).size = M + 1)
    (hc : ∀ W, Below B w W → ∀ x y, Calls Tryd.prog 23 #[encF M x, encF M y, .pointer (some ⟨gb, 0, none⟩), .pointer (some ⟨gc, 0, none⟩)] W (GrowsInt (cf x y) W)) :
    Calls Tryd.prog 25 #[.slice (some ⟨g, 0, none⟩) (M + 1) cap, (.func (.func 23) #[] #[.pointer (some ⟨gb, 0, none⟩), .pointer (some ⟨gc, 0, none⟩)])] w
      fun e w' => e = .returned (.tuple #[]) ∧ SW (encF M) w g 0 (insertionSort (ltOf cf) (idF M) 0 (M + 1)) w' := by
  have eg : ∀ args w, (callFunc 23 args).run Tryd.prog w = .ok (.enter 23 args) w := enters_of Tryd.func23 (by kernel_rfl) rfl
  have R : Row1 (encF M) w g 0 (idF M) := ⟨fun x => rfl, hh, hg⟩
  have hcmp : CmpLays1 Tryd.prog 23 #[.pointer (some ⟨gb, 0, none⟩), .pointer (some ⟨gc, 0, none⟩)] (encF M) cf g 0 (idF M).size w := fun m os dk hs x y =>
    (hc _ (below_sw (encF M) w B g m dk os hB hg) x y).mono fun e w' h => h
  have HINS := fun (a b : Nat) (d : Array (Fin (M + 1))) (W : World) (hs : d.size = M + 1) (hab : a ≤ b) (hb : b ≤ M + 1) (S : SW (encF M) w g 0 d W) =>
    (show Calls Tryd.prog 40 #[.slice (some ⟨g, 0, none⟩) (M + 1) cap, .int .i64 a, .int .i64 b, (.func (.func 23) #[] #[.pointer (some ⟨gb, 0, none⟩), .pointer (some ⟨gc, 0, none⟩)])] W (fun e w' => e = .returned (.tuple #[]) ∧ SW (encF M) w g 0 (insertionSort (ltOf cf) d a b) w') from by
      have := Any.insertionSortCmpFunc_s Tryd.insI (encF M) cf 23 _ g 0 cap a b (idF M) d w W eg hcmp R (by rw [hs, idF_size]) S hab (by omega) (by omega)
      rw [hs] at this
      exact this)
  refine sort_any (M + 1) g cap gb gc w _ ?_
  by_cases h20 : M + 1 = 20
  · obtain rfl : M = 19 := by omega
    refine stable_20 g cap gb gc w (fun W => SW (encF 19) w g 0 (insertionSort (ltOf cf) (idF 19) 0 20) W) _ (HINS 0 20 (idF 19) w (idF_size 19) (Nat.zero_le _) (Nat.le_refl _) (SW.start hh)) fun W hW => ?_
    have h2 := HINS 20 20 _ W hsz (Nat.le_refl _) (Nat.le_refl _) hW
    have e : insertionSort (ltOf cf) (insertionSort (ltOf cf) (idF 19) 0 20) 20 20 = insertionSort (ltOf cf) (idF 19) 0 20 := by
      unfold insertionSort
      rw [insOuter_stop _ _ _ _ _ (by omega)]
    rw [e] at h2
    exact h2
  · exact stable_few (M + 1) g cap gb gc w _ (by omega) (HINS 0 (M + 1) (idF M) w (idF_size M) (Nat.zero_le _) (Nat.le_refl _) (SW.start hh))
end Go.Proofs.YtiacemlloaenoaaDoor
