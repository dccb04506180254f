
import Derived.Test.YtkdpjocglfephaaDoorTab
import Derived.Test.YtkdpjocglfephaaDoorBase
import Derived.Test.YtkdpjocglfephaaDoorCell
import Derived.Test.YtkdpjocglfephaaDoorAggB
import Derived.Test.YtkdpjocglfephaaDoorInsl
import Derived.Laws.Externs
import Derived.Shelf.SlSortCmp.QuietGrown
import Derived.BigQuiet
import Derived.WalkKit
import Derived.Laws.OwnMore
import Derived.Laws.BytesArg
import Derived.Laws.Rows
import Derived.Deep.AppendLies
import Derived.Deep.Draws
import Derived.Test.YtkdpjocglfephaaDoorChecked
import Derived.Deep.OwnRows
import Derived.Lib.Hide
import Derived.Deep.Quiet
import Derived.Laws.AppendOwnNone
import Derived.Lib.Strings
import Derived.Outline
import Derived.WalkLawsBesides
import Derived.WalkSpells
import Derived.PlainAid
import Derived.Deep.QuietTactic
import Derived.RegionTactic
import Derived.BigRegion
import Derived.Handy
import Derived.Laws.BitsAllLaws
import Derived.Deep.RegionWith
import Derived.Lib.AppendStr
import Derived.Deep.RegionLaw
import Derived.Maps.AppendAt
import Derived.OpenShut
import Derived.WideShapes
import Derived.ChangeArms
import Derived.Deep.Slices
import Derived.Sort.Grow
import Derived.LaidEql
import Derived.Stop.Asserts
import Derived.RowKitTokens
import Derived.Laws.BitsLemmas
import Derived.Laws.Bits64
import Derived.WalkSmall
import Derived.Stop.IfaceNil
import Derived.Lib.Bytealg
import Derived.Deep.SlicePairs
import Derived.Test.YtkdpjocglfephaaDoorShelf
import Derived.Sort.LotA
/- The sort of agg.groups: mathematics, and the walks of slices.SortStableFunc at ints, up to 20 of them. -/



namespace Go.Proofs.YtkdpjocglfephaaDoor
open Go.RowKit Go.Shelf
open Go.Sort hiding Below
set_option linter.unusedVariables false

/-- These places, sorted, those alike as they stand. -/
def IsS (cf : Nat → Nat → Int) (N : Nat) (S : List Nat) : Prop := S.Perm (List.range N) ∧ S.Pairwise fun x y => cf x y < 0 ∨ cf x y = 0 ∧ x < y
theorem cmpBy_turn (cols : List (List Val3)) : ∀ (bys : List Int) (x y : Nat), cmpBy cols bys y x = - cmpBy cols bys x y
  | [], _, _ => rfl
  | c :: r, x, y => by
    have h := cmp3_turn (cellAt cols c x) (cellAt cols c y)
    show (if cmp3 (cellAt cols c y) (cellAt cols c x) = 0 then _ else _) = - (if cmp3 (cellAt cols c x) (cellAt cols c y) = 0 then _ else _)
    rw [h]
    by_cases e : cmp3 (cellAt cols c x) (cellAt cols c y) = 0
    · rw [if_pos e, if_pos (by omega)]; exact cmpBy_turn cols r x y
    · rw [if_neg e, if_neg (by omega)]
theorem cmp3_trans (x y z : Val3) (h1 : cmp3 x y ≤ 0) (h2 : cmp3 y z ≤ 0) : cmp3 x z ≤ 0 ∧ (cmp3 x y < 0 ∨ cmp3 y z < 0 → cmp3 x z < 0) := cmpV_trans _ _ _ _ _ _ _ _ _ h1 h2
theorem cmpBy_trans (cols : List (List Val3)) : ∀ (bys : List Int) (x y z : Nat), cmpBy cols bys x y ≤ 0 → cmpBy cols bys y z ≤ 0 → cmpBy cols bys x z ≤ 0 ∧ (cmpBy cols bys x y < 0 ∨ cmpBy cols bys y z < 0 → cmpBy cols bys x z < 0)
  | [], _, _, _, _, _ => ⟨Int.le_refl _, fun h => by rcases h with h | h <;> exact absurd h (Int.lt_irrefl 0)⟩
  | c :: r, x, y, z, h1, h2 => by
    have ih := cmpBy_trans cols r x y z
    obtain ⟨a, ha⟩ : ∃ a, cellAt cols c x = a := ⟨_, rfl⟩
    obtain ⟨b, hb⟩ : ∃ a, cellAt cols c y = a := ⟨_, rfl⟩
    obtain ⟨d, hd⟩ : ∃ a, cellAt cols c z = a := ⟨_, rfl⟩
    have e1 : cmpBy cols (c :: r) x y = if cmp3 a b = 0 then cmpBy cols r x y else cmp3 a b := by rw [← ha, ← hb]; rfl
    have e2 : cmpBy cols (c :: r) y z = if cmp3 b d = 0 then cmpBy cols r y z else cmp3 b d := by rw [← hb, ← hd]; rfl
    have e3 : cmpBy cols (c :: r) x z = if cmp3 a d = 0 then cmpBy cols r x z else cmp3 a d := by rw [← ha, ← hd]; rfl
    rw [e1] at h1 ⊢
    rw [e2] at h2 ⊢
    rw [e3]
    have t1 := cmp3_trans a b d
    have t2 := cmp3_trans d b a
    have u1 := cmp3_turn a b
    have u2 := cmp3_turn b d
    have u3 := cmp3_turn a d
    by_cases c1 : cmp3 a b = 0
    · rw [if_pos c1] at h1 ⊢
      by_cases c2 : cmp3 b d = 0
      · rw [if_pos c2] at h2 ⊢
        have c3 : cmp3 a d = 0 := by
          have := (t1 (by omega) (by omega)).1
          have := (t2 (by omega) (by omega)).1
          omega
        rw [if_pos c3]
        exact ih h1 h2
      · rw [if_neg c2] at h2 ⊢
        have := (t1 (by omega) (by omega)).2 (.inr (by omega))
        rw [if_neg (by omega)]
        exact ⟨by omega, fun _ => this⟩
    · rw [if_neg c1] at h1 ⊢
      have h2' : cmp3 b d ≤ 0 := by
        by_cases c2 : cmp3 b d = 0
        · omega
        · rw [if_neg c2] at h2; omega
      have := (t1 (by omega) h2').2 (.inl (by omega))
      rw [if_neg (by omega)]
      exact ⟨by omega, fun _ => this⟩
theorem cmpBy_pre (cols : List (List Val3)) (bys : List Int) (M : Nat) : PreO fun x y : Fin (M + 1) => cmpBy cols bys x.val y.val :=
  ⟨fun x y => cmpBy_turn cols bys x.val y.val, fun x y z => cmpBy_trans cols bys x.val y.val z.val⟩
/-- The places in their order. -/
def idF (M : Nat) : Array (Fin (M + 1)) := (List.finRange (M + 1)).toArray
theorem idF_size (M : Nat) : (idF M).size = M + 1 := by simp [idF]
theorem idF_get (M k : Nat) (h : k < M + 1) : (idF M)[k]! = ⟨k, h⟩ := by
  rw [getElem!_pos (idF M) k (by rw [idF_size]; exact h)]
  simp [idF]
theorem ext_all {α : Type} (a : Array α) (n : Nat) (h : a.size = n) : a.extract 0 n = a := by subst h; exact Array.extract_size
theorem sorted_is (cols : List (List Val3)) (bys : List Int) (M : Nat) : IsS (cmpBy cols bys) (M + 1) ((insertionSort (ltOf fun x y : Fin (M + 1) => cmpBy cols bys x.val y.val) (idF M) 0 (M + 1)).toList.map Fin.val) := by
  have h := ins_stable (cmpBy_pre cols bys M) (fun x => x.val) (idF M) (fun k hk => by rw [idF_get M k (by rw [idF_size] at hk; exact hk)])
  rw [idF_size] at h
  obtain ⟨⟨hsz, _, hperm⟩, hsort⟩ := h
  have e : (insertionSort (ltOf fun x y : Fin (M + 1) => cmpBy cols bys x.val y.val) (idF M) 0 (M + 1)) = insertionSort (ltC fun x y : Fin (M + 1) => cmpBy cols bys x.val y.val) (idF M) 0 (M + 1) := rfl
  rw [e]
  obtain ⟨T, hT⟩ : ∃ T, insertionSort (ltC fun x y : Fin (M + 1) => cmpBy cols bys x.val y.val) (idF M) 0 (M + 1) = T := ⟨_, rfl⟩
  rw [hT] at hsz hperm hsort ⊢
  rw [idF_size] at hsz
  have hp : (T.toList.map Fin.val).Perm (List.range (M + 1)) := by
    have h1 := ext_all T _ hsz
    have h2 := ext_all (idF M) _ (idF_size M)
    rw [h1, h2] at hperm
    have h3 := hperm.map Fin.val
    have h4 : (idF M).toList.map Fin.val = List.range (M + 1) := by
      refine List.ext_getElem (by simp [idF]) fun i a b => ?_
      simp [idF]
    rwa [h4] at h3
  refine ⟨hp, ?_⟩
  have hnd : (T.toList.map Fin.val).Nodup := hp.nodup_iff.2 List.nodup_range
  rw [List.pairwise_iff_getElem]
  intro i j hi hj hij
  rw [List.length_map, Array.length_toList] at hi hj
  have hs := hsort i j (Nat.zero_le _) hij (by omega)
  rw [getElem!_pos T i hi, getElem!_pos T j hj] at hs
  rw [List.getElem_map, List.getElem_map, Array.getElem_toList, Array.getElem_toList]
  have hne : (T[i].val) ≠ (T[j].val) := by
    have := (List.pairwise_iff_getElem.1 hnd) i j (by rw [List.length_map, Array.length_toList]; exact hi) (by rw [List.length_map, Array.length_toList]; exact hj) hij
    rw [List.getElem_map, List.getElem_map, Array.getElem_toList, Array.getElem_toList] at this
    exact this
  unfold ltS at hs
  rw [decide_eq_false_iff_not] at hs
  have ht := cmpBy_turn cols bys T[i].val T[j].val
  dsimp only at hs
  omega
/-- There is but one such list. -/
theorem IsS.one {cf : Nat → Nat → Int} {N : Nat} {S T : List Nat} (hc : ∀ x y, cf y x = - cf x y) (h : IsS cf N S) (k : IsS cf N T) : S = T := by
  refine (h.1.trans k.1.symm).eq_of_pairwise (fun a b _ _ h1 h2 => ?_) h.2 k.2
  have := hc a b
  omega

def encF (M : Nat) (x : Fin (M + 1)) : Value := .int .i64 ((x.val : Nat) : Int)
theorem below_sw {α : Type} [Inhabited α] (enc : α → Value) (w : World) (B g m : Nat) (d : Array α) (os : Array Obj) (h : B ≤ g) (hg : g < w.heap.size) : Below B w (sortWorld enc w g 0 m d os) := by
  refine ⟨rfl, rfl, rfl, ?_, ?_⟩
  · show w.heap.size ≤ ((w.heap.modify g _) ++ os).size
    rw [Array.size_append, Array.size_modify]; omega
  · intro k hk
    show ((w.heap.modify g _) ++ os)[k]? = w.heap[k]?
    rw [Array.getElem?_append_left (by rw [Array.size_modify]; omega), Array.getElem?_modify, if_neg (by omega)]

set_option maxRecDepth 100000 in
set_option maxHeartbeats 2000000 in
theorem stable_few (N g cap gb gc : Nat) (w : World) (Q : World → Prop) (hN : N < 20)
    (h : Calls Tryd.prog 92 #[.slice (some ⟨g, 0, none⟩) N cap, .int .i64 0, .int .i64 N, (.func (.func 76) #[] #[.pointer (some ⟨gb, 0, none⟩), .pointer (some ⟨gc, 0, none⟩)])] w fun e w' => e = .returned (.tuple #[]) ∧ Q w') :
    Calls Tryd.prog 87 #[.slice (some ⟨g, 0, none⟩) N cap, .int .i64 N, (.func (.func 76) #[] #[.pointer (some ⟨gb, 0, none⟩), .pointer (some ⟨gc, 0, none⟩)])] w fun e w' => e = .returned (.tuple #[]) ∧ Q w' := by
  have hd1 : decide ((20 : Int) ≤ (N : Int)) = false := by simp; omega
  have hd2 : decide ((20 : Int) < (N : Int)) = false := by simp; omega
  have HI := Lib.hid h
  clear h hN
  go_enter Tryd.func87, Tryd.ntmps87
  go_wp2_with fail
  refine wp_loop_rounds 1 ?_
  rw [rounds_succ]
  go_wp2_with fail
  refine HI.out.mono ?_
  rintro e w' ⟨rfl, hS⟩
  have HS := Lib.hid hS
  clear hS HI
  go_wp2_with fail
  refine wp_loop_rounds 1 ?_
  rw [rounds_succ]
  go_wp2_with fail
  (try simp only [Exit.inBlock, Exit.then])
  go_end0
  exact ⟨rfl, HS.out⟩
set_option maxRecDepth 100000 in
set_option maxHeartbeats 2000000 in
theorem stable_20 (g cap gb gc : Nat) (w : World) (Q1 Q : World → Prop)
    (h : Calls Tryd.prog 92 #[.slice (some ⟨g, 0, none⟩) 20 cap, .int .i64 0, .int .i64 20, (.func (.func 76) #[] #[.pointer (some ⟨gb, 0, none⟩), .pointer (some ⟨gc, 0, none⟩)])] w fun e w' => e = .returned (.tuple #[]) ∧ Q1 w')
    (h2 : ∀ W, Q1 W → Calls Tryd.prog 92 #[.slice (some ⟨g, 0, none⟩) 20 cap, .int .i64 20, .int .i64 20, (.func (.func 76) #[] #[.pointer (some ⟨gb, 0, none⟩), .pointer (some ⟨gc, 0, none⟩)])] W fun e w' => e = .returned (.tuple #[]) ∧ Q w') :
    Calls Tryd.prog 87 #[.slice (some ⟨g, 0, none⟩) 20 cap, .int .i64 20, (.func (.func 76) #[] #[.pointer (some ⟨gb, 0, none⟩), .pointer (some ⟨gc, 0, none⟩)])] w fun e w' => e = .returned (.tuple #[]) ∧ Q w' := by
  have HI := Lib.hid h
  have HI2 := Lib.hid h2
  clear h h2
  go_enter Tryd.func87, Tryd.ntmps87
  go_wp2_with fail
  refine wp_loop_rounds 2 ?_
  rw [rounds_succ]
  go_wp2_with fail
  refine HI.out.mono ?_
  rintro e w' ⟨rfl, hS⟩
  have HS := Lib.hid (HI2.out _ hS)
  clear hS HI HI2
  go_wp2_with fail
  rw [rounds_succ]
  go_wp2_with fail
  refine HS.out.mono ?_
  rintro e w2 ⟨rfl, hS⟩
  have HS2 := Lib.hid hS
  clear hS HS
  go_wp2_with fail
  refine wp_loop_rounds 1 ?_
  rw [rounds_succ]
  go_wp2_with fail
  (try simp only [Exit.inBlock, Exit.then])
  go_end0
  exact ⟨rfl, HS2.out⟩
theorem sort_any (N g cap gb gc : Nat) (w : World) (Q : World → Prop)
    (h : Calls Tryd.prog 87 #[.slice (some ⟨g, 0, none⟩) N cap, .int .i64 N, (.func (.func 76) #[] #[.pointer (some ⟨gb, 0, none⟩), .pointer (some ⟨gc, 0, none⟩)])] w fun e w' => e = .returned (.tuple #[]) ∧ Q w') :
    Calls Tryd.prog 77 #[.slice (some ⟨g, 0, none⟩) N cap, (.func (.func 76) #[] #[.pointer (some ⟨gb, 0, none⟩), .pointer (some ⟨gc, 0, none⟩)])] w fun e w' => e = .returned (.tuple #[]) ∧ Q w' := by
  have HI := Lib.hid h
  clear h
  go_enter Tryd.func77, Tryd.ntmps77
  go_wp2_with fail
  refine HI.out.mono ?_
  rintro e w' ⟨rfl, hS⟩
  have HS := Lib.hid hS
  clear hS HI
  go_wp2_with fail
  (try simp only [Exit.inBlock, Exit.then])
  go_end0
  exact ⟨rfl, HS.out⟩

/-- SortStableFunc of the places 0, 1, .. by the closure. -/
theorem sortF_any (M g cap gb gc B : Nat) (cf : Fin (M + 1) → Fin (M + 1) → Int) (w : World) (hM : M + 1 ≤ 20) (hB : B ≤ g) (hg : g < w.heap.size) (hh : Holds (encF M) w g 0 (idF M)) (hsz : (insertionSort (ltOf cf) (idF M) 0 (M + 1)).size = M + 1)
    (hc : ∀ W, Below B w W → ∀ x y, Calls Tryd.prog 76 #[encF M x, encF M y, .pointer (some ⟨gb, 0, none⟩), .pointer (some ⟨gc, 0, none⟩)] W (GrowsInt (cf x y) W)) :
    Calls Tryd.prog 77 #[.slice (some ⟨g, 0, none⟩) (M + 1) cap, (.func (.func 76) #[] #[.pointer (some ⟨gb, 0, none⟩), .pointer (some ⟨gc, 0, none⟩)])] w
      fun e w' => e = .returned (.tuple #[]) ∧ SW (encF M) w g 0 (insertionSort (ltOf cf) (idF M) 0 (M + 1)) w' := by
  have eg : ∀ args w, (callFunc 76 args).run Tryd.prog w = .ok (.enter 76 args) w := enters_of Tryd.func76 (by kernel_rfl) rfl
  have R : Row1 (encF M) w g 0 (idF M) := ⟨fun x => rfl, hh, hg⟩
  have hcmp : CmpLays1 Tryd.prog 76 #[.pointer (some ⟨gb, 0, none⟩), .pointer (some ⟨gc, 0, none⟩)] (encF M) cf g 0 (idF M).size w := fun m os dk hs x y =>
    (hc _ (below_sw (encF M) w B g m dk os hB hg) x y).mono fun e w' h => h
  have HINS := fun (a b : Nat) (d : Array (Fin (M + 1))) (W : World) (hs : d.size = M + 1) (hab : a ≤ b) (hb : b ≤ M + 1) (S : SW (encF M) w g 0 d W) =>
    (show Calls Tryd.prog 92 #[.slice (some ⟨g, 0, none⟩) (M + 1) cap, .int .i64 a, .int .i64 b, (.func (.func 76) #[] #[.pointer (some ⟨gb, 0, none⟩), .pointer (some ⟨gc, 0, none⟩)])] W (fun e w' => e = .returned (.tuple #[]) ∧ SW (encF M) w g 0 (insertionSort (ltOf cf) d a b) w') from by
      have := Any.insertionSortCmpFunc_s Tryd.insI (encF M) cf 76 _ g 0 cap a b (idF M) d w W eg hcmp R (by rw [hs, idF_size]) S hab (by omega) (by omega)
      rw [hs] at this
      exact this)
  refine sort_any (M + 1) g cap gb gc w _ ?_
  by_cases h20 : M + 1 = 20
  · obtain rfl : M = 19 := by omega
    refine stable_20 g cap gb gc w (fun W => SW (encF 19) w g 0 (insertionSort (ltOf cf) (idF 19) 0 20) W) _ (HINS 0 20 (idF 19) w (idF_size 19) (Nat.zero_le _) (Nat.le_refl _) (SW.start hh)) fun W hW => ?_
    have h2 := HINS 20 20 _ W hsz (Nat.le_refl _) (Nat.le_refl _) hW
    have e : insertionSort (ltOf cf) (insertionSort (ltOf cf) (idF 19) 0 20) 20 20 = insertionSort (ltOf cf) (idF 19) 0 20 := by
      unfold insertionSort
      rw [insOuter_stop _ _ _ _ _ (by omega)]
    rw [e] at h2
    exact h2
  · exact stable_few (M + 1) g cap gb gc w _ (by omega) (HINS 0 (M + 1) (idF M) w (idF_size M) (Nat.zero_le _) (Nat.le_refl _) (SW.start hh))
end Go.Proofs.YtkdpjocglfephaaDoor

/- The walk of agg.groups. -/



namespace Go.Proofs.YtkdpjocglfephaaDoor
open Go.RowKit
set_option linter.unusedVariables false

/-- Those alike together, as they stand. -/
def runsK (cf : Nat → Nat → Int) (S : List Nat) : Nat → List (List Nat)
  | 0 => []
  | k + 1 => addLast (if k = 0 ∨ cf (S.getD (k - 1) 0) (S.getD k 0) ≠ 0 then runsK cf S k ++ [[]] else runsK cf S k) (S.getD k 0)
theorem addLast_app (R : List (List Nat)) (l : List Nat) (p : Nat) : addLast (R ++ [l]) p = R ++ [l ++ [p]] := by
  unfold addLast
  rw [List.length_append, List.length_singleton, Nat.add_sub_cancel, List.getD_eq_getElem?_getD, List.getElem?_append_right (Nat.le_refl _), Nat.sub_self]
  rw [List.set_append_right _ _ (Nat.le_refl _), Nat.sub_self]; rfl
theorem runsK_new {cf : Nat → Nat → Int} {S : List Nat} {k : Nat} (h : k = 0 ∨ cf (S.getD (k - 1) 0) (S.getD k 0) ≠ 0) : runsK cf S (k + 1) = runsK cf S k ++ [[S.getD k 0]] := by
  show addLast (if _ then _ else _) _ = _
  rw [if_pos h, addLast_app]; rfl
theorem runsK_old {cf : Nat → Nat → Int} {S : List Nat} {k : Nat} (h : ¬ (k = 0 ∨ cf (S.getD (k - 1) 0) (S.getD k 0) ≠ 0)) : runsK cf S (k + 1) = addLast (runsK cf S k) (S.getD k 0) := by
  show addLast (if _ then _ else _) _ = _
  rw [if_neg h]
theorem runsK_len (cf : Nat → Nat → Int) (S : List Nat) : ∀ k, (runsK cf S k).length ≤ k ∧ (1 ≤ k → 1 ≤ (runsK cf S k).length)
  | 0 => ⟨Nat.le_refl _, fun h => by omega⟩
  | k + 1 => by
    have ih := runsK_len cf S k
    by_cases h : k = 0 ∨ cf (S.getD (k - 1) 0) (S.getD k 0) ≠ 0
    · rw [runsK_new h, List.length_append, List.length_singleton]; omega
    · rw [runsK_old h, addLast_len]
      have : 1 ≤ k := by
        rcases Nat.eq_zero_or_pos k with h0 | h0
        · exact absurd (.inl h0) h
        · exact h0
      have := ih.2 this
      omega
theorem runsK_mem (cf : Nat → Nat → Int) (S : List Nat) : ∀ k, k ≤ S.length → ∀ g ∈ runsK cf S k, g ≠ [] ∧ ∀ p ∈ g, p ∈ S
  | 0, _, g, hg => by simp [runsK] at hg
  | k + 1, hk, g, hg => by
    have ih := runsK_mem cf S k (by omega)
    have hS : S.getD k 0 ∈ S := by
      rw [List.getD_eq_getElem?_getD, List.getElem?_eq_getElem (show k < S.length by omega)]
      exact List.getElem_mem _
    by_cases h : k = 0 ∨ cf (S.getD (k - 1) 0) (S.getD k 0) ≠ 0
    · rw [runsK_new h] at hg
      rcases List.mem_append.1 hg with hg | hg
      · exact ih g hg
      · rw [List.mem_singleton] at hg
        subst hg
        exact ⟨by simp, fun p hp => by rw [List.mem_singleton] at hp; subst hp; exact hS⟩
    · rw [runsK_old h] at hg
      unfold addLast at hg
      rcases List.mem_or_eq_of_mem_set hg with hg | hg
      · exact ih g hg
      · subst hg
        refine ⟨by simp, fun p hp => ?_⟩
        rcases List.mem_append.1 hp with hp | hp
        · have hl : 1 ≤ (runsK cf S k).length := (runsK_len cf S k).2 (by
            rcases Nat.eq_zero_or_pos k with h0 | h0
            · exact absurd (.inl h0) h
            · exact h0)
          rw [List.getD_eq_getElem?_getD, List.getElem?_eq_getElem (show (runsK cf S k).length - 1 < (runsK cf S k).length by omega)] at hp
          exact (ih _ (List.getElem_mem _)).2 p hp
        · rw [List.mem_singleton] at hp; subst hp; exact hS
/-- The groups. -/
def GroupsOf (cols : List (List Val3)) (bys : List Int) (N : Nat) (R : List (List Nat)) : Prop :=
  (bys = [] ∧ R = [List.range N]) ∨ (bys ≠ [] ∧ ∃ S, IsS (cmpBy cols bys) N S ∧ R = runsK (cmpBy cols bys) S N)
def GroupsP (cols : List (List Val3)) (bys : List Int) (w : World) (e : Ending) (w' : World) : Prop :=
  ∃ A c R, e = .returned (.slice A R.length c) ∧ GroupsOf cols bys (heightC cols) R ∧ GrAt w' A R ∧ Later w w'
theorem GroupsOf.mem {cols : List (List Val3)} {bys : List Int} {N : Nat} {R : List (List Nat)} (h : GroupsOf cols bys N R) : (∀ g ∈ R, (bys ≠ [] → g ≠ []) ∧ ∀ p ∈ g, p < N) ∧ R.length ≤ max 1 N := by
  rcases h with ⟨h1, h2⟩ | ⟨h1, S, hS, h2⟩
  · subst h2
    refine ⟨fun g hg => ?_, by simp; omega⟩
    rw [List.mem_singleton] at hg
    subst hg
    exact ⟨fun h => absurd h1 h, fun p hp => List.mem_range.1 hp⟩
  · subst h2
    have hlen : S.length = N := by rw [hS.1.length_eq, List.length_range]
    refine ⟨fun g hg => ?_, by have := (runsK_len (cmpBy cols bys) S N).1; omega⟩
    obtain ⟨h3, h4⟩ := runsK_mem _ S N (by omega) g hg
    exact ⟨fun _ => h3, fun p hp => List.mem_range.1 (hS.1.mem_iff.1 (h4 p hp))⟩
theorem GS.last1 {base : Nat} {w : World} {A : Option Addr} {m c : Nat} {R : List (List Nat)} (h : GS base w A (m + 1) c R) :
    ∃ tb La Ln Lc, A = some ⟨tb, 0, none⟩ ∧ Ln = (R.getD (R.length - 1) []).length ∧ w.cell? ⟨tb, m, none⟩ = some (.slice La Ln Lc) ∧ w.frozen? ⟨tb, m, none⟩ = false ∧ base ≤ tb ∧ m + 1 ≤ c ∧ w.ownsRow base 3 1 (.slice La Ln Lc) Ln (pin (R.getD (R.length - 1) [])) ∧
      ∀ w1 w2 A' c' (p : Nat), Later w w1 → w2.ownsRow base 3 1 (.slice A' (Ln + 1) c') (Ln + 1) (pin (R.getD (R.length - 1) []) ++ [.int .i64 p]) → w1.grownBy w2 (Value.slice La Ln Lc).ownBlock →
        ((Value.slice A' (Ln + 1) c').ownBlock = (Value.slice La Ln Lc).ownBlock ∨ (Value.slice A' (Ln + 1) c').ownBlock = some w1.heap.size) → (A' = none → c' = 0) →
        w2.cell? ⟨tb, m, none⟩ = some (.slice La Ln Lc) ∧ w2.frozen? ⟨tb, m, none⟩ = false ∧ GS base (w2.setCell ⟨tb, m, none⟩ (.slice A' (Ln + 1) c')) A (m + 1) c (addLast R p) := by
  have := h.last (by omega)
  rwa [Nat.add_sub_cancel] at this
theorem getD_at {S : List Nat} {k : Nat} (h : k < S.length) : S.getD k 0 = S[k] := by
  rw [List.getD_eq_getElem?_getD, List.getElem?_eq_getElem h]; rfl
theorem runsK_row_le (cf : Nat → Nat → Int) (S : List Nat) : ∀ k, ∀ g ∈ runsK cf S k, g.length ≤ k
  | 0, g, hg => by simp [runsK] at hg
  | k + 1, g, hg => by
    have ih := runsK_row_le cf S k
    by_cases h : k = 0 ∨ cf (S.getD (k - 1) 0) (S.getD k 0) ≠ 0
    · rw [runsK_new h] at hg
      rcases List.mem_append.1 hg with hg | hg
      · have := ih g hg; omega
      · rw [List.mem_singleton] at hg; subst hg; simp
    · rw [runsK_old h] at hg
      unfold addLast at hg
      rcases List.mem_or_eq_of_mem_set hg with hg | hg
      · have := ih g hg; omega
      · subst hg
        rw [List.length_append, List.length_singleton]
        have : ((runsK cf S k).getD ((runsK cf S k).length - 1) []).length ≤ k := by
          rw [List.getD_eq_getElem?_getD]
          by_cases hl : (runsK cf S k).length - 1 < (runsK cf S k).length
          · rw [List.getElem?_eq_getElem hl]; exact ih _ (List.getElem_mem hl)
          · rw [List.getElem?_eq_none (by omega)]; simp
        omega
theorem last_le {R : List (List Nat)} {b : Nat} (h : ∀ g ∈ R, g.length ≤ b) : (R.getD (R.length - 1) []).length ≤ b := by
  rw [List.getD_eq_getElem?_getD]
  by_cases hl : R.length - 1 < R.length
  · rw [List.getElem?_eq_getElem hl]; exact h _ (List.getElem_mem hl)
  · rw [List.getElem?_eq_none (by omega)]; simp
/-- Where the places' loop stands. -/
def PlI (N B : Nat) (w : World) (pv iv : Value) (wr : World) : Prop :=
  ∃ (k : Nat) (P : Option Addr) (pc : Nat), pv = .slice P k pc ∧ iv = .int .i64 k ∧ k ≤ N ∧ wr.ownsRow B 3 1 (.slice P k pc) k (pin (List.range k)) ∧ (P = none → pc = 0) ∧ (k = 0 → P = none) ∧ Later w wr
theorem PlI.mk {N B : Nat} {w wr : World} (y : Int) (k : Nat) (P : Option Addr) (pc : Nat) (hy : y = (k : Int)) (hk : k ≤ N) (ho : wr.ownsRow B 3 1 (.slice P k pc) k (pin (List.range k))) (hn : P = none → pc = 0) (hz : k = 0 → P = none) (L : Later w wr) : PlI N B w (.slice P k pc) (.int .i64 y) wr := by
  subst hy; exact ⟨k, P, pc, rfl, rfl, hk, ho, hn, hz, L⟩
/-- Where the runs' loop stands. -/
def RuI (cf : Nat → Nat → Int) (S : List Nat) (N : Nat) (w : World) (lv iv : Value) (wr : World) : Prop :=
  ∃ (k : Nat) (A : Option Addr) (n c : Nat), lv = .slice A n c ∧ iv = .int .i64 k ∧ k ≤ N ∧ GS w.heap.size wr A n c (runsK cf S k) ∧ Later w wr
theorem RuI.mk {cf : Nat → Nat → Int} {S : List Nat} {N : Nat} {w wr : World} (y : Int) (k : Nat) (A : Option Addr) (n c : Nat) (hy : y = (k : Int)) (hk : k ≤ N) (hg : GS w.heap.size wr A n c (runsK cf S k)) (L : Later w wr) : RuI cf S N w (.slice A n c) (.int .i64 y) wr := by
  subst hy; exact ⟨k, A, n, c, rfl, rfl, hk, hg, L⟩
set_option maxRecDepth 100000 in
theorem ins0_any (fv : Value) (w : World) : Calls Tryd.prog 92 #[.slice none 0 0, .int .i64 0, .int .i64 0, fv] w fun e w' => e = .returned (.tuple #[]) ∧ w = w' := by
  go_enter Tryd.func92, Tryd.ntmps92
  go_wp2_with fail
  refine wp_loop_rounds 1 ?_
  rw [rounds_succ]
  go_wp2_with fail
  (try simp only [Exit.inBlock, Exit.then])
  go_end0
  exact ⟨rfl, rfl⟩
set_option maxRecDepth 100000 in
theorem stable0_any (fv : Value) (w : World) : Calls Tryd.prog 87 #[.slice none 0 0, .int .i64 0, fv] w fun e w' => e = .returned (.tuple #[]) ∧ w = w' := by
  have HI := Lib.hid (ins0_any fv w)
  go_enter Tryd.func87, Tryd.ntmps87
  go_wp2_with fail
  refine wp_loop_rounds 1 ?_
  rw [rounds_succ]
  go_wp2_with fail
  refine HI.out.mono ?_
  rintro e w' ⟨rfl, rfl⟩
  clear HI
  go_wp2_with fail
  refine wp_loop_rounds 1 ?_
  rw [rounds_succ]
  go_wp2_with fail
  (try simp only [Exit.inBlock, Exit.then])
  go_end0
  exact ⟨rfl, rfl⟩
set_option maxRecDepth 100000 in
theorem sort0_any (fv : Value) (w : World) : Calls Tryd.prog 77 #[.slice none 0 0, fv] w fun e w' => e = .returned (.tuple #[]) ∧ w = w' := by
  have HI := Lib.hid (stable0_any fv w)
  go_enter Tryd.func77, Tryd.ntmps77
  go_wp2_with fail
  refine HI.out.mono ?_
  rintro e w' ⟨rfl, rfl⟩
  clear HI
  go_wp2_with fail
  (try simp only [Exit.inBlock, Exit.then])
  go_end0
  exact ⟨rfl, rfl⟩
/-- What the sort leaves. -/
def SortedP (cf : Nat → Nat → Int) (N B : Nat) (A : Option Addr) (w w' : World) : Prop := ∃ S, IsS cf N S ∧ Has w' A (pin S) ∧ Below B w w'
theorem sortG_any (cols : List (List Val3)) (bys : List Int) (N B gb gc : Nat) (P : Option Addr) (pc : Nat) (w : World) (hN : N ≤ 20) (hBw : B ≤ w.heap.size) (ho : w.ownsRow B 3 1 (.slice P N pc) N (pin (List.range N))) (hnil : P = none → pc = 0) (hz : N = 0 → P = none)
    (hc : ∀ W, Below B w W → ∀ x y : Nat, x < N → y < N → Calls Tryd.prog 76 #[.int .i64 x, .int .i64 y, .pointer (some ⟨gb, 0, none⟩), .pointer (some ⟨gc, 0, none⟩)] W (GrowsInt (cmpBy cols bys x y) W)) :
    Calls Tryd.prog 77 #[.slice P N pc, .func (.func 76) #[] #[.pointer (some ⟨gb, 0, none⟩), .pointer (some ⟨gc, 0, none⟩)]] w
      fun e w' => e = .returned (.tuple #[]) ∧ SortedP (cmpBy cols bys) N B P w w' := by
  rcases N with _ | M
  · obtain rfl := hz rfl
    obtain rfl := hnil rfl
    refine (sort0_any _ w).mono ?_
    rintro e w' ⟨rfl, rfl⟩
    exact ⟨rfl, [], ⟨by simp, List.Pairwise.nil⟩, .inl rfl, Below.refl _ _⟩
  · have hg : ∃ g, P = some ⟨g, 0, none⟩ := by
      rcases ho.2 with ⟨hv, h0⟩ | ⟨g, cap, cur, hv, _⟩
      · omega
      · injection hv with e; exact ⟨g, e⟩
    obtain ⟨g, rfl⟩ := hg
    have hgl := ho.lt g rfl
    have hs := sorted_is cols bys M
    have hsz : (Go.Sort.insertionSort (ltOf fun x y : Fin (M + 1) => cmpBy cols bys x.val y.val) (idF M) 0 (M + 1)).size = M + 1 := by
      have := hs.1.length_eq
      rwa [List.length_map, Array.length_toList, List.length_range] at this
    have hh : Go.Sort.Holds (encF M) w g 0 (idF M) := fun j hj => by
      rw [idF_size] at hj
      have h1 := ho.cellAt j (by omega)
      rw [Nat.zero_add, idF_get M j hj]
      refine ⟨?_, ho.frozenAt _⟩
      rw [h1]
      simp [pin, encF, hj]
    refine (sortF_any M g pc gb gc B _ w hN hgl.1 hgl.2 hh hsz fun W hW x y => hc W hW x.val y.val x.isLt y.isLt).mono ?_
    rintro e w' ⟨rfl, hSW⟩
    refine ⟨rfl, _, hs, ?_, ?_⟩
    · have h1 := hSW.holds hgl.2 hh (by rw [hsz, idF_size])
      obtain ⟨T, hT⟩ : ∃ T, Go.Sort.insertionSort (ltOf fun x y : Fin (M + 1) => cmpBy cols bys x.val y.val) (idF M) 0 (M + 1) = T := ⟨_, rfl⟩
      rw [hT] at h1 hsz ⊢
      refine .inr ⟨g, 0, rfl, Nat.lt_of_lt_of_le hgl.2 hSW.le, fun k v hv => ?_⟩
      have hk : k < T.size := by
        have := (List.getElem?_eq_some_iff.1 hv).1
        rw [pin_len, List.length_map, Array.length_toList] at this
        exact this
      have h2 := (h1 k hk).1
      rw [getElem!_pos T k hk, Nat.zero_add] at h2
      rw [Nat.zero_add, h2]
      rw [← hv]
      simp [pin, encF, hk]
    · obtain ⟨m, os, rfl⟩ := hSW
      exact below_sw (encF M) w B g m _ os hgl.1 hgl.2

set_option maxRecDepth 100000 in
set_option maxHeartbeats 8000000 in
theorem groups_any (A Bp : Option Addr) (n c bn bc : Nat) (zs : List SlV) (bys : List Int) (w : World) (hn : n = zs.length) (hl : n ≤ 1000) (hbn : bn = bys.length) (hbl : bn ≤ 1000) (hr : RowsAt w A zs) (hb : Has w Bp (iin bys)) (hlen : ∀ s ∈ zs, s.l.length ≤ 1000) (h20 : heightC (colsOf zs) ≤ 20)
    (hby : ∀ c ∈ bys, 0 ≤ c ∧ c < (zs.length : Int)) :
    Calls Tryd.prog 57 #[.slice A n c, .slice Bp bn bc] w (GroupsP (colsOf zs) bys w) := by
  subst hn hbn
  obtain ⟨gc, hgc⟩ : ∃ g, w.heap.size = g := ⟨_, rfl⟩
  obtain ⟨W2, hW2⟩ : ∃ x, (w.alloc (.cells #[.slice A zs.length c] 39)).alloc (.cells #[.slice Bp bys.length bc] 34) = x := ⟨_, rfl⟩
  have L2 : Later w W2 := hW2 ▸ (Later.new w _).alloc _
  have B0 : Blk W2 gc #[.slice A zs.length c] 39 := hW2 ▸ (Blk.new w _ _ _ hgc.symm).later (Later.new _ _)
  have B1 : Blk W2 (gc + 1) #[.slice Bp bys.length bc] 34 := hW2 ▸ Blk.new _ _ _ _ (by simp [hgc])
  have HL2 := Lib.hid L2
  have HRR := Lib.hid (hr.later L2)
  have HBB := Lib.hid (hb.later L2)
  have HLEN := Lib.hid (show ∀ s ∈ zs, heightC (colsOf zs) ≤ s.l.length from fun s hs => heightC_le (List.mem_map.2 ⟨s, hs, rfl⟩))
  have b0 := B0.cell 0 _ rfl
  have b1 := B1.cell 0 _ rfl
  have HB0 := Lib.hid b0
  have HB1 := Lib.hid b1
  have HROWS := Lib.hid (batchRows_any A zs.length c zs W2 rfl hl HRR.out hlen)
  obtain ⟨N, hN⟩ : ∃ N, heightC (colsOf zs) = N := ⟨_, rfl⟩
  have HRL := Lib.hid (show (rowsC (colsOf zs)).length = N from by unfold rowsC; rw [List.length_map, List.length_range, hN])
  have HCMP := Lib.hid (fun (W : World) (l : Later W2 W) (x y : Nat) (hx : x < N) (hy : y < N) => groupsCmp_any (gc + 1) gc A Bp zs.length c bys.length bc zs bys x y W (l.cell b1) (l.cell b0) rfl hl rfl hbl (HBB.out.later l) (HRR.out.later l) hby (fun s hs => ⟨Nat.lt_of_lt_of_le (by rw [hN]; exact hx) (HLEN.out s hs), Nat.lt_of_lt_of_le (by rw [hN]; exact hy) (HLEN.out s hs)⟩))
  have HN := Lib.hid hN
  rw [hN] at h20
  clear B0 B1 L2 hr hb hlen hby hN b1
  go_enter Tryd.func57, Tryd.ntmps57
  go_wp2_with fail
  refine HROWS.out.mono ?_
  rintro e w3 ⟨RA, rc, rs, rfl, hrs, _, _, _, _, l3⟩
  have HRSN := Lib.hid (show rs.length = N from by rw [← HRL.out, ← hrs, List.length_map])
  generalize rs.length = rn at HRSN ⊢
  obtain rfl := HRSN.out
  have HL3 := Lib.hid l3
  have HI0 := Lib.hid (PlI.mk (N := rn) (B := W2.heap.size) (w := W2) (wr := w3) 0 0 none 0 rfl (Nat.zero_le _) (ownG_nil _ _ _ _) (fun _ => rfl) (fun _ => rfl) l3)
  clear hrs l3 HROWS HRL HRSN b0
  go_wp2_with fail
  go_loopw [5, 14] (fun pv iv wr => PlI rn W2.heap.size W2 pv iv wr) (fun _ i _ => rn - (intOf i).toNat)
  case atStart => exact HI0.out
  case round =>
    obtain ⟨k, P, pc, rfl, rfl, hk, hown, hnil, hz, lat⟩ := hrel
    have HOWN := Lib.hid hown
    have HNIL := Lib.hid hnil
    have HZ := Lib.hid hz
    have HLAT := Lib.hid lat
    clear HI0 hown hnil hz
    by_cases hlt : k < rn
    · have HBK := Lib.hid (fun (wz : World) => Blk.new wz #[.int .i64 k] 3 wz.heap.size rfl)
      have HOB := Lib.hid (fun (o : Obj) => own_later HOWN.out (Later.new wr o))
      have hs1 := lat.size
      clear lat
      go_wp2_with (at_builtin; refine wpList_append_g _ rfl (.tmp 17) (.tmp 19) 34 rfl W2.heap.size 3 _ 1 8 Tryd.underlying34 info_in rfl (by decide) _ k _ rfl (HOB.out _) _ 1 1 [.int .i64 k] rfl (HBK.out wr).has rfl (by intro h; cases h) (by intro u hu; rw [List.mem_singleton] at hu; subst hu; rfl) (by unfold maxLen; omega) (by omega) (by simp; omega) ?_; rintro A' c' wq hO _ hbel hn2; have HO2 := Lib.hid hO; have HN2 := Lib.hid hn2; have HL4 := Lib.hid (Later.of ((HLAT.out.alloc _).below.trans hbel)); clear hO hn2 hbel)
      go_roundw
      case rel =>
        refine PlI.mk _ (k + 1) _ _ ?_ hlt ?_ HN2.out (fun h => by omega) HL4.out
        · omega
        · rw [List.range_succ, pin_append]; exact HO2.out
      case measure => simp [intOf]; omega
    · obtain rfl : k = rn := by omega
      have b1 := lat.cell HB1.out
      have hs1 := lat.size
      by_cases hby0 : bys.length = 0
      · have he : ((bys.length : Int) == 0) = true := by simpa using hby0
        have HG := Lib.hid (show GroupsOf (colsOf zs) bys k [List.range k] from .inl ⟨List.eq_nil_of_length_eq_zero hby0, rfl⟩)
        have HPK := Lib.hid (Has.ownG HOWN.out)
        have HPB := Lib.hid (fun (wz : World) => Blk.new wz #[.slice P k pc] 34 wz.heap.size rfl)
        have HLA := Lib.hid (fun (o : Obj) => Later.new wr o)
        clear hby0 lat
        go_wp2_with fail
        go_ret
        refine ⟨_, _, [List.range k], rfl, by rw [HN.out]; exact HG.out, GrAt.one (l := List.range k) (c := pc) (t := 34) ?_ (HPK.out.later (HLA.out _)), (HL2.out.trans HLAT.out).trans (HLA.out _)⟩
        rw [List.length_range]
        exact HPB.out wr
      · have he : ((bys.length : Int) == 0) = false := by simp; intro e; exact hby0 (by rw [e]; rfl)
        have HNE := Lib.hid (show bys ≠ [] from fun e => hby0 (by rw [e]; rfl))
        have HSORT := Lib.hid (sortG_any (colsOf zs) bys k W2.heap.size (gc + 1) gc P pc wr h20 hs1 HOWN.out HNIL.out HZ.out (fun W hW x y hx hy => HCMP.out W (Later.of (lat.below.trans hW)) x y hx hy))
        have hbe := lat.below
        clear hby0 lat HOWN HNIL HZ hlt hk
        go_wp2_with fail
        refine HSORT.out.mono ?_
        rintro e w5 ⟨rfl, S, hS, hHS, hbel⟩
        have HL5 := Lib.hid (Later.of (hbe.trans hbel))
        have HIS := Lib.hid hS
        have HHS := Lib.hid hHS
        have HSL := Lib.hid (show S.length = k from by rw [hS.1.length_eq, List.length_range])
        have HSM := Lib.hid (show ∀ j (h : j < S.length), S[j] < k from fun j h => List.mem_range.1 (hS.1.mem_iff.1 (List.getElem_mem h)))
        obtain ⟨cf, hcf⟩ : ∃ f, cmpBy (colsOf zs) bys = f := ⟨_, rfl⟩
        have HCF := Lib.hid hcf
        rw [hcf] at HCMP HIS
        have HIR := Lib.hid (RuI.mk (cf := cf) (S := S) (N := k) (w := w5) (wr := w5) 0 0 none 0 0 rfl (Nat.zero_le _) (GS.nil_ _ _) (Later.refl _))
        clear hbe hbel hS hHS hcf HSORT HLAT HRR HBB HLEN b1
        go_wp2_with fail
        go_loopw [8, 33] (fun lv iv wr => RuI cf S k w5 lv iv wr) (fun _ i _ => k - (intOf i).toNat)
        case atStart => exact HIR.out
        case round =>
          obtain ⟨j, T, n, tc, rfl, rfl, hj, hgs, lat⟩ := hrel
          have HGS := Lib.hid hgs
          have HLC := Lib.hid lat
          have hnl := (runsK_len cf S j).1
          rw [← hgs.len] at hnl
          have hnl2 := (runsK_len cf S j).2
          rw [← hgs.len] at hnl2
          clear hgs HIR
          by_cases hltj : j < k
          · have hjS : j < S.length := by have := HSL.out; omega
            obtain ⟨pb, po, hPA, cj⟩ := (HHS.out.later lat).pin j hjS
            subst hPA
            have hgj := getD_at hjS
            have hpk := HSM.out j hjS
            have HRN := Lib.hid (fun (h : j = 0 ∨ cf (S.getD (j - 1) 0) (S.getD j 0) ≠ 0) => show runsK cf S (j + 1) = addLast (runsK cf S j ++ [[]]) (S.getD j 0) from by
              show addLast (if _ then _ else _) _ = _
              rw [if_pos h])
            have HRO := Lib.hid (fun (h : ¬ (j = 0 ∨ cf (S.getD (j - 1) 0) (S.getD j 0) ≠ 0)) => runsK_old h)
            by_cases hj0 : j = 0
            · have hjt : ((j : Int) == 0) = true := by simpa using hj0
              have HRUN := Lib.hid (HRN.out (.inl hj0))
              rw [hgj] at HRUN
              clear hj0 lat HRN HRO hgj
              generalize S[j] = p at cj HRUN hpk
              have HRB := Lib.hid (show ∀ g ∈ runsK cf S j ++ [[]], g.length ≤ j from fun g hg => by
                rcases List.mem_append.1 hg with hg | hg
                · exact runsK_row_le cf S j g hg
                · rw [List.mem_singleton] at hg; subst hg; simp)
              obtain ⟨xs, hxo, hxa⟩ := (HGS.out.later (Later.new wr (.cells #[.slice none 0 0] 34))).own
              have HOW := Lib.hid hxo
              have HADD := Lib.hid hxa
              have HBK := Lib.hid (fun (wz : World) => Blk.new wz #[.slice none 0 0] 34 wz.heap.size rfl)
              have HSZ1 := Lib.hid HLC.out.size
              clear hxo hxa
              go_wp2_with (first | (at_builtin; refine wpList_append_x _ rfl (.tmp 51) (.tmp 52) 123 rfl w5.heap.size 34 _ 1 24 Tryd.underlying123 info_is rfl (by decide) _ n _ rfl HOW.out _ 0 1 1 [.slice none 0 0] rfl (HBK.out _).has rfl (by intro u hu; rw [List.mem_singleton] at hu; subst hu; rfl) (by unfold maxLen; omega) (by omega) (by have := HSZ1.out; simp; omega) ?_; rintro A' c' wq hO hgr hbel hat hn2; go_loud (have HG2 := Lib.hid (HADD.out _ _ _ hO hgr hat hn2)); go_loud (have HLQ := Lib.hid (Later.of ((HLC.out.alloc _).below.trans hbel))); go_loud (have HSZ2 := Lib.hid HLQ.out.size); go_loud (clear hO hgr hbel hat hn2); go_loud (obtain ⟨tb, La, Ln, Lc, hA', hLn, hcell, hfr, hbt, hcapn, hrow, hput⟩ := HG2.out.last1); go_loud (subst hA'); go_loud (have hLb : Ln ≤ 20 := Nat.le_trans (Nat.le_of_eq hLn) (Nat.le_trans (last_le HRB.out) (by omega))); go_loud (have HROW := Lib.hid (fun (o : Obj) => own_later hrow (Later.new wq o))); go_loud (have HPUT := Lib.hid hput); go_loud (have HBT := Lib.hid hbt); go_loud (have HBP := Lib.hid (fun (wz : World) => Blk.new wz #[.int .i64 p] 3 wz.heap.size rfl)); go_loud (clear hrow hput hLn hbt)) | (at_builtin; go_loud (refine wpList_append_x _ rfl (.tmp 63) (.tmp 65) 34 rfl w5.heap.size 3 _ 1 8 Tryd.underlying34 info_in rfl (by decide) _ Ln _ rfl (HROW.out _) _ 0 1 1 [.int .i64 p] rfl (HBP.out _).has rfl (by intro u hu; rw [List.mem_singleton] at hu; subst hu; rfl) (by unfold maxLen; omega) (by omega) (by have := HSZ2.out; simp; omega) ?_); rintro A2 c2 wz hO hgr hbel hat hn; go_loud (obtain ⟨hcz, hfz, hgz⟩ := HPUT.out _ _ _ _ p (Later.new _ _) hO hgr hat hn); go_loud (have HGZ := Lib.hid hgz); go_loud (have HLZ := Lib.hid ((Later.of ((HLQ.out.alloc _).below.trans hbel)).set_ (p := ⟨tb, n, none⟩) HBT.out (.slice A2 (Ln + 1) c2))); go_loud (clear hO hgr hbel hat hn hgz)))
              go_roundw
              case rel => exact RuI.mk _ (j + 1) _ _ _ (by omega) hltj (by rw [HRUN.out]; exact HGZ.out) HLZ.out
              case measure => simp [intOf]; omega
            · obtain ⟨i, rfl⟩ : ∃ i, j = i + 1 := ⟨j - 1, by omega⟩
              have hiS : i < S.length := by omega
              obtain ⟨pb', po', hPA, ci⟩ := (HHS.out.later lat).pin i hiS
              injection hPA with hPA
              injection hPA with e1 e2
              subst e1 e2
              have hgi := getD_at hiS
              have hpi := HSM.out i hiS
              have hjt : (((i : Int) + 1) == 0) = false := by simp; omega
              rw [Nat.add_sub_cancel, hgj, hgi] at HRN HRO
              have HC := Lib.hid (HCMP.out wr (HL5.out.trans lat) S[i] S[i + 1] hpi hpk)
              obtain ⟨d, hd⟩ : ∃ d, cf S[i] S[i + 1] = d := ⟨_, rfl⟩
              rw [hd] at HC HRN HRO
              generalize S[i + 1] = p at cj HRN HRO hpk HC
              generalize S[i] = p0 at ci hpi HC
              obtain ⟨j, hjj⟩ : ∃ j, j = i + 1 := ⟨_, rfl⟩
              clear hd hgj hgi hj0
              go_wp2_with fail
              refine HC.out.mono ?_
              rintro e wc ⟨rfl, hgr⟩
              have HGS := Lib.hid (HGS.out.later hgr.later)
              have HLC := Lib.hid (lat.trans hgr.later)
              clear HC hgr lat
              by_cases hd0 : d = 0
              · have hdt : (d != 0) = false := by simpa using hd0
                have HRUN := Lib.hid (HRO.out (fun h => h.elim (fun h => by omega) (fun h => h hd0)))
                obtain ⟨m, rfl⟩ : ∃ m, n = m + 1 := ⟨n - 1, by omega⟩
                rw [← hjj] at HRUN HGS hltj hnl
                clear hd0 HRN HRO
                have HRB := Lib.hid (show ∀ g ∈ runsK cf S j, g.length ≤ j from fun g hg => runsK_row_le cf S j g hg)
                have HG2 := HGS
                have HLQ := HLC
                have HSZ2 := Lib.hid HLQ.out.size
                obtain ⟨tb, La, Ln, Lc, hA', hLn, hcell, hfr, hbt, hcapn, hrow, hput⟩ := HG2.out.last1; subst hA'; have hLb : Ln ≤ 20 := Nat.le_trans (Nat.le_of_eq hLn) (Nat.le_trans (last_le HRB.out) (by omega)); have HROW := Lib.hid (fun (o : Obj) => own_later hrow (Later.new wc o)); have HPUT := Lib.hid hput; have HBT := Lib.hid hbt; have HBP := Lib.hid (fun (wz : World) => Blk.new wz #[.int .i64 p] 3 wz.heap.size rfl); clear hrow hput hLn hbt
                go_wp2_with (at_builtin; go_loud (refine wpList_append_x _ rfl (.tmp 63) (.tmp 65) 34 rfl w5.heap.size 3 _ 1 8 Tryd.underlying34 info_in rfl (by decide) _ Ln _ rfl (HROW.out _) _ 0 1 1 [.int .i64 p] rfl (HBP.out _).has rfl (by intro u hu; rw [List.mem_singleton] at hu; subst hu; rfl) (by unfold maxLen; omega) (by omega) (by have := HSZ2.out; simp; omega) ?_); rintro A2 c2 wz hO hgr hbel hat hn; go_loud (obtain ⟨hcz, hfz, hgz⟩ := HPUT.out _ _ _ _ p (Later.new _ _) hO hgr hat hn); go_loud (have HGZ := Lib.hid hgz); go_loud (have HLZ := Lib.hid ((Later.of ((HLQ.out.alloc _).below.trans hbel)).set_ (p := ⟨tb, m, none⟩) HBT.out (.slice A2 (Ln + 1) c2))); go_loud (clear hO hgr hbel hat hn hgz))
                go_roundw
                case rel => exact RuI.mk _ (j + 1) _ _ _ (by omega) hltj (by rw [HRUN.out]; exact HGZ.out) HLZ.out
                case measure => simp [intOf]; omega
              · have hdt : (d != 0) = true := by simpa using hd0
                have HRUN := Lib.hid (HRN.out (.inr hd0))
                rw [← hjj] at HRUN HGS hltj hnl
                clear hd0 HRN HRO
                have HRB := Lib.hid (show ∀ g ∈ runsK cf S j ++ [[]], g.length ≤ j from fun g hg => by
                  rcases List.mem_append.1 hg with hg | hg
                  · exact runsK_row_le cf S j g hg
                  · rw [List.mem_singleton] at hg; subst hg; simp)
                obtain ⟨xs, hxo, hxa⟩ := (HGS.out.later (Later.new wc (.cells #[.slice none 0 0] 34))).own
                have HOW := Lib.hid hxo
                have HADD := Lib.hid hxa
                have HBK := Lib.hid (fun (wz : World) => Blk.new wz #[.slice none 0 0] 34 wz.heap.size rfl)
                have HSZ1 := Lib.hid HLC.out.size
                clear hxo hxa
                go_wp2_with (first | (at_builtin; refine wpList_append_x _ rfl (.tmp 51) (.tmp 52) 123 rfl w5.heap.size 34 _ 1 24 Tryd.underlying123 info_is rfl (by decide) _ n _ rfl HOW.out _ 0 1 1 [.slice none 0 0] rfl (HBK.out _).has rfl (by intro u hu; rw [List.mem_singleton] at hu; subst hu; rfl) (by unfold maxLen; omega) (by omega) (by have := HSZ1.out; simp; omega) ?_; rintro A' c' wq hO hgr hbel hat hn2; go_loud (have HG2 := Lib.hid (HADD.out _ _ _ hO hgr hat hn2)); go_loud (have HLQ := Lib.hid (Later.of ((HLC.out.alloc _).below.trans hbel))); go_loud (have HSZ2 := Lib.hid HLQ.out.size); go_loud (clear hO hgr hbel hat hn2); go_loud (obtain ⟨tb, La, Ln, Lc, hA', hLn, hcell, hfr, hbt, hcapn, hrow, hput⟩ := HG2.out.last1); go_loud (subst hA'); go_loud (have hLb : Ln ≤ 20 := Nat.le_trans (Nat.le_of_eq hLn) (Nat.le_trans (last_le HRB.out) (by omega))); go_loud (have HROW := Lib.hid (fun (o : Obj) => own_later hrow (Later.new wq o))); go_loud (have HPUT := Lib.hid hput); go_loud (have HBT := Lib.hid hbt); go_loud (have HBP := Lib.hid (fun (wz : World) => Blk.new wz #[.int .i64 p] 3 wz.heap.size rfl)); go_loud (clear hrow hput hLn hbt)) | (at_builtin; go_loud (refine wpList_append_x _ rfl (.tmp 63) (.tmp 65) 34 rfl w5.heap.size 3 _ 1 8 Tryd.underlying34 info_in rfl (by decide) _ Ln _ rfl (HROW.out _) _ 0 1 1 [.int .i64 p] rfl (HBP.out _).has rfl (by intro u hu; rw [List.mem_singleton] at hu; subst hu; rfl) (by unfold maxLen; omega) (by omega) (by have := HSZ2.out; simp; omega) ?_); rintro A2 c2 wz hO hgr hbel hat hn; go_loud (obtain ⟨hcz, hfz, hgz⟩ := HPUT.out _ _ _ _ p (Later.new _ _) hO hgr hat hn); go_loud (have HGZ := Lib.hid hgz); go_loud (have HLZ := Lib.hid ((Later.of ((HLQ.out.alloc _).below.trans hbel)).set_ (p := ⟨tb, n, none⟩) HBT.out (.slice A2 (Ln + 1) c2))); go_loud (clear hO hgr hbel hat hn hgz)))
                go_roundw
                case rel => exact RuI.mk _ (j + 1) _ _ _ (by omega) hltj (by rw [HRUN.out]; exact HGZ.out) HLZ.out
                case measure => simp [intOf]; omega
          · obtain rfl : j = k := by omega
            have HF := Lib.hid (show GroupsOf (colsOf zs) bys j (runsK cf S j) from .inr ⟨HNE.out, S, by rw [HCF.out]; exact HIS.out, by rw [HCF.out]⟩)
            have HLN := Lib.hid HGS.out.len
            have HAT := Lib.hid HGS.out.at_
            clear HGS lat
            go_wp2_with fail
            go_ret
            exact ⟨T, tc, runsK cf S j, by rw [← HLN.out]; rfl, by rw [HN.out]; exact HF.out, HAT.out, HL2.out.trans (HL5.out.trans HLC.out)⟩
end Go.Proofs.YtkdpjocglfephaaDoor

/- The document's Order and Group: mathematics. -/

namespace Go.Proofs.YtkdpjocglfephaaDoor
open Go.RowKit
set_option linter.unusedVariables false

theorem range_snoc (i : Nat) : List.range (i + 1) = List.range i ++ [i] := List.range_succ
/-- A place more, behind all that are not behind it. -/
theorem IsS.ins {cf : Nat → Nat → Int} (ht : ∀ x y, cf y x = - cf x y) (hr : ∀ x y z, cf x y ≤ 0 → cf y z ≤ 0 → cf x z ≤ 0 ∧ (cf x y < 0 ∨ cf y z < 0 → cf x z < 0)) {i : Nat} {S : List Nat} (h : IsS cf i S) (k : Nat) (hk : k ≤ S.length)
    (h1 : ∀ j (hj : j < S.length), k ≤ j → cf i S[j] < 0) (h2 : ∀ (hj : k - 1 < S.length), k ≠ 0 → ¬ cf i S[k - 1] < 0) : IsS cf (i + 1) (S.take k ++ i :: S.drop k) := by
  obtain ⟨hp, hs⟩ := h
  have hlt : ∀ x ∈ S, x < i := fun x hx => List.mem_range.1 (hp.mem_iff.1 hx)
  refine ⟨?_, ?_⟩
  · rw [range_snoc]
    have e : (S.take k ++ i :: S.drop k).Perm (S ++ [i]) := by
      have h3 : (S.take k ++ i :: S.drop k).Perm (i :: (S.take k ++ S.drop k)) := List.perm_middle
      rw [List.take_append_drop] at h3
      exact h3.trans (List.perm_append_singleton i S).symm
    exact e.trans (hp.append_right _)
  · rw [List.pairwise_append]
    have hst := hs
    rw [← List.take_append_drop k S, List.pairwise_append] at hst
    obtain ⟨p1, p2, p3⟩ := hst
    have below : ∀ x ∈ S.take k, cf x i < 0 ∨ cf x i = 0 ∧ x < i := by
      intro x hx
      obtain ⟨j, hj, rfl⟩ := List.mem_iff_getElem.1 hx
      rw [List.length_take] at hj
      rw [List.getElem_take]
      have hjS : j < S.length := by omega
      have hk1 : k - 1 < S.length := by omega
      have h3 := h2 hk1 (by omega)
      have h4 := ht i S[k - 1]
      have h5 : cf S[j] S[k - 1] ≤ 0 := by
        by_cases e : j = k - 1
        · subst e; have := ht S[k - 1] S[k - 1]; omega
        · have := List.pairwise_iff_getElem.1 hs j (k - 1) hjS hk1 (by omega)
          omega
      have h6 := (hr S[j] S[k - 1] i h5 (by omega)).1
      have h7 := hlt S[j] (List.getElem_mem hjS)
      omega
    refine ⟨p1, ?_, ?_⟩
    · rw [List.pairwise_cons]
      refine ⟨fun y hy => ?_, p2⟩
      obtain ⟨j, hj, rfl⟩ := List.mem_iff_getElem.1 hy
      rw [List.length_drop] at hj
      rw [List.getElem_drop]
      exact .inl (h1 (k + j) (by omega) (by omega))
    · intro x hx y hy
      rcases List.mem_cons.1 hy with rfl | hy
      · exact below x hx
      · exact p3 x hx y hy
/-- Those alike together: each looked at beside the first of the last group. -/
def runsF (cf : Nat → Nat → Int) (S : List Nat) : Nat → List (List Nat)
  | 0 => []
  | k + 1 => if k = 0 ∨ cf (((runsF cf S k).getD ((runsF cf S k).length - 1) []).getD 0 0) (S.getD k 0) ≠ 0 then runsF cf S k ++ [[S.getD k 0]] else addLast (runsF cf S k) (S.getD k 0)
theorem addLast_last (R : List (List Nat)) (h : R ≠ []) (p : Nat) : (addLast R p).getD ((addLast R p).length - 1) [] = R.getD (R.length - 1) [] ++ [p] := by
  rw [addLast_len]
  unfold addLast
  have hl : R.length - 1 < R.length := by
    cases R with
    | nil => exact absurd rfl h
    | cons a t => simp
  rw [List.getD_eq_getElem?_getD, List.getElem?_set_self hl]; rfl
theorem last_snoc (R : List (List Nat)) (l : List Nat) : (R ++ [l]).getD ((R ++ [l]).length - 1) [] = l := by
  rw [List.length_append, List.length_singleton, Nat.add_sub_cancel, List.getD_eq_getElem?_getD, List.getElem?_append_right (Nat.le_refl _), Nat.sub_self]; rfl
theorem runsF_is {cf : Nat → Nat → Int} (ht : ∀ x y, cf y x = - cf x y) (hr : ∀ x y z, cf x y ≤ 0 → cf y z ≤ 0 → cf x z ≤ 0) (S : List Nat) : ∀ k, runsF cf S k = runsK cf S k ∧
    (1 ≤ k → ∃ f r, (runsK cf S k).getD ((runsK cf S k).length - 1) [] = f :: r ∧ cf f (S.getD (k - 1) 0) = 0)
  | 0 => ⟨rfl, fun h => absurd h (by omega)⟩
  | k + 1 => by
    obtain ⟨e, hl⟩ := runsF_is ht hr S k
    have hself : ∀ x, cf x x = 0 := fun x => by have := ht x x; omega
    have hz : ∀ x y z, cf x y = 0 → (cf x z = 0 ↔ cf y z = 0) := fun x y z hxy => by
      have a1 := hr x y z; have a2 := hr y x z; have a3 := hr z y x; have a4 := hr z x y
      have b1 := ht x y; have b2 := ht y z; have b3 := ht x z
      constructor
      · intro h; have := a2 (by omega) (by omega); have := a4 (by omega) (by omega); omega
      · intro h; have := a1 (by omega) (by omega); have := a3 (by omega) (by omega); omega
    have key : (k = 0 ∨ cf (((runsF cf S k).getD ((runsF cf S k).length - 1) []).getD 0 0) (S.getD k 0) ≠ 0) ↔ (k = 0 ∨ cf (S.getD (k - 1) 0) (S.getD k 0) ≠ 0) := by
      by_cases h0 : k = 0
      · simp [h0]
      · obtain ⟨f, r, h1, h2⟩ := hl (by omega)
        rw [e, h1]
        have := hz f (S.getD (k - 1) 0) (S.getD k 0) h2
        simp only [List.getD_cons_zero]
        constructor
        · rintro (h | h)
          · exact .inl h
          · exact .inr fun h3 => h (this.2 h3)
        · rintro (h | h)
          · exact .inl h
          · exact .inr fun h3 => h (this.1 h3)
    by_cases h : k = 0 ∨ cf (S.getD (k - 1) 0) (S.getD k 0) ≠ 0
    · refine ⟨?_, fun _ => ?_⟩
      · show (if _ then _ else _) = _
        rw [if_pos (key.2 h), runsK_new h, e]
      · rw [runsK_new h, last_snoc]
        exact ⟨_, [], rfl, by rw [Nat.add_sub_cancel]; exact hself _⟩
    · refine ⟨?_, fun _ => ?_⟩
      · show (if _ then _ else _) = _
        rw [if_neg (fun h' => h (key.1 h')), runsK_old h, e]
      · have hk0 : k ≠ 0 := fun h0 => h (.inl h0)
        obtain ⟨f, r, h1, h2⟩ := hl (by omega)
        have hne : runsK cf S k ≠ [] := fun h0 => by have := (runsK_len cf S k).2 (by omega); rw [h0] at this; simp at this
        rw [runsK_old h, addLast_last _ hne, h1]
        refine ⟨f, r ++ [S.getD k 0], rfl, ?_⟩
        rw [Nat.add_sub_cancel]
        have h3 : cf (S.getD (k - 1) 0) (S.getD k 0) = 0 := by
          by_cases h4 : cf (S.getD (k - 1) 0) (S.getD k 0) = 0
          · exact h4
          · exact absurd (.inr h4) h
        exact (hz f _ _ h2).2 h3
theorem cmpBy_zero {cols : List (List Val3)} : ∀ {bys : List Int} {x y : Nat}, cmpBy cols bys x y = 0 ↔ ∀ c ∈ bys, cmp3 (cellAt cols c x) (cellAt cols c y) = 0
  | [], x, y => by simp [cmpBy]
  | c :: r, x, y => by
    have ih := cmpBy_zero (cols := cols) (bys := r) (x := x) (y := y)
    unfold cmpBy
    by_cases h : cmp3 (cellAt cols c x) (cellAt cols c y) = 0
    · rw [if_pos h, ih]; simp [h]
    · rw [if_neg h]; simp [h]
/-- Without columns to look at, all are alike, and stand as they stood. -/
theorem runsK_nil (cols : List (List Val3)) (S : List Nat) : ∀ k, 1 ≤ k → k ≤ S.length → runsK (cmpBy cols []) S k = [S.take k]
  | 0, h, _ => absurd h (by omega)
  | 1, _, hk => by
    have h : (0 : Nat) = 0 ∨ cmpBy cols [] (S.getD (0 - 1) 0) (S.getD 0 0) ≠ 0 := .inl rfl
    rw [runsK_new h]
    have h0 : 0 < S.length := hk
    show [] ++ [[S.getD 0 0]] = [S.take 1]
    rw [getD_at h0]
    cases S with
    | nil => simp at h0
    | cons a t => rfl
  | k + 2, _, hk => by
    have ih := runsK_nil cols S (k + 1) (by omega) (by omega)
    have hk' : k + 1 < S.length := hk
    have h : ¬ (k + 1 = 0 ∨ cmpBy cols [] (S.getD (k + 1 - 1) 0) (S.getD (k + 1) 0) ≠ 0) := by
      rintro (h | h)
      · omega
      · exact h rfl
    rw [runsK_old h, ih, getD_at hk']
    rw [List.take_succ_eq_append_getElem hk']
    exact addLast_app [] (S.take (k + 1)) S[k + 1]
theorem isS_nil {cols : List (List Val3)} {N : Nat} {S : List Nat} (h : IsS (cmpBy cols []) N S) : S = List.range N := by
  refine h.one (fun x y => rfl) ⟨List.Perm.refl _, ?_⟩
  refine List.pairwise_iff_getElem.2 fun i j hi hj hij => .inr ⟨rfl, ?_⟩
  rw [List.getElem_range, List.getElem_range]; exact hij
/-- What Group's groups are. -/
theorem groups_ref {cols : List (List Val3)} {bys : List Int} {N : Nat} {S : List Nat} (h : IsS (cmpBy cols bys) N S) (R : List (List Nat)) (hR : R = if bys = [] ∧ N = 0 then [[]] else runsK (cmpBy cols bys) S N) : GroupsOf cols bys N R := by
  subst hR
  by_cases hb : bys = []
  · subst hb
    left
    refine ⟨rfl, ?_⟩
    by_cases hN : N = 0
    · subst hN; rw [if_pos ⟨rfl, rfl⟩]; rfl
    · have hl : S.length = N := by rw [h.1.length_eq]; simp
      rw [if_neg (fun e => hN e.2), runsK_nil cols S N (by omega) (by omega), List.take_of_length_le (by omega), isS_nil h]
  · rw [if_neg (fun e => hb e.1)]
    exact .inr ⟨hb, S, h, rfl⟩
end Go.Proofs.YtkdpjocglfephaaDoor
