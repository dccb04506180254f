
import Derived.Test.YtfcedbhmbcbiaaaGreatDoorDictS
import Derived.Test.YtfcedbhmbcbiaaaGreatDoorShelf
import Derived.Shelf.SlSortCmp.WholeK
import Derived.Deep.RegionHeld3
import Derived.Lib.SliceRun
/- slices.Clone, SortFunc at values; the closure of unlike. -/

namespace Go.Proofs.YtfcedbhmbcbiaaaGreatDoor
open Go.RowKit
set_option linter.unusedVariables false

/-- A value's three cells. -/
def encV (x : Val3) : List Value := [.int .i64 x.1, .int .i64 x.2.1, .string x.2.2]
theorem encV_len (x : Val3) : (encV x).length = 3 := rfl
theorem encV_one (x : Val3) : ∀ v ∈ encV x, v.oneCell' = true := by
  intro v hv
  simp only [encV, List.mem_cons, List.not_mem_nil, or_false] at hv
  rcases hv with rfl | rfl | rfl <;> rfl
theorem fl_enc (l : List Val3) (k : Nat) (hk : k < l.length) (i : Nat) (hi : i < 3) : (fl l)[k * 3 + i]? = (encV l[k])[i]? := by
  obtain ⟨h0, h1, h2⟩ := fl_get l k hk
  obtain rfl | rfl | rfl : i = 0 ∨ i = 1 ∨ i = 2 := by omega
  · exact h0
  · exact h1
  · exact h2
theorem flat_get (d : Array Val3) (j : Nat) (hj : j < d.size * 3) : (fl d.toList)[j]? = some ((Go.Sort.flatK encV 3 d)[j]!) := by
  have hk : j / 3 < d.toList.length := by rw [Array.length_toList]; omega
  have h := fl_enc d.toList (j / 3) hk (j % 3) (Nat.mod_lt _ (by decide))
  rw [show j / 3 * 3 + j % 3 = j by omega] at h
  rw [h]
  have hsz : j < (Go.Sort.flatK encV 3 d).size := by unfold Go.Sort.flatK; simpa using hj
  rw [getElem!_pos _ j hsz]
  have e : (Go.Sort.flatK encV 3 d)[j] = (encV d[j / 3]!)[j % 3]! := by unfold Go.Sort.flatK; simp
  rw [e, getElem!_pos d (j / 3) (by rw [Array.length_toList] at hk; exact hk), Array.getElem_toList]
  rw [List.getElem!_eq_getElem?_getD, List.getElem?_eq_getElem (by rw [encV_len]; exact Nat.mod_lt _ (by decide))]
  rfl
theorem flat_size (d : Array Val3) : (Go.Sort.flatK encV 3 d).size = d.size * 3 := by unfold Go.Sort.flatK; simp

/-- Cells of a block that may be written. -/
def Cells3 (w : World) (g : Nat) (d : List Val3) : Prop := g < w.heap.size ∧ ∀ j v, (fl d)[j]? = some v → w.cell? ⟨g, j, none⟩ = some v ∧ w.frozen? ⟨g, j, none⟩ = false
theorem Cells3.has {w : World} {g : Nat} {d : List Val3} (h : Cells3 w g d) : Has w (some ⟨g, 0, none⟩) (fl d) := .inr ⟨g, 0, rfl, h.1, fun k v hv => by rw [Nat.zero_add]; exact (h.2 k v hv).1⟩
theorem cells3_own {w : World} {base g n cap : Nat} {d : List Val3} (h : w.ownsRow base 26 3 (.slice (some ⟨g, 0, none⟩) n cap) n (fl d)) (hg : g < w.heap.size) : Cells3 w g d := by
  refine ⟨hg, fun j v hv => ?_⟩
  have hj := (List.getElem?_eq_some_iff.1 hv).1
  have hlen : (fl d).length = n * 3 := h.1
  have h1 := h.cellAt j (by omega)
  rw [hv] at h1
  exact ⟨h1, h.frozenAt j⟩
theorem holds_of {w : World} {g : Nat} {d : Array Val3} (h : Cells3 w g d.toList) : Go.Sort.HoldsK encV 3 w g 0 d := by
  intro j hj
  rw [flat_size] at hj
  have := h.2 j _ (flat_get d j hj)
  rw [Nat.zero_add]
  exact this
theorem of_holds {w : World} {g : Nat} {d : Array Val3} (hg : g < w.heap.size) (h : Go.Sort.HoldsK encV 3 w g 0 d) : Cells3 w g d.toList := by
  refine ⟨hg, fun j v hv => ?_⟩
  have hj := (List.getElem?_eq_some_iff.1 hv).1
  rw [fl_length, Array.length_toList] at hj
  have e := flat_get d j hj
  rw [hv] at e
  injection e with e
  have := h j (by rw [flat_size]; exact hj)
  rw [Nat.zero_add] at this
  rw [e]
  exact this

theorem swo_cmp : Go.Sort.SWO (Go.Proofs.ltOf cmp3) where
  irrefl x := by unfold Go.Proofs.ltOf; rw [cmp3_self]; rfl
  trans x y z h1 h2 := by
    unfold Go.Proofs.ltOf at *
    rw [decide_eq_true_eq] at *
    exact cmp3_lt_trans h1 h2
  ntrans x y z h1 h2 := by
    unfold Go.Proofs.ltOf at *
    rw [decide_eq_false_iff_not] at *
    have a := cmp3_turn x y
    have b := cmp3_turn y z
    have c := cmp3_turn x z
    have := (cmpV_trans z.1 z.2.1 z.2.2 y.1 y.2.1 y.2.2 x.1 x.2.1 x.2.2 (show cmp3 z y ≤ 0 by omega) (show cmp3 y x ≤ 0 by omega)).1
    have : cmp3 z x ≤ 0 := this
    omega
theorem below_sorted (w : World) (base g n : Nat) (d : Array Val3) (os : Array Obj) (h : base ≤ g) (hg : g < w.heap.size) : Below base w (Go.Proofs.sortWorldK encV 3 w g 0 n d os) := by
  refine ⟨rfl, rfl, rfl, ?_, ?_⟩
  · show w.heap.size ≤ ((w.heap.modify g _) ++ os).size
    rw [Array.size_append, Array.size_modify]; omega
  · intro k hk
    show ((w.heap.modify g _) ++ os)[k]? = w.heap[k]?
    rw [Array.getElem?_append_left (by rw [Array.size_modify]; omega), Array.getElem?_modify, if_neg (by omega)]

set_option maxRecDepth 100000 in
/-- slices.SortFunc of values by value.Compare: the same values, rising. -/
theorem sortV_any (g cap base : Nat) (d : List Val3) (w : World) (hg : base ≤ g) (hc : Cells3 w g d) (hl : d.length ≤ 100000) :
    Calls Tryz.prog 56 #[.slice (some ⟨g, 0, none⟩) d.length cap, .func (.func 57) #[] #[]] w fun e w' => e = .returned (.tuple #[]) ∧ ∃ d', d'.Perm d ∧ d'.Pairwise (fun x y => ¬ cmp3 y x < 0) ∧ Cells3 w' g d' ∧ Below base w w' := by
  have eg : ∀ args w, (callFunc 57 args).run Tryz.prog w = .ok (.enter 57 args) w := enters_of Tryz.func57 (by kernel_rfl) rfl
  have hcon := AnyQ.slices_SortFunc Tryz.sortV 3 Tryz.isAgg26 Tryz.sizeOf26 encV (fun _ => rfl) encV_one cmp3 swo_cmp 57 #[] g 0 cap d.toArray w eg (fun _ _ _ _ x y => valCmp_q x y _) (holds_of (by simpa using hc)) hc.1 (by simp; omega)
  change Calls Tryz.prog 56 _ _ _ at hcon
  rw [List.size_toArray] at hcon
  refine hcon.mono ?_
  rintro e w' ⟨rfl, d', n, os, ⟨hps, _, hpp⟩, hso, rfl⟩
  have hps : d'.size = d.length := by simpa using hps
  refine ⟨rfl, d'.toList, ?_, ?_, ?_, below_sorted w base g n d' os hg hc.1⟩
  · have e1 : d'.extract 0 d.length = d' := by rw [← hps]; exact Array.extract_size
    have e2 : (d.toArray).extract 0 d.length = d.toArray := by
      have := Array.extract_size (xs := d.toArray)
      rwa [List.size_toArray] at this
    rw [e1, e2] at hpp
    simpa using hpp
  · rw [List.pairwise_iff_getElem]
    intro i j hi hj hij
    rw [Array.length_toList] at hi hj
    have h := hso i j (Nat.zero_le _) hij (by omega)
    rw [getElem!_pos d' i hi, getElem!_pos d' j hj] at h
    unfold Go.Proofs.ltOf at h
    rw [decide_eq_false_iff_not] at h
    simpa using h
  · exact of_holds (by
      show g < ((w.heap.modify g _) ++ os).size
      rw [Array.size_append, Array.size_modify]
      have := hc.1
      omega) (Go.Proofs.holdsK_sortWorldK_c encV 3 w g 0 d.toArray d' n os (holds_of (by simpa using hc)) hc.1 (by simpa using hps))

set_option maxRecDepth 100000 in
/-- The closure of unlike. -/
theorem alike_g (x y : Val3) (w : World) : Calls Tryz.prog 59 #[.agg #[.int .i64 x.1, .int .i64 x.2.1, .string x.2.2], .agg #[.int .i64 y.1, .int .i64 y.2.1, .string y.2.2]] w fun e w' => e = .returned (.bool (decide (cmp3 x y = 0))) ∧ ∃ q os, w' = Go.Sort.grow (w.drewN q) os := by
  obtain ⟨r, hr⟩ : ∃ r, r = cmp3 x y := ⟨_, rfl⟩
  have HC := Lib.hid (fun w' => valCmp_g x.1 x.2.1 x.2.2 y.1 y.2.1 y.2.2 w')
  rw [show cmpV x.1 x.2.1 x.2.2 y.1 y.2.1 y.2.2 = r from hr.symm] at HC
  rw [← hr]
  clear hr
  generalize x.1 = xt at HC ⊢
  generalize x.2.1 = xi at HC ⊢
  generalize x.2.2 = xs at HC ⊢
  generalize y.1 = yt at HC ⊢
  generalize y.2.1 = yi at HC ⊢
  generalize y.2.2 = ys at HC ⊢
  obtain ⟨w1, hw1⟩ : ∃ w1, w1 = (w.alloc (.cells #[.int .i64 xt, .int .i64 xi, .string xs] 26)).alloc (.cells #[.int .i64 yt, .int .i64 yi, .string ys] 26) := ⟨_, rfl⟩
  have G1 : Grows w w1 := hw1 ▸ ((Grows.refl w).alloc _).alloc _
  have HW := Lib.hid hw1
  have HG := Lib.hid G1
  clear hw1 G1
  by_cases h0 : r = 0
  · have hb : (r == 0) = true := by simp [h0]
    have hd : decide (r = 0) = true := by simp [h0]
    rw [hd]
    clear h0 hd
    go_enter Tryz.func59, Tryz.ntmps59
    go_wp2_with fail
    rw [← HW.out]
    refine (HC.out w1).mono ?_
    rintro e w2 ⟨rfl, g2⟩
    have HG2 := Lib.hid (HG.out.trans g2)
    clear g2
    go_wp2_with fail
    go_ret
    exact ⟨rfl, HG2.out⟩
  · have hb : (r == 0) = false := by simp [h0]
    have hd : decide (r = 0) = false := by simp [h0]
    rw [hd]
    clear h0 hd
    go_enter Tryz.func59, Tryz.ntmps59
    go_wp2_with fail
    rw [← HW.out]
    refine (HC.out w1).mono ?_
    rintro e w2 ⟨rfl, g2⟩
    have HG2 := Lib.hid (HG.out.trans g2)
    clear g2
    go_wp2_with fail
    go_ret
    exact ⟨rfl, HG2.out⟩
end Go.Proofs.YtfcedbhmbcbiaaaGreatDoor

/- slices.CompactFunc at values. -/

namespace Go.Proofs.YtfcedbhmbcbiaaaGreatDoor
open Go.RowKit
set_option linter.unusedVariables false

abbrev gv (s : List Val3) (i : Nat) : Val3 := s.getD i (0, 0, ⟨#[]⟩)
theorem gv_eq {s : List Val3} {i : Nat} (h : i < s.length) : gv s i = s[i] := by unfold gv; rw [List.getD_eq_getElem?_getD, List.getElem?_eq_getElem h]; rfl
/-- Is the value at i kept: unlike the one ahead of it? -/
def keepsV (s : List Val3) (i : Nat) : Bool := i == 0 || !(decide (cmp3 (gv s i) (gv s (i - 1)) = 0))
def unlN (s : List Val3) (m : Nat) : List Val3 := ((List.range m).filter (keepsV s)).map (gv s)
theorem unlN_succ (s : List Val3) (m : Nat) : unlN s (m + 1) = unlN s m ++ (if keepsV s m then [gv s m] else []) := by
  unfold unlN
  rw [List.range_succ, List.filter_append, List.map_append]
  congr 1
  by_cases h : keepsV s m = true
  · rw [if_pos h, List.filter_cons_of_pos h]; rfl
  · rw [if_neg h, List.filter_cons_of_neg h]; rfl
theorem unlN_len (s : List Val3) (m : Nat) : (unlN s m).length ≤ m := by
  unfold unlN
  rw [List.length_map]
  exact Nat.le_trans (List.length_filter_le _ _) (by rw [List.length_range]; exact Nat.le_refl _)
theorem unlN_all {s : List Val3} : ∀ {k : Nat}, k ≤ s.length → (∀ i, i < k → keepsV s i = true) → unlN s k = s.take k
  | 0, _, _ => rfl
  | k + 1, hk, h => by
    rw [unlN_succ, if_pos (h k (by omega)), unlN_all (by omega) (fun i hi => h i (by omega)), gv_eq (by omega), List.take_succ_eq_append_getElem (by omega)]
theorem le_of_sorted {s : List Val3} (hs : s.Pairwise fun x y => ¬ cmp3 y x < 0) {i j : Nat} (hj : j < s.length) (hij : i ≤ j) : ¬ cmp3 s[j] (s[i]'(by omega)) < 0 := by
  rcases Nat.lt_or_ge i j with h | h
  · exact List.pairwise_iff_getElem.1 hs i j (by omega) hj h
  · obtain rfl : i = j := by omega
    rw [cmp3_self]; omega
/-- Of rising values the unlike ones are the words. -/
theorem unlN_words {t : Int} (ht : 1 ≤ t ∧ t ≤ 4) {l s : List Val3} (ol : OkL t l) (hp : s.Perm l) (hs : s.Pairwise fun x y => ¬ cmp3 y x < 0) : unlN s s.length = wordsOf l := by
  have os : OkL t s := fun x hx => ol x (hp.mem_iff.1 hx)
  refine asc_unique ?_ (words_asc ht ol) fun z => ?_
  · unfold unlN Asc
    rw [List.pairwise_map]
    have hr : ((List.range s.length).filter (keepsV s)).Pairwise fun i j => i < j ∧ j < s.length ∧ keepsV s j = true := by
      rw [List.pairwise_filter]
      have h1 : (List.range s.length).Pairwise (· < ·) := List.pairwise_lt_range
      refine (List.pairwise_iff_getElem.2 fun i j hi hj hij => ?_)
      intro _ hk
      rw [List.length_range] at hi hj
      rw [List.getElem_range, List.getElem_range] at *
      exact ⟨hij, hj, hk⟩
    refine hr.imp fun {i j} h => ?_
    obtain ⟨hij, hj, hk⟩ := h
    have hj0 : j ≠ 0 := by omega
    unfold keepsV at hk
    rw [gv_eq hj, gv_eq (show j - 1 < s.length by omega)] at hk
    have hne : ¬ cmp3 s[j] s[j - 1] = 0 := by simpa [hj0] using hk
    have h1 := le_of_sorted hs hj (show j - 1 ≤ j by omega)
    have h2 := le_of_sorted hs (show j - 1 < s.length by omega) (show i ≤ j - 1 by omega)
    rw [gv_eq (show i < s.length by omega), gv_eq hj]
    have a := cmp3_turn s[j] s[j - 1]
    have b := cmp3_turn s[j - 1] s[i]
    exact (cmpV_trans _ _ _ _ _ _ _ _ _ (show cmp3 s[i] s[j - 1] ≤ 0 by omega) (show cmp3 s[j - 1] s[j] ≤ 0 by omega)).2 (.inr (show cmp3 s[j - 1] s[j] < 0 by omega))
  · rw [words_mem ht ol, ← hp.mem_iff]
    constructor
    · intro hz
      obtain ⟨i, hi, rfl⟩ := List.mem_map.1 hz
      have := List.mem_range.1 (List.mem_filter.1 hi).1
      rw [gv_eq this]
      exact List.getElem_mem this
    · intro hz
      obtain ⟨i, hi, rfl⟩ := List.getElem_of_mem hz
      have key : ∀ (i : Nat) (hi : i < s.length), s[i] ∈ unlN s s.length := by
        intro i
        induction i with
        | zero =>
          intro hi
          refine List.mem_map.2 ⟨0, List.mem_filter.2 ⟨List.mem_range.2 hi, rfl⟩, gv_eq hi⟩
        | succ i ih =>
          intro hi
          by_cases hk : keepsV s (i + 1) = true
          · exact List.mem_map.2 ⟨i + 1, List.mem_filter.2 ⟨List.mem_range.2 hi, hk⟩, gv_eq hi⟩
          · unfold keepsV at hk
            rw [gv_eq hi, gv_eq (show i + 1 - 1 < s.length by omega)] at hk
            have h0 : cmp3 s[i + 1] (s[i]'(by omega)) = 0 := by simpa using hk
            have e := (cmp3_zero ht (os _ (List.getElem_mem hi)) (os _ (List.getElem_mem (show i < s.length by omega)))).1 h0
            rw [e]
            exact ih (by omega)
      exact key i hi
theorem Cells3.get {w : World} {g : Nat} {d : List Val3} (h : Cells3 w g d) (k : Nat) (hk : k < d.length) :
    w.cell? ⟨g, k * 3, none⟩ = some (.int .i64 d[k].1) ∧ w.cell? ⟨g, k * 3 + 1, none⟩ = some (.int .i64 d[k].2.1) ∧ w.cell? ⟨g, k * 3 + 2, none⟩ = some (.string d[k].2.2) ∧ w.frozen? ⟨g, k * 3, none⟩ = false ∧ w.frozen? ⟨g, k * 3 + 1, none⟩ = false ∧ w.frozen? ⟨g, k * 3 + 2, none⟩ = false := by
  obtain ⟨h0, h1, h2⟩ := fl_get d k hk
  exact ⟨(h.2 _ _ h0).1, (h.2 _ _ h1).1, (h.2 _ _ h2).1, (h.2 _ _ h0).2, (h.2 _ _ h1).2, (h.2 _ _ h2).2⟩
end Go.Proofs.YtfcedbhmbcbiaaaGreatDoor

/- The walk of slices.CompactFunc at values. -/

namespace Go.Proofs.YtfcedbhmbcbiaaaGreatDoor
open Go.RowKit
set_option linter.unusedVariables false

theorem below_setCells (base g : Nat) (hg : base ≤ g) : ∀ (vs : List Value) (o : Nat) (a w : World), Below base a w → Below base a (w.setCells g o vs)
  | [], _, _, _, h => h
  | v :: r, o, a, w, h => below_setCells base g hg r (o + 1) a _ (h.setCell (p := ⟨g, o, none⟩) hg v)
theorem Cells3.later {w w' : World} {g : Nat} {d : List Val3} (h : Cells3 w g d) (l : Later w w') : Cells3 w' g d := by
  refine ⟨Nat.lt_of_lt_of_le h.1 l.size, fun j v hv => ?_⟩
  obtain ⟨h1, h2⟩ := h.2 j v hv
  refine ⟨l.cell h1, ?_⟩
  have e := Below.block l g h.1
  unfold World.frozen? at h2 ⊢
  rw [e]
  exact h2
theorem cells3_set {w : World} {g : Nat} {c : List Val3} (h : Cells3 w g c) (k : Nat) (hk : k < c.length) (u : Val3) : Cells3 (w.setCells g (k * 3) (encV u)) g (c.set k u) := by
  refine ⟨Nat.lt_of_lt_of_le h.1 (below_setCells 0 g (Nat.zero_le _) _ _ w w (Below.refl _ _)).size, fun j v hv => ?_⟩
  have hj := (List.getElem?_eq_some_iff.1 hv).1
  rw [fl_length, List.length_set] at hj
  have hq : j / 3 < c.length := by omega
  have e := fl_enc (c.set k u) (j / 3) (by rw [List.length_set]; exact hq) (j % 3) (Nat.mod_lt _ (by decide))
  rw [show j / 3 * 3 + j % 3 = j by omega, hv] at e
  have hin : ∀ i, i < (encV u).length → (w.cell? ⟨g, k * 3 + i, none⟩).isSome = true := by
    intro i hi
    rw [encV_len] at hi
    have e1 := fl_enc c k hk i hi
    rw [List.getElem?_eq_getElem (show i < (encV c[k]).length by rw [encV_len]; exact hi)] at e1
    rw [(h.2 _ _ e1).1]; rfl
  rw [World.frozen?_setCells]
  by_cases hjk : j / 3 = k
  · have h3 : j % 3 < (encV u).length := by rw [encV_len]; exact Nat.mod_lt _ (by decide)
    have e2 := World.cell?_setCells_in g (encV u) (k * 3) w hin (j % 3) h3
    rw [show k * 3 + j % 3 = j by omega] at e2
    have e3 : (c.set k u)[j / 3]'(by rw [List.length_set]; exact hq) = u := by subst hjk; exact List.getElem_set_self _
    rw [e3, List.getElem?_eq_getElem h3] at e
    injection e with e
    have ho := fl_enc c (j / 3) hq (j % 3) (Nat.mod_lt _ (by decide))
    rw [show j / 3 * 3 + j % 3 = j by omega, List.getElem?_eq_getElem (show j % 3 < (encV c[j / 3]).length by rw [encV_len]; exact Nat.mod_lt _ (by decide))] at ho
    exact ⟨by rw [e2, e], (h.2 _ _ ho).2⟩
  · have e3 : (c.set k u)[j / 3]'(by rw [List.length_set]; exact hq) = c[j / 3] := List.getElem_set_ne (fun e => hjk e.symm) _
    rw [e3] at e
    have ho := fl_enc c (j / 3) hq (j % 3) (Nat.mod_lt _ (by decide))
    rw [show j / 3 * 3 + j % 3 = j by omega] at ho
    obtain ⟨a1, a2⟩ := h.2 j v (by rw [ho]; exact e.symm)
    exact ⟨by rw [World.cell?_setCells_out g (encV u) (k * 3) w ⟨g, j, none⟩ (fun _ _ => by rw [encV_len]; show j < k * 3 ∨ k * 3 + 3 ≤ j; omega)]; exact a1, a2⟩
/-- clear, of values. -/
theorem run_clear3 (w : World) (ty : TypeId) (g o n c : Nat) (hn : 0 < n) (hc : ∀ j, j < n * 3 → (w.cell? ⟨g, o + j, none⟩).isSome = true) (hf : ∀ j, j < n * 3 → w.frozen? ⟨g, o + j, none⟩ = false) :
    (Builtin.clear_ #[23] ty #[.slice (some ⟨g, o, none⟩) n c]).run Tryz.prog w = .ok (.tuple #[]) (w.setCells g o (Builtin.zeroCells #[.int .i64 0, .int .i64 0, .string ⟨#[]⟩] n).toList) := by
  have hlen : (Builtin.zeroCells #[.int .i64 0, .int .i64 0, .string ⟨#[]⟩] n).toList.length = n * 3 := by simp [Builtin.zeroCells]
  have hone : ∀ v ∈ (Builtin.zeroCells #[.int .i64 0, .int .i64 0, .string ⟨#[]⟩] n).toList, v.oneCell' = true := by
    intro v hv
    simp [Builtin.zeroCells] at hv
    obtain ⟨i, _, rfl⟩ := hv
    have : i % 3 < 3 := Nat.mod_lt _ (by decide)
    obtain h | h | h : i % 3 = 0 ∨ i % 3 = 1 ∨ i % 3 = 2 := by omega
    all_goals rw [h]; rfl
  have hst := run_storeCells_cells (P := Tryz.prog) g o (Builtin.zeroCells #[.int .i64 0, .int .i64 0, .string ⟨#[]⟩] n).toList 0 w (by rw [hlen]; simpa using hc) (by rw [hlen]; simpa using hf) hone
  simp only [Nat.add_zero] at hst
  obtain ⟨m, rfl⟩ : ∃ m, n = m + 1 := ⟨n - 1, by omega⟩
  have hz : ∀ w, (zeroValue 26).run Tryz.prog w = .ok (vagg 0 0 ⟨#[]⟩) w := Tryz.zeroValue26
  simp [Builtin.clear_, run_underlying Tryz.underlying23, hz, hst, Value.cells]
theorem has_setCells {w : World} {g k : Nat} {c : List Val3} (h : Cells3 w g c) (vs : List Value) (hk : k ≤ c.length) : Has (w.setCells g (k * 3) vs) (some ⟨g, 0, none⟩) (fl (c.take k)) := by
  refine .inr ⟨g, 0, rfl, Nat.lt_of_lt_of_le h.1 (below_setCells 0 g (Nat.zero_le _) _ _ w w (Below.refl _ _)).size, fun j v hv => ?_⟩
  have hj := (List.getElem?_eq_some_iff.1 hv).1
  rw [fl_length, List.length_take] at hj
  rw [fl_take, List.getElem?_take_of_lt (by omega)] at hv
  rw [Nat.zero_add, World.cell?_setCells_out g vs (k * 3) w ⟨g, j, none⟩ (fun _ _ => .inl (by show j < k * 3; omega))]
  exact (h.2 j v hv).1
/-- Where CompactFunc's inner loop stands. -/
def CInv (s : List Val3) (g base k0 n : Nat) (w : World) (kv k2v : Value) (wr : World) : Prop :=
  ∃ (k k2 : Nat) (c : List Val3), kv = .int .i64 k ∧ k2v = .int .i64 k2 ∧ 1 ≤ k2 ∧ k0 + k2 ≤ n ∧ k + 1 ≤ k0 + k2 ∧ 1 ≤ k ∧ k = (unlN s (k0 + k2)).length ∧ c.length = n ∧ c.take k = unlN s (k0 + k2) ∧ c.drop (k0 + k2 - 1) = s.drop (k0 + k2 - 1) ∧ Cells3 wr g c ∧ Below base w wr
theorem CInv.mk {s : List Val3} {g base k0 n : Nat} {w wr : World} (k k2 : Nat) (c : List Val3) (x y : Int) (hx : x = (k : Int)) (hy : y = (k2 : Int)) (h1 : 1 ≤ k2) (h2 : k0 + k2 ≤ n) (h3 : k + 1 ≤ k0 + k2) (h4 : 1 ≤ k) (h5 : k = (unlN s (k0 + k2)).length) (h6 : c.length = n) (h7 : c.take k = unlN s (k0 + k2)) (h8 : c.drop (k0 + k2 - 1) = s.drop (k0 + k2 - 1)) (h9 : Cells3 wr g c) (h10 : Below base w wr) : CInv s g base k0 n w (.int .i64 x) (.int .i64 y) wr := by
  subst hx hy; exact ⟨k, k2, c, rfl, rfl, h1, h2, h3, h4, h5, h6, h7, h8, h9, h10⟩
theorem drop_get_eq {c s : List Val3} {q i : Nat} (h : c.drop q = s.drop q) (hqi : q ≤ i) (hc : i < c.length) (hs : i < s.length) : c[i] = s[i] := by
  have e : (c.drop q)[i - q]? = (s.drop q)[i - q]? := by rw [h]
  rw [List.getElem?_drop, List.getElem?_drop, show q + (i - q) = i by omega, List.getElem?_eq_getElem hc, List.getElem?_eq_getElem hs] at e
  injection e
theorem keeps_iff {s : List Val3} {i : Nat} (hi : i + 1 < s.length) : keepsV s (i + 1) = !(decide (cmp3 s[i + 1] s[i] = 0)) := by
  unfold keepsV
  rw [gv_eq hi, gv_eq (show i + 1 - 1 < s.length by omega)]
  simp

set_option maxRecDepth 100000 in
set_option maxHeartbeats 4000000 in
theorem compact_any (g n cap base : Nat) (s : List Val3) (w : World) (hn : n = s.length) (hg : base ≤ g) (hc : Cells3 w g s) (hcap : n ≤ cap) (hl : n ≤ 100000) :
    Calls Tryz.prog 58 #[.slice (some ⟨g, 0, none⟩) n cap, .func (.func 59) #[] #[]] w fun e w' => ∃ m, e = .returned (.slice (some ⟨g, 0, none⟩) m cap) ∧ m = (unlN s n).length ∧ Has w' (some ⟨g, 0, none⟩) (fl (unlN s n)) ∧ Below base w w' := by
  have eg : ∀ args w, (callFunc 59 args).run Tryz.prog w = .ok (.enter 59 args) w := enters_of Tryz.func59 (by kernel_rfl) rfl
  have mixed : Tryz.prog.follows .mixedOrders = true := by kernel_rfl
  have HN := Lib.hid hn
  have HC0 := Lib.hid hc
  have HG := Lib.hid hg
  have hzero : unlN s s.length = s.take s.length → unlN s s.length = s := fun h => by rw [h, List.take_length]
  by_cases h2 : n < 2
  · have hall : unlN s n = s := by
      rw [hn]; rw [hn] at h2
      refine hzero (unlN_all (Nat.le_refl _) fun i hi => ?_)
      obtain rfl : i = 0 := by omega
      rfl
    have HALL := Lib.hid hall
    have d1 : (n : Int) < 2 := by omega
    clear hn hc hg hzero hall
    go_enter Tryz.func58, Tryz.ntmps58
    go_wp2_with fail
    go_ret
    exact ⟨n, rfl, by rw [HALL.out]; exact HN.out, by rw [HALL.out]; exact HC0.out.has, Below.refl _ _⟩
  · have d1 : ¬ (n : Int) < 2 := by omega
    clear hn hc hg hzero
    go_enter Tryz.func58, Tryz.ntmps58
    go_wp2_with fail
    go_loopw [5] (fun kv wr => ∃ k : Nat, 1 ≤ k ∧ k ≤ n ∧ kv = .int .i64 k ∧ (∀ i, i < k → keepsV s i = true) ∧ Cells3 wr g s ∧ Below base w wr) (fun kv _ => n - (intOf kv).toNat)
    case atStart =>
      refine ⟨1, Nat.le_refl _, by omega, rfl, fun i hi => ?_, HC0.out, Below.refl _ _⟩
      have h0 : i = 0 := by omega
      subst h0
      rfl
    case round =>
      obtain ⟨k, hk1, hkn, rfl, hkeep, hcl, hbel⟩ := hrel
      by_cases hlt : k < n
      · obtain ⟨kp, hkp⟩ : ∃ kp, k = kp + 1 := ⟨k - 1, by omega⟩
        have hks : k < s.length := by have := HN.out; omega
        have hps : kp < s.length := by omega
        obtain ⟨c0, c1, c2, _, _, _⟩ := hcl.get k hks
        obtain ⟨p0, p1, p2, _, _, _⟩ := hcl.get kp hps
        have HCG := Lib.hid (fun (q : Nat) (os : Array Obj) => alike_g s[k] s[kp] (Go.Sort.grow (wr.drewN q) os))
        obtain ⟨bq, hbq⟩ : ∃ bq, bq = decide (cmp3 s[k] s[kp] = 0) := ⟨_, rfl⟩
        rw [← hbq] at HCG
        have HKV := Lib.hid (show keepsV s k = !bq by subst hkp; rw [keeps_iff hks, hbq])
        generalize s[k].1 = xt at c0 HCG
        generalize s[k].2.1 = xi at c1 HCG
        generalize s[k].2.2 = xs at c2 HCG
        generalize s[kp].1 = yt at p0 HCG
        generalize s[kp].2.1 = yi at p1 HCG
        generalize s[kp].2.2 = ys at p2 HCG
        have hgs := hcl.1
        have a0 := fun (q : Nat) (os : Array Obj) => Go.cell_grown (w := wr) hgs c0 q os
        have a1 := fun (q : Nat) (os : Array Obj) => Go.cell_grown (w := wr) hgs c1 q os
        have a2 := fun (q : Nat) (os : Array Obj) => Go.cell_grown (w := wr) hgs c2 q os
        have b0 := fun (q : Nat) (os : Array Obj) => Go.cell_grown (w := wr) hgs p0 q os
        have b1 := fun (q : Nat) (os : Array Obj) => Go.cell_grown (w := wr) hgs p1 q os
        have b2 := fun (q : Nat) (os : Array Obj) => Go.cell_grown (w := wr) hgs p2 q os
        have hki : (k : Int) < (n : Int) := by omega
        have hk0 : (0 : Int) ≤ (k : Int) := by omega
        have hkm : (k : Int) - 1 = (kp : Int) := by omega
        have hkmw : IntKind.i64.wrap ((k : Int) - 1) = (kp : Int) := by rw [hkm]; exact IntWalk.i64_in _ ⟨by omega, by omega⟩
        have hp0 : (0 : Int) ≤ (kp : Int) := by omega
        have hpi : (kp : Int) < (n : Int) := by omega
        have HCL := Lib.hid hcl
        have HBEL := Lib.hid hbel
        have HKEEP := Lib.hid hkeep
        have HKP := Lib.hid hkp
        clear c0 c1 c2 p0 p1 p2 hcl hbel hkeep hkp hbq hps hkm
        cases bq with
        | false =>
          go_wp2_with fail
          go_quiet_grown (first | (go_at_call 59; refine Go.Calls.grown_of (HCG.out _ _)))
          go_wp2_with fail
          go_roundw
          case rel =>
            refine ⟨k + 1, by omega, hlt, by go_num, fun i hi => ?_, HCL.out.later (grow_later _ _ _), HBEL.out.trans ((grow_later wr nq osq).below.mono (by have := HCL.out.1; have := HG.out; omega))⟩
            rcases Nat.lt_or_ge i k with h | h
            · exact HKEEP.out i h
            · obtain rfl : i = k := by omega
              exact HKV.out
          case measure => simp [intOf]; omega
        | true =>
          go_wp2_with fail
          go_quiet_grown (first | (go_at_call 59; refine Go.Calls.grown_of (HCG.out _ _)))
          obtain ⟨wo, hwo⟩ : ∃ wo, wo = Go.Sort.grow (wr.drewN nq) osq := ⟨_, rfl⟩
          have lo : Later wr wo := hwo ▸ grow_later wr nq osq
          have HCO := Lib.hid (HCL.out.later lo)
          have HBO := Lib.hid (HBEL.out.trans (lo.below.mono (by have := HCL.out.1; have := HG.out; omega)))
          rw [← hwo]
          clear hwo lo a0 a1 a2 b0 b1 b2 hgs HCG HCL HBEL hkmw hp0 hpi
          obtain ⟨m2, hm2⟩ : ∃ m2, m2 = n - k := ⟨_, rfl⟩
          have HM2 := Lib.hid hm2
          have j1 : (k : Int) ≤ (n : Int) := by omega
          have j2 : k ≤ n := by omega
          have j3 : ¬ cap = k := by omega
          have j4 : (k : Int) ≤ (cap : Int) := by omega
          clear hm2
          go_wp2_with fail
          rw [← HM2.out]
          go_loopw [5, 7] (fun kv k2v wr => CInv s g base k n w kv k2v wr) (fun _ k2v _ => m2 - (intOf k2v).toNat)
          case atStart =>
            have hu : unlN s (k + 1) = s.take k := by rw [unlN_succ, HKV.out, unlN_all (by omega) HKEEP.out]; simp
            exact CInv.mk k 1 s _ _ rfl rfl (Nat.le_refl _) (by omega) (Nat.le_refl _) hk1 (by rw [hu, List.length_take]; omega) HN.out.symm hu.symm rfl HCO.out HBO.out
          case round =>
            obtain ⟨kk, k2, c, rfl, rfl, h1, h2', h3, h4, h5, h6, h7, h8, hcl, hbel⟩ := hrel
            by_cases hlt2 : k2 < m2
            · obtain ⟨k2p, hk2p⟩ : ∃ k2p, k2 = k2p + 1 := ⟨k2 - 1, by omega⟩
              have ha : k + k2 < n := by have := HM2.out; omega
              have has : k + k2 < s.length := by have := HN.out; omega
              have haps : k + k2p < s.length := by omega
              have hac : k + k2 < c.length := by omega
              have hapc : k + k2p < c.length := by omega
              have eu : c[k + k2] = s[k + k2] := drop_get_eq h8 (by omega) hac has
              have ev : c[k + k2p] = s[k + k2p] := drop_get_eq h8 (by omega) hapc haps
              obtain ⟨c0, c1, c2, _, _, _⟩ := hcl.get (k + k2) hac
              obtain ⟨p0, p1, p2, _, _, _⟩ := hcl.get (k + k2p) hapc
              rw [eu, show (k + k2) * 3 = k * 3 + k2 * 3 by omega] at c0 c1 c2
              rw [ev, show (k + k2p) * 3 = k * 3 + k2p * 3 by omega] at p0 p1 p2
              have HCG := Lib.hid (fun (q : Nat) (os : Array Obj) => alike_g s[k + k2] s[k + k2p] (Go.Sort.grow (wr.drewN q) os))
              obtain ⟨bq, hbq⟩ : ∃ bq, bq = decide (cmp3 s[k + k2] s[k + k2p] = 0) := ⟨_, rfl⟩
              rw [← hbq] at HCG
              have HKV2 := Lib.hid (show keepsV s (k + k2) = !bq by
                subst hk2p
                have := keeps_iff (s := s) (i := k + k2p) (by omega)
                rw [hbq]; exact this)
              obtain ⟨u, hu⟩ : ∃ u, u = s[k + k2] := ⟨_, rfl⟩
              have HGU := Lib.hid (show gv s (k + k2) = u by rw [hu]; exact gv_eq has)
              rw [← hu] at c0 c1 c2 HCG
              obtain ⟨ut, ui, us⟩ := u
              generalize s[k + k2p].1 = yt at p0 HCG
              generalize s[k + k2p].2.1 = yi at p1 HCG
              generalize s[k + k2p].2.2 = ys at p2 HCG
              have hgs := hcl.1
              have a0 := fun (q : Nat) (os : Array Obj) => Go.cell_grown (w := wr) hgs c0 q os
              have a1 := fun (q : Nat) (os : Array Obj) => Go.cell_grown (w := wr) hgs c1 q os
              have a2 := fun (q : Nat) (os : Array Obj) => Go.cell_grown (w := wr) hgs c2 q os
              have b0 := fun (q : Nat) (os : Array Obj) => Go.cell_grown (w := wr) hgs p0 q os
              have b1 := fun (q : Nat) (os : Array Obj) => Go.cell_grown (w := wr) hgs p1 q os
              have b2 := fun (q : Nat) (os : Array Obj) => Go.cell_grown (w := wr) hgs p2 q os
              have q1 : (k2 : Int) < (m2 : Int) := by omega
              have q2 : (0 : Int) ≤ (k2 : Int) := by omega
              have q3 : (k2 : Int) - 1 = (k2p : Int) := by omega
              have q4 : IntKind.i64.wrap ((k2 : Int) - 1) = (k2p : Int) := by rw [q3]; exact IntWalk.i64_in _ ⟨by omega, by omega⟩
              have q5 : (0 : Int) ≤ (k2p : Int) := by omega
              have q6 : (k2p : Int) < (m2 : Int) := by omega
              have q7 : (0 : Int) ≤ (kk : Int) := by omega
              have q8 : (kk : Int) < (n : Int) := by omega
              have HCL := Lib.hid hcl
              have HBEL := Lib.hid hbel
              have H5 := Lib.hid h5
              have H6 := Lib.hid h6
              have H7 := Lib.hid h7
              have H8 := Lib.hid (show c.drop (k + (k2 + 1) - 1) = s.drop (k + (k2 + 1) - 1) by
                have e := congrArg (List.drop 1) h8
                rw [List.drop_drop, List.drop_drop] at e
                rw [show k + (k2 + 1) - 1 = k + k2 - 1 + 1 by omega]
                exact e)
              have HH := Lib.hid (show k + k2 < n ∧ 1 ≤ k2 ∧ kk + 1 ≤ k + k2 ∧ 1 ≤ kk ∧ k2 < m2 from ⟨ha, h1, h3, h4, hlt2⟩)
              clear c0 c1 c2 p0 p1 p2 hcl hbel hbq h5 h6 h7 h8 eu ev hu hk2p q3 haps hapc has hac
              cases bq with
              | true =>
                go_wp2_with fail
                go_quiet_grown (first | (go_at_call 59; refine Go.Calls.grown_of (HCG.out _ _)))
                go_wp2_with fail
                go_roundw
                case rel =>
                  have hu1 : unlN s (k + (k2 + 1)) = unlN s (k + k2) := by rw [← Nat.add_assoc, unlN_succ, HKV2.out]; simp
                  have hh := HH.out
                  exact CInv.mk kk (k2 + 1) c _ _ rfl (by go_num) (by omega) (by omega) (by omega) (by omega) (by rw [hu1]; exact H5.out) H6.out (by rw [hu1]; exact H7.out) H8.out (HCL.out.later (grow_later _ _ _)) (HBEL.out.trans ((grow_later wr nq osq).below.mono (by have := HCL.out.1; have := HG.out; omega)))
                case measure => have hh := HH.out; simp [intOf]; omega
              | false =>
                go_wp2_with fail
                go_quiet_grown (first | (go_at_call 59; refine Go.Calls.grown_of (HCG.out _ _)))
                obtain ⟨wz, hwz⟩ : ∃ wz, wz = Go.Sort.grow (wr.drewN nq) osq := ⟨_, rfl⟩
                have lz : Later wr wz := hwz ▸ grow_later wr nq osq
                have HCZ := Lib.hid (HCL.out.later lz)
                have HBZ := Lib.hid (HBEL.out.trans (lz.below.mono (by have := HCL.out.1; have := HG.out; omega)))
                have u0 := a0 nq osq
                have u1 := a1 nq osq
                have u2 := a2 nq osq
                rw [← hwz] at u0 u1 u2 ⊢
                obtain ⟨o0, o1, o2, f0, f1, f2⟩ := HCZ.out.get kk (by have := H6.out; omega)
                clear hwz lz a0 a1 a2 b0 b1 b2 hgs HCG HCL HBEL
                go_wp2_with fail
                go_roundw
                case rel =>
                  have hh := HH.out
                  have h6 := H6.out
                  have hu1 : unlN s (k + (k2 + 1)) = unlN s (k + k2) ++ [(ut, ui, us)] := by rw [← Nat.add_assoc, unlN_succ, HKV2.out, HGU.out]; rfl
                  refine CInv.mk (kk + 1) (k2 + 1) (c.set kk (ut, ui, us)) _ _ (by go_num) (by go_num) (by omega) (by omega) (by omega) (by omega) (by rw [hu1, List.length_append, ← H5.out]; rfl) (by rw [List.length_set]; exact h6) ?_ ?_ (cells3_set HCZ.out kk (by omega) (ut, ui, us)) (below_setCells base g HG.out (encV (ut, ui, us)) (kk * 3) _ _ HBZ.out)
                  · rw [hu1, ← H7.out, List.take_succ_eq_append_getElem (by rw [List.length_set]; omega), List.take_set_of_le (Nat.le_refl _), List.getElem_set_self]
                  · rw [List.drop_set_of_lt (by omega)]
                    exact H8.out
                case measure => have hh := HH.out; simp [intOf]; omega
            · obtain rfl : k2 = m2 := by have := HM2.out; omega
              have hkn2 : k + k2 = n := by have := HM2.out; omega
              rw [hkn2] at h5 h7
              have hck : kk ≤ c.length := by omega
              have hclr : ∀ ty, (Builtin.clear_ #[23] ty #[.slice (some ⟨g, kk * 3, none⟩) (n - kk) (cap - kk)]).run Tryz.prog wr = .ok (.tuple #[]) (wr.setCells g (kk * 3) (Builtin.zeroCells #[.int .i64 0, .int .i64 0, .string ⟨#[]⟩] (n - kk)).toList) := fun ty => run_clear3 wr ty g (kk * 3) (n - kk) (cap - kk) (by omega) (fun j hj => by
                  have hjl : kk * 3 + j < (fl c).length := by rw [fl_length]; omega
                  rw [(hcl.2 _ _ (List.getElem?_eq_getElem hjl)).1]; rfl) (fun j hj => by
                  have hjl : kk * 3 + j < (fl c).length := by rw [fl_length]; omega
                  exact (hcl.2 _ _ (List.getElem?_eq_getElem hjl)).2)
              have HHAS := Lib.hid (has_setCells hcl (Builtin.zeroCells #[.int .i64 0, .int .i64 0, .string ⟨#[]⟩] (n - kk)).toList hck)
              have HBB := Lib.hid (below_setCells base g HG.out (Builtin.zeroCells #[.int .i64 0, .int .i64 0, .string ⟨#[]⟩] (n - kk)).toList (kk * 3) _ _ hbel)
              have H5 := Lib.hid h5
              have H7 := Lib.hid h7
              have q1 : ¬ (k2 : Int) < (k2 : Int) := by omega
              have q2 : (kk : Int) ≤ (n : Int) := by omega
              have q3 : kk ≤ n := by omega
              have q4 : ¬ cap = kk := by omega
              have q5 : (kk : Int) ≤ (cap : Int) := by omega
              have q6 : (0 : Int) ≤ (kk : Int) := by omega
              have q7 : kk ≤ cap := by omega
              clear hcl hbel h5 h7 h8 h6 hck h1 h2' h3 hlt2 hkn2
              go_wp2_with fail
              go_ret
              exact ⟨kk, rfl, H5.out, by rw [← H7.out]; exact HHAS.out, HBB.out⟩
      · obtain rfl : k = n := by omega
        have hall : unlN s k = s := by
          have h1 := HN.out
          rw [unlN_all (by omega) hkeep, h1, List.take_length]
        have HALL := Lib.hid hall
        have HCL := Lib.hid hcl
        have HBEL := Lib.hid hbel
        clear hkeep hcl hbel hall hlt
        go_wp2_with fail
        go_ret
        exact ⟨k, rfl, by rw [HALL.out]; exact HN.out, by rw [HALL.out]; exact HCL.out.has, HBEL.out⟩
end Go.Proofs.YtfcedbhmbcbiaaaGreatDoor

/- slices.SortFunc of none; slices.Clone at values; package dict: unlike. -/

namespace Go.Proofs.YtfcedbhmbcbiaaaGreatDoor
open Go.RowKit
set_option linter.unusedVariables false

set_option maxRecDepth 100000 in
theorem insert_none (A : Option Addr) (c : Nat) (f : Value) (w : World) : Calls Tryz.prog 86 #[.slice A 0 c, .int .i64 0, .int .i64 0, f] w fun e w' => e = .returned (.tuple #[]) ∧ w = w' := by
  go_enter Tryz.func86, Tryz.ntmps86
  go_wp2_with fail
  go_loopw [8] (fun iv wr => iv = .int .i64 1 ∧ w = wr) (fun _ _ => 0)
  case atStart => exact ⟨rfl, rfl⟩
  case round =>
    obtain ⟨rfl, rfl⟩ := hrel
    go_wp2_with fail
    go_end0
    exact ⟨rfl, rfl⟩
set_option maxRecDepth 100000 in
theorem pdq_none (A : Option Addr) (c : Nat) (lim : Int) (f : Value) (w : World) : Calls Tryz.prog 74 #[.slice A 0 c, .int .i64 0, .int .i64 0, .int .i64 lim, f] w fun e w' => e = .returned (.tuple #[]) ∧ w = w' := by
  go_enter Tryz.func74, Tryz.ntmps74
  go_wp2_with fail
  go_loopw [1, 2, 3, 10, 11] (fun a b l u v wr => a = .int .i64 0 ∧ b = .int .i64 0 ∧ l = .int .i64 lim ∧ u = .bool true ∧ v = .bool true ∧ w = wr) (fun _ _ _ _ _ _ => 0)
  case atStart => exact ⟨rfl, rfl, rfl, rfl, rfl, rfl⟩
  case round =>
    obtain ⟨rfl, rfl, rfl, rfl, rfl, rfl⟩ := hrel
    go_wp2_with fail
    refine (insert_none A c f _).mono ?_
    rintro e w' ⟨rfl, rfl⟩
    go_wp2_with fail
    first
      | exact bodyPost_ret (results_none _ _ _ _) rfl ⟨rfl, rfl⟩
      | exact bodyPost_ret (results_none _ _ (by rfl) (by rfl)) rfl ⟨rfl, rfl⟩
      | exact bodyPost_ret (v := .tuple #[]) (by simp [results, go_sem]) rfl ⟨rfl, rfl⟩
set_option maxRecDepth 100000 in
theorem sort_none (A : Option Addr) (c : Nat) (f : Value) (w : World) : Calls Tryz.prog 56 #[.slice A 0 c, f] w fun e w' => e = .returned (.tuple #[]) ∧ w = w' := by
  have hb := fun w' => Tryz.bits_Len 0 w' (by decide) (by decide)
  go_enter Tryz.func56, Tryz.ntmps56
  go_wp2_with (first
    | (go_at_call 75; refine (hb _).mono ?_; rintro e w' ⟨rfl, rfl⟩)
    | (go_at_call 74; refine (pdq_none A c _ f _).mono ?_; rintro e w' ⟨rfl, rfl⟩))
  go_end0
  exact ⟨rfl, rfl⟩

set_option maxRecDepth 100000 in
theorem compact_none (A : Option Addr) (c : Nat) (f : Value) (w : World) : Calls Tryz.prog 58 #[.slice A 0 c, f] w fun e w' => e = .returned (.slice A 0 c) ∧ w = w' := by
  go_enter Tryz.func58, Tryz.ntmps58
  go_wp2_with fail
  go_ret
  exact ⟨rfl, rfl⟩
set_option maxRecDepth 100000 in
theorem clone_any (A : Option Addr) (n c : Nat) (l : List Val3) (w : World) (hn : n = l.length) (hl : l.length ≤ 100000) (hr : Has w A (fl l)) :
    Calls Tryz.prog 55 #[.slice A n c] w fun e w' => ∃ B cap, e = .returned (.slice B n cap) ∧ w'.ownsRow w.heap.size 26 3 (.slice B n cap) n (fl l) ∧ Later w w' := by
  have q22 : ∀ (w : World) (a : Option Addr) (n c n' c' : Nat), (binOp .eql 23 (.slice a n c) (.slice none n' c')).run Tryz.prog w = .ok (.bool a.isNone) w := fun w a n c n' c' => Lib.run_eql_slice_nil w _ _ a n c n' c' Tryz.underlying23
  rcases A with _ | a
  · have h0 : l = [] := by
      rcases hr with h | ⟨_, _, h, _⟩
      · have h := congrArg List.length h
        rw [fl_length] at h
        have h : l.length * 3 = 0 := h
        exact List.eq_nil_of_length_eq_zero (by omega)
      · cases h
    subst h0
    have hn0 : n = 0 := hn
    clear hn hl
    subst hn0
    have qn : ∀ (w : World), (binOp .eql 23 (.slice none 0 c) (.slice none 0 0)).run Tryz.prog w = .ok (.bool true) w := fun w => q22 w none 0 c 0 0
    clear hr q22
    go_enter Tryz.func55, Tryz.ntmps55
    go_wp2_with fail
    go_ret
    exact ⟨none, 0, rfl, ownG_nil _ _ _ _, Later.refl _⟩
  · have l1 := Later.new w (.cells ([] : List Value).toArray 26)
    have OW := Lib.hid ((Blk.new w ([] : List Value).toArray 26 _ rfl).ownG (base := w.heap.size) (size := 3) (n := 0) (Nat.le_refl _) rfl (by decide))
    have HR := Lib.hid (hr.later l1)
    have HL1 := Lib.hid l1
    have HN := Lib.hid hn
    have HNN := Lib.hid (show (fl l).length = n * 3 by rw [fl_length, hn])
    have hn9 : n ≤ 100000 := by omega
    clear hr l1 hn hl
    go_enter Tryz.func55, Tryz.ntmps55
    go_wp2_with (at_builtin; refine wpList_append_g _ rfl (.tmp 5) (.tmp 6) 23 rfl w.heap.size 26 (vagg 0 0 ⟨#[]⟩) 3 32 Tryz.underlying23 info_v rfl (by decide) _ 0 [] rfl OW.out _ n c (fl l) rfl HR.out HNN.out (by intro h; cases h) (fl_one _) (by unfold maxLen; omega) (by omega) ?_ ?_; (exact HL1.out.size); intro A2 c2 w6 o2 g2 b2 n2; simp only [Nat.zero_add, List.nil_append] at o2; have HO2 := Lib.hid o2; have HB6 := Lib.hid (Later.of (HL1.out.below.trans b2)); clear o2 g2 b2 n2)
    go_ret
    exact ⟨A2, c2, by simp, HO2.out, HB6.out⟩

set_option maxRecDepth 100000 in
set_option maxHeartbeats 1000000 in
/-- The unlike values, rising. -/
theorem unlike_any (t : Int) (ht : 1 ≤ t ∧ t ≤ 4) (A : Option Addr) (n c : Nat) (l : List Val3) (w : World) (hn : n = l.length) (hl : l.length ≤ 1000) (hr : Has w A (fl l)) (ol : OkL t l) :
    Calls Tryz.prog 32 #[.slice A n c] w fun e w' => ∃ B m cap, e = .returned (.slice B m cap) ∧ m = (wordsOf l).length ∧ Has w' B (fl (wordsOf l)) ∧ Later w w' := by
  have HCL := Lib.hid (clone_any A n c l w hn (by omega) hr)
  by_cases h0 : n = 0
  · have hl0 : l = [] := List.eq_nil_of_length_eq_zero (by omega)
    subst h0
    subst hl0
    clear hn hl hr ol
    go_enter Tryz.func32, Tryz.ntmps32
    go_wp2_with fail
    refine HCL.out.mono ?_
    rintro e w1 ⟨B, cap, rfl, _, l1⟩
    go_wp2_with (first
      | (go_at_call 56; refine (sort_none B cap _ _).mono ?_; rintro e w' ⟨rfl, rfl⟩)
      | (go_at_call 58; refine (compact_none B cap _ _).mono ?_; rintro e w' ⟨rfl, rfl⟩))
    go_ret
    exact ⟨B, 0, cap, rfl, rfl, Has.nil_, l1⟩
  · have HN := Lib.hid hn
    have HOL := Lib.hid ol
    have HT := Lib.hid ht
    have hn9 : n ≤ 1000 := by omega
    clear hn hl hr ol ht
    go_enter Tryz.func32, Tryz.ntmps32
    go_wp2_with fail
    refine HCL.out.mono ?_
    rintro e w1 ⟨B, cap, rfl, own, l1⟩
    obtain ⟨g, hgB, hg, hglt, hcap⟩ : ∃ g, B = some ⟨g, 0, none⟩ ∧ w.heap.size ≤ g ∧ g < w1.heap.size ∧ n ≤ cap := by
      rcases own.2 with ⟨h1, h2⟩ | ⟨g, cap', cur, h1, hbg, hgc, hle, _⟩
      · exact absurd h2 h0
      · injection h1 with e1 e2 e3
        refine ⟨g, e1, hbg, ?_, by omega⟩
        rcases Nat.lt_or_ge g w1.heap.size with h' | h'
        · exact h'
        · rw [Array.getElem?_eq_none h'] at hgc; cases hgc
    subst hgB
    have HC1 := Lib.hid (cells3_own own hglt)
    have HL1 := Lib.hid l1
    have HS := Lib.hid (sortV_any g cap w.heap.size l w1 hg HC1.out (by have := HN.out; omega))
    rw [← HN.out] at HS
    have HG := Lib.hid hg
    clear own hglt l1 hg HCL
    go_wp2_with fail
    refine HS.out.mono ?_
    rintro e w2 ⟨rfl, d, hperm, hsort, hc2, b2⟩
    have hdn : n = d.length := by rw [hperm.length_eq]; exact HN.out
    have HW := Lib.hid (show unlN d n = wordsOf l by rw [hdn]; exact unlN_words HT.out HOL.out hperm (hsort.imp fun h => by omega))
    have HK := Lib.hid (compact_any g n cap w.heap.size d w2 hdn HG.out hc2 hcap (by omega))
    rw [HW.out] at HK
    have HB2 := Lib.hid (Later.of (HL1.out.below.trans b2))
    clear hperm hsort hc2 b2 HS hdn
    go_wp2_with fail
    refine HK.out.mono ?_
    rintro e w3 ⟨m, rfl, hm, hhas, b3⟩
    have HB3 := Lib.hid (Later.of (HB2.out.below.trans b3))
    have HHAS := Lib.hid hhas
    have HM := Lib.hid hm
    clear hhas b3 HK hm
    go_wp2_with fail
    go_ret
    exact ⟨_, m, cap, rfl, HM.out, HHAS.out, HB3.out⟩
end Go.Proofs.YtfcedbhmbcbiaaaGreatDoor
