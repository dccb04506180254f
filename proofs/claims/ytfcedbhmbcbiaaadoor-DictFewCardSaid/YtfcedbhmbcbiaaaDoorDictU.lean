/- slices.Clone, SortFunc at values; the closure of unlike. -/
import Derived.Test.YtfcedbhmbcbiaaaDoorDictS
import Derived.Test.YtfcedbhmbcbiaaaDoorShelf
import Derived.Shelf.SlSortCmp.WholeK
namespace Go.Proofs.YtfcedbhmbcbiaaaDoor
open Go.RowKit
set_option linter.unusedVariables false

/-- A value's three cells. -/
def encV (x : Val3) : List Value := [.int .i64 x.1, .int .i64 x.2.1, .string x.2.2]
theorem encV_len (x : Val3) : (encV x).length = 3 := rfl
theorem encV_one (x : Val3) : ∀ v ∈ encV x, v.oneCell' = true := by
  intro v hv
  simp only [encV, List.mem_cons, List.not_mem_nil, or_false] at hv
  rcases hv with rfl | rfl | rfl <;> rfl
theorem fl_enc (l : List Val3) (k : Nat) (hk : k < l.length) (i : Nat) (hi : i < 3) : (fl l)[k * 3 + i]? = (encV l[k])[i]? := by
  obtain ⟨h0, h1, h2⟩ := fl_get l k hk
  obtain rfl | rfl | rfl : i = 0 ∨ i = 1 ∨ i = 2 := by omega
  · exact h0
  · exact h1
  · exact h2
theorem flat_get (d : Array Val3) (j : Nat) (hj : j < d.size * 3) : (fl d.toList)[j]? = some ((Go.Sort.flatK encV 3 d)[j]!) := by
  have hk : j / 3 < d.toList.length := by rw [Array.length_toList]; omega
  have h := fl_enc d.toList (j / 3) hk (j % 3) (Nat.mod_lt _ (by decide))
  rw [show j / 3 * 3 + j % 3 = j by omega] at h
  rw [h]
  have hsz : j < (Go.Sort.flatK encV 3 d).size := by unfold Go.Sort.flatK; simpa using hj
  rw [getElem!_pos _ j hsz]
  have e : (Go.Sort.flatK encV 3 d)[j] = (encV d[j / 3]!)[j % 3]! := by unfold Go.Sort.flatK; simp
  rw [e, getElem!_pos d (j / 3) (by rw [Array.length_toList] at hk; exact hk), Array.getElem_toList]
  rw [List.getElem!_eq_getElem?_getD, List.getElem?_eq_getElem (by rw [encV_len]; exact Nat.mod_lt _ (by decide))]
  rfl
theorem flat_size (d : Array Val3) : (Go.Sort.flatK encV 3 d).size = d.size * 3 := by unfold Go.Sort.flatK; simp

/-- Cells of a block that may be written. -/
def Cells3 (w : World) (g : Nat) (d : List Val3) : Prop := g < w.heap.size ∧ ∀ j v, (fl d)[j]? = some v → w.cell? ⟨g, j, none⟩ = some v ∧ w.frozen? ⟨g, j, none⟩ = false
theorem Cells3.has {w : World} {g : Nat} {d : List Val3} (h : Cells3 w g d) : Has w (some ⟨g, 0, none⟩) (fl d) := .inr ⟨g, 0, rfl, h.1, fun k v hv => by rw [Nat.zero_add]; exact (h.2 k v hv).1⟩
theorem cells3_own {w : World} {base g n cap : Nat} {d : List Val3} (h : w.ownsRow base 34 3 (.slice (some ⟨g, 0, none⟩) n cap) n (fl d)) (hg : g < w.heap.size) : Cells3 w g d := by
  refine ⟨hg, fun j v hv => ?_⟩
  have hj := (List.getElem?_eq_some_iff.1 hv).1
  have hlen : (fl d).length = n * 3 := h.1
  have h1 := h.cellAt j (by omega)
  rw [hv] at h1
  exact ⟨h1, h.frozenAt j⟩
theorem holds_of {w : World} {g : Nat} {d : Array Val3} (h : Cells3 w g d.toList) : Go.Sort.HoldsK encV 3 w g 0 d := by
  intro j hj
  rw [flat_size] at hj
  have := h.2 j _ (flat_get d j hj)
  rw [Nat.zero_add]
  exact this
theorem of_holds {w : World} {g : Nat} {d : Array Val3} (hg : g < w.heap.size) (h : Go.Sort.HoldsK encV 3 w g 0 d) : Cells3 w g d.toList := by
  refine ⟨hg, fun j v hv => ?_⟩
  have hj := (List.getElem?_eq_some_iff.1 hv).1
  rw [fl_length, Array.length_toList] at hj
  have e := flat_get d j hj
  rw [hv] at e
  injection e with e
  have := h j (by rw [flat_size]; exact hj)
  rw [Nat.zero_add] at this
  rw [e]
  exact this

theorem swo_cmp : Go.Sort.SWO (Go.Proofs.ltOf cmp3) where
  irrefl x := by unfold Go.Proofs.ltOf; rw [cmp3_self]; rfl
  trans x y z h1 h2 := by
    unfold Go.Proofs.ltOf at *
    rw [decide_eq_true_eq] at *
    exact cmp3_lt_trans h1 h2
  ntrans x y z h1 h2 := by
    unfold Go.Proofs.ltOf at *
    rw [decide_eq_false_iff_not] at *
    have a := cmp3_turn x y
    have b := cmp3_turn y z
    have c := cmp3_turn x z
    have := (cmpV_trans z.1 z.2.1 z.2.2 y.1 y.2.1 y.2.2 x.1 x.2.1 x.2.2 (show cmp3 z y ≤ 0 by omega) (show cmp3 y x ≤ 0 by omega)).1
    have : cmp3 z x ≤ 0 := this
    omega
theorem below_sorted (w : World) (base g n : Nat) (d : Array Val3) (os : Array Obj) (h : base ≤ g) (hg : g < w.heap.size) : Below base w (Go.Proofs.sortWorldK encV 3 w g 0 n d os) := by
  refine ⟨rfl, rfl, rfl, ?_, ?_⟩
  · show w.heap.size ≤ ((w.heap.modify g _) ++ os).size
    rw [Array.size_append, Array.size_modify]; omega
  · intro k hk
    show ((w.heap.modify g _) ++ os)[k]? = w.heap[k]?
    rw [Array.getElem?_append_left (by rw [Array.size_modify]; omega), Array.getElem?_modify, if_neg (by omega)]

set_option maxRecDepth 100000 in
/-- slices.SortFunc of values by value.Compare: the same values, rising. -/
theorem sortV_any (g cap base : Nat) (d : List Val3) (w : World) (hg : base ≤ g) (hc : Cells3 w g d) (hl : d.length ≤ 100000) :
    Calls Tryd.prog 34 #[.slice (some ⟨g, 0, none⟩) d.length cap, .func (.func 35) #[] #[]] w fun e w' => e = .returned (.tuple #[]) ∧ ∃ d', d'.Perm d ∧ d'.Pairwise (fun x y => ¬ cmp3 y x < 0) ∧ Cells3 w' g d' ∧ Below base w w' := by
  have eg : ∀ args w, (callFunc 35 args).run Tryd.prog w = .ok (.enter 35 args) w := enters_of Tryd.func35 (by kernel_rfl) rfl
  have hcon := AnyQ.slices_SortFunc Tryd.sortV 3 Tryd.isAgg34 Tryd.sizeOf34 encV (fun _ => rfl) encV_one cmp3 swo_cmp 35 #[] g 0 cap d.toArray w eg (fun _ _ _ _ x y => valCmp_q x y _) (holds_of (by simpa using hc)) hc.1 (by simp; omega)
  change Calls Tryd.prog 34 _ _ _ at hcon
  rw [List.size_toArray] at hcon
  refine hcon.mono ?_
  rintro e w' ⟨rfl, d', n, os, ⟨hps, _, hpp⟩, hso, rfl⟩
  have hps : d'.size = d.length := by simpa using hps
  refine ⟨rfl, d'.toList, ?_, ?_, ?_, below_sorted w base g n d' os hg hc.1⟩
  · have e1 : d'.extract 0 d.length = d' := by rw [← hps]; exact Array.extract_size
    have e2 : (d.toArray).extract 0 d.length = d.toArray := by
      have := Array.extract_size (xs := d.toArray)
      rwa [List.size_toArray] at this
    rw [e1, e2] at hpp
    simpa using hpp
  · rw [List.pairwise_iff_getElem]
    intro i j hi hj hij
    rw [Array.length_toList] at hi hj
    have h := hso i j (Nat.zero_le _) hij (by omega)
    rw [getElem!_pos d' i hi, getElem!_pos d' j hj] at h
    unfold Go.Proofs.ltOf at h
    rw [decide_eq_false_iff_not] at h
    simpa using h
  · exact of_holds (by
      show g < ((w.heap.modify g _) ++ os).size
      rw [Array.size_append, Array.size_modify]
      have := hc.1
      omega) (Go.Proofs.holdsK_sortWorldK_c encV 3 w g 0 d.toArray d' n os (holds_of (by simpa using hc)) hc.1 (by simpa using hps))

set_option maxRecDepth 100000 in
/-- The closure of unlike. -/
theorem alike_g (x y : Val3) (w : World) : Calls Tryd.prog 37 #[.agg #[.int .i64 x.1, .int .i64 x.2.1, .string x.2.2], .agg #[.int .i64 y.1, .int .i64 y.2.1, .string y.2.2]] w fun e w' => e = .returned (.bool (decide (cmp3 x y = 0))) ∧ ∃ q os, w' = Go.Sort.grow (w.drewN q) os := by
  obtain ⟨r, hr⟩ : ∃ r, r = cmp3 x y := ⟨_, rfl⟩
  have HC := Lib.hid (fun w' => valCmp_g x.1 x.2.1 x.2.2 y.1 y.2.1 y.2.2 w')
  rw [show cmpV x.1 x.2.1 x.2.2 y.1 y.2.1 y.2.2 = r from hr.symm] at HC
  rw [← hr]
  clear hr
  generalize x.1 = xt at HC ⊢
  generalize x.2.1 = xi at HC ⊢
  generalize x.2.2 = xs at HC ⊢
  generalize y.1 = yt at HC ⊢
  generalize y.2.1 = yi at HC ⊢
  generalize y.2.2 = ys at HC ⊢
  obtain ⟨w1, hw1⟩ : ∃ w1, w1 = (w.alloc (.cells #[.int .i64 xt, .int .i64 xi, .string xs] 34)).alloc (.cells #[.int .i64 yt, .int .i64 yi, .string ys] 34) := ⟨_, rfl⟩
  have G1 : Grows w w1 := hw1 ▸ ((Grows.refl w).alloc _).alloc _
  have HW := Lib.hid hw1
  have HG := Lib.hid G1
  clear hw1 G1
  by_cases h0 : r = 0
  · have hb : (r == 0) = true := by simp [h0]
    have hd : decide (r = 0) = true := by simp [h0]
    rw [hd]
    clear h0 hd
    go_enter Tryd.func37, Tryd.ntmps37
    go_wp2_with fail
    rw [← HW.out]
    refine (HC.out w1).mono ?_
    rintro e w2 ⟨rfl, g2⟩
    have HG2 := Lib.hid (HG.out.trans g2)
    clear g2
    go_wp2_with fail
    go_ret
    exact ⟨rfl, HG2.out⟩
  · have hb : (r == 0) = false := by simp [h0]
    have hd : decide (r = 0) = false := by simp [h0]
    rw [hd]
    clear h0 hd
    go_enter Tryd.func37, Tryd.ntmps37
    go_wp2_with fail
    rw [← HW.out]
    refine (HC.out w1).mono ?_
    rintro e w2 ⟨rfl, g2⟩
    have HG2 := Lib.hid (HG.out.trans g2)
    clear g2
    go_wp2_with fail
    go_ret
    exact ⟨rfl, HG2.out⟩
end Go.Proofs.YtfcedbhmbcbiaaaDoor
