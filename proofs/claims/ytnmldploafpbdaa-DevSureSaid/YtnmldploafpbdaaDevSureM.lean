/- The mathematics of DevSure. -/
import Derived.Test.YtnmldploafpbdaaDevBeg
import Derived.Test.YtnmldploafpbdaaDeeds18
namespace Go.Proofs.Ytnmldploafpbdaa
open Go.RowKit
set_option linter.unusedVariables false

theorem crash_get (keep : List Nat) (torn at_ : Int) (F : List (Nat × List Nat)) (s : List (List Nat)) (i : Nat) (h : ∀ x ∈ F, x.1 ≠ i) : ∀ j, j ≤ F.length → (crashJ keep torn at_ F s j)[i]? = s[i]?
  | 0, _ => rfl
  | j + 1, hj => by
    have ih := crash_get keep torn at_ F s i h j (by omega)
    have hx : (F.getD j (0, [])).1 ≠ i := by
      rw [List.getD, List.getElem?_eq_getElem (by omega)]
      exact h _ (List.getElem_mem _)
    show (stepC keep torn at_ j _ _)[i]? = _
    unfold stepC
    split
    · rw [List.getElem?_set_ne hx]; exact ih
    · split
      · rw [List.getElem?_set_ne hx]; exact ih
      · exact ih
/-- A device behind j writes, none stopped. -/
def Sv (d : D) (j : Nat) : Prop := d.stops = false ∧ d.writes = (j : Int) ∧ (∀ x ∈ d.fly, x.1 < 8) ∧ d.now.length = 8 ∧ d.fly.length ≤ j ∧ d.now = layAll d.sure d.fly
theorem Sv.new : Sv (newD 8) 0 := ⟨rfl, rfl, (fun x hx => by cases hx), by decide +kernel, Nat.le_refl _, rfl⟩
theorem Sv.wr {d : D} {j i : Nat} {b : List Nat} (h : Sv d j) (hi : i < 8) : Sv (d.wr i b) (j + 1) := by
  obtain ⟨h1, h2, h3, h4, h5, h6⟩ := h
  refine ⟨h1, ?_, ?_, ?_, ?_, ?_⟩
  · show d.writes + 1 = _; rw [h2]; rfl
  · intro x hx
    rcases List.mem_append.1 hx with hx | hx
    · exact h3 x hx
    · rw [List.mem_singleton.1 hx]; exact hi
  · show (d.now.set i b).length = 8; rw [List.length_set]; exact h4
  · show (d.fly ++ [(i, b)]).length ≤ j + 1; rw [List.length_append]; simp; exact h5
  · show d.now.set i b = layAll d.sure (d.fly ++ [(i, b)]); rw [layAll_snoc, ← h6]
theorem Sv.fl {d : D} {j : Nat} (h : Sv d j) : Sv d.fl j := by
  obtain ⟨h1, h2, h3, h4, h5, h6⟩ := h
  exact ⟨h1, h2, (fun x hx => by cases hx), h4, Nat.zero_le _, h6⟩
theorem Sv.go {d : D} {j : Nat} (h : Sv d j) : d.stopped = false := by unfold D.stopped; rw [h.1]; rfl
/-- The blocks as texts, in cells. -/
def strs (L : List (List Nat)) : Array Value := (L.map fun l => Value.string (bstr l)).toArray
theorem strs_set (L : List (List Nat)) (i : Nat) (b : List Nat) : (strs L).setIfInBounds i (.string (bstr b)) = strs (L.set i b) := by
  unfold strs
  rw [List.setIfInBounds_toArray, List.map_set]
theorem strs_get (L : List (List Nat)) (i : Nat) (b : List Nat) (h : L[i]? = some b) : (strs L)[i]? = some (.string (bstr b)) := by
  unfold strs
  rw [List.getElem?_toArray, List.getElem?_map, h]; rfl
def nones : Value := .string ⟨#[]⟩
def wantI (i : Nat) : Array Value := (List.replicate i (Value.string (bstr z128)) ++ List.replicate (8 - i) nones).toArray
theorem wantI_step {i : Nat} (h : i < 8) : (wantI i).setIfInBounds i (.string (bstr z128)) = wantI (i + 1) := by
  unfold wantI
  rw [List.setIfInBounds_toArray]
  obtain ⟨r, hr⟩ : ∃ r, 8 - i = r + 1 := ⟨8 - i - 1, by omega⟩
  rw [hr, show 8 - (i + 1) = r by omega, List.set_append_right _ _ (by simp), List.length_replicate, Nat.sub_self, List.replicate_succ, List.set_cons_zero, List.replicate_succ', List.append_assoc]; rfl
theorem wantI_get {i : Nat} (h : i < 8) : (wantI i)[i]? = some nones := by
  unfold wantI
  rw [List.getElem?_toArray, List.getElem?_append_right (by simp), List.length_replicate, List.getElem?_replicate, if_pos (by omega)]
theorem full_nil : fullL [] = z128 := by decide +kernel
theorem wantI_end : wantI 8 = strs (newD 8).now := by
  unfold wantI strs newD
  simp
/-- Which were written behind the flush. -/
def turnedA (F : List (Nat × List Nat)) : Array Value := ((List.range 8).map fun i => Value.bool (F.any fun x => x.1 == i)).toArray
theorem turnedA_step (F : List (Nat × List Nat)) (i : Nat) (b : List Nat) (h : i < 8) : (turnedA F).setIfInBounds i (.bool true) = turnedA (F ++ [(i, b)]) := by
  unfold turnedA
  rw [List.setIfInBounds_toArray]
  congr 1
  apply List.ext_getElem?
  intro k
  by_cases hk : k < 8
  · rw [List.getElem?_map, List.getElem?_range hk]
    by_cases hki : i = k
    · subst hki
      rw [List.getElem?_set_self (by simpa using h)]
      simp
    · rw [List.getElem?_set_ne hki, List.getElem?_map, List.getElem?_range hk]
      simp [hki]
  · rw [List.getElem?_eq_none (by simp; omega), List.getElem?_eq_none (by simp; omega)]
theorem turnedA_get (F : List (Nat × List Nat)) (i : Nat) (h : i < 8) : (turnedA F)[i]? = some (.bool (F.any fun x => x.1 == i)) := by
  unfold turnedA
  rw [List.getElem?_toArray, List.getElem?_map, List.getElem?_range h]; rfl
theorem not_turned {F : List (Nat × List Nat)} {i : Nat} (h : (F.any fun x => x.1 == i) = false) : ∀ x ∈ F, x.1 ≠ i := by
  intro x hx e
  have := List.any_eq_false.1 h x hx
  simp [e] at this
theorem and7 (x : Int) : ∃ r : Nat, r < 8 ∧ bits .and .i64 x 7 = (r : Int) := by
  refine ⟨((BitVec.ofInt 64 x) &&& (BitVec.ofInt 64 7)).toNat, ?_, ?_⟩
  · rw [BitVec.toNat_and]; exact Nat.lt_succ_of_le Nat.and_le_right
  · have h : ((BitVec.ofInt 64 x) &&& (BitVec.ofInt 64 7)).toNat ≤ 7 := by rw [BitVec.toNat_and]; exact Nat.and_le_right
    show IntKind.i64.wrap (((BitVec.ofInt 64 x) &&& (BitVec.ofInt 64 7)).toNat : Int) = _
    rw [IntWalk.i64_in _ ⟨by omega, by omega⟩]
/-- A cell of a block of another kind is set: the device stays. -/
theorem DA.foreign {w : World} {base p gs gn B cs cn : Nat} {A : Option Addr} {cf : Nat} {d : D} (h : DA w base p gs gn B cs cn A cf d) {g : Nat} {c : Array Value} {t : TypeId} (hb : Blk w g c t) (h1 : t ≠ 5) (h2 : t ≠ 31) (h3 : t ≠ 59) (h4 : t ≠ 56) (k : Nat) (v : Value) : DA (w.setCell ⟨g, k, none⟩ v) base p gs gn B cs cn A cf d := by
  have hg : w.grownBy (w.setCell ⟨g, k, none⟩ v) (some g) := only_setCell (World.grownBy.refl _ _) (.inl rfl) v
  have hdr : DR w base p gs gn B cs cn A d.fly.length cf d.sure d.now d.fly _ := h
  obtain ⟨_, _, _, _, ⟨c1, k1⟩, ⟨c2, k2⟩⟩ := hdr.gb
  have hr : ∀ y, some g = some y → ∃ (cs : Array Value) (t : TypeId), w.heap[y]? = some (Obj.cells cs t (0, 0)) ∧ t ≠ 5 := fun y hy => by injection hy with hy; subst hy; exact ⟨_, _, hb, h1⟩
  refine ⟨Blk.far (p := ⟨g, k, none⟩) h.1 (typed_ne h.1 hb (Ne.symm h4)) v, h.2.1.grown hg hr (fun e => ?_), h.2.2.1.grown hg hr (fun e => ?_), h.2.2.2.1.grown hg (fun y hy => by injection hy with hy; subst hy; exact ⟨_, _, hb, h1, h3⟩), h.2.2.2.2⟩
  · injection e with e; exact typed_ne k1 hb (Ne.symm h2) e
  · injection e with e; exact typed_ne k2 hb (Ne.symm h2) e
end Go.Proofs.Ytnmldploafpbdaa
