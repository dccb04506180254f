/- Cells of values in a block that may be written; what lies in old blocks; a turn of a list. -/
import Derived.Test.YtiacemlloaenoaaDoorRowsM
import Derived.Test.YtiacemlloaenoaaDoorHeldZ
namespace Go.Proofs.YtiacemlloaenoaaDoor
open Go.RowKit
set_option linter.unusedVariables false

def encV (x : Val3) : List Value := [.int .i64 x.1, .int .i64 x.2.1, .string x.2.2]
theorem encV_len (x : Val3) : (encV x).length = 3 := rfl
theorem fl_enc (l : List Val3) (k : Nat) (hk : k < l.length) (i : Nat) (hi : i < 3) : (fl l)[k * 3 + i]? = (encV l[k])[i]? := by
  obtain ⟨h0, h1, h2⟩ := fl_get l k hk
  obtain rfl | rfl | rfl : i = 0 ∨ i = 1 ∨ i = 2 := by omega
  · exact h0
  · exact h1
  · exact h2
def Cells3 (w : World) (g : Nat) (d : List Val3) : Prop := g < w.heap.size ∧ ∀ j v, (fl d)[j]? = some v → w.cell? ⟨g, j, none⟩ = some v ∧ w.frozen? ⟨g, j, none⟩ = false
theorem Cells3.has {w : World} {g : Nat} {d : List Val3} (h : Cells3 w g d) : Has w (some ⟨g, 0, none⟩) (fl d) := .inr ⟨g, 0, rfl, h.1, fun k v hv => by rw [Nat.zero_add]; exact (h.2 k v hv).1⟩
theorem cells3_own {w : World} {base g n cap : Nat} {d : List Val3} (h : w.ownsRow base 40 3 (.slice (some ⟨g, 0, none⟩) n cap) n (fl d)) (hg : g < w.heap.size) : Cells3 w g d := by
  refine ⟨hg, fun j v hv => ?_⟩
  have hj := (List.getElem?_eq_some_iff.1 hv).1
  have hlen : (fl d).length = n * 3 := h.1
  have h1 := h.cellAt j (by omega)
  rw [hv] at h1
  exact ⟨h1, h.frozenAt j⟩
theorem Cells3.get {w : World} {g : Nat} {d : List Val3} (h : Cells3 w g d) (k : Nat) (hk : k < d.length) :
    w.cell? ⟨g, k * 3, none⟩ = some (.int .i64 d[k].1) ∧ w.cell? ⟨g, k * 3 + 1, none⟩ = some (.int .i64 d[k].2.1) ∧ w.cell? ⟨g, k * 3 + 2, none⟩ = some (.string d[k].2.2) ∧ w.frozen? ⟨g, k * 3, none⟩ = false ∧ w.frozen? ⟨g, k * 3 + 1, none⟩ = false ∧ w.frozen? ⟨g, k * 3 + 2, none⟩ = false := by
  obtain ⟨h0, h1, h2⟩ := fl_get d k hk
  exact ⟨(h.2 _ _ h0).1, (h.2 _ _ h1).1, (h.2 _ _ h2).1, (h.2 _ _ h0).2, (h.2 _ _ h1).2, (h.2 _ _ h2).2⟩
theorem below_setCells (base g : Nat) (hg : base ≤ g) : ∀ (vs : List Value) (o : Nat) (a w : World), Below base a w → Below base a (w.setCells g o vs)
  | [], _, _, _, h => h
  | v :: r, o, a, w, h => below_setCells base g hg r (o + 1) a _ (h.setCell (p := ⟨g, o, none⟩) hg v)
theorem Cells3.later {w w' : World} {g : Nat} {d : List Val3} (h : Cells3 w g d) (l : Later w w') : Cells3 w' g d := by
  refine ⟨Nat.lt_of_lt_of_le h.1 l.size, fun j v hv => ?_⟩
  obtain ⟨h1, h2⟩ := h.2 j v hv
  refine ⟨l.cell h1, ?_⟩
  have e := Below.block l g h.1
  unfold World.frozen? at h2 ⊢
  rw [e]
  exact h2
theorem cells3_set {w : World} {g : Nat} {c : List Val3} (h : Cells3 w g c) (k : Nat) (hk : k < c.length) (u : Val3) : Cells3 (w.setCells g (k * 3) (encV u)) g (c.set k u) := by
  refine ⟨Nat.lt_of_lt_of_le h.1 (below_setCells 0 g (Nat.zero_le _) _ _ w w (Below.refl _ _)).size, fun j v hv => ?_⟩
  have hj := (List.getElem?_eq_some_iff.1 hv).1
  rw [fl_length, List.length_set] at hj
  have hq : j / 3 < c.length := by omega
  have e := fl_enc (c.set k u) (j / 3) (by rw [List.length_set]; exact hq) (j % 3) (Nat.mod_lt _ (by decide))
  rw [show j / 3 * 3 + j % 3 = j by omega, hv] at e
  have hin : ∀ i, i < (encV u).length → (w.cell? ⟨g, k * 3 + i, none⟩).isSome = true := by
    intro i hi
    rw [encV_len] at hi
    have e1 := fl_enc c k hk i hi
    rw [List.getElem?_eq_getElem (show i < (encV c[k]).length by rw [encV_len]; exact hi)] at e1
    rw [(h.2 _ _ e1).1]; rfl
  rw [World.frozen?_setCells]
  by_cases hjk : j / 3 = k
  · have h3 : j % 3 < (encV u).length := by rw [encV_len]; exact Nat.mod_lt _ (by decide)
    have e2 := World.cell?_setCells_in g (encV u) (k * 3) w hin (j % 3) h3
    rw [show k * 3 + j % 3 = j by omega] at e2
    have e3 : (c.set k u)[j / 3]'(by rw [List.length_set]; exact hq) = u := by subst hjk; exact List.getElem_set_self _
    rw [e3, List.getElem?_eq_getElem h3] at e
    injection e with e
    have ho := fl_enc c (j / 3) hq (j % 3) (Nat.mod_lt _ (by decide))
    rw [show j / 3 * 3 + j % 3 = j by omega, List.getElem?_eq_getElem (show j % 3 < (encV c[j / 3]).length by rw [encV_len]; exact Nat.mod_lt _ (by decide))] at ho
    exact ⟨by rw [e2, e], (h.2 _ _ ho).2⟩
  · have e3 : (c.set k u)[j / 3]'(by rw [List.length_set]; exact hq) = c[j / 3] := List.getElem_set_ne (fun e => hjk e.symm) _
    rw [e3] at e
    have ho := fl_enc c (j / 3) hq (j % 3) (Nat.mod_lt _ (by decide))
    rw [show j / 3 * 3 + j % 3 = j by omega] at ho
    obtain ⟨a1, a2⟩ := h.2 j v (by rw [ho]; exact e.symm)
    exact ⟨by rw [World.cell?_setCells_out g (encV u) (k * 3) w ⟨g, j, none⟩ (fun _ _ => by rw [encV_len]; show j < k * 3 ∨ k * 3 + 3 ≤ j; omega)]; exact a1, a2⟩
theorem HasX.fresh {w w' : World} {A : Option Addr} {xs : List Value} {o : Option Nat} (h : Has w A xs) (l : Later w w') (ho : ∀ g, o = some g → w.heap.size ≤ g) : HasX o w' A xs := by
  rcases h with h | ⟨b, off, hA, hb, hc⟩
  · exact .inl h
  · refine .inr ⟨b, off, hA, Nat.lt_of_lt_of_le hb l.size, fun e => ?_, fun k v hv => l.cell (hc k v hv)⟩
    have := ho b e.symm
    omega
theorem SlV.okX.fresh {w w' : World} {s : SlV} {o : Option Nat} (h : s.okX none w) (l : Later w w') (ho : ∀ g, o = some g → w.heap.size ≤ g) : s.okX o w' := ⟨HasX.fresh h.1.has l ho, h.2⟩
/-- A literal of no elements. -/
theorem own_empty (w : World) (base : Nat) (e : TypeId) (size : Nat) (hb : base ≤ w.heap.size) : (w.alloc (.cells #[] e)).ownsRow base e size (.slice (some ⟨w.heap.size, 0, none⟩) 0 0) 0 [] :=
  ⟨by simp, .inr ⟨w.heap.size, 0, #[], rfl, hb, heap_alloc_new w _, Nat.le_refl _, Nat.zero_le _, by simp, by simp⟩⟩

theorem own_some {w : World} {base : Nat} {e : TypeId} {size n c : Nat} {A : Option Addr} {xs : List Value} (h : w.ownsRow base e size (.slice A n c) n xs) (hn : 0 < n) : ∃ g, A = some ⟨g, 0, none⟩ := by
  rcases h.2 with ⟨_, h0⟩ | ⟨g, cap, cur, hv, _⟩
  · omega
  · injection hv with e1 e2 e3; exact ⟨g, e1⟩
theorem has_set {w : World} {b : Nat} {xs : List Value} (h : Has w (some ⟨b, 0, none⟩) xs) (k : Nat) (hk : k < xs.length) (v : Value) : Has (w.setCell ⟨b, k, none⟩ v) (some ⟨b, 0, none⟩) (xs.set k v) := by
  rcases h with h | ⟨b', off, e, hb, hc⟩
  · subst h; simp at hk
  · injection e with e
    injection e with e1 e2
    subst e1 e2
    refine .inr ⟨b, 0, rfl, Nat.lt_of_lt_of_le hb (below_setCells 0 b (Nat.zero_le _) [v] k w w (Below.refl _ _)).size, fun j u hj => ?_⟩
    rw [Nat.zero_add]
    by_cases e : j = k
    · subst e
      have h1 := World.cell?_setCells_in b [v] j w (fun i hi => by
        have : i = 0 := by simpa using hi
        subst this
        have h2 := hc j _ (List.getElem?_eq_getElem hk)
        rw [Nat.zero_add] at h2
        rw [Nat.add_zero, h2]; rfl) 0 (by simp)
      rw [List.getElem?_set_self hk] at hj
      injection hj with hj
      subst hj
      exact h1
    · rw [List.getElem?_set_ne (fun h => e h.symm)] at hj
      have h1 := World.cell?_setCells_out b [v] k w ⟨b, j, none⟩ (fun _ _ => by show j < k ∨ k + 1 ≤ j; omega)
      have h2 := hc j u hj
      rw [Nat.zero_add] at h2
      exact h1.trans h2
/-- The list turned by t. -/
def rotS {α : Type} [Inhabited α] (l : List α) (t i : Nat) : List α := (List.range i).map fun j => l.getD ((j + t) % l.length) default
theorem rotS_len {α : Type} [Inhabited α] (l : List α) (t i : Nat) : (rotS l t i).length = i := by simp [rotS]
theorem rotS_succ {α : Type} [Inhabited α] (l : List α) (t i q : Nat) (hq : (i + t) % l.length = q) (h : q < l.length) : rotS l t (i + 1) = rotS l t i ++ [l[q]] := by
  subst hq
  unfold rotS
  rw [List.range_succ, List.map_append]
  simp [List.getD_eq_getElem?_getD, List.getElem?_eq_getElem h]
theorem rotS_mem {α : Type} [Inhabited α] (l : List α) (t i : Nat) (hl : 0 < l.length) : ∀ x ∈ rotS l t i, x ∈ l := by
  intro x hx
  unfold rotS at hx
  obtain ⟨j, _, rfl⟩ := List.mem_map.1 hx
  have h := Nat.mod_lt (j + t) hl
  rw [List.getD_eq_getElem?_getD, List.getElem?_eq_getElem h]
  exact List.getElem_mem h
theorem rotS_eq {α : Type} [Inhabited α] (l : List α) (t : Nat) (hl : 0 < l.length) : rotS l t l.length = l.drop (t % l.length) ++ l.take (t % l.length) := by
  have hd := Nat.mod_lt t hl
  obtain ⟨d, hdd⟩ : ∃ d, t % l.length = d := ⟨_, rfl⟩
  rw [hdd] at hd ⊢
  unfold rotS
  refine List.ext_getElem (by simp; omega) fun j h1 h2 => ?_
  rw [List.length_map, List.length_range] at h1
  have e : (j + t) % l.length = (j + d) % l.length := by rw [← hdd, Nat.add_mod_mod]
  rw [List.getElem_map, List.getElem_range, e]
  have hdl : (l.drop d).length = l.length - d := List.length_drop
  by_cases h : j < l.length - d
  · rw [List.getElem_append_left (by omega), List.getElem_drop, Nat.mod_eq_of_lt (by omega), List.getD_eq_getElem?_getD, List.getElem?_eq_getElem (by omega), Option.getD_some]
    congr 1; omega
  · rw [List.getElem_append_right (by omega), List.getElem_take]
    have e2 : (j + d) % l.length = j - (l.drop d).length := by
      rw [show j + d = (j - (l.length - d)) + l.length by omega, Nat.add_mod_right, Nat.mod_eq_of_lt (by omega), hdl]
    rw [List.getD_eq_getElem?_getD, e2, List.getElem?_eq_getElem (by omega), Option.getD_some]
theorem rotS_perm {α : Type} [Inhabited α] (l : List α) (t : Nat) (hl : 0 < l.length) : (rotS l t l.length).Perm l := by
  rw [rotS_eq l t hl]
  refine List.perm_append_comm.trans ?_
  rw [List.take_append_drop]
end Go.Proofs.YtiacemlloaenoaaDoor
