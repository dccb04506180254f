/- Columns on their way, in a table; what Columns gives. -/
import Derived.Test.YtphiggjgapaaiaaTab
import Derived.Test.YtphiggjgapaaiaaBagM
namespace Go.Proofs.Ytphiggjgapaaiaa
open Go.RowKit
set_option linter.unusedVariables false

/-- Of each column so many rows are there. -/
def TabC (L : List (List Val3)) (W : Nat) (f : Nat → Nat) (ss : List SlG) : Prop := ss.length = W ∧ ∀ k (h : k < ss.length), ss[k].cs = fl (colK (L.take (f k)) k) ∧ ss[k].n = f k
section
variable {L : List (List Val3)} {W : Nat} {f f' : Nat → Nat} {ss : List SlG}
theorem TabC.new (L : List (List Val3)) (W : Nat) : TabC L W (fun _ => 0) (List.replicate W SlG.nil) := by
  refine ⟨List.length_replicate, fun k hk => ?_⟩
  rw [List.getElem_replicate]
  exact ⟨rfl, rfl⟩
theorem TabC.ext (h : TabC L W f ss) (e : ∀ k, k < W → f k = f' k) : TabC L W f' ss := ⟨h.1, fun k hk => by rw [← e k (by rw [← h.1]; exact hk)]; exact h.2 k hk⟩
theorem TabC.put (h : TabC L W f ss) (k : Nat) (hk : k < ss.length) (hf : f k < L.length) (s' : SlG) (x : Val3) (hx : L[f k].getD k (0, 0, ⟨#[]⟩) = x) (hc : s'.cs = ss[k].cs ++ fl [x]) (hn : s'.n = f k + 1) :
    TabC L W (fun j => if j = k then f k + 1 else f j) (ss.set k s') := by
  refine ⟨by rw [List.length_set]; exact h.1, fun j hj => ?_⟩
  rw [List.length_set] at hj
  rw [List.getElem_set]
  dsimp only
  by_cases e : k = j
  · subst e
    rw [if_pos rfl, if_pos rfl, hc, (h.2 k hk).1, colK_succ L k _ hf, fl_append, hx]
    exact ⟨rfl, hn⟩
  · rw [if_neg e, if_neg (fun h : j = k => e h.symm)]; exact h.2 j hj
theorem TabC.rows {g : Nat} {w : World} {T : TypeId} (h : TabC L W (fun _ => L.length) ss) (ht : Tab T 40 3 w g ss) :
    ∃ zs : List SlV, zs.length = W ∧ zs.map (·.l) = colsT L W ∧ RowsAt w (some ⟨g, 0, none⟩) zs ∧ ∀ s ∈ zs, ∀ b off, s.a = some ⟨b, off, none⟩ → g < b := by
  obtain ⟨r1, r2, r3⟩ := ht.rows (L := colsT L W) (by rw [colsT_len, h.1]) fun k hk hk' => by
    rw [colsT_get L W k (by rw [colsT_len] at hk'; exact hk'), colK_len]
    have := h.2 k hk
    rw [List.take_length] at this
    exact this
  refine ⟨_, by rw [r2, h.1], r3, r1, fun s hs b off hb => ?_⟩
  obtain ⟨k, hk, rfl⟩ := List.mem_iff_getElem.1 hs
  rw [r2] at hk
  rw [List.getElem_zipWith] at hb
  have ho := (ht.own k hk).1
  unfold SlG.v at ho
  have hb' : ss[k].a = some ⟨b, off, none⟩ := hb
  rw [hb'] at ho
  exact (ho.lt b rfl).1
end
/-- A row of a table that is about to grow by a value. -/
theorem TabC.step {T : TypeId} {L : List (List Val3)} {W : Nat} {f : Nat → Nat} {ss : List SlG} {g : Nat} {w : World} (h : TabC L W f ss) (ht : Tab T 40 3 w g ss) (k i : Nat) (hk : k < W) (hi : f k = i) (hil : i < L.length) (x : Val3) (hx : L[i].getD k (0, 0, ⟨#[]⟩) = x) :
    ∃ A c, w.cell? ⟨g, k, none⟩ = some (.slice A i c) ∧ w.ownsRow (g + 1) 40 3 (.slice A i c) i (fl (colK (L.take i) k)) ∧
      ∀ w1 w2 A' c', Later w w1 → w2.ownsRow (g + 1) 40 3 (.slice A' (i + 1) c') (i + 1) (fl (colK (L.take i) k) ++ fl [x]) → w1.grownBy w2 (Value.slice A i c).ownBlock →
        ((Value.slice A' (i + 1) c').ownBlock = (Value.slice A i c).ownBlock ∨ (Value.slice A' (i + 1) c').ownBlock = some w1.heap.size) → (A' = none → c' = 0) →
        ∃ ss', TabC L W (fun j => if j = k then i + 1 else f j) ss' ∧ Tab T 40 3 (w2.setCell ⟨g, k, none⟩ (.slice A' (i + 1) c')) g ss' := by
  subst hi
  have hks : k < ss.length := by rw [h.1]; exact hk
  obtain ⟨hc, hn⟩ := h.2 k hks
  have hcell := ht.cell k hks
  have hown := (ht.own k hks).1
  rw [hn] at hcell hown
  have hv : ss[k].v = .slice ss[k].a (f k) ss[k].c := by unfold SlG.v; rw [hn]
  rw [hv, hc] at hown
  refine ⟨ss[k].a, ss[k].c, hcell, hown, fun w1 w2 A' c' l ho hg hat hnil => ?_⟩
  rw [← hv] at hg hat
  exact ⟨_, h.put k hks hil ⟨A', f k + 1, c', fl (colK (L.take (f k)) k) ++ fl [x]⟩ x hx (by rw [hc]) rfl, (ht.later l).put k hks ⟨A', f k + 1, c', fl (colK (L.take (f k)) k) ++ fl [x]⟩ ho hnil hg hat⟩
/-- What Columns gives. -/
def ColsOk (L : List (List Val3)) (W : Int) : Prop := (1 ≤ W ∧ W ≤ 6) ∧ ∀ r ∈ L, (r.length : Int) = W
def ColsP (L : List (List Val3)) (W : Int) (w : World) (e : Ending) (w' : World) : Prop :=
  (ColsOk L W ∧ ∃ (g : Nat) (zs : List SlV), e = .returned (.tuple #[.slice (some ⟨g, 0, none⟩) zs.length zs.length, .bool true]) ∧ (zs.length : Int) = W ∧ zs.map (·.l) = colsT L zs.length ∧ RowsAt w' (some ⟨g, 0, none⟩) zs ∧ Later w w' ∧ w.heap.size ≤ g ∧ ∀ s ∈ zs, ∀ b off, s.a = some ⟨b, off, none⟩ → w.heap.size ≤ b) ∨
  (¬ ColsOk L W ∧ e = .returned (.tuple #[.slice none 0 0, .bool false]) ∧ Later w w')
theorem ColsP.yesX {L : List (List Val3)} {W : Int} {w w' : World} {e : Ending} (h : ColsP L W w e w') (hk : ColsOk L W) :
    ∃ (g : Nat) (zs : List SlV), e = .returned (.tuple #[.slice (some ⟨g, 0, none⟩) zs.length zs.length, .bool true]) ∧ (zs.length : Int) = W ∧ zs.map (·.l) = colsT L zs.length ∧ RowsAt w' (some ⟨g, 0, none⟩) zs ∧ Later w w' ∧ w.heap.size ≤ g ∧ ∀ s ∈ zs, ∀ b off, s.a = some ⟨b, off, none⟩ → w.heap.size ≤ b := by
  rcases h with ⟨_, h⟩ | ⟨h, _⟩
  · exact h
  · exact absurd hk h
theorem ColsP.yes {L : List (List Val3)} {W : Int} {w w' : World} {e : Ending} (h : ColsP L W w e w') (hk : ColsOk L W) :
    ∃ (g : Nat) (zs : List SlV), e = .returned (.tuple #[.slice (some ⟨g, 0, none⟩) zs.length zs.length, .bool true]) ∧ (zs.length : Int) = W ∧ zs.map (·.l) = colsT L zs.length ∧ RowsAt w' (some ⟨g, 0, none⟩) zs ∧ Later w w' := by
  obtain ⟨g, zs, h1, h2, h3, h4, h5, _⟩ := h.yesX hk
  exact ⟨g, zs, h1, h2, h3, h4, h5⟩
theorem ColsP.no {L : List (List Val3)} {W : Int} {w w' : World} {e : Ending} (h : ColsP L W w e w') (hk : ¬ ColsOk L W) : e = .returned (.tuple #[.slice none 0 0, .bool false]) ∧ Later w w' := by
  rcases h with ⟨h, _⟩ | ⟨_, h⟩
  · exact absurd h hk
  · exact h
theorem ColsP.mk {L : List (List Val3)} {W : Nat} {w w' : World} {g : Nat} {ss : List SlG} {T : TypeId} (hk : ColsOk L W) (h : TabC L W (fun _ => L.length) ss) (ht : Tab T 40 3 w' g ss) (l : Later w w') (hg : w.heap.size ≤ g) :
    ColsP L W w (.returned (.tuple #[.slice (some ⟨g, 0, none⟩) W W, .bool true])) w' := by
  obtain ⟨zs, h1, h2, h3, h4⟩ := h.rows ht
  exact .inl ⟨hk, g, zs, by rw [h1], by rw [h1], by rw [h1]; exact h2, h3, l, hg, fun s hs b off hb => Nat.le_of_lt (Nat.lt_of_le_of_lt hg (h4 s hs b off hb))⟩
end Go.Proofs.Ytphiggjgapaaiaa
