/- Columns on their way, in a table; what Columns gives. -/
import Derived.Test.YtiacemlloaenoaaDoorTab
import Derived.Test.YtiacemlloaenoaaDoorBagM
namespace Go.Proofs.YtiacemlloaenoaaDoor
open Go.RowKit
set_option linter.unusedVariables false

/-- Of each column so many rows are there. -/
def TabC (L : List (List Val3)) (W : Nat) (f : Nat → Nat) (ss : List SlG) : Prop := ss.length = W ∧ ∀ k (h : k < ss.length), ss[k].cs = fl (colK (L.take (f k)) k) ∧ ss[k].n = f k
section
variable {L : List (List Val3)} {W : Nat} {f f' : Nat → Nat} {ss : List SlG}
theorem TabC.new (L : List (List Val3)) (W : Nat) : TabC L W (fun _ => 0) (List.replicate W SlG.nil) := by
  refine ⟨List.length_replicate, fun k hk => ?_⟩
  rw [List.getElem_replicate]
  exact ⟨rfl, rfl⟩
theorem TabC.ext (h : TabC L W f ss) (e : ∀ k, k < W → f k = f' k) : TabC L W f' ss := ⟨h.1, fun k hk => by rw [← e k (by rw [← h.1]; exact hk)]; exact h.2 k hk⟩
theorem TabC.put (h : TabC L W f ss) (k : Nat) (hk : k < ss.length) (hf : f k < L.length) (s' : SlG) (x : Val3) (hx : L[f k].getD k (0, 0, ⟨#[]⟩) = x) (hc : s'.cs = ss[k].cs ++ fl [x]) (hn : s'.n = f k + 1) :
    TabC L W (fun j => if j = k then f k + 1 else f j) (ss.set k s') := by
  refine ⟨by rw [List.length_set]; exact h.1, fun j hj => ?_⟩
  rw [List.length_set] at hj
  rw [List.getElem_set]
  dsimp only
  by_cases e : k = j
  · subst e
    rw [if_pos rfl, if_pos rfl, hc, (h.2 k hk).1, colK_succ L k _ hf, fl_append, hx]
    exact ⟨rfl, hn⟩
  · rw [if_neg e, if_neg (fun h : j = k => e h.symm)]; exact h.2 j hj
theorem TabC.rows {g : Nat} {w : World} {T : TypeId} (h : TabC L W (fun _ => L.length) ss) (ht : Tab T 40 3 w g ss) :
    ∃ zs : List SlV, zs.length = W ∧ zs.map (·.l) = colsT L W ∧ RowsAt w (some ⟨g, 0, none⟩) zs ∧ (∀ s ∈ zs, ∀ b off, s.a = some ⟨b, off, none⟩ → g < b) ∧ zs.map SlV.v = ss.map SlG.v := by
  have hg : ∀ k (h1 : k < ss.length) (h2 : k < (colsT L W).length), ss[k].cs = fl (colsT L W)[k] ∧ ss[k].n = (colsT L W)[k].length := fun k hk hk' => by
    rw [colsT_get L W k (by rw [colsT_len] at hk'; exact hk'), colK_len]
    have := h.2 k hk
    rw [List.take_length] at this
    exact this
  obtain ⟨r1, r2, r3⟩ := ht.rows (L := colsT L W) (by rw [colsT_len, h.1]) hg
  refine ⟨_, by rw [r2, h.1], r3, r1, fun s hs b off hb => ?_, ht.rowsV (by rw [colsT_len, h.1]) hg⟩
  obtain ⟨k, hk, rfl⟩ := List.mem_iff_getElem.1 hs
  rw [r2] at hk
  rw [List.getElem_zipWith] at hb
  have ho := (ht.own k hk).1
  unfold SlG.v at ho
  have hb' : ss[k].a = some ⟨b, off, none⟩ := hb
  rw [hb'] at ho
  exact (ho.lt b rfl).1
end
/-- A row of a table that is about to grow by a value. -/
theorem TabC.step {T : TypeId} {L : List (List Val3)} {W : Nat} {f : Nat → Nat} {ss : List SlG} {g : Nat} {w : World} (h : TabC L W f ss) (ht : Tab T 40 3 w g ss) (k i : Nat) (hk : k < W) (hi : f k = i) (hil : i < L.length) (x : Val3) (hx : L[i].getD k (0, 0, ⟨#[]⟩) = x) :
    ∃ A c, w.cell? ⟨g, k, none⟩ = some (.slice A i c) ∧ w.ownsRow (g + 1) 40 3 (.slice A i c) i (fl (colK (L.take i) k)) ∧
      ∀ w1 w2 A' c', Later w w1 → w2.ownsRow (g + 1) 40 3 (.slice A' (i + 1) c') (i + 1) (fl (colK (L.take i) k) ++ fl [x]) → w1.grownBy w2 (Value.slice A i c).ownBlock →
        ((Value.slice A' (i + 1) c').ownBlock = (Value.slice A i c).ownBlock ∨ (Value.slice A' (i + 1) c').ownBlock = some w1.heap.size) → (A' = none → c' = 0) →
        ∃ ss', TabC L W (fun j => if j = k then i + 1 else f j) ss' ∧ Tab T 40 3 (w2.setCell ⟨g, k, none⟩ (.slice A' (i + 1) c')) g ss' := by
  subst hi
  have hks : k < ss.length := by rw [h.1]; exact hk
  obtain ⟨hc, hn⟩ := h.2 k hks
  have hcell := ht.cell k hks
  have hown := (ht.own k hks).1
  rw [hn] at hcell hown
  have hv : ss[k].v = .slice ss[k].a (f k) ss[k].c := by unfold SlG.v; rw [hn]
  rw [hv, hc] at hown
  refine ⟨ss[k].a, ss[k].c, hcell, hown, fun w1 w2 A' c' l ho hg hat hnil => ?_⟩
  rw [← hv] at hg hat
  exact ⟨_, h.put k hks hil ⟨A', f k + 1, c', fl (colK (L.take (f k)) k) ++ fl [x]⟩ x hx (by rw [hc]) rfl, (ht.later l).put k hks ⟨A', f k + 1, c', fl (colK (L.take (f k)) k) ++ fl [x]⟩ ho hnil hg hat⟩
/-- Columns: the slice of them the call's own, its block none of theirs. -/
def ColsOn (base : Nat) (w : World) (A : Option Addr) (n c : Nat) (ss : List SlV) : Prop :=
  n = ss.length ∧ w.ownsRow base 37 1 (.slice A n c) n (ss.map SlV.v) ∧ (∀ s ∈ ss, s.okX (Value.slice A n c).ownBlock w) ∧ (A = none → c = 0)
theorem ColsOn.later {base : Nat} {w w' : World} {A : Option Addr} {n c : Nat} {ss : List SlV} (h : ColsOn base w A n c ss) (l : Later w w') : ColsOn base w' A n c ss := ⟨h.1, own_later h.2.1 l, fun s hs => (h.2.2.1 s hs).later l, h.2.2.2⟩
theorem ColsOn.at_ {base : Nat} {w : World} {A : Option Addr} {n c : Nat} {ss : List SlV} (h : ColsOn base w A n c ss) : RowsAt w A ss :=
  ⟨Has.own h.2.1, fun s hs => ⟨(h.2.2.1 s hs).1.weak, (h.2.2.1 s hs).2⟩⟩
theorem ColsOn.more {base : Nat} {w w' : World} {A A' : Option Addr} {n c c' : Nat} {ss : List SlV} {s : SlV} (h : ColsOn base w A n c ss)
    (hs : s.okX (Value.slice A n c).ownBlock w) (ho : w'.ownsRow base 37 1 (.slice A' (n + 1) c') (n + 1) (ss.map SlV.v ++ [s.v])) (g : w.grownBy w' (Value.slice A n c).ownBlock) (hat : (Value.slice A' (n + 1) c').ownBlock = (Value.slice A n c).ownBlock ∨ (Value.slice A' (n + 1) c').ownBlock = some w.heap.size) (hn : A' = none → c' = 0) : ColsOn base w' A' (n + 1) c' (ss ++ [s]) := by
  refine ⟨by rw [List.length_append, ← h.1]; rfl, ?_, fun x hx => ?_, hn⟩
  · rw [List.map_append]; exact ho
  · rcases List.mem_append.1 hx with hx | hx
    · exact (h.2.2.1 x hx).grown g hat
    · rw [List.mem_singleton] at hx; subst hx; exact hs.grown g hat
/-- What Columns gives. -/
def ColsOk (L : List (List Val3)) (W : Int) : Prop := (1 ≤ W ∧ W ≤ 6) ∧ ∀ r ∈ L, (r.length : Int) = W
def ColsP (L : List (List Val3)) (W : Int) (w : World) (e : Ending) (w' : World) : Prop :=
  (ColsOk L W ∧ ∃ (g : Nat) (zs : List SlV), e = .returned (.tuple #[.slice (some ⟨g, 0, none⟩) zs.length zs.length, .bool true]) ∧ (zs.length : Int) = W ∧ zs.map (·.l) = colsT L zs.length ∧ RowsAt w' (some ⟨g, 0, none⟩) zs ∧ Later w w' ∧ w.heap.size ≤ g ∧ (∀ s ∈ zs, ∀ b off, s.a = some ⟨b, off, none⟩ → w.heap.size ≤ b) ∧ (∃ B, w.heap.size ≤ B ∧ ColsOn B w' (some ⟨g, 0, none⟩) zs.length zs.length zs)) ∨
  (¬ ColsOk L W ∧ e = .returned (.tuple #[.slice none 0 0, .bool false]) ∧ Later w w')
theorem ColsP.yesX {L : List (List Val3)} {W : Int} {w w' : World} {e : Ending} (h : ColsP L W w e w') (hk : ColsOk L W) :
    ∃ (g : Nat) (zs : List SlV), e = .returned (.tuple #[.slice (some ⟨g, 0, none⟩) zs.length zs.length, .bool true]) ∧ (zs.length : Int) = W ∧ zs.map (·.l) = colsT L zs.length ∧ RowsAt w' (some ⟨g, 0, none⟩) zs ∧ Later w w' ∧ w.heap.size ≤ g ∧ ∀ s ∈ zs, ∀ b off, s.a = some ⟨b, off, none⟩ → w.heap.size ≤ b := by
  rcases h with ⟨_, g, zs, h1, h2, h3, h4, h5, h6, h7, _⟩ | ⟨h, _⟩
  · exact ⟨g, zs, h1, h2, h3, h4, h5, h6, h7⟩
  · exact absurd hk h
theorem ColsP.yesO {L : List (List Val3)} {W : Int} {w w' : World} {e : Ending} (h : ColsP L W w e w') (hk : ColsOk L W) :
    ∃ (g : Nat) (zs : List SlV), e = .returned (.tuple #[.slice (some ⟨g, 0, none⟩) zs.length zs.length, .bool true]) ∧ (zs.length : Int) = W ∧ zs.map (·.l) = colsT L zs.length ∧ RowsAt w' (some ⟨g, 0, none⟩) zs ∧ Later w w' ∧ w.heap.size ≤ g ∧ (∀ s ∈ zs, ∀ b off, s.a = some ⟨b, off, none⟩ → w.heap.size ≤ b) ∧ (∃ B, w.heap.size ≤ B ∧ ColsOn B w' (some ⟨g, 0, none⟩) zs.length zs.length zs) := by
  rcases h with ⟨_, h⟩ | ⟨h, _⟩
  · exact h
  · exact absurd hk h
theorem ColsP.yes {L : List (List Val3)} {W : Int} {w w' : World} {e : Ending} (h : ColsP L W w e w') (hk : ColsOk L W) :
    ∃ (g : Nat) (zs : List SlV), e = .returned (.tuple #[.slice (some ⟨g, 0, none⟩) zs.length zs.length, .bool true]) ∧ (zs.length : Int) = W ∧ zs.map (·.l) = colsT L zs.length ∧ RowsAt w' (some ⟨g, 0, none⟩) zs ∧ Later w w' := by
  obtain ⟨g, zs, h1, h2, h3, h4, h5, _⟩ := h.yesX hk
  exact ⟨g, zs, h1, h2, h3, h4, h5⟩
theorem ColsP.no {L : List (List Val3)} {W : Int} {w w' : World} {e : Ending} (h : ColsP L W w e w') (hk : ¬ ColsOk L W) : e = .returned (.tuple #[.slice none 0 0, .bool false]) ∧ Later w w' := by
  rcases h with ⟨h, _⟩ | ⟨_, h⟩
  · exact absurd h hk
  · exact h
theorem Tab.on {w : World} {g : Nat} {ss : List SlG} {zs : List SlV} (ht : Tab 37 40 3 w g ss) (h3 : RowsAt w (some ⟨g, 0, none⟩) zs) (h4 : ∀ s ∈ zs, ∀ b off, s.a = some ⟨b, off, none⟩ → g < b) (h5 : zs.map SlV.v = ss.map SlG.v) (hm : zs.length ≤ maxLen) : ColsOn g w (some ⟨g, 0, none⟩) zs.length zs.length zs := by
  refine ⟨rfl, Blk.ownG (by rw [h5]; exact ht.blk) (Nat.le_refl _) (by simp) hm, fun s hs => ?_, fun h => by cases h⟩
  obtain ⟨h6, h7⟩ := h3.2 s hs
  refine ⟨?_, h7⟩
  rcases h6 with h | ⟨b, off, hA, hb, _, hc⟩
  · exact .inl h
  · exact .inr ⟨b, off, hA, hb, (fun e => by have h8 := h4 s hs b off hA; have e : some b = some g := e; injection e with e; omega), hc⟩
theorem ColsP.mk {L : List (List Val3)} {W : Nat} {w w' : World} {g : Nat} {ss : List SlG} (hk : ColsOk L W) (h : TabC L W (fun _ => L.length) ss) (ht : Tab 37 40 3 w' g ss) (l : Later w w') (hg : w.heap.size ≤ g) :
    ColsP L W w (.returned (.tuple #[.slice (some ⟨g, 0, none⟩) W W, .bool true])) w' := by
  obtain ⟨zs, h1, h2, h3, h4, h5⟩ := h.rows ht
  exact .inl ⟨hk, g, zs, by rw [h1], by rw [h1], by rw [h1]; exact h2, h3, l, hg, (fun s hs b off hb => Nat.le_of_lt (Nat.lt_of_le_of_lt hg (h4 s hs b off hb))), _, hg, Tab.on ht h3 h4 h5 (by have := hk.1; unfold maxLen; omega)⟩
end Go.Proofs.YtiacemlloaenoaaDoor
