/- Walks of package rabbetplay: Made, Num, Over. Worlds in which one block has turned. -/
import Derived.Test.YtfcedbhmbcbiaaaGreatDoorCell
import Derived.BigQuiet
namespace Go.Proofs.YtfcedbhmbcbiaaaGreatDoor
open Go.RowKit
set_option linter.unusedVariables false

/-- Of w only block g has turned. -/
def Far (g : Nat) (w w' : World) : Prop := g < w.heap.size ∧ Below g w w' ∧ ∀ k, k < w.heap.size → k ≠ g → w'.heap[k]? = w.heap[k]?
section
variable {g : Nat} {w w' w'' : World}
theorem Far.refl (h : g < w.heap.size) : Far g w w := ⟨h, Below.refl _ _, fun _ _ _ => rfl⟩
theorem Far.size (h : Far g w w') : w.heap.size ≤ w'.heap.size := Below.size h.2.1
theorem Far.lt (h : Far g w w') : g < w'.heap.size := Nat.lt_of_lt_of_le h.1 h.size
theorem Far.trans (h : Far g w w') (k : Far g w' w'') : Far g w w'' :=
  ⟨h.1, Below.trans h.2.1 k.2.1, fun j hj hne => (k.2.2 j (Nat.lt_of_lt_of_le hj h.size) hne).trans (h.2.2 j hj hne)⟩
theorem Far.of (hg : g < w.heap.size) (l : Later w w') : Far g w w' :=
  ⟨hg, Below.mono l.below (Nat.le_of_lt hg), fun j hj _ => Below.block l j hj⟩
theorem Far.later (h : Far g w w') (l : Later w' w'') : Far g w w'' := h.trans (Far.of h.lt l)
theorem Far.set_own (hg : g < w.heap.size) (k : Nat) (v : Value) : Far g w (w.setCell ⟨g, k, none⟩ v) :=
  ⟨hg, Below.setCell (p := ⟨g, k, none⟩) (Below.refl _ _) (Nat.le_refl g) _, fun j _ hne => Below.heap_setCell w ⟨g, k, none⟩ v j hne⟩
theorem Far.set_new (h : Far g w w') {p : Addr} (hp : w.heap.size ≤ p.block) (v : Value) : Far g w (w'.setCell p v) :=
  ⟨h.1, Below.setCell h.2.1 (Nat.le_trans (Nat.le_of_lt h.1) hp) _, fun j hj hne => (Below.heap_setCell w' p v j (by omega)).trans (h.2.2 j hj hne)⟩
theorem Far.blk (h : Far g w w') {k : Nat} {cs : Array Value} {t : TypeId} (b : Blk w k cs t) (hne : k ≠ g) : Blk w' k cs t := (h.2.2 k b.lt hne).trans b
theorem Far.rd (h : Far g w w') {A : Option Addr} {xs : List Value} (r : Rd w g A xs) : Rd w' g A xs := Rd.below r h.2.1
theorem Far.own (h : Far g w w') {base : Nat} {e : TypeId} {k : Nat} {v : Value} {n : Nat} {xs : List Value} (hb : g < base) (o : w.ownsRow base e k v n xs) : w'.ownsRow base e k v n xs := by
  obtain ⟨h1, h2⟩ := o
  refine ⟨h1, ?_⟩
  rcases h2 with h2 | ⟨j, cap, cur, ha, hj, hg, hrest⟩
  · exact .inl h2
  · refine .inr ⟨j, cap, cur, ha, hj, (h.2.2 j ?_ (by omega)).trans hg, hrest⟩
    rcases Nat.lt_or_ge j w.heap.size with h' | h'
    · exact h'
    · rw [Array.getElem?_eq_none h'] at hg; cases hg
theorem Far.out (h : Far g w' w'') (hg : g = w.heap.size) (l : Later w w') : Later w w'' := by
  subst hg; exact Later.of (Below.trans l.below h.2.1)
end
/-- The picks: where they lie, how many of them are behind us. -/
abbrev Pk (w : World) (g : Nat) (A : Option Addr) (n c k : Nat) : Prop := Blk w g #[.slice A n c, .int .i64 (k : Int)] 61

theorem made_any (A : Option Addr) (n c : Nat) (w : World) : Calls Tryz.prog 14 #[.slice A n c] w fun e w' => e = .returned (.pointer (some ⟨w.heap.size, 0, none⟩)) ∧ w.alloc (.cells #[.slice A n c, .int .i64 0] 61) = w' := by
  go_enter Tryz.func14, Tryz.ntmps14
  go_wp2_with fail
  go_ret
  exact ⟨rfl, rfl⟩

theorem over_any (g : Nat) (A : Option Addr) (n c k : Nat) (w : World) (h : Pk w g A n c k) (hn : n ≤ 1000) (hk : k ≤ n) :
    Calls Tryz.prog 30 #[.pointer (some ⟨g, 0, none⟩)] w fun e w' => e = .returned (.bool (decide (n ≤ k))) ∧ Later w w' := by
  have c0 := h.cell 0 _ rfl
  have c1 := h.cell 1 _ rfl
  have hd : decide ((n : Int) ≤ (k : Int)) = decide (n ≤ k) := by simp
  clear h
  go_enter Tryz.func30, Tryz.ntmps30
  go_wp2_with fail
  go_quiet (fail)
  go_wp2_with fail
  go_ret
  exact ⟨rfl, (Later.refl _).drewN _⟩

set_option maxRecDepth 100000 in
theorem num9_any (g : Nat) (A : Option Addr) (n c k : Nat) (bs : List Nat) (w : World) (h : Pk w g A n c k) (hn : n ≤ 1000) (hk : k ≤ n) (hb : bs.length = n) (hr : Rd w g A (ints .u8 bs)) (h256 : ∀ x ∈ bs, x < 256) :
    Calls Tryz.prog 29 #[.pointer (some ⟨g, 0, none⟩), .int .i64 9] w fun e w' => ∃ r k' : Nat, r < 9 ∧ k' ≤ n ∧ e = .returned (.int .i64 r) ∧ Pk w' g A n c k' ∧ Far g w w' := by
  have c0 := h.cell 0 _ rfl
  have c1 := h.cell 1 _ rfl
  have f1 := h.frozen 1
  by_cases hlt : k < n
  · have h2 := h.set_ 1 (.int .i64 ((k + 1 : Nat) : Int))
    have HH := Lib.hid h
    have HLT := Lib.hid h.lt
    obtain ⟨bb, off, rfl, hbb, hc⟩ := hr.at_ (k := k) (by rw [ints_length]; omega)
    simp only [ints, List.getElem_map] at hc
    have hx := h256 _ (List.getElem_mem (by omega : k < bs.length))
    generalize bs[k] = x at hc hx
    have hne : bb ≠ g := by omega
    have hne2 : g ≠ bb := by omega
    have hm : (x : Int) % 9 = ((x % 9 : Nat) : Int) := by omega
    clear h hr h256 hb
    go_enter Tryz.func29, Tryz.ntmps29
    go_wp2_with fail
    go_quiet (fail)
    go_wp2_with fail
    obtain ⟨w2, hw2⟩ : ∃ w2, w2 = (w.drewN nq).setCell ⟨g, 1, none⟩ (.int .i64 ((k : Int) + 1)) := ⟨_, rfl⟩
    have B2 : Blk w2 g #[.slice (some ⟨bb, off, none⟩) n c, .int .i64 ((k : Int) + 1)] 61 := by rw [hw2]; exact (Blk.set_ (w := w.drewN nq) HH.out 1 _)
    have F2 : Far g w w2 := by rw [hw2]; exact (Far.of (w := w) (w' := w.drewN nq) HLT.out ((Later.refl w).drewN nq)).trans (Far.set_own (w := w.drewN nq) HLT.out 1 _)
    have hc2 : w2.cell? ⟨bb, off + k, none⟩ = some (.int .u8 (x : Int)) := (Below.cell F2.2.1 hbb).trans hc
    rw [← hw2]
    have e0 : w2.cell? ⟨g, 0, none⟩ = some (.slice (some ⟨bb, off, none⟩) n c) := B2.cell 0 _ rfl
    have e1 : w2.cell? ⟨g, 1, none⟩ = some (.int .i64 ((k : Int) + 1)) := B2.cell 1 _ rfl
    have hkk : (k : Int) + 1 - 1 = (k : Int) := by omega
    clear hw2 c0 c1 hc f1
    go_quiet (fail)
    go_wp2_with fail
    go_ret
    refine ⟨x % 9, k + 1, by omega, hlt, by rw [← hm]; rfl, ?_, F2.later ((Later.refl _).drewN _)⟩
    unfold Pk
    rw [show ((k + 1 : Nat) : Int) = (k : Int) + 1 by omega]
    exact B2
  · have F := Lib.hid (Far.refl h.lt)
    have HB := Lib.hid h
    clear h hr h256 hb
    go_enter Tryz.func29, Tryz.ntmps29
    go_wp2_with fail
    go_quiet (fail)
    go_wp2_with fail
    go_ret
    exact ⟨0, k, by omega, hk, rfl, HB.out, F.out.later ((Later.refl _).drewN _)⟩
end Go.Proofs.YtfcedbhmbcbiaaaGreatDoor
