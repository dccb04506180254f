/- Slices of deeds of law 19 that came in; lists of extents. -/
import Derived.Test.YtnmldploafpbdaaDoorSpaceS
import Derived.Test.YtnmldploafpbdaaDoorSpaceBeg
namespace Go.Proofs.YtnmldploafpbdaaDoor
open Go.RowKit
set_option linter.unusedVariables false

abbrev Deed4 := Int × Int × Int × Int
def In64z (x : Int) : Prop := -9223372036854775808 ≤ x ∧ x ≤ 9223372036854775807
/-- A slice of deeds. -/
def IsDeeds (w : World) (a : Option Addr) (len cap : Nat) (l : List Deed4) : Prop :=
  l.length = len ∧ (∀ i, (hi : i < l.length) → ∃ b off, a = some ⟨b, off, none⟩ ∧ CellIs w ⟨b, off + i * 4, none⟩ (.int .i64 l[i].1) ∧ CellIs w ⟨b, off + i * 4 + 1, none⟩ (.int .i64 l[i].2.1) ∧ CellIs w ⟨b, off + i * 4 + 2, none⟩ (.int .i64 l[i].2.2.1) ∧ CellIs w ⟨b, off + i * 4 + 3, none⟩ (.int .i64 l[i].2.2.2)) ∧
  ∀ x ∈ l, In64z x.1 ∧ In64z x.2.1 ∧ In64z x.2.2.1 ∧ In64z x.2.2.2
theorem IsDeeds.later {w w' : World} {a : Option Addr} {len cap : Nat} {l : List Deed4} (h : IsDeeds w a len cap l) (k : Later w w') : IsDeeds w' a len cap l := by
  refine ⟨h.1, fun i hi => ?_, h.2.2⟩
  obtain ⟨b, off, h1, h2, h3, h4, h5⟩ := h.2.1 i hi
  exact ⟨b, off, h1, h2.later k, h3.later k, h4.later k, h5.later k⟩
theorem open_deeds {P : Program} {H : Type} {enc : TypeId × Value → H} {w : World} {t e : TypeId} {f0 f1 f2 e0 e1 : Field} {fuel : Nat} {a : Option Addr} {len cap : Nat} {x : DataW H × List MemPlace} (ht : P.underlying t = some (.slice e)) (he : P.underlying e = some (.struct #[f0, f1, f2])) (ce : P.cellsOf e = 4)
    (o0 : f0.offset = 0) (o1 : f1.offset = 1) (o2 : f2.offset = 2) (c0 : P.cellsOf f0.type = 1) (c1 : P.cellsOf f1.type = 1) (c2 : P.cellsOf f2.type = 2)
    (u0 : P.underlying f0.type = some (.int .i64)) (u1 : P.underlying f1.type = some (.int .i64)) (u2 : P.underlying f2.type = some (.struct #[e0, e1]))
    (p0 : e0.offset = 0) (p1 : e1.offset = 1) (d0 : P.cellsOf e0.type = 1) (d1 : P.cellsOf e1.type = 1) (v0 : P.underlying e0.type = some (.int .i64)) (v1 : P.underlying e1.type = some (.int .i64))
    (h : DataW.trod enc P w 0 (fun _ => true) true fuel t (Value.slice a len cap).cells.toList = some x) : ∃ l, IsDeeds w a len cap l := by
  have w64 : ∀ n : Int, (Lit.int .i64 n).wf = true → In64z n := wf_i64
  rcases Deep.open_slice ht h with ⟨hcs, _⟩ | ⟨a', len', cap', m, n, D, Pl, hcs, _, hl, hm, hmm, _, hx⟩
  · simp [Value.cells] at hcs
    obtain ⟨rfl, rfl, rfl⟩ := hcs
    exact ⟨[], rfl, fun i hi => absurd hi (Nat.not_lt_zero _), (fun x hx => by cases hx)⟩
  · simp [Value.cells] at hcs
    obtain ⟨rfl, rfl, rfl⟩ := hcs
    simp only [if_true] at hmm
    subst hmm
    have each : ∀ i, i < m → ∃ q : Deed4, w.cell? (a'.add (i * 4)) = some (.int .i64 q.1) ∧ w.cell? (a'.add (i * 4 + 1)) = some (.int .i64 q.2.1) ∧ w.cell? (a'.add (i * 4 + 2)) = some (.int .i64 q.2.2.1) ∧ w.cell? (a'.add (i * 4 + 3)) = some (.int .i64 q.2.2.2) ∧ In64z q.1 ∧ In64z q.2.1 ∧ In64z q.2.2.1 ∧ In64z q.2.2.2 := by
      intro i hi
      obtain ⟨cs', h1, h2⟩ := hx i hi
      rw [ce] at h1
      obtain ⟨_, hlen, hcell⟩ := World.cells?_some h1
      obtain ⟨xs, k, hk, hxy, _, hxl, hf⟩ := DataW.trod_struct he h2
      match xs, hxl, cs', hlen with
      | [y0, y1, y2], _, [v0', v1', v2', v3'], _ =>
        have g0 := hf 0 f0 rfl
        have g1 := hf 1 f1 rfl
        have g2 := hf 2 f2 rfl
        simp [o0, o1, o2, c0, c1, c2] at g0 g1 g2
        obtain ⟨z0, hz0, _, hw0⟩ := DataW.trod_int u0 g0
        obtain ⟨z1, hz1, _, hw1⟩ := DataW.trod_int u1 g1
        obtain ⟨ys, k2, _, _, _, hyl, hg⟩ := DataW.trod_struct u2 g2
        match ys, hyl with
        | [r0, r1], _ =>
          have g3 := hg 0 e0 rfl
          have g4 := hg 1 e1 rfl
          simp [p0, p1, d0, d1] at g3 g4
          obtain ⟨z2, hz2, _, hw2⟩ := DataW.trod_int v0 g3
          obtain ⟨z3, hz3, _, hw3⟩ := DataW.trod_int v1 g4
          have e0 := hcell 0 (by omega)
          have e1 := hcell 1 (by omega)
          have e2 := hcell 2 (by omega)
          have e3 := hcell 3 (by omega)
          rw [Deep.add_add] at e0 e1 e2 e3
          have v0e : v0' = .int .i64 z0 := by simpa using hz0
          have v1e : v1' = .int .i64 z1 := by simpa using hz1
          have v2e : v2' = .int .i64 z2 := by simpa using hz2
          have v3e : v3' = .int .i64 z3 := by simpa using hz3
          refine ⟨(z0, z1, z2, z3), ?_, ?_, ?_, ?_, w64 _ hw0, w64 _ hw1, w64 _ hw2, w64 _ hw3⟩
          · simpa [v0e] using e0
          · simpa [v1e] using e1
          · simpa [v2e] using e2
          · simpa [v3e] using e3
    obtain ⟨q, hq⟩ := Deep.choose_lt each
    refine ⟨(List.range len).map q, by simp, ?_, ?_⟩
    · intro i hi
      have hi' : i < len := by simpa using hi
      obtain ⟨b, off, spot⟩ := a'
      obtain ⟨q0, q1, q2, q3, _⟩ := hq i (by omega)
      have hspot : spot = none := by simpa [Addr.add] using World.cell?_spot (hq 0 (by omega)).1
      subst hspot
      rw [add_plain] at q0 q1 q2 q3
      refine ⟨b, off, rfl, ?_, ?_, ?_, ?_⟩ <;> unfold CellIs
      · simpa using q0
      · simpa [Nat.add_assoc] using q1
      · simpa [Nat.add_assoc] using q2
      · simpa [Nat.add_assoc] using q3
    · intro x hx
      obtain ⟨i, hi, rfl⟩ := List.mem_map.1 hx
      exact (hq i (by have := List.mem_range.1 hi; omega)).2.2.2.2

theorem and63 (x : Int) : ∃ r : Nat, r ≤ 63 ∧ bits .and .i64 x 63 = (r : Int) := by
  refine ⟨((BitVec.ofInt 64 x) &&& (BitVec.ofInt 64 63)).toNat, ?_, ?_⟩
  · rw [BitVec.toNat_and]; exact Nat.and_le_right
  · have h : ((BitVec.ofInt 64 x) &&& (BitVec.ofInt 64 63)).toNat ≤ 63 := by rw [BitVec.toNat_and]; exact Nat.and_le_right
    show IntKind.i64.wrap (((BitVec.ofInt 64 x) &&& (BitVec.ofInt 64 63)).toNat : Int) = _
    rw [IntWalk.i64_in _ ⟨by omega, by omega⟩]

/-- Extents as cells. -/
def fl2 (l : List (Int × Int)) : List Value := l.flatMap fun x => [.int .i64 x.1, .int .i64 x.2]
theorem fl2_length (l : List (Int × Int)) : (fl2 l).length = l.length * 2 := by
  induction l with
  | nil => rfl
  | cons x t ih => simp [fl2] at ih ⊢; omega
theorem fl2_snoc (l : List (Int × Int)) (x : Int × Int) : fl2 (l ++ [x]) = fl2 l ++ [.int .i64 x.1, .int .i64 x.2] := by simp [fl2]
theorem fl2_get : ∀ (l : List (Int × Int)) (i : Nat) (h : i < l.length), (fl2 l)[i * 2]? = some (.int .i64 l[i].1) ∧ (fl2 l)[i * 2 + 1]? = some (.int .i64 l[i].2)
  | x :: t, 0, _ => ⟨rfl, rfl⟩
  | x :: t, i + 1, h => by
    have := fl2_get t i (by simpa using h)
    have e1 : fl2 (x :: t) = .int .i64 x.1 :: .int .i64 x.2 :: fl2 t := rfl
    rw [e1, show (i + 1) * 2 = i * 2 + 1 + 1 by omega]
    simpa using this
theorem fl2_one (l : List (Int × Int)) : ∀ u ∈ fl2 l, u.oneCell' = true := by
  intro u hu
  obtain ⟨x, _, hx⟩ := List.mem_flatMap.1 hu
  simp at hx
  rcases hx with rfl | rfl <;> rfl

theorem own_grown {w w' : World} {base : Nat} {e : TypeId} {k : Nat} {v : Value} {n : Nat} {xs : List Value} {g : Nat} (h : w.ownsRow base e k v n xs) (hg : w.grownBy w' (some g)) {cs : Array Value} {t : TypeId} (hb : w.heap[g]? = some (.cells cs t (0, 0))) (hne : t ≠ e) : w'.ownsRow base e k v n xs := by
  obtain ⟨h1, h2⟩ := h
  refine ⟨h1, ?_⟩
  rcases h2 with h2 | ⟨g', cap, cur, ha, hb', hg', hrest⟩
  · exact .inl h2
  · refine .inr ⟨g', cap, cur, ha, hb', (hg.block g' (Array.getElem?_eq_some_iff.1 hg').1 ?_).trans hg', hrest⟩
    intro h
    injection h with h
    subst h
    rw [hb] at hg'
    injection hg' with hg'
    injection hg' with _ hg' _
    exact hne hg'
theorem own_only {w w' : World} {base : Nat} {e : TypeId} {k : Nat} {v : Value} {n : Nat} {xs : List Value} {g : Nat} {g' c : Nat} (hv : v = .slice (some ⟨g', 0, none⟩) n c) (h : w.ownsRow base e k v n xs) (hg : w.grownBy w' (some g)) (hne : g' ≠ g) : w'.ownsRow base e k v n xs := by
  obtain ⟨h1, h2⟩ := h
  refine ⟨h1, ?_⟩
  rcases h2 with h2 | ⟨g2, cap, cur, ha, hb', hg', hrest⟩
  · exact .inl h2
  · refine .inr ⟨g2, cap, cur, ha, hb', (hg.block g2 (Array.getElem?_eq_some_iff.1 hg').1 ?_).trans hg', hrest⟩
    intro h
    injection h with h
    subst hv
    injection ha with ha
    injection ha with ha
    injection ha with ha
    omega
theorem own_blk {w : World} {base : Nat} {e : TypeId} {k n g c : Nat} {xs : List Value} (h : w.ownsRow base e k (.slice (some ⟨g, 0, none⟩) n c) n xs) : ∃ cs, w.heap[g]? = some (.cells cs e (0, 0)) := by
  rcases h.2 with ⟨h2, _⟩ | ⟨g2, cap, cur, ha, hb', hg', hrest⟩
  · cases h2
  · injection ha with ha
    injection ha with ha
    injection ha with ha
    subst ha
    exact ⟨_, hg'⟩
theorem Spc.grown {w w' : World} {p g c x : Nat} {f : Int} {l : List Bool} (h : Spc w p f l g c) (hg : w.grownBy w' (some x)) (h1 : g ≠ x) {cs : Array Value} (hb : w.heap[x]? = some (.cells cs 4 (0, 0))) : Spc w' p f l g c := by
  refine ⟨h.1.grown hg ?_, h.2.1, own_only rfl h.2.2 hg h1⟩
  intro e
  injection e with e
  subst e
  have := h.1
  unfold Blk at this
  rw [this] at hb
  injection hb with hb
  injection hb with _ hb _
  exact absurd hb (by decide)
theorem Spr.grown {w w' : World} {p g c x : Nat} {f : Int} {l : List Bool} (h : Spr w p f l g c) (hg : w.grownBy w' (some x)) (h1 : g ≠ x) {cs : Array Value} (hb : w.heap[x]? = some (.cells cs 4 (0, 0))) : Spr w' p f l g c := by
  refine ⟨h.1.grown hg ?_, h.2.1, own_only rfl h.2.2 hg h1⟩
  intro e
  injection e with e
  subst e
  have := h.1
  unfold Blk at this
  rw [this] at hb
  injection hb with hb
  injection hb with _ hb _
  exact absurd hb (by decide)
end Go.Proofs.YtnmldploafpbdaaDoor
