/- Slices of slices of bytes, and law 21's deeds, that came in. -/
import Derived.Test.YtfplppldojlanaaDoorLogD
namespace Go.Proofs.YtfplppldojlanaaDoor
open Go.RowKit
set_option linter.unusedVariables false

instance : Inhabited SlB := ⟨⟨none, 0, []⟩⟩
/-- A slice of bytes that came in. -/
def SlB.okB (s : SlB) (w : World) : Prop := (∀ x ∈ s.l, x < 256) ∧ Has w s.a (ints .u8 s.l) ∧ (s.a = none → s.c = 0) ∧ s.l.length ≤ s.c ∧ s.c ≤ 9223372036854775807
theorem SlB.okB.later {w w' : World} {s : SlB} (h : s.okB w) (k : Later w w') : s.okB w' := ⟨h.1, h.2.1.later k, h.2.2⟩
/-- A slice of slices of bytes that came in. -/
def IsBts (w : World) (a : Option Addr) (len cap : Nat) (ss : List SlB) : Prop :=
  ss.length = len ∧ Has w a (ss.map SlB.v) ∧ (∀ s ∈ ss, s.okB w) ∧ (a = none → cap = 0) ∧ len ≤ cap ∧ cap ≤ maxLen
theorem IsBts.later {w w' : World} {a : Option Addr} {len cap : Nat} {ss : List SlB} (h : IsBts w a len cap ss) (k : Later w w') : IsBts w' a len cap ss := ⟨h.1, h.2.1.later k, fun s hs => (h.2.2.1 s hs).later k, h.2.2.2⟩
/-- A deed. -/
structure DeedL where
  k : Int
  b : SlB
  la : Option Addr
  lc : Nat
  l : List SlB
  keep : SlB
  torn : Int
  at_ : Int
instance : Inhabited DeedL := ⟨⟨0, ⟨none, 0, []⟩, none, 0, [], ⟨none, 0, []⟩, 0, 0⟩⟩
def In64 (x : Int) : Prop := -9223372036854775808 ≤ x ∧ x ≤ 9223372036854775807
def DeedL.ok (d : DeedL) (w : World) : Prop := In64 d.k ∧ In64 d.torn ∧ In64 d.at_ ∧ d.b.okB w ∧ d.keep.okB w ∧ IsBts w d.la d.l.length d.lc d.l
theorem DeedL.ok.later {w w' : World} {d : DeedL} (h : d.ok w) (k : Later w w') : d.ok w' := ⟨h.1, h.2.1, h.2.2.1, h.2.2.2.1.later k, h.2.2.2.2.1.later k, h.2.2.2.2.2.later k⟩
/-- A deed's cells. -/
def DeedLAt (w : World) (b o : Nat) (d : DeedL) : Prop :=
  CellIs w ⟨b, o, none⟩ (.int .i64 d.k) ∧ CellIs w ⟨b, o + 1, none⟩ d.b.v ∧ CellIs w ⟨b, o + 2, none⟩ (.slice d.la d.l.length d.lc) ∧ CellIs w ⟨b, o + 3, none⟩ d.keep.v ∧ CellIs w ⟨b, o + 4, none⟩ (.int .i64 d.torn) ∧ CellIs w ⟨b, o + 5, none⟩ (.int .i64 d.at_)
theorem DeedLAt.later {w w' : World} {b o : Nat} {d : DeedL} (h : DeedLAt w b o d) (k : Later w w') : DeedLAt w' b o d :=
  ⟨h.1.later k, h.2.1.later k, h.2.2.1.later k, h.2.2.2.1.later k, h.2.2.2.2.1.later k, h.2.2.2.2.2.later k⟩
def IsDeedsL (w : World) (a : Option Addr) (len cap : Nat) (l : List DeedL) : Prop :=
  l.length = len ∧ (∀ i, (hi : i < l.length) → ∃ b off, a = some ⟨b, off, none⟩ ∧ DeedLAt w b (off + i * 6) l[i]) ∧ (∀ x ∈ l, x.ok w) ∧ len ≤ 9223372036854775807
theorem IsDeedsL.later {w w' : World} {a : Option Addr} {len cap : Nat} {l : List DeedL} (h : IsDeedsL w a len cap l) (k : Later w w') : IsDeedsL w' a len cap l := by
  refine ⟨h.1, fun i hi => ?_, fun x hx => (h.2.2.1 x hx).later k, h.2.2.2⟩
  obtain ⟨b, off, h1, h2⟩ := h.2.1 i hi
  exact ⟨b, off, h1, h2.later k⟩
section
variable {P : Program} {H : Type} {enc : TypeId × Value → H} {w : World}
theorem open_bs1 {t e : TypeId} {fuel : Nat} {v : Value} {x : DataW H × List MemPlace} (ht : P.underlying t = some (.slice e)) (he : P.underlying e = some (.int .u8)) (ce : P.cellsOf e = 1)
    (h : DataW.trod enc P w 0 (fun _ => true) true fuel t [v] = some x) : ∃ s : SlB, v = s.v ∧ s.okB w := by
  rcases Go.ChangeShapes.open_ints ht he ce h with ⟨hcs, _⟩ | ⟨a, n, c, zs, hcs, _, hl, hm, hz, _, hcell, hwz⟩
  · injection hcs with hcs _
    subst hcs
    exact ⟨⟨none, 0, []⟩, rfl, (fun x hx => by cases hx), .inl rfl, (fun _ => rfl), Nat.le_refl _, by decide⟩
  · injection hcs with hcs _
    subst hcs
    have hd : (some a = none ∧ n = 0 ∧ c = 0 ∧ zs = []) ∨ ∃ x, some a = some x ∧ n ≤ c ∧ c ≤ maxLen ∧ zs.length = c ∧ (∀ i, i < zs.length → w.cell? (x.add i) = some (.int .u8 (zs.getD i 0))) ∧ ∀ n ∈ zs, (Lit.int .u8 n).wf = true := .inr ⟨a, rfl, hl, hm, by simpa using hz, hcell, hwz⟩
    obtain ⟨l, h1, h2, h3, h4, h5⟩ := of_row wf_u8 hd
    subst h1
    exact ⟨⟨some a, c, l⟩, rfl, h2, h3, (fun h => by cases h), h4, by unfold maxLen at h5; exact h5⟩
theorem open_bts {t er e : TypeId} {fuel : Nat} {a : Option Addr} {len cap : Nat} {x : DataW H × List MemPlace} (ht : P.underlying t = some (.slice er)) (hr : P.underlying er = some (.slice e)) (cr : P.cellsOf er = 1) (he : P.underlying e = some (.int .u8)) (ce : P.cellsOf e = 1)
    (h : DataW.trod enc P w 0 (fun _ => true) true fuel t [Value.slice a len cap] = some x) : ∃ l, IsBts w a len cap l := by
  rcases Deep.open_slice ht h with ⟨hcs, _⟩ | ⟨a', len', cap', m, n, D, Pl, hcs, _, hl, hm, hmm, _, hx⟩
  · simp at hcs
    obtain ⟨rfl, rfl, rfl⟩ := hcs
    exact ⟨[], rfl, .inl rfl, (fun s hs => by cases hs), fun _ => rfl, Nat.le_refl _, by decide⟩
  · simp at hcs
    obtain ⟨rfl, rfl, rfl⟩ := hcs
    simp only [if_true] at hmm
    subst hmm
    have each : ∀ i, i < m → ∃ q : SlB, w.cell? (a'.add i) = some q.v ∧ q.okB w := by
      intro i hi
      obtain ⟨cs', h1, h2⟩ := hx i hi
      rw [cr] at h1
      obtain ⟨_, hlen, hcell⟩ := World.cells?_some h1
      match cs', hlen with
      | [v0], _ =>
        obtain ⟨s, hs, ok⟩ := open_bs1 hr he ce h2
        have e0 := hcell 0 (by omega)
        rw [Deep.add_add] at e0
        refine ⟨s, ?_, ok⟩
        subst hs
        simpa using e0
    obtain ⟨q, hq⟩ := Deep.choose_lt each
    refine ⟨(List.range len).map q, by simp, ?_, ?_, (fun h => by cases h), hl, hm⟩
    · by_cases h0 : len = 0
      · subst h0; exact .inl rfl
      · obtain ⟨b, off, spot⟩ := a'
        have hspot : spot = none := by simpa [Addr.add] using World.cell?_spot (hq 0 (by omega)).1
        subst hspot
        refine .inr ⟨b, off, rfl, block_lt_of_cell (hq 0 (by omega)).1, fun k v hv => ?_⟩
        have hk : k < len := by
          have := (List.getElem?_eq_some_iff.1 hv).1
          simpa using this
        have := (hq k (by omega)).1
        rw [add_plain] at this
        rw [this, ← hv]
        simp [hk]
    · intro s hs
      obtain ⟨i, hi, rfl⟩ := List.mem_map.1 hs
      exact (hq i (by have := List.mem_range.1 hi; omega)).2
theorem open_bts1 {t er e : TypeId} {fuel : Nat} {v : Value} {x : DataW H × List MemPlace} (ht : P.underlying t = some (.slice er)) (hr : P.underlying er = some (.slice e)) (cr : P.cellsOf er = 1) (he : P.underlying e = some (.int .u8)) (ce : P.cellsOf e = 1)
    (h : DataW.trod enc P w 0 (fun _ => true) true fuel t [v] = some x) : ∃ (a : Option Addr) (c : Nat) (l : List SlB), v = .slice a l.length c ∧ IsBts w a l.length c l := by
  have key : ∀ (a : Option Addr) (n c : Nat), v = .slice a n c → ∃ (a : Option Addr) (c : Nat) (l : List SlB), v = .slice a l.length c ∧ IsBts w a l.length c l := fun a n c e => by
    subst e
    obtain ⟨l, hl⟩ := open_bts ht hr cr he ce h
    obtain rfl := hl.1
    exact ⟨a, c, l, rfl, hl⟩
  rcases Deep.open_slice ht h with ⟨hcs, _⟩ | ⟨a', len', cap', m, n, D, Pl, hcs, _⟩
  · injection hcs with hcs _
    exact key _ _ _ hcs
  · injection hcs with hcs _
    exact key _ _ _ hcs
theorem open_deedsL {t e eb el : TypeId} {f0 f1 f2 f3 f4 f5 : Field} {fuel : Nat} {a : Option Addr} {len cap : Nat} {x : DataW H × List MemPlace} (ht : P.underlying t = some (.slice e)) (he : P.underlying e = some (.struct #[f0, f1, f2, f3, f4, f5])) (ce : P.cellsOf e = 6)
    (o0 : f0.offset = 0) (o1 : f1.offset = 1) (o2 : f2.offset = 2) (o3 : f3.offset = 3) (o4 : f4.offset = 4) (o5 : f5.offset = 5)
    (c0 : P.cellsOf f0.type = 1) (c1 : P.cellsOf f1.type = 1) (c2 : P.cellsOf f2.type = 1) (c3 : P.cellsOf f3.type = 1) (c4 : P.cellsOf f4.type = 1) (c5 : P.cellsOf f5.type = 1)
    (u0 : P.underlying f0.type = some (.int .i64)) (u1 : P.underlying f1.type = some (.slice eb)) (u2 : P.underlying f2.type = some (.slice el)) (u3 : P.underlying f3.type = some (.slice eb)) (u4 : P.underlying f4.type = some (.int .i64)) (u5 : P.underlying f5.type = some (.int .i64))
    (ub : P.underlying eb = some (.int .u8)) (cb : P.cellsOf eb = 1) (ul : P.underlying el = some (.slice eb)) (cl : P.cellsOf el = 1)
    (h : DataW.trod enc P w 0 (fun _ => true) true fuel t (Value.slice a len cap).cells.toList = some x) : ∃ l, IsDeedsL w a len cap l := by
  have w64 : ∀ n : Int, (Lit.int .i64 n).wf = true → In64 n := wf_i64
  rcases Deep.open_slice ht h with ⟨hcs, _⟩ | ⟨a', len', cap', m, n, D, Pl, hcs, _, hl, hm, hmm, _, hx⟩
  · simp [Value.cells] at hcs
    obtain ⟨rfl, rfl, rfl⟩ := hcs
    exact ⟨[], rfl, fun i hi => absurd hi (Nat.not_lt_zero _), (fun x hx => by cases hx), by decide⟩
  · simp [Value.cells] at hcs
    obtain ⟨rfl, rfl, rfl⟩ := hcs
    simp only [if_true] at hmm
    subst hmm
    have each : ∀ i, i < m → ∃ q : DeedL, w.cell? (a'.add (i * 6)) = some (.int .i64 q.k) ∧ w.cell? (a'.add (i * 6 + 1)) = some q.b.v ∧ w.cell? (a'.add (i * 6 + 2)) = some (.slice q.la q.l.length q.lc) ∧ w.cell? (a'.add (i * 6 + 3)) = some q.keep.v ∧ w.cell? (a'.add (i * 6 + 4)) = some (.int .i64 q.torn) ∧ w.cell? (a'.add (i * 6 + 5)) = some (.int .i64 q.at_) ∧ q.ok w := by
      intro i hi
      obtain ⟨cs', h1, h2⟩ := hx i hi
      rw [ce] at h1
      obtain ⟨_, hlen, hcell⟩ := World.cells?_some h1
      obtain ⟨xs, k, hk, hxy, _, hxl, hf⟩ := DataW.trod_struct he h2
      match xs, hxl, cs', hlen with
      | [y0, y1, y2, y3, y4, y5], _, [v0', v1', v2', v3', v4', v5'], _ =>
        have g0 := hf 0 f0 rfl
        have g1 := hf 1 f1 rfl
        have g2 := hf 2 f2 rfl
        have g3 := hf 3 f3 rfl
        have g4 := hf 4 f4 rfl
        have g5 := hf 5 f5 rfl
        simp [o0, o1, o2, o3, o4, o5, c0, c1, c2, c3, c4, c5] at g0 g1 g2 g3 g4 g5
        obtain ⟨z0, hz0, _, hw0⟩ := DataW.trod_int u0 g0
        obtain ⟨s1, hs1, ok1⟩ := open_bs1 u1 ub cb g1
        obtain ⟨a2, c2', l2, hs2, ok2⟩ := open_bts1 u2 ul cl ub cb g2
        obtain ⟨s3, hs3, ok3⟩ := open_bs1 u3 ub cb g3
        obtain ⟨z4, hz4, _, hw4⟩ := DataW.trod_int u4 g4
        obtain ⟨z5, hz5, _, hw5⟩ := DataW.trod_int u5 g5
        have e0 := hcell 0 (by omega)
        have e1 := hcell 1 (by omega)
        have e2 := hcell 2 (by omega)
        have e3 := hcell 3 (by omega)
        have e4 := hcell 4 (by omega)
        have e5 := hcell 5 (by omega)
        rw [Deep.add_add] at e0 e1 e2 e3 e4 e5
        have v0e : v0' = .int .i64 z0 := by simpa using hz0
        have v4e : v4' = .int .i64 z4 := by simpa using hz4
        have v5e : v5' = .int .i64 z5 := by simpa using hz5
        refine ⟨⟨z0, s1, a2, c2', l2, s3, z4, z5⟩, ?_, ?_, ?_, ?_, ?_, ?_, w64 _ hw0, w64 _ hw4, w64 _ hw5, ok1, ok3, ok2⟩
        · simpa [v0e] using e0
        · simpa [hs1] using e1
        · simpa [hs2] using e2
        · simpa [hs3] using e3
        · simpa [v4e] using e4
        · simpa [v5e] using e5
    obtain ⟨q, hq⟩ := Deep.choose_lt each
    refine ⟨(List.range len).map q, by simp, ?_, ?_, by unfold maxLen at hm; omega⟩
    · intro i hi
      have hi' : i < len := by simpa using hi
      obtain ⟨b, off, spot⟩ := a'
      obtain ⟨q0, q1, q2, q3, q4, q5, _⟩ := hq i (by omega)
      have hspot : spot = none := by simpa [Addr.add] using World.cell?_spot (hq 0 (by omega)).1
      subst hspot
      rw [add_plain] at q0 q1 q2 q3 q4 q5
      refine ⟨b, off, rfl, ?_, ?_, ?_, ?_, ?_, ?_⟩ <;> unfold CellIs
      · simpa using q0
      · simpa [Nat.add_assoc] using q1
      · simpa [Nat.add_assoc] using q2
      · simpa [Nat.add_assoc] using q3
      · simpa [Nat.add_assoc] using q4
      · simpa [Nat.add_assoc] using q5
    · intro s hs
      obtain ⟨i, hi, rfl⟩ := List.mem_map.1 hs
      obtain ⟨_, _, _, _, _, _, h⟩ := hq i (by have := List.mem_range.1 hi; omega)
      exact h
end
end Go.Proofs.YtfplppldojlanaaDoor
