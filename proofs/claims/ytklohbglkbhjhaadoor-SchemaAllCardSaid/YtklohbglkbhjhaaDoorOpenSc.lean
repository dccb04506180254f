/- A schema, a layout, a change that came in. -/
import Derived.Test.YtklohbglkbhjhaaDoorLight
import Derived.Lib.SmallJoins
namespace Go.Proofs.YtklohbglkbhjhaaDoor
open Go.RowKit Go.WideShapes Go.ChangeShapes
set_option linter.unusedVariables false

/-- A slice of columns that came in. -/
def IsCols (w : World) (a : Option Addr) (len cap : Nat) (l : List Col3) : Prop :=
  l.length = len ∧ Has w a (fc l) ∧ (∀ x ∈ l, x.2.1.size ≤ maxLen) ∧ (a = none → cap = 0) ∧ len ≤ cap ∧ cap ≤ maxLen
theorem fc_has {w : World} {b off : Nat} : ∀ (m : Nat) (q : Nat → Col3), (∀ i, i < m → w.cell? ⟨b, off + i * 3, none⟩ = some (.int .i64 (q i).1) ∧ w.cell? ⟨b, off + i * 3 + 1, none⟩ = some (.string (q i).2.1) ∧ w.cell? ⟨b, off + i * 3 + 2, none⟩ = some (.int .i64 (q i).2.2)) →
    ∀ k v, (fc ((List.range m).map q))[k]? = some v → w.cell? ⟨b, off + k, none⟩ = some v := by
  intro m q h k v hv
  have hk : k < m * 3 := by
    have := (List.getElem?_eq_some_iff.1 hv).1
    rw [fc_length, List.length_map, List.length_range] at this
    exact this
  have hi : k / 3 < m := by omega
  have hq : ((List.range m).map q)[k / 3]'(by simpa using hi) = q (k / 3) := by simp
  obtain ⟨g0, g1, g2⟩ := fc_get ((List.range m).map q) (k / 3) (by simpa using hi)
  rw [hq] at g0 g1 g2
  obtain ⟨c0, c1, c2⟩ := h (k / 3) hi
  obtain h3 | h3 | h3 : k = k / 3 * 3 ∨ k = k / 3 * 3 + 1 ∨ k = k / 3 * 3 + 2 := by omega
  · rw [h3] at hv ⊢
    rw [g0] at hv; rw [← hv]; exact c0
  · rw [h3] at hv ⊢
    rw [g1] at hv; rw [← hv, ← Nat.add_assoc]; exact c1
  · rw [h3] at hv ⊢
    rw [g2] at hv; rw [← hv, ← Nat.add_assoc]; exact c2
theorem open_cols {P : Program} {H : Type} {enc : TypeId × Value → H} {w : World} {t e : TypeId} {f0 f1 f2 : Field} {fuel : Nat} {a : Option Addr} {len cap : Nat} {x : DataW H × List MemPlace} (ht : P.underlying t = some (.slice e)) (he : P.underlying e = some (.struct #[f0, f1, f2])) (ce : P.cellsOf e = 3)
    (o0 : f0.offset = 0) (o1 : f1.offset = 1) (o2 : f2.offset = 2) (c0 : P.cellsOf f0.type = 1) (c1 : P.cellsOf f1.type = 1) (c2 : P.cellsOf f2.type = 1)
    (u0 : P.underlying f0.type = some (.int .i64)) (u1 : P.underlying f1.type = some .string) (u2 : P.underlying f2.type = some (.int .i64))
    (h : DataW.trod enc P w 0 (fun _ => true) true fuel t (Value.slice a len cap).cells.toList = some x) : ∃ l, IsCols w a len cap l := by
  rcases Deep.open_slice ht h with ⟨hcs, _⟩ | ⟨a', len', cap', m, n, D, Pl, hcs, _, hl, hm, hmm, _, hx⟩
  · simp [Value.cells] at hcs
    obtain ⟨rfl, rfl, rfl⟩ := hcs
    exact ⟨[], rfl, .inl rfl, (fun x hx => by cases hx), fun _ => rfl, Nat.le_refl _, by decide⟩
  · simp [Value.cells] at hcs
    obtain ⟨rfl, rfl, rfl⟩ := hcs
    simp only [if_true] at hmm
    subst hmm
    have each : ∀ i, i < m → ∃ q : Col3, w.cell? (a'.add (i * 3)) = some (.int .i64 q.1) ∧ w.cell? (a'.add (i * 3 + 1)) = some (.string q.2.1) ∧ w.cell? (a'.add (i * 3 + 2)) = some (.int .i64 q.2.2) ∧ q.2.1.size ≤ maxLen := by
      intro i hi
      obtain ⟨cs', h1, h2⟩ := hx i hi
      rw [ce] at h1
      obtain ⟨_, hlen, hcell⟩ := World.cells?_some h1
      obtain ⟨xs, k, hk, hxy, _, hxl, hf⟩ := DataW.trod_struct he h2
      match xs, hxl, cs', hlen with
      | [y0, y1, y2], _, [v0, v1, v2], _ =>
        have g0 := hf 0 f0 rfl
        have g1 := hf 1 f1 rfl
        have g2 := hf 2 f2 rfl
        simp [o0, o1, o2, c0, c1, c2] at g0 g1 g2
        obtain ⟨z0, hz0, _, hw0⟩ := DataW.trod_int u0 g0
        obtain ⟨z1, hz1, _, hw1⟩ := DataW.trod_string u1 g1
        obtain ⟨z2, hz2, _, _⟩ := DataW.trod_int u2 g2
        have e0 := hcell 0 (by omega)
        have e1 := hcell 1 (by omega)
        have e2 := hcell 2 (by omega)
        rw [Deep.add_add] at e0 e1 e2
        have v0e : v0 = .int .i64 z0 := by simpa using hz0
        have v1e : v1 = .string z1 := by simpa using hz1
        have v2e : v2 = .int .i64 z2 := by simpa using hz2
        refine ⟨(z0, z1, z2), ?_, ?_, ?_, hw1⟩
        · simpa [v0e] using e0
        · simpa [v1e] using e1
        · simpa [v2e] using e2
    obtain ⟨q, hq⟩ := Deep.choose_lt each
    refine ⟨(List.range len).map q, by simp, ?_, ?_, (fun h => by cases h), hl, hm⟩
    · by_cases h0 : len = 0
      · subst h0; exact .inl rfl
      · obtain ⟨b, off, spot⟩ := a'
        have hspot : spot = none := by simpa [Addr.add] using World.cell?_spot (hq 0 (by omega)).1
        subst hspot
        refine .inr ⟨b, off, rfl, block_lt_of_cell (hq 0 (by omega)).1, ?_⟩
        refine fc_has len q fun i hi => ?_
        obtain ⟨q0, q1, q2, _⟩ := hq i (by omega)
        rw [add_plain] at q0 q1 q2
        exact ⟨q0, by rw [Nat.add_assoc]; exact q1, by rw [Nat.add_assoc]; exact q2⟩
    · intro x hx
      obtain ⟨i, hi, rfl⟩ := List.mem_map.1 hx
      exact (hq i (by have := List.mem_range.1 hi; omega)).2.2.2
/-- A slice of ints that came in. -/
def IsEin (w : World) (a : Option Addr) (len cap : Nat) (l : List Int) : Prop :=
  l.length = len ∧ Has w a (ein l) ∧ (a = none → cap = 0) ∧ len ≤ cap ∧ cap ≤ maxLen
theorem open_ein {P : Program} {H : Type} {enc : TypeId × Value → H} {w : World} {t e : TypeId} {fuel : Nat} {v : Value} {x : DataW H × List MemPlace} (ht : P.underlying t = some (.slice e)) (he : P.underlying e = some (.int .i64)) (ce : P.cellsOf e = 1)
    (h : DataW.trod enc P w 0 (fun _ => true) true fuel t [v] = some x) : ∃ a len cap l, v = .slice a len cap ∧ IsEin w a len cap l := by
  rcases Go.ChangeShapes.open_ints ht he ce h with ⟨hcs, _⟩ | ⟨x, len, cap, zs, hcs, _, hl, hm, hz, _, hcell, hwz⟩
  · exact ⟨none, 0, 0, [], by simpa using hcs, rfl, .inl rfl, fun _ => rfl, Nat.le_refl _, by decide⟩
  · simp only [if_true] at hz
    refine ⟨some x, len, cap, zs.take len, by simpa using hcs, by simp; omega, ?_, (fun h => by cases h), hl, hm⟩
    rcases Nat.eq_zero_or_pos len with rfl | hp
    · left; simp [ein]
    · obtain ⟨b, off, spot⟩ := x
      have h0 := hcell 0 (by omega)
      have hspot : spot = none := by simpa [Addr.add] using World.cell?_spot h0
      subst hspot
      have hadd : ∀ i, (⟨b, off, none⟩ : Addr).add i = ⟨b, off + i, none⟩ := add_plain b off
      have hb := block_lt_of_cell h0
      rw [hadd] at hb
      refine .inr ⟨b, off, rfl, hb, fun i v hv => ?_⟩
      have hi' : i < len := by
        have := (List.getElem?_eq_some_iff.1 hv).1
        rw [ein_len, List.length_take] at this
        omega
      have h1 := hcell i (by omega)
      rw [hadd] at h1
      rw [h1, ← hv]
      simp [ein, hi', List.getD_eq_getElem?_getD, List.getElem?_eq_getElem (show i < zs.length by omega)]

theorem open_schema {P : Program} {H : Type} {enc : TypeId × Value → H} {w : World} {r : Reach} {b0 : Nat} {t e : TypeId} {f0 f1 g0 g1 g2 : Field} {v : Value} {d : DataW H} {p : List MemPlace} (hs : P.underlying t = some (.struct #[f0, f1])) (hC : P.cellsOf t = 2)
    (o0 : f0.offset = 0) (o1 : f1.offset = 1) (k0 : P.cellsOf f0.type = 1) (k1 : P.cellsOf f1.type = 1) (u0 : P.underlying f0.type = some (.slice e)) (u1 : P.underlying f1.type = some (.int .i64))
    (he : P.underlying e = some (.struct #[g0, g1, g2])) (ce : P.cellsOf e = 3) (p0 : g0.offset = 0) (p1 : g1.offset = 1) (p2 : g2.offset = 2) (c0 : P.cellsOf g0.type = 1) (c1 : P.cellsOf g1.type = 1) (c2 : P.cellsOf g2.type = 1)
    (v0 : P.underlying g0.type = some (.int .i64)) (v1 : P.underlying g1.type = some .string) (v2 : P.underlying g2.type = some (.int .i64))
    (hv : Value.okWide P w r b0 t v) (h : DataW.Trod enc P w 0 (fun _ => true) true t v d p) :
    ∃ a len cap l n, v = .agg #[.slice a len cap, .int .i64 n] ∧ IsCols w a len cap l := by
  obtain ⟨cs, rfl, hsz⟩ := okWide_struct hs hv
  obtain ⟨x0, x1, rfl⟩ := Go.Joins.array2 (hsz.trans hC)
  obtain ⟨fuel, hf⟩ := h
  obtain ⟨y0, y1, n, hx, _, h0, h1⟩ := trod_struct2 hs hf
  simp [Value.cells, o0, k0] at h0
  simp [Value.cells, o1, k1] at h1
  obtain ⟨z1, hz1, _, _⟩ := DataW.trod_int u1 h1
  have e1 : x1 = .int .i64 z1 := by simpa using hz1
  obtain ⟨a, len, cap, e0⟩ : ∃ a len cap, x0 = .slice a len cap := by
    rcases Deep.open_slice u0 h0 with ⟨hcs, _⟩ | ⟨a', len', cap', m, n, D, Pl, hcs, _⟩
    · exact ⟨_, _, _, by simpa using hcs⟩
    · exact ⟨_, _, _, by simpa using hcs⟩
  subst e0 e1
  obtain ⟨l, hl⟩ := open_cols (a := a) (len := len) (cap := cap) u0 he ce p0 p1 p2 c0 c1 c2 v0 v1 v2 (by simpa [Value.cells] using h0)
  exact ⟨a, len, cap, l, z1, rfl, hl⟩

theorem open_layout {P : Program} {H : Type} {enc : TypeId × Value → H} {w : World} {r : Reach} {b0 : Nat} {t e : TypeId} {f0 f1 f2 f3 : Field} {v : Value} {d : DataW H} {p : List MemPlace} (hs : P.underlying t = some (.struct #[f0, f1, f2, f3])) (hC : P.cellsOf t = 4)
    (o0 : f0.offset = 0) (o1 : f1.offset = 1) (o2 : f2.offset = 2) (o3 : f3.offset = 3) (k0 : P.cellsOf f0.type = 1) (k1 : P.cellsOf f1.type = 1) (k2 : P.cellsOf f2.type = 1) (k3 : P.cellsOf f3.type = 1)
    (u0 : P.underlying f0.type = some (.int .i64)) (u1 : P.underlying f1.type = some (.int .i64)) (u2 : P.underlying f2.type = some (.int .i64)) (u3 : P.underlying f3.type = some (.slice e)) (he : P.underlying e = some (.int .i64)) (ce : P.cellsOf e = 1)
    (hv : Value.okWide P w r b0 t v) (h : DataW.Trod enc P w 0 (fun _ => true) true t v d p) :
    ∃ i j k a len cap l, v = .agg #[.int .i64 i, .int .i64 j, .int .i64 k, .slice a len cap] ∧ IsEin w a len cap l := by
  obtain ⟨cs, rfl, hsz⟩ := okWide_struct hs hv
  obtain ⟨x0, x1, x2, x3, rfl⟩ := Go.Joins.array4 (hsz.trans hC)
  obtain ⟨fuel, hf⟩ := h
  obtain ⟨y0, y1, y2, y3, n, hx, _, h0, h1, h2, h3⟩ := Go.Joins.trod_struct4 hs hf
  simp [Value.cells, o0, k0] at h0
  simp [Value.cells, o1, k1] at h1
  simp [Value.cells, o2, k2] at h2
  simp [Value.cells, o3, k3] at h3
  obtain ⟨z0, hz0, _, _⟩ := DataW.trod_int u0 h0
  obtain ⟨z1, hz1, _, _⟩ := DataW.trod_int u1 h1
  obtain ⟨z2, hz2, _, _⟩ := DataW.trod_int u2 h2
  obtain ⟨a, len, cap, l, e3, hl⟩ := open_ein u3 he ce h3
  have e0 : x0 = .int .i64 z0 := by simpa using hz0
  have e1 : x1 = .int .i64 z1 := by simpa using hz1
  have e2 : x2 = .int .i64 z2 := by simpa using hz2
  subst e0 e1 e2 e3
  exact ⟨z0, z1, z2, a, len, cap, l, rfl, hl⟩

theorem list3 {α : Type} {l : List α} (h : l.length = 3) : ∃ a b c, l = [a, b, c] := by
  match l, h with
  | [a, b, c], _ => exact ⟨a, b, c, rfl⟩
theorem list7 {α : Type} {l : List α} (h : l.length = 7) : ∃ a b c d e f g, l = [a, b, c, d, e, f, g] := by
  match l, h with
  | [a, b, c, d, e, f, g], _ => exact ⟨a, b, c, d, e, f, g, rfl⟩
theorem list9 {α : Type} {l : List α} (h : l.length = 9) : ∃ a b c d e f g i j, l = [a, b, c, d, e, f, g, i, j] := by
  match l, h with
  | [a, b, c, d, e, f, g, i, j], _ => exact ⟨a, b, c, d, e, f, g, i, j, rfl⟩
theorem open_change {P : Program} {H : Type} {enc : TypeId × Value → H} {w : World} {r : Reach} {b0 : Nat} {t : TypeId} {f0 f1 f2 f3 f4 f5 f6 g0' g1' g2' : Field} {v : Value} {d : DataW H} {p : List MemPlace} (hs : P.underlying t = some (.struct #[f0, f1, f2, f3, f4, f5, f6])) (hC : P.cellsOf t = 9)
    (o0 : f0.offset = 0) (o1 : f1.offset = 1) (o2 : f2.offset = 2) (o3 : f3.offset = 3) (o4 : f4.offset = 4) (o5 : f5.offset = 7) (o6 : f6.offset = 8)
    (k0 : P.cellsOf f0.type = 1) (k1 : P.cellsOf f1.type = 1) (k2 : P.cellsOf f2.type = 1) (k3 : P.cellsOf f3.type = 1) (k4 : P.cellsOf f4.type = 3) (k5 : P.cellsOf f5.type = 1) (k6 : P.cellsOf f6.type = 1)
    (u0 : P.underlying f0.type = some (.int .i64)) (u1 : P.underlying f1.type = some (.int .i64)) (u2 : P.underlying f2.type = some .string) (u3 : P.underlying f3.type = some (.int .i64)) (u4 : P.underlying f4.type = some (.struct #[g0', g1', g2'])) (u5 : P.underlying f5.type = some (.int .u8)) (u6 : P.underlying f6.type = some (.int .i64))
    (p0 : g0'.offset = 0) (p1 : g1'.offset = 1) (p2 : g2'.offset = 2) (c0 : P.cellsOf g0'.type = 1) (c1 : P.cellsOf g1'.type = 1) (c2 : P.cellsOf g2'.type = 1)
    (v0 : P.underlying g0'.type = some (.int .i64)) (v1 : P.underlying g1'.type = some (.int .i64)) (v2 : P.underlying g2'.type = some .string)
    (hv : Value.okWide P w r b0 t v) (h : DataW.Trod enc P w 0 (fun _ => true) true t v d p) :
    ∃ ch : Chg, v = .agg (cvC ch).toArray ∧ ch.name.size ≤ maxLen := by
  obtain ⟨cs, rfl, hsz⟩ := okWide_struct hs hv
  obtain ⟨l, rfl⟩ : ∃ l : List Value, cs = l.toArray := ⟨cs.toList, by simp⟩
  have hll : l.length = 9 := by simpa using hsz.trans hC
  obtain ⟨fuel, hf⟩ := h
  obtain ⟨xs, n, _, _, _, hxl, hF⟩ := DataW.trod_struct hs hf
  obtain ⟨x0, x1, x2, x3, x4, x5, x6, x7, x8, rfl⟩ := list9 hll
  obtain ⟨y0, y1, y2, y3, y4, y5, y6, rfl⟩ := list7 (show xs.length = 7 from hxl)
  have g0 := hF 0 f0 rfl
  have g1 := hF 1 f1 rfl
  have g2 := hF 2 f2 rfl
  have g3 := hF 3 f3 rfl
  have g4 := hF 4 f4 rfl
  have g5 := hF 5 f5 rfl
  have g6 := hF 6 f6 rfl
  simp [Value.cells, o0, k0] at g0
  simp [Value.cells, o1, k1] at g1
  simp [Value.cells, o2, k2] at g2
  simp [Value.cells, o3, k3] at g3
  simp [Value.cells, o4, k4] at g4
  simp [Value.cells, o5, k5] at g5
  simp [Value.cells, o6, k6] at g6
  obtain ⟨xs', n', _, _, _, hxl', hF'⟩ := DataW.trod_struct u4 g4
  obtain ⟨z0, z1, z2, rfl⟩ := list3 (show xs'.length = 3 from hxl')
  have q0 := hF' 0 g0' rfl
  have q1 := hF' 1 g1' rfl
  have q2 := hF' 2 g2' rfl
  simp [p0, c0] at q0
  simp [p1, c1] at q1
  simp [p2, c2] at q2
  obtain ⟨i0, j0, _, _⟩ := DataW.trod_int u0 g0
  obtain ⟨i1, j1, _, _⟩ := DataW.trod_int u1 g1
  obtain ⟨i2, j2, _, hw2⟩ := DataW.trod_string u2 g2
  obtain ⟨i3, j3, _, _⟩ := DataW.trod_int u3 g3
  obtain ⟨i4, j4, _, _⟩ := DataW.trod_int v0 q0
  obtain ⟨i5, j5, _, _⟩ := DataW.trod_int v1 q1
  obtain ⟨i6, j6, _, _⟩ := DataW.trod_string v2 q2
  obtain ⟨i7, j7, _, _⟩ := DataW.trod_int u5 g5
  obtain ⟨i8, j8, _, _⟩ := DataW.trod_int u6 g6
  simp at j0 j1 j2 j3 j4 j5 j6 j7 j8
  subst j0 j1 j2 j3 j4 j5 j6 j7 j8
  exact ⟨⟨i0, i1, i2, i3, (i4, i5, i6), i7, i8⟩, rfl, hw2⟩
end Go.Proofs.YtklohbglkbhjhaaDoor
