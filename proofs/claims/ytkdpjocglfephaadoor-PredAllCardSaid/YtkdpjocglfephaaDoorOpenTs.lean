
import Derived.Test.YtkdpjocglfephaaDoorZoneM
import Derived.Test.YtkdpjocglfephaaDoorBase
import Derived.OpenShut
import Derived.ChangeOld
import Derived.WalkKit
import Derived.Laws.OwnMore
import Derived.Laws.BytesArg
import Derived.Laws.Rows
import Derived.Deep.AppendLies
import Derived.Deep.Draws
import Derived.Test.YtkdpjocglfephaaDoorChecked
import Derived.Deep.OwnRows
import Derived.Lib.Hide
import Derived.Deep.Quiet
import Derived.Laws.AppendOwnNone
import Derived.Lib.Strings
import Derived.Outline
import Derived.WalkLawsBesides
import Derived.WalkSpells
import Derived.PlainAid
import Derived.Deep.QuietTactic
import Derived.BigQuiet
import Derived.RegionTactic
import Derived.BigRegion
import Derived.Handy
import Derived.Laws.BitsAllLaws
import Derived.Deep.RegionWith
import Derived.Lib.AppendStr
import Derived.Deep.RegionLaw
import Derived.Maps.AppendAt
import Derived.WideShapes
import Derived.ChangeArms
import Derived.Deep.Slices
import Derived.Sort.Grow
import Derived.LaidEql
import Derived.Stop.Asserts
import Derived.RowKitTokens
import Derived.Laws.BitsLemmas
import Derived.Laws.Bits64
import Derived.WalkSmall
import Derived.Stop.IfaceNil
import Derived.Lib.Bytealg
import Derived.Deep.SlicePairs
/- Slices of tests: how they come in. -/




namespace Go.Proofs.YtkdpjocglfephaaDoor
open Go.RowKit Go.ChangeShapes Go.WideShapes Go.ChangeAt
set_option linter.unusedVariables false

/-- A slice of tests. -/
def IsTests (w : World) (a : Option Addr) (len cap : Nat) (l : List Tst) : Prop :=
  l.length = len ∧ Has w a (ft l) ∧ (a = none → cap = 0) ∧ len ≤ cap ∧ cap ≤ maxLen
theorem ft_has {w : World} {b off : Nat} (n : Nat) (q : Nat → Tst) (h : ∀ i, i < n → ∀ j v, (encT (q i))[j]? = some v → w.cell? ⟨b, off + (i * 7 + j), none⟩ = some v) (k : Nat) (v : Value) (hv : (ft ((List.range n).map q))[k]? = some v) : w.cell? ⟨b, off + k, none⟩ = some v := by
  have hk : k < n * 7 := by
    have h1 := (List.getElem?_eq_some_iff.1 hv).1
    rw [ft_length, List.length_map, List.length_range] at h1
    exact h1
  have hi : k / 7 < n := by omega
  have e : k / 7 * 7 + k % 7 = k := by omega
  have g := ft_get ((List.range n).map q) (k / 7) (by rw [List.length_map, List.length_range]; exact hi) (k % 7) (by omega)
  rw [List.getElem_map, List.getElem_range, e] at g
  rw [g] at hv
  have := h (k / 7) hi (k % 7) v hv
  rwa [e] at this
theorem open_tests {P : Program} {H : Type} {enc : TypeId × Value → H} {w : World} {t e : TypeId} {f0 f1 f2 f3 f4 e0 e1 e2 : Field} {fuel : Nat} {a : Option Addr} {len cap : Nat} {x : DataW H × List MemPlace} (ht : P.underlying t = some (.slice e)) (he : P.underlying e = some (.struct #[f0, f1, f2, f3, f4])) (ce : P.cellsOf e = 7)
    (o0 : f0.offset = 0) (o1 : f1.offset = 1) (o2 : f2.offset = 2) (o3 : f3.offset = 5) (o4 : f4.offset = 6) (c0 : P.cellsOf f0.type = 1) (c1 : P.cellsOf f1.type = 1) (c2 : P.cellsOf f2.type = 3) (c3 : P.cellsOf f3.type = 1) (c4 : P.cellsOf f4.type = 1)
    (u0 : P.underlying f0.type = some .string) (u1 : P.underlying f1.type = some (.int .i64)) (u2 : P.underlying f2.type = some (.struct #[e0, e1, e2])) (u3 : P.underlying f3.type = some .bool) (u4 : P.underlying f4.type = some .bool)
    (p0 : e0.offset = 0) (p1 : e1.offset = 1) (p2 : e2.offset = 2) (d0 : P.cellsOf e0.type = 1) (d1 : P.cellsOf e1.type = 1) (d2 : P.cellsOf e2.type = 1) (v0 : P.underlying e0.type = some (.int .i64)) (v1 : P.underlying e1.type = some (.int .i64)) (v2 : P.underlying e2.type = some .string)
    (h : DataW.trod enc P w 0 (fun _ => true) true fuel t (Value.slice a len cap).cells.toList = some x) : ∃ l, IsTests w a len cap l := by
  rcases Deep.open_slice ht h with ⟨hcs, _⟩ | ⟨a', len', cap', m, n, D, Pl, hcs, _, hl, hm, hmm, _, hx⟩
  · simp [Value.cells] at hcs
    obtain ⟨rfl, rfl, rfl⟩ := hcs
    exact ⟨[], rfl, .inl rfl, fun _ => rfl, Nat.le_refl _, by decide⟩
  · simp [Value.cells] at hcs
    obtain ⟨rfl, rfl, rfl⟩ := hcs
    simp only [if_true] at hmm
    subst hmm
    have each : ∀ i, i < m → ∃ q : Tst, ∀ j v, (encT q)[j]? = some v → w.cell? (a'.add (i * 7 + j)) = some v := by
      intro i hi
      obtain ⟨cs', h1, h2⟩ := hx i hi
      rw [ce] at h1
      obtain ⟨_, hlen, hcell⟩ := World.cells?_some h1
      obtain ⟨xs, k, hk, hxy, _, hxl, hf⟩ := DataW.trod_struct he h2
      match xs, hxl, cs', hlen with
      | [y0, y1, y2, y3, y4], _, [v0', v1', v2', v3', v4', v5', v6'], _ =>
        have g0 := hf 0 f0 rfl
        have g1 := hf 1 f1 rfl
        have g2 := hf 2 f2 rfl
        have g3 := hf 3 f3 rfl
        have g4 := hf 4 f4 rfl
        simp [o0, o1, o2, o3, o4, c0, c1, c2, c3, c4] at g0 g1 g2 g3 g4
        obtain ⟨z0, hz0, _, _⟩ := DataW.trod_string u0 g0
        obtain ⟨z1, hz1, _, _⟩ := DataW.trod_int u1 g1
        obtain ⟨b3, hb3, _⟩ := DataW.trod_bool u3 g3
        obtain ⟨b4, hb4, _⟩ := DataW.trod_bool u4 g4
        obtain ⟨ys, k2, _, _, _, hyl, hg⟩ := DataW.trod_struct u2 g2
        match ys, hyl with
        | [r0, r1, r2], _ =>
          have q0 := hg 0 e0 rfl
          have q1 := hg 1 e1 rfl
          have q2 := hg 2 e2 rfl
          simp [p0, p1, p2, d0, d1, d2] at q0 q1 q2
          obtain ⟨x0, hx0, _, _⟩ := DataW.trod_int v0 q0
          obtain ⟨x1, hx1, _, _⟩ := DataW.trod_int v1 q1
          obtain ⟨x2, hx2, _, _⟩ := DataW.trod_string v2 q2
          have k0 := hcell 0 (by omega)
          have k1 := hcell 1 (by omega)
          have k2 := hcell 2 (by omega)
          have k3 := hcell 3 (by omega)
          have k4 := hcell 4 (by omega)
          have k5 := hcell 5 (by omega)
          have k6 := hcell 6 (by omega)
          rw [Deep.add_add] at k0 k1 k2 k3 k4 k5 k6
          have w0 : v0' = .string z0 := by simpa using hz0
          have w1 : v1' = .int .i64 z1 := by simpa using hz1
          have w2 : v2' = .int .i64 x0 := by simpa using hx0
          have w3 : v3' = .int .i64 x1 := by simpa using hx1
          have w4 : v4' = .string x2 := by simpa using hx2
          have w5 : v5' = .bool b3 := by simpa using hb3
          have w6 : v6' = .bool b4 := by simpa using hb4
          refine ⟨⟨z0, z1, (x0, x1, x2), b3, b4⟩, fun j v hv => ?_⟩
          rcases j with _ | _ | _ | _ | _ | _ | _ | j
          · simp [encT] at hv; subst hv; simpa [w0] using k0
          · simp [encT] at hv; subst hv; simpa [w1] using k1
          · simp [encT] at hv; subst hv; simpa [w2] using k2
          · simp [encT] at hv; subst hv; simpa [w3] using k3
          · simp [encT] at hv; subst hv; simpa [w4] using k4
          · simp [encT] at hv; subst hv; simpa [w5] using k5
          · simp [encT] at hv; subst hv; simpa [w6] using k6
          · simp [encT] at hv
    obtain ⟨q, hq⟩ := Deep.choose_lt each
    refine ⟨(List.range len).map q, by simp, ?_, (fun h => by cases h), hl, hm⟩
    by_cases h0 : len = 0
    · subst h0; exact .inl rfl
    · obtain ⟨b, off, spot⟩ := a'
      have hc0 := hq 0 (by omega) 0 _ rfl
      have hspot : spot = none := by simpa [Addr.add] using World.cell?_spot hc0
      subst hspot
      refine .inr ⟨b, off, rfl, block_lt_of_cell hc0, ?_⟩
      refine ft_has len q fun i hi j v hv => ?_
      have h1 := hq i (by omega) j v hv
      rw [add_plain] at h1
      exact h1
end Go.Proofs.YtkdpjocglfephaaDoor
