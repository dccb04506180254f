
import Derived.Test.YtkdpjocglfephaaDoorBase
import Derived.OpenShut
import Derived.ChangeOld
import Derived.WalkKit
import Derived.Laws.OwnMore
import Derived.Laws.BytesArg
import Derived.Laws.Rows
import Derived.Deep.AppendLies
import Derived.Deep.Draws
import Derived.Test.YtkdpjocglfephaaDoorChecked
import Derived.Deep.OwnRows
import Derived.Lib.Hide
import Derived.Deep.Quiet
import Derived.Laws.AppendOwnNone
import Derived.Lib.Strings
import Derived.Outline
import Derived.WalkLawsBesides
import Derived.WalkSpells
import Derived.PlainAid
import Derived.Deep.QuietTactic
import Derived.BigQuiet
import Derived.RegionTactic
import Derived.BigRegion
import Derived.Handy
import Derived.Laws.BitsAllLaws
import Derived.Deep.RegionWith
import Derived.Lib.AppendStr
import Derived.Deep.RegionLaw
import Derived.Maps.AppendAt
import Derived.WideShapes
import Derived.ChangeArms
import Derived.Deep.Slices
import Derived.Sort.Grow
import Derived.LaidEql
import Derived.Stop.Asserts
import Derived.RowKitTokens
import Derived.Laws.BitsLemmas
import Derived.Laws.Bits64
import Derived.WalkSmall
import Derived.Stop.IfaceNil
import Derived.Lib.Bytealg
import Derived.Deep.SlicePairs
/- Slices of pairs of small numbers: as they lie, and how they come in. -/



namespace Go.Proofs.YtkdpjocglfephaaDoor
open Go.RowKit Go.ChangeShapes Go.WideShapes Go.ChangeAt
set_option linter.unusedVariables false

/-- The numbers' pairs as they lie in memory. -/
def fpr (l : List (Nat × Nat)) : List Value := l.flatMap fun x => [.int .u8 x.1, .int .u8 x.2]
theorem fpr_get : ∀ (l : List (Nat × Nat)) (k : Nat) (h : k < l.length), (fpr l)[k * 2]? = some (.int .u8 l[k].1) ∧ (fpr l)[k * 2 + 1]? = some (.int .u8 l[k].2)
  | x :: r, 0, _ => ⟨rfl, rfl⟩
  | x :: r, k + 1, h => by
    obtain ⟨h1, h2⟩ := fpr_get r k (by simpa using h)
    refine ⟨?_, ?_⟩
    · rw [show (k + 1) * 2 = k * 2 + 2 by omega]; exact h1
    · rw [show (k + 1) * 2 + 1 = k * 2 + 1 + 2 by omega]; exact h2
theorem fpr_length (l : List (Nat × Nat)) : (fpr l).length = 2 * l.length := by
  induction l with
  | nil => rfl
  | cons x r ih =>
    have e : fpr (x :: r) = .int .u8 x.1 :: .int .u8 x.2 :: fpr r := rfl
    rw [e, List.length_cons, List.length_cons, ih, List.length_cons]; omega
theorem Has.fpr {w : World} {A : Option Addr} {l : List (Nat × Nat)} (h : Has w A (fpr l)) (k : Nat) (hk : k < l.length) :
    ∃ b off, A = some ⟨b, off, none⟩ ∧ w.cell? ⟨b, off + k * 2, none⟩ = some (.int .u8 l[k].1) ∧ w.cell? ⟨b, off + k * 2 + 1, none⟩ = some (.int .u8 l[k].2) := by
  rcases h with h | ⟨b, off, hA, _, hc⟩
  · have h1 := fpr_length l
    rw [h] at h1
    simp at h1
    omega
  · obtain ⟨h0, h1⟩ := fpr_get l k hk
    exact ⟨b, off, hA, hc _ _ h0, hc _ _ h1⟩

theorem fpr_has {w : World} {b off : Nat} (n : Nat) (q : Nat → Nat × Nat) (h : ∀ i, i < n → w.cell? ⟨b, off + i * 2, none⟩ = some (.int .u8 (q i).1) ∧ w.cell? ⟨b, off + (i * 2 + 1), none⟩ = some (.int .u8 (q i).2)) (k : Nat) (v : Value) (hv : (fpr ((List.range n).map q))[k]? = some v) : w.cell? ⟨b, off + k, none⟩ = some v := by
  have hk : k < 2 * n := by
    have h1 := (List.getElem?_eq_some_iff.1 hv).1
    rw [fpr_length, List.length_map, List.length_range] at h1
    exact h1
  have hi : k / 2 < n := by omega
  have hl : k / 2 < ((List.range n).map q).length := by rw [List.length_map, List.length_range]; exact hi
  obtain ⟨g0, g1⟩ := fpr_get ((List.range n).map q) (k / 2) hl
  have hq : ((List.range n).map q)[k / 2] = q (k / 2) := by rw [List.getElem_map, List.getElem_range]
  obtain ⟨h0, h1⟩ := h (k / 2) hi
  rcases Nat.mod_two_eq_zero_or_one k with hm | hm
  · have e : k / 2 * 2 = k := by omega
    rw [e] at g0 h0
    rw [hv] at g0
    injection g0 with g0
    rw [h0, g0, hq]
  · have e : k / 2 * 2 + 1 = k := by omega
    rw [e] at g1 h1
    rw [hv] at g1
    injection g1 with g1
    rw [h1, g1, hq]
/-- A slice of pairs. -/
def IsPairs (w : World) (a : Option Addr) (len cap : Nat) (l : List (Nat × Nat)) : Prop :=
  l.length = len ∧ Has w a (fpr l) ∧ (∀ x ∈ l, x.1 < 256 ∧ x.2 < 256) ∧ len ≤ cap ∧ cap ≤ maxLen
theorem pr_u8 (z : Int) (h : (Lit.int .u8 z).wf = true) : ∃ n : Nat, z = (n : Int) ∧ n < 256 := by
  simp [Lit.wf, IntKind.min, IntKind.max, IntKind.signed, IntKind.bits] at h
  exact ⟨z.toNat, by omega, by omega⟩
theorem open_pairs {P : Program} {H : Type} {enc : TypeId × Value → H} {w : World} {t e f : TypeId} {fuel : Nat} {a : Option Addr} {len cap : Nat} {x : DataW H × List MemPlace} (ht : P.underlying t = some (.slice e)) (he : P.underlying e = some (.array 2 f)) (hf : P.underlying f = some (.int .u8)) (ce : P.cellsOf e = 2) (cf : P.cellsOf f = 1)
    (h : DataW.trod enc P w 0 (fun _ => true) true fuel t (Value.slice a len cap).cells.toList = some x) : ∃ l, IsPairs w a len cap l := by
  rcases Deep.open_slice ht h with ⟨hcs, _⟩ | ⟨a', len', cap', m, n, D, Pl, hcs, _, hl, hm, hmm, _, hx⟩
  · simp [Value.cells] at hcs
    obtain ⟨rfl, rfl, rfl⟩ := hcs
    exact ⟨[], rfl, .inl rfl, (fun x hx => by cases hx), Nat.le_refl _, by decide⟩
  · simp [Value.cells] at hcs
    obtain ⟨rfl, rfl, rfl⟩ := hcs
    simp only [if_true] at hmm
    subst hmm
    have each : ∀ i, i < m → ∃ q : Nat × Nat, w.cell? (a'.add (i * 2)) = some (.int .u8 q.1) ∧ w.cell? (a'.add (i * 2 + 1)) = some (.int .u8 q.2) ∧ q.1 < 256 ∧ q.2 < 256 := by
      intro i hi
      obtain ⟨cs', h1, h2⟩ := hx i hi
      rw [ce] at h1
      obtain ⟨_, hlen, hcell⟩ := World.cells?_some h1
      obtain ⟨xs, k, _, _, _, hxl, hg⟩ := DataW.trod_array he h2
      match xs, hxl, cs', hlen with
      | [y0, y1], _, [v0, v1], _ =>
        have g0 := hg 0 (by decide)
        have g1 := hg 1 (by decide)
        simp [cf] at g0 g1
        obtain ⟨z0, hz0, _, hw0⟩ := DataW.trod_int hf g0
        obtain ⟨z1, hz1, _, hw1⟩ := DataW.trod_int hf g1
        obtain ⟨n0, rfl, b0⟩ := pr_u8 z0 hw0
        obtain ⟨n1, rfl, b1⟩ := pr_u8 z1 hw1
        have e0 := hcell 0 (by omega)
        have e1 := hcell 1 (by omega)
        rw [Deep.add_add] at e0 e1
        have v0e : v0 = .int .u8 n0 := by simpa using hz0
        have v1e : v1 = .int .u8 n1 := by simpa using hz1
        refine ⟨(n0, n1), ?_, ?_, b0, b1⟩
        · simpa [v0e] using e0
        · simpa [v1e] using e1
    obtain ⟨q, hq⟩ := Deep.choose_lt each
    refine ⟨(List.range len).map q, by simp, ?_, ?_, hl, hm⟩
    · by_cases h0 : len = 0
      · subst h0; exact .inl rfl
      · obtain ⟨b, off, spot⟩ := a'
        have hspot : spot = none := by simpa [Addr.add] using World.cell?_spot (hq 0 (by omega)).1
        subst hspot
        refine .inr ⟨b, off, rfl, block_lt_of_cell (hq 0 (by omega)).1, ?_⟩
        refine fpr_has len q fun i hi => ?_
        obtain ⟨q0, q1, _, _⟩ := hq i (by omega)
        rw [add_plain] at q0 q1
        exact ⟨q0, q1⟩
    · intro x hx
      obtain ⟨i, hi, rfl⟩ := List.mem_map.1 hx
      exact (hq i (by have := List.mem_range.1 hi; omega)).2.2
end Go.Proofs.YtkdpjocglfephaaDoor
