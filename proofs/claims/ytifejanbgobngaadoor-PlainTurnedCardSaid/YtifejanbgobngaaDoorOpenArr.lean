/- Arrays of integers that came in. -/
import Derived.Test.YtifejanbgobngaaDoorWords
import Derived.OpenShut
import Derived.WideShapes
import Derived.ChangeArms
namespace Go.Proofs.YtifejanbgobngaaDoor
open Go.RowKit
set_option linter.unusedVariables false

theorem open_arr {P : Program} {H : Type} {enc : TypeId × Value → H} {w : World} {t e : TypeId} {n : Nat} {k : IntKind} {v : Value} {d : DataW H} {p : List MemPlace} (ht : P.underlying t = some (.array n e)) (he : P.underlying e = some (.int k)) (hc : P.cellsOf t = n) (hce : P.cellsOf e = 1)
    (hv : Value.okWide P w .any 0 t v) (h : DataW.Trod enc P w 0 (fun _ => true) true t v d p) : ∃ l : List Int, v = .agg (l.map (Value.int k)).toArray ∧ l.length = n ∧ ∀ x ∈ l, (Lit.int k x).wf = true := by
  simp only [Value.okWide, ht] at hv
  obtain ⟨cs, rfl, hsz, _⟩ := hv
  obtain ⟨fuel, hf⟩ := h
  obtain ⟨xs, m, _, _, hl, hxl, hx⟩ := DataW.trod_array ht hf
  have hcs : (Value.agg cs).cells.toList = cs.toList := by simp [Value.cells]
  rw [hcs] at hx
  have hlen : cs.toList.length = n := by rw [Array.length_toList]; exact hsz.trans hc
  have key : ∀ i (hi : i < n), ∃ z, cs.toList[i]'(by rw [hlen]; exact hi) = .int k z ∧ (Lit.int k z).wf = true := by
    intro i hi
    have h1 := hx i hi
    rw [hce, Nat.mul_one] at h1
    have h2 : (cs.toList.drop i).take 1 = [cs.toList[i]'(by rw [hlen]; exact hi)] := by
      rw [List.drop_eq_getElem_cons (by rw [hlen]; exact hi)]; rfl
    rw [h2, List.getElem?_eq_getElem (by rw [hxl]; exact hi)] at h1
    obtain ⟨z, hz, _, hw⟩ := DataW.trod_int he h1
    exact ⟨z, by simpa using hz, hw⟩
  refine ⟨cs.toList.map fun v => match v with | .int _ z => z | _ => 0, ?_, by rw [List.length_map]; exact hlen, ?_⟩
  · congr 1
    apply Array.ext'
    rw [List.map_map]
    refine (List.map_id cs.toList).symm.trans (List.map_congr_left fun v hv => ?_)
    obtain ⟨i, hi, rfl⟩ := List.mem_iff_getElem.1 hv
    obtain ⟨z, hz, _⟩ := key i (by rw [← hlen]; exact hi)
    rw [hz]; rfl
  · intro x hx
    obtain ⟨v, hv, rfl⟩ := List.mem_map.1 hx
    obtain ⟨i, hi, rfl⟩ := List.mem_iff_getElem.1 hv
    obtain ⟨z, hz, hw⟩ := key i (by rw [← hlen]; exact hi)
    rw [hz]; exact hw
/-- The integers that came in, as numbers. -/
theorem of_nats {k : IntKind} {hi : Nat} (hk : ∀ n : Int, (Lit.int k n).wf = true → 0 ≤ n ∧ n < hi) (l : List Int) (h : ∀ x ∈ l, (Lit.int k x).wf = true) :
    ∃ a : List Nat, l.map (Value.int k) = ints k a ∧ a.length = l.length ∧ ∀ x ∈ a, x < hi := by
  refine ⟨l.map Int.toNat, ?_, by rw [List.length_map], fun y hy => ?_⟩
  · unfold ints
    rw [List.map_map]
    refine List.map_congr_left fun x hx => ?_
    have := hk x (h x hx)
    show Value.int k x = Value.int k ((x.toNat : Nat) : Int)
    rw [Int.toNat_of_nonneg this.1]
  · obtain ⟨z, hz, rfl⟩ := List.mem_map.1 hy
    have := hk z (h z hz)
    omega
end Go.Proofs.YtifejanbgobngaaDoor
