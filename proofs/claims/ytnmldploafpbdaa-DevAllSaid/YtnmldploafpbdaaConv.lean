/- A string turned into bytes of its own. -/
import Derived.Test.YtnmldploafpbdaaBase
import Derived.Lib.ConvBytes
namespace Go.Proofs.Ytnmldploafpbdaa
open Go.RowKit
set_option linter.unusedVariables false

theorem bstr_size (l : List Nat) : (bstr l).size = l.length := by
  have h := congrArg List.length (bstr_toList l)
  rw [List.length_map, Array.length_toList] at h
  exact h
theorem bytes_below (w : World) (e : TypeId) (s : ByteArray) : Below w.heap.size w (Lib.bytesWorld w e s) :=
  ⟨rfl, rfl, rfl, by rw [Lib.bytesWorld_size]; omega, fun k hk => Lib.bytesWorld_at_old w e s k hk⟩
theorem bytes_rd (l : List Nat) (h256 : ∀ x ∈ l, x < 256) (w : World) (e : TypeId) : Rd (Lib.bytesWorld w e (bstr l)) (w.heap.size + 1) (some ⟨w.heap.size, 0, none⟩) (ints .u8 l) := by
  refine .inr ⟨w.heap.size, 0, rfl, by omega, fun k v hv => ?_⟩
  have hk : k < l.length := by
    have := (List.getElem?_eq_some_iff.1 hv).1
    simpa [ints] using this
  rw [ints_get .u8 l k hk] at hv
  rw [Nat.zero_add, Lib.bytesWorld_cell w e (bstr l) k (by rw [bstr_size]; exact hk), bstr_toList]
  rw [← hv]
  simp [hk, Nat.mod_eq_of_lt (h256 _ (List.getElem_mem hk))]
/-- The conversion of a string into bytes. -/
theorem conv_bytes (l : List Nat) (h256 : ∀ x ∈ l, x < 256) (w : World) : ∃ w' c, (convert 9 31 (.string (bstr l))).run Try.prog w = .ok (.slice (some ⟨w.heap.size, 0, none⟩) l.length c) w' ∧ Rd w' w'.heap.size (some ⟨w.heap.size, 0, none⟩) (ints .u8 l) ∧ Below w.heap.size w w' := by
  have h := Lib.run_convert_string_bytes (P := Try.prog) w 9 31 5 (bstr l) Try.underlying9 Try.underlying31 Try.underlying5
  rw [bstr_size] at h
  refine ⟨_, _, h, ?_, bytes_below w _ _⟩
  rw [Lib.bytesWorld_size]
  exact bytes_rd l h256 w _
end Go.Proofs.Ytnmldploafpbdaa
