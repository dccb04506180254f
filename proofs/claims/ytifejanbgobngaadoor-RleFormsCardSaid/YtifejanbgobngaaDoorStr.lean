/- Bytes as a string. -/
import Derived.Test.YtifejanbgobngaaDoorInfo
import Derived.Lib.Strings
namespace Go.Proofs.YtifejanbgobngaaDoor
open Go.RowKit
set_option linter.unusedVariables false

/-- The string of these bytes. -/
def bstr (l : List Nat) : ByteArray := strOfNums (l.map fun (n : Nat) => (n : Int))
theorem bstr_toList (l : List Nat) : (bstr l).data.toList = l.map UInt8.ofNat := by
  unfold bstr
  rw [strOfNums_data, List.map_map]
  rfl
theorem bstr_inj {a b : List Nat} (ha : ∀ x ∈ a, x < 256) (hb : ∀ x ∈ b, x < 256) (h : bstr a = bstr b) : a = b := by
  have h1 : a.map UInt8.ofNat = b.map UInt8.ofNat := by rw [← bstr_toList, ← bstr_toList, h]
  have h2 : (a.map UInt8.ofNat).map UInt8.toNat = (b.map UInt8.ofNat).map UInt8.toNat := by rw [h1]
  rw [List.map_map, List.map_map] at h2
  have e : ∀ l : List Nat, (∀ x ∈ l, x < 256) → l.map (UInt8.toNat ∘ UInt8.ofNat) = l := by
    intro l hl
    conv => rhs; rw [← List.map_id l]
    refine List.map_congr_left fun x hx => ?_
    simp [Nat.mod_eq_of_lt (hl x hx)]
  rwa [e a ha, e b hb] at h2

theorem bstr_ne {a b : List Nat} (ha : ∀ x ∈ a, x < 256) (hb : ∀ x ∈ b, x < 256) (h : a ≠ b) : ((bstr a).toList == (bstr b).toList) = false := by
  rw [beq_eq_false_iff_ne, Lib.toList_data, Lib.toList_data]
  intro e
  apply h
  refine bstr_inj ha hb ?_
  have : (bstr a).data = (bstr b).data := Array.ext' e
  cases h1 : bstr a
  cases h2 : bstr b
  rw [h1, h2] at this
  exact congrArg _ this

section
variable {P : Program}
theorem run_bstr (src e dst : TypeId) (hs : P.underlying src = some (.slice e)) (he : P.underlying e = some (.int .u8)) (hd : P.underlying dst = some .string)
    (A : Option Addr) (n c : Nat) (l : List Nat) (hn : n = l.length) (w : World) (B : Nat) (hr : Rd w B A (ints .u8 l)) :
    (convert src dst (.slice A n c)).run P w = .ok (.string (bstr l)) w := by
  subst hn
  rcases A with _ | a
  · rcases hr with h | ⟨b, off, h, _⟩
    · have : l = [] := by simpa [ints] using h
      subst this
      exact run_convert_bytes_nil w src e hs he _ c dst hd
    · cases h
  · rcases hr with h | ⟨b, off, h, _, hc⟩
    · have : l = [] := by simpa [ints] using h
      subst this
      have hl : (loadCells a 0).run P w = .ok (([] : List Int).map (Value.int .u8)).toArray w := by
        have := run_loadCells_list (P := P) w a [] (fun j v hj => by simp at hj)
        simpa using this
      rw [run_convert_bytes_string w src dst e _ _ c hs he hd]
      have h2 := run_bytesToString (P := P) w a 0 c [] hl
      exact h2
    · injection h with h
      subst h
      have := run_convert_bytes_arg (P := P) w src e hs he b off l.length c (l.map fun (n : Nat) => (n : Int)) (by simp) (fun i hi => by
        have h1 := hc i _ (ints_get .u8 l i hi)
        rw [h1]
        simp [hi])
      exact this dst hd
end
end Go.Proofs.YtifejanbgobngaaDoor
