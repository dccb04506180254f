/- Texts cut and joined: mathematics. -/
import Derived.Test.YtphiggjgapaaiaaDoorChgT
namespace Go.Proofs.YtphiggjgapaaiaaDoor
open Go.RowKit
set_option linter.unusedVariables false

theorem fits_two (x y : Col3) (v u : Val3) (h : FitsV x.2.2 v) (h' : FitsV y.2.2 u) : FitsL [x, y] [v, u] := ⟨rfl, fun i h1 h2 => by
  have h3 : i = 0 ∨ i = 1 := by simp at h1; omega
  rcases h3 with rfl | rfl
  · exact h
  · exact h'⟩
theorem byte_eq (s : ByteArray) (j : Nat) (h : j < s.size) (c : Nat) (hc : c < 256) : s.data.toList[j]? = some c.toUInt8 ↔ s[j].toNat = c := by
  have e : s.data.toList[j]? = some s[j] := by rw [Array.getElem?_toList]; exact Array.getElem?_eq_getElem (show j < s.data.size from h)
  rw [e]
  constructor
  · intro h1
    injection h1 with h1
    rw [h1]; show c % 256 = c; omega
  · intro h1
    congr 1
    apply UInt8.toNat_inj.1
    rw [h1]; show c = c % 256; omega
theorem head_no (s : ByteArray) (u c : Nat) (hu : u < s.size) (hc : c < 256) (hidx : Lib.indexByte s.data.toList c.toUInt8 = (u : Int)) (j : Nat) (h : j < (s.extract 0 u).size) : (s.extract 0 u)[j].toNat ≠ c := by
  intro e
  have hj : j < u := by rw [ByteArray.size_extract] at h; omega
  refine (Lib.indexByte_some hidx).2 j hj ((byte_eq s j (by omega) c hc).2 ?_)
  rw [ByteArray.getElem_extract] at e
  simpa using e
theorem text_no (s : ByteArray) (c : Nat) (hc : c < 256) (hidx : Lib.indexByte s.data.toList c.toUInt8 = -1) (j : Nat) (h : j < s.size) : s[j].toNat ≠ c := fun e =>
  Lib.indexByte_none hidx j ((byte_eq s j h c hc).2 e)
theorem cat_text (s : ByteArray) (u c : Nat) (hu : u < s.size) (hb : s.data.toList[u]? = some c.toUInt8) : (s.extract 0 u ++ bstr [c]) ++ s.extract (u + 1) s.size = s := by
  apply ByteArray.ext
  apply Array.ext'
  rw [ByteArray.data_append, ByteArray.data_append, Array.toList_append, Array.toList_append, bstr_toList, ByteArray.data_extract, ByteArray.data_extract, Array.toList_extract, Array.toList_extract]
  have hl : s.data.toList.length = s.size := by rw [Array.length_toList]; rfl
  have hd : s.data.toList = s.data.toList.take u ++ c.toUInt8 :: s.data.toList.drop (u + 1) := by
    obtain ⟨h1, h2⟩ := List.getElem?_eq_some_iff.1 hb
    conv => lhs; rw [← List.take_append_drop u s.data.toList, List.drop_eq_getElem_cons h1, h2]
  conv => rhs; rw [hd]
  rw [List.extract_eq_take_drop, List.extract_eq_take_drop]
  simp [List.take_of_length_le, hl]
end Go.Proofs.YtphiggjgapaaiaaDoor
