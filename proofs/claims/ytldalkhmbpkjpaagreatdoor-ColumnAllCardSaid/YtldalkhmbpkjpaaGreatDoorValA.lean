/- Walks of package value: check, May, Fits, width, rank. -/
import Derived.Test.YtldalkhmbpkjpaaGreatDoorNumB
import Derived.Test.YtldalkhmbpkjpaaGreatDoorBase
namespace Go.Proofs.YtldalkhmbpkjpaaGreatDoor
open Go.RowKit
set_option linter.unusedVariables false

/-- What the walks ask of the four sentinels: each variable holds a pointer. -/
structure Sents (w : World) (B : Nat) (a0 a2 a3 a4 : Addr) : Prop where
  short : w.cell? ⟨2, 0, none⟩ = some (.iface 164 (.pointer (some a0)))
  value : w.cell? ⟨1, 0, none⟩ = some (.iface 164 (.pointer (some a2)))
  bound : w.cell? ⟨3, 0, none⟩ = some (.iface 164 (.pointer (some a3)))
  type : w.cell? ⟨0, 0, none⟩ = some (.iface 164 (.pointer (some a4)))
  lt : ∀ g ∈ [2, 1, 3, 0], g < B
theorem Sents.below {w w' : World} {B : Nat} {a0 a2 a3 a4 : Addr} (h : Sents w B a0 a2 a3 a4) (hb : Below B w w') : Sents w' B a0 a2 a3 a4 :=
  ⟨(hb.cell (show 2 < B from h.lt _ (by simp))).trans h.short, (hb.cell (show 1 < B from h.lt _ (by simp))).trans h.value, (hb.cell (show 3 < B from h.lt _ (by simp))).trans h.bound, (hb.cell (show 0 < B from h.lt _ (by simp))).trans h.type, h.lt⟩
theorem Sents.more {w : World} {B B' : Nat} {a0 a2 a3 a4 : Addr} (h : Sents w B a0 a2 a3 a4) (hB : B ≤ B') : Sents w B' a0 a2 a3 a4 := ⟨h.short, h.value, h.bound, h.type, fun g hg => Nat.lt_of_lt_of_le (h.lt g hg) hB⟩

/-- Which values may be. -/
def MayV (t i : Int) (n : Nat) : Prop :=
  (t = 0 ∧ i = 0 ∧ n = 0) ∨ (t = 1 ∧ -32768 ≤ i ∧ i ≤ 32767 ∧ n = 0) ∨ (t = 2 ∧ n = 0) ∨ (t = 3 ∧ 0 ≤ i ∧ i ≤ 1 ∧ n = 0) ∨ (t = 4 ∧ i = 0 ∧ n ≤ 20)

/-- What check tells: nothing, or an error that is not nil. -/
def CheckPost (t i : Int) (n : Nat) (w : World) (e : Ending) (w' : World) : Prop :=
  ((MayV t i n ∧ e = .returned .nilIface) ∨ (¬ MayV t i n ∧ ∃ p, e = .returned (.iface 82 (.pointer (some p))))) ∧ Below w.heap.size w w'

set_option maxRecDepth 100000 in
set_option maxHeartbeats 1000000 in
theorem check_any (t i : Int) (s : ByteArray) (a0 a2 a3 a4 : Addr) (w : World) (hs : Sents w w.heap.size a0 a2 a3 a4) :
    Calls Tryz.prog 85 #[.agg #[.int .i64 t, .int .i64 i, .string s]] w (CheckPost t i s.size w) := by
  have h2 := hs.value
  have h3 := hs.bound
  have h4 := hs.type
  have g2 : 1 < w.heap.size := hs.lt _ (by simp)
  have g3 : 3 < w.heap.size := hs.lt _ (by simp)
  have g4 : 0 < w.heap.size := hs.lt _ (by simp)
  clear hs
  have e1 : ∀ o : Obj, Below w.heap.size w (w.alloc o) := fun o => (Below.refl _ _).alloc (Nat.le_refl _) _
  have e2 : ∀ o o' : Obj, Below w.heap.size w ((w.alloc o).alloc o') := fun o o' => (e1 o).alloc (by simp) o'
  have HE1 := Lib.hid e1
  have HE2 := Lib.hid e2
  clear e1 e2
  by_cases hz : s.size = 0
  · have hse : s.toList.isEmpty = true := by
      rw [Lib.toList_data]; cases s with | mk d => simpa [ByteArray.size] using hz
    go_enter Tryz.func85, Tryz.ntmps85
    (go_wp2_with (go_at_call 27; refine (at_any _ _ _ _ _ rfl).mono ?_; rintro e w' ⟨rfl, rfl⟩))
    all_goals go_ret
    all_goals simp only [bne_iff_ne, ne_eq, bne_eq_false_iff_eq, beq_iff_eq, beq_eq_false_iff_ne] at *
    all_goals first
      | exact ⟨.inl ⟨by unfold MayV; omega, rfl⟩, HE1.out _⟩
      | exact ⟨.inr ⟨by unfold MayV; omega, _, rfl⟩, HE2.out _ _⟩
  · have hse : s.toList.isEmpty = false := by
      rw [Lib.toList_data]; cases s with | mk d => simpa [ByteArray.size] using hz
    go_enter Tryz.func85, Tryz.ntmps85
    (go_wp2_with (go_at_call 27; refine (at_any _ _ _ _ _ rfl).mono ?_; rintro e w' ⟨rfl, rfl⟩))
    all_goals go_ret
    all_goals simp only [bne_iff_ne, ne_eq, bne_eq_false_iff_eq, beq_iff_eq, beq_eq_false_iff_ne] at *
    all_goals first
      | exact ⟨.inl ⟨by unfold MayV; omega, rfl⟩, HE1.out _⟩
      | exact ⟨.inr ⟨by unfold MayV; omega, _, rfl⟩, HE2.out _ _⟩
end Go.Proofs.YtldalkhmbpkjpaaGreatDoor
