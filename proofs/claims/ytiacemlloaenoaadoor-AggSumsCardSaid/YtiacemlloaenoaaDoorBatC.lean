/- The walks of batch.check, batch.Columns and of the document's Columns. (tools/gen_batc.py) -/
import Derived.Test.YtiacemlloaenoaaDoorColT
import Derived.Test.YtiacemlloaenoaaDoorAsW
import Derived.Test.YtiacemlloaenoaaDoorHeldZ
namespace Go.Proofs.YtiacemlloaenoaaDoor
open Go.RowKit
set_option linter.unusedVariables false

theorem colsOk_of {ss : List SlV} {z : Int} : ColsOk (ss.map (·.l)) z ↔ ((1 ≤ z ∧ z ≤ 6) ∧ ∀ s ∈ ss, (s.l.length : Int) = z) := by
  unfold ColsOk
  constructor
  · rintro ⟨h1, h2⟩; exact ⟨h1, fun s hs => h2 _ (List.mem_map.2 ⟨s, hs, rfl⟩)⟩
  · rintro ⟨h1, h2⟩
    refine ⟨h1, fun r hr => ?_⟩
    obtain ⟨s, hs, rfl⟩ := List.mem_map.1 hr
    exact h2 s hs
theorem info_sv : (Tryd.prog.info? 37).map (fun i => (i.zero, i.size, i.bytes)) = some (some (.slice none 0 0), 1, 24) := by kernel_rfl
/-- Where the loops of Columns stand. -/
def CoI (L : List (List Val3)) (W g : Nat) (F : Nat → Nat → Nat) (N : Nat) (w : World) (iv : Value) (wr : World) : Prop :=
  ∃ (k : Nat) (ss : List SlG), iv = .int .i64 k ∧ k ≤ N ∧ TabC L W (F k) ss ∧ Tab 37 40 3 wr g ss ∧ Later w wr
theorem CoI.mk {L : List (List Val3)} {W g : Nat} {F : Nat → Nat → Nat} {N : Nat} {w wr : World} (y : Int) (k : Nat) (ss : List SlG) (hy : y = (k : Int)) (hk : k ≤ N) (h : TabC L W (F k) ss) (ht : Tab 37 40 3 wr g ss) (l : Later w wr) : CoI L W g F N w (.int .i64 y) wr := by
  subst hy; exact ⟨k, ss, rfl, hk, h, ht, l⟩

end Go.Proofs.YtiacemlloaenoaaDoor
