/- SchemaIDs: where things lie. -/
import Derived.Test.YtklohbglkbhjhaaDoorSchR
import Derived.Test.YtklohbglkbhjhaaDoorIdsM
import Derived.Test.YtklohbglkbhjhaaDoorPlayS
namespace Go.Proofs.YtklohbglkbhjhaaDoor
open Go.RowKit
set_option linter.unusedVariables false

def gbs (G : Nat → Bool) : List Value := (List.range 100).map fun j => Value.bool (G j)
theorem gbs_get (G : Nat → Bool) (k : Nat) (h : k < 100) : (gbs G)[k]? = some (.bool (G k)) := by
  unfold gbs
  rw [List.getElem?_map, List.getElem?_range h]; rfl
theorem gbs_set (G : Nat → Bool) (k : Nat) : (gbs G).set k (.bool true) = gbs (goneAt G k) := by
  refine List.ext_getElem? fun j => ?_
  by_cases hj : j < 100
  · rw [gbs_get _ j hj, List.getElem?_set]
    unfold goneAt
    by_cases e : k = j
    · subst e
      rw [if_pos rfl, if_pos (by simp [gbs]; exact hj), if_pos rfl]
    · rw [if_neg e, gbs_get _ j hj, if_neg (fun h => e h.symm)]
  · rw [List.getElem?_eq_none (by simp [gbs]; omega), List.getElem?_eq_none (by simp [gbs]; omega)]
theorem IdI.next {s : St3} {G : Nat → Bool} {i : Nat} (h : IdI s G i) : IdI s G (i + 1) := ⟨⟨h.last.1, by have := h.last; push_cast; omega⟩, h.ids, h.gone, h.len, h.nm, h.enc⟩
/-- Where the schema, the layout and what is gone lie. -/
structure IdA (B gs gl gg : Nat) (s : St3) (G : Nat → Bool) (gv vc ge ec : Nat) (wr : World) : Prop where
  bs : Blk wr gs #[.slice (some ⟨gv, 0, none⟩) s.1.length vc, .int .i64 s.2.1] 24
  bl : Blk wr gl #[.int .i64 s.2.2.sb, .int .i64 s.2.2.pb, .int .i64 s.2.2.parts, .slice (some ⟨ge, 0, none⟩) s.2.2.enc.length ec] 27
  bg : Blk wr gg (gbs G).toArray 64
  ov : wr.ownsRow B 59 3 (.slice (some ⟨gv, 0, none⟩) s.1.length vc) s.1.length (fc s.1)
  oe : wr.ownsRow B 3 1 (.slice (some ⟨ge, 0, none⟩) s.2.2.enc.length ec) s.2.2.enc.length (ein s.2.2.enc)
  hb : B ≤ gs ∧ B ≤ gl ∧ B ≤ gg
section
variable {B gs gl gg : Nat} {s : St3} {G : Nat → Bool} {gv vc ge ec : Nat} {wr w' : World}
theorem IdA.later (h : IdA B gs gl gg s G gv vc ge ec wr) (l : Later wr w') : IdA B gs gl gg s G gv vc ge ec w' :=
  ⟨h.bs.later l, h.bl.later l, h.bg.later l, own_later h.ov l, own_later h.oe l, h.hb⟩
theorem own_put {e : TypeId} {size n c g : Nat} {xs : List Value} (h : wr.ownsRow B e size (.slice (some ⟨g, 0, none⟩) n c) n xs) {q : Nat} {cs : Array Value} {t : TypeId} (hb : Blk wr q cs t) (ht : e ≠ t) (k : Nat) (v : Value) : (wr.setCell ⟨q, k, none⟩ v).ownsRow B e size (.slice (some ⟨g, 0, none⟩) n c) n xs := by
  obtain ⟨cu, hcu⟩ := own_typ h
  exact own_apart h (only_setCell (g := q) (World.grownBy.refl _ _) (.inl rfl) v) (fun p hp e => by injection hp with hp; injection e with e; exact ne_typ hcu hb ht (hp.trans e))
theorem IdA.gone (h : IdA B gs gl gg s G gv vc ge ec wr) (k : Nat) : IdA B gs gl gg s (goneAt G k) gv vc ge ec (wr.setCell ⟨gg, k, none⟩ (.bool true)) := by
  have n1 : gs ≠ gg := ne_typ h.bs h.bg (by decide)
  have n2 : gl ≠ gg := ne_typ h.bl h.bg (by decide)
  refine ⟨h.bs.far (by exact n1) _, h.bl.far (by exact n2) _, ?_, own_put h.ov h.bg (by decide) _ _, own_put h.oe h.bg (by decide) _ _, h.hb⟩
  have h1 := h.bg.set_ k (.bool true)
  rw [List.setIfInBounds_toArray, gbs_set] at h1
  exact h1
end
/-- Where SchemaIDs' loop stands. -/
def IdR (w0 : World) (N gs gl gg : Nat) (iv : Value) (wr : World) : Prop :=
  ∃ (i : Nat) (s : St3) (G : Nat → Bool) (gv vc ge ec : Nat), iv = .int .i64 i ∧ i ≤ N ∧ i ≤ 30 ∧ IdI s G i ∧ IdA w0.heap.size gs gl gg s G gv vc ge ec wr ∧ Later w0 wr
theorem IdR.mk {w0 wr : World} {N gs gl gg : Nat} (y : Int) (i : Nat) (s : St3) (G : Nat → Bool) (gv vc ge ec : Nat) (hy : y = (i : Int)) (hi : i ≤ N) (h30 : i ≤ 30) (h1 : IdI s G i) (h2 : IdA w0.heap.size gs gl gg s G gv vc ge ec wr) (l : Later w0 wr) : IdR w0 N gs gl gg (.int .i64 y) wr := by
  subst hy; exact ⟨i, s, G, gv, vc, ge, ec, rfl, hi, h30, h1, h2, l⟩
end Go.Proofs.YtklohbglkbhjhaaDoor
