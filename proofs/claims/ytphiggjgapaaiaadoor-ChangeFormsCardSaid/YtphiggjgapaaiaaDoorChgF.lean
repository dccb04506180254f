/- ChangeForms: what changes, rows and answers there are. -/
import Derived.Test.YtphiggjgapaaiaaDoorChgM
import Derived.Test.YtphiggjgapaaiaaDoorChgU
import Derived.Test.YtphiggjgapaaiaaDoorLits
namespace Go.Proofs.YtphiggjgapaaiaaDoor
open Go.RowKit
set_option linter.unusedVariables false

structure Ch where
  kind : Int
  col : Int
  nm : ByteArray
  ty : Int
  v0 : Int
  v1 : Int
  v2 : ByteArray
  sep : Nat
  N : Int
def Ch.v (c : Ch) : Value := chg c.kind c.col c.nm c.ty c.v0 c.v1 c.v2 c.sep c.N
def Ch.cells (c : Ch) : List Value := [.int .i64 c.kind, .int .i64 c.col, .string c.nm, .int .i64 c.ty, .int .i64 c.v0, .int .i64 c.v1, .string c.v2, .int .u8 c.sep, .int .i64 c.N]
abbrev sE : ByteArray := ⟨#[]⟩
abbrev sXY : ByteArray := ⟨#[120, 58, 58, 121]⟩
abbrev sCY : ByteArray := ⟨#[58, 121]⟩
abbrev chs : List Ch := [⟨1, 0, ⟨#[110]⟩, 2, 2, 9, sE, 0, 0⟩, ⟨2, 1, sE, 0, 0, 0, sE, 0, 0⟩, ⟨3, 1, ⟨#[113]⟩, 0, 0, 0, sE, 0, 0⟩, ⟨4, 1, sE, 0, 0, 0, sE, 0, 0⟩, ⟨4, 3, sE, 0, 0, 0, sE, 0, 0⟩, ⟨5, 2, ⟨#[117]⟩, 0, 0, 0, sE, 58, 0⟩, ⟨5, 2, ⟨#[117]⟩, 0, 0, 0, sE, 122, 0⟩, ⟨6, 1, sE, 0, 0, 0, sE, 0, 0⟩, ⟨9, 1, sE, 0, 0, 0, sE, 0, 2⟩]
abbrev xs3 : List Col3 := [(1, ⟨#[115]⟩, 1), (2, ⟨#[116]⟩, 4), (3, ⟨#[98]⟩, 3)]
abbrev vA : Val3 := (1, -7, sE)
abbrev vB : Val3 := (4, 0, sXY)
abbrev vC : Val3 := (3, 1, sE)
abbrev vN : Val3 := (0, 0, sE)
abbrev row3 : List Val3 := [vA, vB, vC]
abbrev wants : List (List Val3) := [[vA, vB, vC, (2, 9, sE)], [vB, vC], row3, [(2, -7, sE), vB, vC], [vA, vB, (1, 1, sE)], [vA, (4, 0, sX), (4, 0, sCY), vC], [vA, vB, vN, vC], row3, row3]
theorem fits_three (x y z : Col3) (v u t : Val3) (h : FitsV x.2.2 v) (h' : FitsV y.2.2 u) (h2 : FitsV z.2.2 t) : FitsL [x, y, z] [v, u, t] := ⟨rfl, fun i h1 h3 => by
  have h4 : i = 0 ∨ i = 1 ∨ i = 2 := by simp at h1; omega
  rcases h4 with rfl | rfl | rfl
  · exact h
  · exact h'
  · exact h2⟩
theorem fit_row3 : FitsL xs3 row3 := fits_three _ _ _ _ _ _ ⟨by decide, .inr rfl, by show MayV 1 (-7) 0; unfold MayV; omega⟩ (may_text _ (by decide)) ⟨by decide, .inr rfl, by show MayV 3 1 0; unfold MayV; omega⟩
theorem fit_none3 : FitsL xs3 [vN, vN, vN] := fits_three _ _ _ _ _ _ (may_none 1 (by omega)) (may_none 4 (by omega)) (may_none 3 (by omega))
theorem cut_xy : cutV vB 58 = ((4, 0, sX), (4, 0, sCY)) := by
  have h : Lib.indexByte sXY.data.toList (58 : Nat).toUInt8 = 1 := by decide
  unfold cutV
  rw [if_pos ⟨rfl, by rw [h]; decide⟩, h]
  rfl
theorem cut_xyz2 : cutV vB 122 = (vB, vN) := by
  have h : Lib.indexByte sXY.data.toList (122 : Nat).toUInt8 = -1 := by decide
  unfold cutV
  rw [if_neg]
  rintro ⟨_, h2⟩
  rw [h] at h2
  exact absurd h2 (by decide)
theorem cut_vn (c : Nat) : cutV vN c = (vN, vN) := by
  unfold cutV
  rw [if_neg]
  rintro ⟨h2, _⟩
  exact absurd h2 (by decide)
theorem chs_len : chs.length = 9 := rfl
theorem wants_len : wants.length = 9 := rfl

theorem chRow_i (i : Nat) (h : i < chs.length) (gv gr : Nat) (W : World) (hs : S3 W) (hV : Has W (some ⟨gv, 0, none⟩) (fc xs3)) (hR : Has W (some ⟨gr, 0, none⟩) (fl row3)) :
    Calls Tryd.prog 8 #[.agg #[.slice (some ⟨gv, 0, none⟩) 3 3, .int .i64 3], (chs[i]).v, .slice (some ⟨gr, 0, none⟩) 3 3] W (RowOk (wants[i]'(by rw [wants_len]; rw [chs_len] at h; exact h)) W) := by
  have hn : (some (⟨gr, 0, none⟩ : Addr)) = none → 3 = 0 := by intro h; cases h
  rw [chs_len] at h
  match i, h with
  | 0, _ => exact row_add _ _ 3 3 3 3 3 xs3 row3 0 _ 2 2 9 sE 0 0 W hs rfl rfl (by omega) (by omega) hV hR hn rfl fit_row3 (by omega)
  | 1, _ => exact row_drop _ _ 3 3 3 3 3 xs3 row3 1 _ 0 0 0 sE 0 0 W hs rfl rfl (by omega) (by omega) hV hR hn 0 rfl fit_row3 vA rfl _ rfl
  | 2, _ => exact row_same_some _ _ 3 3 3 3 3 xs3 row3 3 1 _ 0 0 0 sE 0 0 W hs rfl rfl (by omega) (by omega) hV hR hn 0 rfl fit_row3 vA rfl (by omega) (by omega) (by omega) (by omega)
  | 3, _ => exact row_widen _ _ 3 3 3 3 3 xs3 row3 1 _ 0 0 0 sE 0 0 W hs rfl rfl (by omega) (by omega) hV hR hn 0 rfl fit_row3 vA rfl _ rfl
  | 4, _ => exact row_widen _ _ 3 3 3 3 3 xs3 row3 3 _ 0 0 0 sE 0 0 W hs rfl rfl (by omega) (by omega) hV hR hn 2 rfl fit_row3 vC rfl _ rfl
  | 5, _ => exact row_split_mid _ _ 3 3 3 3 3 xs3 row3 2 _ 0 0 0 sE 58 0 W hs rfl rfl (by omega) (by omega) hV hR hn 1 rfl fit_row3 vB rfl (by decide) _ cut_xy (by omega) (by omega) _ rfl
  | 6, _ => exact row_split_mid _ _ 3 3 3 3 3 xs3 row3 2 _ 0 0 0 sE 122 0 W hs rfl rfl (by omega) (by omega) hV hR hn 1 rfl fit_row3 vB rfl (by decide) _ cut_xyz2 (by omega) (by omega) _ rfl
  | 7, _ => exact row_same_some _ _ 3 3 3 3 3 xs3 row3 6 1 _ 0 0 0 sE 0 0 W hs rfl rfl (by omega) (by omega) hV hR hn 0 rfl fit_row3 vA rfl (by omega) (by omega) (by omega) (by omega)
  | 8, _ => exact row_same_some _ _ 3 3 3 3 3 xs3 row3 9 1 _ 0 0 0 sE 0 2 W hs rfl rfl (by omega) (by omega) hV hR hn 0 rfl fit_row3 vA rfl (by omega) (by omega) (by omega) (by omega)

theorem flat9 : ∀ (l : List Ch) (i : Nat) (h : i < l.length) (j : Nat), j < 9 → (l.flatMap Ch.cells)[i * 9 + j]? = (l[i]).cells[j]?
  | c :: r, 0, _, j, hj => by
    rw [List.flatMap_cons, Nat.zero_mul, Nat.zero_add, List.getElem?_append_left (by show j < 9; exact hj)]; rfl
  | c :: r, i + 1, h, j, hj => by
    have e := flat9 r i (by simpa using h) j hj
    rw [List.flatMap_cons, List.getElem?_append_right (by show 9 ≤ (i + 1) * 9 + j; omega), show (i + 1) * 9 + j - (Ch.cells c).length = i * 9 + j from by show (i + 1) * 9 + j - 9 = _; omega, e]; rfl
/-- What the loop and the questions behind it lean on. -/
structure FW (g : Nat) (W : World) : Prop where
  V : Has W (some ⟨g, 0, none⟩) (fc xs3)
  s : Blk W (g + 1) #[.slice (some ⟨g, 0, none⟩) 3 3, .int .i64 3] 27
  R : Has W (some ⟨g + 5, 0, none⟩) (fl row3)
  C : ∀ i (h : i < chs.length) j v, (chs[i]).cells[j]? = some v → W.cell? ⟨g + 6, i * 9 + j, none⟩ = some v
  Wn : ∀ i (h : i < wants.length), ∃ b c, W.cell? ⟨g + 13, i, none⟩ = some (.slice (some ⟨b, 0, none⟩) (wants[i]).length c) ∧ Has W (some ⟨b, 0, none⟩) (fl wants[i])
theorem FW.later {g : Nat} {W W' : World} (h : FW g W) (l : Later W W') : FW g W' :=
  ⟨h.V.later l, h.s.later l, h.R.later l, fun i hi j v hv => l.cell (h.C i hi j v hv), fun i hi => by obtain ⟨b, c, h1, h2⟩ := h.Wn i hi; exact ⟨b, c, l.cell h1, h2.later l⟩⟩
abbrev fwL (g : Nat) : List Obj := [.cells (fc xs3).toArray 24, .cells #[.slice (some ⟨g, 0, none⟩) 3 3, .int .i64 3] 27, .cells (fl [vA]).toArray 29, .cells (fl [vB]).toArray 29, .cells (fl [vC]).toArray 29, .cells (fl row3).toArray 29, .cells (chs.flatMap Ch.cells).toArray 35,
  .cells (fl [vA, vB, vC, (2, 9, sE)]).toArray 29, .cells (fl [vB, vC]).toArray 29, .cells (fl [(2, -7, sE), vB, vC]).toArray 29, .cells (fl [vA, vB, (1, 1, sE)]).toArray 29, .cells (fl [vA, (4, 0, sX), (4, 0, sCY), vC]).toArray 29, .cells (fl [vA, vB, vN, vC]).toArray 29,
  .cells #[.slice (some ⟨g + 7, 0, none⟩) 4 4, .slice (some ⟨g + 8, 0, none⟩) 2 2, .slice (some ⟨g + 5, 0, none⟩) 3 3, .slice (some ⟨g + 9, 0, none⟩) 3 3, .slice (some ⟨g + 10, 0, none⟩) 3 3, .slice (some ⟨g + 11, 0, none⟩) 4 4, .slice (some ⟨g + 12, 0, none⟩) 4 4, .slice (some ⟨g + 5, 0, none⟩) 3 3, .slice (some ⟨g + 5, 0, none⟩) 3 3] 31]
theorem FW.mk' (g : Nat) (w : World) (hg : w.heap.size = g) : FW g (wLits w (fwL g)) := by
  have B := fun (k : Nat) (cs : Array Value) (t : TypeId) (h : (fwL g)[k]? = some (.cells cs t)) => wLits_blk hg k h
  have b5 := (B 5 _ _ rfl).has
  have b6 := B 6 _ _ rfl
  have b13 := B 13 _ _ rfl
  refine ⟨(B 0 _ _ rfl).has, B 1 _ _ rfl, b5, fun i hi j v hv => ?_, fun i hi => ?_⟩
  · have hj : j < 9 := (List.getElem?_eq_some_iff.1 hv).1
    refine b6.cell (i * 9 + j) v ?_
    rw [List.getElem?_toArray, flat9 chs i hi j hj, hv]
  · rw [wants_len] at hi
    match i, hi with
    | 0, _ => exact ⟨g + 7, 4, b13.cell 0 _ rfl, (B 7 _ _ rfl).has⟩
    | 1, _ => exact ⟨g + 8, 2, b13.cell 1 _ rfl, (B 8 _ _ rfl).has⟩
    | 2, _ => exact ⟨g + 5, 3, b13.cell 2 _ rfl, b5⟩
    | 3, _ => exact ⟨g + 9, 3, b13.cell 3 _ rfl, (B 9 _ _ rfl).has⟩
    | 4, _ => exact ⟨g + 10, 3, b13.cell 4 _ rfl, (B 10 _ _ rfl).has⟩
    | 5, _ => exact ⟨g + 11, 4, b13.cell 5 _ rfl, (B 11 _ _ rfl).has⟩
    | 6, _ => exact ⟨g + 12, 4, b13.cell 6 _ rfl, (B 12 _ _ rfl).has⟩
    | 7, _ => exact ⟨g + 5, 3, b13.cell 7 _ rfl, b5⟩
    | 8, _ => exact ⟨g + 5, 3, b13.cell 8 _ rfl, b5⟩
end Go.Proofs.YtphiggjgapaaiaaDoor
