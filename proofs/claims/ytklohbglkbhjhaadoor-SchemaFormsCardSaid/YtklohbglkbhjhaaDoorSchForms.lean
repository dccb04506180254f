/- The walk of SchemaForms. (tools/gen_schforms.py) -/
import Derived.Test.YtklohbglkbhjhaaDoorSchR
import Derived.Test.YtklohbglkbhjhaaDoorLits
import Derived.Great.BuildSlice
namespace Go.Proofs.YtklohbglkbhjhaaDoor
open Go.RowKit
set_option linter.unusedVariables false

abbrev nI : ByteArray := ⟨#[105]⟩
abbrev nT : ByteArray := ⟨#[116]⟩
abbrev nU : ByteArray := ⟨#[117]⟩
abbrev nX : ByteArray := ⟨#[120]⟩
abbrev nY : ByteArray := ⟨#[121]⟩
abbrev nN : ByteArray := ⟨#[110]⟩
abbrev sfC : List Col3 := [(1, nI, 2), (3, nT, 4), (4, nB, 3), (5, nU, 4)]
abbrev sfF : List Col3 := [(1, nI, 2), (3, nT, 4), (4, nB, 3), (5, nU, 4), (2, nX, 1), (6, nY, 1)]
abbrev sfS : St3 := (sfC, 6, ⟨1, 3, 2, [5, 3, 4, 1]⟩)
abbrev sfU : St3 := (sfF, 6, ⟨1, 3, 2, [1, 1, 1, 1, 1, 1]⟩)
def litS (g : Nat) : List Obj := [.cells (fc sfC).toArray 59, .cells #[.slice (some ⟨g, 0, none⟩) 4 4, .int .i64 6] 24, .cells (ein [5, 3, 4, 1]).toArray 3, .cells #[.int .i64 1, .int .i64 3, .int .i64 2, .slice (some ⟨g + 2, 0, none⟩) 4 4] 27, .cells #[.slice (some ⟨g, 0, none⟩) 4 4, .int .i64 6] 24, .cells #[] 59]

/-- Changes as cells. -/
def fch (l : List Chg) : List Value := l.flatMap fun c => [.int .i64 c.kind, .int .i64 c.col, .string c.name, .int .i64 c.typ, .int .i64 c.val.1, .int .i64 c.val.2.1, .string c.val.2.2, .int .u8 c.sep, .int .i64 c.num]
theorem fch_get : ∀ (l : List Chg) (k : Nat) (h : k < l.length) (j : Nat) (v : Value), [Value.int .i64 l[k].kind, .int .i64 l[k].col, .string l[k].name, .int .i64 l[k].typ, .int .i64 l[k].val.1, .int .i64 l[k].val.2.1, .string l[k].val.2.2, .int .u8 l[k].sep, .int .i64 l[k].num][j]? = some v → (fch l)[k * 9 + j]? = some v
  | x :: r, 0, _, j, v, h => by
    rw [Nat.zero_mul, Nat.zero_add]
    have h2 := (List.getElem?_eq_some_iff.1 h).1
    exact (List.getElem?_append_left (l₂ := fch r) h2).trans h
  | x :: r, k + 1, hk, j, v, h => by
    have ih := fch_get r k (by simpa using hk) j v h
    rw [show (k + 1) * 9 + j = k * 9 + j + 9 by omega]
    exact ih
theorem info_chg : (Tryd.prog.info? 31).map (fun i => (i.zero, i.size, i.bytes)) = some (some (.agg #[.int .i64 0, .int .i64 0, .string ⟨#[]⟩, .int .i64 0, .int .i64 0, .int .i64 0, .string ⟨#[]⟩, .int .u8 0, .int .i64 0]), 9, 88) := by kernel_rfl
def sfL : List Chg := [⟨1, 0, ⟨#[110]⟩, 4, (4, 0, ⟨#[118]⟩), 0, 0⟩, ⟨1, 0, ⟨#[]⟩, 4, (0, 0, ⟨#[]⟩), 0, 0⟩, ⟨1, 0, ⟨#[110]⟩, 5, (0, 0, ⟨#[]⟩), 0, 0⟩, ⟨1, 0, ⟨#[116]⟩, 4, (0, 0, ⟨#[]⟩), 0, 0⟩, ⟨1, 0, ⟨#[110]⟩, 2, (4, 0, ⟨#[118]⟩), 0, 0⟩, ⟨2, 2, ⟨#[]⟩, 0, (0, 0, ⟨#[]⟩), 0, 0⟩, ⟨2, 1, ⟨#[]⟩, 0, (0, 0, ⟨#[]⟩), 0, 0⟩, ⟨2, 3, ⟨#[]⟩, 0, (0, 0, ⟨#[]⟩), 0, 0⟩, ⟨2, 4, ⟨#[]⟩, 0, (0, 0, ⟨#[]⟩), 0, 0⟩, ⟨3, 1, ⟨#[116]⟩, 0, (0, 0, ⟨#[]⟩), 0, 0⟩, ⟨3, 1, ⟨#[105]⟩, 0, (0, 0, ⟨#[]⟩), 0, 0⟩, ⟨3, 1, ⟨#[97, 32, 98]⟩, 0, (0, 0, ⟨#[]⟩), 0, 0⟩, ⟨4, 1, ⟨#[]⟩, 0, (0, 0, ⟨#[]⟩), 0, 0⟩, ⟨4, 4, ⟨#[]⟩, 0, (0, 0, ⟨#[]⟩), 0, 0⟩, ⟨4, 5, ⟨#[]⟩, 0, (0, 0, ⟨#[]⟩), 0, 0⟩, ⟨5, 3, ⟨#[110]⟩, 0, (0, 0, ⟨#[]⟩), 0, 0⟩, ⟨5, 5, ⟨#[110]⟩, 0, (0, 0, ⟨#[]⟩), 0, 0⟩, ⟨5, 5, ⟨#[98]⟩, 0, (0, 0, ⟨#[]⟩), 0, 0⟩, ⟨5, 1, ⟨#[110]⟩, 0, (0, 0, ⟨#[]⟩), 0, 0⟩, ⟨6, 0, ⟨#[]⟩, 0, (0, 0, ⟨#[]⟩), 0, 0⟩, ⟨6, 2, ⟨#[]⟩, 0, (0, 0, ⟨#[]⟩), 0, 0⟩, ⟨7, 4, ⟨#[]⟩, 0, (0, 0, ⟨#[]⟩), 0, 5⟩, ⟨7, 0, ⟨#[]⟩, 0, (0, 0, ⟨#[]⟩), 0, 1⟩, ⟨7, 0, ⟨#[]⟩, 0, (0, 0, ⟨#[]⟩), 0, 2⟩, ⟨8, 99, ⟨#[]⟩, 0, (0, 0, ⟨#[]⟩), 0, 0⟩, ⟨9, 3, ⟨#[]⟩, 0, (0, 0, ⟨#[]⟩), 0, 6⟩, ⟨9, 9, ⟨#[]⟩, 0, (0, 0, ⟨#[]⟩), 0, 1⟩, ⟨0, 0, ⟨#[]⟩, 0, (0, 0, ⟨#[]⟩), 0, 0⟩, ⟨10, 0, ⟨#[]⟩, 0, (0, 0, ⟨#[]⟩), 0, 0⟩]
def sfE : List Int := [0, 1, 1, 9, 4, 3, 1, 1, 0, 9, 0, 1, 4, 0, 4, 1, 0, 9, 4, 0, 3, 1, 0, 3, 0, 1, 3, 1, 1]
def chz : Chg := ⟨0, 0, ⟨#[]⟩, 0, (0, 0, ⟨#[]⟩), 0, 0⟩
def chcells (c : Chg) : List Value := [.int .i64 c.kind, .int .i64 c.col, .string c.name, .int .i64 c.typ, .int .i64 c.val.1, .int .i64 c.val.2.1, .string c.val.2.2, .int .u8 c.sep, .int .i64 c.num]
theorem sfL_len : sfL.length = 29 := rfl
theorem fch_at (k : Nat) (h : k < 29) (j : Nat) (v : Value) (hv : (chcells (sfL.getD k chz))[j]? = some v) : (fch sfL)[k * 9 + j]? = some v := by
  have hk : k < sfL.length := h
  have e : sfL.getD k chz = sfL[k] := by rw [List.getD_eq_getElem?_getD, List.getElem?_eq_getElem hk]; rfl
  rw [e] at hv
  exact fch_get sfL k hk j v hv
theorem ein_at (k : Nat) (h : k < 29) : (ein sfE)[k]? = some (.int .i64 (sfE.getD k 0)) := by
  have hk : k < sfE.length := h
  have e : sfE.getD k 0 = sfE[k] := by rw [List.getD_eq_getElem?_getD, List.getElem?_eq_getElem hk]; rfl
  rw [e]
  unfold ein
  rw [List.getElem?_map, List.getElem?_eq_getElem hk]; rfl
theorem sf_err : ∀ k, k < 29 → sfE.getD k 0 = errOf (applyM sfS (sfL.getD k chz)) := by decide +kernel
theorem sf_nm : ∀ k, k < 29 → (sfL.getD k chz).name.size ≤ 100000 := by decide +kernel
theorem sf_nm1 : ∀ x ∈ sfS.1, x.2.1.size ≤ 100000 := by decide +kernel
theorem sf_nm2 : ∀ x ∈ sfU.1, x.2.1.size ≤ 100000 := by decide +kernel
abbrev sfT : St3 := (sfC, 10000, ⟨1, 3, 2, [5, 3, 4, 1]⟩)
abbrev sfR : St3 := ([(1, nI, 2), (3, nT, 4), (4, nB, 3), (5, nU, 4), (7, nN, 4)], 7, ⟨1, 3, 2, [5, 3, 4, 1, 1]⟩)
theorem sf_r3 : errOf (applyM sfT (sfL.getD 0 chz)) = 6 := by decide +kernel
theorem sf_r4 : applyM sfS (sfL.getD 16 chz) = .ok sfR := by kernel_rfl
theorem sf_r1 : errOf (applyM sfU (sfL.getD 0 chz)) = 6 := by decide +kernel
theorem sf_r2 : errOf (applyM sfU (sfL.getD 16 chz)) = 6 := by decide +kernel
theorem sfE_len : sfE.length = 29 := rfl

set_option maxRecDepth 100000 in
set_option maxHeartbeats 8000000 in
theorem schemaForms_walk (w : World) (f : Int → Addr) (hs : S15 w f) (h3 : S3 w) :
  Calls Tryd.prog 6 #[] w fun e w' => e = .returned (.bool true) ∧ Later w w' := by
 have HB := Lib.hid (begun15_any w f hs h3)
 have HS := Lib.hid hs
 have H3 := Lib.hid h3
 clear hs h3
 go_enter Tryd.func6, Tryd.ntmps6
 go_wp2_with fail
 refine HB.out.mono ?_
 rintro e w1 ⟨rfl, l1⟩
 have HL1 := Lib.hid l1
 obtain ⟨g, hg⟩ : ∃ x, w1.heap.size = x := ⟨_, rfl⟩
 obtain ⟨w2, hw2⟩ : ∃ x, wLits w1 (litS g) = x := ⟨_, rfl⟩
 have l2 : Later w1 w2 := hw2 ▸ wLits_later _ _
 have b0 : Blk w2 g (fc sfC).toArray 59 := hw2 ▸ wLits_blk hg 0 rfl
 have b1 : Blk w2 (g + 1) #[.slice (some ⟨g, 0, none⟩) 4 4, .int .i64 6] 24 := hw2 ▸ wLits_blk hg 1 rfl
 have b2 : Blk w2 (g + 2) (ein [5, 3, 4, 1]).toArray 3 := hw2 ▸ wLits_blk hg 2 rfl
 have b3 : Blk w2 (g + 3) #[.int .i64 1, .int .i64 3, .int .i64 2, .slice (some ⟨g + 2, 0, none⟩) 4 4] 27 := hw2 ▸ wLits_blk hg 3 rfl
 have b4 : Blk w2 (g + 4) #[.slice (some ⟨g, 0, none⟩) 4 4, .int .i64 6] 24 := hw2 ▸ wLits_blk hg 4 rfl
 have b5 : Blk w2 (g + 5) #[] 59 := hw2 ▸ wLits_blk hg 5 rfl
 have hz2 : w2.heap.size = g + 6 := by rw [← hw2, wLits_size, hg]; rfl
 have o5 : w2.ownsRow (g + 5) 59 3 (.slice (some ⟨g + 5, 0, none⟩) 0 0) 0 [] := Blk.ownG (cs := []) b5 (Nat.le_refl _) rfl (by decide)
 have HO5 := Lib.hid o5
 have HH0 := Lib.hid (Blk.has b0)
 have HH2 := Lib.hid (Blk.has b2)
 have HB1 := Lib.hid b1
 have HB3 := Lib.hid b3
 have HB4 := Lib.hid b4
 have hwu : (((((w1.alloc (.cells #[.int .i64 1, .string nI, .int .i64 2, .int .i64 3, .string nT, .int .i64 4, .int .i64 4, .string nB, .int .i64 3, .int .i64 5, .string nU, .int .i64 4] 59)).alloc (.cells #[.slice (some ⟨g, 0, none⟩) 4 4, .int .i64 6] 24)).alloc (.cells #[.int .i64 5, .int .i64 3, .int .i64 4, .int .i64 1] 3)).alloc (.cells #[.int .i64 1, .int .i64 3, .int .i64 2, .slice (some ⟨g + 2, 0, none⟩) 4 4] 27)).alloc (.cells #[.slice (some ⟨g, 0, none⟩) 4 4, .int .i64 6] 24)).alloc (.cells #[] 59) = w2 := hw2
 have HZ2 := Lib.hid hz2
 have HL2 := Lib.hid (l1.trans l2)
 have HGE := Lib.hid (show g + 5 ≤ w2.heap.size from by omega)
 have HBB0 := Lib.hid b0
 have HBB2 := Lib.hid b2
 have HL12 := Lib.hid l2
 have HL1' := Lib.hid l1
 clear l1 HB hw2 l2 b0 b1 b2 b3 b4 b5 o5 hz2
 have e10 := HB1.out.cell 0 _ rfl
 have e11 := HB1.out.cell 1 _ rfl
 go_upto_region 7 with (first
  | (at_builtin; refine wpList_append_g _ rfl (.tmp 36) (.tmp 38) 22 rfl (g + 5) 59 _ 3 32 Tryd.underlying22 info_c3 rfl (by decide) _ 0 [] rfl HO5.out (some ⟨g, 0, none⟩) 4 4 (fc sfC) rfl HH0.out rfl (by intro h; cases h) (fc_one _) (by unfold maxLen; omega) (by omega) HGE.out ?_; rintro A3 c3 w3 o3 g3 b3 n3; obtain ⟨k3, rfl⟩ := own_some o3 (by omega); obtain ⟨w4, hw4⟩ : ∃ x, w3.alloc (.cells #[.int .i64 2, .string nX, .int .i64 1, .int .i64 6, .string nY, .int .i64 1] 59) = x := ⟨_, rfl⟩; have HW4 := Lib.hid (show w3.alloc (.cells #[.int .i64 2, .string nX, .int .i64 1, .int .i64 6, .string nY, .int .i64 1] 59) = w4 from hw4); have HO4 := Lib.hid (show w4.ownsRow (g + 5) 59 3 (.slice (some ⟨k3, 0, none⟩) 4 c3) 4 (fc sfC) from hw4 ▸ own_later o3 (Later.new _ _)); have HG3 := Lib.hid g3; have HT4 := Lib.hid (show Has w4 (some ⟨w3.heap.size, 0, none⟩) (fc [(2, nX, 1), (6, nY, 1)]) from hw4 ▸ (Blk.new w3 (fc [(2, nX, 1), (6, nY, 1)]).toArray 59 _ rfl).has); have HS4 := Lib.hid (show g + 5 ≤ w4.heap.size from by have h1 := g3.size; have h2 := HGE.out; rw [← hw4]; simp; omega); have HBW := Lib.hid b3; have HSW := Lib.hid (show g + 5 ≤ w3.heap.size from Nat.le_trans HGE.out g3.size); clear o3 g3 b3 n3)
  | (at_builtin; refine wpList_append_g _ rfl (.tmp 39) (.tmp 42) 22 rfl (g + 5) 59 _ 3 32 Tryd.underlying22 info_c3 rfl (by decide) _ 4 (fc sfC) rfl HO4.out (some ⟨w3.heap.size, 0, none⟩) 2 2 (fc [(2, nX, 1), (6, nY, 1)]) rfl HT4.out rfl (by intro h; cases h) (fc_one _) (by unfold maxLen; omega) (by omega) HS4.out ?_; rintro A5 c5 w5 o5 g5 b5 n5; obtain ⟨k5, rfl⟩ := own_some o5 (by omega); have HO5' := Lib.hid o5; have HG5 := Lib.hid g5; have HBL := Lib.hid (show Below (g + 5) w2 w5 from (show Below (g + 5) w2 w4 from hw4 ▸ HBW.out.alloc HSW.out _).trans b5); have hb4 : Blk w5 (g + 4) #[.slice (some ⟨g, 0, none⟩) 4 4, .int .i64 6] 24 := (HBL.out.block (g + 4) (by omega)).trans HB4.out; have x1 := hb4.cell 0 _ rfl; have x2 := hb4.frozen 0; clear o5 g5 b5 n5))
 simp only [Nat.add_assoc, Nat.reduceAdd]
 obtain ⟨w6, hw6⟩ : ∃ x, w5.setCell ⟨g + 4, 0, none⟩ (.slice (some ⟨k5, 0, none⟩) 6 c5) = x := ⟨_, rfl⟩
 rw [hw6]
 have f0 : ∀ j, j < g + 4 → w6.heap[j]? = w2.heap[j]? := fun j hj => by rw [← hw6]; exact (Below.heap_setCell w5 ⟨g + 4, 0, none⟩ _ j (by show j ≠ g + 4; omega)).trans (HBL.out.block j (by omega))
 have c1 : Blk w6 (g + 1) #[.slice (some ⟨g, 0, none⟩) 4 4, .int .i64 6] 24 := (f0 (g + 1) (by omega)).trans HB1.out
 have c3 : Blk w6 (g + 3) #[.int .i64 1, .int .i64 3, .int .i64 2, .slice (some ⟨g + 2, 0, none⟩) 4 4] 27 := (f0 (g + 3) (by omega)).trans HB3.out
 have c4 : Blk w6 (g + 4) #[.slice (some ⟨k5, 0, none⟩) 6 c5, .int .i64 6] 24 := hw6 ▸ hb4.set_ 0 _
 have HC0 := Lib.hid (Blk.has (show Blk w6 g (fc sfC).toArray 59 from (f0 g (by omega)).trans HBB0.out))
 have HC2 := Lib.hid (Blk.has (show Blk w6 (g + 2) (ein [5, 3, 4, 1]).toArray 3 from (f0 (g + 2) (by omega)).trans HBB2.out))
 have HO6 := Lib.hid (show w6.ownsRow (g + 5) 59 3 (.slice (some ⟨k5, 0, none⟩) 6 c5) 6 (fc sfF) from hw6 ▸ own_setFar HO5'.out (by show g + 4 < g + 5; omega) _)
 have HL6 := Lib.hid (show Later w w6 from (HL1'.out.trans (show Later w1 w6 from (show Below w1.heap.size w1 w6 from by
  have h1 : Below w1.heap.size w2 w5 := Below.mono HBL.out (by omega)
  rw [← hw6]
  exact (Below.trans (Later.below HL12.out) h1).setCell (by show w1.heap.size ≤ g + 4; omega) _))))
 have HC1 := Lib.hid c1
 have HC3 := Lib.hid c3
 have HC4 := Lib.hid c4
 have d0 := c3.cell 0 _ rfl
 have d1 := c3.cell 1 _ rfl
 have d2 := c3.cell 2 _ rfl
 have d3 := c3.cell 3 _ rfl
 clear f0 c1 c3 c4 x1 x2 hb4 hw6 HO5' HG5 HO4 HG3 HT4 HS4 HW4 hwu e10 e11
 obtain ⟨q, hq⟩ : ∃ x, w6.heap.size = x := ⟨_, rfl⟩
 obtain ⟨w7, hw7⟩ : ∃ x, (w6.alloc (.cells #[.int .i64 1, .int .i64 3, .int .i64 2, .slice (some ⟨g + 2, 0, none⟩) 4 4] 27)).alloc (.cells #[.int .i64 1, .int .i64 1, .int .i64 1, .int .i64 1, .int .i64 1, .int .i64 1] 3) = x := ⟨_, rfl⟩
 obtain ⟨w8, hw8⟩ : ∃ x, w7.setCell ⟨q, 3, none⟩ (.slice (some ⟨q + 1, 0, none⟩) 6 6) = x := ⟨_, rfl⟩
 obtain ⟨w9, hw9⟩ : ∃ x, w8.alloc (.cells #[.int .i64 4, .int .i64 0, .string ⟨#[118]⟩] 29) = x := ⟨_, rfl⟩
 have p0 : Blk w7 q #[.int .i64 1, .int .i64 3, .int .i64 2, .slice (some ⟨g + 2, 0, none⟩) 4 4] 27 := hw7 ▸ (Blk.new w6 _ _ _ hq.symm).later (Later.new _ _)
 have p1 : Blk w7 (q + 1) #[.int .i64 1, .int .i64 1, .int .i64 1, .int .i64 1, .int .i64 1, .int .i64 1] 3 := hw7 ▸ Blk.new _ _ _ _ (by simp; omega)
 have y3 := p0.cell 3 _ rfl
 have z3 := p0.frozen 3
 have p2 : Blk w8 q #[.int .i64 1, .int .i64 3, .int .i64 2, .slice (some ⟨q + 1, 0, none⟩) 6 6] 27 := hw8 ▸ p0.set_ 3 _
 have p3 : Blk w8 (q + 1) #[.int .i64 1, .int .i64 1, .int .i64 1, .int .i64 1, .int .i64 1, .int .i64 1] 3 := hw8 ▸ p1.far (by show q + 1 ≠ q; omega) _
 have hz8 : w8.heap.size = q + 2 := by rw [← hw8, ← hw7]; simp [World.setCell]; omega
 have l9 : Later w8 w9 := hw9 ▸ Later.new _ _
 have p4 : Blk w9 (q + 2) #[.int .i64 4, .int .i64 0, .string ⟨#[118]⟩] 29 := hw9 ▸ Blk.new _ _ _ _ hz8.symm
 have hz9 : w9.heap.size = q + 3 := by rw [← hw9]; simp; omega
 have v0 := p4.cell 0 _ rfl
 have v1 := p4.cell 1 _ rfl
 have v2 := p4.cell 2 _ rfl
 obtain ⟨ich, hich, hzch, hsch, _⟩ := info_parts info_chg
 go_upto_region 11 with fail
 refine wp_buildSlice 44 31 29 _ rfl (fch sfL).toArray ich _ Tryd.underlying44 hich hzch (by rw [hsch]; decide) (by rw [hsch]; decide) (by rw [hsch]; kernel_rfl) ?_
 rw [hz9]
 obtain ⟨wA, hwA⟩ : ∃ x, w9.alloc (.cells (fch sfL).toArray 31) = x := ⟨_, rfl⟩
 rw [hwA]
 have lA : Later w9 wA := hwA ▸ Later.new _ _
 have HPA := Lib.hid (show Blk wA (q + 3) (fch sfL).toArray 31 from hwA ▸ Blk.new _ _ _ _ hz9.symm)
 have HP2 := Lib.hid (p2.later (l9.trans lA))
 have HP3 := Lib.hid (p3.later (l9.trans lA))
 have HLA6 := Lib.hid (show Later w6 wA from Later.trans (show Later w6 w9 from Later.trans (show Later w6 w8 from hw8 ▸ Later.set_ (show Later w6 w7 from hw7 ▸ (Later.new _ _).alloc _) (by show w6.heap.size ≤ q; omega) _) l9) lA)
 have HZA := Lib.hid (show wA.heap.size = q + 4 from by rw [← hwA]; simp; omega)
 clear p0 p1 p2 p3 p4 l9 lA hwA
 go_upto_region 11 with fail
 go_cut [7] from 27 to 209 (fun ev wx => ev = .slice (some ⟨q + 4, 0, none⟩) 29 29 ∧ Blk wx (q + 4) (ein sfE).toArray 45 ∧ Later wA wx)
 case first =>
  have hqA : wA.heap.size = q + 4 := HZA.out
  go_wp2_with fail
  go_meet
  exact ⟨rfl, Blk.new _ _ _ _ hqA.symm, Later.new _ _⟩
 case rest =>
  obtain ⟨rfl, hbe, lwc⟩ := hcut
  have HPE := Lib.hid hbe
  have HLC := Lib.hid (HLA6.out.trans lwc)
  have HPB := Lib.hid (HPA.out.later lwc)
  have HQ2 := Lib.hid (HP2.out.later lwc)
  have HQ3 := Lib.hid (HP3.out.later lwc)
  have HD1 := Lib.hid (HC1.out.later HLC.out)
  have HD3 := Lib.hid (HC3.out.later HLC.out)
  have HD4 := Lib.hid (HC4.out.later HLC.out)
  have HE0 := Lib.hid (HC0.out.later HLC.out)
  have HE2 := Lib.hid (HC2.out.later HLC.out)
  have HEF := Lib.hid (Has.ownG (own_later HO6.out HLC.out))
  have HEQ := Lib.hid (Blk.has (cs := [.int .i64 1, .int .i64 1, .int .i64 1, .int .i64 1, .int .i64 1, .int .i64 1]) HQ3.out)
  have HLW := Lib.hid (HL6.out.trans HLC.out)
  clear hbe lwc HPA HP2 HP3 HC1 HC3 HC4 HC0 HC2 HLA6 hw7 hw8 hw9 hq hz8 hz9 d0 d1 d2 d3 v0 v1 v2 y3 z3 hzch hsch hich
  go_wp2_with fail
  go_loopw [8] (fun iv wr => ∃ k : Nat, k ≤ 29 ∧ iv = .int .i64 k ∧ Later wc wr) (fun i _ => 29 - (intOf i).toNat)
  case atStart => exact ⟨0, Nat.zero_le _, rfl, Later.refl _⟩
  case round =>
   obtain ⟨k, hk, rfl, lat⟩ := hrel
   by_cases hlt : k < 29
   ·
    have hc := sf_err k hlt
    have HKC := Lib.hid (show Blk wr (q + 3) (fch sfL).toArray 31 from HPB.out.later lat)
    have r0 : wr.cell? ⟨q + 4, k, none⟩ = some (.int .i64 (sfE.getD k 0)) := (HPE.out.later lat).cell k _ (by rw [List.getElem?_toArray]; exact ein_at k hlt)
    have hcn : (sfL.getD k chz).name.size ≤ 100000 := sf_nm k hlt
    have HQ9 := Lib.hid (fun (W : World) (l : Later wr W) (j : Nat) (v : Value) (h : (chcells (sfL.getD k chz))[j]? = some v) => show W.cell? ⟨q + 3, k * 9 + j, none⟩ = some v from (HKC.out.later l).cell (k * 9 + j) v (by rw [List.getElem?_toArray]; exact fch_at k hlt j v h))
    generalize sfL.getD k chz = ch at hc hcn HQ9
    generalize sfE.getD k 0 = er at hc r0
    have HHC := Lib.hid hc
    have HAP := Lib.hid (fun (W : World) (l : Later wr W) => show Calls Tryd.prog 14 #[.agg #[.slice (some ⟨g, 0, none⟩) 4 4, .int .i64 6], .agg #[.int .i64 1, .int .i64 3, .int .i64 2, .slice (some ⟨g + 2, 0, none⟩) 4 4], .agg #[.int .i64 ch.kind, .int .i64 ch.col, .string ch.name, .int .i64 ch.typ, .int .i64 ch.val.1, .int .i64 ch.val.2.1, .string ch.val.2.2, .int .u8 ch.sep, .int .i64 ch.num]] W (ApP sfS ch W) from schApply_any (some ⟨g, 0, none⟩) (some ⟨g + 2, 0, none⟩) 4 4 sfS ch W f (HS.out.later (HLW.out.trans (lat.trans l))) (H3.out.later (HLW.out.trans (lat.trans l))) (HE0.out.later (lat.trans l)) (HE2.out.later (lat.trans l)) (by decide) (by decide) sf_nm1 hcn (fun h => by cases h) (fun h => by cases h))
    have HLT := Lib.hid lat
    have hki : (k : Int) < 29 := by omega
    clear lat hc
    go_upto_region 15 with fail
    go_cut [9, 10, 11] from 88 to 98 (fun pv qv ev wx => ResP sfS ch wr pv qv ev wx)
    case first => as_aux_lemma =>
     refine wp_region_K (S := (fun W : World => Later wr W)) (R := fun a b => a = b) (fun _ => rfl) (by kernel_rfl) ?_
     obtain ⟨y0, hy0⟩ : ∃ x, wr.drew = x := ⟨_, rfl⟩
     have hS : (fun W : World => Later wr W) y0 := hy0 ▸ (Later.refl wr).drew
     rw [hy0]
     clear hy0
     refine wpAnyK_take (fun _ => rfl) (fun _ _ _ h k => h.trans k) (fun _ _ h k => k ▸ h) (i := 0) (oi := ⟨some 89, _, _, _, _, _⟩) (v := ?_) rfl (by kernel_rfl) (by kernel_rfl) (by kernel_rfl) (fun _ _ _ h => h) (Or.inl (Or.inl ⟨by rfl, ?_⟩)) hS ?_
     rotate_left
     focus ((intro w hSw; (try dsimp only at hSw); have e0 := (HD1.out.later (HLT.out.trans hSw)).cell 0 _ rfl; have e1 := (HD1.out.later (HLT.out.trans hSw)).cell 1 _ rfl; have d0 := (HD3.out.later (HLT.out.trans hSw)).cell 0 _ rfl; have d1 := (HD3.out.later (HLT.out.trans hSw)).cell 1 _ rfl; have d2 := (HD3.out.later (HLT.out.trans hSw)).cell 2 _ rfl; have d3 := (HD3.out.later (HLT.out.trans hSw)).cell 3 _ rfl; have q0 : w.cell? ⟨q + 3, k * 9, none⟩ = some (.int .i64 ch.kind) := HQ9.out w hSw 0 _ rfl; have q1 : w.cell? ⟨q + 3, k * 9 + 1, none⟩ = some (.int .i64 ch.col) := HQ9.out w hSw 1 _ rfl; have q2 : w.cell? ⟨q + 3, k * 9 + 2, none⟩ = some (.string ch.name) := HQ9.out w hSw 2 _ rfl; have q3 : w.cell? ⟨q + 3, k * 9 + 3, none⟩ = some (.int .i64 ch.typ) := HQ9.out w hSw 3 _ rfl; have q4 : w.cell? ⟨q + 3, k * 9 + 4, none⟩ = some (.int .i64 ch.val.1) := HQ9.out w hSw 4 _ rfl; have q5 : w.cell? ⟨q + 3, k * 9 + 5, none⟩ = some (.int .i64 ch.val.2.1) := HQ9.out w hSw 5 _ rfl; have q6 : w.cell? ⟨q + 3, k * 9 + 6, none⟩ = some (.string ch.val.2.2) := HQ9.out w hSw 6 _ rfl; have q7 : w.cell? ⟨q + 3, k * 9 + 7, none⟩ = some (.int .u8 ch.sep) := HQ9.out w hSw 7 _ rfl; have q8 : w.cell? ⟨q + 3, k * 9 + 8, none⟩ = some (.int .i64 ch.num) := HQ9.out w hSw 8 _ rfl; go_simp); (try with_reducible rfl))
     intro wq hwq
     subst hwq
     (try simp only [Act.put, List.setIfInBounds_toArray, List.set_cons_zero, List.set_cons_succ])
     refine wpAnyK_take (fun _ => rfl) (fun _ _ _ h k => h.trans k) (fun _ _ h k => k ▸ h) (i := 1) (oi := ⟨some 90, _, _, _, _, _⟩) (v := ?_) rfl (by kernel_rfl) (by kernel_rfl) (by kernel_rfl) (fun _ _ _ h => h) (Or.inl (Or.inl ⟨by rfl, ?_⟩)) hS ?_
     rotate_left
     focus ((intro w hSw; (try dsimp only at hSw); have e0 := (HD1.out.later (HLT.out.trans hSw)).cell 0 _ rfl; have e1 := (HD1.out.later (HLT.out.trans hSw)).cell 1 _ rfl; have d0 := (HD3.out.later (HLT.out.trans hSw)).cell 0 _ rfl; have d1 := (HD3.out.later (HLT.out.trans hSw)).cell 1 _ rfl; have d2 := (HD3.out.later (HLT.out.trans hSw)).cell 2 _ rfl; have d3 := (HD3.out.later (HLT.out.trans hSw)).cell 3 _ rfl; have q0 : w.cell? ⟨q + 3, k * 9, none⟩ = some (.int .i64 ch.kind) := HQ9.out w hSw 0 _ rfl; have q1 : w.cell? ⟨q + 3, k * 9 + 1, none⟩ = some (.int .i64 ch.col) := HQ9.out w hSw 1 _ rfl; have q2 : w.cell? ⟨q + 3, k * 9 + 2, none⟩ = some (.string ch.name) := HQ9.out w hSw 2 _ rfl; have q3 : w.cell? ⟨q + 3, k * 9 + 3, none⟩ = some (.int .i64 ch.typ) := HQ9.out w hSw 3 _ rfl; have q4 : w.cell? ⟨q + 3, k * 9 + 4, none⟩ = some (.int .i64 ch.val.1) := HQ9.out w hSw 4 _ rfl; have q5 : w.cell? ⟨q + 3, k * 9 + 5, none⟩ = some (.int .i64 ch.val.2.1) := HQ9.out w hSw 5 _ rfl; have q6 : w.cell? ⟨q + 3, k * 9 + 6, none⟩ = some (.string ch.val.2.2) := HQ9.out w hSw 6 _ rfl; have q7 : w.cell? ⟨q + 3, k * 9 + 7, none⟩ = some (.int .u8 ch.sep) := HQ9.out w hSw 7 _ rfl; have q8 : w.cell? ⟨q + 3, k * 9 + 8, none⟩ = some (.int .i64 ch.num) := HQ9.out w hSw 8 _ rfl; go_simp); (try with_reducible rfl))
     intro wq hwq
     subst hwq
     (try simp only [Act.put, List.setIfInBounds_toArray, List.set_cons_zero, List.set_cons_succ])
     refine wpAnyK_take (fun _ => rfl) (fun _ _ _ h k => h.trans k) (fun _ _ h k => k ▸ h) (i := 2) (oi := ⟨some 91, _, _, _, _, _⟩) (v := ?_) rfl (by kernel_rfl) (by kernel_rfl) (by kernel_rfl) (fun _ _ _ h => h) (Or.inl (Or.inl ⟨by rfl, ?_⟩)) hS ?_
     rotate_left
     focus ((intro w hSw; (try dsimp only at hSw); have e0 := (HD1.out.later (HLT.out.trans hSw)).cell 0 _ rfl; have e1 := (HD1.out.later (HLT.out.trans hSw)).cell 1 _ rfl; have d0 := (HD3.out.later (HLT.out.trans hSw)).cell 0 _ rfl; have d1 := (HD3.out.later (HLT.out.trans hSw)).cell 1 _ rfl; have d2 := (HD3.out.later (HLT.out.trans hSw)).cell 2 _ rfl; have d3 := (HD3.out.later (HLT.out.trans hSw)).cell 3 _ rfl; have q0 : w.cell? ⟨q + 3, k * 9, none⟩ = some (.int .i64 ch.kind) := HQ9.out w hSw 0 _ rfl; have q1 : w.cell? ⟨q + 3, k * 9 + 1, none⟩ = some (.int .i64 ch.col) := HQ9.out w hSw 1 _ rfl; have q2 : w.cell? ⟨q + 3, k * 9 + 2, none⟩ = some (.string ch.name) := HQ9.out w hSw 2 _ rfl; have q3 : w.cell? ⟨q + 3, k * 9 + 3, none⟩ = some (.int .i64 ch.typ) := HQ9.out w hSw 3 _ rfl; have q4 : w.cell? ⟨q + 3, k * 9 + 4, none⟩ = some (.int .i64 ch.val.1) := HQ9.out w hSw 4 _ rfl; have q5 : w.cell? ⟨q + 3, k * 9 + 5, none⟩ = some (.int .i64 ch.val.2.1) := HQ9.out w hSw 5 _ rfl; have q6 : w.cell? ⟨q + 3, k * 9 + 6, none⟩ = some (.string ch.val.2.2) := HQ9.out w hSw 6 _ rfl; have q7 : w.cell? ⟨q + 3, k * 9 + 7, none⟩ = some (.int .u8 ch.sep) := HQ9.out w hSw 7 _ rfl; have q8 : w.cell? ⟨q + 3, k * 9 + 8, none⟩ = some (.int .i64 ch.num) := HQ9.out w hSw 8 _ rfl; go_simp); (try with_reducible rfl))
     intro wq hwq
     subst hwq
     (try simp only [Act.put, List.setIfInBounds_toArray, List.set_cons_zero, List.set_cons_succ])
     refine wpAnyK_take (fun _ => rfl) (fun _ _ _ h k => h.trans k) (fun _ _ h k => k ▸ h) (i := 3) (oi := ⟨some 92, _, _, _, _, _⟩) (v := ?_) rfl (by kernel_rfl) (by kernel_rfl) (by kernel_rfl) (fun _ _ _ h => h) (Or.inl (Or.inl ⟨by rfl, ?_⟩)) hS ?_
     rotate_left
     focus ((intro w hSw; (try dsimp only at hSw); have e0 := (HD1.out.later (HLT.out.trans hSw)).cell 0 _ rfl; have e1 := (HD1.out.later (HLT.out.trans hSw)).cell 1 _ rfl; have d0 := (HD3.out.later (HLT.out.trans hSw)).cell 0 _ rfl; have d1 := (HD3.out.later (HLT.out.trans hSw)).cell 1 _ rfl; have d2 := (HD3.out.later (HLT.out.trans hSw)).cell 2 _ rfl; have d3 := (HD3.out.later (HLT.out.trans hSw)).cell 3 _ rfl; have q0 : w.cell? ⟨q + 3, k * 9, none⟩ = some (.int .i64 ch.kind) := HQ9.out w hSw 0 _ rfl; have q1 : w.cell? ⟨q + 3, k * 9 + 1, none⟩ = some (.int .i64 ch.col) := HQ9.out w hSw 1 _ rfl; have q2 : w.cell? ⟨q + 3, k * 9 + 2, none⟩ = some (.string ch.name) := HQ9.out w hSw 2 _ rfl; have q3 : w.cell? ⟨q + 3, k * 9 + 3, none⟩ = some (.int .i64 ch.typ) := HQ9.out w hSw 3 _ rfl; have q4 : w.cell? ⟨q + 3, k * 9 + 4, none⟩ = some (.int .i64 ch.val.1) := HQ9.out w hSw 4 _ rfl; have q5 : w.cell? ⟨q + 3, k * 9 + 5, none⟩ = some (.int .i64 ch.val.2.1) := HQ9.out w hSw 5 _ rfl; have q6 : w.cell? ⟨q + 3, k * 9 + 6, none⟩ = some (.string ch.val.2.2) := HQ9.out w hSw 6 _ rfl; have q7 : w.cell? ⟨q + 3, k * 9 + 7, none⟩ = some (.int .u8 ch.sep) := HQ9.out w hSw 7 _ rfl; have q8 : w.cell? ⟨q + 3, k * 9 + 8, none⟩ = some (.int .i64 ch.num) := HQ9.out w hSw 8 _ rfl; go_simp); (try with_reducible rfl))
     intro wq hwq
     subst hwq
     (try simp only [Act.put, List.setIfInBounds_toArray, List.set_cons_zero, List.set_cons_succ])
     refine wpAnyK_take (fun _ => rfl) (fun _ _ _ h k => h.trans k) (fun _ _ h k => k ▸ h) (i := 4) (oi := ⟨some 93, _, _, _, _, _⟩) (v := ?_) rfl (by kernel_rfl) (by kernel_rfl) (by kernel_rfl) (fun _ _ _ h => h) (Or.inl (Or.inl ⟨by rfl, ?_⟩)) hS ?_
     rotate_left
     focus ((intro w hSw; (try dsimp only at hSw); have e0 := (HD1.out.later (HLT.out.trans hSw)).cell 0 _ rfl; have e1 := (HD1.out.later (HLT.out.trans hSw)).cell 1 _ rfl; have d0 := (HD3.out.later (HLT.out.trans hSw)).cell 0 _ rfl; have d1 := (HD3.out.later (HLT.out.trans hSw)).cell 1 _ rfl; have d2 := (HD3.out.later (HLT.out.trans hSw)).cell 2 _ rfl; have d3 := (HD3.out.later (HLT.out.trans hSw)).cell 3 _ rfl; have q0 : w.cell? ⟨q + 3, k * 9, none⟩ = some (.int .i64 ch.kind) := HQ9.out w hSw 0 _ rfl; have q1 : w.cell? ⟨q + 3, k * 9 + 1, none⟩ = some (.int .i64 ch.col) := HQ9.out w hSw 1 _ rfl; have q2 : w.cell? ⟨q + 3, k * 9 + 2, none⟩ = some (.string ch.name) := HQ9.out w hSw 2 _ rfl; have q3 : w.cell? ⟨q + 3, k * 9 + 3, none⟩ = some (.int .i64 ch.typ) := HQ9.out w hSw 3 _ rfl; have q4 : w.cell? ⟨q + 3, k * 9 + 4, none⟩ = some (.int .i64 ch.val.1) := HQ9.out w hSw 4 _ rfl; have q5 : w.cell? ⟨q + 3, k * 9 + 5, none⟩ = some (.int .i64 ch.val.2.1) := HQ9.out w hSw 5 _ rfl; have q6 : w.cell? ⟨q + 3, k * 9 + 6, none⟩ = some (.string ch.val.2.2) := HQ9.out w hSw 6 _ rfl; have q7 : w.cell? ⟨q + 3, k * 9 + 7, none⟩ = some (.int .u8 ch.sep) := HQ9.out w hSw 7 _ rfl; have q8 : w.cell? ⟨q + 3, k * 9 + 8, none⟩ = some (.int .i64 ch.num) := HQ9.out w hSw 8 _ rfl; go_simp); (try with_reducible rfl))
     intro wq hwq
     subst hwq
     (try simp only [Act.put, List.setIfInBounds_toArray, List.set_cons_zero, List.set_cons_succ])
     refine wpAnyK_take (fun _ => rfl) (fun _ _ _ h k => h.trans k) (fun _ _ h k => k ▸ h) (i := 5) (oi := ⟨some 94, _, _, _, _, _⟩) (v := ?_) rfl (by kernel_rfl) (by kernel_rfl) (by kernel_rfl) (fun _ _ _ h => h) (Or.inl (Or.inl ⟨by rfl, ?_⟩)) hS ?_
     rotate_left
     focus ((intro w hSw; (try dsimp only at hSw); have e0 := (HD1.out.later (HLT.out.trans hSw)).cell 0 _ rfl; have e1 := (HD1.out.later (HLT.out.trans hSw)).cell 1 _ rfl; have d0 := (HD3.out.later (HLT.out.trans hSw)).cell 0 _ rfl; have d1 := (HD3.out.later (HLT.out.trans hSw)).cell 1 _ rfl; have d2 := (HD3.out.later (HLT.out.trans hSw)).cell 2 _ rfl; have d3 := (HD3.out.later (HLT.out.trans hSw)).cell 3 _ rfl; have q0 : w.cell? ⟨q + 3, k * 9, none⟩ = some (.int .i64 ch.kind) := HQ9.out w hSw 0 _ rfl; have q1 : w.cell? ⟨q + 3, k * 9 + 1, none⟩ = some (.int .i64 ch.col) := HQ9.out w hSw 1 _ rfl; have q2 : w.cell? ⟨q + 3, k * 9 + 2, none⟩ = some (.string ch.name) := HQ9.out w hSw 2 _ rfl; have q3 : w.cell? ⟨q + 3, k * 9 + 3, none⟩ = some (.int .i64 ch.typ) := HQ9.out w hSw 3 _ rfl; have q4 : w.cell? ⟨q + 3, k * 9 + 4, none⟩ = some (.int .i64 ch.val.1) := HQ9.out w hSw 4 _ rfl; have q5 : w.cell? ⟨q + 3, k * 9 + 5, none⟩ = some (.int .i64 ch.val.2.1) := HQ9.out w hSw 5 _ rfl; have q6 : w.cell? ⟨q + 3, k * 9 + 6, none⟩ = some (.string ch.val.2.2) := HQ9.out w hSw 6 _ rfl; have q7 : w.cell? ⟨q + 3, k * 9 + 7, none⟩ = some (.int .u8 ch.sep) := HQ9.out w hSw 7 _ rfl; have q8 : w.cell? ⟨q + 3, k * 9 + 8, none⟩ = some (.int .i64 ch.num) := HQ9.out w hSw 8 _ rfl; go_simp); (try with_reducible rfl))
     intro wq hwq
     subst hwq
     (try simp only [Act.put, List.setIfInBounds_toArray, List.set_cons_zero, List.set_cons_succ])
     refine wpAnyK_all (rs := [6, 11, 12]) (by kernel_rfl) (by simp) (fun i hi => ?_)
     simp only [List.mem_cons, List.not_mem_nil, or_false] at hi
     rcases hi with rfl | rfl | rfl
     ·
      refine stepK (o := ⟨some 95, _, _, _, _, _⟩) rfl (fun K hK => ?_)
      go_simp
      refine (HAP.out _ hS).mono ?_
      intro e y1 hap
      obtain ⟨VA, vn, vcp, vlast, vsb, vpb, vparts, VE, ven, vec, vev, rfl, hv, lc⟩ := hap.v (Later.size hS)
      have HV := Lib.hid hv
      replace hS : (fun W : World => Later wr W) y1 := Later.trans hS lc
      refine hK _ _ hS fun wq hwq => ?_
      subst hwq
      clear hK hap hv lc
      (try simp only [Act.put, List.setIfInBounds_toArray, List.set_cons_zero, List.set_cons_succ])
      refine wpAnyK_take (fun _ => rfl) (fun _ _ _ h k => h.trans k) (fun _ _ h k => k ▸ h) (i := 7) (oi := ⟨some 88, _, _, _, _, _⟩) (v := ?_) rfl (by kernel_rfl) (by kernel_rfl) (by kernel_rfl) (fun _ _ _ h => h) (Or.inl (Or.inl ⟨by rfl, ?_⟩)) hS ?_
      rotate_left
      focus ((intro w hSw; (try dsimp only at hSw); skip; go_simp); (try with_reducible rfl))
      intro wq hwq
      subst hwq
      (try simp only [Act.put, List.setIfInBounds_toArray, List.set_cons_zero, List.set_cons_succ])
      refine wpAnyK_take (fun _ => rfl) (fun _ _ _ h k => h.trans k) (fun _ _ h k => k ▸ h) (i := 8) (oi := ⟨some 96, _, _, _, _, _⟩) (v := ?_) rfl (by kernel_rfl) (by kernel_rfl) (by kernel_rfl) (fun _ _ _ h => h) (Or.inl (Or.inl ⟨by rfl, ?_⟩)) hS ?_
      rotate_left
      focus ((intro w hSw; (try dsimp only at hSw); skip; go_simp); (try with_reducible rfl))
      intro wq hwq
      subst hwq
      (try simp only [Act.put, List.setIfInBounds_toArray, List.set_cons_zero, List.set_cons_succ])
      refine wpAnyK_take (fun _ => rfl) (fun _ _ _ h k => h.trans k) (fun _ _ h k => k ▸ h) (i := 9) (oi := ⟨some 97, _, _, _, _, _⟩) (v := ?_) rfl (by kernel_rfl) (by kernel_rfl) (by kernel_rfl) (fun _ _ _ h => h) (Or.inl (Or.inl ⟨by rfl, ?_⟩)) hS ?_
      rotate_left
      focus ((intro w hSw; (try dsimp only at hSw); skip; go_simp); (try with_reducible rfl))
      intro wq hwq
      subst hwq
      (try simp only [Act.put, List.setIfInBounds_toArray, List.set_cons_zero, List.set_cons_succ])
      refine wpAnyK_take (fun _ => rfl) (fun _ _ _ h k => h.trans k) (fun _ _ h k => k ▸ h) (i := 10) (oi := ⟨some 98, _, _, _, _, _⟩) (v := ?_) rfl (by kernel_rfl) (by kernel_rfl) (by kernel_rfl) (fun _ _ _ h => h) (Or.inl (Or.inl ⟨by rfl, ?_⟩)) hS ?_
      rotate_left
      focus ((intro w hSw; (try dsimp only at hSw); skip; go_simp); (try with_reducible rfl))
      intro wq hwq
      subst hwq
      (try simp only [Act.put, List.setIfInBounds_toArray, List.set_cons_zero, List.set_cons_succ])
      refine wpAnyK_all (rs := [11, 12]) (by kernel_rfl) (by simp) (fun i hi => ?_)
      simp only [List.mem_cons, List.not_mem_nil, or_false] at hi
      rcases hi with rfl | rfl
      ·
       refine stepK (o := ⟨some 9, _, _, _, _, _⟩) rfl (fun K hK => ?_)
       go_simp
       obtain ⟨ga, hgg⟩ : ∃ x, y1.heap.size = x := ⟨_, rfl⟩
       obtain ⟨y2, hyy⟩ : ∃ x, y1.alloc (.cells zS.toArray 24) = x := ⟨_, rfl⟩
       have lc : Later y1 y2 := hyy ▸ Later.new _ _
       have HA := Lib.hid (show Blk y2 ga zS.toArray 24 from hyy ▸ Blk.new _ _ _ _ hgg.symm)
       have HGA := Lib.hid (show wr.heap.size ≤ ga from hgg ▸ Later.size hS)
       replace hS : (fun W : World => Later wr W) y2 := Later.trans hS lc
       have HV := Lib.hid (HV.out.later lc)
       try rw [hgg]
       unfold zS at hyy
       rw [hyy]
       refine hK _ _ hS fun wq hwq => ?_
       subst hwq
       clear hK lc hyy hgg
       (try simp only [Act.put, List.setIfInBounds_toArray, List.set_cons_zero, List.set_cons_succ])
       refine wpAnyK_all (rs := [12]) (by kernel_rfl) (by simp) (fun i hi => ?_)
       simp only [List.mem_cons, List.not_mem_nil, or_false] at hi
       subst hi
       refine stepK (o := ⟨some 10, _, _, _, _, _⟩) rfl (fun K hK => ?_)
       go_simp
       obtain ⟨gb, hgg⟩ : ∃ x, y2.heap.size = x := ⟨_, rfl⟩
       obtain ⟨y3, hyy⟩ : ∃ x, y2.alloc (.cells zL.toArray 27) = x := ⟨_, rfl⟩
       have lc : Later y2 y3 := hyy ▸ Later.new _ _
       have HB := Lib.hid (show Blk y3 gb zL.toArray 27 from hyy ▸ Blk.new _ _ _ _ hgg.symm)
       have HGB := Lib.hid (show wr.heap.size ≤ gb from hgg ▸ Later.size hS)
       replace hS : (fun W : World => Later wr W) y3 := Later.trans hS lc
       have HV := Lib.hid (HV.out.later lc)
       have HA := Lib.hid (HA.out.later lc)
       try rw [hgg]
       unfold zL at hyy
       rw [hyy]
       refine hK _ _ hS fun wq hwq => ?_
       subst hwq
       clear hK lc hyy hgg
       (try simp only [Act.put, List.setIfInBounds_toArray, List.set_cons_zero, List.set_cons_succ])
       have hab : ga ≠ gb := ne_typ HA.out HB.out (by decide)
       refine wpAnyK_all (rs := [13]) (by kernel_rfl) (by simp) (fun i hi => ?_)
       simp only [List.mem_cons, List.not_mem_nil, or_false] at hi
       subst hi
       refine stepK (o := ⟨none, _, _, _, _, _⟩) rfl (fun K hK => ?_)
       rw [if_pos (by rfl)]
       refine wp_store_mid 24 _ _ rfl ga 0 #[.slice VA vn vcp, .int .i64 vlast] rfl rfl (fun j hj => by rw [Nat.zero_add]; have hj2 : j < 2 := hj; exact ⟨by rw [cell_of_row y3 ga j _ _ _ HA.out, Array.getElem?_eq_getElem (by exact hj2)]; rfl, HA.out.frozen j⟩) (by kernel_rfl) (by simp [Value.oneCell']) ?_
       have hA2 := Blk.fill zS [.slice VA vn vcp, .int .i64 vlast] HA.out rfl
       have hB2 := HB.out.aside hab.symm 0 [.slice VA vn vcp, .int .i64 vlast]
       have hV2 := HV.out.fill HA.out (by decide) (by decide) 0 [.slice VA vn vcp, .int .i64 vlast]
       have hS : (fun W : World => Later wr W) (y3.setCells ga 0 [.slice VA vn vcp, .int .i64 vlast]) := Later.fill hS HGA.out 0 _
       refine hK _ _ hS fun wq hwq => ?_
       obtain ⟨z1, hz1⟩ : ∃ x, y3.setCells ga 0 [.slice VA vn vcp, .int .i64 vlast] = x := ⟨_, rfl⟩
       rw [hz1] at hA2 hB2 hV2 hS
       have hz2 : z1 = wq := hz1.symm.trans hwq
       subst hz2
       clear hK hwq hz1
       (try simp only [Act.put])
       refine wpAnyK_all (rs := [14]) (by kernel_rfl) (by simp) (fun i hi => ?_)
       simp only [List.mem_cons, List.not_mem_nil, or_false] at hi
       subst hi
       refine stepK (o := ⟨none, _, _, _, _, _⟩) rfl (fun K hK => ?_)
       rw [if_pos (by rfl)]
       refine wp_store_mid 27 _ _ rfl gb 0 #[.int .i64 vsb, .int .i64 vpb, .int .i64 vparts, .slice VE ven vec] rfl rfl (fun j hj => by rw [Nat.zero_add]; have hj2 : j < 4 := hj; exact ⟨by rw [cell_of_row z1 gb j _ _ _ hB2, Array.getElem?_eq_getElem (by exact hj2)]; rfl, hB2.frozen j⟩) (by kernel_rfl) (by simp [Value.oneCell']) ?_
       have hB3 := Blk.fill zL [.int .i64 vsb, .int .i64 vpb, .int .i64 vparts, .slice VE ven vec] hB2 rfl
       have hA3 := hA2.aside hab 0 [.int .i64 vsb, .int .i64 vpb, .int .i64 vparts, .slice VE ven vec]
       have hV3 := hV2.fill hB2 (by decide) (by decide) 0 [.int .i64 vsb, .int .i64 vpb, .int .i64 vparts, .slice VE ven vec]
       have hS : (fun W : World => Later wr W) (z1.setCells gb 0 [.int .i64 vsb, .int .i64 vpb, .int .i64 vparts, .slice VE ven vec]) := Later.fill hS HGB.out 0 _
       refine hK _ _ hS fun wq hwq => ?_
       obtain ⟨z2, hz1⟩ : ∃ x, z1.setCells gb 0 [.int .i64 vsb, .int .i64 vpb, .int .i64 vparts, .slice VE ven vec] = x := ⟨_, rfl⟩
       rw [hz1] at hA3 hB3 hV3 hS
       have hz2 : z2 = wq := hz1.symm.trans hwq
       subst hz2
       clear hK hwq hz1 hA2 hB2 hV2
       (try simp only [Act.put])
       refine wpAnyK_take (fun _ => rfl) (fun _ _ _ h k => h.trans k) (fun _ _ h k => k ▸ h) (i := 15) (oi := ⟨some 11, _, _, _, _, _⟩) (v := ?_) rfl (by kernel_rfl) (by kernel_rfl) (by kernel_rfl) (fun _ _ _ h => h) (Or.inl (Or.inl ⟨by rfl, ?_⟩)) hS ?_
       rotate_left
       focus ((intro w hSw; (try dsimp only at hSw); skip; go_simp); (try with_reducible rfl))
       intro wq hwq
       subst hwq
       (try simp only [Act.put, List.setIfInBounds_toArray, List.set_cons_zero, List.set_cons_succ])
       refine wpAnyK_done (by kernel_rfl) ?_ _
       go_wp2_with fail
       go_meet
       exact ⟨ga, gb, VA, vn, vcp, vlast, vsb, vpb, vparts, VE, ven, vec, vev, rfl, rfl, rfl, hV3, hA3, hB3, hab, HGA.out, HGB.out, hS⟩
      ·
       refine stepK (o := ⟨some 10, _, _, _, _, _⟩) rfl (fun K hK => ?_)
       go_simp
       obtain ⟨gb, hgg⟩ : ∃ x, y1.heap.size = x := ⟨_, rfl⟩
       obtain ⟨y2, hyy⟩ : ∃ x, y1.alloc (.cells zL.toArray 27) = x := ⟨_, rfl⟩
       have lc : Later y1 y2 := hyy ▸ Later.new _ _
       have HB := Lib.hid (show Blk y2 gb zL.toArray 27 from hyy ▸ Blk.new _ _ _ _ hgg.symm)
       have HGB := Lib.hid (show wr.heap.size ≤ gb from hgg ▸ Later.size hS)
       replace hS : (fun W : World => Later wr W) y2 := Later.trans hS lc
       have HV := Lib.hid (HV.out.later lc)
       try rw [hgg]
       unfold zL at hyy
       rw [hyy]
       refine hK _ _ hS fun wq hwq => ?_
       subst hwq
       clear hK lc hyy hgg
       (try simp only [Act.put, List.setIfInBounds_toArray, List.set_cons_zero, List.set_cons_succ])
       refine wpAnyK_all (rs := [11]) (by kernel_rfl) (by simp) (fun i hi => ?_)
       simp only [List.mem_cons, List.not_mem_nil, or_false] at hi
       subst hi
       refine stepK (o := ⟨some 9, _, _, _, _, _⟩) rfl (fun K hK => ?_)
       go_simp
       obtain ⟨ga, hgg⟩ : ∃ x, y2.heap.size = x := ⟨_, rfl⟩
       obtain ⟨y3, hyy⟩ : ∃ x, y2.alloc (.cells zS.toArray 24) = x := ⟨_, rfl⟩
       have lc : Later y2 y3 := hyy ▸ Later.new _ _
       have HA := Lib.hid (show Blk y3 ga zS.toArray 24 from hyy ▸ Blk.new _ _ _ _ hgg.symm)
       have HGA := Lib.hid (show wr.heap.size ≤ ga from hgg ▸ Later.size hS)
       replace hS : (fun W : World => Later wr W) y3 := Later.trans hS lc
       have HV := Lib.hid (HV.out.later lc)
       have HB := Lib.hid (HB.out.later lc)
       try rw [hgg]
       unfold zS at hyy
       rw [hyy]
       refine hK _ _ hS fun wq hwq => ?_
       subst hwq
       clear hK lc hyy hgg
       (try simp only [Act.put, List.setIfInBounds_toArray, List.set_cons_zero, List.set_cons_succ])
       have hab : ga ≠ gb := ne_typ HA.out HB.out (by decide)
       refine wpAnyK_all (rs := [13]) (by kernel_rfl) (by simp) (fun i hi => ?_)
       simp only [List.mem_cons, List.not_mem_nil, or_false] at hi
       subst hi
       refine stepK (o := ⟨none, _, _, _, _, _⟩) rfl (fun K hK => ?_)
       rw [if_pos (by rfl)]
       refine wp_store_mid 24 _ _ rfl ga 0 #[.slice VA vn vcp, .int .i64 vlast] rfl rfl (fun j hj => by rw [Nat.zero_add]; have hj2 : j < 2 := hj; exact ⟨by rw [cell_of_row y3 ga j _ _ _ HA.out, Array.getElem?_eq_getElem (by exact hj2)]; rfl, HA.out.frozen j⟩) (by kernel_rfl) (by simp [Value.oneCell']) ?_
       have hA2 := Blk.fill zS [.slice VA vn vcp, .int .i64 vlast] HA.out rfl
       have hB2 := HB.out.aside hab.symm 0 [.slice VA vn vcp, .int .i64 vlast]
       have hV2 := HV.out.fill HA.out (by decide) (by decide) 0 [.slice VA vn vcp, .int .i64 vlast]
       have hS : (fun W : World => Later wr W) (y3.setCells ga 0 [.slice VA vn vcp, .int .i64 vlast]) := Later.fill hS HGA.out 0 _
       refine hK _ _ hS fun wq hwq => ?_
       obtain ⟨z1, hz1⟩ : ∃ x, y3.setCells ga 0 [.slice VA vn vcp, .int .i64 vlast] = x := ⟨_, rfl⟩
       rw [hz1] at hA2 hB2 hV2 hS
       have hz2 : z1 = wq := hz1.symm.trans hwq
       subst hz2
       clear hK hwq hz1
       (try simp only [Act.put])
       refine wpAnyK_all (rs := [14]) (by kernel_rfl) (by simp) (fun i hi => ?_)
       simp only [List.mem_cons, List.not_mem_nil, or_false] at hi
       subst hi
       refine stepK (o := ⟨none, _, _, _, _, _⟩) rfl (fun K hK => ?_)
       rw [if_pos (by rfl)]
       refine wp_store_mid 27 _ _ rfl gb 0 #[.int .i64 vsb, .int .i64 vpb, .int .i64 vparts, .slice VE ven vec] rfl rfl (fun j hj => by rw [Nat.zero_add]; have hj2 : j < 4 := hj; exact ⟨by rw [cell_of_row z1 gb j _ _ _ hB2, Array.getElem?_eq_getElem (by exact hj2)]; rfl, hB2.frozen j⟩) (by kernel_rfl) (by simp [Value.oneCell']) ?_
       have hB3 := Blk.fill zL [.int .i64 vsb, .int .i64 vpb, .int .i64 vparts, .slice VE ven vec] hB2 rfl
       have hA3 := hA2.aside hab 0 [.int .i64 vsb, .int .i64 vpb, .int .i64 vparts, .slice VE ven vec]
       have hV3 := hV2.fill hB2 (by decide) (by decide) 0 [.int .i64 vsb, .int .i64 vpb, .int .i64 vparts, .slice VE ven vec]
       have hS : (fun W : World => Later wr W) (z1.setCells gb 0 [.int .i64 vsb, .int .i64 vpb, .int .i64 vparts, .slice VE ven vec]) := Later.fill hS HGB.out 0 _
       refine hK _ _ hS fun wq hwq => ?_
       obtain ⟨z2, hz1⟩ : ∃ x, z1.setCells gb 0 [.int .i64 vsb, .int .i64 vpb, .int .i64 vparts, .slice VE ven vec] = x := ⟨_, rfl⟩
       rw [hz1] at hA3 hB3 hV3 hS
       have hz2 : z2 = wq := hz1.symm.trans hwq
       subst hz2
       clear hK hwq hz1 hA2 hB2 hV2
       (try simp only [Act.put])
       refine wpAnyK_take (fun _ => rfl) (fun _ _ _ h k => h.trans k) (fun _ _ h k => k ▸ h) (i := 15) (oi := ⟨some 11, _, _, _, _, _⟩) (v := ?_) rfl (by kernel_rfl) (by kernel_rfl) (by kernel_rfl) (fun _ _ _ h => h) (Or.inl (Or.inl ⟨by rfl, ?_⟩)) hS ?_
       rotate_left
       focus ((intro w hSw; (try dsimp only at hSw); skip; go_simp); (try with_reducible rfl))
       intro wq hwq
       subst hwq
       (try simp only [Act.put, List.setIfInBounds_toArray, List.set_cons_zero, List.set_cons_succ])
       refine wpAnyK_done (by kernel_rfl) ?_ _
       go_wp2_with fail
       go_meet
       exact ⟨ga, gb, VA, vn, vcp, vlast, vsb, vpb, vparts, VE, ven, vec, vev, rfl, rfl, rfl, hV3, hA3, hB3, hab, HGA.out, HGB.out, hS⟩
     ·
      refine stepK (o := ⟨some 9, _, _, _, _, _⟩) rfl (fun K hK => ?_)
      go_simp
      obtain ⟨ga, hgg⟩ : ∃ x, y0.heap.size = x := ⟨_, rfl⟩
      obtain ⟨y1, hyy⟩ : ∃ x, y0.alloc (.cells zS.toArray 24) = x := ⟨_, rfl⟩
      have lc : Later y0 y1 := hyy ▸ Later.new _ _
      have HA := Lib.hid (show Blk y1 ga zS.toArray 24 from hyy ▸ Blk.new _ _ _ _ hgg.symm)
      have HGA := Lib.hid (show wr.heap.size ≤ ga from hgg ▸ Later.size hS)
      replace hS : (fun W : World => Later wr W) y1 := Later.trans hS lc
      try rw [hgg]
      unfold zS at hyy
      rw [hyy]
      refine hK _ _ hS fun wq hwq => ?_
      subst hwq
      clear hK lc hyy hgg
      (try simp only [Act.put, List.setIfInBounds_toArray, List.set_cons_zero, List.set_cons_succ])
      refine wpAnyK_all (rs := [6, 12]) (by kernel_rfl) (by simp) (fun i hi => ?_)
      simp only [List.mem_cons, List.not_mem_nil, or_false] at hi
      rcases hi with rfl | rfl
      ·
       refine stepK (o := ⟨some 95, _, _, _, _, _⟩) rfl (fun K hK => ?_)
       go_simp
       refine (HAP.out _ hS).mono ?_
       intro e y2 hap
       obtain ⟨VA, vn, vcp, vlast, vsb, vpb, vparts, VE, ven, vec, vev, rfl, hv, lc⟩ := hap.v (Later.size hS)
       have HV := Lib.hid hv
       replace hS : (fun W : World => Later wr W) y2 := Later.trans hS lc
       have HA := Lib.hid (HA.out.later lc)
       refine hK _ _ hS fun wq hwq => ?_
       subst hwq
       clear hK hap hv lc
       (try simp only [Act.put, List.setIfInBounds_toArray, List.set_cons_zero, List.set_cons_succ])
       refine wpAnyK_take (fun _ => rfl) (fun _ _ _ h k => h.trans k) (fun _ _ h k => k ▸ h) (i := 7) (oi := ⟨some 88, _, _, _, _, _⟩) (v := ?_) rfl (by kernel_rfl) (by kernel_rfl) (by kernel_rfl) (fun _ _ _ h => h) (Or.inl (Or.inl ⟨by rfl, ?_⟩)) hS ?_
       rotate_left
       focus ((intro w hSw; (try dsimp only at hSw); skip; go_simp); (try with_reducible rfl))
       intro wq hwq
       subst hwq
       (try simp only [Act.put, List.setIfInBounds_toArray, List.set_cons_zero, List.set_cons_succ])
       refine wpAnyK_take (fun _ => rfl) (fun _ _ _ h k => h.trans k) (fun _ _ h k => k ▸ h) (i := 8) (oi := ⟨some 96, _, _, _, _, _⟩) (v := ?_) rfl (by kernel_rfl) (by kernel_rfl) (by kernel_rfl) (fun _ _ _ h => h) (Or.inl (Or.inl ⟨by rfl, ?_⟩)) hS ?_
       rotate_left
       focus ((intro w hSw; (try dsimp only at hSw); skip; go_simp); (try with_reducible rfl))
       intro wq hwq
       subst hwq
       (try simp only [Act.put, List.setIfInBounds_toArray, List.set_cons_zero, List.set_cons_succ])
       refine wpAnyK_take (fun _ => rfl) (fun _ _ _ h k => h.trans k) (fun _ _ h k => k ▸ h) (i := 9) (oi := ⟨some 97, _, _, _, _, _⟩) (v := ?_) rfl (by kernel_rfl) (by kernel_rfl) (by kernel_rfl) (fun _ _ _ h => h) (Or.inl (Or.inl ⟨by rfl, ?_⟩)) hS ?_
       rotate_left
       focus ((intro w hSw; (try dsimp only at hSw); skip; go_simp); (try with_reducible rfl))
       intro wq hwq
       subst hwq
       (try simp only [Act.put, List.setIfInBounds_toArray, List.set_cons_zero, List.set_cons_succ])
       refine wpAnyK_take (fun _ => rfl) (fun _ _ _ h k => h.trans k) (fun _ _ h k => k ▸ h) (i := 10) (oi := ⟨some 98, _, _, _, _, _⟩) (v := ?_) rfl (by kernel_rfl) (by kernel_rfl) (by kernel_rfl) (fun _ _ _ h => h) (Or.inl (Or.inl ⟨by rfl, ?_⟩)) hS ?_
       rotate_left
       focus ((intro w hSw; (try dsimp only at hSw); skip; go_simp); (try with_reducible rfl))
       intro wq hwq
       subst hwq
       (try simp only [Act.put, List.setIfInBounds_toArray, List.set_cons_zero, List.set_cons_succ])
       refine wpAnyK_all (rs := [12]) (by kernel_rfl) (by simp) (fun i hi => ?_)
       simp only [List.mem_cons, List.not_mem_nil, or_false] at hi
       subst hi
       refine stepK (o := ⟨some 10, _, _, _, _, _⟩) rfl (fun K hK => ?_)
       go_simp
       obtain ⟨gb, hgg⟩ : ∃ x, y2.heap.size = x := ⟨_, rfl⟩
       obtain ⟨y3, hyy⟩ : ∃ x, y2.alloc (.cells zL.toArray 27) = x := ⟨_, rfl⟩
       have lc : Later y2 y3 := hyy ▸ Later.new _ _
       have HB := Lib.hid (show Blk y3 gb zL.toArray 27 from hyy ▸ Blk.new _ _ _ _ hgg.symm)
       have HGB := Lib.hid (show wr.heap.size ≤ gb from hgg ▸ Later.size hS)
       replace hS : (fun W : World => Later wr W) y3 := Later.trans hS lc
       have HV := Lib.hid (HV.out.later lc)
       have HA := Lib.hid (HA.out.later lc)
       try rw [hgg]
       unfold zL at hyy
       rw [hyy]
       refine hK _ _ hS fun wq hwq => ?_
       subst hwq
       clear hK lc hyy hgg
       (try simp only [Act.put, List.setIfInBounds_toArray, List.set_cons_zero, List.set_cons_succ])
       have hab : ga ≠ gb := ne_typ HA.out HB.out (by decide)
       refine wpAnyK_all (rs := [13]) (by kernel_rfl) (by simp) (fun i hi => ?_)
       simp only [List.mem_cons, List.not_mem_nil, or_false] at hi
       subst hi
       refine stepK (o := ⟨none, _, _, _, _, _⟩) rfl (fun K hK => ?_)
       rw [if_pos (by rfl)]
       refine wp_store_mid 24 _ _ rfl ga 0 #[.slice VA vn vcp, .int .i64 vlast] rfl rfl (fun j hj => by rw [Nat.zero_add]; have hj2 : j < 2 := hj; exact ⟨by rw [cell_of_row y3 ga j _ _ _ HA.out, Array.getElem?_eq_getElem (by exact hj2)]; rfl, HA.out.frozen j⟩) (by kernel_rfl) (by simp [Value.oneCell']) ?_
       have hA2 := Blk.fill zS [.slice VA vn vcp, .int .i64 vlast] HA.out rfl
       have hB2 := HB.out.aside hab.symm 0 [.slice VA vn vcp, .int .i64 vlast]
       have hV2 := HV.out.fill HA.out (by decide) (by decide) 0 [.slice VA vn vcp, .int .i64 vlast]
       have hS : (fun W : World => Later wr W) (y3.setCells ga 0 [.slice VA vn vcp, .int .i64 vlast]) := Later.fill hS HGA.out 0 _
       refine hK _ _ hS fun wq hwq => ?_
       obtain ⟨z1, hz1⟩ : ∃ x, y3.setCells ga 0 [.slice VA vn vcp, .int .i64 vlast] = x := ⟨_, rfl⟩
       rw [hz1] at hA2 hB2 hV2 hS
       have hz2 : z1 = wq := hz1.symm.trans hwq
       subst hz2
       clear hK hwq hz1
       (try simp only [Act.put])
       refine wpAnyK_all (rs := [14]) (by kernel_rfl) (by simp) (fun i hi => ?_)
       simp only [List.mem_cons, List.not_mem_nil, or_false] at hi
       subst hi
       refine stepK (o := ⟨none, _, _, _, _, _⟩) rfl (fun K hK => ?_)
       rw [if_pos (by rfl)]
       refine wp_store_mid 27 _ _ rfl gb 0 #[.int .i64 vsb, .int .i64 vpb, .int .i64 vparts, .slice VE ven vec] rfl rfl (fun j hj => by rw [Nat.zero_add]; have hj2 : j < 4 := hj; exact ⟨by rw [cell_of_row z1 gb j _ _ _ hB2, Array.getElem?_eq_getElem (by exact hj2)]; rfl, hB2.frozen j⟩) (by kernel_rfl) (by simp [Value.oneCell']) ?_
       have hB3 := Blk.fill zL [.int .i64 vsb, .int .i64 vpb, .int .i64 vparts, .slice VE ven vec] hB2 rfl
       have hA3 := hA2.aside hab 0 [.int .i64 vsb, .int .i64 vpb, .int .i64 vparts, .slice VE ven vec]
       have hV3 := hV2.fill hB2 (by decide) (by decide) 0 [.int .i64 vsb, .int .i64 vpb, .int .i64 vparts, .slice VE ven vec]
       have hS : (fun W : World => Later wr W) (z1.setCells gb 0 [.int .i64 vsb, .int .i64 vpb, .int .i64 vparts, .slice VE ven vec]) := Later.fill hS HGB.out 0 _
       refine hK _ _ hS fun wq hwq => ?_
       obtain ⟨z2, hz1⟩ : ∃ x, z1.setCells gb 0 [.int .i64 vsb, .int .i64 vpb, .int .i64 vparts, .slice VE ven vec] = x := ⟨_, rfl⟩
       rw [hz1] at hA3 hB3 hV3 hS
       have hz2 : z2 = wq := hz1.symm.trans hwq
       subst hz2
       clear hK hwq hz1 hA2 hB2 hV2
       (try simp only [Act.put])
       refine wpAnyK_take (fun _ => rfl) (fun _ _ _ h k => h.trans k) (fun _ _ h k => k ▸ h) (i := 15) (oi := ⟨some 11, _, _, _, _, _⟩) (v := ?_) rfl (by kernel_rfl) (by kernel_rfl) (by kernel_rfl) (fun _ _ _ h => h) (Or.inl (Or.inl ⟨by rfl, ?_⟩)) hS ?_
       rotate_left
       focus ((intro w hSw; (try dsimp only at hSw); skip; go_simp); (try with_reducible rfl))
       intro wq hwq
       subst hwq
       (try simp only [Act.put, List.setIfInBounds_toArray, List.set_cons_zero, List.set_cons_succ])
       refine wpAnyK_done (by kernel_rfl) ?_ _
       go_wp2_with fail
       go_meet
       exact ⟨ga, gb, VA, vn, vcp, vlast, vsb, vpb, vparts, VE, ven, vec, vev, rfl, rfl, rfl, hV3, hA3, hB3, hab, HGA.out, HGB.out, hS⟩
      ·
       refine stepK (o := ⟨some 10, _, _, _, _, _⟩) rfl (fun K hK => ?_)
       go_simp
       obtain ⟨gb, hgg⟩ : ∃ x, y1.heap.size = x := ⟨_, rfl⟩
       obtain ⟨y2, hyy⟩ : ∃ x, y1.alloc (.cells zL.toArray 27) = x := ⟨_, rfl⟩
       have lc : Later y1 y2 := hyy ▸ Later.new _ _
       have HB := Lib.hid (show Blk y2 gb zL.toArray 27 from hyy ▸ Blk.new _ _ _ _ hgg.symm)
       have HGB := Lib.hid (show wr.heap.size ≤ gb from hgg ▸ Later.size hS)
       replace hS : (fun W : World => Later wr W) y2 := Later.trans hS lc
       have HA := Lib.hid (HA.out.later lc)
       try rw [hgg]
       unfold zL at hyy
       rw [hyy]
       refine hK _ _ hS fun wq hwq => ?_
       subst hwq
       clear hK lc hyy hgg
       (try simp only [Act.put, List.setIfInBounds_toArray, List.set_cons_zero, List.set_cons_succ])
       refine wpAnyK_all (rs := [6]) (by kernel_rfl) (by simp) (fun i hi => ?_)
       simp only [List.mem_cons, List.not_mem_nil, or_false] at hi
       subst hi
       refine stepK (o := ⟨some 95, _, _, _, _, _⟩) rfl (fun K hK => ?_)
       go_simp
       refine (HAP.out _ hS).mono ?_
       intro e y3 hap
       obtain ⟨VA, vn, vcp, vlast, vsb, vpb, vparts, VE, ven, vec, vev, rfl, hv, lc⟩ := hap.v (Later.size hS)
       have HV := Lib.hid hv
       replace hS : (fun W : World => Later wr W) y3 := Later.trans hS lc
       have HA := Lib.hid (HA.out.later lc)
       have HB := Lib.hid (HB.out.later lc)
       refine hK _ _ hS fun wq hwq => ?_
       subst hwq
       clear hK hap hv lc
       (try simp only [Act.put, List.setIfInBounds_toArray, List.set_cons_zero, List.set_cons_succ])
       refine wpAnyK_take (fun _ => rfl) (fun _ _ _ h k => h.trans k) (fun _ _ h k => k ▸ h) (i := 7) (oi := ⟨some 88, _, _, _, _, _⟩) (v := ?_) rfl (by kernel_rfl) (by kernel_rfl) (by kernel_rfl) (fun _ _ _ h => h) (Or.inl (Or.inl ⟨by rfl, ?_⟩)) hS ?_
       rotate_left
       focus ((intro w hSw; (try dsimp only at hSw); skip; go_simp); (try with_reducible rfl))
       intro wq hwq
       subst hwq
       (try simp only [Act.put, List.setIfInBounds_toArray, List.set_cons_zero, List.set_cons_succ])
       refine wpAnyK_take (fun _ => rfl) (fun _ _ _ h k => h.trans k) (fun _ _ h k => k ▸ h) (i := 8) (oi := ⟨some 96, _, _, _, _, _⟩) (v := ?_) rfl (by kernel_rfl) (by kernel_rfl) (by kernel_rfl) (fun _ _ _ h => h) (Or.inl (Or.inl ⟨by rfl, ?_⟩)) hS ?_
       rotate_left
       focus ((intro w hSw; (try dsimp only at hSw); skip; go_simp); (try with_reducible rfl))
       intro wq hwq
       subst hwq
       (try simp only [Act.put, List.setIfInBounds_toArray, List.set_cons_zero, List.set_cons_succ])
       refine wpAnyK_take (fun _ => rfl) (fun _ _ _ h k => h.trans k) (fun _ _ h k => k ▸ h) (i := 9) (oi := ⟨some 97, _, _, _, _, _⟩) (v := ?_) rfl (by kernel_rfl) (by kernel_rfl) (by kernel_rfl) (fun _ _ _ h => h) (Or.inl (Or.inl ⟨by rfl, ?_⟩)) hS ?_
       rotate_left
       focus ((intro w hSw; (try dsimp only at hSw); skip; go_simp); (try with_reducible rfl))
       intro wq hwq
       subst hwq
       (try simp only [Act.put, List.setIfInBounds_toArray, List.set_cons_zero, List.set_cons_succ])
       refine wpAnyK_take (fun _ => rfl) (fun _ _ _ h k => h.trans k) (fun _ _ h k => k ▸ h) (i := 10) (oi := ⟨some 98, _, _, _, _, _⟩) (v := ?_) rfl (by kernel_rfl) (by kernel_rfl) (by kernel_rfl) (fun _ _ _ h => h) (Or.inl (Or.inl ⟨by rfl, ?_⟩)) hS ?_
       rotate_left
       focus ((intro w hSw; (try dsimp only at hSw); skip; go_simp); (try with_reducible rfl))
       intro wq hwq
       subst hwq
       (try simp only [Act.put, List.setIfInBounds_toArray, List.set_cons_zero, List.set_cons_succ])
       have hab : ga ≠ gb := ne_typ HA.out HB.out (by decide)
       refine wpAnyK_all (rs := [13]) (by kernel_rfl) (by simp) (fun i hi => ?_)
       simp only [List.mem_cons, List.not_mem_nil, or_false] at hi
       subst hi
       refine stepK (o := ⟨none, _, _, _, _, _⟩) rfl (fun K hK => ?_)
       rw [if_pos (by rfl)]
       refine wp_store_mid 24 _ _ rfl ga 0 #[.slice VA vn vcp, .int .i64 vlast] rfl rfl (fun j hj => by rw [Nat.zero_add]; have hj2 : j < 2 := hj; exact ⟨by rw [cell_of_row y3 ga j _ _ _ HA.out, Array.getElem?_eq_getElem (by exact hj2)]; rfl, HA.out.frozen j⟩) (by kernel_rfl) (by simp [Value.oneCell']) ?_
       have hA2 := Blk.fill zS [.slice VA vn vcp, .int .i64 vlast] HA.out rfl
       have hB2 := HB.out.aside hab.symm 0 [.slice VA vn vcp, .int .i64 vlast]
       have hV2 := HV.out.fill HA.out (by decide) (by decide) 0 [.slice VA vn vcp, .int .i64 vlast]
       have hS : (fun W : World => Later wr W) (y3.setCells ga 0 [.slice VA vn vcp, .int .i64 vlast]) := Later.fill hS HGA.out 0 _
       refine hK _ _ hS fun wq hwq => ?_
       obtain ⟨z1, hz1⟩ : ∃ x, y3.setCells ga 0 [.slice VA vn vcp, .int .i64 vlast] = x := ⟨_, rfl⟩
       rw [hz1] at hA2 hB2 hV2 hS
       have hz2 : z1 = wq := hz1.symm.trans hwq
       subst hz2
       clear hK hwq hz1
       (try simp only [Act.put])
       refine wpAnyK_all (rs := [14]) (by kernel_rfl) (by simp) (fun i hi => ?_)
       simp only [List.mem_cons, List.not_mem_nil, or_false] at hi
       subst hi
       refine stepK (o := ⟨none, _, _, _, _, _⟩) rfl (fun K hK => ?_)
       rw [if_pos (by rfl)]
       refine wp_store_mid 27 _ _ rfl gb 0 #[.int .i64 vsb, .int .i64 vpb, .int .i64 vparts, .slice VE ven vec] rfl rfl (fun j hj => by rw [Nat.zero_add]; have hj2 : j < 4 := hj; exact ⟨by rw [cell_of_row z1 gb j _ _ _ hB2, Array.getElem?_eq_getElem (by exact hj2)]; rfl, hB2.frozen j⟩) (by kernel_rfl) (by simp [Value.oneCell']) ?_
       have hB3 := Blk.fill zL [.int .i64 vsb, .int .i64 vpb, .int .i64 vparts, .slice VE ven vec] hB2 rfl
       have hA3 := hA2.aside hab 0 [.int .i64 vsb, .int .i64 vpb, .int .i64 vparts, .slice VE ven vec]
       have hV3 := hV2.fill hB2 (by decide) (by decide) 0 [.int .i64 vsb, .int .i64 vpb, .int .i64 vparts, .slice VE ven vec]
       have hS : (fun W : World => Later wr W) (z1.setCells gb 0 [.int .i64 vsb, .int .i64 vpb, .int .i64 vparts, .slice VE ven vec]) := Later.fill hS HGB.out 0 _
       refine hK _ _ hS fun wq hwq => ?_
       obtain ⟨z2, hz1⟩ : ∃ x, z1.setCells gb 0 [.int .i64 vsb, .int .i64 vpb, .int .i64 vparts, .slice VE ven vec] = x := ⟨_, rfl⟩
       rw [hz1] at hA3 hB3 hV3 hS
       have hz2 : z2 = wq := hz1.symm.trans hwq
       subst hz2
       clear hK hwq hz1 hA2 hB2 hV2
       (try simp only [Act.put])
       refine wpAnyK_take (fun _ => rfl) (fun _ _ _ h k => h.trans k) (fun _ _ h k => k ▸ h) (i := 15) (oi := ⟨some 11, _, _, _, _, _⟩) (v := ?_) rfl (by kernel_rfl) (by kernel_rfl) (by kernel_rfl) (fun _ _ _ h => h) (Or.inl (Or.inl ⟨by rfl, ?_⟩)) hS ?_
       rotate_left
       focus ((intro w hSw; (try dsimp only at hSw); skip; go_simp); (try with_reducible rfl))
       intro wq hwq
       subst hwq
       (try simp only [Act.put, List.setIfInBounds_toArray, List.set_cons_zero, List.set_cons_succ])
       refine wpAnyK_done (by kernel_rfl) ?_ _
       go_wp2_with fail
       go_meet
       exact ⟨ga, gb, VA, vn, vcp, vlast, vsb, vpb, vparts, VE, ven, vec, vev, rfl, rfl, rfl, hV3, hA3, hB3, hab, HGA.out, HGB.out, hS⟩
     ·
      refine stepK (o := ⟨some 10, _, _, _, _, _⟩) rfl (fun K hK => ?_)
      go_simp
      obtain ⟨gb, hgg⟩ : ∃ x, y0.heap.size = x := ⟨_, rfl⟩
      obtain ⟨y1, hyy⟩ : ∃ x, y0.alloc (.cells zL.toArray 27) = x := ⟨_, rfl⟩
      have lc : Later y0 y1 := hyy ▸ Later.new _ _
      have HB := Lib.hid (show Blk y1 gb zL.toArray 27 from hyy ▸ Blk.new _ _ _ _ hgg.symm)
      have HGB := Lib.hid (show wr.heap.size ≤ gb from hgg ▸ Later.size hS)
      replace hS : (fun W : World => Later wr W) y1 := Later.trans hS lc
      try rw [hgg]
      unfold zL at hyy
      rw [hyy]
      refine hK _ _ hS fun wq hwq => ?_
      subst hwq
      clear hK lc hyy hgg
      (try simp only [Act.put, List.setIfInBounds_toArray, List.set_cons_zero, List.set_cons_succ])
      refine wpAnyK_all (rs := [6, 11]) (by kernel_rfl) (by simp) (fun i hi => ?_)
      simp only [List.mem_cons, List.not_mem_nil, or_false] at hi
      rcases hi with rfl | rfl
      ·
       refine stepK (o := ⟨some 95, _, _, _, _, _⟩) rfl (fun K hK => ?_)
       go_simp
       refine (HAP.out _ hS).mono ?_
       intro e y2 hap
       obtain ⟨VA, vn, vcp, vlast, vsb, vpb, vparts, VE, ven, vec, vev, rfl, hv, lc⟩ := hap.v (Later.size hS)
       have HV := Lib.hid hv
       replace hS : (fun W : World => Later wr W) y2 := Later.trans hS lc
       have HB := Lib.hid (HB.out.later lc)
       refine hK _ _ hS fun wq hwq => ?_
       subst hwq
       clear hK hap hv lc
       (try simp only [Act.put, List.setIfInBounds_toArray, List.set_cons_zero, List.set_cons_succ])
       refine wpAnyK_take (fun _ => rfl) (fun _ _ _ h k => h.trans k) (fun _ _ h k => k ▸ h) (i := 7) (oi := ⟨some 88, _, _, _, _, _⟩) (v := ?_) rfl (by kernel_rfl) (by kernel_rfl) (by kernel_rfl) (fun _ _ _ h => h) (Or.inl (Or.inl ⟨by rfl, ?_⟩)) hS ?_
       rotate_left
       focus ((intro w hSw; (try dsimp only at hSw); skip; go_simp); (try with_reducible rfl))
       intro wq hwq
       subst hwq
       (try simp only [Act.put, List.setIfInBounds_toArray, List.set_cons_zero, List.set_cons_succ])
       refine wpAnyK_take (fun _ => rfl) (fun _ _ _ h k => h.trans k) (fun _ _ h k => k ▸ h) (i := 8) (oi := ⟨some 96, _, _, _, _, _⟩) (v := ?_) rfl (by kernel_rfl) (by kernel_rfl) (by kernel_rfl) (fun _ _ _ h => h) (Or.inl (Or.inl ⟨by rfl, ?_⟩)) hS ?_
       rotate_left
       focus ((intro w hSw; (try dsimp only at hSw); skip; go_simp); (try with_reducible rfl))
       intro wq hwq
       subst hwq
       (try simp only [Act.put, List.setIfInBounds_toArray, List.set_cons_zero, List.set_cons_succ])
       refine wpAnyK_take (fun _ => rfl) (fun _ _ _ h k => h.trans k) (fun _ _ h k => k ▸ h) (i := 9) (oi := ⟨some 97, _, _, _, _, _⟩) (v := ?_) rfl (by kernel_rfl) (by kernel_rfl) (by kernel_rfl) (fun _ _ _ h => h) (Or.inl (Or.inl ⟨by rfl, ?_⟩)) hS ?_
       rotate_left
       focus ((intro w hSw; (try dsimp only at hSw); skip; go_simp); (try with_reducible rfl))
       intro wq hwq
       subst hwq
       (try simp only [Act.put, List.setIfInBounds_toArray, List.set_cons_zero, List.set_cons_succ])
       refine wpAnyK_take (fun _ => rfl) (fun _ _ _ h k => h.trans k) (fun _ _ h k => k ▸ h) (i := 10) (oi := ⟨some 98, _, _, _, _, _⟩) (v := ?_) rfl (by kernel_rfl) (by kernel_rfl) (by kernel_rfl) (fun _ _ _ h => h) (Or.inl (Or.inl ⟨by rfl, ?_⟩)) hS ?_
       rotate_left
       focus ((intro w hSw; (try dsimp only at hSw); skip; go_simp); (try with_reducible rfl))
       intro wq hwq
       subst hwq
       (try simp only [Act.put, List.setIfInBounds_toArray, List.set_cons_zero, List.set_cons_succ])
       refine wpAnyK_all (rs := [11]) (by kernel_rfl) (by simp) (fun i hi => ?_)
       simp only [List.mem_cons, List.not_mem_nil, or_false] at hi
       subst hi
       refine stepK (o := ⟨some 9, _, _, _, _, _⟩) rfl (fun K hK => ?_)
       go_simp
       obtain ⟨ga, hgg⟩ : ∃ x, y2.heap.size = x := ⟨_, rfl⟩
       obtain ⟨y3, hyy⟩ : ∃ x, y2.alloc (.cells zS.toArray 24) = x := ⟨_, rfl⟩
       have lc : Later y2 y3 := hyy ▸ Later.new _ _
       have HA := Lib.hid (show Blk y3 ga zS.toArray 24 from hyy ▸ Blk.new _ _ _ _ hgg.symm)
       have HGA := Lib.hid (show wr.heap.size ≤ ga from hgg ▸ Later.size hS)
       replace hS : (fun W : World => Later wr W) y3 := Later.trans hS lc
       have HV := Lib.hid (HV.out.later lc)
       have HB := Lib.hid (HB.out.later lc)
       try rw [hgg]
       unfold zS at hyy
       rw [hyy]
       refine hK _ _ hS fun wq hwq => ?_
       subst hwq
       clear hK lc hyy hgg
       (try simp only [Act.put, List.setIfInBounds_toArray, List.set_cons_zero, List.set_cons_succ])
       have hab : ga ≠ gb := ne_typ HA.out HB.out (by decide)
       refine wpAnyK_all (rs := [13]) (by kernel_rfl) (by simp) (fun i hi => ?_)
       simp only [List.mem_cons, List.not_mem_nil, or_false] at hi
       subst hi
       refine stepK (o := ⟨none, _, _, _, _, _⟩) rfl (fun K hK => ?_)
       rw [if_pos (by rfl)]
       refine wp_store_mid 24 _ _ rfl ga 0 #[.slice VA vn vcp, .int .i64 vlast] rfl rfl (fun j hj => by rw [Nat.zero_add]; have hj2 : j < 2 := hj; exact ⟨by rw [cell_of_row y3 ga j _ _ _ HA.out, Array.getElem?_eq_getElem (by exact hj2)]; rfl, HA.out.frozen j⟩) (by kernel_rfl) (by simp [Value.oneCell']) ?_
       have hA2 := Blk.fill zS [.slice VA vn vcp, .int .i64 vlast] HA.out rfl
       have hB2 := HB.out.aside hab.symm 0 [.slice VA vn vcp, .int .i64 vlast]
       have hV2 := HV.out.fill HA.out (by decide) (by decide) 0 [.slice VA vn vcp, .int .i64 vlast]
       have hS : (fun W : World => Later wr W) (y3.setCells ga 0 [.slice VA vn vcp, .int .i64 vlast]) := Later.fill hS HGA.out 0 _
       refine hK _ _ hS fun wq hwq => ?_
       obtain ⟨z1, hz1⟩ : ∃ x, y3.setCells ga 0 [.slice VA vn vcp, .int .i64 vlast] = x := ⟨_, rfl⟩
       rw [hz1] at hA2 hB2 hV2 hS
       have hz2 : z1 = wq := hz1.symm.trans hwq
       subst hz2
       clear hK hwq hz1
       (try simp only [Act.put])
       refine wpAnyK_all (rs := [14]) (by kernel_rfl) (by simp) (fun i hi => ?_)
       simp only [List.mem_cons, List.not_mem_nil, or_false] at hi
       subst hi
       refine stepK (o := ⟨none, _, _, _, _, _⟩) rfl (fun K hK => ?_)
       rw [if_pos (by rfl)]
       refine wp_store_mid 27 _ _ rfl gb 0 #[.int .i64 vsb, .int .i64 vpb, .int .i64 vparts, .slice VE ven vec] rfl rfl (fun j hj => by rw [Nat.zero_add]; have hj2 : j < 4 := hj; exact ⟨by rw [cell_of_row z1 gb j _ _ _ hB2, Array.getElem?_eq_getElem (by exact hj2)]; rfl, hB2.frozen j⟩) (by kernel_rfl) (by simp [Value.oneCell']) ?_
       have hB3 := Blk.fill zL [.int .i64 vsb, .int .i64 vpb, .int .i64 vparts, .slice VE ven vec] hB2 rfl
       have hA3 := hA2.aside hab 0 [.int .i64 vsb, .int .i64 vpb, .int .i64 vparts, .slice VE ven vec]
       have hV3 := hV2.fill hB2 (by decide) (by decide) 0 [.int .i64 vsb, .int .i64 vpb, .int .i64 vparts, .slice VE ven vec]
       have hS : (fun W : World => Later wr W) (z1.setCells gb 0 [.int .i64 vsb, .int .i64 vpb, .int .i64 vparts, .slice VE ven vec]) := Later.fill hS HGB.out 0 _
       refine hK _ _ hS fun wq hwq => ?_
       obtain ⟨z2, hz1⟩ : ∃ x, z1.setCells gb 0 [.int .i64 vsb, .int .i64 vpb, .int .i64 vparts, .slice VE ven vec] = x := ⟨_, rfl⟩
       rw [hz1] at hA3 hB3 hV3 hS
       have hz2 : z2 = wq := hz1.symm.trans hwq
       subst hz2
       clear hK hwq hz1 hA2 hB2 hV2
       (try simp only [Act.put])
       refine wpAnyK_take (fun _ => rfl) (fun _ _ _ h k => h.trans k) (fun _ _ h k => k ▸ h) (i := 15) (oi := ⟨some 11, _, _, _, _, _⟩) (v := ?_) rfl (by kernel_rfl) (by kernel_rfl) (by kernel_rfl) (fun _ _ _ h => h) (Or.inl (Or.inl ⟨by rfl, ?_⟩)) hS ?_
       rotate_left
       focus ((intro w hSw; (try dsimp only at hSw); skip; go_simp); (try with_reducible rfl))
       intro wq hwq
       subst hwq
       (try simp only [Act.put, List.setIfInBounds_toArray, List.set_cons_zero, List.set_cons_succ])
       refine wpAnyK_done (by kernel_rfl) ?_ _
       go_wp2_with fail
       go_meet
       exact ⟨ga, gb, VA, vn, vcp, vlast, vsb, vpb, vparts, VE, ven, vec, vev, rfl, rfl, rfl, hV3, hA3, hB3, hab, HGA.out, HGB.out, hS⟩
      ·
       refine stepK (o := ⟨some 9, _, _, _, _, _⟩) rfl (fun K hK => ?_)
       go_simp
       obtain ⟨ga, hgg⟩ : ∃ x, y1.heap.size = x := ⟨_, rfl⟩
       obtain ⟨y2, hyy⟩ : ∃ x, y1.alloc (.cells zS.toArray 24) = x := ⟨_, rfl⟩
       have lc : Later y1 y2 := hyy ▸ Later.new _ _
       have HA := Lib.hid (show Blk y2 ga zS.toArray 24 from hyy ▸ Blk.new _ _ _ _ hgg.symm)
       have HGA := Lib.hid (show wr.heap.size ≤ ga from hgg ▸ Later.size hS)
       replace hS : (fun W : World => Later wr W) y2 := Later.trans hS lc
       have HB := Lib.hid (HB.out.later lc)
       try rw [hgg]
       unfold zS at hyy
       rw [hyy]
       refine hK _ _ hS fun wq hwq => ?_
       subst hwq
       clear hK lc hyy hgg
       (try simp only [Act.put, List.setIfInBounds_toArray, List.set_cons_zero, List.set_cons_succ])
       refine wpAnyK_all (rs := [6]) (by kernel_rfl) (by simp) (fun i hi => ?_)
       simp only [List.mem_cons, List.not_mem_nil, or_false] at hi
       subst hi
       refine stepK (o := ⟨some 95, _, _, _, _, _⟩) rfl (fun K hK => ?_)
       go_simp
       refine (HAP.out _ hS).mono ?_
       intro e y3 hap
       obtain ⟨VA, vn, vcp, vlast, vsb, vpb, vparts, VE, ven, vec, vev, rfl, hv, lc⟩ := hap.v (Later.size hS)
       have HV := Lib.hid hv
       replace hS : (fun W : World => Later wr W) y3 := Later.trans hS lc
       have HA := Lib.hid (HA.out.later lc)
       have HB := Lib.hid (HB.out.later lc)
       refine hK _ _ hS fun wq hwq => ?_
       subst hwq
       clear hK hap hv lc
       (try simp only [Act.put, List.setIfInBounds_toArray, List.set_cons_zero, List.set_cons_succ])
       refine wpAnyK_take (fun _ => rfl) (fun _ _ _ h k => h.trans k) (fun _ _ h k => k ▸ h) (i := 7) (oi := ⟨some 88, _, _, _, _, _⟩) (v := ?_) rfl (by kernel_rfl) (by kernel_rfl) (by kernel_rfl) (fun _ _ _ h => h) (Or.inl (Or.inl ⟨by rfl, ?_⟩)) hS ?_
       rotate_left
       focus ((intro w hSw; (try dsimp only at hSw); skip; go_simp); (try with_reducible rfl))
       intro wq hwq
       subst hwq
       (try simp only [Act.put, List.setIfInBounds_toArray, List.set_cons_zero, List.set_cons_succ])
       refine wpAnyK_take (fun _ => rfl) (fun _ _ _ h k => h.trans k) (fun _ _ h k => k ▸ h) (i := 8) (oi := ⟨some 96, _, _, _, _, _⟩) (v := ?_) rfl (by kernel_rfl) (by kernel_rfl) (by kernel_rfl) (fun _ _ _ h => h) (Or.inl (Or.inl ⟨by rfl, ?_⟩)) hS ?_
       rotate_left
       focus ((intro w hSw; (try dsimp only at hSw); skip; go_simp); (try with_reducible rfl))
       intro wq hwq
       subst hwq
       (try simp only [Act.put, List.setIfInBounds_toArray, List.set_cons_zero, List.set_cons_succ])
       refine wpAnyK_take (fun _ => rfl) (fun _ _ _ h k => h.trans k) (fun _ _ h k => k ▸ h) (i := 9) (oi := ⟨some 97, _, _, _, _, _⟩) (v := ?_) rfl (by kernel_rfl) (by kernel_rfl) (by kernel_rfl) (fun _ _ _ h => h) (Or.inl (Or.inl ⟨by rfl, ?_⟩)) hS ?_
       rotate_left
       focus ((intro w hSw; (try dsimp only at hSw); skip; go_simp); (try with_reducible rfl))
       intro wq hwq
       subst hwq
       (try simp only [Act.put, List.setIfInBounds_toArray, List.set_cons_zero, List.set_cons_succ])
       refine wpAnyK_take (fun _ => rfl) (fun _ _ _ h k => h.trans k) (fun _ _ h k => k ▸ h) (i := 10) (oi := ⟨some 98, _, _, _, _, _⟩) (v := ?_) rfl (by kernel_rfl) (by kernel_rfl) (by kernel_rfl) (fun _ _ _ h => h) (Or.inl (Or.inl ⟨by rfl, ?_⟩)) hS ?_
       rotate_left
       focus ((intro w hSw; (try dsimp only at hSw); skip; go_simp); (try with_reducible rfl))
       intro wq hwq
       subst hwq
       (try simp only [Act.put, List.setIfInBounds_toArray, List.set_cons_zero, List.set_cons_succ])
       have hab : ga ≠ gb := ne_typ HA.out HB.out (by decide)
       refine wpAnyK_all (rs := [13]) (by kernel_rfl) (by simp) (fun i hi => ?_)
       simp only [List.mem_cons, List.not_mem_nil, or_false] at hi
       subst hi
       refine stepK (o := ⟨none, _, _, _, _, _⟩) rfl (fun K hK => ?_)
       rw [if_pos (by rfl)]
       refine wp_store_mid 24 _ _ rfl ga 0 #[.slice VA vn vcp, .int .i64 vlast] rfl rfl (fun j hj => by rw [Nat.zero_add]; have hj2 : j < 2 := hj; exact ⟨by rw [cell_of_row y3 ga j _ _ _ HA.out, Array.getElem?_eq_getElem (by exact hj2)]; rfl, HA.out.frozen j⟩) (by kernel_rfl) (by simp [Value.oneCell']) ?_
       have hA2 := Blk.fill zS [.slice VA vn vcp, .int .i64 vlast] HA.out rfl
       have hB2 := HB.out.aside hab.symm 0 [.slice VA vn vcp, .int .i64 vlast]
       have hV2 := HV.out.fill HA.out (by decide) (by decide) 0 [.slice VA vn vcp, .int .i64 vlast]
       have hS : (fun W : World => Later wr W) (y3.setCells ga 0 [.slice VA vn vcp, .int .i64 vlast]) := Later.fill hS HGA.out 0 _
       refine hK _ _ hS fun wq hwq => ?_
       obtain ⟨z1, hz1⟩ : ∃ x, y3.setCells ga 0 [.slice VA vn vcp, .int .i64 vlast] = x := ⟨_, rfl⟩
       rw [hz1] at hA2 hB2 hV2 hS
       have hz2 : z1 = wq := hz1.symm.trans hwq
       subst hz2
       clear hK hwq hz1
       (try simp only [Act.put])
       refine wpAnyK_all (rs := [14]) (by kernel_rfl) (by simp) (fun i hi => ?_)
       simp only [List.mem_cons, List.not_mem_nil, or_false] at hi
       subst hi
       refine stepK (o := ⟨none, _, _, _, _, _⟩) rfl (fun K hK => ?_)
       rw [if_pos (by rfl)]
       refine wp_store_mid 27 _ _ rfl gb 0 #[.int .i64 vsb, .int .i64 vpb, .int .i64 vparts, .slice VE ven vec] rfl rfl (fun j hj => by rw [Nat.zero_add]; have hj2 : j < 4 := hj; exact ⟨by rw [cell_of_row z1 gb j _ _ _ hB2, Array.getElem?_eq_getElem (by exact hj2)]; rfl, hB2.frozen j⟩) (by kernel_rfl) (by simp [Value.oneCell']) ?_
       have hB3 := Blk.fill zL [.int .i64 vsb, .int .i64 vpb, .int .i64 vparts, .slice VE ven vec] hB2 rfl
       have hA3 := hA2.aside hab 0 [.int .i64 vsb, .int .i64 vpb, .int .i64 vparts, .slice VE ven vec]
       have hV3 := hV2.fill hB2 (by decide) (by decide) 0 [.int .i64 vsb, .int .i64 vpb, .int .i64 vparts, .slice VE ven vec]
       have hS : (fun W : World => Later wr W) (z1.setCells gb 0 [.int .i64 vsb, .int .i64 vpb, .int .i64 vparts, .slice VE ven vec]) := Later.fill hS HGB.out 0 _
       refine hK _ _ hS fun wq hwq => ?_
       obtain ⟨z2, hz1⟩ : ∃ x, z1.setCells gb 0 [.int .i64 vsb, .int .i64 vpb, .int .i64 vparts, .slice VE ven vec] = x := ⟨_, rfl⟩
       rw [hz1] at hA3 hB3 hV3 hS
       have hz2 : z2 = wq := hz1.symm.trans hwq
       subst hz2
       clear hK hwq hz1 hA2 hB2 hV2
       (try simp only [Act.put])
       refine wpAnyK_take (fun _ => rfl) (fun _ _ _ h k => h.trans k) (fun _ _ h k => k ▸ h) (i := 15) (oi := ⟨some 11, _, _, _, _, _⟩) (v := ?_) rfl (by kernel_rfl) (by kernel_rfl) (by kernel_rfl) (fun _ _ _ h => h) (Or.inl (Or.inl ⟨by rfl, ?_⟩)) hS ?_
       rotate_left
       focus ((intro w hSw; (try dsimp only at hSw); skip; go_simp); (try with_reducible rfl))
       intro wq hwq
       subst hwq
       (try simp only [Act.put, List.setIfInBounds_toArray, List.set_cons_zero, List.set_cons_succ])
       refine wpAnyK_done (by kernel_rfl) ?_ _
       go_wp2_with fail
       go_meet
       exact ⟨ga, gb, VA, vn, vcp, vlast, vsb, vpb, vparts, VE, ven, vec, vev, rfl, rfl, rfl, hV3, hA3, hB3, hab, HGA.out, HGB.out, hS⟩
    case rest =>
     obtain ⟨g1, g2, A, n, cp, last, sb, pb, parts, E, en, ec, e, rfl, rfl, rfl, hv, _, _, _, _, _, lx⟩ := hcut
     have he : e = er := hv.err.trans HHC.out.symm
     subst he
     have r1 := lx.cell r0
     have HLX := Lib.hid (HLT.out.trans lx)
     clear hv lx r0 HAP HQ9 HKC
     go_wp2_with fail
     go_roundw
     case rel => exact ⟨k + 1, hlt, by go_num, HLX.out⟩
     case measure => simp [intOf]; omega
   ·
    have HLT := Lib.hid lat
    clear lat
    obtain ⟨wr0, hwr0⟩ : ∃ x, x = wr := ⟨_, rfl⟩
    subst hwr0
    have HQ9 := Lib.hid (fun (W : World) (l : Later wr0 W) (j : Nat) (v : Value) (h : (chcells (sfL.getD 0 chz))[j]? = some v) => show W.cell? ⟨q + 3, 0 * 9 + j, none⟩ = some v from ((HPB.out.later HLT.out).later l).cell (0 * 9 + j) v (by rw [List.getElem?_toArray]; exact fch_at 0 (by decide) j v h))
    have HAP := Lib.hid (fun (W : World) (l : Later wr0 W) => show Calls Tryd.prog 14 #[.agg #[.slice (some ⟨k5, 0, none⟩) 6 c5, .int .i64 6], .agg #[.int .i64 1, .int .i64 3, .int .i64 2, .slice (some ⟨q + 1, 0, none⟩) 6 6], .agg #[.int .i64 1, .int .i64 0, .string ⟨#[110]⟩, .int .i64 4, .int .i64 4, .int .i64 0, .string ⟨#[118]⟩, .int .u8 0, .int .i64 0]] W (ApP sfU (sfL.getD 0 chz) W) from schApply_any (some ⟨k5, 0, none⟩) (some ⟨q + 1, 0, none⟩) c5 6 sfU (sfL.getD 0 chz) W f (HS.out.later (HLW.out.trans (HLT.out.trans l))) (H3.out.later (HLW.out.trans (HLT.out.trans l))) (HEF.out.later (HLT.out.trans l)) (HEQ.out.later (HLT.out.trans l)) (by decide) (by decide) sf_nm2 (sf_nm 0 (by decide)) (fun h => by cases h) (fun h => by cases h))
    go_upto_region 18 with fail
    go_cut [12, 13, 14] from 111 to 120 (fun pv qv ev wx => ResP sfU (sfL.getD 0 chz) wr0 pv qv ev wx)
    case first => as_aux_lemma =>
     refine wp_region_K (S := (fun W : World => Later wr0 W)) (R := fun a b => a = b) (fun _ => rfl) (by kernel_rfl) ?_
     obtain ⟨y0, hy0⟩ : ∃ x, wr0.drew = x := ⟨_, rfl⟩
     have hS : (fun W : World => Later wr0 W) y0 := hy0 ▸ (Later.refl wr0).drew
     rw [hy0]
     clear hy0
     refine wpAnyK_take (fun _ => rfl) (fun _ _ _ h k => h.trans k) (fun _ _ h k => k ▸ h) (i := 0) (oi := ⟨some 112, _, _, _, _, _⟩) (v := ?_) rfl (by kernel_rfl) (by kernel_rfl) (by kernel_rfl) (fun _ _ _ h => h) (Or.inl (Or.inl ⟨by rfl, ?_⟩)) hS ?_
     rotate_left
     focus ((intro w hSw; (try dsimp only at hSw); have e0 := (HD4.out.later (HLT.out.trans hSw)).cell 0 _ rfl; have e1 := (HD4.out.later (HLT.out.trans hSw)).cell 1 _ rfl; have d0 := (HQ2.out.later (HLT.out.trans hSw)).cell 0 _ rfl; have d1 := (HQ2.out.later (HLT.out.trans hSw)).cell 1 _ rfl; have d2 := (HQ2.out.later (HLT.out.trans hSw)).cell 2 _ rfl; have d3 := (HQ2.out.later (HLT.out.trans hSw)).cell 3 _ rfl; have q0 := HQ9.out w hSw 0 _ rfl; have q1 := HQ9.out w hSw 1 _ rfl; have q2 := HQ9.out w hSw 2 _ rfl; have q3 := HQ9.out w hSw 3 _ rfl; have q4 := HQ9.out w hSw 4 _ rfl; have q5 := HQ9.out w hSw 5 _ rfl; have q6 := HQ9.out w hSw 6 _ rfl; have q7 := HQ9.out w hSw 7 _ rfl; have q8 := HQ9.out w hSw 8 _ rfl; (try simp only [Nat.reduceMul, Nat.reduceAdd] at q0 q1 q2 q3 q4 q5 q6 q7 q8); go_simp); (try with_reducible rfl))
     intro wq hwq
     subst hwq
     (try simp only [Act.put, List.setIfInBounds_toArray, List.set_cons_zero, List.set_cons_succ])
     refine wpAnyK_take (fun _ => rfl) (fun _ _ _ h k => h.trans k) (fun _ _ h k => k ▸ h) (i := 1) (oi := ⟨some 113, _, _, _, _, _⟩) (v := ?_) rfl (by kernel_rfl) (by kernel_rfl) (by kernel_rfl) (fun _ _ _ h => h) (Or.inl (Or.inl ⟨by rfl, ?_⟩)) hS ?_
     rotate_left
     focus ((intro w hSw; (try dsimp only at hSw); have e0 := (HD4.out.later (HLT.out.trans hSw)).cell 0 _ rfl; have e1 := (HD4.out.later (HLT.out.trans hSw)).cell 1 _ rfl; have d0 := (HQ2.out.later (HLT.out.trans hSw)).cell 0 _ rfl; have d1 := (HQ2.out.later (HLT.out.trans hSw)).cell 1 _ rfl; have d2 := (HQ2.out.later (HLT.out.trans hSw)).cell 2 _ rfl; have d3 := (HQ2.out.later (HLT.out.trans hSw)).cell 3 _ rfl; have q0 := HQ9.out w hSw 0 _ rfl; have q1 := HQ9.out w hSw 1 _ rfl; have q2 := HQ9.out w hSw 2 _ rfl; have q3 := HQ9.out w hSw 3 _ rfl; have q4 := HQ9.out w hSw 4 _ rfl; have q5 := HQ9.out w hSw 5 _ rfl; have q6 := HQ9.out w hSw 6 _ rfl; have q7 := HQ9.out w hSw 7 _ rfl; have q8 := HQ9.out w hSw 8 _ rfl; (try simp only [Nat.reduceMul, Nat.reduceAdd] at q0 q1 q2 q3 q4 q5 q6 q7 q8); go_simp); (try with_reducible rfl))
     intro wq hwq
     subst hwq
     (try simp only [Act.put, List.setIfInBounds_toArray, List.set_cons_zero, List.set_cons_succ])
     refine wpAnyK_take (fun _ => rfl) (fun _ _ _ h k => h.trans k) (fun _ _ h k => k ▸ h) (i := 2) (oi := ⟨some 114, _, _, _, _, _⟩) (v := ?_) rfl (by kernel_rfl) (by kernel_rfl) (by kernel_rfl) (fun _ _ _ h => h) (Or.inl (Or.inl ⟨by rfl, ?_⟩)) hS ?_
     rotate_left
     focus ((intro w hSw; (try dsimp only at hSw); have e0 := (HD4.out.later (HLT.out.trans hSw)).cell 0 _ rfl; have e1 := (HD4.out.later (HLT.out.trans hSw)).cell 1 _ rfl; have d0 := (HQ2.out.later (HLT.out.trans hSw)).cell 0 _ rfl; have d1 := (HQ2.out.later (HLT.out.trans hSw)).cell 1 _ rfl; have d2 := (HQ2.out.later (HLT.out.trans hSw)).cell 2 _ rfl; have d3 := (HQ2.out.later (HLT.out.trans hSw)).cell 3 _ rfl; have q0 := HQ9.out w hSw 0 _ rfl; have q1 := HQ9.out w hSw 1 _ rfl; have q2 := HQ9.out w hSw 2 _ rfl; have q3 := HQ9.out w hSw 3 _ rfl; have q4 := HQ9.out w hSw 4 _ rfl; have q5 := HQ9.out w hSw 5 _ rfl; have q6 := HQ9.out w hSw 6 _ rfl; have q7 := HQ9.out w hSw 7 _ rfl; have q8 := HQ9.out w hSw 8 _ rfl; (try simp only [Nat.reduceMul, Nat.reduceAdd] at q0 q1 q2 q3 q4 q5 q6 q7 q8); go_simp); (try with_reducible rfl))
     intro wq hwq
     subst hwq
     (try simp only [Act.put, List.setIfInBounds_toArray, List.set_cons_zero, List.set_cons_succ])
     refine wpAnyK_take (fun _ => rfl) (fun _ _ _ h k => h.trans k) (fun _ _ h k => k ▸ h) (i := 3) (oi := ⟨some 115, _, _, _, _, _⟩) (v := ?_) rfl (by kernel_rfl) (by kernel_rfl) (by kernel_rfl) (fun _ _ _ h => h) (Or.inl (Or.inl ⟨by rfl, ?_⟩)) hS ?_
     rotate_left
     focus ((intro w hSw; (try dsimp only at hSw); have e0 := (HD4.out.later (HLT.out.trans hSw)).cell 0 _ rfl; have e1 := (HD4.out.later (HLT.out.trans hSw)).cell 1 _ rfl; have d0 := (HQ2.out.later (HLT.out.trans hSw)).cell 0 _ rfl; have d1 := (HQ2.out.later (HLT.out.trans hSw)).cell 1 _ rfl; have d2 := (HQ2.out.later (HLT.out.trans hSw)).cell 2 _ rfl; have d3 := (HQ2.out.later (HLT.out.trans hSw)).cell 3 _ rfl; have q0 := HQ9.out w hSw 0 _ rfl; have q1 := HQ9.out w hSw 1 _ rfl; have q2 := HQ9.out w hSw 2 _ rfl; have q3 := HQ9.out w hSw 3 _ rfl; have q4 := HQ9.out w hSw 4 _ rfl; have q5 := HQ9.out w hSw 5 _ rfl; have q6 := HQ9.out w hSw 6 _ rfl; have q7 := HQ9.out w hSw 7 _ rfl; have q8 := HQ9.out w hSw 8 _ rfl; (try simp only [Nat.reduceMul, Nat.reduceAdd] at q0 q1 q2 q3 q4 q5 q6 q7 q8); go_simp); (try with_reducible rfl))
     intro wq hwq
     subst hwq
     (try simp only [Act.put, List.setIfInBounds_toArray, List.set_cons_zero, List.set_cons_succ])
     refine wpAnyK_take (fun _ => rfl) (fun _ _ _ h k => h.trans k) (fun _ _ h k => k ▸ h) (i := 4) (oi := ⟨some 116, _, _, _, _, _⟩) (v := ?_) rfl (by kernel_rfl) (by kernel_rfl) (by kernel_rfl) (fun _ _ _ h => h) (Or.inl (Or.inl ⟨by rfl, ?_⟩)) hS ?_
     rotate_left
     focus ((intro w hSw; (try dsimp only at hSw); have e0 := (HD4.out.later (HLT.out.trans hSw)).cell 0 _ rfl; have e1 := (HD4.out.later (HLT.out.trans hSw)).cell 1 _ rfl; have d0 := (HQ2.out.later (HLT.out.trans hSw)).cell 0 _ rfl; have d1 := (HQ2.out.later (HLT.out.trans hSw)).cell 1 _ rfl; have d2 := (HQ2.out.later (HLT.out.trans hSw)).cell 2 _ rfl; have d3 := (HQ2.out.later (HLT.out.trans hSw)).cell 3 _ rfl; have q0 := HQ9.out w hSw 0 _ rfl; have q1 := HQ9.out w hSw 1 _ rfl; have q2 := HQ9.out w hSw 2 _ rfl; have q3 := HQ9.out w hSw 3 _ rfl; have q4 := HQ9.out w hSw 4 _ rfl; have q5 := HQ9.out w hSw 5 _ rfl; have q6 := HQ9.out w hSw 6 _ rfl; have q7 := HQ9.out w hSw 7 _ rfl; have q8 := HQ9.out w hSw 8 _ rfl; (try simp only [Nat.reduceMul, Nat.reduceAdd] at q0 q1 q2 q3 q4 q5 q6 q7 q8); go_simp); (try with_reducible rfl))
     intro wq hwq
     subst hwq
     (try simp only [Act.put, List.setIfInBounds_toArray, List.set_cons_zero, List.set_cons_succ])
     refine wpAnyK_all (rs := [5, 10, 11]) (by kernel_rfl) (by simp) (fun i hi => ?_)
     simp only [List.mem_cons, List.not_mem_nil, or_false] at hi
     rcases hi with rfl | rfl | rfl
     ·
      refine stepK (o := ⟨some 117, _, _, _, _, _⟩) rfl (fun K hK => ?_)
      go_simp
      refine (HAP.out _ hS).mono ?_
      intro e y1 hap
      obtain ⟨VA, vn, vcp, vlast, vsb, vpb, vparts, VE, ven, vec, vev, rfl, hv, lc⟩ := hap.v (Later.size hS)
      have HV := Lib.hid hv
      replace hS : (fun W : World => Later wr0 W) y1 := Later.trans hS lc
      refine hK _ _ hS fun wq hwq => ?_
      subst hwq
      clear hK hap hv lc
      (try simp only [Act.put, List.setIfInBounds_toArray, List.set_cons_zero, List.set_cons_succ])
      refine wpAnyK_take (fun _ => rfl) (fun _ _ _ h k => h.trans k) (fun _ _ h k => k ▸ h) (i := 6) (oi := ⟨some 111, _, _, _, _, _⟩) (v := ?_) rfl (by kernel_rfl) (by kernel_rfl) (by kernel_rfl) (fun _ _ _ h => h) (Or.inl (Or.inl ⟨by rfl, ?_⟩)) hS ?_
      rotate_left
      focus ((intro w hSw; (try dsimp only at hSw); skip; go_simp); (try with_reducible rfl))
      intro wq hwq
      subst hwq
      (try simp only [Act.put, List.setIfInBounds_toArray, List.set_cons_zero, List.set_cons_succ])
      refine wpAnyK_take (fun _ => rfl) (fun _ _ _ h k => h.trans k) (fun _ _ h k => k ▸ h) (i := 7) (oi := ⟨some 118, _, _, _, _, _⟩) (v := ?_) rfl (by kernel_rfl) (by kernel_rfl) (by kernel_rfl) (fun _ _ _ h => h) (Or.inl (Or.inl ⟨by rfl, ?_⟩)) hS ?_
      rotate_left
      focus ((intro w hSw; (try dsimp only at hSw); skip; go_simp); (try with_reducible rfl))
      intro wq hwq
      subst hwq
      (try simp only [Act.put, List.setIfInBounds_toArray, List.set_cons_zero, List.set_cons_succ])
      refine wpAnyK_take (fun _ => rfl) (fun _ _ _ h k => h.trans k) (fun _ _ h k => k ▸ h) (i := 8) (oi := ⟨some 119, _, _, _, _, _⟩) (v := ?_) rfl (by kernel_rfl) (by kernel_rfl) (by kernel_rfl) (fun _ _ _ h => h) (Or.inl (Or.inl ⟨by rfl, ?_⟩)) hS ?_
      rotate_left
      focus ((intro w hSw; (try dsimp only at hSw); skip; go_simp); (try with_reducible rfl))
      intro wq hwq
      subst hwq
      (try simp only [Act.put, List.setIfInBounds_toArray, List.set_cons_zero, List.set_cons_succ])
      refine wpAnyK_take (fun _ => rfl) (fun _ _ _ h k => h.trans k) (fun _ _ h k => k ▸ h) (i := 9) (oi := ⟨some 120, _, _, _, _, _⟩) (v := ?_) rfl (by kernel_rfl) (by kernel_rfl) (by kernel_rfl) (fun _ _ _ h => h) (Or.inl (Or.inl ⟨by rfl, ?_⟩)) hS ?_
      rotate_left
      focus ((intro w hSw; (try dsimp only at hSw); skip; go_simp); (try with_reducible rfl))
      intro wq hwq
      subst hwq
      (try simp only [Act.put, List.setIfInBounds_toArray, List.set_cons_zero, List.set_cons_succ])
      refine wpAnyK_all (rs := [10, 11]) (by kernel_rfl) (by simp) (fun i hi => ?_)
      simp only [List.mem_cons, List.not_mem_nil, or_false] at hi
      rcases hi with rfl | rfl
      ·
       refine stepK (o := ⟨some 12, _, _, _, _, _⟩) rfl (fun K hK => ?_)
       go_simp
       obtain ⟨ga, hgg⟩ : ∃ x, y1.heap.size = x := ⟨_, rfl⟩
       obtain ⟨y2, hyy⟩ : ∃ x, y1.alloc (.cells zS.toArray 24) = x := ⟨_, rfl⟩
       have lc : Later y1 y2 := hyy ▸ Later.new _ _
       have HA := Lib.hid (show Blk y2 ga zS.toArray 24 from hyy ▸ Blk.new _ _ _ _ hgg.symm)
       have HGA := Lib.hid (show wr0.heap.size ≤ ga from hgg ▸ Later.size hS)
       replace hS : (fun W : World => Later wr0 W) y2 := Later.trans hS lc
       have HV := Lib.hid (HV.out.later lc)
       try rw [hgg]
       unfold zS at hyy
       rw [hyy]
       refine hK _ _ hS fun wq hwq => ?_
       subst hwq
       clear hK lc hyy hgg
       (try simp only [Act.put, List.setIfInBounds_toArray, List.set_cons_zero, List.set_cons_succ])
       refine wpAnyK_all (rs := [11]) (by kernel_rfl) (by simp) (fun i hi => ?_)
       simp only [List.mem_cons, List.not_mem_nil, or_false] at hi
       subst hi
       refine stepK (o := ⟨some 13, _, _, _, _, _⟩) rfl (fun K hK => ?_)
       go_simp
       obtain ⟨gb, hgg⟩ : ∃ x, y2.heap.size = x := ⟨_, rfl⟩
       obtain ⟨y3, hyy⟩ : ∃ x, y2.alloc (.cells zL.toArray 27) = x := ⟨_, rfl⟩
       have lc : Later y2 y3 := hyy ▸ Later.new _ _
       have HB := Lib.hid (show Blk y3 gb zL.toArray 27 from hyy ▸ Blk.new _ _ _ _ hgg.symm)
       have HGB := Lib.hid (show wr0.heap.size ≤ gb from hgg ▸ Later.size hS)
       replace hS : (fun W : World => Later wr0 W) y3 := Later.trans hS lc
       have HV := Lib.hid (HV.out.later lc)
       have HA := Lib.hid (HA.out.later lc)
       try rw [hgg]
       unfold zL at hyy
       rw [hyy]
       refine hK _ _ hS fun wq hwq => ?_
       subst hwq
       clear hK lc hyy hgg
       (try simp only [Act.put, List.setIfInBounds_toArray, List.set_cons_zero, List.set_cons_succ])
       have hab : ga ≠ gb := ne_typ HA.out HB.out (by decide)
       refine wpAnyK_all (rs := [12]) (by kernel_rfl) (by simp) (fun i hi => ?_)
       simp only [List.mem_cons, List.not_mem_nil, or_false] at hi
       subst hi
       refine stepK (o := ⟨none, _, _, _, _, _⟩) rfl (fun K hK => ?_)
       rw [if_pos (by rfl)]
       refine wp_store_mid 24 _ _ rfl ga 0 #[.slice VA vn vcp, .int .i64 vlast] rfl rfl (fun j hj => by rw [Nat.zero_add]; have hj2 : j < 2 := hj; exact ⟨by rw [cell_of_row y3 ga j _ _ _ HA.out, Array.getElem?_eq_getElem (by exact hj2)]; rfl, HA.out.frozen j⟩) (by kernel_rfl) (by simp [Value.oneCell']) ?_
       have hA2 := Blk.fill zS [.slice VA vn vcp, .int .i64 vlast] HA.out rfl
       have hB2 := HB.out.aside hab.symm 0 [.slice VA vn vcp, .int .i64 vlast]
       have hV2 := HV.out.fill HA.out (by decide) (by decide) 0 [.slice VA vn vcp, .int .i64 vlast]
       have hS : (fun W : World => Later wr0 W) (y3.setCells ga 0 [.slice VA vn vcp, .int .i64 vlast]) := Later.fill hS HGA.out 0 _
       refine hK _ _ hS fun wq hwq => ?_
       obtain ⟨z1, hz1⟩ : ∃ x, y3.setCells ga 0 [.slice VA vn vcp, .int .i64 vlast] = x := ⟨_, rfl⟩
       rw [hz1] at hA2 hB2 hV2 hS
       have hz2 : z1 = wq := hz1.symm.trans hwq
       subst hz2
       clear hK hwq hz1
       (try simp only [Act.put])
       refine wpAnyK_all (rs := [13]) (by kernel_rfl) (by simp) (fun i hi => ?_)
       simp only [List.mem_cons, List.not_mem_nil, or_false] at hi
       subst hi
       refine stepK (o := ⟨none, _, _, _, _, _⟩) rfl (fun K hK => ?_)
       rw [if_pos (by rfl)]
       refine wp_store_mid 27 _ _ rfl gb 0 #[.int .i64 vsb, .int .i64 vpb, .int .i64 vparts, .slice VE ven vec] rfl rfl (fun j hj => by rw [Nat.zero_add]; have hj2 : j < 4 := hj; exact ⟨by rw [cell_of_row z1 gb j _ _ _ hB2, Array.getElem?_eq_getElem (by exact hj2)]; rfl, hB2.frozen j⟩) (by kernel_rfl) (by simp [Value.oneCell']) ?_
       have hB3 := Blk.fill zL [.int .i64 vsb, .int .i64 vpb, .int .i64 vparts, .slice VE ven vec] hB2 rfl
       have hA3 := hA2.aside hab 0 [.int .i64 vsb, .int .i64 vpb, .int .i64 vparts, .slice VE ven vec]
       have hV3 := hV2.fill hB2 (by decide) (by decide) 0 [.int .i64 vsb, .int .i64 vpb, .int .i64 vparts, .slice VE ven vec]
       have hS : (fun W : World => Later wr0 W) (z1.setCells gb 0 [.int .i64 vsb, .int .i64 vpb, .int .i64 vparts, .slice VE ven vec]) := Later.fill hS HGB.out 0 _
       refine hK _ _ hS fun wq hwq => ?_
       obtain ⟨z2, hz1⟩ : ∃ x, z1.setCells gb 0 [.int .i64 vsb, .int .i64 vpb, .int .i64 vparts, .slice VE ven vec] = x := ⟨_, rfl⟩
       rw [hz1] at hA3 hB3 hV3 hS
       have hz2 : z2 = wq := hz1.symm.trans hwq
       subst hz2
       clear hK hwq hz1 hA2 hB2 hV2
       (try simp only [Act.put])
       refine wpAnyK_take (fun _ => rfl) (fun _ _ _ h k => h.trans k) (fun _ _ h k => k ▸ h) (i := 14) (oi := ⟨some 14, _, _, _, _, _⟩) (v := ?_) rfl (by kernel_rfl) (by kernel_rfl) (by kernel_rfl) (fun _ _ _ h => h) (Or.inl (Or.inl ⟨by rfl, ?_⟩)) hS ?_
       rotate_left
       focus ((intro w hSw; (try dsimp only at hSw); skip; go_simp); (try with_reducible rfl))
       intro wq hwq
       subst hwq
       (try simp only [Act.put, List.setIfInBounds_toArray, List.set_cons_zero, List.set_cons_succ])
       refine wpAnyK_done (by kernel_rfl) ?_ _
       go_wp2_with fail
       go_meet
       exact ⟨ga, gb, VA, vn, vcp, vlast, vsb, vpb, vparts, VE, ven, vec, vev, rfl, rfl, rfl, hV3, hA3, hB3, hab, HGA.out, HGB.out, hS⟩
      ·
       refine stepK (o := ⟨some 13, _, _, _, _, _⟩) rfl (fun K hK => ?_)
       go_simp
       obtain ⟨gb, hgg⟩ : ∃ x, y1.heap.size = x := ⟨_, rfl⟩
       obtain ⟨y2, hyy⟩ : ∃ x, y1.alloc (.cells zL.toArray 27) = x := ⟨_, rfl⟩
       have lc : Later y1 y2 := hyy ▸ Later.new _ _
       have HB := Lib.hid (show Blk y2 gb zL.toArray 27 from hyy ▸ Blk.new _ _ _ _ hgg.symm)
       have HGB := Lib.hid (show wr0.heap.size ≤ gb from hgg ▸ Later.size hS)
       replace hS : (fun W : World => Later wr0 W) y2 := Later.trans hS lc
       have HV := Lib.hid (HV.out.later lc)
       try rw [hgg]
       unfold zL at hyy
       rw [hyy]
       refine hK _ _ hS fun wq hwq => ?_
       subst hwq
       clear hK lc hyy hgg
       (try simp only [Act.put, List.setIfInBounds_toArray, List.set_cons_zero, List.set_cons_succ])
       refine wpAnyK_all (rs := [10]) (by kernel_rfl) (by simp) (fun i hi => ?_)
       simp only [List.mem_cons, List.not_mem_nil, or_false] at hi
       subst hi
       refine stepK (o := ⟨some 12, _, _, _, _, _⟩) rfl (fun K hK => ?_)
       go_simp
       obtain ⟨ga, hgg⟩ : ∃ x, y2.heap.size = x := ⟨_, rfl⟩
       obtain ⟨y3, hyy⟩ : ∃ x, y2.alloc (.cells zS.toArray 24) = x := ⟨_, rfl⟩
       have lc : Later y2 y3 := hyy ▸ Later.new _ _
       have HA := Lib.hid (show Blk y3 ga zS.toArray 24 from hyy ▸ Blk.new _ _ _ _ hgg.symm)
       have HGA := Lib.hid (show wr0.heap.size ≤ ga from hgg ▸ Later.size hS)
       replace hS : (fun W : World => Later wr0 W) y3 := Later.trans hS lc
       have HV := Lib.hid (HV.out.later lc)
       have HB := Lib.hid (HB.out.later lc)
       try rw [hgg]
       unfold zS at hyy
       rw [hyy]
       refine hK _ _ hS fun wq hwq => ?_
       subst hwq
       clear hK lc hyy hgg
       (try simp only [Act.put, List.setIfInBounds_toArray, List.set_cons_zero, List.set_cons_succ])
       have hab : ga ≠ gb := ne_typ HA.out HB.out (by decide)
       refine wpAnyK_all (rs := [12]) (by kernel_rfl) (by simp) (fun i hi => ?_)
       simp only [List.mem_cons, List.not_mem_nil, or_false] at hi
       subst hi
       refine stepK (o := ⟨none, _, _, _, _, _⟩) rfl (fun K hK => ?_)
       rw [if_pos (by rfl)]
       refine wp_store_mid 24 _ _ rfl ga 0 #[.slice VA vn vcp, .int .i64 vlast] rfl rfl (fun j hj => by rw [Nat.zero_add]; have hj2 : j < 2 := hj; exact ⟨by rw [cell_of_row y3 ga j _ _ _ HA.out, Array.getElem?_eq_getElem (by exact hj2)]; rfl, HA.out.frozen j⟩) (by kernel_rfl) (by simp [Value.oneCell']) ?_
       have hA2 := Blk.fill zS [.slice VA vn vcp, .int .i64 vlast] HA.out rfl
       have hB2 := HB.out.aside hab.symm 0 [.slice VA vn vcp, .int .i64 vlast]
       have hV2 := HV.out.fill HA.out (by decide) (by decide) 0 [.slice VA vn vcp, .int .i64 vlast]
       have hS : (fun W : World => Later wr0 W) (y3.setCells ga 0 [.slice VA vn vcp, .int .i64 vlast]) := Later.fill hS HGA.out 0 _
       refine hK _ _ hS fun wq hwq => ?_
       obtain ⟨z1, hz1⟩ : ∃ x, y3.setCells ga 0 [.slice VA vn vcp, .int .i64 vlast] = x := ⟨_, rfl⟩
       rw [hz1] at hA2 hB2 hV2 hS
       have hz2 : z1 = wq := hz1.symm.trans hwq
       subst hz2
       clear hK hwq hz1
       (try simp only [Act.put])
       refine wpAnyK_all (rs := [13]) (by kernel_rfl) (by simp) (fun i hi => ?_)
       simp only [List.mem_cons, List.not_mem_nil, or_false] at hi
       subst hi
       refine stepK (o := ⟨none, _, _, _, _, _⟩) rfl (fun K hK => ?_)
       rw [if_pos (by rfl)]
       refine wp_store_mid 27 _ _ rfl gb 0 #[.int .i64 vsb, .int .i64 vpb, .int .i64 vparts, .slice VE ven vec] rfl rfl (fun j hj => by rw [Nat.zero_add]; have hj2 : j < 4 := hj; exact ⟨by rw [cell_of_row z1 gb j _ _ _ hB2, Array.getElem?_eq_getElem (by exact hj2)]; rfl, hB2.frozen j⟩) (by kernel_rfl) (by simp [Value.oneCell']) ?_
       have hB3 := Blk.fill zL [.int .i64 vsb, .int .i64 vpb, .int .i64 vparts, .slice VE ven vec] hB2 rfl
       have hA3 := hA2.aside hab 0 [.int .i64 vsb, .int .i64 vpb, .int .i64 vparts, .slice VE ven vec]
       have hV3 := hV2.fill hB2 (by decide) (by decide) 0 [.int .i64 vsb, .int .i64 vpb, .int .i64 vparts, .slice VE ven vec]
       have hS : (fun W : World => Later wr0 W) (z1.setCells gb 0 [.int .i64 vsb, .int .i64 vpb, .int .i64 vparts, .slice VE ven vec]) := Later.fill hS HGB.out 0 _
       refine hK _ _ hS fun wq hwq => ?_
       obtain ⟨z2, hz1⟩ : ∃ x, z1.setCells gb 0 [.int .i64 vsb, .int .i64 vpb, .int .i64 vparts, .slice VE ven vec] = x := ⟨_, rfl⟩
       rw [hz1] at hA3 hB3 hV3 hS
       have hz2 : z2 = wq := hz1.symm.trans hwq
       subst hz2
       clear hK hwq hz1 hA2 hB2 hV2
       (try simp only [Act.put])
       refine wpAnyK_take (fun _ => rfl) (fun _ _ _ h k => h.trans k) (fun _ _ h k => k ▸ h) (i := 14) (oi := ⟨some 14, _, _, _, _, _⟩) (v := ?_) rfl (by kernel_rfl) (by kernel_rfl) (by kernel_rfl) (fun _ _ _ h => h) (Or.inl (Or.inl ⟨by rfl, ?_⟩)) hS ?_
       rotate_left
       focus ((intro w hSw; (try dsimp only at hSw); skip; go_simp); (try with_reducible rfl))
       intro wq hwq
       subst hwq
       (try simp only [Act.put, List.setIfInBounds_toArray, List.set_cons_zero, List.set_cons_succ])
       refine wpAnyK_done (by kernel_rfl) ?_ _
       go_wp2_with fail
       go_meet
       exact ⟨ga, gb, VA, vn, vcp, vlast, vsb, vpb, vparts, VE, ven, vec, vev, rfl, rfl, rfl, hV3, hA3, hB3, hab, HGA.out, HGB.out, hS⟩
     ·
      refine stepK (o := ⟨some 12, _, _, _, _, _⟩) rfl (fun K hK => ?_)
      go_simp
      obtain ⟨ga, hgg⟩ : ∃ x, y0.heap.size = x := ⟨_, rfl⟩
      obtain ⟨y1, hyy⟩ : ∃ x, y0.alloc (.cells zS.toArray 24) = x := ⟨_, rfl⟩
      have lc : Later y0 y1 := hyy ▸ Later.new _ _
      have HA := Lib.hid (show Blk y1 ga zS.toArray 24 from hyy ▸ Blk.new _ _ _ _ hgg.symm)
      have HGA := Lib.hid (show wr0.heap.size ≤ ga from hgg ▸ Later.size hS)
      replace hS : (fun W : World => Later wr0 W) y1 := Later.trans hS lc
      try rw [hgg]
      unfold zS at hyy
      rw [hyy]
      refine hK _ _ hS fun wq hwq => ?_
      subst hwq
      clear hK lc hyy hgg
      (try simp only [Act.put, List.setIfInBounds_toArray, List.set_cons_zero, List.set_cons_succ])
      refine wpAnyK_all (rs := [5, 11]) (by kernel_rfl) (by simp) (fun i hi => ?_)
      simp only [List.mem_cons, List.not_mem_nil, or_false] at hi
      rcases hi with rfl | rfl
      ·
       refine stepK (o := ⟨some 117, _, _, _, _, _⟩) rfl (fun K hK => ?_)
       go_simp
       refine (HAP.out _ hS).mono ?_
       intro e y2 hap
       obtain ⟨VA, vn, vcp, vlast, vsb, vpb, vparts, VE, ven, vec, vev, rfl, hv, lc⟩ := hap.v (Later.size hS)
       have HV := Lib.hid hv
       replace hS : (fun W : World => Later wr0 W) y2 := Later.trans hS lc
       have HA := Lib.hid (HA.out.later lc)
       refine hK _ _ hS fun wq hwq => ?_
       subst hwq
       clear hK hap hv lc
       (try simp only [Act.put, List.setIfInBounds_toArray, List.set_cons_zero, List.set_cons_succ])
       refine wpAnyK_take (fun _ => rfl) (fun _ _ _ h k => h.trans k) (fun _ _ h k => k ▸ h) (i := 6) (oi := ⟨some 111, _, _, _, _, _⟩) (v := ?_) rfl (by kernel_rfl) (by kernel_rfl) (by kernel_rfl) (fun _ _ _ h => h) (Or.inl (Or.inl ⟨by rfl, ?_⟩)) hS ?_
       rotate_left
       focus ((intro w hSw; (try dsimp only at hSw); skip; go_simp); (try with_reducible rfl))
       intro wq hwq
       subst hwq
       (try simp only [Act.put, List.setIfInBounds_toArray, List.set_cons_zero, List.set_cons_succ])
       refine wpAnyK_take (fun _ => rfl) (fun _ _ _ h k => h.trans k) (fun _ _ h k => k ▸ h) (i := 7) (oi := ⟨some 118, _, _, _, _, _⟩) (v := ?_) rfl (by kernel_rfl) (by kernel_rfl) (by kernel_rfl) (fun _ _ _ h => h) (Or.inl (Or.inl ⟨by rfl, ?_⟩)) hS ?_
       rotate_left
       focus ((intro w hSw; (try dsimp only at hSw); skip; go_simp); (try with_reducible rfl))
       intro wq hwq
       subst hwq
       (try simp only [Act.put, List.setIfInBounds_toArray, List.set_cons_zero, List.set_cons_succ])
       refine wpAnyK_take (fun _ => rfl) (fun _ _ _ h k => h.trans k) (fun _ _ h k => k ▸ h) (i := 8) (oi := ⟨some 119, _, _, _, _, _⟩) (v := ?_) rfl (by kernel_rfl) (by kernel_rfl) (by kernel_rfl) (fun _ _ _ h => h) (Or.inl (Or.inl ⟨by rfl, ?_⟩)) hS ?_
       rotate_left
       focus ((intro w hSw; (try dsimp only at hSw); skip; go_simp); (try with_reducible rfl))
       intro wq hwq
       subst hwq
       (try simp only [Act.put, List.setIfInBounds_toArray, List.set_cons_zero, List.set_cons_succ])
       refine wpAnyK_take (fun _ => rfl) (fun _ _ _ h k => h.trans k) (fun _ _ h k => k ▸ h) (i := 9) (oi := ⟨some 120, _, _, _, _, _⟩) (v := ?_) rfl (by kernel_rfl) (by kernel_rfl) (by kernel_rfl) (fun _ _ _ h => h) (Or.inl (Or.inl ⟨by rfl, ?_⟩)) hS ?_
       rotate_left
       focus ((intro w hSw; (try dsimp only at hSw); skip; go_simp); (try with_reducible rfl))
       intro wq hwq
       subst hwq
       (try simp only [Act.put, List.setIfInBounds_toArray, List.set_cons_zero, List.set_cons_succ])
       refine wpAnyK_all (rs := [11]) (by kernel_rfl) (by simp) (fun i hi => ?_)
       simp only [List.mem_cons, List.not_mem_nil, or_false] at hi
       subst hi
       refine stepK (o := ⟨some 13, _, _, _, _, _⟩) rfl (fun K hK => ?_)
       go_simp
       obtain ⟨gb, hgg⟩ : ∃ x, y2.heap.size = x := ⟨_, rfl⟩
       obtain ⟨y3, hyy⟩ : ∃ x, y2.alloc (.cells zL.toArray 27) = x := ⟨_, rfl⟩
       have lc : Later y2 y3 := hyy ▸ Later.new _ _
       have HB := Lib.hid (show Blk y3 gb zL.toArray 27 from hyy ▸ Blk.new _ _ _ _ hgg.symm)
       have HGB := Lib.hid (show wr0.heap.size ≤ gb from hgg ▸ Later.size hS)
       replace hS : (fun W : World => Later wr0 W) y3 := Later.trans hS lc
       have HV := Lib.hid (HV.out.later lc)
       have HA := Lib.hid (HA.out.later lc)
       try rw [hgg]
       unfold zL at hyy
       rw [hyy]
       refine hK _ _ hS fun wq hwq => ?_
       subst hwq
       clear hK lc hyy hgg
       (try simp only [Act.put, List.setIfInBounds_toArray, List.set_cons_zero, List.set_cons_succ])
       have hab : ga ≠ gb := ne_typ HA.out HB.out (by decide)
       refine wpAnyK_all (rs := [12]) (by kernel_rfl) (by simp) (fun i hi => ?_)
       simp only [List.mem_cons, List.not_mem_nil, or_false] at hi
       subst hi
       refine stepK (o := ⟨none, _, _, _, _, _⟩) rfl (fun K hK => ?_)
       rw [if_pos (by rfl)]
       refine wp_store_mid 24 _ _ rfl ga 0 #[.slice VA vn vcp, .int .i64 vlast] rfl rfl (fun j hj => by rw [Nat.zero_add]; have hj2 : j < 2 := hj; exact ⟨by rw [cell_of_row y3 ga j _ _ _ HA.out, Array.getElem?_eq_getElem (by exact hj2)]; rfl, HA.out.frozen j⟩) (by kernel_rfl) (by simp [Value.oneCell']) ?_
       have hA2 := Blk.fill zS [.slice VA vn vcp, .int .i64 vlast] HA.out rfl
       have hB2 := HB.out.aside hab.symm 0 [.slice VA vn vcp, .int .i64 vlast]
       have hV2 := HV.out.fill HA.out (by decide) (by decide) 0 [.slice VA vn vcp, .int .i64 vlast]
       have hS : (fun W : World => Later wr0 W) (y3.setCells ga 0 [.slice VA vn vcp, .int .i64 vlast]) := Later.fill hS HGA.out 0 _
       refine hK _ _ hS fun wq hwq => ?_
       obtain ⟨z1, hz1⟩ : ∃ x, y3.setCells ga 0 [.slice VA vn vcp, .int .i64 vlast] = x := ⟨_, rfl⟩
       rw [hz1] at hA2 hB2 hV2 hS
       have hz2 : z1 = wq := hz1.symm.trans hwq
       subst hz2
       clear hK hwq hz1
       (try simp only [Act.put])
       refine wpAnyK_all (rs := [13]) (by kernel_rfl) (by simp) (fun i hi => ?_)
       simp only [List.mem_cons, List.not_mem_nil, or_false] at hi
       subst hi
       refine stepK (o := ⟨none, _, _, _, _, _⟩) rfl (fun K hK => ?_)
       rw [if_pos (by rfl)]
       refine wp_store_mid 27 _ _ rfl gb 0 #[.int .i64 vsb, .int .i64 vpb, .int .i64 vparts, .slice VE ven vec] rfl rfl (fun j hj => by rw [Nat.zero_add]; have hj2 : j < 4 := hj; exact ⟨by rw [cell_of_row z1 gb j _ _ _ hB2, Array.getElem?_eq_getElem (by exact hj2)]; rfl, hB2.frozen j⟩) (by kernel_rfl) (by simp [Value.oneCell']) ?_
       have hB3 := Blk.fill zL [.int .i64 vsb, .int .i64 vpb, .int .i64 vparts, .slice VE ven vec] hB2 rfl
       have hA3 := hA2.aside hab 0 [.int .i64 vsb, .int .i64 vpb, .int .i64 vparts, .slice VE ven vec]
       have hV3 := hV2.fill hB2 (by decide) (by decide) 0 [.int .i64 vsb, .int .i64 vpb, .int .i64 vparts, .slice VE ven vec]
       have hS : (fun W : World => Later wr0 W) (z1.setCells gb 0 [.int .i64 vsb, .int .i64 vpb, .int .i64 vparts, .slice VE ven vec]) := Later.fill hS HGB.out 0 _
       refine hK _ _ hS fun wq hwq => ?_
       obtain ⟨z2, hz1⟩ : ∃ x, z1.setCells gb 0 [.int .i64 vsb, .int .i64 vpb, .int .i64 vparts, .slice VE ven vec] = x := ⟨_, rfl⟩
       rw [hz1] at hA3 hB3 hV3 hS
       have hz2 : z2 = wq := hz1.symm.trans hwq
       subst hz2
       clear hK hwq hz1 hA2 hB2 hV2
       (try simp only [Act.put])
       refine wpAnyK_take (fun _ => rfl) (fun _ _ _ h k => h.trans k) (fun _ _ h k => k ▸ h) (i := 14) (oi := ⟨some 14, _, _, _, _, _⟩) (v := ?_) rfl (by kernel_rfl) (by kernel_rfl) (by kernel_rfl) (fun _ _ _ h => h) (Or.inl (Or.inl ⟨by rfl, ?_⟩)) hS ?_
       rotate_left
       focus ((intro w hSw; (try dsimp only at hSw); skip; go_simp); (try with_reducible rfl))
       intro wq hwq
       subst hwq
       (try simp only [Act.put, List.setIfInBounds_toArray, List.set_cons_zero, List.set_cons_succ])
       refine wpAnyK_done (by kernel_rfl) ?_ _
       go_wp2_with fail
       go_meet
       exact ⟨ga, gb, VA, vn, vcp, vlast, vsb, vpb, vparts, VE, ven, vec, vev, rfl, rfl, rfl, hV3, hA3, hB3, hab, HGA.out, HGB.out, hS⟩
      ·
       refine stepK (o := ⟨some 13, _, _, _, _, _⟩) rfl (fun K hK => ?_)
       go_simp
       obtain ⟨gb, hgg⟩ : ∃ x, y1.heap.size = x := ⟨_, rfl⟩
       obtain ⟨y2, hyy⟩ : ∃ x, y1.alloc (.cells zL.toArray 27) = x := ⟨_, rfl⟩
       have lc : Later y1 y2 := hyy ▸ Later.new _ _
       have HB := Lib.hid (show Blk y2 gb zL.toArray 27 from hyy ▸ Blk.new _ _ _ _ hgg.symm)
       have HGB := Lib.hid (show wr0.heap.size ≤ gb from hgg ▸ Later.size hS)
       replace hS : (fun W : World => Later wr0 W) y2 := Later.trans hS lc
       have HA := Lib.hid (HA.out.later lc)
       try rw [hgg]
       unfold zL at hyy
       rw [hyy]
       refine hK _ _ hS fun wq hwq => ?_
       subst hwq
       clear hK lc hyy hgg
       (try simp only [Act.put, List.setIfInBounds_toArray, List.set_cons_zero, List.set_cons_succ])
       refine wpAnyK_all (rs := [5]) (by kernel_rfl) (by simp) (fun i hi => ?_)
       simp only [List.mem_cons, List.not_mem_nil, or_false] at hi
       subst hi
       refine stepK (o := ⟨some 117, _, _, _, _, _⟩) rfl (fun K hK => ?_)
       go_simp
       refine (HAP.out _ hS).mono ?_
       intro e y3 hap
       obtain ⟨VA, vn, vcp, vlast, vsb, vpb, vparts, VE, ven, vec, vev, rfl, hv, lc⟩ := hap.v (Later.size hS)
       have HV := Lib.hid hv
       replace hS : (fun W : World => Later wr0 W) y3 := Later.trans hS lc
       have HA := Lib.hid (HA.out.later lc)
       have HB := Lib.hid (HB.out.later lc)
       refine hK _ _ hS fun wq hwq => ?_
       subst hwq
       clear hK hap hv lc
       (try simp only [Act.put, List.setIfInBounds_toArray, List.set_cons_zero, List.set_cons_succ])
       refine wpAnyK_take (fun _ => rfl) (fun _ _ _ h k => h.trans k) (fun _ _ h k => k ▸ h) (i := 6) (oi := ⟨some 111, _, _, _, _, _⟩) (v := ?_) rfl (by kernel_rfl) (by kernel_rfl) (by kernel_rfl) (fun _ _ _ h => h) (Or.inl (Or.inl ⟨by rfl, ?_⟩)) hS ?_
       rotate_left
       focus ((intro w hSw; (try dsimp only at hSw); skip; go_simp); (try with_reducible rfl))
       intro wq hwq
       subst hwq
       (try simp only [Act.put, List.setIfInBounds_toArray, List.set_cons_zero, List.set_cons_succ])
       refine wpAnyK_take (fun _ => rfl) (fun _ _ _ h k => h.trans k) (fun _ _ h k => k ▸ h) (i := 7) (oi := ⟨some 118, _, _, _, _, _⟩) (v := ?_) rfl (by kernel_rfl) (by kernel_rfl) (by kernel_rfl) (fun _ _ _ h => h) (Or.inl (Or.inl ⟨by rfl, ?_⟩)) hS ?_
       rotate_left
       focus ((intro w hSw; (try dsimp only at hSw); skip; go_simp); (try with_reducible rfl))
       intro wq hwq
       subst hwq
       (try simp only [Act.put, List.setIfInBounds_toArray, List.set_cons_zero, List.set_cons_succ])
       refine wpAnyK_take (fun _ => rfl) (fun _ _ _ h k => h.trans k) (fun _ _ h k => k ▸ h) (i := 8) (oi := ⟨some 119, _, _, _, _, _⟩) (v := ?_) rfl (by kernel_rfl) (by kernel_rfl) (by kernel_rfl) (fun _ _ _ h => h) (Or.inl (Or.inl ⟨by rfl, ?_⟩)) hS ?_
       rotate_left
       focus ((intro w hSw; (try dsimp only at hSw); skip; go_simp); (try with_reducible rfl))
       intro wq hwq
       subst hwq
       (try simp only [Act.put, List.setIfInBounds_toArray, List.set_cons_zero, List.set_cons_succ])
       refine wpAnyK_take (fun _ => rfl) (fun _ _ _ h k => h.trans k) (fun _ _ h k => k ▸ h) (i := 9) (oi := ⟨some 120, _, _, _, _, _⟩) (v := ?_) rfl (by kernel_rfl) (by kernel_rfl) (by kernel_rfl) (fun _ _ _ h => h) (Or.inl (Or.inl ⟨by rfl, ?_⟩)) hS ?_
       rotate_left
       focus ((intro w hSw; (try dsimp only at hSw); skip; go_simp); (try with_reducible rfl))
       intro wq hwq
       subst hwq
       (try simp only [Act.put, List.setIfInBounds_toArray, List.set_cons_zero, List.set_cons_succ])
       have hab : ga ≠ gb := ne_typ HA.out HB.out (by decide)
       refine wpAnyK_all (rs := [12]) (by kernel_rfl) (by simp) (fun i hi => ?_)
       simp only [List.mem_cons, List.not_mem_nil, or_false] at hi
       subst hi
       refine stepK (o := ⟨none, _, _, _, _, _⟩) rfl (fun K hK => ?_)
       rw [if_pos (by rfl)]
       refine wp_store_mid 24 _ _ rfl ga 0 #[.slice VA vn vcp, .int .i64 vlast] rfl rfl (fun j hj => by rw [Nat.zero_add]; have hj2 : j < 2 := hj; exact ⟨by rw [cell_of_row y3 ga j _ _ _ HA.out, Array.getElem?_eq_getElem (by exact hj2)]; rfl, HA.out.frozen j⟩) (by kernel_rfl) (by simp [Value.oneCell']) ?_
       have hA2 := Blk.fill zS [.slice VA vn vcp, .int .i64 vlast] HA.out rfl
       have hB2 := HB.out.aside hab.symm 0 [.slice VA vn vcp, .int .i64 vlast]
       have hV2 := HV.out.fill HA.out (by decide) (by decide) 0 [.slice VA vn vcp, .int .i64 vlast]
       have hS : (fun W : World => Later wr0 W) (y3.setCells ga 0 [.slice VA vn vcp, .int .i64 vlast]) := Later.fill hS HGA.out 0 _
       refine hK _ _ hS fun wq hwq => ?_
       obtain ⟨z1, hz1⟩ : ∃ x, y3.setCells ga 0 [.slice VA vn vcp, .int .i64 vlast] = x := ⟨_, rfl⟩
       rw [hz1] at hA2 hB2 hV2 hS
       have hz2 : z1 = wq := hz1.symm.trans hwq
       subst hz2
       clear hK hwq hz1
       (try simp only [Act.put])
       refine wpAnyK_all (rs := [13]) (by kernel_rfl) (by simp) (fun i hi => ?_)
       simp only [List.mem_cons, List.not_mem_nil, or_false] at hi
       subst hi
       refine stepK (o := ⟨none, _, _, _, _, _⟩) rfl (fun K hK => ?_)
       rw [if_pos (by rfl)]
       refine wp_store_mid 27 _ _ rfl gb 0 #[.int .i64 vsb, .int .i64 vpb, .int .i64 vparts, .slice VE ven vec] rfl rfl (fun j hj => by rw [Nat.zero_add]; have hj2 : j < 4 := hj; exact ⟨by rw [cell_of_row z1 gb j _ _ _ hB2, Array.getElem?_eq_getElem (by exact hj2)]; rfl, hB2.frozen j⟩) (by kernel_rfl) (by simp [Value.oneCell']) ?_
       have hB3 := Blk.fill zL [.int .i64 vsb, .int .i64 vpb, .int .i64 vparts, .slice VE ven vec] hB2 rfl
       have hA3 := hA2.aside hab 0 [.int .i64 vsb, .int .i64 vpb, .int .i64 vparts, .slice VE ven vec]
       have hV3 := hV2.fill hB2 (by decide) (by decide) 0 [.int .i64 vsb, .int .i64 vpb, .int .i64 vparts, .slice VE ven vec]
       have hS : (fun W : World => Later wr0 W) (z1.setCells gb 0 [.int .i64 vsb, .int .i64 vpb, .int .i64 vparts, .slice VE ven vec]) := Later.fill hS HGB.out 0 _
       refine hK _ _ hS fun wq hwq => ?_
       obtain ⟨z2, hz1⟩ : ∃ x, z1.setCells gb 0 [.int .i64 vsb, .int .i64 vpb, .int .i64 vparts, .slice VE ven vec] = x := ⟨_, rfl⟩
       rw [hz1] at hA3 hB3 hV3 hS
       have hz2 : z2 = wq := hz1.symm.trans hwq
       subst hz2
       clear hK hwq hz1 hA2 hB2 hV2
       (try simp only [Act.put])
       refine wpAnyK_take (fun _ => rfl) (fun _ _ _ h k => h.trans k) (fun _ _ h k => k ▸ h) (i := 14) (oi := ⟨some 14, _, _, _, _, _⟩) (v := ?_) rfl (by kernel_rfl) (by kernel_rfl) (by kernel_rfl) (fun _ _ _ h => h) (Or.inl (Or.inl ⟨by rfl, ?_⟩)) hS ?_
       rotate_left
       focus ((intro w hSw; (try dsimp only at hSw); skip; go_simp); (try with_reducible rfl))
       intro wq hwq
       subst hwq
       (try simp only [Act.put, List.setIfInBounds_toArray, List.set_cons_zero, List.set_cons_succ])
       refine wpAnyK_done (by kernel_rfl) ?_ _
       go_wp2_with fail
       go_meet
       exact ⟨ga, gb, VA, vn, vcp, vlast, vsb, vpb, vparts, VE, ven, vec, vev, rfl, rfl, rfl, hV3, hA3, hB3, hab, HGA.out, HGB.out, hS⟩
     ·
      refine stepK (o := ⟨some 13, _, _, _, _, _⟩) rfl (fun K hK => ?_)
      go_simp
      obtain ⟨gb, hgg⟩ : ∃ x, y0.heap.size = x := ⟨_, rfl⟩
      obtain ⟨y1, hyy⟩ : ∃ x, y0.alloc (.cells zL.toArray 27) = x := ⟨_, rfl⟩
      have lc : Later y0 y1 := hyy ▸ Later.new _ _
      have HB := Lib.hid (show Blk y1 gb zL.toArray 27 from hyy ▸ Blk.new _ _ _ _ hgg.symm)
      have HGB := Lib.hid (show wr0.heap.size ≤ gb from hgg ▸ Later.size hS)
      replace hS : (fun W : World => Later wr0 W) y1 := Later.trans hS lc
      try rw [hgg]
      unfold zL at hyy
      rw [hyy]
      refine hK _ _ hS fun wq hwq => ?_
      subst hwq
      clear hK lc hyy hgg
      (try simp only [Act.put, List.setIfInBounds_toArray, List.set_cons_zero, List.set_cons_succ])
      refine wpAnyK_all (rs := [5, 10]) (by kernel_rfl) (by simp) (fun i hi => ?_)
      simp only [List.mem_cons, List.not_mem_nil, or_false] at hi
      rcases hi with rfl | rfl
      ·
       refine stepK (o := ⟨some 117, _, _, _, _, _⟩) rfl (fun K hK => ?_)
       go_simp
       refine (HAP.out _ hS).mono ?_
       intro e y2 hap
       obtain ⟨VA, vn, vcp, vlast, vsb, vpb, vparts, VE, ven, vec, vev, rfl, hv, lc⟩ := hap.v (Later.size hS)
       have HV := Lib.hid hv
       replace hS : (fun W : World => Later wr0 W) y2 := Later.trans hS lc
       have HB := Lib.hid (HB.out.later lc)
       refine hK _ _ hS fun wq hwq => ?_
       subst hwq
       clear hK hap hv lc
       (try simp only [Act.put, List.setIfInBounds_toArray, List.set_cons_zero, List.set_cons_succ])
       refine wpAnyK_take (fun _ => rfl) (fun _ _ _ h k => h.trans k) (fun _ _ h k => k ▸ h) (i := 6) (oi := ⟨some 111, _, _, _, _, _⟩) (v := ?_) rfl (by kernel_rfl) (by kernel_rfl) (by kernel_rfl) (fun _ _ _ h => h) (Or.inl (Or.inl ⟨by rfl, ?_⟩)) hS ?_
       rotate_left
       focus ((intro w hSw; (try dsimp only at hSw); skip; go_simp); (try with_reducible rfl))
       intro wq hwq
       subst hwq
       (try simp only [Act.put, List.setIfInBounds_toArray, List.set_cons_zero, List.set_cons_succ])
       refine wpAnyK_take (fun _ => rfl) (fun _ _ _ h k => h.trans k) (fun _ _ h k => k ▸ h) (i := 7) (oi := ⟨some 118, _, _, _, _, _⟩) (v := ?_) rfl (by kernel_rfl) (by kernel_rfl) (by kernel_rfl) (fun _ _ _ h => h) (Or.inl (Or.inl ⟨by rfl, ?_⟩)) hS ?_
       rotate_left
       focus ((intro w hSw; (try dsimp only at hSw); skip; go_simp); (try with_reducible rfl))
       intro wq hwq
       subst hwq
       (try simp only [Act.put, List.setIfInBounds_toArray, List.set_cons_zero, List.set_cons_succ])
       refine wpAnyK_take (fun _ => rfl) (fun _ _ _ h k => h.trans k) (fun _ _ h k => k ▸ h) (i := 8) (oi := ⟨some 119, _, _, _, _, _⟩) (v := ?_) rfl (by kernel_rfl) (by kernel_rfl) (by kernel_rfl) (fun _ _ _ h => h) (Or.inl (Or.inl ⟨by rfl, ?_⟩)) hS ?_
       rotate_left
       focus ((intro w hSw; (try dsimp only at hSw); skip; go_simp); (try with_reducible rfl))
       intro wq hwq
       subst hwq
       (try simp only [Act.put, List.setIfInBounds_toArray, List.set_cons_zero, List.set_cons_succ])
       refine wpAnyK_take (fun _ => rfl) (fun _ _ _ h k => h.trans k) (fun _ _ h k => k ▸ h) (i := 9) (oi := ⟨some 120, _, _, _, _, _⟩) (v := ?_) rfl (by kernel_rfl) (by kernel_rfl) (by kernel_rfl) (fun _ _ _ h => h) (Or.inl (Or.inl ⟨by rfl, ?_⟩)) hS ?_
       rotate_left
       focus ((intro w hSw; (try dsimp only at hSw); skip; go_simp); (try with_reducible rfl))
       intro wq hwq
       subst hwq
       (try simp only [Act.put, List.setIfInBounds_toArray, List.set_cons_zero, List.set_cons_succ])
       refine wpAnyK_all (rs := [10]) (by kernel_rfl) (by simp) (fun i hi => ?_)
       simp only [List.mem_cons, List.not_mem_nil, or_false] at hi
       subst hi
       refine stepK (o := ⟨some 12, _, _, _, _, _⟩) rfl (fun K hK => ?_)
       go_simp
       obtain ⟨ga, hgg⟩ : ∃ x, y2.heap.size = x := ⟨_, rfl⟩
       obtain ⟨y3, hyy⟩ : ∃ x, y2.alloc (.cells zS.toArray 24) = x := ⟨_, rfl⟩
       have lc : Later y2 y3 := hyy ▸ Later.new _ _
       have HA := Lib.hid (show Blk y3 ga zS.toArray 24 from hyy ▸ Blk.new _ _ _ _ hgg.symm)
       have HGA := Lib.hid (show wr0.heap.size ≤ ga from hgg ▸ Later.size hS)
       replace hS : (fun W : World => Later wr0 W) y3 := Later.trans hS lc
       have HV := Lib.hid (HV.out.later lc)
       have HB := Lib.hid (HB.out.later lc)
       try rw [hgg]
       unfold zS at hyy
       rw [hyy]
       refine hK _ _ hS fun wq hwq => ?_
       subst hwq
       clear hK lc hyy hgg
       (try simp only [Act.put, List.setIfInBounds_toArray, List.set_cons_zero, List.set_cons_succ])
       have hab : ga ≠ gb := ne_typ HA.out HB.out (by decide)
       refine wpAnyK_all (rs := [12]) (by kernel_rfl) (by simp) (fun i hi => ?_)
       simp only [List.mem_cons, List.not_mem_nil, or_false] at hi
       subst hi
       refine stepK (o := ⟨none, _, _, _, _, _⟩) rfl (fun K hK => ?_)
       rw [if_pos (by rfl)]
       refine wp_store_mid 24 _ _ rfl ga 0 #[.slice VA vn vcp, .int .i64 vlast] rfl rfl (fun j hj => by rw [Nat.zero_add]; have hj2 : j < 2 := hj; exact ⟨by rw [cell_of_row y3 ga j _ _ _ HA.out, Array.getElem?_eq_getElem (by exact hj2)]; rfl, HA.out.frozen j⟩) (by kernel_rfl) (by simp [Value.oneCell']) ?_
       have hA2 := Blk.fill zS [.slice VA vn vcp, .int .i64 vlast] HA.out rfl
       have hB2 := HB.out.aside hab.symm 0 [.slice VA vn vcp, .int .i64 vlast]
       have hV2 := HV.out.fill HA.out (by decide) (by decide) 0 [.slice VA vn vcp, .int .i64 vlast]
       have hS : (fun W : World => Later wr0 W) (y3.setCells ga 0 [.slice VA vn vcp, .int .i64 vlast]) := Later.fill hS HGA.out 0 _
       refine hK _ _ hS fun wq hwq => ?_
       obtain ⟨z1, hz1⟩ : ∃ x, y3.setCells ga 0 [.slice VA vn vcp, .int .i64 vlast] = x := ⟨_, rfl⟩
       rw [hz1] at hA2 hB2 hV2 hS
       have hz2 : z1 = wq := hz1.symm.trans hwq
       subst hz2
       clear hK hwq hz1
       (try simp only [Act.put])
       refine wpAnyK_all (rs := [13]) (by kernel_rfl) (by simp) (fun i hi => ?_)
       simp only [List.mem_cons, List.not_mem_nil, or_false] at hi
       subst hi
       refine stepK (o := ⟨none, _, _, _, _, _⟩) rfl (fun K hK => ?_)
       rw [if_pos (by rfl)]
       refine wp_store_mid 27 _ _ rfl gb 0 #[.int .i64 vsb, .int .i64 vpb, .int .i64 vparts, .slice VE ven vec] rfl rfl (fun j hj => by rw [Nat.zero_add]; have hj2 : j < 4 := hj; exact ⟨by rw [cell_of_row z1 gb j _ _ _ hB2, Array.getElem?_eq_getElem (by exact hj2)]; rfl, hB2.frozen j⟩) (by kernel_rfl) (by simp [Value.oneCell']) ?_
       have hB3 := Blk.fill zL [.int .i64 vsb, .int .i64 vpb, .int .i64 vparts, .slice VE ven vec] hB2 rfl
       have hA3 := hA2.aside hab 0 [.int .i64 vsb, .int .i64 vpb, .int .i64 vparts, .slice VE ven vec]
       have hV3 := hV2.fill hB2 (by decide) (by decide) 0 [.int .i64 vsb, .int .i64 vpb, .int .i64 vparts, .slice VE ven vec]
       have hS : (fun W : World => Later wr0 W) (z1.setCells gb 0 [.int .i64 vsb, .int .i64 vpb, .int .i64 vparts, .slice VE ven vec]) := Later.fill hS HGB.out 0 _
       refine hK _ _ hS fun wq hwq => ?_
       obtain ⟨z2, hz1⟩ : ∃ x, z1.setCells gb 0 [.int .i64 vsb, .int .i64 vpb, .int .i64 vparts, .slice VE ven vec] = x := ⟨_, rfl⟩
       rw [hz1] at hA3 hB3 hV3 hS
       have hz2 : z2 = wq := hz1.symm.trans hwq
       subst hz2
       clear hK hwq hz1 hA2 hB2 hV2
       (try simp only [Act.put])
       refine wpAnyK_take (fun _ => rfl) (fun _ _ _ h k => h.trans k) (fun _ _ h k => k ▸ h) (i := 14) (oi := ⟨some 14, _, _, _, _, _⟩) (v := ?_) rfl (by kernel_rfl) (by kernel_rfl) (by kernel_rfl) (fun _ _ _ h => h) (Or.inl (Or.inl ⟨by rfl, ?_⟩)) hS ?_
       rotate_left
       focus ((intro w hSw; (try dsimp only at hSw); skip; go_simp); (try with_reducible rfl))
       intro wq hwq
       subst hwq
       (try simp only [Act.put, List.setIfInBounds_toArray, List.set_cons_zero, List.set_cons_succ])
       refine wpAnyK_done (by kernel_rfl) ?_ _
       go_wp2_with fail
       go_meet
       exact ⟨ga, gb, VA, vn, vcp, vlast, vsb, vpb, vparts, VE, ven, vec, vev, rfl, rfl, rfl, hV3, hA3, hB3, hab, HGA.out, HGB.out, hS⟩
      ·
       refine stepK (o := ⟨some 12, _, _, _, _, _⟩) rfl (fun K hK => ?_)
       go_simp
       obtain ⟨ga, hgg⟩ : ∃ x, y1.heap.size = x := ⟨_, rfl⟩
       obtain ⟨y2, hyy⟩ : ∃ x, y1.alloc (.cells zS.toArray 24) = x := ⟨_, rfl⟩
       have lc : Later y1 y2 := hyy ▸ Later.new _ _
       have HA := Lib.hid (show Blk y2 ga zS.toArray 24 from hyy ▸ Blk.new _ _ _ _ hgg.symm)
       have HGA := Lib.hid (show wr0.heap.size ≤ ga from hgg ▸ Later.size hS)
       replace hS : (fun W : World => Later wr0 W) y2 := Later.trans hS lc
       have HB := Lib.hid (HB.out.later lc)
       try rw [hgg]
       unfold zS at hyy
       rw [hyy]
       refine hK _ _ hS fun wq hwq => ?_
       subst hwq
       clear hK lc hyy hgg
       (try simp only [Act.put, List.setIfInBounds_toArray, List.set_cons_zero, List.set_cons_succ])
       refine wpAnyK_all (rs := [5]) (by kernel_rfl) (by simp) (fun i hi => ?_)
       simp only [List.mem_cons, List.not_mem_nil, or_false] at hi
       subst hi
       refine stepK (o := ⟨some 117, _, _, _, _, _⟩) rfl (fun K hK => ?_)
       go_simp
       refine (HAP.out _ hS).mono ?_
       intro e y3 hap
       obtain ⟨VA, vn, vcp, vlast, vsb, vpb, vparts, VE, ven, vec, vev, rfl, hv, lc⟩ := hap.v (Later.size hS)
       have HV := Lib.hid hv
       replace hS : (fun W : World => Later wr0 W) y3 := Later.trans hS lc
       have HA := Lib.hid (HA.out.later lc)
       have HB := Lib.hid (HB.out.later lc)
       refine hK _ _ hS fun wq hwq => ?_
       subst hwq
       clear hK hap hv lc
       (try simp only [Act.put, List.setIfInBounds_toArray, List.set_cons_zero, List.set_cons_succ])
       refine wpAnyK_take (fun _ => rfl) (fun _ _ _ h k => h.trans k) (fun _ _ h k => k ▸ h) (i := 6) (oi := ⟨some 111, _, _, _, _, _⟩) (v := ?_) rfl (by kernel_rfl) (by kernel_rfl) (by kernel_rfl) (fun _ _ _ h => h) (Or.inl (Or.inl ⟨by rfl, ?_⟩)) hS ?_
       rotate_left
       focus ((intro w hSw; (try dsimp only at hSw); skip; go_simp); (try with_reducible rfl))
       intro wq hwq
       subst hwq
       (try simp only [Act.put, List.setIfInBounds_toArray, List.set_cons_zero, List.set_cons_succ])
       refine wpAnyK_take (fun _ => rfl) (fun _ _ _ h k => h.trans k) (fun _ _ h k => k ▸ h) (i := 7) (oi := ⟨some 118, _, _, _, _, _⟩) (v := ?_) rfl (by kernel_rfl) (by kernel_rfl) (by kernel_rfl) (fun _ _ _ h => h) (Or.inl (Or.inl ⟨by rfl, ?_⟩)) hS ?_
       rotate_left
       focus ((intro w hSw; (try dsimp only at hSw); skip; go_simp); (try with_reducible rfl))
       intro wq hwq
       subst hwq
       (try simp only [Act.put, List.setIfInBounds_toArray, List.set_cons_zero, List.set_cons_succ])
       refine wpAnyK_take (fun _ => rfl) (fun _ _ _ h k => h.trans k) (fun _ _ h k => k ▸ h) (i := 8) (oi := ⟨some 119, _, _, _, _, _⟩) (v := ?_) rfl (by kernel_rfl) (by kernel_rfl) (by kernel_rfl) (fun _ _ _ h => h) (Or.inl (Or.inl ⟨by rfl, ?_⟩)) hS ?_
       rotate_left
       focus ((intro w hSw; (try dsimp only at hSw); skip; go_simp); (try with_reducible rfl))
       intro wq hwq
       subst hwq
       (try simp only [Act.put, List.setIfInBounds_toArray, List.set_cons_zero, List.set_cons_succ])
       refine wpAnyK_take (fun _ => rfl) (fun _ _ _ h k => h.trans k) (fun _ _ h k => k ▸ h) (i := 9) (oi := ⟨some 120, _, _, _, _, _⟩) (v := ?_) rfl (by kernel_rfl) (by kernel_rfl) (by kernel_rfl) (fun _ _ _ h => h) (Or.inl (Or.inl ⟨by rfl, ?_⟩)) hS ?_
       rotate_left
       focus ((intro w hSw; (try dsimp only at hSw); skip; go_simp); (try with_reducible rfl))
       intro wq hwq
       subst hwq
       (try simp only [Act.put, List.setIfInBounds_toArray, List.set_cons_zero, List.set_cons_succ])
       have hab : ga ≠ gb := ne_typ HA.out HB.out (by decide)
       refine wpAnyK_all (rs := [12]) (by kernel_rfl) (by simp) (fun i hi => ?_)
       simp only [List.mem_cons, List.not_mem_nil, or_false] at hi
       subst hi
       refine stepK (o := ⟨none, _, _, _, _, _⟩) rfl (fun K hK => ?_)
       rw [if_pos (by rfl)]
       refine wp_store_mid 24 _ _ rfl ga 0 #[.slice VA vn vcp, .int .i64 vlast] rfl rfl (fun j hj => by rw [Nat.zero_add]; have hj2 : j < 2 := hj; exact ⟨by rw [cell_of_row y3 ga j _ _ _ HA.out, Array.getElem?_eq_getElem (by exact hj2)]; rfl, HA.out.frozen j⟩) (by kernel_rfl) (by simp [Value.oneCell']) ?_
       have hA2 := Blk.fill zS [.slice VA vn vcp, .int .i64 vlast] HA.out rfl
       have hB2 := HB.out.aside hab.symm 0 [.slice VA vn vcp, .int .i64 vlast]
       have hV2 := HV.out.fill HA.out (by decide) (by decide) 0 [.slice VA vn vcp, .int .i64 vlast]
       have hS : (fun W : World => Later wr0 W) (y3.setCells ga 0 [.slice VA vn vcp, .int .i64 vlast]) := Later.fill hS HGA.out 0 _
       refine hK _ _ hS fun wq hwq => ?_
       obtain ⟨z1, hz1⟩ : ∃ x, y3.setCells ga 0 [.slice VA vn vcp, .int .i64 vlast] = x := ⟨_, rfl⟩
       rw [hz1] at hA2 hB2 hV2 hS
       have hz2 : z1 = wq := hz1.symm.trans hwq
       subst hz2
       clear hK hwq hz1
       (try simp only [Act.put])
       refine wpAnyK_all (rs := [13]) (by kernel_rfl) (by simp) (fun i hi => ?_)
       simp only [List.mem_cons, List.not_mem_nil, or_false] at hi
       subst hi
       refine stepK (o := ⟨none, _, _, _, _, _⟩) rfl (fun K hK => ?_)
       rw [if_pos (by rfl)]
       refine wp_store_mid 27 _ _ rfl gb 0 #[.int .i64 vsb, .int .i64 vpb, .int .i64 vparts, .slice VE ven vec] rfl rfl (fun j hj => by rw [Nat.zero_add]; have hj2 : j < 4 := hj; exact ⟨by rw [cell_of_row z1 gb j _ _ _ hB2, Array.getElem?_eq_getElem (by exact hj2)]; rfl, hB2.frozen j⟩) (by kernel_rfl) (by simp [Value.oneCell']) ?_
       have hB3 := Blk.fill zL [.int .i64 vsb, .int .i64 vpb, .int .i64 vparts, .slice VE ven vec] hB2 rfl
       have hA3 := hA2.aside hab 0 [.int .i64 vsb, .int .i64 vpb, .int .i64 vparts, .slice VE ven vec]
       have hV3 := hV2.fill hB2 (by decide) (by decide) 0 [.int .i64 vsb, .int .i64 vpb, .int .i64 vparts, .slice VE ven vec]
       have hS : (fun W : World => Later wr0 W) (z1.setCells gb 0 [.int .i64 vsb, .int .i64 vpb, .int .i64 vparts, .slice VE ven vec]) := Later.fill hS HGB.out 0 _
       refine hK _ _ hS fun wq hwq => ?_
       obtain ⟨z2, hz1⟩ : ∃ x, z1.setCells gb 0 [.int .i64 vsb, .int .i64 vpb, .int .i64 vparts, .slice VE ven vec] = x := ⟨_, rfl⟩
       rw [hz1] at hA3 hB3 hV3 hS
       have hz2 : z2 = wq := hz1.symm.trans hwq
       subst hz2
       clear hK hwq hz1 hA2 hB2 hV2
       (try simp only [Act.put])
       refine wpAnyK_take (fun _ => rfl) (fun _ _ _ h k => h.trans k) (fun _ _ h k => k ▸ h) (i := 14) (oi := ⟨some 14, _, _, _, _, _⟩) (v := ?_) rfl (by kernel_rfl) (by kernel_rfl) (by kernel_rfl) (fun _ _ _ h => h) (Or.inl (Or.inl ⟨by rfl, ?_⟩)) hS ?_
       rotate_left
       focus ((intro w hSw; (try dsimp only at hSw); skip; go_simp); (try with_reducible rfl))
       intro wq hwq
       subst hwq
       (try simp only [Act.put, List.setIfInBounds_toArray, List.set_cons_zero, List.set_cons_succ])
       refine wpAnyK_done (by kernel_rfl) ?_ _
       go_wp2_with fail
       go_meet
       exact ⟨ga, gb, VA, vn, vcp, vlast, vsb, vpb, vparts, VE, ven, vec, vev, rfl, rfl, rfl, hV3, hA3, hB3, hab, HGA.out, HGB.out, hS⟩
    case rest =>
     obtain ⟨g11, g12, A1, n1, cp1, last1, sb1, pb1, parts1, E1, en1, ec1, e1, rfl, rfl, rfl, hv1, _, _, _, _, _, lx1⟩ := hcut
     have he1 : e1 = 6 := hv1.err.trans sf_r1
     subst he1
     have HL1 := Lib.hid (HLT.out.trans lx1)
     clear hv1 lx1 HAP HQ9
     have HQ9 := Lib.hid (fun (W : World) (l : Later wc W) (j : Nat) (v : Value) (h : (chcells (sfL.getD 16 chz))[j]? = some v) => show W.cell? ⟨q + 3, 16 * 9 + j, none⟩ = some v from ((HPB.out.later HL1.out).later l).cell (16 * 9 + j) v (by rw [List.getElem?_toArray]; exact fch_at 16 (by decide) j v h))
     have HAP := Lib.hid (fun (W : World) (l : Later wc W) => show Calls Tryd.prog 14 #[.agg #[.slice (some ⟨k5, 0, none⟩) 6 c5, .int .i64 6], .agg #[.int .i64 1, .int .i64 3, .int .i64 2, .slice (some ⟨q + 1, 0, none⟩) 6 6], .agg #[.int .i64 5, .int .i64 5, .string ⟨#[110]⟩, .int .i64 0, .int .i64 0, .int .i64 0, .string ⟨#[]⟩, .int .u8 0, .int .i64 0]] W (ApP sfU (sfL.getD 16 chz) W) from schApply_any (some ⟨k5, 0, none⟩) (some ⟨q + 1, 0, none⟩) c5 6 sfU (sfL.getD 16 chz) W f (HS.out.later (HLW.out.trans (HL1.out.trans l))) (H3.out.later (HLW.out.trans (HL1.out.trans l))) (HEF.out.later (HL1.out.trans l)) (HEQ.out.later (HL1.out.trans l)) (by decide) (by decide) sf_nm2 (sf_nm 16 (by decide)) (fun h => by cases h) (fun h => by cases h))
     go_upto_region 19 with fail
     go_cut [15, 16, 17] from 121 to 130 (fun pv qv ev wx => ResP sfU (sfL.getD 16 chz) wc pv qv ev wx)
     case first => as_aux_lemma =>
      refine wp_region_K (S := (fun W : World => Later wc W)) (R := fun a b => a = b) (fun _ => rfl) (by kernel_rfl) ?_
      obtain ⟨y0, hy0⟩ : ∃ x, wc.drew = x := ⟨_, rfl⟩
      have hS : (fun W : World => Later wc W) y0 := hy0 ▸ (Later.refl wc).drew
      rw [hy0]
      clear hy0
      refine wpAnyK_take (fun _ => rfl) (fun _ _ _ h k => h.trans k) (fun _ _ h k => k ▸ h) (i := 0) (oi := ⟨some 122, _, _, _, _, _⟩) (v := ?_) rfl (by kernel_rfl) (by kernel_rfl) (by kernel_rfl) (fun _ _ _ h => h) (Or.inl (Or.inl ⟨by rfl, ?_⟩)) hS ?_
      rotate_left
      focus ((intro w hSw; (try dsimp only at hSw); have e0 := (HD4.out.later (HL1.out.trans hSw)).cell 0 _ rfl; have e1 := (HD4.out.later (HL1.out.trans hSw)).cell 1 _ rfl; have d0 := (HQ2.out.later (HL1.out.trans hSw)).cell 0 _ rfl; have d1 := (HQ2.out.later (HL1.out.trans hSw)).cell 1 _ rfl; have d2 := (HQ2.out.later (HL1.out.trans hSw)).cell 2 _ rfl; have d3 := (HQ2.out.later (HL1.out.trans hSw)).cell 3 _ rfl; have q0 := HQ9.out w hSw 0 _ rfl; have q1 := HQ9.out w hSw 1 _ rfl; have q2 := HQ9.out w hSw 2 _ rfl; have q3 := HQ9.out w hSw 3 _ rfl; have q4 := HQ9.out w hSw 4 _ rfl; have q5 := HQ9.out w hSw 5 _ rfl; have q6 := HQ9.out w hSw 6 _ rfl; have q7 := HQ9.out w hSw 7 _ rfl; have q8 := HQ9.out w hSw 8 _ rfl; (try simp only [Nat.reduceMul, Nat.reduceAdd] at q0 q1 q2 q3 q4 q5 q6 q7 q8); go_simp); (try with_reducible rfl))
      intro wq hwq
      subst hwq
      (try simp only [Act.put, List.setIfInBounds_toArray, List.set_cons_zero, List.set_cons_succ])
      refine wpAnyK_take (fun _ => rfl) (fun _ _ _ h k => h.trans k) (fun _ _ h k => k ▸ h) (i := 1) (oi := ⟨some 123, _, _, _, _, _⟩) (v := ?_) rfl (by kernel_rfl) (by kernel_rfl) (by kernel_rfl) (fun _ _ _ h => h) (Or.inl (Or.inl ⟨by rfl, ?_⟩)) hS ?_
      rotate_left
      focus ((intro w hSw; (try dsimp only at hSw); have e0 := (HD4.out.later (HL1.out.trans hSw)).cell 0 _ rfl; have e1 := (HD4.out.later (HL1.out.trans hSw)).cell 1 _ rfl; have d0 := (HQ2.out.later (HL1.out.trans hSw)).cell 0 _ rfl; have d1 := (HQ2.out.later (HL1.out.trans hSw)).cell 1 _ rfl; have d2 := (HQ2.out.later (HL1.out.trans hSw)).cell 2 _ rfl; have d3 := (HQ2.out.later (HL1.out.trans hSw)).cell 3 _ rfl; have q0 := HQ9.out w hSw 0 _ rfl; have q1 := HQ9.out w hSw 1 _ rfl; have q2 := HQ9.out w hSw 2 _ rfl; have q3 := HQ9.out w hSw 3 _ rfl; have q4 := HQ9.out w hSw 4 _ rfl; have q5 := HQ9.out w hSw 5 _ rfl; have q6 := HQ9.out w hSw 6 _ rfl; have q7 := HQ9.out w hSw 7 _ rfl; have q8 := HQ9.out w hSw 8 _ rfl; (try simp only [Nat.reduceMul, Nat.reduceAdd] at q0 q1 q2 q3 q4 q5 q6 q7 q8); go_simp); (try with_reducible rfl))
      intro wq hwq
      subst hwq
      (try simp only [Act.put, List.setIfInBounds_toArray, List.set_cons_zero, List.set_cons_succ])
      refine wpAnyK_take (fun _ => rfl) (fun _ _ _ h k => h.trans k) (fun _ _ h k => k ▸ h) (i := 2) (oi := ⟨some 124, _, _, _, _, _⟩) (v := ?_) rfl (by kernel_rfl) (by kernel_rfl) (by kernel_rfl) (fun _ _ _ h => h) (Or.inl (Or.inl ⟨by rfl, ?_⟩)) hS ?_
      rotate_left
      focus ((intro w hSw; (try dsimp only at hSw); have e0 := (HD4.out.later (HL1.out.trans hSw)).cell 0 _ rfl; have e1 := (HD4.out.later (HL1.out.trans hSw)).cell 1 _ rfl; have d0 := (HQ2.out.later (HL1.out.trans hSw)).cell 0 _ rfl; have d1 := (HQ2.out.later (HL1.out.trans hSw)).cell 1 _ rfl; have d2 := (HQ2.out.later (HL1.out.trans hSw)).cell 2 _ rfl; have d3 := (HQ2.out.later (HL1.out.trans hSw)).cell 3 _ rfl; have q0 := HQ9.out w hSw 0 _ rfl; have q1 := HQ9.out w hSw 1 _ rfl; have q2 := HQ9.out w hSw 2 _ rfl; have q3 := HQ9.out w hSw 3 _ rfl; have q4 := HQ9.out w hSw 4 _ rfl; have q5 := HQ9.out w hSw 5 _ rfl; have q6 := HQ9.out w hSw 6 _ rfl; have q7 := HQ9.out w hSw 7 _ rfl; have q8 := HQ9.out w hSw 8 _ rfl; (try simp only [Nat.reduceMul, Nat.reduceAdd] at q0 q1 q2 q3 q4 q5 q6 q7 q8); go_simp); (try with_reducible rfl))
      intro wq hwq
      subst hwq
      (try simp only [Act.put, List.setIfInBounds_toArray, List.set_cons_zero, List.set_cons_succ])
      refine wpAnyK_take (fun _ => rfl) (fun _ _ _ h k => h.trans k) (fun _ _ h k => k ▸ h) (i := 3) (oi := ⟨some 125, _, _, _, _, _⟩) (v := ?_) rfl (by kernel_rfl) (by kernel_rfl) (by kernel_rfl) (fun _ _ _ h => h) (Or.inl (Or.inl ⟨by rfl, ?_⟩)) hS ?_
      rotate_left
      focus ((intro w hSw; (try dsimp only at hSw); have e0 := (HD4.out.later (HL1.out.trans hSw)).cell 0 _ rfl; have e1 := (HD4.out.later (HL1.out.trans hSw)).cell 1 _ rfl; have d0 := (HQ2.out.later (HL1.out.trans hSw)).cell 0 _ rfl; have d1 := (HQ2.out.later (HL1.out.trans hSw)).cell 1 _ rfl; have d2 := (HQ2.out.later (HL1.out.trans hSw)).cell 2 _ rfl; have d3 := (HQ2.out.later (HL1.out.trans hSw)).cell 3 _ rfl; have q0 := HQ9.out w hSw 0 _ rfl; have q1 := HQ9.out w hSw 1 _ rfl; have q2 := HQ9.out w hSw 2 _ rfl; have q3 := HQ9.out w hSw 3 _ rfl; have q4 := HQ9.out w hSw 4 _ rfl; have q5 := HQ9.out w hSw 5 _ rfl; have q6 := HQ9.out w hSw 6 _ rfl; have q7 := HQ9.out w hSw 7 _ rfl; have q8 := HQ9.out w hSw 8 _ rfl; (try simp only [Nat.reduceMul, Nat.reduceAdd] at q0 q1 q2 q3 q4 q5 q6 q7 q8); go_simp); (try with_reducible rfl))
      intro wq hwq
      subst hwq
      (try simp only [Act.put, List.setIfInBounds_toArray, List.set_cons_zero, List.set_cons_succ])
      refine wpAnyK_take (fun _ => rfl) (fun _ _ _ h k => h.trans k) (fun _ _ h k => k ▸ h) (i := 4) (oi := ⟨some 126, _, _, _, _, _⟩) (v := ?_) rfl (by kernel_rfl) (by kernel_rfl) (by kernel_rfl) (fun _ _ _ h => h) (Or.inl (Or.inl ⟨by rfl, ?_⟩)) hS ?_
      rotate_left
      focus ((intro w hSw; (try dsimp only at hSw); have e0 := (HD4.out.later (HL1.out.trans hSw)).cell 0 _ rfl; have e1 := (HD4.out.later (HL1.out.trans hSw)).cell 1 _ rfl; have d0 := (HQ2.out.later (HL1.out.trans hSw)).cell 0 _ rfl; have d1 := (HQ2.out.later (HL1.out.trans hSw)).cell 1 _ rfl; have d2 := (HQ2.out.later (HL1.out.trans hSw)).cell 2 _ rfl; have d3 := (HQ2.out.later (HL1.out.trans hSw)).cell 3 _ rfl; have q0 := HQ9.out w hSw 0 _ rfl; have q1 := HQ9.out w hSw 1 _ rfl; have q2 := HQ9.out w hSw 2 _ rfl; have q3 := HQ9.out w hSw 3 _ rfl; have q4 := HQ9.out w hSw 4 _ rfl; have q5 := HQ9.out w hSw 5 _ rfl; have q6 := HQ9.out w hSw 6 _ rfl; have q7 := HQ9.out w hSw 7 _ rfl; have q8 := HQ9.out w hSw 8 _ rfl; (try simp only [Nat.reduceMul, Nat.reduceAdd] at q0 q1 q2 q3 q4 q5 q6 q7 q8); go_simp); (try with_reducible rfl))
      intro wq hwq
      subst hwq
      (try simp only [Act.put, List.setIfInBounds_toArray, List.set_cons_zero, List.set_cons_succ])
      refine wpAnyK_all (rs := [5, 10, 11]) (by kernel_rfl) (by simp) (fun i hi => ?_)
      simp only [List.mem_cons, List.not_mem_nil, or_false] at hi
      rcases hi with rfl | rfl | rfl
      ·
       refine stepK (o := ⟨some 127, _, _, _, _, _⟩) rfl (fun K hK => ?_)
       go_simp
       refine (HAP.out _ hS).mono ?_
       intro e y1 hap
       obtain ⟨VA, vn, vcp, vlast, vsb, vpb, vparts, VE, ven, vec, vev, rfl, hv, lc⟩ := hap.v (Later.size hS)
       have HV := Lib.hid hv
       replace hS : (fun W : World => Later wc W) y1 := Later.trans hS lc
       refine hK _ _ hS fun wq hwq => ?_
       subst hwq
       clear hK hap hv lc
       (try simp only [Act.put, List.setIfInBounds_toArray, List.set_cons_zero, List.set_cons_succ])
       refine wpAnyK_take (fun _ => rfl) (fun _ _ _ h k => h.trans k) (fun _ _ h k => k ▸ h) (i := 6) (oi := ⟨some 121, _, _, _, _, _⟩) (v := ?_) rfl (by kernel_rfl) (by kernel_rfl) (by kernel_rfl) (fun _ _ _ h => h) (Or.inl (Or.inl ⟨by rfl, ?_⟩)) hS ?_
       rotate_left
       focus ((intro w hSw; (try dsimp only at hSw); skip; go_simp); (try with_reducible rfl))
       intro wq hwq
       subst hwq
       (try simp only [Act.put, List.setIfInBounds_toArray, List.set_cons_zero, List.set_cons_succ])
       refine wpAnyK_take (fun _ => rfl) (fun _ _ _ h k => h.trans k) (fun _ _ h k => k ▸ h) (i := 7) (oi := ⟨some 128, _, _, _, _, _⟩) (v := ?_) rfl (by kernel_rfl) (by kernel_rfl) (by kernel_rfl) (fun _ _ _ h => h) (Or.inl (Or.inl ⟨by rfl, ?_⟩)) hS ?_
       rotate_left
       focus ((intro w hSw; (try dsimp only at hSw); skip; go_simp); (try with_reducible rfl))
       intro wq hwq
       subst hwq
       (try simp only [Act.put, List.setIfInBounds_toArray, List.set_cons_zero, List.set_cons_succ])
       refine wpAnyK_take (fun _ => rfl) (fun _ _ _ h k => h.trans k) (fun _ _ h k => k ▸ h) (i := 8) (oi := ⟨some 129, _, _, _, _, _⟩) (v := ?_) rfl (by kernel_rfl) (by kernel_rfl) (by kernel_rfl) (fun _ _ _ h => h) (Or.inl (Or.inl ⟨by rfl, ?_⟩)) hS ?_
       rotate_left
       focus ((intro w hSw; (try dsimp only at hSw); skip; go_simp); (try with_reducible rfl))
       intro wq hwq
       subst hwq
       (try simp only [Act.put, List.setIfInBounds_toArray, List.set_cons_zero, List.set_cons_succ])
       refine wpAnyK_take (fun _ => rfl) (fun _ _ _ h k => h.trans k) (fun _ _ h k => k ▸ h) (i := 9) (oi := ⟨some 130, _, _, _, _, _⟩) (v := ?_) rfl (by kernel_rfl) (by kernel_rfl) (by kernel_rfl) (fun _ _ _ h => h) (Or.inl (Or.inl ⟨by rfl, ?_⟩)) hS ?_
       rotate_left
       focus ((intro w hSw; (try dsimp only at hSw); skip; go_simp); (try with_reducible rfl))
       intro wq hwq
       subst hwq
       (try simp only [Act.put, List.setIfInBounds_toArray, List.set_cons_zero, List.set_cons_succ])
       refine wpAnyK_all (rs := [10, 11]) (by kernel_rfl) (by simp) (fun i hi => ?_)
       simp only [List.mem_cons, List.not_mem_nil, or_false] at hi
       rcases hi with rfl | rfl
       ·
        refine stepK (o := ⟨some 15, _, _, _, _, _⟩) rfl (fun K hK => ?_)
        go_simp
        obtain ⟨ga, hgg⟩ : ∃ x, y1.heap.size = x := ⟨_, rfl⟩
        obtain ⟨y2, hyy⟩ : ∃ x, y1.alloc (.cells zS.toArray 24) = x := ⟨_, rfl⟩
        have lc : Later y1 y2 := hyy ▸ Later.new _ _
        have HA := Lib.hid (show Blk y2 ga zS.toArray 24 from hyy ▸ Blk.new _ _ _ _ hgg.symm)
        have HGA := Lib.hid (show wc.heap.size ≤ ga from hgg ▸ Later.size hS)
        replace hS : (fun W : World => Later wc W) y2 := Later.trans hS lc
        have HV := Lib.hid (HV.out.later lc)
        try rw [hgg]
        unfold zS at hyy
        rw [hyy]
        refine hK _ _ hS fun wq hwq => ?_
        subst hwq
        clear hK lc hyy hgg
        (try simp only [Act.put, List.setIfInBounds_toArray, List.set_cons_zero, List.set_cons_succ])
        refine wpAnyK_all (rs := [11]) (by kernel_rfl) (by simp) (fun i hi => ?_)
        simp only [List.mem_cons, List.not_mem_nil, or_false] at hi
        subst hi
        refine stepK (o := ⟨some 16, _, _, _, _, _⟩) rfl (fun K hK => ?_)
        go_simp
        obtain ⟨gb, hgg⟩ : ∃ x, y2.heap.size = x := ⟨_, rfl⟩
        obtain ⟨y3, hyy⟩ : ∃ x, y2.alloc (.cells zL.toArray 27) = x := ⟨_, rfl⟩
        have lc : Later y2 y3 := hyy ▸ Later.new _ _
        have HB := Lib.hid (show Blk y3 gb zL.toArray 27 from hyy ▸ Blk.new _ _ _ _ hgg.symm)
        have HGB := Lib.hid (show wc.heap.size ≤ gb from hgg ▸ Later.size hS)
        replace hS : (fun W : World => Later wc W) y3 := Later.trans hS lc
        have HV := Lib.hid (HV.out.later lc)
        have HA := Lib.hid (HA.out.later lc)
        try rw [hgg]
        unfold zL at hyy
        rw [hyy]
        refine hK _ _ hS fun wq hwq => ?_
        subst hwq
        clear hK lc hyy hgg
        (try simp only [Act.put, List.setIfInBounds_toArray, List.set_cons_zero, List.set_cons_succ])
        have hab : ga ≠ gb := ne_typ HA.out HB.out (by decide)
        refine wpAnyK_all (rs := [12]) (by kernel_rfl) (by simp) (fun i hi => ?_)
        simp only [List.mem_cons, List.not_mem_nil, or_false] at hi
        subst hi
        refine stepK (o := ⟨none, _, _, _, _, _⟩) rfl (fun K hK => ?_)
        rw [if_pos (by rfl)]
        refine wp_store_mid 24 _ _ rfl ga 0 #[.slice VA vn vcp, .int .i64 vlast] rfl rfl (fun j hj => by rw [Nat.zero_add]; have hj2 : j < 2 := hj; exact ⟨by rw [cell_of_row y3 ga j _ _ _ HA.out, Array.getElem?_eq_getElem (by exact hj2)]; rfl, HA.out.frozen j⟩) (by kernel_rfl) (by simp [Value.oneCell']) ?_
        have hA2 := Blk.fill zS [.slice VA vn vcp, .int .i64 vlast] HA.out rfl
        have hB2 := HB.out.aside hab.symm 0 [.slice VA vn vcp, .int .i64 vlast]
        have hV2 := HV.out.fill HA.out (by decide) (by decide) 0 [.slice VA vn vcp, .int .i64 vlast]
        have hS : (fun W : World => Later wc W) (y3.setCells ga 0 [.slice VA vn vcp, .int .i64 vlast]) := Later.fill hS HGA.out 0 _
        refine hK _ _ hS fun wq hwq => ?_
        obtain ⟨z1, hz1⟩ : ∃ x, y3.setCells ga 0 [.slice VA vn vcp, .int .i64 vlast] = x := ⟨_, rfl⟩
        rw [hz1] at hA2 hB2 hV2 hS
        have hz2 : z1 = wq := hz1.symm.trans hwq
        subst hz2
        clear hK hwq hz1
        (try simp only [Act.put])
        refine wpAnyK_all (rs := [13]) (by kernel_rfl) (by simp) (fun i hi => ?_)
        simp only [List.mem_cons, List.not_mem_nil, or_false] at hi
        subst hi
        refine stepK (o := ⟨none, _, _, _, _, _⟩) rfl (fun K hK => ?_)
        rw [if_pos (by rfl)]
        refine wp_store_mid 27 _ _ rfl gb 0 #[.int .i64 vsb, .int .i64 vpb, .int .i64 vparts, .slice VE ven vec] rfl rfl (fun j hj => by rw [Nat.zero_add]; have hj2 : j < 4 := hj; exact ⟨by rw [cell_of_row z1 gb j _ _ _ hB2, Array.getElem?_eq_getElem (by exact hj2)]; rfl, hB2.frozen j⟩) (by kernel_rfl) (by simp [Value.oneCell']) ?_
        have hB3 := Blk.fill zL [.int .i64 vsb, .int .i64 vpb, .int .i64 vparts, .slice VE ven vec] hB2 rfl
        have hA3 := hA2.aside hab 0 [.int .i64 vsb, .int .i64 vpb, .int .i64 vparts, .slice VE ven vec]
        have hV3 := hV2.fill hB2 (by decide) (by decide) 0 [.int .i64 vsb, .int .i64 vpb, .int .i64 vparts, .slice VE ven vec]
        have hS : (fun W : World => Later wc W) (z1.setCells gb 0 [.int .i64 vsb, .int .i64 vpb, .int .i64 vparts, .slice VE ven vec]) := Later.fill hS HGB.out 0 _
        refine hK _ _ hS fun wq hwq => ?_
        obtain ⟨z2, hz1⟩ : ∃ x, z1.setCells gb 0 [.int .i64 vsb, .int .i64 vpb, .int .i64 vparts, .slice VE ven vec] = x := ⟨_, rfl⟩
        rw [hz1] at hA3 hB3 hV3 hS
        have hz2 : z2 = wq := hz1.symm.trans hwq
        subst hz2
        clear hK hwq hz1 hA2 hB2 hV2
        (try simp only [Act.put])
        refine wpAnyK_take (fun _ => rfl) (fun _ _ _ h k => h.trans k) (fun _ _ h k => k ▸ h) (i := 14) (oi := ⟨some 17, _, _, _, _, _⟩) (v := ?_) rfl (by kernel_rfl) (by kernel_rfl) (by kernel_rfl) (fun _ _ _ h => h) (Or.inl (Or.inl ⟨by rfl, ?_⟩)) hS ?_
        rotate_left
        focus ((intro w hSw; (try dsimp only at hSw); skip; go_simp); (try with_reducible rfl))
        intro wq hwq
        subst hwq
        (try simp only [Act.put, List.setIfInBounds_toArray, List.set_cons_zero, List.set_cons_succ])
        refine wpAnyK_done (by kernel_rfl) ?_ _
        go_wp2_with fail
        go_meet
        exact ⟨ga, gb, VA, vn, vcp, vlast, vsb, vpb, vparts, VE, ven, vec, vev, rfl, rfl, rfl, hV3, hA3, hB3, hab, HGA.out, HGB.out, hS⟩
       ·
        refine stepK (o := ⟨some 16, _, _, _, _, _⟩) rfl (fun K hK => ?_)
        go_simp
        obtain ⟨gb, hgg⟩ : ∃ x, y1.heap.size = x := ⟨_, rfl⟩
        obtain ⟨y2, hyy⟩ : ∃ x, y1.alloc (.cells zL.toArray 27) = x := ⟨_, rfl⟩
        have lc : Later y1 y2 := hyy ▸ Later.new _ _
        have HB := Lib.hid (show Blk y2 gb zL.toArray 27 from hyy ▸ Blk.new _ _ _ _ hgg.symm)
        have HGB := Lib.hid (show wc.heap.size ≤ gb from hgg ▸ Later.size hS)
        replace hS : (fun W : World => Later wc W) y2 := Later.trans hS lc
        have HV := Lib.hid (HV.out.later lc)
        try rw [hgg]
        unfold zL at hyy
        rw [hyy]
        refine hK _ _ hS fun wq hwq => ?_
        subst hwq
        clear hK lc hyy hgg
        (try simp only [Act.put, List.setIfInBounds_toArray, List.set_cons_zero, List.set_cons_succ])
        refine wpAnyK_all (rs := [10]) (by kernel_rfl) (by simp) (fun i hi => ?_)
        simp only [List.mem_cons, List.not_mem_nil, or_false] at hi
        subst hi
        refine stepK (o := ⟨some 15, _, _, _, _, _⟩) rfl (fun K hK => ?_)
        go_simp
        obtain ⟨ga, hgg⟩ : ∃ x, y2.heap.size = x := ⟨_, rfl⟩
        obtain ⟨y3, hyy⟩ : ∃ x, y2.alloc (.cells zS.toArray 24) = x := ⟨_, rfl⟩
        have lc : Later y2 y3 := hyy ▸ Later.new _ _
        have HA := Lib.hid (show Blk y3 ga zS.toArray 24 from hyy ▸ Blk.new _ _ _ _ hgg.symm)
        have HGA := Lib.hid (show wc.heap.size ≤ ga from hgg ▸ Later.size hS)
        replace hS : (fun W : World => Later wc W) y3 := Later.trans hS lc
        have HV := Lib.hid (HV.out.later lc)
        have HB := Lib.hid (HB.out.later lc)
        try rw [hgg]
        unfold zS at hyy
        rw [hyy]
        refine hK _ _ hS fun wq hwq => ?_
        subst hwq
        clear hK lc hyy hgg
        (try simp only [Act.put, List.setIfInBounds_toArray, List.set_cons_zero, List.set_cons_succ])
        have hab : ga ≠ gb := ne_typ HA.out HB.out (by decide)
        refine wpAnyK_all (rs := [12]) (by kernel_rfl) (by simp) (fun i hi => ?_)
        simp only [List.mem_cons, List.not_mem_nil, or_false] at hi
        subst hi
        refine stepK (o := ⟨none, _, _, _, _, _⟩) rfl (fun K hK => ?_)
        rw [if_pos (by rfl)]
        refine wp_store_mid 24 _ _ rfl ga 0 #[.slice VA vn vcp, .int .i64 vlast] rfl rfl (fun j hj => by rw [Nat.zero_add]; have hj2 : j < 2 := hj; exact ⟨by rw [cell_of_row y3 ga j _ _ _ HA.out, Array.getElem?_eq_getElem (by exact hj2)]; rfl, HA.out.frozen j⟩) (by kernel_rfl) (by simp [Value.oneCell']) ?_
        have hA2 := Blk.fill zS [.slice VA vn vcp, .int .i64 vlast] HA.out rfl
        have hB2 := HB.out.aside hab.symm 0 [.slice VA vn vcp, .int .i64 vlast]
        have hV2 := HV.out.fill HA.out (by decide) (by decide) 0 [.slice VA vn vcp, .int .i64 vlast]
        have hS : (fun W : World => Later wc W) (y3.setCells ga 0 [.slice VA vn vcp, .int .i64 vlast]) := Later.fill hS HGA.out 0 _
        refine hK _ _ hS fun wq hwq => ?_
        obtain ⟨z1, hz1⟩ : ∃ x, y3.setCells ga 0 [.slice VA vn vcp, .int .i64 vlast] = x := ⟨_, rfl⟩
        rw [hz1] at hA2 hB2 hV2 hS
        have hz2 : z1 = wq := hz1.symm.trans hwq
        subst hz2
        clear hK hwq hz1
        (try simp only [Act.put])
        refine wpAnyK_all (rs := [13]) (by kernel_rfl) (by simp) (fun i hi => ?_)
        simp only [List.mem_cons, List.not_mem_nil, or_false] at hi
        subst hi
        refine stepK (o := ⟨none, _, _, _, _, _⟩) rfl (fun K hK => ?_)
        rw [if_pos (by rfl)]
        refine wp_store_mid 27 _ _ rfl gb 0 #[.int .i64 vsb, .int .i64 vpb, .int .i64 vparts, .slice VE ven vec] rfl rfl (fun j hj => by rw [Nat.zero_add]; have hj2 : j < 4 := hj; exact ⟨by rw [cell_of_row z1 gb j _ _ _ hB2, Array.getElem?_eq_getElem (by exact hj2)]; rfl, hB2.frozen j⟩) (by kernel_rfl) (by simp [Value.oneCell']) ?_
        have hB3 := Blk.fill zL [.int .i64 vsb, .int .i64 vpb, .int .i64 vparts, .slice VE ven vec] hB2 rfl
        have hA3 := hA2.aside hab 0 [.int .i64 vsb, .int .i64 vpb, .int .i64 vparts, .slice VE ven vec]
        have hV3 := hV2.fill hB2 (by decide) (by decide) 0 [.int .i64 vsb, .int .i64 vpb, .int .i64 vparts, .slice VE ven vec]
        have hS : (fun W : World => Later wc W) (z1.setCells gb 0 [.int .i64 vsb, .int .i64 vpb, .int .i64 vparts, .slice VE ven vec]) := Later.fill hS HGB.out 0 _
        refine hK _ _ hS fun wq hwq => ?_
        obtain ⟨z2, hz1⟩ : ∃ x, z1.setCells gb 0 [.int .i64 vsb, .int .i64 vpb, .int .i64 vparts, .slice VE ven vec] = x := ⟨_, rfl⟩
        rw [hz1] at hA3 hB3 hV3 hS
        have hz2 : z2 = wq := hz1.symm.trans hwq
        subst hz2
        clear hK hwq hz1 hA2 hB2 hV2
        (try simp only [Act.put])
        refine wpAnyK_take (fun _ => rfl) (fun _ _ _ h k => h.trans k) (fun _ _ h k => k ▸ h) (i := 14) (oi := ⟨some 17, _, _, _, _, _⟩) (v := ?_) rfl (by kernel_rfl) (by kernel_rfl) (by kernel_rfl) (fun _ _ _ h => h) (Or.inl (Or.inl ⟨by rfl, ?_⟩)) hS ?_
        rotate_left
        focus ((intro w hSw; (try dsimp only at hSw); skip; go_simp); (try with_reducible rfl))
        intro wq hwq
        subst hwq
        (try simp only [Act.put, List.setIfInBounds_toArray, List.set_cons_zero, List.set_cons_succ])
        refine wpAnyK_done (by kernel_rfl) ?_ _
        go_wp2_with fail
        go_meet
        exact ⟨ga, gb, VA, vn, vcp, vlast, vsb, vpb, vparts, VE, ven, vec, vev, rfl, rfl, rfl, hV3, hA3, hB3, hab, HGA.out, HGB.out, hS⟩
      ·
       refine stepK (o := ⟨some 15, _, _, _, _, _⟩) rfl (fun K hK => ?_)
       go_simp
       obtain ⟨ga, hgg⟩ : ∃ x, y0.heap.size = x := ⟨_, rfl⟩
       obtain ⟨y1, hyy⟩ : ∃ x, y0.alloc (.cells zS.toArray 24) = x := ⟨_, rfl⟩
       have lc : Later y0 y1 := hyy ▸ Later.new _ _
       have HA := Lib.hid (show Blk y1 ga zS.toArray 24 from hyy ▸ Blk.new _ _ _ _ hgg.symm)
       have HGA := Lib.hid (show wc.heap.size ≤ ga from hgg ▸ Later.size hS)
       replace hS : (fun W : World => Later wc W) y1 := Later.trans hS lc
       try rw [hgg]
       unfold zS at hyy
       rw [hyy]
       refine hK _ _ hS fun wq hwq => ?_
       subst hwq
       clear hK lc hyy hgg
       (try simp only [Act.put, List.setIfInBounds_toArray, List.set_cons_zero, List.set_cons_succ])
       refine wpAnyK_all (rs := [5, 11]) (by kernel_rfl) (by simp) (fun i hi => ?_)
       simp only [List.mem_cons, List.not_mem_nil, or_false] at hi
       rcases hi with rfl | rfl
       ·
        refine stepK (o := ⟨some 127, _, _, _, _, _⟩) rfl (fun K hK => ?_)
        go_simp
        refine (HAP.out _ hS).mono ?_
        intro e y2 hap
        obtain ⟨VA, vn, vcp, vlast, vsb, vpb, vparts, VE, ven, vec, vev, rfl, hv, lc⟩ := hap.v (Later.size hS)
        have HV := Lib.hid hv
        replace hS : (fun W : World => Later wc W) y2 := Later.trans hS lc
        have HA := Lib.hid (HA.out.later lc)
        refine hK _ _ hS fun wq hwq => ?_
        subst hwq
        clear hK hap hv lc
        (try simp only [Act.put, List.setIfInBounds_toArray, List.set_cons_zero, List.set_cons_succ])
        refine wpAnyK_take (fun _ => rfl) (fun _ _ _ h k => h.trans k) (fun _ _ h k => k ▸ h) (i := 6) (oi := ⟨some 121, _, _, _, _, _⟩) (v := ?_) rfl (by kernel_rfl) (by kernel_rfl) (by kernel_rfl) (fun _ _ _ h => h) (Or.inl (Or.inl ⟨by rfl, ?_⟩)) hS ?_
        rotate_left
        focus ((intro w hSw; (try dsimp only at hSw); skip; go_simp); (try with_reducible rfl))
        intro wq hwq
        subst hwq
        (try simp only [Act.put, List.setIfInBounds_toArray, List.set_cons_zero, List.set_cons_succ])
        refine wpAnyK_take (fun _ => rfl) (fun _ _ _ h k => h.trans k) (fun _ _ h k => k ▸ h) (i := 7) (oi := ⟨some 128, _, _, _, _, _⟩) (v := ?_) rfl (by kernel_rfl) (by kernel_rfl) (by kernel_rfl) (fun _ _ _ h => h) (Or.inl (Or.inl ⟨by rfl, ?_⟩)) hS ?_
        rotate_left
        focus ((intro w hSw; (try dsimp only at hSw); skip; go_simp); (try with_reducible rfl))
        intro wq hwq
        subst hwq
        (try simp only [Act.put, List.setIfInBounds_toArray, List.set_cons_zero, List.set_cons_succ])
        refine wpAnyK_take (fun _ => rfl) (fun _ _ _ h k => h.trans k) (fun _ _ h k => k ▸ h) (i := 8) (oi := ⟨some 129, _, _, _, _, _⟩) (v := ?_) rfl (by kernel_rfl) (by kernel_rfl) (by kernel_rfl) (fun _ _ _ h => h) (Or.inl (Or.inl ⟨by rfl, ?_⟩)) hS ?_
        rotate_left
        focus ((intro w hSw; (try dsimp only at hSw); skip; go_simp); (try with_reducible rfl))
        intro wq hwq
        subst hwq
        (try simp only [Act.put, List.setIfInBounds_toArray, List.set_cons_zero, List.set_cons_succ])
        refine wpAnyK_take (fun _ => rfl) (fun _ _ _ h k => h.trans k) (fun _ _ h k => k ▸ h) (i := 9) (oi := ⟨some 130, _, _, _, _, _⟩) (v := ?_) rfl (by kernel_rfl) (by kernel_rfl) (by kernel_rfl) (fun _ _ _ h => h) (Or.inl (Or.inl ⟨by rfl, ?_⟩)) hS ?_
        rotate_left
        focus ((intro w hSw; (try dsimp only at hSw); skip; go_simp); (try with_reducible rfl))
        intro wq hwq
        subst hwq
        (try simp only [Act.put, List.setIfInBounds_toArray, List.set_cons_zero, List.set_cons_succ])
        refine wpAnyK_all (rs := [11]) (by kernel_rfl) (by simp) (fun i hi => ?_)
        simp only [List.mem_cons, List.not_mem_nil, or_false] at hi
        subst hi
        refine stepK (o := ⟨some 16, _, _, _, _, _⟩) rfl (fun K hK => ?_)
        go_simp
        obtain ⟨gb, hgg⟩ : ∃ x, y2.heap.size = x := ⟨_, rfl⟩
        obtain ⟨y3, hyy⟩ : ∃ x, y2.alloc (.cells zL.toArray 27) = x := ⟨_, rfl⟩
        have lc : Later y2 y3 := hyy ▸ Later.new _ _
        have HB := Lib.hid (show Blk y3 gb zL.toArray 27 from hyy ▸ Blk.new _ _ _ _ hgg.symm)
        have HGB := Lib.hid (show wc.heap.size ≤ gb from hgg ▸ Later.size hS)
        replace hS : (fun W : World => Later wc W) y3 := Later.trans hS lc
        have HV := Lib.hid (HV.out.later lc)
        have HA := Lib.hid (HA.out.later lc)
        try rw [hgg]
        unfold zL at hyy
        rw [hyy]
        refine hK _ _ hS fun wq hwq => ?_
        subst hwq
        clear hK lc hyy hgg
        (try simp only [Act.put, List.setIfInBounds_toArray, List.set_cons_zero, List.set_cons_succ])
        have hab : ga ≠ gb := ne_typ HA.out HB.out (by decide)
        refine wpAnyK_all (rs := [12]) (by kernel_rfl) (by simp) (fun i hi => ?_)
        simp only [List.mem_cons, List.not_mem_nil, or_false] at hi
        subst hi
        refine stepK (o := ⟨none, _, _, _, _, _⟩) rfl (fun K hK => ?_)
        rw [if_pos (by rfl)]
        refine wp_store_mid 24 _ _ rfl ga 0 #[.slice VA vn vcp, .int .i64 vlast] rfl rfl (fun j hj => by rw [Nat.zero_add]; have hj2 : j < 2 := hj; exact ⟨by rw [cell_of_row y3 ga j _ _ _ HA.out, Array.getElem?_eq_getElem (by exact hj2)]; rfl, HA.out.frozen j⟩) (by kernel_rfl) (by simp [Value.oneCell']) ?_
        have hA2 := Blk.fill zS [.slice VA vn vcp, .int .i64 vlast] HA.out rfl
        have hB2 := HB.out.aside hab.symm 0 [.slice VA vn vcp, .int .i64 vlast]
        have hV2 := HV.out.fill HA.out (by decide) (by decide) 0 [.slice VA vn vcp, .int .i64 vlast]
        have hS : (fun W : World => Later wc W) (y3.setCells ga 0 [.slice VA vn vcp, .int .i64 vlast]) := Later.fill hS HGA.out 0 _
        refine hK _ _ hS fun wq hwq => ?_
        obtain ⟨z1, hz1⟩ : ∃ x, y3.setCells ga 0 [.slice VA vn vcp, .int .i64 vlast] = x := ⟨_, rfl⟩
        rw [hz1] at hA2 hB2 hV2 hS
        have hz2 : z1 = wq := hz1.symm.trans hwq
        subst hz2
        clear hK hwq hz1
        (try simp only [Act.put])
        refine wpAnyK_all (rs := [13]) (by kernel_rfl) (by simp) (fun i hi => ?_)
        simp only [List.mem_cons, List.not_mem_nil, or_false] at hi
        subst hi
        refine stepK (o := ⟨none, _, _, _, _, _⟩) rfl (fun K hK => ?_)
        rw [if_pos (by rfl)]
        refine wp_store_mid 27 _ _ rfl gb 0 #[.int .i64 vsb, .int .i64 vpb, .int .i64 vparts, .slice VE ven vec] rfl rfl (fun j hj => by rw [Nat.zero_add]; have hj2 : j < 4 := hj; exact ⟨by rw [cell_of_row z1 gb j _ _ _ hB2, Array.getElem?_eq_getElem (by exact hj2)]; rfl, hB2.frozen j⟩) (by kernel_rfl) (by simp [Value.oneCell']) ?_
        have hB3 := Blk.fill zL [.int .i64 vsb, .int .i64 vpb, .int .i64 vparts, .slice VE ven vec] hB2 rfl
        have hA3 := hA2.aside hab 0 [.int .i64 vsb, .int .i64 vpb, .int .i64 vparts, .slice VE ven vec]
        have hV3 := hV2.fill hB2 (by decide) (by decide) 0 [.int .i64 vsb, .int .i64 vpb, .int .i64 vparts, .slice VE ven vec]
        have hS : (fun W : World => Later wc W) (z1.setCells gb 0 [.int .i64 vsb, .int .i64 vpb, .int .i64 vparts, .slice VE ven vec]) := Later.fill hS HGB.out 0 _
        refine hK _ _ hS fun wq hwq => ?_
        obtain ⟨z2, hz1⟩ : ∃ x, z1.setCells gb 0 [.int .i64 vsb, .int .i64 vpb, .int .i64 vparts, .slice VE ven vec] = x := ⟨_, rfl⟩
        rw [hz1] at hA3 hB3 hV3 hS
        have hz2 : z2 = wq := hz1.symm.trans hwq
        subst hz2
        clear hK hwq hz1 hA2 hB2 hV2
        (try simp only [Act.put])
        refine wpAnyK_take (fun _ => rfl) (fun _ _ _ h k => h.trans k) (fun _ _ h k => k ▸ h) (i := 14) (oi := ⟨some 17, _, _, _, _, _⟩) (v := ?_) rfl (by kernel_rfl) (by kernel_rfl) (by kernel_rfl) (fun _ _ _ h => h) (Or.inl (Or.inl ⟨by rfl, ?_⟩)) hS ?_
        rotate_left
        focus ((intro w hSw; (try dsimp only at hSw); skip; go_simp); (try with_reducible rfl))
        intro wq hwq
        subst hwq
        (try simp only [Act.put, List.setIfInBounds_toArray, List.set_cons_zero, List.set_cons_succ])
        refine wpAnyK_done (by kernel_rfl) ?_ _
        go_wp2_with fail
        go_meet
        exact ⟨ga, gb, VA, vn, vcp, vlast, vsb, vpb, vparts, VE, ven, vec, vev, rfl, rfl, rfl, hV3, hA3, hB3, hab, HGA.out, HGB.out, hS⟩
       ·
        refine stepK (o := ⟨some 16, _, _, _, _, _⟩) rfl (fun K hK => ?_)
        go_simp
        obtain ⟨gb, hgg⟩ : ∃ x, y1.heap.size = x := ⟨_, rfl⟩
        obtain ⟨y2, hyy⟩ : ∃ x, y1.alloc (.cells zL.toArray 27) = x := ⟨_, rfl⟩
        have lc : Later y1 y2 := hyy ▸ Later.new _ _
        have HB := Lib.hid (show Blk y2 gb zL.toArray 27 from hyy ▸ Blk.new _ _ _ _ hgg.symm)
        have HGB := Lib.hid (show wc.heap.size ≤ gb from hgg ▸ Later.size hS)
        replace hS : (fun W : World => Later wc W) y2 := Later.trans hS lc
        have HA := Lib.hid (HA.out.later lc)
        try rw [hgg]
        unfold zL at hyy
        rw [hyy]
        refine hK _ _ hS fun wq hwq => ?_
        subst hwq
        clear hK lc hyy hgg
        (try simp only [Act.put, List.setIfInBounds_toArray, List.set_cons_zero, List.set_cons_succ])
        refine wpAnyK_all (rs := [5]) (by kernel_rfl) (by simp) (fun i hi => ?_)
        simp only [List.mem_cons, List.not_mem_nil, or_false] at hi
        subst hi
        refine stepK (o := ⟨some 127, _, _, _, _, _⟩) rfl (fun K hK => ?_)
        go_simp
        refine (HAP.out _ hS).mono ?_
        intro e y3 hap
        obtain ⟨VA, vn, vcp, vlast, vsb, vpb, vparts, VE, ven, vec, vev, rfl, hv, lc⟩ := hap.v (Later.size hS)
        have HV := Lib.hid hv
        replace hS : (fun W : World => Later wc W) y3 := Later.trans hS lc
        have HA := Lib.hid (HA.out.later lc)
        have HB := Lib.hid (HB.out.later lc)
        refine hK _ _ hS fun wq hwq => ?_
        subst hwq
        clear hK hap hv lc
        (try simp only [Act.put, List.setIfInBounds_toArray, List.set_cons_zero, List.set_cons_succ])
        refine wpAnyK_take (fun _ => rfl) (fun _ _ _ h k => h.trans k) (fun _ _ h k => k ▸ h) (i := 6) (oi := ⟨some 121, _, _, _, _, _⟩) (v := ?_) rfl (by kernel_rfl) (by kernel_rfl) (by kernel_rfl) (fun _ _ _ h => h) (Or.inl (Or.inl ⟨by rfl, ?_⟩)) hS ?_
        rotate_left
        focus ((intro w hSw; (try dsimp only at hSw); skip; go_simp); (try with_reducible rfl))
        intro wq hwq
        subst hwq
        (try simp only [Act.put, List.setIfInBounds_toArray, List.set_cons_zero, List.set_cons_succ])
        refine wpAnyK_take (fun _ => rfl) (fun _ _ _ h k => h.trans k) (fun _ _ h k => k ▸ h) (i := 7) (oi := ⟨some 128, _, _, _, _, _⟩) (v := ?_) rfl (by kernel_rfl) (by kernel_rfl) (by kernel_rfl) (fun _ _ _ h => h) (Or.inl (Or.inl ⟨by rfl, ?_⟩)) hS ?_
        rotate_left
        focus ((intro w hSw; (try dsimp only at hSw); skip; go_simp); (try with_reducible rfl))
        intro wq hwq
        subst hwq
        (try simp only [Act.put, List.setIfInBounds_toArray, List.set_cons_zero, List.set_cons_succ])
        refine wpAnyK_take (fun _ => rfl) (fun _ _ _ h k => h.trans k) (fun _ _ h k => k ▸ h) (i := 8) (oi := ⟨some 129, _, _, _, _, _⟩) (v := ?_) rfl (by kernel_rfl) (by kernel_rfl) (by kernel_rfl) (fun _ _ _ h => h) (Or.inl (Or.inl ⟨by rfl, ?_⟩)) hS ?_
        rotate_left
        focus ((intro w hSw; (try dsimp only at hSw); skip; go_simp); (try with_reducible rfl))
        intro wq hwq
        subst hwq
        (try simp only [Act.put, List.setIfInBounds_toArray, List.set_cons_zero, List.set_cons_succ])
        refine wpAnyK_take (fun _ => rfl) (fun _ _ _ h k => h.trans k) (fun _ _ h k => k ▸ h) (i := 9) (oi := ⟨some 130, _, _, _, _, _⟩) (v := ?_) rfl (by kernel_rfl) (by kernel_rfl) (by kernel_rfl) (fun _ _ _ h => h) (Or.inl (Or.inl ⟨by rfl, ?_⟩)) hS ?_
        rotate_left
        focus ((intro w hSw; (try dsimp only at hSw); skip; go_simp); (try with_reducible rfl))
        intro wq hwq
        subst hwq
        (try simp only [Act.put, List.setIfInBounds_toArray, List.set_cons_zero, List.set_cons_succ])
        have hab : ga ≠ gb := ne_typ HA.out HB.out (by decide)
        refine wpAnyK_all (rs := [12]) (by kernel_rfl) (by simp) (fun i hi => ?_)
        simp only [List.mem_cons, List.not_mem_nil, or_false] at hi
        subst hi
        refine stepK (o := ⟨none, _, _, _, _, _⟩) rfl (fun K hK => ?_)
        rw [if_pos (by rfl)]
        refine wp_store_mid 24 _ _ rfl ga 0 #[.slice VA vn vcp, .int .i64 vlast] rfl rfl (fun j hj => by rw [Nat.zero_add]; have hj2 : j < 2 := hj; exact ⟨by rw [cell_of_row y3 ga j _ _ _ HA.out, Array.getElem?_eq_getElem (by exact hj2)]; rfl, HA.out.frozen j⟩) (by kernel_rfl) (by simp [Value.oneCell']) ?_
        have hA2 := Blk.fill zS [.slice VA vn vcp, .int .i64 vlast] HA.out rfl
        have hB2 := HB.out.aside hab.symm 0 [.slice VA vn vcp, .int .i64 vlast]
        have hV2 := HV.out.fill HA.out (by decide) (by decide) 0 [.slice VA vn vcp, .int .i64 vlast]
        have hS : (fun W : World => Later wc W) (y3.setCells ga 0 [.slice VA vn vcp, .int .i64 vlast]) := Later.fill hS HGA.out 0 _
        refine hK _ _ hS fun wq hwq => ?_
        obtain ⟨z1, hz1⟩ : ∃ x, y3.setCells ga 0 [.slice VA vn vcp, .int .i64 vlast] = x := ⟨_, rfl⟩
        rw [hz1] at hA2 hB2 hV2 hS
        have hz2 : z1 = wq := hz1.symm.trans hwq
        subst hz2
        clear hK hwq hz1
        (try simp only [Act.put])
        refine wpAnyK_all (rs := [13]) (by kernel_rfl) (by simp) (fun i hi => ?_)
        simp only [List.mem_cons, List.not_mem_nil, or_false] at hi
        subst hi
        refine stepK (o := ⟨none, _, _, _, _, _⟩) rfl (fun K hK => ?_)
        rw [if_pos (by rfl)]
        refine wp_store_mid 27 _ _ rfl gb 0 #[.int .i64 vsb, .int .i64 vpb, .int .i64 vparts, .slice VE ven vec] rfl rfl (fun j hj => by rw [Nat.zero_add]; have hj2 : j < 4 := hj; exact ⟨by rw [cell_of_row z1 gb j _ _ _ hB2, Array.getElem?_eq_getElem (by exact hj2)]; rfl, hB2.frozen j⟩) (by kernel_rfl) (by simp [Value.oneCell']) ?_
        have hB3 := Blk.fill zL [.int .i64 vsb, .int .i64 vpb, .int .i64 vparts, .slice VE ven vec] hB2 rfl
        have hA3 := hA2.aside hab 0 [.int .i64 vsb, .int .i64 vpb, .int .i64 vparts, .slice VE ven vec]
        have hV3 := hV2.fill hB2 (by decide) (by decide) 0 [.int .i64 vsb, .int .i64 vpb, .int .i64 vparts, .slice VE ven vec]
        have hS : (fun W : World => Later wc W) (z1.setCells gb 0 [.int .i64 vsb, .int .i64 vpb, .int .i64 vparts, .slice VE ven vec]) := Later.fill hS HGB.out 0 _
        refine hK _ _ hS fun wq hwq => ?_
        obtain ⟨z2, hz1⟩ : ∃ x, z1.setCells gb 0 [.int .i64 vsb, .int .i64 vpb, .int .i64 vparts, .slice VE ven vec] = x := ⟨_, rfl⟩
        rw [hz1] at hA3 hB3 hV3 hS
        have hz2 : z2 = wq := hz1.symm.trans hwq
        subst hz2
        clear hK hwq hz1 hA2 hB2 hV2
        (try simp only [Act.put])
        refine wpAnyK_take (fun _ => rfl) (fun _ _ _ h k => h.trans k) (fun _ _ h k => k ▸ h) (i := 14) (oi := ⟨some 17, _, _, _, _, _⟩) (v := ?_) rfl (by kernel_rfl) (by kernel_rfl) (by kernel_rfl) (fun _ _ _ h => h) (Or.inl (Or.inl ⟨by rfl, ?_⟩)) hS ?_
        rotate_left
        focus ((intro w hSw; (try dsimp only at hSw); skip; go_simp); (try with_reducible rfl))
        intro wq hwq
        subst hwq
        (try simp only [Act.put, List.setIfInBounds_toArray, List.set_cons_zero, List.set_cons_succ])
        refine wpAnyK_done (by kernel_rfl) ?_ _
        go_wp2_with fail
        go_meet
        exact ⟨ga, gb, VA, vn, vcp, vlast, vsb, vpb, vparts, VE, ven, vec, vev, rfl, rfl, rfl, hV3, hA3, hB3, hab, HGA.out, HGB.out, hS⟩
      ·
       refine stepK (o := ⟨some 16, _, _, _, _, _⟩) rfl (fun K hK => ?_)
       go_simp
       obtain ⟨gb, hgg⟩ : ∃ x, y0.heap.size = x := ⟨_, rfl⟩
       obtain ⟨y1, hyy⟩ : ∃ x, y0.alloc (.cells zL.toArray 27) = x := ⟨_, rfl⟩
       have lc : Later y0 y1 := hyy ▸ Later.new _ _
       have HB := Lib.hid (show Blk y1 gb zL.toArray 27 from hyy ▸ Blk.new _ _ _ _ hgg.symm)
       have HGB := Lib.hid (show wc.heap.size ≤ gb from hgg ▸ Later.size hS)
       replace hS : (fun W : World => Later wc W) y1 := Later.trans hS lc
       try rw [hgg]
       unfold zL at hyy
       rw [hyy]
       refine hK _ _ hS fun wq hwq => ?_
       subst hwq
       clear hK lc hyy hgg
       (try simp only [Act.put, List.setIfInBounds_toArray, List.set_cons_zero, List.set_cons_succ])
       refine wpAnyK_all (rs := [5, 10]) (by kernel_rfl) (by simp) (fun i hi => ?_)
       simp only [List.mem_cons, List.not_mem_nil, or_false] at hi
       rcases hi with rfl | rfl
       ·
        refine stepK (o := ⟨some 127, _, _, _, _, _⟩) rfl (fun K hK => ?_)
        go_simp
        refine (HAP.out _ hS).mono ?_
        intro e y2 hap
        obtain ⟨VA, vn, vcp, vlast, vsb, vpb, vparts, VE, ven, vec, vev, rfl, hv, lc⟩ := hap.v (Later.size hS)
        have HV := Lib.hid hv
        replace hS : (fun W : World => Later wc W) y2 := Later.trans hS lc
        have HB := Lib.hid (HB.out.later lc)
        refine hK _ _ hS fun wq hwq => ?_
        subst hwq
        clear hK hap hv lc
        (try simp only [Act.put, List.setIfInBounds_toArray, List.set_cons_zero, List.set_cons_succ])
        refine wpAnyK_take (fun _ => rfl) (fun _ _ _ h k => h.trans k) (fun _ _ h k => k ▸ h) (i := 6) (oi := ⟨some 121, _, _, _, _, _⟩) (v := ?_) rfl (by kernel_rfl) (by kernel_rfl) (by kernel_rfl) (fun _ _ _ h => h) (Or.inl (Or.inl ⟨by rfl, ?_⟩)) hS ?_
        rotate_left
        focus ((intro w hSw; (try dsimp only at hSw); skip; go_simp); (try with_reducible rfl))
        intro wq hwq
        subst hwq
        (try simp only [Act.put, List.setIfInBounds_toArray, List.set_cons_zero, List.set_cons_succ])
        refine wpAnyK_take (fun _ => rfl) (fun _ _ _ h k => h.trans k) (fun _ _ h k => k ▸ h) (i := 7) (oi := ⟨some 128, _, _, _, _, _⟩) (v := ?_) rfl (by kernel_rfl) (by kernel_rfl) (by kernel_rfl) (fun _ _ _ h => h) (Or.inl (Or.inl ⟨by rfl, ?_⟩)) hS ?_
        rotate_left
        focus ((intro w hSw; (try dsimp only at hSw); skip; go_simp); (try with_reducible rfl))
        intro wq hwq
        subst hwq
        (try simp only [Act.put, List.setIfInBounds_toArray, List.set_cons_zero, List.set_cons_succ])
        refine wpAnyK_take (fun _ => rfl) (fun _ _ _ h k => h.trans k) (fun _ _ h k => k ▸ h) (i := 8) (oi := ⟨some 129, _, _, _, _, _⟩) (v := ?_) rfl (by kernel_rfl) (by kernel_rfl) (by kernel_rfl) (fun _ _ _ h => h) (Or.inl (Or.inl ⟨by rfl, ?_⟩)) hS ?_
        rotate_left
        focus ((intro w hSw; (try dsimp only at hSw); skip; go_simp); (try with_reducible rfl))
        intro wq hwq
        subst hwq
        (try simp only [Act.put, List.setIfInBounds_toArray, List.set_cons_zero, List.set_cons_succ])
        refine wpAnyK_take (fun _ => rfl) (fun _ _ _ h k => h.trans k) (fun _ _ h k => k ▸ h) (i := 9) (oi := ⟨some 130, _, _, _, _, _⟩) (v := ?_) rfl (by kernel_rfl) (by kernel_rfl) (by kernel_rfl) (fun _ _ _ h => h) (Or.inl (Or.inl ⟨by rfl, ?_⟩)) hS ?_
        rotate_left
        focus ((intro w hSw; (try dsimp only at hSw); skip; go_simp); (try with_reducible rfl))
        intro wq hwq
        subst hwq
        (try simp only [Act.put, List.setIfInBounds_toArray, List.set_cons_zero, List.set_cons_succ])
        refine wpAnyK_all (rs := [10]) (by kernel_rfl) (by simp) (fun i hi => ?_)
        simp only [List.mem_cons, List.not_mem_nil, or_false] at hi
        subst hi
        refine stepK (o := ⟨some 15, _, _, _, _, _⟩) rfl (fun K hK => ?_)
        go_simp
        obtain ⟨ga, hgg⟩ : ∃ x, y2.heap.size = x := ⟨_, rfl⟩
        obtain ⟨y3, hyy⟩ : ∃ x, y2.alloc (.cells zS.toArray 24) = x := ⟨_, rfl⟩
        have lc : Later y2 y3 := hyy ▸ Later.new _ _
        have HA := Lib.hid (show Blk y3 ga zS.toArray 24 from hyy ▸ Blk.new _ _ _ _ hgg.symm)
        have HGA := Lib.hid (show wc.heap.size ≤ ga from hgg ▸ Later.size hS)
        replace hS : (fun W : World => Later wc W) y3 := Later.trans hS lc
        have HV := Lib.hid (HV.out.later lc)
        have HB := Lib.hid (HB.out.later lc)
        try rw [hgg]
        unfold zS at hyy
        rw [hyy]
        refine hK _ _ hS fun wq hwq => ?_
        subst hwq
        clear hK lc hyy hgg
        (try simp only [Act.put, List.setIfInBounds_toArray, List.set_cons_zero, List.set_cons_succ])
        have hab : ga ≠ gb := ne_typ HA.out HB.out (by decide)
        refine wpAnyK_all (rs := [12]) (by kernel_rfl) (by simp) (fun i hi => ?_)
        simp only [List.mem_cons, List.not_mem_nil, or_false] at hi
        subst hi
        refine stepK (o := ⟨none, _, _, _, _, _⟩) rfl (fun K hK => ?_)
        rw [if_pos (by rfl)]
        refine wp_store_mid 24 _ _ rfl ga 0 #[.slice VA vn vcp, .int .i64 vlast] rfl rfl (fun j hj => by rw [Nat.zero_add]; have hj2 : j < 2 := hj; exact ⟨by rw [cell_of_row y3 ga j _ _ _ HA.out, Array.getElem?_eq_getElem (by exact hj2)]; rfl, HA.out.frozen j⟩) (by kernel_rfl) (by simp [Value.oneCell']) ?_
        have hA2 := Blk.fill zS [.slice VA vn vcp, .int .i64 vlast] HA.out rfl
        have hB2 := HB.out.aside hab.symm 0 [.slice VA vn vcp, .int .i64 vlast]
        have hV2 := HV.out.fill HA.out (by decide) (by decide) 0 [.slice VA vn vcp, .int .i64 vlast]
        have hS : (fun W : World => Later wc W) (y3.setCells ga 0 [.slice VA vn vcp, .int .i64 vlast]) := Later.fill hS HGA.out 0 _
        refine hK _ _ hS fun wq hwq => ?_
        obtain ⟨z1, hz1⟩ : ∃ x, y3.setCells ga 0 [.slice VA vn vcp, .int .i64 vlast] = x := ⟨_, rfl⟩
        rw [hz1] at hA2 hB2 hV2 hS
        have hz2 : z1 = wq := hz1.symm.trans hwq
        subst hz2
        clear hK hwq hz1
        (try simp only [Act.put])
        refine wpAnyK_all (rs := [13]) (by kernel_rfl) (by simp) (fun i hi => ?_)
        simp only [List.mem_cons, List.not_mem_nil, or_false] at hi
        subst hi
        refine stepK (o := ⟨none, _, _, _, _, _⟩) rfl (fun K hK => ?_)
        rw [if_pos (by rfl)]
        refine wp_store_mid 27 _ _ rfl gb 0 #[.int .i64 vsb, .int .i64 vpb, .int .i64 vparts, .slice VE ven vec] rfl rfl (fun j hj => by rw [Nat.zero_add]; have hj2 : j < 4 := hj; exact ⟨by rw [cell_of_row z1 gb j _ _ _ hB2, Array.getElem?_eq_getElem (by exact hj2)]; rfl, hB2.frozen j⟩) (by kernel_rfl) (by simp [Value.oneCell']) ?_
        have hB3 := Blk.fill zL [.int .i64 vsb, .int .i64 vpb, .int .i64 vparts, .slice VE ven vec] hB2 rfl
        have hA3 := hA2.aside hab 0 [.int .i64 vsb, .int .i64 vpb, .int .i64 vparts, .slice VE ven vec]
        have hV3 := hV2.fill hB2 (by decide) (by decide) 0 [.int .i64 vsb, .int .i64 vpb, .int .i64 vparts, .slice VE ven vec]
        have hS : (fun W : World => Later wc W) (z1.setCells gb 0 [.int .i64 vsb, .int .i64 vpb, .int .i64 vparts, .slice VE ven vec]) := Later.fill hS HGB.out 0 _
        refine hK _ _ hS fun wq hwq => ?_
        obtain ⟨z2, hz1⟩ : ∃ x, z1.setCells gb 0 [.int .i64 vsb, .int .i64 vpb, .int .i64 vparts, .slice VE ven vec] = x := ⟨_, rfl⟩
        rw [hz1] at hA3 hB3 hV3 hS
        have hz2 : z2 = wq := hz1.symm.trans hwq
        subst hz2
        clear hK hwq hz1 hA2 hB2 hV2
        (try simp only [Act.put])
        refine wpAnyK_take (fun _ => rfl) (fun _ _ _ h k => h.trans k) (fun _ _ h k => k ▸ h) (i := 14) (oi := ⟨some 17, _, _, _, _, _⟩) (v := ?_) rfl (by kernel_rfl) (by kernel_rfl) (by kernel_rfl) (fun _ _ _ h => h) (Or.inl (Or.inl ⟨by rfl, ?_⟩)) hS ?_
        rotate_left
        focus ((intro w hSw; (try dsimp only at hSw); skip; go_simp); (try with_reducible rfl))
        intro wq hwq
        subst hwq
        (try simp only [Act.put, List.setIfInBounds_toArray, List.set_cons_zero, List.set_cons_succ])
        refine wpAnyK_done (by kernel_rfl) ?_ _
        go_wp2_with fail
        go_meet
        exact ⟨ga, gb, VA, vn, vcp, vlast, vsb, vpb, vparts, VE, ven, vec, vev, rfl, rfl, rfl, hV3, hA3, hB3, hab, HGA.out, HGB.out, hS⟩
       ·
        refine stepK (o := ⟨some 15, _, _, _, _, _⟩) rfl (fun K hK => ?_)
        go_simp
        obtain ⟨ga, hgg⟩ : ∃ x, y1.heap.size = x := ⟨_, rfl⟩
        obtain ⟨y2, hyy⟩ : ∃ x, y1.alloc (.cells zS.toArray 24) = x := ⟨_, rfl⟩
        have lc : Later y1 y2 := hyy ▸ Later.new _ _
        have HA := Lib.hid (show Blk y2 ga zS.toArray 24 from hyy ▸ Blk.new _ _ _ _ hgg.symm)
        have HGA := Lib.hid (show wc.heap.size ≤ ga from hgg ▸ Later.size hS)
        replace hS : (fun W : World => Later wc W) y2 := Later.trans hS lc
        have HB := Lib.hid (HB.out.later lc)
        try rw [hgg]
        unfold zS at hyy
        rw [hyy]
        refine hK _ _ hS fun wq hwq => ?_
        subst hwq
        clear hK lc hyy hgg
        (try simp only [Act.put, List.setIfInBounds_toArray, List.set_cons_zero, List.set_cons_succ])
        refine wpAnyK_all (rs := [5]) (by kernel_rfl) (by simp) (fun i hi => ?_)
        simp only [List.mem_cons, List.not_mem_nil, or_false] at hi
        subst hi
        refine stepK (o := ⟨some 127, _, _, _, _, _⟩) rfl (fun K hK => ?_)
        go_simp
        refine (HAP.out _ hS).mono ?_
        intro e y3 hap
        obtain ⟨VA, vn, vcp, vlast, vsb, vpb, vparts, VE, ven, vec, vev, rfl, hv, lc⟩ := hap.v (Later.size hS)
        have HV := Lib.hid hv
        replace hS : (fun W : World => Later wc W) y3 := Later.trans hS lc
        have HA := Lib.hid (HA.out.later lc)
        have HB := Lib.hid (HB.out.later lc)
        refine hK _ _ hS fun wq hwq => ?_
        subst hwq
        clear hK hap hv lc
        (try simp only [Act.put, List.setIfInBounds_toArray, List.set_cons_zero, List.set_cons_succ])
        refine wpAnyK_take (fun _ => rfl) (fun _ _ _ h k => h.trans k) (fun _ _ h k => k ▸ h) (i := 6) (oi := ⟨some 121, _, _, _, _, _⟩) (v := ?_) rfl (by kernel_rfl) (by kernel_rfl) (by kernel_rfl) (fun _ _ _ h => h) (Or.inl (Or.inl ⟨by rfl, ?_⟩)) hS ?_
        rotate_left
        focus ((intro w hSw; (try dsimp only at hSw); skip; go_simp); (try with_reducible rfl))
        intro wq hwq
        subst hwq
        (try simp only [Act.put, List.setIfInBounds_toArray, List.set_cons_zero, List.set_cons_succ])
        refine wpAnyK_take (fun _ => rfl) (fun _ _ _ h k => h.trans k) (fun _ _ h k => k ▸ h) (i := 7) (oi := ⟨some 128, _, _, _, _, _⟩) (v := ?_) rfl (by kernel_rfl) (by kernel_rfl) (by kernel_rfl) (fun _ _ _ h => h) (Or.inl (Or.inl ⟨by rfl, ?_⟩)) hS ?_
        rotate_left
        focus ((intro w hSw; (try dsimp only at hSw); skip; go_simp); (try with_reducible rfl))
        intro wq hwq
        subst hwq
        (try simp only [Act.put, List.setIfInBounds_toArray, List.set_cons_zero, List.set_cons_succ])
        refine wpAnyK_take (fun _ => rfl) (fun _ _ _ h k => h.trans k) (fun _ _ h k => k ▸ h) (i := 8) (oi := ⟨some 129, _, _, _, _, _⟩) (v := ?_) rfl (by kernel_rfl) (by kernel_rfl) (by kernel_rfl) (fun _ _ _ h => h) (Or.inl (Or.inl ⟨by rfl, ?_⟩)) hS ?_
        rotate_left
        focus ((intro w hSw; (try dsimp only at hSw); skip; go_simp); (try with_reducible rfl))
        intro wq hwq
        subst hwq
        (try simp only [Act.put, List.setIfInBounds_toArray, List.set_cons_zero, List.set_cons_succ])
        refine wpAnyK_take (fun _ => rfl) (fun _ _ _ h k => h.trans k) (fun _ _ h k => k ▸ h) (i := 9) (oi := ⟨some 130, _, _, _, _, _⟩) (v := ?_) rfl (by kernel_rfl) (by kernel_rfl) (by kernel_rfl) (fun _ _ _ h => h) (Or.inl (Or.inl ⟨by rfl, ?_⟩)) hS ?_
        rotate_left
        focus ((intro w hSw; (try dsimp only at hSw); skip; go_simp); (try with_reducible rfl))
        intro wq hwq
        subst hwq
        (try simp only [Act.put, List.setIfInBounds_toArray, List.set_cons_zero, List.set_cons_succ])
        have hab : ga ≠ gb := ne_typ HA.out HB.out (by decide)
        refine wpAnyK_all (rs := [12]) (by kernel_rfl) (by simp) (fun i hi => ?_)
        simp only [List.mem_cons, List.not_mem_nil, or_false] at hi
        subst hi
        refine stepK (o := ⟨none, _, _, _, _, _⟩) rfl (fun K hK => ?_)
        rw [if_pos (by rfl)]
        refine wp_store_mid 24 _ _ rfl ga 0 #[.slice VA vn vcp, .int .i64 vlast] rfl rfl (fun j hj => by rw [Nat.zero_add]; have hj2 : j < 2 := hj; exact ⟨by rw [cell_of_row y3 ga j _ _ _ HA.out, Array.getElem?_eq_getElem (by exact hj2)]; rfl, HA.out.frozen j⟩) (by kernel_rfl) (by simp [Value.oneCell']) ?_
        have hA2 := Blk.fill zS [.slice VA vn vcp, .int .i64 vlast] HA.out rfl
        have hB2 := HB.out.aside hab.symm 0 [.slice VA vn vcp, .int .i64 vlast]
        have hV2 := HV.out.fill HA.out (by decide) (by decide) 0 [.slice VA vn vcp, .int .i64 vlast]
        have hS : (fun W : World => Later wc W) (y3.setCells ga 0 [.slice VA vn vcp, .int .i64 vlast]) := Later.fill hS HGA.out 0 _
        refine hK _ _ hS fun wq hwq => ?_
        obtain ⟨z1, hz1⟩ : ∃ x, y3.setCells ga 0 [.slice VA vn vcp, .int .i64 vlast] = x := ⟨_, rfl⟩
        rw [hz1] at hA2 hB2 hV2 hS
        have hz2 : z1 = wq := hz1.symm.trans hwq
        subst hz2
        clear hK hwq hz1
        (try simp only [Act.put])
        refine wpAnyK_all (rs := [13]) (by kernel_rfl) (by simp) (fun i hi => ?_)
        simp only [List.mem_cons, List.not_mem_nil, or_false] at hi
        subst hi
        refine stepK (o := ⟨none, _, _, _, _, _⟩) rfl (fun K hK => ?_)
        rw [if_pos (by rfl)]
        refine wp_store_mid 27 _ _ rfl gb 0 #[.int .i64 vsb, .int .i64 vpb, .int .i64 vparts, .slice VE ven vec] rfl rfl (fun j hj => by rw [Nat.zero_add]; have hj2 : j < 4 := hj; exact ⟨by rw [cell_of_row z1 gb j _ _ _ hB2, Array.getElem?_eq_getElem (by exact hj2)]; rfl, hB2.frozen j⟩) (by kernel_rfl) (by simp [Value.oneCell']) ?_
        have hB3 := Blk.fill zL [.int .i64 vsb, .int .i64 vpb, .int .i64 vparts, .slice VE ven vec] hB2 rfl
        have hA3 := hA2.aside hab 0 [.int .i64 vsb, .int .i64 vpb, .int .i64 vparts, .slice VE ven vec]
        have hV3 := hV2.fill hB2 (by decide) (by decide) 0 [.int .i64 vsb, .int .i64 vpb, .int .i64 vparts, .slice VE ven vec]
        have hS : (fun W : World => Later wc W) (z1.setCells gb 0 [.int .i64 vsb, .int .i64 vpb, .int .i64 vparts, .slice VE ven vec]) := Later.fill hS HGB.out 0 _
        refine hK _ _ hS fun wq hwq => ?_
        obtain ⟨z2, hz1⟩ : ∃ x, z1.setCells gb 0 [.int .i64 vsb, .int .i64 vpb, .int .i64 vparts, .slice VE ven vec] = x := ⟨_, rfl⟩
        rw [hz1] at hA3 hB3 hV3 hS
        have hz2 : z2 = wq := hz1.symm.trans hwq
        subst hz2
        clear hK hwq hz1 hA2 hB2 hV2
        (try simp only [Act.put])
        refine wpAnyK_take (fun _ => rfl) (fun _ _ _ h k => h.trans k) (fun _ _ h k => k ▸ h) (i := 14) (oi := ⟨some 17, _, _, _, _, _⟩) (v := ?_) rfl (by kernel_rfl) (by kernel_rfl) (by kernel_rfl) (fun _ _ _ h => h) (Or.inl (Or.inl ⟨by rfl, ?_⟩)) hS ?_
        rotate_left
        focus ((intro w hSw; (try dsimp only at hSw); skip; go_simp); (try with_reducible rfl))
        intro wq hwq
        subst hwq
        (try simp only [Act.put, List.setIfInBounds_toArray, List.set_cons_zero, List.set_cons_succ])
        refine wpAnyK_done (by kernel_rfl) ?_ _
        go_wp2_with fail
        go_meet
        exact ⟨ga, gb, VA, vn, vcp, vlast, vsb, vpb, vparts, VE, ven, vec, vev, rfl, rfl, rfl, hV3, hA3, hB3, hab, HGA.out, HGB.out, hS⟩
     case rest =>
      obtain ⟨g21, g22, A2, n2, cp2, last2, sb2, pb2, parts2, E2, en2, ec2, e2, rfl, rfl, rfl, hv2, _, _, _, _, _, lx2⟩ := hcut
      have he2 : e2 = 6 := hv2.err.trans sf_r2
      subst he2
      have HL2' := Lib.hid (HL1.out.trans lx2)
      clear hv2 lx2 HAP HQ9
      have e0 := (HD1.out.later HL2'.out).cell 0 _ rfl
      have e1 := (HD1.out.later HL2'.out).cell 1 _ rfl
      obtain ⟨h20, hh20⟩ : ∃ x, wc.heap.size = x := ⟨_, rfl⟩
      obtain ⟨w20, hw20⟩ : ∃ x, wc.alloc (.cells #[.slice (some ⟨g, 0, none⟩) 4 4, .int .i64 6] 24) = x := ⟨_, rfl⟩
      obtain ⟨w21, hw21⟩ : ∃ x, w20.setCell ⟨h20, 1, none⟩ (.int .i64 10000) = x := ⟨_, rfl⟩
      have b20 : Blk w20 h20 #[.slice (some ⟨g, 0, none⟩) 4 4, .int .i64 6] 24 := hw20 ▸ Blk.new _ _ _ _ hh20.symm
      have y1 := b20.cell 1 _ rfl
      have z1 := b20.frozen 1
      have HT21 := Lib.hid (show Blk w21 h20 #[.slice (some ⟨g, 0, none⟩) 4 4, .int .i64 10000] 24 from hw21 ▸ b20.set_ 1 _)
      have HL21 := Lib.hid (show Later _ w21 from hw21 ▸ Later.set_ (show Later _ w20 from hw20 ▸ HL2'.out.alloc _) (by have := HL2'.out.size; show _ ≤ h20; omega) _)
      clear b20
      have HQ9 := Lib.hid (fun (W : World) (l : Later w21 W) (j : Nat) (v : Value) (h : (chcells (sfL.getD 0 chz))[j]? = some v) => show W.cell? ⟨q + 3, 0 * 9 + j, none⟩ = some v from ((HPB.out.later HL21.out).later l).cell (0 * 9 + j) v (by rw [List.getElem?_toArray]; exact fch_at 0 (by decide) j v h))
      have HAP := Lib.hid (fun (W : World) (l : Later w21 W) => show Calls Tryd.prog 14 #[.agg #[.slice (some ⟨g, 0, none⟩) 4 4, .int .i64 10000], .agg #[.int .i64 1, .int .i64 3, .int .i64 2, .slice (some ⟨g + 2, 0, none⟩) 4 4], .agg #[.int .i64 1, .int .i64 0, .string ⟨#[110]⟩, .int .i64 4, .int .i64 4, .int .i64 0, .string ⟨#[118]⟩, .int .u8 0, .int .i64 0]] W (ApP sfT (sfL.getD 0 chz) W) from schApply_any (some ⟨g, 0, none⟩) (some ⟨g + 2, 0, none⟩) 4 4 sfT (sfL.getD 0 chz) W f (HS.out.later (HLW.out.trans (HL21.out.trans l))) (H3.out.later (HLW.out.trans (HL21.out.trans l))) (HE0.out.later (HL21.out.trans l)) (HE2.out.later (HL21.out.trans l)) (by decide) (by decide) sf_nm1 (sf_nm 0 (by decide)) (fun h => by cases h) (fun h => by cases h))
      go_upto_region 22 with fail
      go_cut [19, 20, 21] from 133 to 142 (fun pv qv ev wx => ResP sfT (sfL.getD 0 chz) w21 pv qv ev wx)
      case first => as_aux_lemma =>
       refine wp_region_K (S := (fun W : World => Later w21 W)) (R := fun a b => a = b) (fun _ => rfl) (by kernel_rfl) ?_
       obtain ⟨y0, hy0⟩ : ∃ x, w21.drew = x := ⟨_, rfl⟩
       have hS : (fun W : World => Later w21 W) y0 := hy0 ▸ (Later.refl w21).drew
       rw [hy0]
       clear hy0
       refine wpAnyK_take (fun _ => rfl) (fun _ _ _ h k => h.trans k) (fun _ _ h k => k ▸ h) (i := 0) (oi := ⟨some 134, _, _, _, _, _⟩) (v := ?_) rfl (by kernel_rfl) (by kernel_rfl) (by kernel_rfl) (fun _ _ _ h => h) (Or.inl (Or.inl ⟨by rfl, ?_⟩)) hS ?_
       rotate_left
       focus ((intro w hSw; (try dsimp only at hSw); have e0 := (HT21.out.later ((Later.refl _).trans hSw)).cell 0 _ rfl; have e1 := (HT21.out.later ((Later.refl _).trans hSw)).cell 1 _ rfl; have d0 := (HD3.out.later (HL21.out.trans hSw)).cell 0 _ rfl; have d1 := (HD3.out.later (HL21.out.trans hSw)).cell 1 _ rfl; have d2 := (HD3.out.later (HL21.out.trans hSw)).cell 2 _ rfl; have d3 := (HD3.out.later (HL21.out.trans hSw)).cell 3 _ rfl; have q0 := HQ9.out w hSw 0 _ rfl; have q1 := HQ9.out w hSw 1 _ rfl; have q2 := HQ9.out w hSw 2 _ rfl; have q3 := HQ9.out w hSw 3 _ rfl; have q4 := HQ9.out w hSw 4 _ rfl; have q5 := HQ9.out w hSw 5 _ rfl; have q6 := HQ9.out w hSw 6 _ rfl; have q7 := HQ9.out w hSw 7 _ rfl; have q8 := HQ9.out w hSw 8 _ rfl; (try simp only [Nat.reduceMul, Nat.reduceAdd] at q0 q1 q2 q3 q4 q5 q6 q7 q8); go_simp); (try with_reducible rfl))
       intro wq hwq
       subst hwq
       (try simp only [Act.put, List.setIfInBounds_toArray, List.set_cons_zero, List.set_cons_succ])
       refine wpAnyK_take (fun _ => rfl) (fun _ _ _ h k => h.trans k) (fun _ _ h k => k ▸ h) (i := 1) (oi := ⟨some 135, _, _, _, _, _⟩) (v := ?_) rfl (by kernel_rfl) (by kernel_rfl) (by kernel_rfl) (fun _ _ _ h => h) (Or.inl (Or.inl ⟨by rfl, ?_⟩)) hS ?_
       rotate_left
       focus ((intro w hSw; (try dsimp only at hSw); have e0 := (HT21.out.later ((Later.refl _).trans hSw)).cell 0 _ rfl; have e1 := (HT21.out.later ((Later.refl _).trans hSw)).cell 1 _ rfl; have d0 := (HD3.out.later (HL21.out.trans hSw)).cell 0 _ rfl; have d1 := (HD3.out.later (HL21.out.trans hSw)).cell 1 _ rfl; have d2 := (HD3.out.later (HL21.out.trans hSw)).cell 2 _ rfl; have d3 := (HD3.out.later (HL21.out.trans hSw)).cell 3 _ rfl; have q0 := HQ9.out w hSw 0 _ rfl; have q1 := HQ9.out w hSw 1 _ rfl; have q2 := HQ9.out w hSw 2 _ rfl; have q3 := HQ9.out w hSw 3 _ rfl; have q4 := HQ9.out w hSw 4 _ rfl; have q5 := HQ9.out w hSw 5 _ rfl; have q6 := HQ9.out w hSw 6 _ rfl; have q7 := HQ9.out w hSw 7 _ rfl; have q8 := HQ9.out w hSw 8 _ rfl; (try simp only [Nat.reduceMul, Nat.reduceAdd] at q0 q1 q2 q3 q4 q5 q6 q7 q8); go_simp); (try with_reducible rfl))
       intro wq hwq
       subst hwq
       (try simp only [Act.put, List.setIfInBounds_toArray, List.set_cons_zero, List.set_cons_succ])
       refine wpAnyK_take (fun _ => rfl) (fun _ _ _ h k => h.trans k) (fun _ _ h k => k ▸ h) (i := 2) (oi := ⟨some 136, _, _, _, _, _⟩) (v := ?_) rfl (by kernel_rfl) (by kernel_rfl) (by kernel_rfl) (fun _ _ _ h => h) (Or.inl (Or.inl ⟨by rfl, ?_⟩)) hS ?_
       rotate_left
       focus ((intro w hSw; (try dsimp only at hSw); have e0 := (HT21.out.later ((Later.refl _).trans hSw)).cell 0 _ rfl; have e1 := (HT21.out.later ((Later.refl _).trans hSw)).cell 1 _ rfl; have d0 := (HD3.out.later (HL21.out.trans hSw)).cell 0 _ rfl; have d1 := (HD3.out.later (HL21.out.trans hSw)).cell 1 _ rfl; have d2 := (HD3.out.later (HL21.out.trans hSw)).cell 2 _ rfl; have d3 := (HD3.out.later (HL21.out.trans hSw)).cell 3 _ rfl; have q0 := HQ9.out w hSw 0 _ rfl; have q1 := HQ9.out w hSw 1 _ rfl; have q2 := HQ9.out w hSw 2 _ rfl; have q3 := HQ9.out w hSw 3 _ rfl; have q4 := HQ9.out w hSw 4 _ rfl; have q5 := HQ9.out w hSw 5 _ rfl; have q6 := HQ9.out w hSw 6 _ rfl; have q7 := HQ9.out w hSw 7 _ rfl; have q8 := HQ9.out w hSw 8 _ rfl; (try simp only [Nat.reduceMul, Nat.reduceAdd] at q0 q1 q2 q3 q4 q5 q6 q7 q8); go_simp); (try with_reducible rfl))
       intro wq hwq
       subst hwq
       (try simp only [Act.put, List.setIfInBounds_toArray, List.set_cons_zero, List.set_cons_succ])
       refine wpAnyK_take (fun _ => rfl) (fun _ _ _ h k => h.trans k) (fun _ _ h k => k ▸ h) (i := 3) (oi := ⟨some 137, _, _, _, _, _⟩) (v := ?_) rfl (by kernel_rfl) (by kernel_rfl) (by kernel_rfl) (fun _ _ _ h => h) (Or.inl (Or.inl ⟨by rfl, ?_⟩)) hS ?_
       rotate_left
       focus ((intro w hSw; (try dsimp only at hSw); have e0 := (HT21.out.later ((Later.refl _).trans hSw)).cell 0 _ rfl; have e1 := (HT21.out.later ((Later.refl _).trans hSw)).cell 1 _ rfl; have d0 := (HD3.out.later (HL21.out.trans hSw)).cell 0 _ rfl; have d1 := (HD3.out.later (HL21.out.trans hSw)).cell 1 _ rfl; have d2 := (HD3.out.later (HL21.out.trans hSw)).cell 2 _ rfl; have d3 := (HD3.out.later (HL21.out.trans hSw)).cell 3 _ rfl; have q0 := HQ9.out w hSw 0 _ rfl; have q1 := HQ9.out w hSw 1 _ rfl; have q2 := HQ9.out w hSw 2 _ rfl; have q3 := HQ9.out w hSw 3 _ rfl; have q4 := HQ9.out w hSw 4 _ rfl; have q5 := HQ9.out w hSw 5 _ rfl; have q6 := HQ9.out w hSw 6 _ rfl; have q7 := HQ9.out w hSw 7 _ rfl; have q8 := HQ9.out w hSw 8 _ rfl; (try simp only [Nat.reduceMul, Nat.reduceAdd] at q0 q1 q2 q3 q4 q5 q6 q7 q8); go_simp); (try with_reducible rfl))
       intro wq hwq
       subst hwq
       (try simp only [Act.put, List.setIfInBounds_toArray, List.set_cons_zero, List.set_cons_succ])
       refine wpAnyK_take (fun _ => rfl) (fun _ _ _ h k => h.trans k) (fun _ _ h k => k ▸ h) (i := 4) (oi := ⟨some 138, _, _, _, _, _⟩) (v := ?_) rfl (by kernel_rfl) (by kernel_rfl) (by kernel_rfl) (fun _ _ _ h => h) (Or.inl (Or.inl ⟨by rfl, ?_⟩)) hS ?_
       rotate_left
       focus ((intro w hSw; (try dsimp only at hSw); have e0 := (HT21.out.later ((Later.refl _).trans hSw)).cell 0 _ rfl; have e1 := (HT21.out.later ((Later.refl _).trans hSw)).cell 1 _ rfl; have d0 := (HD3.out.later (HL21.out.trans hSw)).cell 0 _ rfl; have d1 := (HD3.out.later (HL21.out.trans hSw)).cell 1 _ rfl; have d2 := (HD3.out.later (HL21.out.trans hSw)).cell 2 _ rfl; have d3 := (HD3.out.later (HL21.out.trans hSw)).cell 3 _ rfl; have q0 := HQ9.out w hSw 0 _ rfl; have q1 := HQ9.out w hSw 1 _ rfl; have q2 := HQ9.out w hSw 2 _ rfl; have q3 := HQ9.out w hSw 3 _ rfl; have q4 := HQ9.out w hSw 4 _ rfl; have q5 := HQ9.out w hSw 5 _ rfl; have q6 := HQ9.out w hSw 6 _ rfl; have q7 := HQ9.out w hSw 7 _ rfl; have q8 := HQ9.out w hSw 8 _ rfl; (try simp only [Nat.reduceMul, Nat.reduceAdd] at q0 q1 q2 q3 q4 q5 q6 q7 q8); go_simp); (try with_reducible rfl))
       intro wq hwq
       subst hwq
       (try simp only [Act.put, List.setIfInBounds_toArray, List.set_cons_zero, List.set_cons_succ])
       refine wpAnyK_all (rs := [5, 10, 11]) (by kernel_rfl) (by simp) (fun i hi => ?_)
       simp only [List.mem_cons, List.not_mem_nil, or_false] at hi
       rcases hi with rfl | rfl | rfl
       ·
        refine stepK (o := ⟨some 139, _, _, _, _, _⟩) rfl (fun K hK => ?_)
        go_simp
        refine (HAP.out _ hS).mono ?_
        intro e y1 hap
        obtain ⟨VA, vn, vcp, vlast, vsb, vpb, vparts, VE, ven, vec, vev, rfl, hv, lc⟩ := hap.v (Later.size hS)
        have HV := Lib.hid hv
        replace hS : (fun W : World => Later w21 W) y1 := Later.trans hS lc
        refine hK _ _ hS fun wq hwq => ?_
        subst hwq
        clear hK hap hv lc
        (try simp only [Act.put, List.setIfInBounds_toArray, List.set_cons_zero, List.set_cons_succ])
        refine wpAnyK_take (fun _ => rfl) (fun _ _ _ h k => h.trans k) (fun _ _ h k => k ▸ h) (i := 6) (oi := ⟨some 133, _, _, _, _, _⟩) (v := ?_) rfl (by kernel_rfl) (by kernel_rfl) (by kernel_rfl) (fun _ _ _ h => h) (Or.inl (Or.inl ⟨by rfl, ?_⟩)) hS ?_
        rotate_left
        focus ((intro w hSw; (try dsimp only at hSw); skip; go_simp); (try with_reducible rfl))
        intro wq hwq
        subst hwq
        (try simp only [Act.put, List.setIfInBounds_toArray, List.set_cons_zero, List.set_cons_succ])
        refine wpAnyK_take (fun _ => rfl) (fun _ _ _ h k => h.trans k) (fun _ _ h k => k ▸ h) (i := 7) (oi := ⟨some 140, _, _, _, _, _⟩) (v := ?_) rfl (by kernel_rfl) (by kernel_rfl) (by kernel_rfl) (fun _ _ _ h => h) (Or.inl (Or.inl ⟨by rfl, ?_⟩)) hS ?_
        rotate_left
        focus ((intro w hSw; (try dsimp only at hSw); skip; go_simp); (try with_reducible rfl))
        intro wq hwq
        subst hwq
        (try simp only [Act.put, List.setIfInBounds_toArray, List.set_cons_zero, List.set_cons_succ])
        refine wpAnyK_take (fun _ => rfl) (fun _ _ _ h k => h.trans k) (fun _ _ h k => k ▸ h) (i := 8) (oi := ⟨some 141, _, _, _, _, _⟩) (v := ?_) rfl (by kernel_rfl) (by kernel_rfl) (by kernel_rfl) (fun _ _ _ h => h) (Or.inl (Or.inl ⟨by rfl, ?_⟩)) hS ?_
        rotate_left
        focus ((intro w hSw; (try dsimp only at hSw); skip; go_simp); (try with_reducible rfl))
        intro wq hwq
        subst hwq
        (try simp only [Act.put, List.setIfInBounds_toArray, List.set_cons_zero, List.set_cons_succ])
        refine wpAnyK_take (fun _ => rfl) (fun _ _ _ h k => h.trans k) (fun _ _ h k => k ▸ h) (i := 9) (oi := ⟨some 142, _, _, _, _, _⟩) (v := ?_) rfl (by kernel_rfl) (by kernel_rfl) (by kernel_rfl) (fun _ _ _ h => h) (Or.inl (Or.inl ⟨by rfl, ?_⟩)) hS ?_
        rotate_left
        focus ((intro w hSw; (try dsimp only at hSw); skip; go_simp); (try with_reducible rfl))
        intro wq hwq
        subst hwq
        (try simp only [Act.put, List.setIfInBounds_toArray, List.set_cons_zero, List.set_cons_succ])
        refine wpAnyK_all (rs := [10, 11]) (by kernel_rfl) (by simp) (fun i hi => ?_)
        simp only [List.mem_cons, List.not_mem_nil, or_false] at hi
        rcases hi with rfl | rfl
        ·
         refine stepK (o := ⟨some 19, _, _, _, _, _⟩) rfl (fun K hK => ?_)
         go_simp
         obtain ⟨ga, hgg⟩ : ∃ x, y1.heap.size = x := ⟨_, rfl⟩
         obtain ⟨y2, hyy⟩ : ∃ x, y1.alloc (.cells zS.toArray 24) = x := ⟨_, rfl⟩
         have lc : Later y1 y2 := hyy ▸ Later.new _ _
         have HA := Lib.hid (show Blk y2 ga zS.toArray 24 from hyy ▸ Blk.new _ _ _ _ hgg.symm)
         have HGA := Lib.hid (show w21.heap.size ≤ ga from hgg ▸ Later.size hS)
         replace hS : (fun W : World => Later w21 W) y2 := Later.trans hS lc
         have HV := Lib.hid (HV.out.later lc)
         try rw [hgg]
         unfold zS at hyy
         rw [hyy]
         refine hK _ _ hS fun wq hwq => ?_
         subst hwq
         clear hK lc hyy hgg
         (try simp only [Act.put, List.setIfInBounds_toArray, List.set_cons_zero, List.set_cons_succ])
         refine wpAnyK_all (rs := [11]) (by kernel_rfl) (by simp) (fun i hi => ?_)
         simp only [List.mem_cons, List.not_mem_nil, or_false] at hi
         subst hi
         refine stepK (o := ⟨some 20, _, _, _, _, _⟩) rfl (fun K hK => ?_)
         go_simp
         obtain ⟨gb, hgg⟩ : ∃ x, y2.heap.size = x := ⟨_, rfl⟩
         obtain ⟨y3, hyy⟩ : ∃ x, y2.alloc (.cells zL.toArray 27) = x := ⟨_, rfl⟩
         have lc : Later y2 y3 := hyy ▸ Later.new _ _
         have HB := Lib.hid (show Blk y3 gb zL.toArray 27 from hyy ▸ Blk.new _ _ _ _ hgg.symm)
         have HGB := Lib.hid (show w21.heap.size ≤ gb from hgg ▸ Later.size hS)
         replace hS : (fun W : World => Later w21 W) y3 := Later.trans hS lc
         have HV := Lib.hid (HV.out.later lc)
         have HA := Lib.hid (HA.out.later lc)
         try rw [hgg]
         unfold zL at hyy
         rw [hyy]
         refine hK _ _ hS fun wq hwq => ?_
         subst hwq
         clear hK lc hyy hgg
         (try simp only [Act.put, List.setIfInBounds_toArray, List.set_cons_zero, List.set_cons_succ])
         have hab : ga ≠ gb := ne_typ HA.out HB.out (by decide)
         refine wpAnyK_all (rs := [12]) (by kernel_rfl) (by simp) (fun i hi => ?_)
         simp only [List.mem_cons, List.not_mem_nil, or_false] at hi
         subst hi
         refine stepK (o := ⟨none, _, _, _, _, _⟩) rfl (fun K hK => ?_)
         rw [if_pos (by rfl)]
         refine wp_store_mid 24 _ _ rfl ga 0 #[.slice VA vn vcp, .int .i64 vlast] rfl rfl (fun j hj => by rw [Nat.zero_add]; have hj2 : j < 2 := hj; exact ⟨by rw [cell_of_row y3 ga j _ _ _ HA.out, Array.getElem?_eq_getElem (by exact hj2)]; rfl, HA.out.frozen j⟩) (by kernel_rfl) (by simp [Value.oneCell']) ?_
         have hA2 := Blk.fill zS [.slice VA vn vcp, .int .i64 vlast] HA.out rfl
         have hB2 := HB.out.aside hab.symm 0 [.slice VA vn vcp, .int .i64 vlast]
         have hV2 := HV.out.fill HA.out (by decide) (by decide) 0 [.slice VA vn vcp, .int .i64 vlast]
         have hS : (fun W : World => Later w21 W) (y3.setCells ga 0 [.slice VA vn vcp, .int .i64 vlast]) := Later.fill hS HGA.out 0 _
         refine hK _ _ hS fun wq hwq => ?_
         obtain ⟨z1, hz1⟩ : ∃ x, y3.setCells ga 0 [.slice VA vn vcp, .int .i64 vlast] = x := ⟨_, rfl⟩
         rw [hz1] at hA2 hB2 hV2 hS
         have hz2 : z1 = wq := hz1.symm.trans hwq
         subst hz2
         clear hK hwq hz1
         (try simp only [Act.put])
         refine wpAnyK_all (rs := [13]) (by kernel_rfl) (by simp) (fun i hi => ?_)
         simp only [List.mem_cons, List.not_mem_nil, or_false] at hi
         subst hi
         refine stepK (o := ⟨none, _, _, _, _, _⟩) rfl (fun K hK => ?_)
         rw [if_pos (by rfl)]
         refine wp_store_mid 27 _ _ rfl gb 0 #[.int .i64 vsb, .int .i64 vpb, .int .i64 vparts, .slice VE ven vec] rfl rfl (fun j hj => by rw [Nat.zero_add]; have hj2 : j < 4 := hj; exact ⟨by rw [cell_of_row z1 gb j _ _ _ hB2, Array.getElem?_eq_getElem (by exact hj2)]; rfl, hB2.frozen j⟩) (by kernel_rfl) (by simp [Value.oneCell']) ?_
         have hB3 := Blk.fill zL [.int .i64 vsb, .int .i64 vpb, .int .i64 vparts, .slice VE ven vec] hB2 rfl
         have hA3 := hA2.aside hab 0 [.int .i64 vsb, .int .i64 vpb, .int .i64 vparts, .slice VE ven vec]
         have hV3 := hV2.fill hB2 (by decide) (by decide) 0 [.int .i64 vsb, .int .i64 vpb, .int .i64 vparts, .slice VE ven vec]
         have hS : (fun W : World => Later w21 W) (z1.setCells gb 0 [.int .i64 vsb, .int .i64 vpb, .int .i64 vparts, .slice VE ven vec]) := Later.fill hS HGB.out 0 _
         refine hK _ _ hS fun wq hwq => ?_
         obtain ⟨z2, hz1⟩ : ∃ x, z1.setCells gb 0 [.int .i64 vsb, .int .i64 vpb, .int .i64 vparts, .slice VE ven vec] = x := ⟨_, rfl⟩
         rw [hz1] at hA3 hB3 hV3 hS
         have hz2 : z2 = wq := hz1.symm.trans hwq
         subst hz2
         clear hK hwq hz1 hA2 hB2 hV2
         (try simp only [Act.put])
         refine wpAnyK_take (fun _ => rfl) (fun _ _ _ h k => h.trans k) (fun _ _ h k => k ▸ h) (i := 14) (oi := ⟨some 21, _, _, _, _, _⟩) (v := ?_) rfl (by kernel_rfl) (by kernel_rfl) (by kernel_rfl) (fun _ _ _ h => h) (Or.inl (Or.inl ⟨by rfl, ?_⟩)) hS ?_
         rotate_left
         focus ((intro w hSw; (try dsimp only at hSw); skip; go_simp); (try with_reducible rfl))
         intro wq hwq
         subst hwq
         (try simp only [Act.put, List.setIfInBounds_toArray, List.set_cons_zero, List.set_cons_succ])
         refine wpAnyK_done (by kernel_rfl) ?_ _
         go_wp2_with fail
         go_meet
         exact ⟨ga, gb, VA, vn, vcp, vlast, vsb, vpb, vparts, VE, ven, vec, vev, rfl, rfl, rfl, hV3, hA3, hB3, hab, HGA.out, HGB.out, hS⟩
        ·
         refine stepK (o := ⟨some 20, _, _, _, _, _⟩) rfl (fun K hK => ?_)
         go_simp
         obtain ⟨gb, hgg⟩ : ∃ x, y1.heap.size = x := ⟨_, rfl⟩
         obtain ⟨y2, hyy⟩ : ∃ x, y1.alloc (.cells zL.toArray 27) = x := ⟨_, rfl⟩
         have lc : Later y1 y2 := hyy ▸ Later.new _ _
         have HB := Lib.hid (show Blk y2 gb zL.toArray 27 from hyy ▸ Blk.new _ _ _ _ hgg.symm)
         have HGB := Lib.hid (show w21.heap.size ≤ gb from hgg ▸ Later.size hS)
         replace hS : (fun W : World => Later w21 W) y2 := Later.trans hS lc
         have HV := Lib.hid (HV.out.later lc)
         try rw [hgg]
         unfold zL at hyy
         rw [hyy]
         refine hK _ _ hS fun wq hwq => ?_
         subst hwq
         clear hK lc hyy hgg
         (try simp only [Act.put, List.setIfInBounds_toArray, List.set_cons_zero, List.set_cons_succ])
         refine wpAnyK_all (rs := [10]) (by kernel_rfl) (by simp) (fun i hi => ?_)
         simp only [List.mem_cons, List.not_mem_nil, or_false] at hi
         subst hi
         refine stepK (o := ⟨some 19, _, _, _, _, _⟩) rfl (fun K hK => ?_)
         go_simp
         obtain ⟨ga, hgg⟩ : ∃ x, y2.heap.size = x := ⟨_, rfl⟩
         obtain ⟨y3, hyy⟩ : ∃ x, y2.alloc (.cells zS.toArray 24) = x := ⟨_, rfl⟩
         have lc : Later y2 y3 := hyy ▸ Later.new _ _
         have HA := Lib.hid (show Blk y3 ga zS.toArray 24 from hyy ▸ Blk.new _ _ _ _ hgg.symm)
         have HGA := Lib.hid (show w21.heap.size ≤ ga from hgg ▸ Later.size hS)
         replace hS : (fun W : World => Later w21 W) y3 := Later.trans hS lc
         have HV := Lib.hid (HV.out.later lc)
         have HB := Lib.hid (HB.out.later lc)
         try rw [hgg]
         unfold zS at hyy
         rw [hyy]
         refine hK _ _ hS fun wq hwq => ?_
         subst hwq
         clear hK lc hyy hgg
         (try simp only [Act.put, List.setIfInBounds_toArray, List.set_cons_zero, List.set_cons_succ])
         have hab : ga ≠ gb := ne_typ HA.out HB.out (by decide)
         refine wpAnyK_all (rs := [12]) (by kernel_rfl) (by simp) (fun i hi => ?_)
         simp only [List.mem_cons, List.not_mem_nil, or_false] at hi
         subst hi
         refine stepK (o := ⟨none, _, _, _, _, _⟩) rfl (fun K hK => ?_)
         rw [if_pos (by rfl)]
         refine wp_store_mid 24 _ _ rfl ga 0 #[.slice VA vn vcp, .int .i64 vlast] rfl rfl (fun j hj => by rw [Nat.zero_add]; have hj2 : j < 2 := hj; exact ⟨by rw [cell_of_row y3 ga j _ _ _ HA.out, Array.getElem?_eq_getElem (by exact hj2)]; rfl, HA.out.frozen j⟩) (by kernel_rfl) (by simp [Value.oneCell']) ?_
         have hA2 := Blk.fill zS [.slice VA vn vcp, .int .i64 vlast] HA.out rfl
         have hB2 := HB.out.aside hab.symm 0 [.slice VA vn vcp, .int .i64 vlast]
         have hV2 := HV.out.fill HA.out (by decide) (by decide) 0 [.slice VA vn vcp, .int .i64 vlast]
         have hS : (fun W : World => Later w21 W) (y3.setCells ga 0 [.slice VA vn vcp, .int .i64 vlast]) := Later.fill hS HGA.out 0 _
         refine hK _ _ hS fun wq hwq => ?_
         obtain ⟨z1, hz1⟩ : ∃ x, y3.setCells ga 0 [.slice VA vn vcp, .int .i64 vlast] = x := ⟨_, rfl⟩
         rw [hz1] at hA2 hB2 hV2 hS
         have hz2 : z1 = wq := hz1.symm.trans hwq
         subst hz2
         clear hK hwq hz1
         (try simp only [Act.put])
         refine wpAnyK_all (rs := [13]) (by kernel_rfl) (by simp) (fun i hi => ?_)
         simp only [List.mem_cons, List.not_mem_nil, or_false] at hi
         subst hi
         refine stepK (o := ⟨none, _, _, _, _, _⟩) rfl (fun K hK => ?_)
         rw [if_pos (by rfl)]
         refine wp_store_mid 27 _ _ rfl gb 0 #[.int .i64 vsb, .int .i64 vpb, .int .i64 vparts, .slice VE ven vec] rfl rfl (fun j hj => by rw [Nat.zero_add]; have hj2 : j < 4 := hj; exact ⟨by rw [cell_of_row z1 gb j _ _ _ hB2, Array.getElem?_eq_getElem (by exact hj2)]; rfl, hB2.frozen j⟩) (by kernel_rfl) (by simp [Value.oneCell']) ?_
         have hB3 := Blk.fill zL [.int .i64 vsb, .int .i64 vpb, .int .i64 vparts, .slice VE ven vec] hB2 rfl
         have hA3 := hA2.aside hab 0 [.int .i64 vsb, .int .i64 vpb, .int .i64 vparts, .slice VE ven vec]
         have hV3 := hV2.fill hB2 (by decide) (by decide) 0 [.int .i64 vsb, .int .i64 vpb, .int .i64 vparts, .slice VE ven vec]
         have hS : (fun W : World => Later w21 W) (z1.setCells gb 0 [.int .i64 vsb, .int .i64 vpb, .int .i64 vparts, .slice VE ven vec]) := Later.fill hS HGB.out 0 _
         refine hK _ _ hS fun wq hwq => ?_
         obtain ⟨z2, hz1⟩ : ∃ x, z1.setCells gb 0 [.int .i64 vsb, .int .i64 vpb, .int .i64 vparts, .slice VE ven vec] = x := ⟨_, rfl⟩
         rw [hz1] at hA3 hB3 hV3 hS
         have hz2 : z2 = wq := hz1.symm.trans hwq
         subst hz2
         clear hK hwq hz1 hA2 hB2 hV2
         (try simp only [Act.put])
         refine wpAnyK_take (fun _ => rfl) (fun _ _ _ h k => h.trans k) (fun _ _ h k => k ▸ h) (i := 14) (oi := ⟨some 21, _, _, _, _, _⟩) (v := ?_) rfl (by kernel_rfl) (by kernel_rfl) (by kernel_rfl) (fun _ _ _ h => h) (Or.inl (Or.inl ⟨by rfl, ?_⟩)) hS ?_
         rotate_left
         focus ((intro w hSw; (try dsimp only at hSw); skip; go_simp); (try with_reducible rfl))
         intro wq hwq
         subst hwq
         (try simp only [Act.put, List.setIfInBounds_toArray, List.set_cons_zero, List.set_cons_succ])
         refine wpAnyK_done (by kernel_rfl) ?_ _
         go_wp2_with fail
         go_meet
         exact ⟨ga, gb, VA, vn, vcp, vlast, vsb, vpb, vparts, VE, ven, vec, vev, rfl, rfl, rfl, hV3, hA3, hB3, hab, HGA.out, HGB.out, hS⟩
       ·
        refine stepK (o := ⟨some 19, _, _, _, _, _⟩) rfl (fun K hK => ?_)
        go_simp
        obtain ⟨ga, hgg⟩ : ∃ x, y0.heap.size = x := ⟨_, rfl⟩
        obtain ⟨y1, hyy⟩ : ∃ x, y0.alloc (.cells zS.toArray 24) = x := ⟨_, rfl⟩
        have lc : Later y0 y1 := hyy ▸ Later.new _ _
        have HA := Lib.hid (show Blk y1 ga zS.toArray 24 from hyy ▸ Blk.new _ _ _ _ hgg.symm)
        have HGA := Lib.hid (show w21.heap.size ≤ ga from hgg ▸ Later.size hS)
        replace hS : (fun W : World => Later w21 W) y1 := Later.trans hS lc
        try rw [hgg]
        unfold zS at hyy
        rw [hyy]
        refine hK _ _ hS fun wq hwq => ?_
        subst hwq
        clear hK lc hyy hgg
        (try simp only [Act.put, List.setIfInBounds_toArray, List.set_cons_zero, List.set_cons_succ])
        refine wpAnyK_all (rs := [5, 11]) (by kernel_rfl) (by simp) (fun i hi => ?_)
        simp only [List.mem_cons, List.not_mem_nil, or_false] at hi
        rcases hi with rfl | rfl
        ·
         refine stepK (o := ⟨some 139, _, _, _, _, _⟩) rfl (fun K hK => ?_)
         go_simp
         refine (HAP.out _ hS).mono ?_
         intro e y2 hap
         obtain ⟨VA, vn, vcp, vlast, vsb, vpb, vparts, VE, ven, vec, vev, rfl, hv, lc⟩ := hap.v (Later.size hS)
         have HV := Lib.hid hv
         replace hS : (fun W : World => Later w21 W) y2 := Later.trans hS lc
         have HA := Lib.hid (HA.out.later lc)
         refine hK _ _ hS fun wq hwq => ?_
         subst hwq
         clear hK hap hv lc
         (try simp only [Act.put, List.setIfInBounds_toArray, List.set_cons_zero, List.set_cons_succ])
         refine wpAnyK_take (fun _ => rfl) (fun _ _ _ h k => h.trans k) (fun _ _ h k => k ▸ h) (i := 6) (oi := ⟨some 133, _, _, _, _, _⟩) (v := ?_) rfl (by kernel_rfl) (by kernel_rfl) (by kernel_rfl) (fun _ _ _ h => h) (Or.inl (Or.inl ⟨by rfl, ?_⟩)) hS ?_
         rotate_left
         focus ((intro w hSw; (try dsimp only at hSw); skip; go_simp); (try with_reducible rfl))
         intro wq hwq
         subst hwq
         (try simp only [Act.put, List.setIfInBounds_toArray, List.set_cons_zero, List.set_cons_succ])
         refine wpAnyK_take (fun _ => rfl) (fun _ _ _ h k => h.trans k) (fun _ _ h k => k ▸ h) (i := 7) (oi := ⟨some 140, _, _, _, _, _⟩) (v := ?_) rfl (by kernel_rfl) (by kernel_rfl) (by kernel_rfl) (fun _ _ _ h => h) (Or.inl (Or.inl ⟨by rfl, ?_⟩)) hS ?_
         rotate_left
         focus ((intro w hSw; (try dsimp only at hSw); skip; go_simp); (try with_reducible rfl))
         intro wq hwq
         subst hwq
         (try simp only [Act.put, List.setIfInBounds_toArray, List.set_cons_zero, List.set_cons_succ])
         refine wpAnyK_take (fun _ => rfl) (fun _ _ _ h k => h.trans k) (fun _ _ h k => k ▸ h) (i := 8) (oi := ⟨some 141, _, _, _, _, _⟩) (v := ?_) rfl (by kernel_rfl) (by kernel_rfl) (by kernel_rfl) (fun _ _ _ h => h) (Or.inl (Or.inl ⟨by rfl, ?_⟩)) hS ?_
         rotate_left
         focus ((intro w hSw; (try dsimp only at hSw); skip; go_simp); (try with_reducible rfl))
         intro wq hwq
         subst hwq
         (try simp only [Act.put, List.setIfInBounds_toArray, List.set_cons_zero, List.set_cons_succ])
         refine wpAnyK_take (fun _ => rfl) (fun _ _ _ h k => h.trans k) (fun _ _ h k => k ▸ h) (i := 9) (oi := ⟨some 142, _, _, _, _, _⟩) (v := ?_) rfl (by kernel_rfl) (by kernel_rfl) (by kernel_rfl) (fun _ _ _ h => h) (Or.inl (Or.inl ⟨by rfl, ?_⟩)) hS ?_
         rotate_left
         focus ((intro w hSw; (try dsimp only at hSw); skip; go_simp); (try with_reducible rfl))
         intro wq hwq
         subst hwq
         (try simp only [Act.put, List.setIfInBounds_toArray, List.set_cons_zero, List.set_cons_succ])
         refine wpAnyK_all (rs := [11]) (by kernel_rfl) (by simp) (fun i hi => ?_)
         simp only [List.mem_cons, List.not_mem_nil, or_false] at hi
         subst hi
         refine stepK (o := ⟨some 20, _, _, _, _, _⟩) rfl (fun K hK => ?_)
         go_simp
         obtain ⟨gb, hgg⟩ : ∃ x, y2.heap.size = x := ⟨_, rfl⟩
         obtain ⟨y3, hyy⟩ : ∃ x, y2.alloc (.cells zL.toArray 27) = x := ⟨_, rfl⟩
         have lc : Later y2 y3 := hyy ▸ Later.new _ _
         have HB := Lib.hid (show Blk y3 gb zL.toArray 27 from hyy ▸ Blk.new _ _ _ _ hgg.symm)
         have HGB := Lib.hid (show w21.heap.size ≤ gb from hgg ▸ Later.size hS)
         replace hS : (fun W : World => Later w21 W) y3 := Later.trans hS lc
         have HV := Lib.hid (HV.out.later lc)
         have HA := Lib.hid (HA.out.later lc)
         try rw [hgg]
         unfold zL at hyy
         rw [hyy]
         refine hK _ _ hS fun wq hwq => ?_
         subst hwq
         clear hK lc hyy hgg
         (try simp only [Act.put, List.setIfInBounds_toArray, List.set_cons_zero, List.set_cons_succ])
         have hab : ga ≠ gb := ne_typ HA.out HB.out (by decide)
         refine wpAnyK_all (rs := [12]) (by kernel_rfl) (by simp) (fun i hi => ?_)
         simp only [List.mem_cons, List.not_mem_nil, or_false] at hi
         subst hi
         refine stepK (o := ⟨none, _, _, _, _, _⟩) rfl (fun K hK => ?_)
         rw [if_pos (by rfl)]
         refine wp_store_mid 24 _ _ rfl ga 0 #[.slice VA vn vcp, .int .i64 vlast] rfl rfl (fun j hj => by rw [Nat.zero_add]; have hj2 : j < 2 := hj; exact ⟨by rw [cell_of_row y3 ga j _ _ _ HA.out, Array.getElem?_eq_getElem (by exact hj2)]; rfl, HA.out.frozen j⟩) (by kernel_rfl) (by simp [Value.oneCell']) ?_
         have hA2 := Blk.fill zS [.slice VA vn vcp, .int .i64 vlast] HA.out rfl
         have hB2 := HB.out.aside hab.symm 0 [.slice VA vn vcp, .int .i64 vlast]
         have hV2 := HV.out.fill HA.out (by decide) (by decide) 0 [.slice VA vn vcp, .int .i64 vlast]
         have hS : (fun W : World => Later w21 W) (y3.setCells ga 0 [.slice VA vn vcp, .int .i64 vlast]) := Later.fill hS HGA.out 0 _
         refine hK _ _ hS fun wq hwq => ?_
         obtain ⟨z1, hz1⟩ : ∃ x, y3.setCells ga 0 [.slice VA vn vcp, .int .i64 vlast] = x := ⟨_, rfl⟩
         rw [hz1] at hA2 hB2 hV2 hS
         have hz2 : z1 = wq := hz1.symm.trans hwq
         subst hz2
         clear hK hwq hz1
         (try simp only [Act.put])
         refine wpAnyK_all (rs := [13]) (by kernel_rfl) (by simp) (fun i hi => ?_)
         simp only [List.mem_cons, List.not_mem_nil, or_false] at hi
         subst hi
         refine stepK (o := ⟨none, _, _, _, _, _⟩) rfl (fun K hK => ?_)
         rw [if_pos (by rfl)]
         refine wp_store_mid 27 _ _ rfl gb 0 #[.int .i64 vsb, .int .i64 vpb, .int .i64 vparts, .slice VE ven vec] rfl rfl (fun j hj => by rw [Nat.zero_add]; have hj2 : j < 4 := hj; exact ⟨by rw [cell_of_row z1 gb j _ _ _ hB2, Array.getElem?_eq_getElem (by exact hj2)]; rfl, hB2.frozen j⟩) (by kernel_rfl) (by simp [Value.oneCell']) ?_
         have hB3 := Blk.fill zL [.int .i64 vsb, .int .i64 vpb, .int .i64 vparts, .slice VE ven vec] hB2 rfl
         have hA3 := hA2.aside hab 0 [.int .i64 vsb, .int .i64 vpb, .int .i64 vparts, .slice VE ven vec]
         have hV3 := hV2.fill hB2 (by decide) (by decide) 0 [.int .i64 vsb, .int .i64 vpb, .int .i64 vparts, .slice VE ven vec]
         have hS : (fun W : World => Later w21 W) (z1.setCells gb 0 [.int .i64 vsb, .int .i64 vpb, .int .i64 vparts, .slice VE ven vec]) := Later.fill hS HGB.out 0 _
         refine hK _ _ hS fun wq hwq => ?_
         obtain ⟨z2, hz1⟩ : ∃ x, z1.setCells gb 0 [.int .i64 vsb, .int .i64 vpb, .int .i64 vparts, .slice VE ven vec] = x := ⟨_, rfl⟩
         rw [hz1] at hA3 hB3 hV3 hS
         have hz2 : z2 = wq := hz1.symm.trans hwq
         subst hz2
         clear hK hwq hz1 hA2 hB2 hV2
         (try simp only [Act.put])
         refine wpAnyK_take (fun _ => rfl) (fun _ _ _ h k => h.trans k) (fun _ _ h k => k ▸ h) (i := 14) (oi := ⟨some 21, _, _, _, _, _⟩) (v := ?_) rfl (by kernel_rfl) (by kernel_rfl) (by kernel_rfl) (fun _ _ _ h => h) (Or.inl (Or.inl ⟨by rfl, ?_⟩)) hS ?_
         rotate_left
         focus ((intro w hSw; (try dsimp only at hSw); skip; go_simp); (try with_reducible rfl))
         intro wq hwq
         subst hwq
         (try simp only [Act.put, List.setIfInBounds_toArray, List.set_cons_zero, List.set_cons_succ])
         refine wpAnyK_done (by kernel_rfl) ?_ _
         go_wp2_with fail
         go_meet
         exact ⟨ga, gb, VA, vn, vcp, vlast, vsb, vpb, vparts, VE, ven, vec, vev, rfl, rfl, rfl, hV3, hA3, hB3, hab, HGA.out, HGB.out, hS⟩
        ·
         refine stepK (o := ⟨some 20, _, _, _, _, _⟩) rfl (fun K hK => ?_)
         go_simp
         obtain ⟨gb, hgg⟩ : ∃ x, y1.heap.size = x := ⟨_, rfl⟩
         obtain ⟨y2, hyy⟩ : ∃ x, y1.alloc (.cells zL.toArray 27) = x := ⟨_, rfl⟩
         have lc : Later y1 y2 := hyy ▸ Later.new _ _
         have HB := Lib.hid (show Blk y2 gb zL.toArray 27 from hyy ▸ Blk.new _ _ _ _ hgg.symm)
         have HGB := Lib.hid (show w21.heap.size ≤ gb from hgg ▸ Later.size hS)
         replace hS : (fun W : World => Later w21 W) y2 := Later.trans hS lc
         have HA := Lib.hid (HA.out.later lc)
         try rw [hgg]
         unfold zL at hyy
         rw [hyy]
         refine hK _ _ hS fun wq hwq => ?_
         subst hwq
         clear hK lc hyy hgg
         (try simp only [Act.put, List.setIfInBounds_toArray, List.set_cons_zero, List.set_cons_succ])
         refine wpAnyK_all (rs := [5]) (by kernel_rfl) (by simp) (fun i hi => ?_)
         simp only [List.mem_cons, List.not_mem_nil, or_false] at hi
         subst hi
         refine stepK (o := ⟨some 139, _, _, _, _, _⟩) rfl (fun K hK => ?_)
         go_simp
         refine (HAP.out _ hS).mono ?_
         intro e y3 hap
         obtain ⟨VA, vn, vcp, vlast, vsb, vpb, vparts, VE, ven, vec, vev, rfl, hv, lc⟩ := hap.v (Later.size hS)
         have HV := Lib.hid hv
         replace hS : (fun W : World => Later w21 W) y3 := Later.trans hS lc
         have HA := Lib.hid (HA.out.later lc)
         have HB := Lib.hid (HB.out.later lc)
         refine hK _ _ hS fun wq hwq => ?_
         subst hwq
         clear hK hap hv lc
         (try simp only [Act.put, List.setIfInBounds_toArray, List.set_cons_zero, List.set_cons_succ])
         refine wpAnyK_take (fun _ => rfl) (fun _ _ _ h k => h.trans k) (fun _ _ h k => k ▸ h) (i := 6) (oi := ⟨some 133, _, _, _, _, _⟩) (v := ?_) rfl (by kernel_rfl) (by kernel_rfl) (by kernel_rfl) (fun _ _ _ h => h) (Or.inl (Or.inl ⟨by rfl, ?_⟩)) hS ?_
         rotate_left
         focus ((intro w hSw; (try dsimp only at hSw); skip; go_simp); (try with_reducible rfl))
         intro wq hwq
         subst hwq
         (try simp only [Act.put, List.setIfInBounds_toArray, List.set_cons_zero, List.set_cons_succ])
         refine wpAnyK_take (fun _ => rfl) (fun _ _ _ h k => h.trans k) (fun _ _ h k => k ▸ h) (i := 7) (oi := ⟨some 140, _, _, _, _, _⟩) (v := ?_) rfl (by kernel_rfl) (by kernel_rfl) (by kernel_rfl) (fun _ _ _ h => h) (Or.inl (Or.inl ⟨by rfl, ?_⟩)) hS ?_
         rotate_left
         focus ((intro w hSw; (try dsimp only at hSw); skip; go_simp); (try with_reducible rfl))
         intro wq hwq
         subst hwq
         (try simp only [Act.put, List.setIfInBounds_toArray, List.set_cons_zero, List.set_cons_succ])
         refine wpAnyK_take (fun _ => rfl) (fun _ _ _ h k => h.trans k) (fun _ _ h k => k ▸ h) (i := 8) (oi := ⟨some 141, _, _, _, _, _⟩) (v := ?_) rfl (by kernel_rfl) (by kernel_rfl) (by kernel_rfl) (fun _ _ _ h => h) (Or.inl (Or.inl ⟨by rfl, ?_⟩)) hS ?_
         rotate_left
         focus ((intro w hSw; (try dsimp only at hSw); skip; go_simp); (try with_reducible rfl))
         intro wq hwq
         subst hwq
         (try simp only [Act.put, List.setIfInBounds_toArray, List.set_cons_zero, List.set_cons_succ])
         refine wpAnyK_take (fun _ => rfl) (fun _ _ _ h k => h.trans k) (fun _ _ h k => k ▸ h) (i := 9) (oi := ⟨some 142, _, _, _, _, _⟩) (v := ?_) rfl (by kernel_rfl) (by kernel_rfl) (by kernel_rfl) (fun _ _ _ h => h) (Or.inl (Or.inl ⟨by rfl, ?_⟩)) hS ?_
         rotate_left
         focus ((intro w hSw; (try dsimp only at hSw); skip; go_simp); (try with_reducible rfl))
         intro wq hwq
         subst hwq
         (try simp only [Act.put, List.setIfInBounds_toArray, List.set_cons_zero, List.set_cons_succ])
         have hab : ga ≠ gb := ne_typ HA.out HB.out (by decide)
         refine wpAnyK_all (rs := [12]) (by kernel_rfl) (by simp) (fun i hi => ?_)
         simp only [List.mem_cons, List.not_mem_nil, or_false] at hi
         subst hi
         refine stepK (o := ⟨none, _, _, _, _, _⟩) rfl (fun K hK => ?_)
         rw [if_pos (by rfl)]
         refine wp_store_mid 24 _ _ rfl ga 0 #[.slice VA vn vcp, .int .i64 vlast] rfl rfl (fun j hj => by rw [Nat.zero_add]; have hj2 : j < 2 := hj; exact ⟨by rw [cell_of_row y3 ga j _ _ _ HA.out, Array.getElem?_eq_getElem (by exact hj2)]; rfl, HA.out.frozen j⟩) (by kernel_rfl) (by simp [Value.oneCell']) ?_
         have hA2 := Blk.fill zS [.slice VA vn vcp, .int .i64 vlast] HA.out rfl
         have hB2 := HB.out.aside hab.symm 0 [.slice VA vn vcp, .int .i64 vlast]
         have hV2 := HV.out.fill HA.out (by decide) (by decide) 0 [.slice VA vn vcp, .int .i64 vlast]
         have hS : (fun W : World => Later w21 W) (y3.setCells ga 0 [.slice VA vn vcp, .int .i64 vlast]) := Later.fill hS HGA.out 0 _
         refine hK _ _ hS fun wq hwq => ?_
         obtain ⟨z1, hz1⟩ : ∃ x, y3.setCells ga 0 [.slice VA vn vcp, .int .i64 vlast] = x := ⟨_, rfl⟩
         rw [hz1] at hA2 hB2 hV2 hS
         have hz2 : z1 = wq := hz1.symm.trans hwq
         subst hz2
         clear hK hwq hz1
         (try simp only [Act.put])
         refine wpAnyK_all (rs := [13]) (by kernel_rfl) (by simp) (fun i hi => ?_)
         simp only [List.mem_cons, List.not_mem_nil, or_false] at hi
         subst hi
         refine stepK (o := ⟨none, _, _, _, _, _⟩) rfl (fun K hK => ?_)
         rw [if_pos (by rfl)]
         refine wp_store_mid 27 _ _ rfl gb 0 #[.int .i64 vsb, .int .i64 vpb, .int .i64 vparts, .slice VE ven vec] rfl rfl (fun j hj => by rw [Nat.zero_add]; have hj2 : j < 4 := hj; exact ⟨by rw [cell_of_row z1 gb j _ _ _ hB2, Array.getElem?_eq_getElem (by exact hj2)]; rfl, hB2.frozen j⟩) (by kernel_rfl) (by simp [Value.oneCell']) ?_
         have hB3 := Blk.fill zL [.int .i64 vsb, .int .i64 vpb, .int .i64 vparts, .slice VE ven vec] hB2 rfl
         have hA3 := hA2.aside hab 0 [.int .i64 vsb, .int .i64 vpb, .int .i64 vparts, .slice VE ven vec]
         have hV3 := hV2.fill hB2 (by decide) (by decide) 0 [.int .i64 vsb, .int .i64 vpb, .int .i64 vparts, .slice VE ven vec]
         have hS : (fun W : World => Later w21 W) (z1.setCells gb 0 [.int .i64 vsb, .int .i64 vpb, .int .i64 vparts, .slice VE ven vec]) := Later.fill hS HGB.out 0 _
         refine hK _ _ hS fun wq hwq => ?_
         obtain ⟨z2, hz1⟩ : ∃ x, z1.setCells gb 0 [.int .i64 vsb, .int .i64 vpb, .int .i64 vparts, .slice VE ven vec] = x := ⟨_, rfl⟩
         rw [hz1] at hA3 hB3 hV3 hS
         have hz2 : z2 = wq := hz1.symm.trans hwq
         subst hz2
         clear hK hwq hz1 hA2 hB2 hV2
         (try simp only [Act.put])
         refine wpAnyK_take (fun _ => rfl) (fun _ _ _ h k => h.trans k) (fun _ _ h k => k ▸ h) (i := 14) (oi := ⟨some 21, _, _, _, _, _⟩) (v := ?_) rfl (by kernel_rfl) (by kernel_rfl) (by kernel_rfl) (fun _ _ _ h => h) (Or.inl (Or.inl ⟨by rfl, ?_⟩)) hS ?_
         rotate_left
         focus ((intro w hSw; (try dsimp only at hSw); skip; go_simp); (try with_reducible rfl))
         intro wq hwq
         subst hwq
         (try simp only [Act.put, List.setIfInBounds_toArray, List.set_cons_zero, List.set_cons_succ])
         refine wpAnyK_done (by kernel_rfl) ?_ _
         go_wp2_with fail
         go_meet
         exact ⟨ga, gb, VA, vn, vcp, vlast, vsb, vpb, vparts, VE, ven, vec, vev, rfl, rfl, rfl, hV3, hA3, hB3, hab, HGA.out, HGB.out, hS⟩
       ·
        refine stepK (o := ⟨some 20, _, _, _, _, _⟩) rfl (fun K hK => ?_)
        go_simp
        obtain ⟨gb, hgg⟩ : ∃ x, y0.heap.size = x := ⟨_, rfl⟩
        obtain ⟨y1, hyy⟩ : ∃ x, y0.alloc (.cells zL.toArray 27) = x := ⟨_, rfl⟩
        have lc : Later y0 y1 := hyy ▸ Later.new _ _
        have HB := Lib.hid (show Blk y1 gb zL.toArray 27 from hyy ▸ Blk.new _ _ _ _ hgg.symm)
        have HGB := Lib.hid (show w21.heap.size ≤ gb from hgg ▸ Later.size hS)
        replace hS : (fun W : World => Later w21 W) y1 := Later.trans hS lc
        try rw [hgg]
        unfold zL at hyy
        rw [hyy]
        refine hK _ _ hS fun wq hwq => ?_
        subst hwq
        clear hK lc hyy hgg
        (try simp only [Act.put, List.setIfInBounds_toArray, List.set_cons_zero, List.set_cons_succ])
        refine wpAnyK_all (rs := [5, 10]) (by kernel_rfl) (by simp) (fun i hi => ?_)
        simp only [List.mem_cons, List.not_mem_nil, or_false] at hi
        rcases hi with rfl | rfl
        ·
         refine stepK (o := ⟨some 139, _, _, _, _, _⟩) rfl (fun K hK => ?_)
         go_simp
         refine (HAP.out _ hS).mono ?_
         intro e y2 hap
         obtain ⟨VA, vn, vcp, vlast, vsb, vpb, vparts, VE, ven, vec, vev, rfl, hv, lc⟩ := hap.v (Later.size hS)
         have HV := Lib.hid hv
         replace hS : (fun W : World => Later w21 W) y2 := Later.trans hS lc
         have HB := Lib.hid (HB.out.later lc)
         refine hK _ _ hS fun wq hwq => ?_
         subst hwq
         clear hK hap hv lc
         (try simp only [Act.put, List.setIfInBounds_toArray, List.set_cons_zero, List.set_cons_succ])
         refine wpAnyK_take (fun _ => rfl) (fun _ _ _ h k => h.trans k) (fun _ _ h k => k ▸ h) (i := 6) (oi := ⟨some 133, _, _, _, _, _⟩) (v := ?_) rfl (by kernel_rfl) (by kernel_rfl) (by kernel_rfl) (fun _ _ _ h => h) (Or.inl (Or.inl ⟨by rfl, ?_⟩)) hS ?_
         rotate_left
         focus ((intro w hSw; (try dsimp only at hSw); skip; go_simp); (try with_reducible rfl))
         intro wq hwq
         subst hwq
         (try simp only [Act.put, List.setIfInBounds_toArray, List.set_cons_zero, List.set_cons_succ])
         refine wpAnyK_take (fun _ => rfl) (fun _ _ _ h k => h.trans k) (fun _ _ h k => k ▸ h) (i := 7) (oi := ⟨some 140, _, _, _, _, _⟩) (v := ?_) rfl (by kernel_rfl) (by kernel_rfl) (by kernel_rfl) (fun _ _ _ h => h) (Or.inl (Or.inl ⟨by rfl, ?_⟩)) hS ?_
         rotate_left
         focus ((intro w hSw; (try dsimp only at hSw); skip; go_simp); (try with_reducible rfl))
         intro wq hwq
         subst hwq
         (try simp only [Act.put, List.setIfInBounds_toArray, List.set_cons_zero, List.set_cons_succ])
         refine wpAnyK_take (fun _ => rfl) (fun _ _ _ h k => h.trans k) (fun _ _ h k => k ▸ h) (i := 8) (oi := ⟨some 141, _, _, _, _, _⟩) (v := ?_) rfl (by kernel_rfl) (by kernel_rfl) (by kernel_rfl) (fun _ _ _ h => h) (Or.inl (Or.inl ⟨by rfl, ?_⟩)) hS ?_
         rotate_left
         focus ((intro w hSw; (try dsimp only at hSw); skip; go_simp); (try with_reducible rfl))
         intro wq hwq
         subst hwq
         (try simp only [Act.put, List.setIfInBounds_toArray, List.set_cons_zero, List.set_cons_succ])
         refine wpAnyK_take (fun _ => rfl) (fun _ _ _ h k => h.trans k) (fun _ _ h k => k ▸ h) (i := 9) (oi := ⟨some 142, _, _, _, _, _⟩) (v := ?_) rfl (by kernel_rfl) (by kernel_rfl) (by kernel_rfl) (fun _ _ _ h => h) (Or.inl (Or.inl ⟨by rfl, ?_⟩)) hS ?_
         rotate_left
         focus ((intro w hSw; (try dsimp only at hSw); skip; go_simp); (try with_reducible rfl))
         intro wq hwq
         subst hwq
         (try simp only [Act.put, List.setIfInBounds_toArray, List.set_cons_zero, List.set_cons_succ])
         refine wpAnyK_all (rs := [10]) (by kernel_rfl) (by simp) (fun i hi => ?_)
         simp only [List.mem_cons, List.not_mem_nil, or_false] at hi
         subst hi
         refine stepK (o := ⟨some 19, _, _, _, _, _⟩) rfl (fun K hK => ?_)
         go_simp
         obtain ⟨ga, hgg⟩ : ∃ x, y2.heap.size = x := ⟨_, rfl⟩
         obtain ⟨y3, hyy⟩ : ∃ x, y2.alloc (.cells zS.toArray 24) = x := ⟨_, rfl⟩
         have lc : Later y2 y3 := hyy ▸ Later.new _ _
         have HA := Lib.hid (show Blk y3 ga zS.toArray 24 from hyy ▸ Blk.new _ _ _ _ hgg.symm)
         have HGA := Lib.hid (show w21.heap.size ≤ ga from hgg ▸ Later.size hS)
         replace hS : (fun W : World => Later w21 W) y3 := Later.trans hS lc
         have HV := Lib.hid (HV.out.later lc)
         have HB := Lib.hid (HB.out.later lc)
         try rw [hgg]
         unfold zS at hyy
         rw [hyy]
         refine hK _ _ hS fun wq hwq => ?_
         subst hwq
         clear hK lc hyy hgg
         (try simp only [Act.put, List.setIfInBounds_toArray, List.set_cons_zero, List.set_cons_succ])
         have hab : ga ≠ gb := ne_typ HA.out HB.out (by decide)
         refine wpAnyK_all (rs := [12]) (by kernel_rfl) (by simp) (fun i hi => ?_)
         simp only [List.mem_cons, List.not_mem_nil, or_false] at hi
         subst hi
         refine stepK (o := ⟨none, _, _, _, _, _⟩) rfl (fun K hK => ?_)
         rw [if_pos (by rfl)]
         refine wp_store_mid 24 _ _ rfl ga 0 #[.slice VA vn vcp, .int .i64 vlast] rfl rfl (fun j hj => by rw [Nat.zero_add]; have hj2 : j < 2 := hj; exact ⟨by rw [cell_of_row y3 ga j _ _ _ HA.out, Array.getElem?_eq_getElem (by exact hj2)]; rfl, HA.out.frozen j⟩) (by kernel_rfl) (by simp [Value.oneCell']) ?_
         have hA2 := Blk.fill zS [.slice VA vn vcp, .int .i64 vlast] HA.out rfl
         have hB2 := HB.out.aside hab.symm 0 [.slice VA vn vcp, .int .i64 vlast]
         have hV2 := HV.out.fill HA.out (by decide) (by decide) 0 [.slice VA vn vcp, .int .i64 vlast]
         have hS : (fun W : World => Later w21 W) (y3.setCells ga 0 [.slice VA vn vcp, .int .i64 vlast]) := Later.fill hS HGA.out 0 _
         refine hK _ _ hS fun wq hwq => ?_
         obtain ⟨z1, hz1⟩ : ∃ x, y3.setCells ga 0 [.slice VA vn vcp, .int .i64 vlast] = x := ⟨_, rfl⟩
         rw [hz1] at hA2 hB2 hV2 hS
         have hz2 : z1 = wq := hz1.symm.trans hwq
         subst hz2
         clear hK hwq hz1
         (try simp only [Act.put])
         refine wpAnyK_all (rs := [13]) (by kernel_rfl) (by simp) (fun i hi => ?_)
         simp only [List.mem_cons, List.not_mem_nil, or_false] at hi
         subst hi
         refine stepK (o := ⟨none, _, _, _, _, _⟩) rfl (fun K hK => ?_)
         rw [if_pos (by rfl)]
         refine wp_store_mid 27 _ _ rfl gb 0 #[.int .i64 vsb, .int .i64 vpb, .int .i64 vparts, .slice VE ven vec] rfl rfl (fun j hj => by rw [Nat.zero_add]; have hj2 : j < 4 := hj; exact ⟨by rw [cell_of_row z1 gb j _ _ _ hB2, Array.getElem?_eq_getElem (by exact hj2)]; rfl, hB2.frozen j⟩) (by kernel_rfl) (by simp [Value.oneCell']) ?_
         have hB3 := Blk.fill zL [.int .i64 vsb, .int .i64 vpb, .int .i64 vparts, .slice VE ven vec] hB2 rfl
         have hA3 := hA2.aside hab 0 [.int .i64 vsb, .int .i64 vpb, .int .i64 vparts, .slice VE ven vec]
         have hV3 := hV2.fill hB2 (by decide) (by decide) 0 [.int .i64 vsb, .int .i64 vpb, .int .i64 vparts, .slice VE ven vec]
         have hS : (fun W : World => Later w21 W) (z1.setCells gb 0 [.int .i64 vsb, .int .i64 vpb, .int .i64 vparts, .slice VE ven vec]) := Later.fill hS HGB.out 0 _
         refine hK _ _ hS fun wq hwq => ?_
         obtain ⟨z2, hz1⟩ : ∃ x, z1.setCells gb 0 [.int .i64 vsb, .int .i64 vpb, .int .i64 vparts, .slice VE ven vec] = x := ⟨_, rfl⟩
         rw [hz1] at hA3 hB3 hV3 hS
         have hz2 : z2 = wq := hz1.symm.trans hwq
         subst hz2
         clear hK hwq hz1 hA2 hB2 hV2
         (try simp only [Act.put])
         refine wpAnyK_take (fun _ => rfl) (fun _ _ _ h k => h.trans k) (fun _ _ h k => k ▸ h) (i := 14) (oi := ⟨some 21, _, _, _, _, _⟩) (v := ?_) rfl (by kernel_rfl) (by kernel_rfl) (by kernel_rfl) (fun _ _ _ h => h) (Or.inl (Or.inl ⟨by rfl, ?_⟩)) hS ?_
         rotate_left
         focus ((intro w hSw; (try dsimp only at hSw); skip; go_simp); (try with_reducible rfl))
         intro wq hwq
         subst hwq
         (try simp only [Act.put, List.setIfInBounds_toArray, List.set_cons_zero, List.set_cons_succ])
         refine wpAnyK_done (by kernel_rfl) ?_ _
         go_wp2_with fail
         go_meet
         exact ⟨ga, gb, VA, vn, vcp, vlast, vsb, vpb, vparts, VE, ven, vec, vev, rfl, rfl, rfl, hV3, hA3, hB3, hab, HGA.out, HGB.out, hS⟩
        ·
         refine stepK (o := ⟨some 19, _, _, _, _, _⟩) rfl (fun K hK => ?_)
         go_simp
         obtain ⟨ga, hgg⟩ : ∃ x, y1.heap.size = x := ⟨_, rfl⟩
         obtain ⟨y2, hyy⟩ : ∃ x, y1.alloc (.cells zS.toArray 24) = x := ⟨_, rfl⟩
         have lc : Later y1 y2 := hyy ▸ Later.new _ _
         have HA := Lib.hid (show Blk y2 ga zS.toArray 24 from hyy ▸ Blk.new _ _ _ _ hgg.symm)
         have HGA := Lib.hid (show w21.heap.size ≤ ga from hgg ▸ Later.size hS)
         replace hS : (fun W : World => Later w21 W) y2 := Later.trans hS lc
         have HB := Lib.hid (HB.out.later lc)
         try rw [hgg]
         unfold zS at hyy
         rw [hyy]
         refine hK _ _ hS fun wq hwq => ?_
         subst hwq
         clear hK lc hyy hgg
         (try simp only [Act.put, List.setIfInBounds_toArray, List.set_cons_zero, List.set_cons_succ])
         refine wpAnyK_all (rs := [5]) (by kernel_rfl) (by simp) (fun i hi => ?_)
         simp only [List.mem_cons, List.not_mem_nil, or_false] at hi
         subst hi
         refine stepK (o := ⟨some 139, _, _, _, _, _⟩) rfl (fun K hK => ?_)
         go_simp
         refine (HAP.out _ hS).mono ?_
         intro e y3 hap
         obtain ⟨VA, vn, vcp, vlast, vsb, vpb, vparts, VE, ven, vec, vev, rfl, hv, lc⟩ := hap.v (Later.size hS)
         have HV := Lib.hid hv
         replace hS : (fun W : World => Later w21 W) y3 := Later.trans hS lc
         have HA := Lib.hid (HA.out.later lc)
         have HB := Lib.hid (HB.out.later lc)
         refine hK _ _ hS fun wq hwq => ?_
         subst hwq
         clear hK hap hv lc
         (try simp only [Act.put, List.setIfInBounds_toArray, List.set_cons_zero, List.set_cons_succ])
         refine wpAnyK_take (fun _ => rfl) (fun _ _ _ h k => h.trans k) (fun _ _ h k => k ▸ h) (i := 6) (oi := ⟨some 133, _, _, _, _, _⟩) (v := ?_) rfl (by kernel_rfl) (by kernel_rfl) (by kernel_rfl) (fun _ _ _ h => h) (Or.inl (Or.inl ⟨by rfl, ?_⟩)) hS ?_
         rotate_left
         focus ((intro w hSw; (try dsimp only at hSw); skip; go_simp); (try with_reducible rfl))
         intro wq hwq
         subst hwq
         (try simp only [Act.put, List.setIfInBounds_toArray, List.set_cons_zero, List.set_cons_succ])
         refine wpAnyK_take (fun _ => rfl) (fun _ _ _ h k => h.trans k) (fun _ _ h k => k ▸ h) (i := 7) (oi := ⟨some 140, _, _, _, _, _⟩) (v := ?_) rfl (by kernel_rfl) (by kernel_rfl) (by kernel_rfl) (fun _ _ _ h => h) (Or.inl (Or.inl ⟨by rfl, ?_⟩)) hS ?_
         rotate_left
         focus ((intro w hSw; (try dsimp only at hSw); skip; go_simp); (try with_reducible rfl))
         intro wq hwq
         subst hwq
         (try simp only [Act.put, List.setIfInBounds_toArray, List.set_cons_zero, List.set_cons_succ])
         refine wpAnyK_take (fun _ => rfl) (fun _ _ _ h k => h.trans k) (fun _ _ h k => k ▸ h) (i := 8) (oi := ⟨some 141, _, _, _, _, _⟩) (v := ?_) rfl (by kernel_rfl) (by kernel_rfl) (by kernel_rfl) (fun _ _ _ h => h) (Or.inl (Or.inl ⟨by rfl, ?_⟩)) hS ?_
         rotate_left
         focus ((intro w hSw; (try dsimp only at hSw); skip; go_simp); (try with_reducible rfl))
         intro wq hwq
         subst hwq
         (try simp only [Act.put, List.setIfInBounds_toArray, List.set_cons_zero, List.set_cons_succ])
         refine wpAnyK_take (fun _ => rfl) (fun _ _ _ h k => h.trans k) (fun _ _ h k => k ▸ h) (i := 9) (oi := ⟨some 142, _, _, _, _, _⟩) (v := ?_) rfl (by kernel_rfl) (by kernel_rfl) (by kernel_rfl) (fun _ _ _ h => h) (Or.inl (Or.inl ⟨by rfl, ?_⟩)) hS ?_
         rotate_left
         focus ((intro w hSw; (try dsimp only at hSw); skip; go_simp); (try with_reducible rfl))
         intro wq hwq
         subst hwq
         (try simp only [Act.put, List.setIfInBounds_toArray, List.set_cons_zero, List.set_cons_succ])
         have hab : ga ≠ gb := ne_typ HA.out HB.out (by decide)
         refine wpAnyK_all (rs := [12]) (by kernel_rfl) (by simp) (fun i hi => ?_)
         simp only [List.mem_cons, List.not_mem_nil, or_false] at hi
         subst hi
         refine stepK (o := ⟨none, _, _, _, _, _⟩) rfl (fun K hK => ?_)
         rw [if_pos (by rfl)]
         refine wp_store_mid 24 _ _ rfl ga 0 #[.slice VA vn vcp, .int .i64 vlast] rfl rfl (fun j hj => by rw [Nat.zero_add]; have hj2 : j < 2 := hj; exact ⟨by rw [cell_of_row y3 ga j _ _ _ HA.out, Array.getElem?_eq_getElem (by exact hj2)]; rfl, HA.out.frozen j⟩) (by kernel_rfl) (by simp [Value.oneCell']) ?_
         have hA2 := Blk.fill zS [.slice VA vn vcp, .int .i64 vlast] HA.out rfl
         have hB2 := HB.out.aside hab.symm 0 [.slice VA vn vcp, .int .i64 vlast]
         have hV2 := HV.out.fill HA.out (by decide) (by decide) 0 [.slice VA vn vcp, .int .i64 vlast]
         have hS : (fun W : World => Later w21 W) (y3.setCells ga 0 [.slice VA vn vcp, .int .i64 vlast]) := Later.fill hS HGA.out 0 _
         refine hK _ _ hS fun wq hwq => ?_
         obtain ⟨z1, hz1⟩ : ∃ x, y3.setCells ga 0 [.slice VA vn vcp, .int .i64 vlast] = x := ⟨_, rfl⟩
         rw [hz1] at hA2 hB2 hV2 hS
         have hz2 : z1 = wq := hz1.symm.trans hwq
         subst hz2
         clear hK hwq hz1
         (try simp only [Act.put])
         refine wpAnyK_all (rs := [13]) (by kernel_rfl) (by simp) (fun i hi => ?_)
         simp only [List.mem_cons, List.not_mem_nil, or_false] at hi
         subst hi
         refine stepK (o := ⟨none, _, _, _, _, _⟩) rfl (fun K hK => ?_)
         rw [if_pos (by rfl)]
         refine wp_store_mid 27 _ _ rfl gb 0 #[.int .i64 vsb, .int .i64 vpb, .int .i64 vparts, .slice VE ven vec] rfl rfl (fun j hj => by rw [Nat.zero_add]; have hj2 : j < 4 := hj; exact ⟨by rw [cell_of_row z1 gb j _ _ _ hB2, Array.getElem?_eq_getElem (by exact hj2)]; rfl, hB2.frozen j⟩) (by kernel_rfl) (by simp [Value.oneCell']) ?_
         have hB3 := Blk.fill zL [.int .i64 vsb, .int .i64 vpb, .int .i64 vparts, .slice VE ven vec] hB2 rfl
         have hA3 := hA2.aside hab 0 [.int .i64 vsb, .int .i64 vpb, .int .i64 vparts, .slice VE ven vec]
         have hV3 := hV2.fill hB2 (by decide) (by decide) 0 [.int .i64 vsb, .int .i64 vpb, .int .i64 vparts, .slice VE ven vec]
         have hS : (fun W : World => Later w21 W) (z1.setCells gb 0 [.int .i64 vsb, .int .i64 vpb, .int .i64 vparts, .slice VE ven vec]) := Later.fill hS HGB.out 0 _
         refine hK _ _ hS fun wq hwq => ?_
         obtain ⟨z2, hz1⟩ : ∃ x, z1.setCells gb 0 [.int .i64 vsb, .int .i64 vpb, .int .i64 vparts, .slice VE ven vec] = x := ⟨_, rfl⟩
         rw [hz1] at hA3 hB3 hV3 hS
         have hz2 : z2 = wq := hz1.symm.trans hwq
         subst hz2
         clear hK hwq hz1 hA2 hB2 hV2
         (try simp only [Act.put])
         refine wpAnyK_take (fun _ => rfl) (fun _ _ _ h k => h.trans k) (fun _ _ h k => k ▸ h) (i := 14) (oi := ⟨some 21, _, _, _, _, _⟩) (v := ?_) rfl (by kernel_rfl) (by kernel_rfl) (by kernel_rfl) (fun _ _ _ h => h) (Or.inl (Or.inl ⟨by rfl, ?_⟩)) hS ?_
         rotate_left
         focus ((intro w hSw; (try dsimp only at hSw); skip; go_simp); (try with_reducible rfl))
         intro wq hwq
         subst hwq
         (try simp only [Act.put, List.setIfInBounds_toArray, List.set_cons_zero, List.set_cons_succ])
         refine wpAnyK_done (by kernel_rfl) ?_ _
         go_wp2_with fail
         go_meet
         exact ⟨ga, gb, VA, vn, vcp, vlast, vsb, vpb, vparts, VE, ven, vec, vev, rfl, rfl, rfl, hV3, hA3, hB3, hab, HGA.out, HGB.out, hS⟩
      case rest =>
       obtain ⟨g31, g32, A3', n3', cp3, last3, sb3, pb3, parts3, E3, en3, ec3, e3, rfl, rfl, rfl, hv3, _, _, _, _, _, lx3⟩ := hcut
       have he3 : e3 = 6 := hv3.err.trans sf_r3
       subst he3
       have HL3' := Lib.hid (HL21.out.trans lx3)
       clear hv3 lx3 HAP HQ9 e0 e1 hw20 hw21 y1 z1 hh20
       have HQ9 := Lib.hid (fun (W : World) (l : Later wc W) (j : Nat) (v : Value) (h : (chcells (sfL.getD 16 chz))[j]? = some v) => show W.cell? ⟨q + 3, 16 * 9 + j, none⟩ = some v from ((HPB.out.later HL3'.out).later l).cell (16 * 9 + j) v (by rw [List.getElem?_toArray]; exact fch_at 16 (by decide) j v h))
       have HAP := Lib.hid (fun (W : World) (l : Later wc W) => show Calls Tryd.prog 14 #[.agg #[.slice (some ⟨g, 0, none⟩) 4 4, .int .i64 6], .agg #[.int .i64 1, .int .i64 3, .int .i64 2, .slice (some ⟨g + 2, 0, none⟩) 4 4], .agg #[.int .i64 5, .int .i64 5, .string ⟨#[110]⟩, .int .i64 0, .int .i64 0, .int .i64 0, .string ⟨#[]⟩, .int .u8 0, .int .i64 0]] W (ApP sfS (sfL.getD 16 chz) W) from schApply_any (some ⟨g, 0, none⟩) (some ⟨g + 2, 0, none⟩) 4 4 sfS (sfL.getD 16 chz) W f (HS.out.later (HLW.out.trans (HL3'.out.trans l))) (H3.out.later (HLW.out.trans (HL3'.out.trans l))) (HE0.out.later (HL3'.out.trans l)) (HE2.out.later (HL3'.out.trans l)) (by decide) (by decide) sf_nm1 (sf_nm 16 (by decide)) (fun h => by cases h) (fun h => by cases h))
       go_upto_region 23 with fail
       go_cut [22, 23, 24] from 143 to 152 (fun pv qv ev wx => ResP sfS (sfL.getD 16 chz) wc pv qv ev wx)
       case first => as_aux_lemma =>
        refine wp_region_K (S := (fun W : World => Later wc W)) (R := fun a b => a = b) (fun _ => rfl) (by kernel_rfl) ?_
        obtain ⟨y0, hy0⟩ : ∃ x, wc.drew = x := ⟨_, rfl⟩
        have hS : (fun W : World => Later wc W) y0 := hy0 ▸ (Later.refl wc).drew
        rw [hy0]
        clear hy0
        refine wpAnyK_take (fun _ => rfl) (fun _ _ _ h k => h.trans k) (fun _ _ h k => k ▸ h) (i := 0) (oi := ⟨some 144, _, _, _, _, _⟩) (v := ?_) rfl (by kernel_rfl) (by kernel_rfl) (by kernel_rfl) (fun _ _ _ h => h) (Or.inl (Or.inl ⟨by rfl, ?_⟩)) hS ?_
        rotate_left
        focus ((intro w hSw; (try dsimp only at hSw); have e0 := (HD1.out.later (HL3'.out.trans hSw)).cell 0 _ rfl; have e1 := (HD1.out.later (HL3'.out.trans hSw)).cell 1 _ rfl; have d0 := (HD3.out.later (HL3'.out.trans hSw)).cell 0 _ rfl; have d1 := (HD3.out.later (HL3'.out.trans hSw)).cell 1 _ rfl; have d2 := (HD3.out.later (HL3'.out.trans hSw)).cell 2 _ rfl; have d3 := (HD3.out.later (HL3'.out.trans hSw)).cell 3 _ rfl; have q0 := HQ9.out w hSw 0 _ rfl; have q1 := HQ9.out w hSw 1 _ rfl; have q2 := HQ9.out w hSw 2 _ rfl; have q3 := HQ9.out w hSw 3 _ rfl; have q4 := HQ9.out w hSw 4 _ rfl; have q5 := HQ9.out w hSw 5 _ rfl; have q6 := HQ9.out w hSw 6 _ rfl; have q7 := HQ9.out w hSw 7 _ rfl; have q8 := HQ9.out w hSw 8 _ rfl; (try simp only [Nat.reduceMul, Nat.reduceAdd] at q0 q1 q2 q3 q4 q5 q6 q7 q8); go_simp); (try with_reducible rfl))
        intro wq hwq
        subst hwq
        (try simp only [Act.put, List.setIfInBounds_toArray, List.set_cons_zero, List.set_cons_succ])
        refine wpAnyK_take (fun _ => rfl) (fun _ _ _ h k => h.trans k) (fun _ _ h k => k ▸ h) (i := 1) (oi := ⟨some 145, _, _, _, _, _⟩) (v := ?_) rfl (by kernel_rfl) (by kernel_rfl) (by kernel_rfl) (fun _ _ _ h => h) (Or.inl (Or.inl ⟨by rfl, ?_⟩)) hS ?_
        rotate_left
        focus ((intro w hSw; (try dsimp only at hSw); have e0 := (HD1.out.later (HL3'.out.trans hSw)).cell 0 _ rfl; have e1 := (HD1.out.later (HL3'.out.trans hSw)).cell 1 _ rfl; have d0 := (HD3.out.later (HL3'.out.trans hSw)).cell 0 _ rfl; have d1 := (HD3.out.later (HL3'.out.trans hSw)).cell 1 _ rfl; have d2 := (HD3.out.later (HL3'.out.trans hSw)).cell 2 _ rfl; have d3 := (HD3.out.later (HL3'.out.trans hSw)).cell 3 _ rfl; have q0 := HQ9.out w hSw 0 _ rfl; have q1 := HQ9.out w hSw 1 _ rfl; have q2 := HQ9.out w hSw 2 _ rfl; have q3 := HQ9.out w hSw 3 _ rfl; have q4 := HQ9.out w hSw 4 _ rfl; have q5 := HQ9.out w hSw 5 _ rfl; have q6 := HQ9.out w hSw 6 _ rfl; have q7 := HQ9.out w hSw 7 _ rfl; have q8 := HQ9.out w hSw 8 _ rfl; (try simp only [Nat.reduceMul, Nat.reduceAdd] at q0 q1 q2 q3 q4 q5 q6 q7 q8); go_simp); (try with_reducible rfl))
        intro wq hwq
        subst hwq
        (try simp only [Act.put, List.setIfInBounds_toArray, List.set_cons_zero, List.set_cons_succ])
        refine wpAnyK_take (fun _ => rfl) (fun _ _ _ h k => h.trans k) (fun _ _ h k => k ▸ h) (i := 2) (oi := ⟨some 146, _, _, _, _, _⟩) (v := ?_) rfl (by kernel_rfl) (by kernel_rfl) (by kernel_rfl) (fun _ _ _ h => h) (Or.inl (Or.inl ⟨by rfl, ?_⟩)) hS ?_
        rotate_left
        focus ((intro w hSw; (try dsimp only at hSw); have e0 := (HD1.out.later (HL3'.out.trans hSw)).cell 0 _ rfl; have e1 := (HD1.out.later (HL3'.out.trans hSw)).cell 1 _ rfl; have d0 := (HD3.out.later (HL3'.out.trans hSw)).cell 0 _ rfl; have d1 := (HD3.out.later (HL3'.out.trans hSw)).cell 1 _ rfl; have d2 := (HD3.out.later (HL3'.out.trans hSw)).cell 2 _ rfl; have d3 := (HD3.out.later (HL3'.out.trans hSw)).cell 3 _ rfl; have q0 := HQ9.out w hSw 0 _ rfl; have q1 := HQ9.out w hSw 1 _ rfl; have q2 := HQ9.out w hSw 2 _ rfl; have q3 := HQ9.out w hSw 3 _ rfl; have q4 := HQ9.out w hSw 4 _ rfl; have q5 := HQ9.out w hSw 5 _ rfl; have q6 := HQ9.out w hSw 6 _ rfl; have q7 := HQ9.out w hSw 7 _ rfl; have q8 := HQ9.out w hSw 8 _ rfl; (try simp only [Nat.reduceMul, Nat.reduceAdd] at q0 q1 q2 q3 q4 q5 q6 q7 q8); go_simp); (try with_reducible rfl))
        intro wq hwq
        subst hwq
        (try simp only [Act.put, List.setIfInBounds_toArray, List.set_cons_zero, List.set_cons_succ])
        refine wpAnyK_take (fun _ => rfl) (fun _ _ _ h k => h.trans k) (fun _ _ h k => k ▸ h) (i := 3) (oi := ⟨some 147, _, _, _, _, _⟩) (v := ?_) rfl (by kernel_rfl) (by kernel_rfl) (by kernel_rfl) (fun _ _ _ h => h) (Or.inl (Or.inl ⟨by rfl, ?_⟩)) hS ?_
        rotate_left
        focus ((intro w hSw; (try dsimp only at hSw); have e0 := (HD1.out.later (HL3'.out.trans hSw)).cell 0 _ rfl; have e1 := (HD1.out.later (HL3'.out.trans hSw)).cell 1 _ rfl; have d0 := (HD3.out.later (HL3'.out.trans hSw)).cell 0 _ rfl; have d1 := (HD3.out.later (HL3'.out.trans hSw)).cell 1 _ rfl; have d2 := (HD3.out.later (HL3'.out.trans hSw)).cell 2 _ rfl; have d3 := (HD3.out.later (HL3'.out.trans hSw)).cell 3 _ rfl; have q0 := HQ9.out w hSw 0 _ rfl; have q1 := HQ9.out w hSw 1 _ rfl; have q2 := HQ9.out w hSw 2 _ rfl; have q3 := HQ9.out w hSw 3 _ rfl; have q4 := HQ9.out w hSw 4 _ rfl; have q5 := HQ9.out w hSw 5 _ rfl; have q6 := HQ9.out w hSw 6 _ rfl; have q7 := HQ9.out w hSw 7 _ rfl; have q8 := HQ9.out w hSw 8 _ rfl; (try simp only [Nat.reduceMul, Nat.reduceAdd] at q0 q1 q2 q3 q4 q5 q6 q7 q8); go_simp); (try with_reducible rfl))
        intro wq hwq
        subst hwq
        (try simp only [Act.put, List.setIfInBounds_toArray, List.set_cons_zero, List.set_cons_succ])
        refine wpAnyK_take (fun _ => rfl) (fun _ _ _ h k => h.trans k) (fun _ _ h k => k ▸ h) (i := 4) (oi := ⟨some 148, _, _, _, _, _⟩) (v := ?_) rfl (by kernel_rfl) (by kernel_rfl) (by kernel_rfl) (fun _ _ _ h => h) (Or.inl (Or.inl ⟨by rfl, ?_⟩)) hS ?_
        rotate_left
        focus ((intro w hSw; (try dsimp only at hSw); have e0 := (HD1.out.later (HL3'.out.trans hSw)).cell 0 _ rfl; have e1 := (HD1.out.later (HL3'.out.trans hSw)).cell 1 _ rfl; have d0 := (HD3.out.later (HL3'.out.trans hSw)).cell 0 _ rfl; have d1 := (HD3.out.later (HL3'.out.trans hSw)).cell 1 _ rfl; have d2 := (HD3.out.later (HL3'.out.trans hSw)).cell 2 _ rfl; have d3 := (HD3.out.later (HL3'.out.trans hSw)).cell 3 _ rfl; have q0 := HQ9.out w hSw 0 _ rfl; have q1 := HQ9.out w hSw 1 _ rfl; have q2 := HQ9.out w hSw 2 _ rfl; have q3 := HQ9.out w hSw 3 _ rfl; have q4 := HQ9.out w hSw 4 _ rfl; have q5 := HQ9.out w hSw 5 _ rfl; have q6 := HQ9.out w hSw 6 _ rfl; have q7 := HQ9.out w hSw 7 _ rfl; have q8 := HQ9.out w hSw 8 _ rfl; (try simp only [Nat.reduceMul, Nat.reduceAdd] at q0 q1 q2 q3 q4 q5 q6 q7 q8); go_simp); (try with_reducible rfl))
        intro wq hwq
        subst hwq
        (try simp only [Act.put, List.setIfInBounds_toArray, List.set_cons_zero, List.set_cons_succ])
        refine wpAnyK_all (rs := [5, 10, 11]) (by kernel_rfl) (by simp) (fun i hi => ?_)
        simp only [List.mem_cons, List.not_mem_nil, or_false] at hi
        rcases hi with rfl | rfl | rfl
        ·
         refine stepK (o := ⟨some 149, _, _, _, _, _⟩) rfl (fun K hK => ?_)
         go_simp
         refine (HAP.out _ hS).mono ?_
         intro e y1 hap
         obtain ⟨VA, vn, vcp, vlast, vsb, vpb, vparts, VE, ven, vec, vev, rfl, hv, lc⟩ := hap.v (Later.size hS)
         have HV := Lib.hid hv
         replace hS : (fun W : World => Later wc W) y1 := Later.trans hS lc
         refine hK _ _ hS fun wq hwq => ?_
         subst hwq
         clear hK hap hv lc
         (try simp only [Act.put, List.setIfInBounds_toArray, List.set_cons_zero, List.set_cons_succ])
         refine wpAnyK_take (fun _ => rfl) (fun _ _ _ h k => h.trans k) (fun _ _ h k => k ▸ h) (i := 6) (oi := ⟨some 143, _, _, _, _, _⟩) (v := ?_) rfl (by kernel_rfl) (by kernel_rfl) (by kernel_rfl) (fun _ _ _ h => h) (Or.inl (Or.inl ⟨by rfl, ?_⟩)) hS ?_
         rotate_left
         focus ((intro w hSw; (try dsimp only at hSw); skip; go_simp); (try with_reducible rfl))
         intro wq hwq
         subst hwq
         (try simp only [Act.put, List.setIfInBounds_toArray, List.set_cons_zero, List.set_cons_succ])
         refine wpAnyK_take (fun _ => rfl) (fun _ _ _ h k => h.trans k) (fun _ _ h k => k ▸ h) (i := 7) (oi := ⟨some 150, _, _, _, _, _⟩) (v := ?_) rfl (by kernel_rfl) (by kernel_rfl) (by kernel_rfl) (fun _ _ _ h => h) (Or.inl (Or.inl ⟨by rfl, ?_⟩)) hS ?_
         rotate_left
         focus ((intro w hSw; (try dsimp only at hSw); skip; go_simp); (try with_reducible rfl))
         intro wq hwq
         subst hwq
         (try simp only [Act.put, List.setIfInBounds_toArray, List.set_cons_zero, List.set_cons_succ])
         refine wpAnyK_take (fun _ => rfl) (fun _ _ _ h k => h.trans k) (fun _ _ h k => k ▸ h) (i := 8) (oi := ⟨some 151, _, _, _, _, _⟩) (v := ?_) rfl (by kernel_rfl) (by kernel_rfl) (by kernel_rfl) (fun _ _ _ h => h) (Or.inl (Or.inl ⟨by rfl, ?_⟩)) hS ?_
         rotate_left
         focus ((intro w hSw; (try dsimp only at hSw); skip; go_simp); (try with_reducible rfl))
         intro wq hwq
         subst hwq
         (try simp only [Act.put, List.setIfInBounds_toArray, List.set_cons_zero, List.set_cons_succ])
         refine wpAnyK_take (fun _ => rfl) (fun _ _ _ h k => h.trans k) (fun _ _ h k => k ▸ h) (i := 9) (oi := ⟨some 152, _, _, _, _, _⟩) (v := ?_) rfl (by kernel_rfl) (by kernel_rfl) (by kernel_rfl) (fun _ _ _ h => h) (Or.inl (Or.inl ⟨by rfl, ?_⟩)) hS ?_
         rotate_left
         focus ((intro w hSw; (try dsimp only at hSw); skip; go_simp); (try with_reducible rfl))
         intro wq hwq
         subst hwq
         (try simp only [Act.put, List.setIfInBounds_toArray, List.set_cons_zero, List.set_cons_succ])
         refine wpAnyK_all (rs := [10, 11]) (by kernel_rfl) (by simp) (fun i hi => ?_)
         simp only [List.mem_cons, List.not_mem_nil, or_false] at hi
         rcases hi with rfl | rfl
         ·
          refine stepK (o := ⟨some 22, _, _, _, _, _⟩) rfl (fun K hK => ?_)
          go_simp
          obtain ⟨ga, hgg⟩ : ∃ x, y1.heap.size = x := ⟨_, rfl⟩
          obtain ⟨y2, hyy⟩ : ∃ x, y1.alloc (.cells zS.toArray 24) = x := ⟨_, rfl⟩
          have lc : Later y1 y2 := hyy ▸ Later.new _ _
          have HA := Lib.hid (show Blk y2 ga zS.toArray 24 from hyy ▸ Blk.new _ _ _ _ hgg.symm)
          have HGA := Lib.hid (show wc.heap.size ≤ ga from hgg ▸ Later.size hS)
          replace hS : (fun W : World => Later wc W) y2 := Later.trans hS lc
          have HV := Lib.hid (HV.out.later lc)
          try rw [hgg]
          unfold zS at hyy
          rw [hyy]
          refine hK _ _ hS fun wq hwq => ?_
          subst hwq
          clear hK lc hyy hgg
          (try simp only [Act.put, List.setIfInBounds_toArray, List.set_cons_zero, List.set_cons_succ])
          refine wpAnyK_all (rs := [11]) (by kernel_rfl) (by simp) (fun i hi => ?_)
          simp only [List.mem_cons, List.not_mem_nil, or_false] at hi
          subst hi
          refine stepK (o := ⟨some 23, _, _, _, _, _⟩) rfl (fun K hK => ?_)
          go_simp
          obtain ⟨gb, hgg⟩ : ∃ x, y2.heap.size = x := ⟨_, rfl⟩
          obtain ⟨y3, hyy⟩ : ∃ x, y2.alloc (.cells zL.toArray 27) = x := ⟨_, rfl⟩
          have lc : Later y2 y3 := hyy ▸ Later.new _ _
          have HB := Lib.hid (show Blk y3 gb zL.toArray 27 from hyy ▸ Blk.new _ _ _ _ hgg.symm)
          have HGB := Lib.hid (show wc.heap.size ≤ gb from hgg ▸ Later.size hS)
          replace hS : (fun W : World => Later wc W) y3 := Later.trans hS lc
          have HV := Lib.hid (HV.out.later lc)
          have HA := Lib.hid (HA.out.later lc)
          try rw [hgg]
          unfold zL at hyy
          rw [hyy]
          refine hK _ _ hS fun wq hwq => ?_
          subst hwq
          clear hK lc hyy hgg
          (try simp only [Act.put, List.setIfInBounds_toArray, List.set_cons_zero, List.set_cons_succ])
          have hab : ga ≠ gb := ne_typ HA.out HB.out (by decide)
          refine wpAnyK_all (rs := [12]) (by kernel_rfl) (by simp) (fun i hi => ?_)
          simp only [List.mem_cons, List.not_mem_nil, or_false] at hi
          subst hi
          refine stepK (o := ⟨none, _, _, _, _, _⟩) rfl (fun K hK => ?_)
          rw [if_pos (by rfl)]
          refine wp_store_mid 24 _ _ rfl ga 0 #[.slice VA vn vcp, .int .i64 vlast] rfl rfl (fun j hj => by rw [Nat.zero_add]; have hj2 : j < 2 := hj; exact ⟨by rw [cell_of_row y3 ga j _ _ _ HA.out, Array.getElem?_eq_getElem (by exact hj2)]; rfl, HA.out.frozen j⟩) (by kernel_rfl) (by simp [Value.oneCell']) ?_
          have hA2 := Blk.fill zS [.slice VA vn vcp, .int .i64 vlast] HA.out rfl
          have hB2 := HB.out.aside hab.symm 0 [.slice VA vn vcp, .int .i64 vlast]
          have hV2 := HV.out.fill HA.out (by decide) (by decide) 0 [.slice VA vn vcp, .int .i64 vlast]
          have hS : (fun W : World => Later wc W) (y3.setCells ga 0 [.slice VA vn vcp, .int .i64 vlast]) := Later.fill hS HGA.out 0 _
          refine hK _ _ hS fun wq hwq => ?_
          obtain ⟨z1, hz1⟩ : ∃ x, y3.setCells ga 0 [.slice VA vn vcp, .int .i64 vlast] = x := ⟨_, rfl⟩
          rw [hz1] at hA2 hB2 hV2 hS
          have hz2 : z1 = wq := hz1.symm.trans hwq
          subst hz2
          clear hK hwq hz1
          (try simp only [Act.put])
          refine wpAnyK_all (rs := [13]) (by kernel_rfl) (by simp) (fun i hi => ?_)
          simp only [List.mem_cons, List.not_mem_nil, or_false] at hi
          subst hi
          refine stepK (o := ⟨none, _, _, _, _, _⟩) rfl (fun K hK => ?_)
          rw [if_pos (by rfl)]
          refine wp_store_mid 27 _ _ rfl gb 0 #[.int .i64 vsb, .int .i64 vpb, .int .i64 vparts, .slice VE ven vec] rfl rfl (fun j hj => by rw [Nat.zero_add]; have hj2 : j < 4 := hj; exact ⟨by rw [cell_of_row z1 gb j _ _ _ hB2, Array.getElem?_eq_getElem (by exact hj2)]; rfl, hB2.frozen j⟩) (by kernel_rfl) (by simp [Value.oneCell']) ?_
          have hB3 := Blk.fill zL [.int .i64 vsb, .int .i64 vpb, .int .i64 vparts, .slice VE ven vec] hB2 rfl
          have hA3 := hA2.aside hab 0 [.int .i64 vsb, .int .i64 vpb, .int .i64 vparts, .slice VE ven vec]
          have hV3 := hV2.fill hB2 (by decide) (by decide) 0 [.int .i64 vsb, .int .i64 vpb, .int .i64 vparts, .slice VE ven vec]
          have hS : (fun W : World => Later wc W) (z1.setCells gb 0 [.int .i64 vsb, .int .i64 vpb, .int .i64 vparts, .slice VE ven vec]) := Later.fill hS HGB.out 0 _
          refine hK _ _ hS fun wq hwq => ?_
          obtain ⟨z2, hz1⟩ : ∃ x, z1.setCells gb 0 [.int .i64 vsb, .int .i64 vpb, .int .i64 vparts, .slice VE ven vec] = x := ⟨_, rfl⟩
          rw [hz1] at hA3 hB3 hV3 hS
          have hz2 : z2 = wq := hz1.symm.trans hwq
          subst hz2
          clear hK hwq hz1 hA2 hB2 hV2
          (try simp only [Act.put])
          refine wpAnyK_take (fun _ => rfl) (fun _ _ _ h k => h.trans k) (fun _ _ h k => k ▸ h) (i := 14) (oi := ⟨some 24, _, _, _, _, _⟩) (v := ?_) rfl (by kernel_rfl) (by kernel_rfl) (by kernel_rfl) (fun _ _ _ h => h) (Or.inl (Or.inl ⟨by rfl, ?_⟩)) hS ?_
          rotate_left
          focus ((intro w hSw; (try dsimp only at hSw); skip; go_simp); (try with_reducible rfl))
          intro wq hwq
          subst hwq
          (try simp only [Act.put, List.setIfInBounds_toArray, List.set_cons_zero, List.set_cons_succ])
          refine wpAnyK_done (by kernel_rfl) ?_ _
          go_wp2_with fail
          go_meet
          exact ⟨ga, gb, VA, vn, vcp, vlast, vsb, vpb, vparts, VE, ven, vec, vev, rfl, rfl, rfl, hV3, hA3, hB3, hab, HGA.out, HGB.out, hS⟩
         ·
          refine stepK (o := ⟨some 23, _, _, _, _, _⟩) rfl (fun K hK => ?_)
          go_simp
          obtain ⟨gb, hgg⟩ : ∃ x, y1.heap.size = x := ⟨_, rfl⟩
          obtain ⟨y2, hyy⟩ : ∃ x, y1.alloc (.cells zL.toArray 27) = x := ⟨_, rfl⟩
          have lc : Later y1 y2 := hyy ▸ Later.new _ _
          have HB := Lib.hid (show Blk y2 gb zL.toArray 27 from hyy ▸ Blk.new _ _ _ _ hgg.symm)
          have HGB := Lib.hid (show wc.heap.size ≤ gb from hgg ▸ Later.size hS)
          replace hS : (fun W : World => Later wc W) y2 := Later.trans hS lc
          have HV := Lib.hid (HV.out.later lc)
          try rw [hgg]
          unfold zL at hyy
          rw [hyy]
          refine hK _ _ hS fun wq hwq => ?_
          subst hwq
          clear hK lc hyy hgg
          (try simp only [Act.put, List.setIfInBounds_toArray, List.set_cons_zero, List.set_cons_succ])
          refine wpAnyK_all (rs := [10]) (by kernel_rfl) (by simp) (fun i hi => ?_)
          simp only [List.mem_cons, List.not_mem_nil, or_false] at hi
          subst hi
          refine stepK (o := ⟨some 22, _, _, _, _, _⟩) rfl (fun K hK => ?_)
          go_simp
          obtain ⟨ga, hgg⟩ : ∃ x, y2.heap.size = x := ⟨_, rfl⟩
          obtain ⟨y3, hyy⟩ : ∃ x, y2.alloc (.cells zS.toArray 24) = x := ⟨_, rfl⟩
          have lc : Later y2 y3 := hyy ▸ Later.new _ _
          have HA := Lib.hid (show Blk y3 ga zS.toArray 24 from hyy ▸ Blk.new _ _ _ _ hgg.symm)
          have HGA := Lib.hid (show wc.heap.size ≤ ga from hgg ▸ Later.size hS)
          replace hS : (fun W : World => Later wc W) y3 := Later.trans hS lc
          have HV := Lib.hid (HV.out.later lc)
          have HB := Lib.hid (HB.out.later lc)
          try rw [hgg]
          unfold zS at hyy
          rw [hyy]
          refine hK _ _ hS fun wq hwq => ?_
          subst hwq
          clear hK lc hyy hgg
          (try simp only [Act.put, List.setIfInBounds_toArray, List.set_cons_zero, List.set_cons_succ])
          have hab : ga ≠ gb := ne_typ HA.out HB.out (by decide)
          refine wpAnyK_all (rs := [12]) (by kernel_rfl) (by simp) (fun i hi => ?_)
          simp only [List.mem_cons, List.not_mem_nil, or_false] at hi
          subst hi
          refine stepK (o := ⟨none, _, _, _, _, _⟩) rfl (fun K hK => ?_)
          rw [if_pos (by rfl)]
          refine wp_store_mid 24 _ _ rfl ga 0 #[.slice VA vn vcp, .int .i64 vlast] rfl rfl (fun j hj => by rw [Nat.zero_add]; have hj2 : j < 2 := hj; exact ⟨by rw [cell_of_row y3 ga j _ _ _ HA.out, Array.getElem?_eq_getElem (by exact hj2)]; rfl, HA.out.frozen j⟩) (by kernel_rfl) (by simp [Value.oneCell']) ?_
          have hA2 := Blk.fill zS [.slice VA vn vcp, .int .i64 vlast] HA.out rfl
          have hB2 := HB.out.aside hab.symm 0 [.slice VA vn vcp, .int .i64 vlast]
          have hV2 := HV.out.fill HA.out (by decide) (by decide) 0 [.slice VA vn vcp, .int .i64 vlast]
          have hS : (fun W : World => Later wc W) (y3.setCells ga 0 [.slice VA vn vcp, .int .i64 vlast]) := Later.fill hS HGA.out 0 _
          refine hK _ _ hS fun wq hwq => ?_
          obtain ⟨z1, hz1⟩ : ∃ x, y3.setCells ga 0 [.slice VA vn vcp, .int .i64 vlast] = x := ⟨_, rfl⟩
          rw [hz1] at hA2 hB2 hV2 hS
          have hz2 : z1 = wq := hz1.symm.trans hwq
          subst hz2
          clear hK hwq hz1
          (try simp only [Act.put])
          refine wpAnyK_all (rs := [13]) (by kernel_rfl) (by simp) (fun i hi => ?_)
          simp only [List.mem_cons, List.not_mem_nil, or_false] at hi
          subst hi
          refine stepK (o := ⟨none, _, _, _, _, _⟩) rfl (fun K hK => ?_)
          rw [if_pos (by rfl)]
          refine wp_store_mid 27 _ _ rfl gb 0 #[.int .i64 vsb, .int .i64 vpb, .int .i64 vparts, .slice VE ven vec] rfl rfl (fun j hj => by rw [Nat.zero_add]; have hj2 : j < 4 := hj; exact ⟨by rw [cell_of_row z1 gb j _ _ _ hB2, Array.getElem?_eq_getElem (by exact hj2)]; rfl, hB2.frozen j⟩) (by kernel_rfl) (by simp [Value.oneCell']) ?_
          have hB3 := Blk.fill zL [.int .i64 vsb, .int .i64 vpb, .int .i64 vparts, .slice VE ven vec] hB2 rfl
          have hA3 := hA2.aside hab 0 [.int .i64 vsb, .int .i64 vpb, .int .i64 vparts, .slice VE ven vec]
          have hV3 := hV2.fill hB2 (by decide) (by decide) 0 [.int .i64 vsb, .int .i64 vpb, .int .i64 vparts, .slice VE ven vec]
          have hS : (fun W : World => Later wc W) (z1.setCells gb 0 [.int .i64 vsb, .int .i64 vpb, .int .i64 vparts, .slice VE ven vec]) := Later.fill hS HGB.out 0 _
          refine hK _ _ hS fun wq hwq => ?_
          obtain ⟨z2, hz1⟩ : ∃ x, z1.setCells gb 0 [.int .i64 vsb, .int .i64 vpb, .int .i64 vparts, .slice VE ven vec] = x := ⟨_, rfl⟩
          rw [hz1] at hA3 hB3 hV3 hS
          have hz2 : z2 = wq := hz1.symm.trans hwq
          subst hz2
          clear hK hwq hz1 hA2 hB2 hV2
          (try simp only [Act.put])
          refine wpAnyK_take (fun _ => rfl) (fun _ _ _ h k => h.trans k) (fun _ _ h k => k ▸ h) (i := 14) (oi := ⟨some 24, _, _, _, _, _⟩) (v := ?_) rfl (by kernel_rfl) (by kernel_rfl) (by kernel_rfl) (fun _ _ _ h => h) (Or.inl (Or.inl ⟨by rfl, ?_⟩)) hS ?_
          rotate_left
          focus ((intro w hSw; (try dsimp only at hSw); skip; go_simp); (try with_reducible rfl))
          intro wq hwq
          subst hwq
          (try simp only [Act.put, List.setIfInBounds_toArray, List.set_cons_zero, List.set_cons_succ])
          refine wpAnyK_done (by kernel_rfl) ?_ _
          go_wp2_with fail
          go_meet
          exact ⟨ga, gb, VA, vn, vcp, vlast, vsb, vpb, vparts, VE, ven, vec, vev, rfl, rfl, rfl, hV3, hA3, hB3, hab, HGA.out, HGB.out, hS⟩
        ·
         refine stepK (o := ⟨some 22, _, _, _, _, _⟩) rfl (fun K hK => ?_)
         go_simp
         obtain ⟨ga, hgg⟩ : ∃ x, y0.heap.size = x := ⟨_, rfl⟩
         obtain ⟨y1, hyy⟩ : ∃ x, y0.alloc (.cells zS.toArray 24) = x := ⟨_, rfl⟩
         have lc : Later y0 y1 := hyy ▸ Later.new _ _
         have HA := Lib.hid (show Blk y1 ga zS.toArray 24 from hyy ▸ Blk.new _ _ _ _ hgg.symm)
         have HGA := Lib.hid (show wc.heap.size ≤ ga from hgg ▸ Later.size hS)
         replace hS : (fun W : World => Later wc W) y1 := Later.trans hS lc
         try rw [hgg]
         unfold zS at hyy
         rw [hyy]
         refine hK _ _ hS fun wq hwq => ?_
         subst hwq
         clear hK lc hyy hgg
         (try simp only [Act.put, List.setIfInBounds_toArray, List.set_cons_zero, List.set_cons_succ])
         refine wpAnyK_all (rs := [5, 11]) (by kernel_rfl) (by simp) (fun i hi => ?_)
         simp only [List.mem_cons, List.not_mem_nil, or_false] at hi
         rcases hi with rfl | rfl
         ·
          refine stepK (o := ⟨some 149, _, _, _, _, _⟩) rfl (fun K hK => ?_)
          go_simp
          refine (HAP.out _ hS).mono ?_
          intro e y2 hap
          obtain ⟨VA, vn, vcp, vlast, vsb, vpb, vparts, VE, ven, vec, vev, rfl, hv, lc⟩ := hap.v (Later.size hS)
          have HV := Lib.hid hv
          replace hS : (fun W : World => Later wc W) y2 := Later.trans hS lc
          have HA := Lib.hid (HA.out.later lc)
          refine hK _ _ hS fun wq hwq => ?_
          subst hwq
          clear hK hap hv lc
          (try simp only [Act.put, List.setIfInBounds_toArray, List.set_cons_zero, List.set_cons_succ])
          refine wpAnyK_take (fun _ => rfl) (fun _ _ _ h k => h.trans k) (fun _ _ h k => k ▸ h) (i := 6) (oi := ⟨some 143, _, _, _, _, _⟩) (v := ?_) rfl (by kernel_rfl) (by kernel_rfl) (by kernel_rfl) (fun _ _ _ h => h) (Or.inl (Or.inl ⟨by rfl, ?_⟩)) hS ?_
          rotate_left
          focus ((intro w hSw; (try dsimp only at hSw); skip; go_simp); (try with_reducible rfl))
          intro wq hwq
          subst hwq
          (try simp only [Act.put, List.setIfInBounds_toArray, List.set_cons_zero, List.set_cons_succ])
          refine wpAnyK_take (fun _ => rfl) (fun _ _ _ h k => h.trans k) (fun _ _ h k => k ▸ h) (i := 7) (oi := ⟨some 150, _, _, _, _, _⟩) (v := ?_) rfl (by kernel_rfl) (by kernel_rfl) (by kernel_rfl) (fun _ _ _ h => h) (Or.inl (Or.inl ⟨by rfl, ?_⟩)) hS ?_
          rotate_left
          focus ((intro w hSw; (try dsimp only at hSw); skip; go_simp); (try with_reducible rfl))
          intro wq hwq
          subst hwq
          (try simp only [Act.put, List.setIfInBounds_toArray, List.set_cons_zero, List.set_cons_succ])
          refine wpAnyK_take (fun _ => rfl) (fun _ _ _ h k => h.trans k) (fun _ _ h k => k ▸ h) (i := 8) (oi := ⟨some 151, _, _, _, _, _⟩) (v := ?_) rfl (by kernel_rfl) (by kernel_rfl) (by kernel_rfl) (fun _ _ _ h => h) (Or.inl (Or.inl ⟨by rfl, ?_⟩)) hS ?_
          rotate_left
          focus ((intro w hSw; (try dsimp only at hSw); skip; go_simp); (try with_reducible rfl))
          intro wq hwq
          subst hwq
          (try simp only [Act.put, List.setIfInBounds_toArray, List.set_cons_zero, List.set_cons_succ])
          refine wpAnyK_take (fun _ => rfl) (fun _ _ _ h k => h.trans k) (fun _ _ h k => k ▸ h) (i := 9) (oi := ⟨some 152, _, _, _, _, _⟩) (v := ?_) rfl (by kernel_rfl) (by kernel_rfl) (by kernel_rfl) (fun _ _ _ h => h) (Or.inl (Or.inl ⟨by rfl, ?_⟩)) hS ?_
          rotate_left
          focus ((intro w hSw; (try dsimp only at hSw); skip; go_simp); (try with_reducible rfl))
          intro wq hwq
          subst hwq
          (try simp only [Act.put, List.setIfInBounds_toArray, List.set_cons_zero, List.set_cons_succ])
          refine wpAnyK_all (rs := [11]) (by kernel_rfl) (by simp) (fun i hi => ?_)
          simp only [List.mem_cons, List.not_mem_nil, or_false] at hi
          subst hi
          refine stepK (o := ⟨some 23, _, _, _, _, _⟩) rfl (fun K hK => ?_)
          go_simp
          obtain ⟨gb, hgg⟩ : ∃ x, y2.heap.size = x := ⟨_, rfl⟩
          obtain ⟨y3, hyy⟩ : ∃ x, y2.alloc (.cells zL.toArray 27) = x := ⟨_, rfl⟩
          have lc : Later y2 y3 := hyy ▸ Later.new _ _
          have HB := Lib.hid (show Blk y3 gb zL.toArray 27 from hyy ▸ Blk.new _ _ _ _ hgg.symm)
          have HGB := Lib.hid (show wc.heap.size ≤ gb from hgg ▸ Later.size hS)
          replace hS : (fun W : World => Later wc W) y3 := Later.trans hS lc
          have HV := Lib.hid (HV.out.later lc)
          have HA := Lib.hid (HA.out.later lc)
          try rw [hgg]
          unfold zL at hyy
          rw [hyy]
          refine hK _ _ hS fun wq hwq => ?_
          subst hwq
          clear hK lc hyy hgg
          (try simp only [Act.put, List.setIfInBounds_toArray, List.set_cons_zero, List.set_cons_succ])
          have hab : ga ≠ gb := ne_typ HA.out HB.out (by decide)
          refine wpAnyK_all (rs := [12]) (by kernel_rfl) (by simp) (fun i hi => ?_)
          simp only [List.mem_cons, List.not_mem_nil, or_false] at hi
          subst hi
          refine stepK (o := ⟨none, _, _, _, _, _⟩) rfl (fun K hK => ?_)
          rw [if_pos (by rfl)]
          refine wp_store_mid 24 _ _ rfl ga 0 #[.slice VA vn vcp, .int .i64 vlast] rfl rfl (fun j hj => by rw [Nat.zero_add]; have hj2 : j < 2 := hj; exact ⟨by rw [cell_of_row y3 ga j _ _ _ HA.out, Array.getElem?_eq_getElem (by exact hj2)]; rfl, HA.out.frozen j⟩) (by kernel_rfl) (by simp [Value.oneCell']) ?_
          have hA2 := Blk.fill zS [.slice VA vn vcp, .int .i64 vlast] HA.out rfl
          have hB2 := HB.out.aside hab.symm 0 [.slice VA vn vcp, .int .i64 vlast]
          have hV2 := HV.out.fill HA.out (by decide) (by decide) 0 [.slice VA vn vcp, .int .i64 vlast]
          have hS : (fun W : World => Later wc W) (y3.setCells ga 0 [.slice VA vn vcp, .int .i64 vlast]) := Later.fill hS HGA.out 0 _
          refine hK _ _ hS fun wq hwq => ?_
          obtain ⟨z1, hz1⟩ : ∃ x, y3.setCells ga 0 [.slice VA vn vcp, .int .i64 vlast] = x := ⟨_, rfl⟩
          rw [hz1] at hA2 hB2 hV2 hS
          have hz2 : z1 = wq := hz1.symm.trans hwq
          subst hz2
          clear hK hwq hz1
          (try simp only [Act.put])
          refine wpAnyK_all (rs := [13]) (by kernel_rfl) (by simp) (fun i hi => ?_)
          simp only [List.mem_cons, List.not_mem_nil, or_false] at hi
          subst hi
          refine stepK (o := ⟨none, _, _, _, _, _⟩) rfl (fun K hK => ?_)
          rw [if_pos (by rfl)]
          refine wp_store_mid 27 _ _ rfl gb 0 #[.int .i64 vsb, .int .i64 vpb, .int .i64 vparts, .slice VE ven vec] rfl rfl (fun j hj => by rw [Nat.zero_add]; have hj2 : j < 4 := hj; exact ⟨by rw [cell_of_row z1 gb j _ _ _ hB2, Array.getElem?_eq_getElem (by exact hj2)]; rfl, hB2.frozen j⟩) (by kernel_rfl) (by simp [Value.oneCell']) ?_
          have hB3 := Blk.fill zL [.int .i64 vsb, .int .i64 vpb, .int .i64 vparts, .slice VE ven vec] hB2 rfl
          have hA3 := hA2.aside hab 0 [.int .i64 vsb, .int .i64 vpb, .int .i64 vparts, .slice VE ven vec]
          have hV3 := hV2.fill hB2 (by decide) (by decide) 0 [.int .i64 vsb, .int .i64 vpb, .int .i64 vparts, .slice VE ven vec]
          have hS : (fun W : World => Later wc W) (z1.setCells gb 0 [.int .i64 vsb, .int .i64 vpb, .int .i64 vparts, .slice VE ven vec]) := Later.fill hS HGB.out 0 _
          refine hK _ _ hS fun wq hwq => ?_
          obtain ⟨z2, hz1⟩ : ∃ x, z1.setCells gb 0 [.int .i64 vsb, .int .i64 vpb, .int .i64 vparts, .slice VE ven vec] = x := ⟨_, rfl⟩
          rw [hz1] at hA3 hB3 hV3 hS
          have hz2 : z2 = wq := hz1.symm.trans hwq
          subst hz2
          clear hK hwq hz1 hA2 hB2 hV2
          (try simp only [Act.put])
          refine wpAnyK_take (fun _ => rfl) (fun _ _ _ h k => h.trans k) (fun _ _ h k => k ▸ h) (i := 14) (oi := ⟨some 24, _, _, _, _, _⟩) (v := ?_) rfl (by kernel_rfl) (by kernel_rfl) (by kernel_rfl) (fun _ _ _ h => h) (Or.inl (Or.inl ⟨by rfl, ?_⟩)) hS ?_
          rotate_left
          focus ((intro w hSw; (try dsimp only at hSw); skip; go_simp); (try with_reducible rfl))
          intro wq hwq
          subst hwq
          (try simp only [Act.put, List.setIfInBounds_toArray, List.set_cons_zero, List.set_cons_succ])
          refine wpAnyK_done (by kernel_rfl) ?_ _
          go_wp2_with fail
          go_meet
          exact ⟨ga, gb, VA, vn, vcp, vlast, vsb, vpb, vparts, VE, ven, vec, vev, rfl, rfl, rfl, hV3, hA3, hB3, hab, HGA.out, HGB.out, hS⟩
         ·
          refine stepK (o := ⟨some 23, _, _, _, _, _⟩) rfl (fun K hK => ?_)
          go_simp
          obtain ⟨gb, hgg⟩ : ∃ x, y1.heap.size = x := ⟨_, rfl⟩
          obtain ⟨y2, hyy⟩ : ∃ x, y1.alloc (.cells zL.toArray 27) = x := ⟨_, rfl⟩
          have lc : Later y1 y2 := hyy ▸ Later.new _ _
          have HB := Lib.hid (show Blk y2 gb zL.toArray 27 from hyy ▸ Blk.new _ _ _ _ hgg.symm)
          have HGB := Lib.hid (show wc.heap.size ≤ gb from hgg ▸ Later.size hS)
          replace hS : (fun W : World => Later wc W) y2 := Later.trans hS lc
          have HA := Lib.hid (HA.out.later lc)
          try rw [hgg]
          unfold zL at hyy
          rw [hyy]
          refine hK _ _ hS fun wq hwq => ?_
          subst hwq
          clear hK lc hyy hgg
          (try simp only [Act.put, List.setIfInBounds_toArray, List.set_cons_zero, List.set_cons_succ])
          refine wpAnyK_all (rs := [5]) (by kernel_rfl) (by simp) (fun i hi => ?_)
          simp only [List.mem_cons, List.not_mem_nil, or_false] at hi
          subst hi
          refine stepK (o := ⟨some 149, _, _, _, _, _⟩) rfl (fun K hK => ?_)
          go_simp
          refine (HAP.out _ hS).mono ?_
          intro e y3 hap
          obtain ⟨VA, vn, vcp, vlast, vsb, vpb, vparts, VE, ven, vec, vev, rfl, hv, lc⟩ := hap.v (Later.size hS)
          have HV := Lib.hid hv
          replace hS : (fun W : World => Later wc W) y3 := Later.trans hS lc
          have HA := Lib.hid (HA.out.later lc)
          have HB := Lib.hid (HB.out.later lc)
          refine hK _ _ hS fun wq hwq => ?_
          subst hwq
          clear hK hap hv lc
          (try simp only [Act.put, List.setIfInBounds_toArray, List.set_cons_zero, List.set_cons_succ])
          refine wpAnyK_take (fun _ => rfl) (fun _ _ _ h k => h.trans k) (fun _ _ h k => k ▸ h) (i := 6) (oi := ⟨some 143, _, _, _, _, _⟩) (v := ?_) rfl (by kernel_rfl) (by kernel_rfl) (by kernel_rfl) (fun _ _ _ h => h) (Or.inl (Or.inl ⟨by rfl, ?_⟩)) hS ?_
          rotate_left
          focus ((intro w hSw; (try dsimp only at hSw); skip; go_simp); (try with_reducible rfl))
          intro wq hwq
          subst hwq
          (try simp only [Act.put, List.setIfInBounds_toArray, List.set_cons_zero, List.set_cons_succ])
          refine wpAnyK_take (fun _ => rfl) (fun _ _ _ h k => h.trans k) (fun _ _ h k => k ▸ h) (i := 7) (oi := ⟨some 150, _, _, _, _, _⟩) (v := ?_) rfl (by kernel_rfl) (by kernel_rfl) (by kernel_rfl) (fun _ _ _ h => h) (Or.inl (Or.inl ⟨by rfl, ?_⟩)) hS ?_
          rotate_left
          focus ((intro w hSw; (try dsimp only at hSw); skip; go_simp); (try with_reducible rfl))
          intro wq hwq
          subst hwq
          (try simp only [Act.put, List.setIfInBounds_toArray, List.set_cons_zero, List.set_cons_succ])
          refine wpAnyK_take (fun _ => rfl) (fun _ _ _ h k => h.trans k) (fun _ _ h k => k ▸ h) (i := 8) (oi := ⟨some 151, _, _, _, _, _⟩) (v := ?_) rfl (by kernel_rfl) (by kernel_rfl) (by kernel_rfl) (fun _ _ _ h => h) (Or.inl (Or.inl ⟨by rfl, ?_⟩)) hS ?_
          rotate_left
          focus ((intro w hSw; (try dsimp only at hSw); skip; go_simp); (try with_reducible rfl))
          intro wq hwq
          subst hwq
          (try simp only [Act.put, List.setIfInBounds_toArray, List.set_cons_zero, List.set_cons_succ])
          refine wpAnyK_take (fun _ => rfl) (fun _ _ _ h k => h.trans k) (fun _ _ h k => k ▸ h) (i := 9) (oi := ⟨some 152, _, _, _, _, _⟩) (v := ?_) rfl (by kernel_rfl) (by kernel_rfl) (by kernel_rfl) (fun _ _ _ h => h) (Or.inl (Or.inl ⟨by rfl, ?_⟩)) hS ?_
          rotate_left
          focus ((intro w hSw; (try dsimp only at hSw); skip; go_simp); (try with_reducible rfl))
          intro wq hwq
          subst hwq
          (try simp only [Act.put, List.setIfInBounds_toArray, List.set_cons_zero, List.set_cons_succ])
          have hab : ga ≠ gb := ne_typ HA.out HB.out (by decide)
          refine wpAnyK_all (rs := [12]) (by kernel_rfl) (by simp) (fun i hi => ?_)
          simp only [List.mem_cons, List.not_mem_nil, or_false] at hi
          subst hi
          refine stepK (o := ⟨none, _, _, _, _, _⟩) rfl (fun K hK => ?_)
          rw [if_pos (by rfl)]
          refine wp_store_mid 24 _ _ rfl ga 0 #[.slice VA vn vcp, .int .i64 vlast] rfl rfl (fun j hj => by rw [Nat.zero_add]; have hj2 : j < 2 := hj; exact ⟨by rw [cell_of_row y3 ga j _ _ _ HA.out, Array.getElem?_eq_getElem (by exact hj2)]; rfl, HA.out.frozen j⟩) (by kernel_rfl) (by simp [Value.oneCell']) ?_
          have hA2 := Blk.fill zS [.slice VA vn vcp, .int .i64 vlast] HA.out rfl
          have hB2 := HB.out.aside hab.symm 0 [.slice VA vn vcp, .int .i64 vlast]
          have hV2 := HV.out.fill HA.out (by decide) (by decide) 0 [.slice VA vn vcp, .int .i64 vlast]
          have hS : (fun W : World => Later wc W) (y3.setCells ga 0 [.slice VA vn vcp, .int .i64 vlast]) := Later.fill hS HGA.out 0 _
          refine hK _ _ hS fun wq hwq => ?_
          obtain ⟨z1, hz1⟩ : ∃ x, y3.setCells ga 0 [.slice VA vn vcp, .int .i64 vlast] = x := ⟨_, rfl⟩
          rw [hz1] at hA2 hB2 hV2 hS
          have hz2 : z1 = wq := hz1.symm.trans hwq
          subst hz2
          clear hK hwq hz1
          (try simp only [Act.put])
          refine wpAnyK_all (rs := [13]) (by kernel_rfl) (by simp) (fun i hi => ?_)
          simp only [List.mem_cons, List.not_mem_nil, or_false] at hi
          subst hi
          refine stepK (o := ⟨none, _, _, _, _, _⟩) rfl (fun K hK => ?_)
          rw [if_pos (by rfl)]
          refine wp_store_mid 27 _ _ rfl gb 0 #[.int .i64 vsb, .int .i64 vpb, .int .i64 vparts, .slice VE ven vec] rfl rfl (fun j hj => by rw [Nat.zero_add]; have hj2 : j < 4 := hj; exact ⟨by rw [cell_of_row z1 gb j _ _ _ hB2, Array.getElem?_eq_getElem (by exact hj2)]; rfl, hB2.frozen j⟩) (by kernel_rfl) (by simp [Value.oneCell']) ?_
          have hB3 := Blk.fill zL [.int .i64 vsb, .int .i64 vpb, .int .i64 vparts, .slice VE ven vec] hB2 rfl
          have hA3 := hA2.aside hab 0 [.int .i64 vsb, .int .i64 vpb, .int .i64 vparts, .slice VE ven vec]
          have hV3 := hV2.fill hB2 (by decide) (by decide) 0 [.int .i64 vsb, .int .i64 vpb, .int .i64 vparts, .slice VE ven vec]
          have hS : (fun W : World => Later wc W) (z1.setCells gb 0 [.int .i64 vsb, .int .i64 vpb, .int .i64 vparts, .slice VE ven vec]) := Later.fill hS HGB.out 0 _
          refine hK _ _ hS fun wq hwq => ?_
          obtain ⟨z2, hz1⟩ : ∃ x, z1.setCells gb 0 [.int .i64 vsb, .int .i64 vpb, .int .i64 vparts, .slice VE ven vec] = x := ⟨_, rfl⟩
          rw [hz1] at hA3 hB3 hV3 hS
          have hz2 : z2 = wq := hz1.symm.trans hwq
          subst hz2
          clear hK hwq hz1 hA2 hB2 hV2
          (try simp only [Act.put])
          refine wpAnyK_take (fun _ => rfl) (fun _ _ _ h k => h.trans k) (fun _ _ h k => k ▸ h) (i := 14) (oi := ⟨some 24, _, _, _, _, _⟩) (v := ?_) rfl (by kernel_rfl) (by kernel_rfl) (by kernel_rfl) (fun _ _ _ h => h) (Or.inl (Or.inl ⟨by rfl, ?_⟩)) hS ?_
          rotate_left
          focus ((intro w hSw; (try dsimp only at hSw); skip; go_simp); (try with_reducible rfl))
          intro wq hwq
          subst hwq
          (try simp only [Act.put, List.setIfInBounds_toArray, List.set_cons_zero, List.set_cons_succ])
          refine wpAnyK_done (by kernel_rfl) ?_ _
          go_wp2_with fail
          go_meet
          exact ⟨ga, gb, VA, vn, vcp, vlast, vsb, vpb, vparts, VE, ven, vec, vev, rfl, rfl, rfl, hV3, hA3, hB3, hab, HGA.out, HGB.out, hS⟩
        ·
         refine stepK (o := ⟨some 23, _, _, _, _, _⟩) rfl (fun K hK => ?_)
         go_simp
         obtain ⟨gb, hgg⟩ : ∃ x, y0.heap.size = x := ⟨_, rfl⟩
         obtain ⟨y1, hyy⟩ : ∃ x, y0.alloc (.cells zL.toArray 27) = x := ⟨_, rfl⟩
         have lc : Later y0 y1 := hyy ▸ Later.new _ _
         have HB := Lib.hid (show Blk y1 gb zL.toArray 27 from hyy ▸ Blk.new _ _ _ _ hgg.symm)
         have HGB := Lib.hid (show wc.heap.size ≤ gb from hgg ▸ Later.size hS)
         replace hS : (fun W : World => Later wc W) y1 := Later.trans hS lc
         try rw [hgg]
         unfold zL at hyy
         rw [hyy]
         refine hK _ _ hS fun wq hwq => ?_
         subst hwq
         clear hK lc hyy hgg
         (try simp only [Act.put, List.setIfInBounds_toArray, List.set_cons_zero, List.set_cons_succ])
         refine wpAnyK_all (rs := [5, 10]) (by kernel_rfl) (by simp) (fun i hi => ?_)
         simp only [List.mem_cons, List.not_mem_nil, or_false] at hi
         rcases hi with rfl | rfl
         ·
          refine stepK (o := ⟨some 149, _, _, _, _, _⟩) rfl (fun K hK => ?_)
          go_simp
          refine (HAP.out _ hS).mono ?_
          intro e y2 hap
          obtain ⟨VA, vn, vcp, vlast, vsb, vpb, vparts, VE, ven, vec, vev, rfl, hv, lc⟩ := hap.v (Later.size hS)
          have HV := Lib.hid hv
          replace hS : (fun W : World => Later wc W) y2 := Later.trans hS lc
          have HB := Lib.hid (HB.out.later lc)
          refine hK _ _ hS fun wq hwq => ?_
          subst hwq
          clear hK hap hv lc
          (try simp only [Act.put, List.setIfInBounds_toArray, List.set_cons_zero, List.set_cons_succ])
          refine wpAnyK_take (fun _ => rfl) (fun _ _ _ h k => h.trans k) (fun _ _ h k => k ▸ h) (i := 6) (oi := ⟨some 143, _, _, _, _, _⟩) (v := ?_) rfl (by kernel_rfl) (by kernel_rfl) (by kernel_rfl) (fun _ _ _ h => h) (Or.inl (Or.inl ⟨by rfl, ?_⟩)) hS ?_
          rotate_left
          focus ((intro w hSw; (try dsimp only at hSw); skip; go_simp); (try with_reducible rfl))
          intro wq hwq
          subst hwq
          (try simp only [Act.put, List.setIfInBounds_toArray, List.set_cons_zero, List.set_cons_succ])
          refine wpAnyK_take (fun _ => rfl) (fun _ _ _ h k => h.trans k) (fun _ _ h k => k ▸ h) (i := 7) (oi := ⟨some 150, _, _, _, _, _⟩) (v := ?_) rfl (by kernel_rfl) (by kernel_rfl) (by kernel_rfl) (fun _ _ _ h => h) (Or.inl (Or.inl ⟨by rfl, ?_⟩)) hS ?_
          rotate_left
          focus ((intro w hSw; (try dsimp only at hSw); skip; go_simp); (try with_reducible rfl))
          intro wq hwq
          subst hwq
          (try simp only [Act.put, List.setIfInBounds_toArray, List.set_cons_zero, List.set_cons_succ])
          refine wpAnyK_take (fun _ => rfl) (fun _ _ _ h k => h.trans k) (fun _ _ h k => k ▸ h) (i := 8) (oi := ⟨some 151, _, _, _, _, _⟩) (v := ?_) rfl (by kernel_rfl) (by kernel_rfl) (by kernel_rfl) (fun _ _ _ h => h) (Or.inl (Or.inl ⟨by rfl, ?_⟩)) hS ?_
          rotate_left
          focus ((intro w hSw; (try dsimp only at hSw); skip; go_simp); (try with_reducible rfl))
          intro wq hwq
          subst hwq
          (try simp only [Act.put, List.setIfInBounds_toArray, List.set_cons_zero, List.set_cons_succ])
          refine wpAnyK_take (fun _ => rfl) (fun _ _ _ h k => h.trans k) (fun _ _ h k => k ▸ h) (i := 9) (oi := ⟨some 152, _, _, _, _, _⟩) (v := ?_) rfl (by kernel_rfl) (by kernel_rfl) (by kernel_rfl) (fun _ _ _ h => h) (Or.inl (Or.inl ⟨by rfl, ?_⟩)) hS ?_
          rotate_left
          focus ((intro w hSw; (try dsimp only at hSw); skip; go_simp); (try with_reducible rfl))
          intro wq hwq
          subst hwq
          (try simp only [Act.put, List.setIfInBounds_toArray, List.set_cons_zero, List.set_cons_succ])
          refine wpAnyK_all (rs := [10]) (by kernel_rfl) (by simp) (fun i hi => ?_)
          simp only [List.mem_cons, List.not_mem_nil, or_false] at hi
          subst hi
          refine stepK (o := ⟨some 22, _, _, _, _, _⟩) rfl (fun K hK => ?_)
          go_simp
          obtain ⟨ga, hgg⟩ : ∃ x, y2.heap.size = x := ⟨_, rfl⟩
          obtain ⟨y3, hyy⟩ : ∃ x, y2.alloc (.cells zS.toArray 24) = x := ⟨_, rfl⟩
          have lc : Later y2 y3 := hyy ▸ Later.new _ _
          have HA := Lib.hid (show Blk y3 ga zS.toArray 24 from hyy ▸ Blk.new _ _ _ _ hgg.symm)
          have HGA := Lib.hid (show wc.heap.size ≤ ga from hgg ▸ Later.size hS)
          replace hS : (fun W : World => Later wc W) y3 := Later.trans hS lc
          have HV := Lib.hid (HV.out.later lc)
          have HB := Lib.hid (HB.out.later lc)
          try rw [hgg]
          unfold zS at hyy
          rw [hyy]
          refine hK _ _ hS fun wq hwq => ?_
          subst hwq
          clear hK lc hyy hgg
          (try simp only [Act.put, List.setIfInBounds_toArray, List.set_cons_zero, List.set_cons_succ])
          have hab : ga ≠ gb := ne_typ HA.out HB.out (by decide)
          refine wpAnyK_all (rs := [12]) (by kernel_rfl) (by simp) (fun i hi => ?_)
          simp only [List.mem_cons, List.not_mem_nil, or_false] at hi
          subst hi
          refine stepK (o := ⟨none, _, _, _, _, _⟩) rfl (fun K hK => ?_)
          rw [if_pos (by rfl)]
          refine wp_store_mid 24 _ _ rfl ga 0 #[.slice VA vn vcp, .int .i64 vlast] rfl rfl (fun j hj => by rw [Nat.zero_add]; have hj2 : j < 2 := hj; exact ⟨by rw [cell_of_row y3 ga j _ _ _ HA.out, Array.getElem?_eq_getElem (by exact hj2)]; rfl, HA.out.frozen j⟩) (by kernel_rfl) (by simp [Value.oneCell']) ?_
          have hA2 := Blk.fill zS [.slice VA vn vcp, .int .i64 vlast] HA.out rfl
          have hB2 := HB.out.aside hab.symm 0 [.slice VA vn vcp, .int .i64 vlast]
          have hV2 := HV.out.fill HA.out (by decide) (by decide) 0 [.slice VA vn vcp, .int .i64 vlast]
          have hS : (fun W : World => Later wc W) (y3.setCells ga 0 [.slice VA vn vcp, .int .i64 vlast]) := Later.fill hS HGA.out 0 _
          refine hK _ _ hS fun wq hwq => ?_
          obtain ⟨z1, hz1⟩ : ∃ x, y3.setCells ga 0 [.slice VA vn vcp, .int .i64 vlast] = x := ⟨_, rfl⟩
          rw [hz1] at hA2 hB2 hV2 hS
          have hz2 : z1 = wq := hz1.symm.trans hwq
          subst hz2
          clear hK hwq hz1
          (try simp only [Act.put])
          refine wpAnyK_all (rs := [13]) (by kernel_rfl) (by simp) (fun i hi => ?_)
          simp only [List.mem_cons, List.not_mem_nil, or_false] at hi
          subst hi
          refine stepK (o := ⟨none, _, _, _, _, _⟩) rfl (fun K hK => ?_)
          rw [if_pos (by rfl)]
          refine wp_store_mid 27 _ _ rfl gb 0 #[.int .i64 vsb, .int .i64 vpb, .int .i64 vparts, .slice VE ven vec] rfl rfl (fun j hj => by rw [Nat.zero_add]; have hj2 : j < 4 := hj; exact ⟨by rw [cell_of_row z1 gb j _ _ _ hB2, Array.getElem?_eq_getElem (by exact hj2)]; rfl, hB2.frozen j⟩) (by kernel_rfl) (by simp [Value.oneCell']) ?_
          have hB3 := Blk.fill zL [.int .i64 vsb, .int .i64 vpb, .int .i64 vparts, .slice VE ven vec] hB2 rfl
          have hA3 := hA2.aside hab 0 [.int .i64 vsb, .int .i64 vpb, .int .i64 vparts, .slice VE ven vec]
          have hV3 := hV2.fill hB2 (by decide) (by decide) 0 [.int .i64 vsb, .int .i64 vpb, .int .i64 vparts, .slice VE ven vec]
          have hS : (fun W : World => Later wc W) (z1.setCells gb 0 [.int .i64 vsb, .int .i64 vpb, .int .i64 vparts, .slice VE ven vec]) := Later.fill hS HGB.out 0 _
          refine hK _ _ hS fun wq hwq => ?_
          obtain ⟨z2, hz1⟩ : ∃ x, z1.setCells gb 0 [.int .i64 vsb, .int .i64 vpb, .int .i64 vparts, .slice VE ven vec] = x := ⟨_, rfl⟩
          rw [hz1] at hA3 hB3 hV3 hS
          have hz2 : z2 = wq := hz1.symm.trans hwq
          subst hz2
          clear hK hwq hz1 hA2 hB2 hV2
          (try simp only [Act.put])
          refine wpAnyK_take (fun _ => rfl) (fun _ _ _ h k => h.trans k) (fun _ _ h k => k ▸ h) (i := 14) (oi := ⟨some 24, _, _, _, _, _⟩) (v := ?_) rfl (by kernel_rfl) (by kernel_rfl) (by kernel_rfl) (fun _ _ _ h => h) (Or.inl (Or.inl ⟨by rfl, ?_⟩)) hS ?_
          rotate_left
          focus ((intro w hSw; (try dsimp only at hSw); skip; go_simp); (try with_reducible rfl))
          intro wq hwq
          subst hwq
          (try simp only [Act.put, List.setIfInBounds_toArray, List.set_cons_zero, List.set_cons_succ])
          refine wpAnyK_done (by kernel_rfl) ?_ _
          go_wp2_with fail
          go_meet
          exact ⟨ga, gb, VA, vn, vcp, vlast, vsb, vpb, vparts, VE, ven, vec, vev, rfl, rfl, rfl, hV3, hA3, hB3, hab, HGA.out, HGB.out, hS⟩
         ·
          refine stepK (o := ⟨some 22, _, _, _, _, _⟩) rfl (fun K hK => ?_)
          go_simp
          obtain ⟨ga, hgg⟩ : ∃ x, y1.heap.size = x := ⟨_, rfl⟩
          obtain ⟨y2, hyy⟩ : ∃ x, y1.alloc (.cells zS.toArray 24) = x := ⟨_, rfl⟩
          have lc : Later y1 y2 := hyy ▸ Later.new _ _
          have HA := Lib.hid (show Blk y2 ga zS.toArray 24 from hyy ▸ Blk.new _ _ _ _ hgg.symm)
          have HGA := Lib.hid (show wc.heap.size ≤ ga from hgg ▸ Later.size hS)
          replace hS : (fun W : World => Later wc W) y2 := Later.trans hS lc
          have HB := Lib.hid (HB.out.later lc)
          try rw [hgg]
          unfold zS at hyy
          rw [hyy]
          refine hK _ _ hS fun wq hwq => ?_
          subst hwq
          clear hK lc hyy hgg
          (try simp only [Act.put, List.setIfInBounds_toArray, List.set_cons_zero, List.set_cons_succ])
          refine wpAnyK_all (rs := [5]) (by kernel_rfl) (by simp) (fun i hi => ?_)
          simp only [List.mem_cons, List.not_mem_nil, or_false] at hi
          subst hi
          refine stepK (o := ⟨some 149, _, _, _, _, _⟩) rfl (fun K hK => ?_)
          go_simp
          refine (HAP.out _ hS).mono ?_
          intro e y3 hap
          obtain ⟨VA, vn, vcp, vlast, vsb, vpb, vparts, VE, ven, vec, vev, rfl, hv, lc⟩ := hap.v (Later.size hS)
          have HV := Lib.hid hv
          replace hS : (fun W : World => Later wc W) y3 := Later.trans hS lc
          have HA := Lib.hid (HA.out.later lc)
          have HB := Lib.hid (HB.out.later lc)
          refine hK _ _ hS fun wq hwq => ?_
          subst hwq
          clear hK hap hv lc
          (try simp only [Act.put, List.setIfInBounds_toArray, List.set_cons_zero, List.set_cons_succ])
          refine wpAnyK_take (fun _ => rfl) (fun _ _ _ h k => h.trans k) (fun _ _ h k => k ▸ h) (i := 6) (oi := ⟨some 143, _, _, _, _, _⟩) (v := ?_) rfl (by kernel_rfl) (by kernel_rfl) (by kernel_rfl) (fun _ _ _ h => h) (Or.inl (Or.inl ⟨by rfl, ?_⟩)) hS ?_
          rotate_left
          focus ((intro w hSw; (try dsimp only at hSw); skip; go_simp); (try with_reducible rfl))
          intro wq hwq
          subst hwq
          (try simp only [Act.put, List.setIfInBounds_toArray, List.set_cons_zero, List.set_cons_succ])
          refine wpAnyK_take (fun _ => rfl) (fun _ _ _ h k => h.trans k) (fun _ _ h k => k ▸ h) (i := 7) (oi := ⟨some 150, _, _, _, _, _⟩) (v := ?_) rfl (by kernel_rfl) (by kernel_rfl) (by kernel_rfl) (fun _ _ _ h => h) (Or.inl (Or.inl ⟨by rfl, ?_⟩)) hS ?_
          rotate_left
          focus ((intro w hSw; (try dsimp only at hSw); skip; go_simp); (try with_reducible rfl))
          intro wq hwq
          subst hwq
          (try simp only [Act.put, List.setIfInBounds_toArray, List.set_cons_zero, List.set_cons_succ])
          refine wpAnyK_take (fun _ => rfl) (fun _ _ _ h k => h.trans k) (fun _ _ h k => k ▸ h) (i := 8) (oi := ⟨some 151, _, _, _, _, _⟩) (v := ?_) rfl (by kernel_rfl) (by kernel_rfl) (by kernel_rfl) (fun _ _ _ h => h) (Or.inl (Or.inl ⟨by rfl, ?_⟩)) hS ?_
          rotate_left
          focus ((intro w hSw; (try dsimp only at hSw); skip; go_simp); (try with_reducible rfl))
          intro wq hwq
          subst hwq
          (try simp only [Act.put, List.setIfInBounds_toArray, List.set_cons_zero, List.set_cons_succ])
          refine wpAnyK_take (fun _ => rfl) (fun _ _ _ h k => h.trans k) (fun _ _ h k => k ▸ h) (i := 9) (oi := ⟨some 152, _, _, _, _, _⟩) (v := ?_) rfl (by kernel_rfl) (by kernel_rfl) (by kernel_rfl) (fun _ _ _ h => h) (Or.inl (Or.inl ⟨by rfl, ?_⟩)) hS ?_
          rotate_left
          focus ((intro w hSw; (try dsimp only at hSw); skip; go_simp); (try with_reducible rfl))
          intro wq hwq
          subst hwq
          (try simp only [Act.put, List.setIfInBounds_toArray, List.set_cons_zero, List.set_cons_succ])
          have hab : ga ≠ gb := ne_typ HA.out HB.out (by decide)
          refine wpAnyK_all (rs := [12]) (by kernel_rfl) (by simp) (fun i hi => ?_)
          simp only [List.mem_cons, List.not_mem_nil, or_false] at hi
          subst hi
          refine stepK (o := ⟨none, _, _, _, _, _⟩) rfl (fun K hK => ?_)
          rw [if_pos (by rfl)]
          refine wp_store_mid 24 _ _ rfl ga 0 #[.slice VA vn vcp, .int .i64 vlast] rfl rfl (fun j hj => by rw [Nat.zero_add]; have hj2 : j < 2 := hj; exact ⟨by rw [cell_of_row y3 ga j _ _ _ HA.out, Array.getElem?_eq_getElem (by exact hj2)]; rfl, HA.out.frozen j⟩) (by kernel_rfl) (by simp [Value.oneCell']) ?_
          have hA2 := Blk.fill zS [.slice VA vn vcp, .int .i64 vlast] HA.out rfl
          have hB2 := HB.out.aside hab.symm 0 [.slice VA vn vcp, .int .i64 vlast]
          have hV2 := HV.out.fill HA.out (by decide) (by decide) 0 [.slice VA vn vcp, .int .i64 vlast]
          have hS : (fun W : World => Later wc W) (y3.setCells ga 0 [.slice VA vn vcp, .int .i64 vlast]) := Later.fill hS HGA.out 0 _
          refine hK _ _ hS fun wq hwq => ?_
          obtain ⟨z1, hz1⟩ : ∃ x, y3.setCells ga 0 [.slice VA vn vcp, .int .i64 vlast] = x := ⟨_, rfl⟩
          rw [hz1] at hA2 hB2 hV2 hS
          have hz2 : z1 = wq := hz1.symm.trans hwq
          subst hz2
          clear hK hwq hz1
          (try simp only [Act.put])
          refine wpAnyK_all (rs := [13]) (by kernel_rfl) (by simp) (fun i hi => ?_)
          simp only [List.mem_cons, List.not_mem_nil, or_false] at hi
          subst hi
          refine stepK (o := ⟨none, _, _, _, _, _⟩) rfl (fun K hK => ?_)
          rw [if_pos (by rfl)]
          refine wp_store_mid 27 _ _ rfl gb 0 #[.int .i64 vsb, .int .i64 vpb, .int .i64 vparts, .slice VE ven vec] rfl rfl (fun j hj => by rw [Nat.zero_add]; have hj2 : j < 4 := hj; exact ⟨by rw [cell_of_row z1 gb j _ _ _ hB2, Array.getElem?_eq_getElem (by exact hj2)]; rfl, hB2.frozen j⟩) (by kernel_rfl) (by simp [Value.oneCell']) ?_
          have hB3 := Blk.fill zL [.int .i64 vsb, .int .i64 vpb, .int .i64 vparts, .slice VE ven vec] hB2 rfl
          have hA3 := hA2.aside hab 0 [.int .i64 vsb, .int .i64 vpb, .int .i64 vparts, .slice VE ven vec]
          have hV3 := hV2.fill hB2 (by decide) (by decide) 0 [.int .i64 vsb, .int .i64 vpb, .int .i64 vparts, .slice VE ven vec]
          have hS : (fun W : World => Later wc W) (z1.setCells gb 0 [.int .i64 vsb, .int .i64 vpb, .int .i64 vparts, .slice VE ven vec]) := Later.fill hS HGB.out 0 _
          refine hK _ _ hS fun wq hwq => ?_
          obtain ⟨z2, hz1⟩ : ∃ x, z1.setCells gb 0 [.int .i64 vsb, .int .i64 vpb, .int .i64 vparts, .slice VE ven vec] = x := ⟨_, rfl⟩
          rw [hz1] at hA3 hB3 hV3 hS
          have hz2 : z2 = wq := hz1.symm.trans hwq
          subst hz2
          clear hK hwq hz1 hA2 hB2 hV2
          (try simp only [Act.put])
          refine wpAnyK_take (fun _ => rfl) (fun _ _ _ h k => h.trans k) (fun _ _ h k => k ▸ h) (i := 14) (oi := ⟨some 24, _, _, _, _, _⟩) (v := ?_) rfl (by kernel_rfl) (by kernel_rfl) (by kernel_rfl) (fun _ _ _ h => h) (Or.inl (Or.inl ⟨by rfl, ?_⟩)) hS ?_
          rotate_left
          focus ((intro w hSw; (try dsimp only at hSw); skip; go_simp); (try with_reducible rfl))
          intro wq hwq
          subst hwq
          (try simp only [Act.put, List.setIfInBounds_toArray, List.set_cons_zero, List.set_cons_succ])
          refine wpAnyK_done (by kernel_rfl) ?_ _
          go_wp2_with fail
          go_meet
          exact ⟨ga, gb, VA, vn, vcp, vlast, vsb, vpb, vparts, VE, ven, vec, vev, rfl, rfl, rfl, hV3, hA3, hB3, hab, HGA.out, HGB.out, hS⟩
       case rest =>
        obtain ⟨g41, g42, A4, n4, cp4, last4, sb4, pb4, parts4, E4, en4, ec4, e4, rfl, rfl, rfl, hv4, hA4, hB4, _, _, _, lx4⟩ := hcut
        rcases hv4 with ⟨kk, hkk, _⟩ | ⟨s4, gv4, ge4, hs4, rfl, rfl, hn4, hla4, _, _, _, rfl, hen4, o41, o42, _⟩
        ·
         rw [sf_r4] at hkk; cases hkk
        ·
         rw [sf_r4] at hs4
         injection hs4 with hs4
         subst hs4
         obtain rfl : n4 = 5 := hn4
         obtain rfl : en4 = 5 := hen4
         obtain ⟨b4, f4, hA41, c40, c41, c42⟩ := (Has.ownG o41).col3 4 (by decide)
         injection hA41 with hA41
         injection hA41 with x41 x42
         subst x41 x42
         obtain ⟨b5, f5, hA42, c44⟩ := (Has.ownG o42).ein 4 (by decide)
         obtain ⟨b6, f6, hA43, c43⟩ := (Has.ownG o42).ein 3 (by decide)
         injection hA42 with hA42
         injection hA42 with x41 x42
         subst x41 x42
         injection hA43 with hA43
         injection hA43 with x41 x42
         subst x41 x42
         have k40 : wc.cell? ⟨gv4, 12, none⟩ = some (.int .i64 7) := by rw [Nat.zero_add] at c40; exact c40
         have k41 : wc.cell? ⟨gv4, 13, none⟩ = some (.string nN) := by rw [Nat.zero_add] at c41; exact c41
         have k44 : wc.cell? ⟨ge4, 4, none⟩ = some (.int .i64 1) := by rw [Nat.zero_add] at c44; exact c44
         have k43 : wc.cell? ⟨ge4, 3, none⟩ = some (.int .i64 1) := by rw [Nat.zero_add] at c43; exact c43
         have p40 := hA4.cell 0 _ rfl
         have p43 := hB4.cell 3 _ rfl
         have HL4 := Lib.hid (HL3'.out.trans lx4)
         clear o41 o42 c40 c41 c42 c43 c44 hA4 hB4 lx4 HAP HQ9 hla4
         go_wp2_with fail
         go_ret
         exact ⟨rfl, HLW.out.trans HL4.out⟩
end Go.Proofs.YtklohbglkbhjhaaDoor
