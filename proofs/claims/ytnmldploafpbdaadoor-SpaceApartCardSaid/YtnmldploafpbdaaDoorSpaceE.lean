/- The walks of package space: Copy, and what no space tells. -/
import Derived.Test.YtnmldploafpbdaaDoorSpaceD
import Derived.Deep.RegionHeld3
namespace Go.Proofs.YtnmldploafpbdaaDoor
open Go.RowKit
set_option linter.unusedVariables false

/-- A copy. -/
def CopyP (f : Int) (l : List Bool) (w : World) (e : Ending) (w' : World) : Prop :=
  ∃ p g c, e = .returned (sptr p) ∧ Spc w' p f l g c ∧ Later w w' ∧ w.heap.size ≤ p ∧ w.heap.size ≤ g
theorem Spc.has {w : World} {p g c : Nat} {f : Int} {l : List Bool} (h : Spc w p f l g c) : Has w (some ⟨g, 0, none⟩) (bools l) := Has.own h.2.2
theorem CopyP.mk {f : Int} {l : List Bool} {w w1 : World} {g c n : Nat} (hn : n = l.length) (ho : w1.ownsRow w.heap.size 4 1 (.slice (some ⟨g, 0, none⟩) n c) n (bools l)) (hl : Later w w1) :
    CopyP f l w (.returned (.pointer (some ⟨w1.heap.size, 0, none⟩))) (w1.alloc (.cells #[.int .i64 f, .slice (some ⟨g, 0, none⟩) n c] 53)) := by
  subst hn
  have hb : w.heap.size ≤ g ∧ g < w1.heap.size := ho.lt g rfl
  refine ⟨w1.heap.size, g, c, rfl, ⟨Blk.new _ _ _ _ rfl, by omega, ?_⟩, hl.alloc _, hl.size, hb.1⟩
  obtain ⟨h1, h2⟩ := own_later ho (Later.new w1 (.cells #[.int .i64 f, .slice (some ⟨g, 0, none⟩) l.length c] 53))
  refine ⟨h1, ?_⟩
  rcases h2 with h2 | ⟨g', cap', cur, ha, hb, hg, hrest⟩
  · exact .inl h2
  · exact .inr ⟨g', cap', cur, ha, Nat.zero_le _, hg, hrest⟩

set_option maxRecDepth 100000 in
set_option maxHeartbeats 2000000 in
theorem spaceCopy_any (p : Nat) (f : Int) (l : List Bool) (g c : Nat) (w : World) (h : Spc w p f l g c) (hl : l.length ≤ 4000) :
    Calls Tryd.prog 17 #[sptr p] w (CopyP f l w) := by
  obtain ⟨n, hn⟩ : ∃ n, n = l.length := ⟨_, rfl⟩
  have HC := Lib.hid (fun w' (L : Later w w') => boolClone_any g n c l w' hn (by omega) (h.later L).has)
  have k0 : CellIs w.drew ⟨p, 0, none⟩ (.int .i64 f) := CellIs.drew h.at0
  have k1 : CellIs w.drew ⟨p, 1, none⟩ (.slice (some ⟨g, 0, none⟩) n c) := by rw [hn]; exact CellIs.drew h.at1
  have HN := Lib.hid hn
  have lz := (Later.refl w).drew
  clear h hl hn
  go_enter Tryd.func17, Tryd.ntmps17
  go_wp2_with fail
  go_region_held3 (fun w' => w'.cell? ⟨p, 0, none⟩ = some (.int .i64 f) ∧ w'.cell? ⟨p, 1, none⟩ = some (.slice (some ⟨g, 0, none⟩) n c)) (first | exact ⟨k0.out, k1.out⟩ | exact ⟨(k0.later (Later.new _ _)).out, (k1.later (Later.new _ _)).out⟩) (first | (go_at_call 31; refine (HC.out _ lz).mono ?_; rintro e wX ⟨g', c', rfl, oX, lX⟩; have oX := own_mono oX lz.size; have lz := lz.trans lX; have k0 := k0.later lX; have k1 := k1.later lX; clear lX))
  all_goals go_wp2_with fail
  all_goals go_ret
  all_goals exact CopyP.mk HN.out oX lz

set_option maxRecDepth 100000 in
theorem nilUsed_any (w : World) : Calls Tryd.prog 20 #[.pointer none] w fun e w' => e = .returned (.int .i64 0) ∧ w' = w := by
  go_enter Tryd.func20, Tryd.ntmps20
  go_wp2_with fail
  go_ret
  exact ⟨rfl, rfl⟩
set_option maxRecDepth 100000 in
theorem nilCopy_any (w : World) : Calls Tryd.prog 17 #[.pointer none] w fun e w' => e = .returned (.pointer none) ∧ w' = w := by
  go_enter Tryd.func17, Tryd.ntmps17
  go_wp2_with fail
  go_ret
  exact ⟨rfl, rfl⟩
set_option maxRecDepth 100000 in
set_option maxHeartbeats 1000000 in
theorem nilCheck_any (a n : Int) (b : Bool) (aB aO : Addr) (w : World) (hs : S19 w aB aO) :
    Calls Tryd.prog 36 #[.pointer none, ext a n, .bool b] w (Wrapd aB w) := by
  have HL := Lib.hid (Later.new w (.cells #[.int .i64 a, .int .i64 n] 30))
  have BE := Blk.new w #[.int .i64 a, .int .i64 n] 30 w.heap.size rfl
  have b0 := BE.cell 0 _ rfl
  have b1 := BE.cell 1 _ rfl
  have hgs := (hs.later HL.out).1.1
  obtain ⟨w1, hw1⟩ : ∃ x, w.alloc (.cells #[.int .i64 a, .int .i64 n] 30) = x := ⟨_, rfl⟩
  rw [hw1] at b0 b1 HL hgs
  obtain ⟨ge, hge⟩ : ∃ x, w.heap.size = x := ⟨_, rfl⟩
  rw [hge] at b0 b1
  clear BE hs
  go_enter Tryd.func36, Tryd.ntmps36
  go_wp2_with fail
  go_quiet (fail)
  go_wp2_with (go_at_call 40; refine (at_any _ _ _ _ _ rfl).mono ?_; rintro e w' ⟨rfl, rfl⟩)
  go_ret
  exact ⟨_, rfl, CellIs.new _ _ _ _ 2 _ rfl rfl, (HL.out.drewN _).alloc _⟩
theorem nilTurn_any (a n : Int) (t : Bool) (aB aO : Addr) (w : World) (hs : S19 w aB aO) :
    Calls Tryd.prog 29 #[.pointer none, ext a n, .bool t] w fun e w' => e = .returned (.bool false) ∧ Later w w' :=
  spaceTurn_no (.pointer none) a n t aB aO aB w hs (.inl rfl) (fun w1 l1 => nilCheck_any a n (!t) aB aO w1 (hs.later l1))
theorem nilMark_any (a n : Int) (aB aO : Addr) (w : World) (hs : S19 w aB aO) :
    Calls Tryd.prog 13 #[.pointer none, ext a n] w fun e w' => e = .returned (.bool false) ∧ Later w w' :=
  spaceMark_of _ a n _ w (fun w1 l1 => (nilTurn_any a n true aB aO w1 (hs.later l1)).mono fun _ _ h => ⟨h.1, l1.trans h.2⟩) fun e w' h => ⟨_, h.1⟩
theorem nilFree_any (a n : Int) (aB aO : Addr) (w : World) (hs : S19 w aB aO) :
    Calls Tryd.prog 15 #[.pointer none, ext a n] w fun e w' => e = .returned (.bool false) ∧ Later w w' :=
  spaceFree_of _ a n _ w (fun w1 l1 => (nilTurn_any a n false aB aO w1 (hs.later l1)).mono fun _ _ h => ⟨h.1, l1.trans h.2⟩) fun e w' h => ⟨_, h.1⟩

/-- What Mark and Free leave. -/
def TurnP (p : Nat) (f : Int) (l : List Bool) (g c : Nat) (a n : Int) (t : Bool) (w : World) (e : Ending) (w' : World) : Prop :=
  e = .returned (.bool (turnS f l a n t).isSome) ∧ Spc w' p f ((turnS f l a n t).getD l) g c ∧ w.grownBy w' (some g)
theorem spaceMark_any (p : Nat) (f : Int) (l : List Bool) (g c : Nat) (a n : Int) (aB aO : Addr) (w : World) (h : Spc w p f l g c) (hs : S19 w aB aO) (hf : 0 ≤ f) (hf2 : f ≤ 1099511627776) (hl : l.length ≤ 4000) (ha : a ≤ 9223372036854775807) :
    Calls Tryd.prog 13 #[sptr p, ext a n] w (TurnP p f l g c a n true w) :=
  spaceMark_of _ a n _ w (fun w1 l1 => (spaceTurn_any p f l g c a n true aB aO w1 (h.later l1) (hs.later l1) hf hf2 hl ha).mono fun _ _ h => ⟨h.1, h.2.1, only_trans (l1.grown _) h.2.2⟩) fun e w' h => ⟨_, h.1⟩
theorem spaceFree_any (p : Nat) (f : Int) (l : List Bool) (g c : Nat) (a n : Int) (aB aO : Addr) (w : World) (h : Spc w p f l g c) (hs : S19 w aB aO) (hf : 0 ≤ f) (hf2 : f ≤ 1099511627776) (hl : l.length ≤ 4000) (ha : a ≤ 9223372036854775807) :
    Calls Tryd.prog 15 #[sptr p, ext a n] w (TurnP p f l g c a n false w) :=
  spaceFree_of _ a n _ w (fun w1 l1 => (spaceTurn_any p f l g c a n false aB aO w1 (h.later l1) (hs.later l1) hf hf2 hl ha).mono fun _ _ h => ⟨h.1, h.2.1, only_trans (l1.grown _) h.2.2⟩) fun e w' h => ⟨_, h.1⟩
theorem turnS_len {f : Int} {l : List Bool} {a n : Int} {t : Bool} : ((turnS f l a n t).getD l).length = l.length := by
  unfold turnS
  split
  · rename_i h
    exact setL_len t (by omega)
  · rfl
end Go.Proofs.YtnmldploafpbdaaDoor
