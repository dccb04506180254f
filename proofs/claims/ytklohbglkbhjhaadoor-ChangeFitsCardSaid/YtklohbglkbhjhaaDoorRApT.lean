
import Derived.Test.YtklohbglkbhjhaaDoorRApA
import Derived.Test.YtklohbglkbhjhaaDoorRowsM
import Derived.Test.YtklohbglkbhjhaaDoorBase
import Derived.Test.YtklohbglkbhjhaaDoorChgE
import Derived.Test.YtklohbglkbhjhaaDoorPlayV
import Derived.Test.YtklohbglkbhjhaaDoorPlayN
import Derived.Test.YtklohbglkbhjhaaDoorSchC
import Derived.Test.YtklohbglkbhjhaaDoorRefSch
import Derived.Test.YtklohbglkbhjhaaDoorPlayS
import Derived.Test.YtklohbglkbhjhaaDoorSchA
import Derived.WalkKit
import Derived.Laws.OwnMore
import Derived.Laws.BytesArg
import Derived.Laws.Rows
import Derived.Deep.AppendLies
import Derived.Deep.Draws
import Derived.Test.YtklohbglkbhjhaaDoorChecked
import Derived.Deep.OwnRows
import Derived.Lib.Hide
import Derived.Deep.Quiet
import Derived.Laws.AppendOwnNone
import Derived.Lib.Strings
import Derived.Outline
import Derived.WalkLawsBesides
import Derived.WalkSpells
import Derived.PlainAid
import Derived.Deep.QuietTactic
import Derived.BigQuiet
import Derived.RegionTactic
import Derived.BigRegion
import Derived.Handy
import Derived.Laws.BitsAllLaws
import Derived.Deep.RegionWith
import Derived.Lib.AppendStr
import Derived.Deep.RegionLaw
import Derived.Maps.AppendAt
import Derived.OpenShut
import Derived.WideShapes
import Derived.ChangeArms
import Derived.Deep.Slices
import Derived.Sort.Grow
import Derived.Lib.SliceRun
import Derived.Shelf.Spec.SlicesInsert
import Derived.Lib.Overlaps
import Derived.Lib.AppendZerosOnto
import Derived.OrdersHeld
import Derived.LaidEql
import Derived.Stop.Asserts
import Derived.RowKitTokens
import Derived.Stop.IfaceNil
import Derived.Laws.BitsLemmas
import Derived.Laws.Bits64
import Derived.WalkSmall
import Derived.Lib.Bytealg
import Derived.Deep.SlicePairs
import Derived.Deep.CutBlock
import Derived.Shelf.Abstract
import Derived.Lib.QuietBelow
import Derived.Deep.CutRange
import Derived.Deep.MidRow
/- The document's turn. (tools/gen_rapturn.py) -/



namespace Go.Proofs.YtklohbglkbhjhaaDoor
open Go.RowKit
set_option linter.unusedVariables false

theorem has_drop {w : World} {g : Nat} {xs : List Value} (h : Has w (some ⟨g, 0, none⟩) xs) (k : Nat) : Has w (some ⟨g, k, none⟩) (xs.drop k) := by
  rcases h with h | ⟨b, off, hA, hb, hc⟩
  · subst h; exact .inl (by simp)
  · injection hA with hA
    injection hA with e1 e2
    subst e1 e2
    exact .inr ⟨g, k, rfl, hb, fun j v hv => by rw [List.getElem?_drop] at hv; have := hc (k + j) v hv; rwa [Nat.zero_add] at this⟩
theorem nameAt_len' (l : List Col3) (k : Nat) (nm : ByteArray) : (nameAt l k nm).length = l.length := by unfold nameAt; simp
theorem typeAt_len' (l : List Col3) (k : Nat) (t : Int) : (typeAt l k t).length = l.length := by unfold typeAt; simp
theorem has_take {w : World} {A : Option Addr} {xs : List Value} (h : Has w A xs) (k : Nat) : Has w A (xs.take k) := by
  rcases h with h | ⟨b, off, hA, hb, hc⟩
  · subst h; exact .inl (by simp)
  · exact .inr ⟨b, off, hA, hb, fun j v hv => by
      rw [List.getElem?_take] at hv
      by_cases hj : j < k
      · rw [if_pos hj] at hv; exact hc j v hv
      · rw [if_neg hj] at hv; cases hv⟩
theorem grown_blk {w w' : World} {q d : Nat} {cs : Array Value} {t : TypeId} (hgr : w.grownBy w' (some d)) (hb : Blk w q cs t) (hne : q ≠ d) : Blk w' q cs t := (hgr.block q hb.lt (fun e => by injection e with e; exact hne e)).trans hb
theorem erase_split {α : Type} (l : List α) (i : Nat) : l.take i ++ l.drop (i + 1) = l.eraseIdx i := (List.eraseIdx_eq_take_drop_succ ..).symm
section
variable {B gt gm : Nat} {w w' : World} {s : St3} {gv vc ge ec : Nat}
/-- Columns grow elsewhere. -/
theorem TB.app (h : TB B gt gm w s gv vc ge ec) {q : Nat} (g : w.grownBy w' (some q)) {cq : Array Value} (hq : Blk w q cq 59) (hv : gv ≠ q) : TB B gt gm w' s gv vc ge ec := by
  obtain ⟨cu, hcu⟩ := own_typ h.oe
  have n1 : gt ≠ q := ne_typ h.bs hq (by decide)
  have n2 : gm ≠ q := ne_typ h.bl hq (by decide)
  have n3 : ge ≠ q := ne_typ hcu hq (by decide)
  exact ⟨(g.block gt h.bs.lt (fun e => by injection e with e; exact n1 e)).trans h.bs, (g.block gm h.bl.lt (fun e => by injection e with e; exact n2 e)).trans h.bl, own_apart h.ov g (fun p hp e => by injection hp with hp; injection e with e; exact hv (hp.trans e)), own_apart h.oe g (fun p hp e => by injection hp with hp; injection e with e; exact n3 (hp.trans e)), h.hb⟩
theorem TB.appE (h : TB B gt gm w s gv vc ge ec) {q : Nat} (g : w.grownBy w' (some q)) {cq : Array Value} (hq : Blk w q cq 3) (hv : ge ≠ q) : TB B gt gm w' s gv vc ge ec := by
  obtain ⟨cu, hcu⟩ := own_typ h.ov
  have n1 : gt ≠ q := ne_typ h.bs hq (by decide)
  have n2 : gm ≠ q := ne_typ h.bl hq (by decide)
  have n3 : gv ≠ q := ne_typ hcu hq (by decide)
  exact ⟨(g.block gt h.bs.lt (fun e => by injection e with e; exact n1 e)).trans h.bs, (g.block gm h.bl.lt (fun e => by injection e with e; exact n2 e)).trans h.bl, own_apart h.ov g (fun p hp e => by injection hp with hp; injection e with e; exact n3 (hp.trans e)), own_apart h.oe g (fun p hp e => by injection hp with hp; injection e with e; exact hv (hp.trans e)), h.hb⟩
end

set_option maxRecDepth 100000 in
set_option maxHeartbeats 8000000 in
theorem refTurn_any (W0 : World) (gt gm : Nat) (w : World) (s : St3) (c : Chg) (gv vc ge ec : Nat) (hl : Later W0 w) (T : TB W0.heap.size gt gm w s gv vc ge ec) (hn6 : 1 ≤ s.1.length ∧ s.1.length ≤ 6) (hlen : s.2.2.enc.length = s.1.length) (hlast : 0 ≤ s.2.1 ∧ s.2.1 ≤ 10000) (hnm : c.name.size ≤ 9223372036854775807) (hk : 2 ≤ c.kind ∧ c.kind ≤ 5) :
    Calls Tryd.prog 44 #[.pointer (some ⟨gt, 0, none⟩), .pointer (some ⟨gm, 0, none⟩), cagg9 c] w (RTurnP W0 gt gm (changeM s c)) := by
  obtain ⟨kind, col, name, typ, ⟨v0, v1, v2⟩, sep, num⟩ := c
  dsimp only at hnm hk
  show Calls Tryd.prog 44 #[.pointer (some ⟨gt, 0, none⟩), .pointer (some ⟨gm, 0, none⟩), .agg #[.int .i64 kind, .int .i64 col, .string name, .int .i64 typ, .int .i64 v0, .int .i64 v1, .string v2, .int .u8 sep, .int .i64 num]] w _
  obtain ⟨ch, hch⟩ : ∃ x : Chg, x = ⟨kind, col, name, typ, (v0, v1, v2), sep, num⟩ := ⟨_, rfl⟩
  rw [← hch]
  obtain ⟨R, hR⟩ : ∃ x, changeM s ch = x := ⟨_, rfl⟩
  rw [hR]
  obtain ⟨hd, hhd⟩ : ∃ x, decide (heldM s ch) = x := ⟨_, rfl⟩
  obtain ⟨fi, hfi⟩ : ∃ x, findI s.1 col = x := ⟨_, rfl⟩
  obtain ⟨fo, hfo⟩ : ∃ x, findC s.1 name = x := ⟨_, rfl⟩
  have HNO := Lib.hid (show fi = none → R = .error 3 from fun h => hR.symm.trans (by
    subst hch
    unfold changeM
    rw [if_neg (by show ¬ kind = 1; omega), if_neg (by show ¬ kind = 6; omega), if_neg (by show ¬ kind = 7; omega), if_neg (by show ¬ kind = 8; omega), if_pos (show kind = 2 ∨ kind = 3 ∨ kind = 4 ∨ kind = 5 ∨ kind = 9 from by omega)]
    show (match findI s.1 col with | none => _ | some i => _) = _
    rw [hfi, h]))
  have HYE := Lib.hid (show ∀ i, fi = some i → R = if kind = 2 then dropM s ch i else if kind = 3 then renameM s ch i else if kind = 4 then widenM s i else splitM s ch i from fun i h => hR.symm.trans (by
    subst hch
    unfold changeM
    rw [if_neg (by show ¬ kind = 1; omega), if_neg (by show ¬ kind = 6; omega), if_neg (by show ¬ kind = 7; omega), if_neg (by show ¬ kind = 8; omega), if_pos (show kind = 2 ∨ kind = 3 ∨ kind = 4 ∨ kind = 5 ∨ kind = 9 from by omega)]
    show (match findI s.1 col with | none => _ | some i => _) = _
    rw [hfi, h]
    show (if kind = 2 then _ else if kind = 3 then _ else if kind = 4 then _ else if kind = 5 then _ else _) = _
    by_cases h5 : kind = 5
    · rw [if_pos h5]
    · rw [if_neg (by omega : ¬ kind = 5)]
      by_cases h2 : kind = 2
      · rw [if_pos h2, if_pos h2]
      · rw [if_neg h2, if_neg h2]
        by_cases h3 : kind = 3
        · rw [if_pos h3, if_pos h3]
        · rw [if_neg h3, if_neg h3, if_pos (by omega : kind = 4), if_pos (by omega : kind = 4)]))
  have HHD := Lib.hid (show hd = (decide (s.2.2.sb = col) || decide (s.2.2.pb = col)) from hhd.symm.trans (by
    subst hch
    by_cases e1 : s.2.2.sb = col
    · have : heldM s ⟨kind, col, name, typ, (v0, v1, v2), sep, num⟩ := .inl e1.symm
      simp [this, e1]
    · by_cases e2 : s.2.2.pb = col
      · have : heldM s ⟨kind, col, name, typ, (v0, v1, v2), sep, num⟩ := .inr e2.symm
        simp [this, e2]
      · have : ¬ heldM s ⟨kind, col, name, typ, (v0, v1, v2), sep, num⟩ := fun h => h.elim (fun e => e1 e.symm) (fun e => e2 e.symm)
        simp [this, e1, e2]))
  have HHE := Lib.hid (show hd = true ↔ heldM s ch from by rw [← hhd]; simp)
  have HCN := Lib.hid (show ch.name = name ∧ ch.typ = typ from by subst hch; exact ⟨rfl, rfl⟩)
  obtain ⟨q, hq⟩ : ∃ x, w.heap.size = x := ⟨_, rfl⟩
  obtain ⟨w1, hw1⟩ : ∃ x : World, w.alloc (.cells #[.int .i64 kind, .int .i64 col, .string name, .int .i64 typ, .int .i64 v0, .int .i64 v1, .string v2, .int .u8 sep, .int .i64 num] 31) = x := ⟨_, rfl⟩
  have l1 : Later w w1 := hw1 ▸ Later.new _ _
  have HBC := Lib.hid (show Blk w1 q #[.int .i64 kind, .int .i64 col, .string name, .int .i64 typ, .int .i64 v0, .int .i64 v1, .string v2, .int .u8 sep, .int .i64 num] 31 from hw1 ▸ Blk.new _ _ _ _ hq.symm)
  have HL1 := Lib.hid (hl.trans l1)
  have HT1 := Lib.hid (T.later l1)
  have HLEN := Lib.hid hlen
  have HN6 := Lib.hid hn6
  have HLA := Lib.hid hlast
  have HNM := Lib.hid hnm
  have HW1 := Lib.hid hw1
  have HQ := Lib.hid hq
  have HFO := Lib.hid hfo
  have HFI := Lib.hid hfi
  have HKK := Lib.hid hk
  clear hw1 l1 T hl hlen hR hq hn6 hlast hnm hfo hfi hhd hch hk
  go_enter Tryd.func44, Tryd.ntmps44
  go_upto_region 1 with fail
  rw [HW1.out]
  try simp only [HQ.out]
  go_cut [7, 8] from 13 to 21 (fun av bv wx => av = .int .i64 ((fi.getD 0 : Nat) : Int) ∧ bv = .bool fi.isSome ∧ Later w1 wx)
  case first => as_aux_lemma =>
    refine wp_region_K (S := (fun W : World => Later w1 W)) (R := fun a b => a = b) (fun _ => rfl) (by kernel_rfl) ?_
    obtain ⟨y0, hy0⟩ : ∃ x, (w1).drew = x := ⟨_, rfl⟩
    have ly0 : Later w1 y0 := hy0 ▸ (Later.refl w1).drew
    have hS : (fun W : World => Later w1 W) y0 := ly0
    
    rw [hy0]
    clear hy0
    refine wpAnyK_take (fun _ => rfl) (fun _ _ _ h k => h.trans k) (fun _ _ h k => k ▸ h) (i := 0) (oi := { dst := some 14, op := _, type := _, pos := _, after := _, guard := _ }) (v := ?_) rfl (by kernel_rfl) (by kernel_rfl) (by kernel_rfl) (fun _ _ _ h => h) (Or.inl (Or.inl ⟨by rfl, ?_⟩)) hS ?_
    rotate_left
    focus ((intro w hSw; (try dsimp only at hSw); have t0 := (HT1.out.later hSw).bs.cell 0 _ rfl; have t1 := (HT1.out.later hSw).bs.cell 1 _ rfl; have k2 := (HBC.out.later hSw).cell 1 _ rfl; go_simp); (try with_reducible rfl))
    intro wq hwq
    subst hwq
    (try simp only [Act.put, List.setIfInBounds_toArray, List.set_cons_zero, List.set_cons_succ])
    refine wpAnyK_take (fun _ => rfl) (fun _ _ _ h k => h.trans k) (fun _ _ h k => k ▸ h) (i := 1) (oi := { dst := some 15, op := _, type := _, pos := _, after := _, guard := _ }) (v := ?_) rfl (by kernel_rfl) (by kernel_rfl) (by kernel_rfl) (fun _ _ _ h => h) (Or.inl (Or.inl ⟨by rfl, ?_⟩)) hS ?_
    rotate_left
    focus ((intro w hSw; (try dsimp only at hSw); have t0 := (HT1.out.later hSw).bs.cell 0 _ rfl; have t1 := (HT1.out.later hSw).bs.cell 1 _ rfl; have k2 := (HBC.out.later hSw).cell 1 _ rfl; go_simp); (try with_reducible rfl))
    intro wq hwq
    subst hwq
    (try simp only [Act.put, List.setIfInBounds_toArray, List.set_cons_zero, List.set_cons_succ])
    refine wpAnyK_take (fun _ => rfl) (fun _ _ _ h k => h.trans k) (fun _ _ h k => k ▸ h) (i := 2) (oi := { dst := some 16, op := _, type := _, pos := _, after := _, guard := _ }) (v := ?_) rfl (by kernel_rfl) (by kernel_rfl) (by kernel_rfl) (fun _ _ _ h => h) (Or.inl (Or.inl ⟨by rfl, ?_⟩)) hS ?_
    rotate_left
    focus ((intro w hSw; (try dsimp only at hSw); have t0 := (HT1.out.later hSw).bs.cell 0 _ rfl; have t1 := (HT1.out.later hSw).bs.cell 1 _ rfl; have k2 := (HBC.out.later hSw).cell 1 _ rfl; go_simp); (try with_reducible rfl))
    intro wq hwq
    subst hwq
    (try simp only [Act.put, List.setIfInBounds_toArray, List.set_cons_zero, List.set_cons_succ])
    refine wpAnyK_take (fun _ => rfl) (fun _ _ _ h k => h.trans k) (fun _ _ h k => k ▸ h) (i := 3) (oi := { dst := some 17, op := _, type := _, pos := _, after := _, guard := _ }) (v := ?_) rfl (by kernel_rfl) (by kernel_rfl) (by kernel_rfl) (fun _ _ _ h => h) (Or.inl (Or.inl ⟨by rfl, ?_⟩)) hS ?_
    rotate_left
    focus ((intro w hSw; (try dsimp only at hSw); have t0 := (HT1.out.later hSw).bs.cell 0 _ rfl; have t1 := (HT1.out.later hSw).bs.cell 1 _ rfl; have k2 := (HBC.out.later hSw).cell 1 _ rfl; go_simp); (try with_reducible rfl))
    intro wq hwq
    subst hwq
    (try simp only [Act.put, List.setIfInBounds_toArray, List.set_cons_zero, List.set_cons_succ])
    refine wpAnyK_take (fun _ => rfl) (fun _ _ _ h k => h.trans k) (fun _ _ h k => k ▸ h) (i := 4) (oi := { dst := some 18, op := _, type := _, pos := _, after := _, guard := _ }) (v := ?_) rfl (by kernel_rfl) (by kernel_rfl) (by kernel_rfl) (fun _ _ _ h => h) (Or.inl (Or.inl ⟨by rfl, ?_⟩)) hS ?_
    rotate_left
    focus ((intro w hSw; (try dsimp only at hSw); have t0 := (HT1.out.later hSw).bs.cell 0 _ rfl; have t1 := (HT1.out.later hSw).bs.cell 1 _ rfl; have k2 := (HBC.out.later hSw).cell 1 _ rfl; go_simp); (try with_reducible rfl))
    intro wq hwq
    subst hwq
    (try simp only [Act.put, List.setIfInBounds_toArray, List.set_cons_zero, List.set_cons_succ])
    refine wpAnyK_all (rs := [5]) (by kernel_rfl) (by simp) (fun i hi => ?_)
    simp only [List.mem_cons, List.not_mem_nil, or_false] at hi
    subst hi
    refine stepK (o := { dst := some 19, op := _, type := _, pos := _, after := _, guard := _ }) rfl (fun K hK => ?_)
    go_simp
    refine (refByID_any (some ⟨gv, 0, none⟩) s.1.length vc s.2.1 s.1 col y0 rfl (by have := HN6.out; omega) (HT1.out.later hS).has).mono ?_
    rintro e y1 ⟨rfl, hl2⟩
    rw [HFI.out]
    replace hS : (fun W : World => Later w1 W) y1 := Later.trans hS hl2
    refine hK _ _ hS fun wq hwq => ?_
    subst hwq
    clear hK hl2
    (try simp only [Act.put, List.setIfInBounds_toArray, List.set_cons_zero, List.set_cons_succ])
    refine wpAnyK_take (fun _ => rfl) (fun _ _ _ h k => h.trans k) (fun _ _ h k => k ▸ h) (i := 6) (oi := { dst := some 13, op := _, type := _, pos := _, after := _, guard := _ }) (v := ?_) rfl (by kernel_rfl) (by kernel_rfl) (by kernel_rfl) (fun _ _ _ h => h) (Or.inl (Or.inl ⟨by rfl, ?_⟩)) hS ?_
    rotate_left
    focus ((intro w hSw; (try dsimp only at hSw); skip; go_simp); (try with_reducible rfl))
    intro wq hwq
    subst hwq
    (try simp only [Act.put, List.setIfInBounds_toArray, List.set_cons_zero, List.set_cons_succ])
    refine wpAnyK_take (fun _ => rfl) (fun _ _ _ h k => h.trans k) (fun _ _ h k => k ▸ h) (i := 7) (oi := { dst := some 20, op := _, type := _, pos := _, after := _, guard := _ }) (v := ?_) rfl (by kernel_rfl) (by kernel_rfl) (by kernel_rfl) (fun _ _ _ h => h) (Or.inl (Or.inl ⟨by rfl, ?_⟩)) hS ?_
    rotate_left
    focus ((intro w hSw; (try dsimp only at hSw); skip; go_simp); (try with_reducible rfl))
    intro wq hwq
    subst hwq
    (try simp only [Act.put, List.setIfInBounds_toArray, List.set_cons_zero, List.set_cons_succ])
    refine wpAnyK_take (fun _ => rfl) (fun _ _ _ h k => h.trans k) (fun _ _ h k => k ▸ h) (i := 8) (oi := { dst := some 21, op := _, type := _, pos := _, after := _, guard := _ }) (v := ?_) rfl (by kernel_rfl) (by kernel_rfl) (by kernel_rfl) (fun _ _ _ h => h) (Or.inl (Or.inl ⟨by rfl, ?_⟩)) hS ?_
    rotate_left
    focus ((intro w hSw; (try dsimp only at hSw); skip; go_simp); (try with_reducible rfl))
    intro wq hwq
    subst hwq
    (try simp only [Act.put, List.setIfInBounds_toArray, List.set_cons_zero, List.set_cons_succ])
    refine wpAnyK_take (fun _ => rfl) (fun _ _ _ h k => h.trans k) (fun _ _ h k => k ▸ h) (i := 9) (oi := { dst := some 7, op := _, type := _, pos := _, after := _, guard := _ }) (v := ?_) rfl (by kernel_rfl) (by kernel_rfl) (by kernel_rfl) (fun _ _ _ h => h) (Or.inl (Or.inl ⟨by rfl, ?_⟩)) hS ?_
    rotate_left
    focus ((intro w hSw; (try dsimp only at hSw); skip; go_simp); (try with_reducible rfl))
    intro wq hwq
    subst hwq
    (try simp only [Act.put, List.setIfInBounds_toArray, List.set_cons_zero, List.set_cons_succ])
    refine wpAnyK_take (fun _ => rfl) (fun _ _ _ h k => h.trans k) (fun _ _ h k => k ▸ h) (i := 10) (oi := { dst := some 8, op := _, type := _, pos := _, after := _, guard := _ }) (v := ?_) rfl (by kernel_rfl) (by kernel_rfl) (by kernel_rfl) (fun _ _ _ h => h) (Or.inl (Or.inl ⟨by rfl, ?_⟩)) hS ?_
    rotate_left
    focus ((intro w hSw; (try dsimp only at hSw); skip; go_simp); (try with_reducible rfl))
    intro wq hwq
    subst hwq
    (try simp only [Act.put, List.setIfInBounds_toArray, List.set_cons_zero, List.set_cons_succ])
    refine wpAnyK_done (by kernel_rfl) ?_ _
    go_wp2_with fail
    go_meet
    exact ⟨rfl, rfl, hS⟩
  case rest =>
  obtain ⟨rfl, rfl, lx⟩ := hcut
  have HL2 := Lib.hid (HL1.out.trans lx)
  have HT2 := Lib.hid (HT1.out.later lx)
  have HB2 := Lib.hid (HBC.out.later lx)
  clear lx HL1 HT1 HBC HW1 HQ
  rcases hf : fi with _ | i
  · have HX := Lib.hid (HNO.out hf)
    simp only [Option.getD_none, Option.isSome_none]
    go_wp2_with fail
    go_ret
    exact RTurnP.no 3 HX.out (by decide) HL2.out
  have HYI := Lib.hid (HYE.out i hf)
  obtain ⟨hil, -⟩ := findI_lt (HFI.out.trans hf)
  have HIL := Lib.hid hil
  simp only [Option.getD_some, Option.isSome_some]
  clear HNO HYE hf hil HFI
  go_upto_region 4 with fail
  go_cut [9] from 24 to 39 (fun bv wx => bv = .bool hd ∧ Later wc wx)
  case first => as_aux_lemma =>
    have m0 := HT2.out.bl.cell 0 _ rfl
    have m1 := HT2.out.bl.cell 1 _ rfl
    have k1 := HB2.out.cell 1 _ rfl
    have hhd := HHD.out
    by_cases e1 : s.2.2.sb = col
    · have z1 : (s.2.2.sb == col) = true := by simp [e1]
      have hx : hd = true := by rw [hhd]; simp [e1]
      have HX := Lib.hid hx
      clear hx hhd e1
      go_quiet (fail)
      go_wp2_with fail
      go_meet
      exact ⟨by rw [HX.out], (Later.refl _).drewN _⟩
    · have z1 : (s.2.2.sb == col) = false := by simp [e1]
      by_cases e2 : s.2.2.pb = col
      · have z2 : (s.2.2.pb == col) = true := by simp [e2]
        have hx : hd = true := by rw [hhd]; simp [e2]
        have HX := Lib.hid hx
        clear hx hhd e1 e2
        go_quiet (fail)
        go_wp2_with fail
        go_meet
        exact ⟨by rw [HX.out], (Later.refl _).drewN _⟩
      · have z2 : (s.2.2.pb == col) = false := by simp [e2]
        have hx : hd = false := by rw [hhd]; simp [e1, e2]
        have HX := Lib.hid hx
        clear hx hhd e1 e2
        go_quiet (fail)
        go_wp2_with fail
        go_meet
        exact ⟨by rw [HX.out], (Later.refl _).drewN _⟩
  case rest =>
  obtain ⟨rfl, lx⟩ := hcut
  have HL3 := Lib.hid (HL2.out.trans lx)
  have HT3 := Lib.hid (HT2.out.later lx)
  have HB3 := Lib.hid (HB2.out.later lx)
  clear lx HL2 HT2 HB2 HHD
  obtain ⟨w3, hw3⟩ : ∃ x, x = wc := ⟨_, rfl⟩
  rw [← hw3] at HL3 HT3 HB3 ⊢
  clear hw3
  go_upto_region 5 with fail
  go_cut [10, 11] from 40 to 48 (fun av bv wx => av = .int .i64 ((fo.getD 0 : Nat) : Int) ∧ bv = .bool fo.isSome ∧ Later w3 wx)
  case first => as_aux_lemma =>
    refine wp_region_K (S := (fun W : World => Later w3 W)) (R := fun a b => a = b) (fun _ => rfl) (by kernel_rfl) ?_
    obtain ⟨y0, hy0⟩ : ∃ x, (w3).drew = x := ⟨_, rfl⟩
    have ly0 : Later w3 y0 := hy0 ▸ (Later.refl w3).drew
    have hS : (fun W : World => Later w3 W) y0 := ly0
    
    rw [hy0]
    clear hy0
    refine wpAnyK_take (fun _ => rfl) (fun _ _ _ h k => h.trans k) (fun _ _ h k => k ▸ h) (i := 0) (oi := { dst := some 41, op := _, type := _, pos := _, after := _, guard := _ }) (v := ?_) rfl (by kernel_rfl) (by kernel_rfl) (by kernel_rfl) (fun _ _ _ h => h) (Or.inl (Or.inl ⟨by rfl, ?_⟩)) hS ?_
    rotate_left
    focus ((intro w hSw; (try dsimp only at hSw); have t0 := (HT3.out.later hSw).bs.cell 0 _ rfl; have t1 := (HT3.out.later hSw).bs.cell 1 _ rfl; have k2 := (HB3.out.later hSw).cell 2 _ rfl; go_simp); (try with_reducible rfl))
    intro wq hwq
    subst hwq
    (try simp only [Act.put, List.setIfInBounds_toArray, List.set_cons_zero, List.set_cons_succ])
    refine wpAnyK_take (fun _ => rfl) (fun _ _ _ h k => h.trans k) (fun _ _ h k => k ▸ h) (i := 1) (oi := { dst := some 42, op := _, type := _, pos := _, after := _, guard := _ }) (v := ?_) rfl (by kernel_rfl) (by kernel_rfl) (by kernel_rfl) (fun _ _ _ h => h) (Or.inl (Or.inl ⟨by rfl, ?_⟩)) hS ?_
    rotate_left
    focus ((intro w hSw; (try dsimp only at hSw); have t0 := (HT3.out.later hSw).bs.cell 0 _ rfl; have t1 := (HT3.out.later hSw).bs.cell 1 _ rfl; have k2 := (HB3.out.later hSw).cell 2 _ rfl; go_simp); (try with_reducible rfl))
    intro wq hwq
    subst hwq
    (try simp only [Act.put, List.setIfInBounds_toArray, List.set_cons_zero, List.set_cons_succ])
    refine wpAnyK_take (fun _ => rfl) (fun _ _ _ h k => h.trans k) (fun _ _ h k => k ▸ h) (i := 2) (oi := { dst := some 43, op := _, type := _, pos := _, after := _, guard := _ }) (v := ?_) rfl (by kernel_rfl) (by kernel_rfl) (by kernel_rfl) (fun _ _ _ h => h) (Or.inl (Or.inl ⟨by rfl, ?_⟩)) hS ?_
    rotate_left
    focus ((intro w hSw; (try dsimp only at hSw); have t0 := (HT3.out.later hSw).bs.cell 0 _ rfl; have t1 := (HT3.out.later hSw).bs.cell 1 _ rfl; have k2 := (HB3.out.later hSw).cell 2 _ rfl; go_simp); (try with_reducible rfl))
    intro wq hwq
    subst hwq
    (try simp only [Act.put, List.setIfInBounds_toArray, List.set_cons_zero, List.set_cons_succ])
    refine wpAnyK_take (fun _ => rfl) (fun _ _ _ h k => h.trans k) (fun _ _ h k => k ▸ h) (i := 3) (oi := { dst := some 44, op := _, type := _, pos := _, after := _, guard := _ }) (v := ?_) rfl (by kernel_rfl) (by kernel_rfl) (by kernel_rfl) (fun _ _ _ h => h) (Or.inl (Or.inl ⟨by rfl, ?_⟩)) hS ?_
    rotate_left
    focus ((intro w hSw; (try dsimp only at hSw); have t0 := (HT3.out.later hSw).bs.cell 0 _ rfl; have t1 := (HT3.out.later hSw).bs.cell 1 _ rfl; have k2 := (HB3.out.later hSw).cell 2 _ rfl; go_simp); (try with_reducible rfl))
    intro wq hwq
    subst hwq
    (try simp only [Act.put, List.setIfInBounds_toArray, List.set_cons_zero, List.set_cons_succ])
    refine wpAnyK_take (fun _ => rfl) (fun _ _ _ h k => h.trans k) (fun _ _ h k => k ▸ h) (i := 4) (oi := { dst := some 45, op := _, type := _, pos := _, after := _, guard := _ }) (v := ?_) rfl (by kernel_rfl) (by kernel_rfl) (by kernel_rfl) (fun _ _ _ h => h) (Or.inl (Or.inl ⟨by rfl, ?_⟩)) hS ?_
    rotate_left
    focus ((intro w hSw; (try dsimp only at hSw); have t0 := (HT3.out.later hSw).bs.cell 0 _ rfl; have t1 := (HT3.out.later hSw).bs.cell 1 _ rfl; have k2 := (HB3.out.later hSw).cell 2 _ rfl; go_simp); (try with_reducible rfl))
    intro wq hwq
    subst hwq
    (try simp only [Act.put, List.setIfInBounds_toArray, List.set_cons_zero, List.set_cons_succ])
    refine wpAnyK_all (rs := [5]) (by kernel_rfl) (by simp) (fun i hi => ?_)
    simp only [List.mem_cons, List.not_mem_nil, or_false] at hi
    subst hi
    refine stepK (o := { dst := some 46, op := _, type := _, pos := _, after := _, guard := _ }) rfl (fun K hK => ?_)
    go_simp
    refine (refFind_any (some ⟨gv, 0, none⟩) s.1.length vc s.2.1 s.1 name y0 rfl (by have := HN6.out; omega) (HT3.out.later hS).has).mono ?_
    rintro e y1 ⟨rfl, hl2⟩
    rw [HFO.out]
    replace hS : (fun W : World => Later w3 W) y1 := Later.trans hS hl2
    refine hK _ _ hS fun wq hwq => ?_
    subst hwq
    clear hK hl2
    (try simp only [Act.put, List.setIfInBounds_toArray, List.set_cons_zero, List.set_cons_succ])
    refine wpAnyK_take (fun _ => rfl) (fun _ _ _ h k => h.trans k) (fun _ _ h k => k ▸ h) (i := 6) (oi := { dst := some 40, op := _, type := _, pos := _, after := _, guard := _ }) (v := ?_) rfl (by kernel_rfl) (by kernel_rfl) (by kernel_rfl) (fun _ _ _ h => h) (Or.inl (Or.inl ⟨by rfl, ?_⟩)) hS ?_
    rotate_left
    focus ((intro w hSw; (try dsimp only at hSw); skip; go_simp); (try with_reducible rfl))
    intro wq hwq
    subst hwq
    (try simp only [Act.put, List.setIfInBounds_toArray, List.set_cons_zero, List.set_cons_succ])
    refine wpAnyK_take (fun _ => rfl) (fun _ _ _ h k => h.trans k) (fun _ _ h k => k ▸ h) (i := 7) (oi := { dst := some 47, op := _, type := _, pos := _, after := _, guard := _ }) (v := ?_) rfl (by kernel_rfl) (by kernel_rfl) (by kernel_rfl) (fun _ _ _ h => h) (Or.inl (Or.inl ⟨by rfl, ?_⟩)) hS ?_
    rotate_left
    focus ((intro w hSw; (try dsimp only at hSw); skip; go_simp); (try with_reducible rfl))
    intro wq hwq
    subst hwq
    (try simp only [Act.put, List.setIfInBounds_toArray, List.set_cons_zero, List.set_cons_succ])
    refine wpAnyK_take (fun _ => rfl) (fun _ _ _ h k => h.trans k) (fun _ _ h k => k ▸ h) (i := 8) (oi := { dst := some 48, op := _, type := _, pos := _, after := _, guard := _ }) (v := ?_) rfl (by kernel_rfl) (by kernel_rfl) (by kernel_rfl) (fun _ _ _ h => h) (Or.inl (Or.inl ⟨by rfl, ?_⟩)) hS ?_
    rotate_left
    focus ((intro w hSw; (try dsimp only at hSw); skip; go_simp); (try with_reducible rfl))
    intro wq hwq
    subst hwq
    (try simp only [Act.put, List.setIfInBounds_toArray, List.set_cons_zero, List.set_cons_succ])
    refine wpAnyK_take (fun _ => rfl) (fun _ _ _ h k => h.trans k) (fun _ _ h k => k ▸ h) (i := 9) (oi := { dst := some 10, op := _, type := _, pos := _, after := _, guard := _ }) (v := ?_) rfl (by kernel_rfl) (by kernel_rfl) (by kernel_rfl) (fun _ _ _ h => h) (Or.inl (Or.inl ⟨by rfl, ?_⟩)) hS ?_
    rotate_left
    focus ((intro w hSw; (try dsimp only at hSw); skip; go_simp); (try with_reducible rfl))
    intro wq hwq
    subst hwq
    (try simp only [Act.put, List.setIfInBounds_toArray, List.set_cons_zero, List.set_cons_succ])
    refine wpAnyK_take (fun _ => rfl) (fun _ _ _ h k => h.trans k) (fun _ _ h k => k ▸ h) (i := 10) (oi := { dst := some 11, op := _, type := _, pos := _, after := _, guard := _ }) (v := ?_) rfl (by kernel_rfl) (by kernel_rfl) (by kernel_rfl) (fun _ _ _ h => h) (Or.inl (Or.inl ⟨by rfl, ?_⟩)) hS ?_
    rotate_left
    focus ((intro w hSw; (try dsimp only at hSw); skip; go_simp); (try with_reducible rfl))
    intro wq hwq
    subst hwq
    (try simp only [Act.put, List.setIfInBounds_toArray, List.set_cons_zero, List.set_cons_succ])
    refine wpAnyK_done (by kernel_rfl) ?_ _
    go_wp2_with fail
    go_meet
    exact ⟨rfl, rfl, hS⟩
  case rest =>
  obtain ⟨rfl, rfl, lx⟩ := hcut
  have HL4 := Lib.hid (HL3.out.trans lx)
  have HT4 := Lib.hid (HT3.out.later lx)
  have HB4 := Lib.hid (HB3.out.later lx)
  clear lx HL3 HT3 HB3
  obtain ⟨w4, hw4⟩ : ∃ x, x = wc := ⟨_, rfl⟩
  rw [← hw4] at HL4 HT4 HB4 ⊢
  clear hw4
  have k0 : w4.cell? ⟨q, 0, none⟩ = some (.int .i64 kind) := HB4.out.cell 0 _ rfl
  have t0 : w4.cell? ⟨gt, 0, none⟩ = some (.slice (some ⟨gv, 0, none⟩) s.1.length vc) := HT4.out.bs.cell 0 _ rfl
  have t1 : w4.cell? ⟨gt, 1, none⟩ = some (.int .i64 s.2.1) := HT4.out.bs.cell 1 _ rfl
  have hcap := own_capG HT4.out.ov
  have HCAP := Lib.hid (show s.1.length ≤ vc ∧ vc ≤ maxLen from ⟨hcap.1, hcap.2.1⟩)
  have hcape := own_capG HT4.out.oe
  have HCAE := Lib.hid (show s.2.2.enc.length ≤ ec ∧ ec ≤ maxLen from ⟨hcape.1, hcape.2.1⟩)
  clear hcap hcape
  have hkk := HKK.out
  by_cases k2 : kind = 2
  · subst k2
    have HY2 := Lib.hid (HYI.out.trans (if_pos rfl))
    clear HYI hkk
    by_cases y1 : s.1.length = 1
    · have HX := Lib.hid (show R = .error 1 from HY2.out.trans (if_pos (.inl y1)))
      have z1 : ((s.1.length : Int) == 1) = true := by simp; omega
      clear y1
      go_wp2_with fail
      go_ret
      exact RTurnP.no 1 HX.out (by decide) HL4.out
    have z1 : ((s.1.length : Int) == 1) = false := by simp; omega
    rcases hdd : hd with _ | _
    rotate_left
    · have HX := Lib.hid (show R = .error 1 from HY2.out.trans (if_pos (.inr (HHE.out.1 hdd))))
      subst hdd
      go_wp2_with fail
      go_ret
      exact RTurnP.no 1 HX.out (by decide) HL4.out
    have HX := Lib.hid (show R = .ok (s.1.eraseIdx i, s.2.1, { s.2.2 with enc := s.2.2.enc.eraseIdx i }) from HY2.out.trans (if_neg fun h => by
      rcases h with h | h
      · exact y1 h
      · have := HHE.out.2 h; rw [hdd] at this; cases this))
    subst hdd
    have HN2 := Lib.hid y1
    clear y1 HY2
    go_upto_region 22 with fail
    clear k0 t0 t1
    clear z1
    go_cut [6] from 155 to 171 (fun pv wx => pv = .int .i64 0 ∧ ∃ gw cw, TB W0.heap.size gt gm wx (s.1.eraseIdx i, s.2) gw cw ge ec ∧ Later W0 wx)
    case first => as_aux_lemma =>
      have HIC := Lib.hid (show (i : Int) ≤ (vc : Int) from by have := HIL.out; have := HLEN.out; have := HCAP.out; omega)
      have HI1 := Lib.hid (show (i : Int) + 1 ≤ (s.1.length : Int) from by have := HIL.out; have := HLEN.out; omega)
      obtain ⟨o2, hA2, hHA⟩ : ∃ o2, (if vc = i + 1 then (some ⟨gv, 0, none⟩ : Option Addr) else some ⟨gv, (i + 1) * 3, none⟩) = some ⟨gv, o2, none⟩ ∧ ∀ W, Has W (some ⟨gv, 0, none⟩) (fc s.1) → Has W (some ⟨gv, o2, none⟩) (fc (s.1.drop (i + 1))) := by
        by_cases h : vc = i + 1
        · refine ⟨0, if_pos h, fun W _ => .inl ?_⟩
          rw [List.drop_eq_nil_of_le (by have := HCAP.out; omega)]; rfl
        · refine ⟨(i + 1) * 3, if_neg h, fun W hh => ?_⟩
          rw [fc_drop]; exact has_drop hh _
      have HA2 := Lib.hid hA2
      have HHA := Lib.hid hHA
      have HNS := Lib.hid (show i + (s.1.length - (i + 1)) = (s.1.eraseIdx i).length from by rw [eraseIdx_len _ _ (by have := HIL.out; have := HLEN.out; omega)]; have := HIL.out; have := HLEN.out; omega)
      have HN0 := Lib.hid (show 0 < i + (s.1.length - (i + 1)) from by have := HIL.out; have := HLEN.out; have := HN2.out; omega)
      clear hA2 hHA
      refine wp_region_Z (S := (fun W : World => W.cell? ⟨gt, 0, none⟩ = some (.slice (some ⟨gv, 0, none⟩) s.1.length vc))) 17 (by kernel_rfl) ?_
      obtain ⟨y0, hy0⟩ : ∃ x, (w4).drew = x := ⟨_, rfl⟩
      have ly0 : Later w4 y0 := hy0 ▸ (Later.refl w4).drew
      have hS : (fun W : World => W.cell? ⟨gt, 0, none⟩ = some (.slice (some ⟨gv, 0, none⟩) s.1.length vc)) y0 := (HT4.out.later ly0).bs.cell 0 _ rfl
      have HTY := Lib.hid (HT4.out.later ly0)
      have HLY := Lib.hid (HL4.out.trans ly0)
      have hiw : IntKind.i64.wrap ((i : Int) + 1) = (i : Int) + 1 := IntWalk.i64_in _ ⟨by omega, by have := HIL.out; have := HN6.out; omega⟩
      rw [hy0]
      clear hy0
      refine wpAnyZ_take (i := 0) (oi := { dst := some 155, op := _, type := _, pos := _, after := _, guard := _ }) (v := ?_) rfl (by kernel_rfl) (by kernel_rfl) (by kernel_rfl) (by kernel_rfl) (fun _ _ _ h => h) (Or.inl ⟨by rfl, ?_⟩) hS ?_
      rotate_left
      focus ((intro w hSw; (try dsimp only at hSw); have d0 := hSw; go_simp); (try with_reducible rfl))
      (try simp only [Act.put, List.setIfInBounds_toArray, List.set_cons_zero, List.set_cons_succ])
      refine wpAnyZ_take (i := 1) (oi := { dst := some 156, op := _, type := _, pos := _, after := _, guard := _ }) (v := ?_) rfl (by kernel_rfl) (by kernel_rfl) (by kernel_rfl) (by kernel_rfl) (fun _ _ _ h => h) (Or.inl ⟨by rfl, ?_⟩) hS ?_
      rotate_left
      focus ((intro w hSw; (try dsimp only at hSw); have d0 := hSw; go_simp); (try with_reducible rfl))
      (try simp only [Act.put, List.setIfInBounds_toArray, List.set_cons_zero, List.set_cons_succ])
      refine wpAnyZ_take (i := 2) (oi := { dst := some 157, op := _, type := _, pos := _, after := _, guard := _ }) (v := ?_) rfl (by kernel_rfl) (by kernel_rfl) (by kernel_rfl) (by kernel_rfl) (fun _ _ _ h => h) (Or.inl ⟨by rfl, ?_⟩) hS ?_
      rotate_left
      focus ((intro w hSw; (try dsimp only at hSw); have d0 := hSw; go_simp); (try with_reducible rfl))
      (try simp only [Act.put, List.setIfInBounds_toArray, List.set_cons_zero, List.set_cons_succ])
      refine wpAnyZ_take (i := 3) (oi := { dst := some 158, op := _, type := _, pos := _, after := _, guard := _ }) (v := ?_) rfl (by kernel_rfl) (by kernel_rfl) (by kernel_rfl) (by kernel_rfl) (fun _ _ _ h => h) (Or.inl ⟨by rfl, ?_⟩) hS ?_
      rotate_left
      focus ((intro w hSw; (try dsimp only at hSw); have d0 := hSw; go_simp); (try with_reducible rfl))
      (try simp only [Act.put, List.setIfInBounds_toArray, List.set_cons_zero, List.set_cons_succ])
      refine wpAnyZ_take (i := 4) (oi := { dst := some 159, op := _, type := _, pos := _, after := _, guard := _ }) (v := ?_) rfl (by kernel_rfl) (by kernel_rfl) (by kernel_rfl) (by kernel_rfl) (fun _ _ _ h => h) (Or.inl ⟨by rfl, ?_⟩) hS ?_
      rotate_left
      focus ((intro w hSw; (try dsimp only at hSw); have d0 := hSw; go_simp); (try with_reducible rfl))
      (try simp only [Act.put, List.setIfInBounds_toArray, List.set_cons_zero, List.set_cons_succ])
      refine wpAnyZ_take (i := 5) (oi := { dst := some 160, op := _, type := _, pos := _, after := _, guard := _ }) (v := ?_) rfl (by kernel_rfl) (by kernel_rfl) (by kernel_rfl) (by kernel_rfl) (fun _ _ _ h => h) (Or.inl ⟨by rfl, ?_⟩) hS ?_
      rotate_left
      focus ((intro w hSw; (try dsimp only at hSw); have d0 := hSw; go_simp); (try with_reducible rfl))
      (try simp only [Act.put, List.setIfInBounds_toArray, List.set_cons_zero, List.set_cons_succ])
      refine wpAnyZ_take (i := 6) (oi := { dst := some 161, op := _, type := _, pos := _, after := _, guard := _ }) (v := ?_) rfl (by kernel_rfl) (by kernel_rfl) (by kernel_rfl) (by kernel_rfl) (fun _ _ _ h => h) (Or.inl ⟨by rfl, ?_⟩) hS ?_
      rotate_left
      focus ((intro w hSw; (try dsimp only at hSw); have d0 := hSw; have hi0 : (0 : Int) ≤ (i : Int) := Int.natCast_nonneg i; have hic := HIC.out; go_simp); (try with_reducible rfl))
      (try simp only [Act.put, List.setIfInBounds_toArray, List.set_cons_zero, List.set_cons_succ])
      refine wpAnyZ_take (i := 7) (oi := { dst := some 162, op := _, type := _, pos := _, after := _, guard := _ }) (v := ?_) rfl (by kernel_rfl) (by kernel_rfl) (by kernel_rfl) (by kernel_rfl) (fun _ _ _ h => h) (Or.inl ⟨by rfl, ?_⟩) hS ?_
      rotate_left
      focus ((intro w hSw; (try dsimp only at hSw); have d0 := hSw; go_simp); (try with_reducible rfl))
      (try simp only [Act.put, List.setIfInBounds_toArray, List.set_cons_zero, List.set_cons_succ])
      refine wpAnyZ_take (i := 8) (oi := { dst := some 163, op := _, type := _, pos := _, after := _, guard := _ }) (v := ?_) rfl (by kernel_rfl) (by kernel_rfl) (by kernel_rfl) (by kernel_rfl) (fun _ _ _ h => h) (Or.inl ⟨by rfl, ?_⟩) hS ?_
      rotate_left
      focus ((intro w hSw; (try dsimp only at hSw); have d0 := hSw; go_simp); (try with_reducible rfl))
      (try simp only [Act.put, List.setIfInBounds_toArray, List.set_cons_zero, List.set_cons_succ])
      refine wpAnyZ_take (i := 9) (oi := { dst := some 164, op := _, type := _, pos := _, after := _, guard := _ }) (v := ?_) rfl (by kernel_rfl) (by kernel_rfl) (by kernel_rfl) (by kernel_rfl) (fun _ _ _ h => h) (Or.inl ⟨by rfl, ?_⟩) hS ?_
      rotate_left
      focus ((intro w hSw; (try dsimp only at hSw); have d0 := hSw; go_simp); (try with_reducible rfl))
      (try simp only [Act.put, List.setIfInBounds_toArray, List.set_cons_zero, List.set_cons_succ])
      refine wpAnyZ_take (i := 10) (oi := { dst := some 165, op := _, type := _, pos := _, after := _, guard := _ }) (v := ?_) rfl (by kernel_rfl) (by kernel_rfl) (by kernel_rfl) (by kernel_rfl) (fun _ _ _ h => h) (Or.inl ⟨by rfl, ?_⟩) hS ?_
      rotate_left
      focus ((intro w hSw; (try dsimp only at hSw); have d0 := hSw; go_simp); (try with_reducible rfl))
      (try simp only [Act.put, List.setIfInBounds_toArray, List.set_cons_zero, List.set_cons_succ])
      refine wpAnyZ_take (i := 11) (oi := { dst := some 166, op := _, type := _, pos := _, after := _, guard := _ }) (v := ?_) rfl (by kernel_rfl) (by kernel_rfl) (by kernel_rfl) (by kernel_rfl) (fun _ _ _ h => h) (Or.inl ⟨by rfl, ?_⟩) hS ?_
      rotate_left
      focus ((intro w hSw; (try dsimp only at hSw); have d0 := hSw; go_simp); (try with_reducible rfl))
      (try simp only [Act.put, List.setIfInBounds_toArray, List.set_cons_zero, List.set_cons_succ])
      refine wpAnyZ_take (i := 12) (oi := { dst := some 167, op := _, type := _, pos := _, after := _, guard := _ }) (v := ?_) rfl (by kernel_rfl) (by kernel_rfl) (by kernel_rfl) (by kernel_rfl) (fun _ _ _ h => h) (Or.inl ⟨by rfl, ?_⟩) hS ?_
      rotate_left
      focus ((intro w hSw; (try dsimp only at hSw); have d0 := hSw; have hw := hiw; go_simp); (try with_reducible rfl))
      (try simp only [Act.put, List.setIfInBounds_toArray, List.set_cons_zero, List.set_cons_succ])
      refine wpAnyZ_take (i := 13) (oi := { dst := some 168, op := _, type := _, pos := _, after := _, guard := _ }) (v := ?_) rfl (by kernel_rfl) (by kernel_rfl) (by kernel_rfl) (by kernel_rfl) (fun _ _ _ h => h) (Or.inl ⟨by rfl, ?_⟩) hS ?_
      rotate_left
      focus ((intro w hSw; (try dsimp only at hSw); have hi1 := HI1.out; have hi2 : (0 : Int) ≤ (i : Int) + 1 := (by omega); have ha2 := HA2.out; go_simp); (try with_reducible rfl))
      (try simp only [Act.put, List.setIfInBounds_toArray, List.set_cons_zero, List.set_cons_succ])
      refine wpAnyZ_all (rs := [14]) (by kernel_rfl) (by simp) (fun i hi => ?_)
      simp only [List.mem_cons, List.not_mem_nil, or_false] at hi
      subst hi
      refine stepZ (o := { dst := some 169, op := _, type := _, pos := _, after := _, guard := _ }) rfl (fun K hK => ?_)
      refine step_append_x rfl (.tmp 161) (.tmp 168) 22 rfl W0.heap.size 59 _ 3 32 Tryd.underlying22 info_c rfl (by decide) (.slice (some ⟨gv, 0, none⟩) i vc) i (fc (s.1.take i)) rfl (by rw [fc_take]; exact own_cut HTY.out.ov (show i ≤ s.1.length from by have := HIL.out; have := HLEN.out; omega)) gv o2 (s.1.length - (i + 1)) (vc - (i + 1)) (fc (s.1.drop (i + 1))) rfl (HHA.out _ (Has.ownG HTY.out.ov)) (by rw [fc_length, List.length_drop]) (fc_one _) (by unfold maxLen; have := HN6.out; have := HLEN.out; have := HIL.out; omega) (by have := HN6.out; have := HLEN.out; have := HIL.out; omega) HLY.out.size ?_
      rintro A' c' wq ho hgr hbl _ _
      obtain ⟨gw, rfl⟩ := own_some ho HN0.out
      obtain ⟨cv, hcv⟩ := own_typ HTY.out.ov
      have n1 : gt ≠ gv := ne_typ HTY.out.bs hcv (by decide)
      have hb1 := (hgr.block gt HTY.out.bs.lt (fun e => by injection e with e; exact n1 e)).trans HTY.out.bs
      rw [← fc_append, erase_split] at ho
      have HTC := Lib.hid (HTY.out.cols (gv' := gw) (vc' := c') (s.1.eraseIdx i) (by rw [← HNS.out]; exact ho) hgr hcv)
      rw [← HNS.out] at HTC
      have HLQ := Lib.hid (show Later W0 (wq.setCell ⟨gt, 0, none⟩ (.slice (some ⟨gw, 0, none⟩) (i + (s.1.length - (i + 1))) c')) from lsetB gt 0 _ HTY.out.hb.1 (grow_later HLY.out hgr HTY.out.vlo))
      replace hS : (fun W : World => W.cell? ⟨gt, 0, none⟩ = some (.slice (some ⟨gv, 0, none⟩) s.1.length vc)) wq := Blk.cell hb1 0 _ rfl
      have HFZ := Lib.hid (Blk.frozen hb1 0)
      refine hK _ _ hS ?_
      clear hK ho hgr hbl hb1
      (try simp only [Act.put, List.setIfInBounds_toArray, List.set_cons_zero, List.set_cons_succ])
      refine wpAnyZ_all (rs := [15]) (by kernel_rfl) (by simp) (fun i hi => ?_)
      simp only [List.mem_cons, List.not_mem_nil, or_false] at hi
      subst hi
      refine stepZ (o := { dst := some 170, op := _, type := _, pos := _, after := _, guard := _ }) rfl (fun K hK => ?_)
      go_simp
      refine hK _ _ hS ?_
      clear hK 
      (try simp only [Act.put, List.setIfInBounds_toArray, List.set_cons_zero, List.set_cons_succ])
      refine wpAnyZ_take (i := 16) (oi := { dst := some 171, op := _, type := _, pos := _, after := _, guard := _ }) (v := ?_) rfl (by kernel_rfl) (by kernel_rfl) (by kernel_rfl) (by kernel_rfl) (fun _ _ _ h => h) (Or.inl ⟨by rfl, ?_⟩) hS ?_
      rotate_left
      focus ((intro w hSw; (try dsimp only at hSw); skip; go_simp); (try with_reducible rfl))
      (try simp only [Act.put, List.setIfInBounds_toArray, List.set_cons_zero, List.set_cons_succ])
      refine wpAnyZ_all (rs := [17]) (by kernel_rfl) (by simp) (fun i hi => ?_)
      simp only [List.mem_cons, List.not_mem_nil, or_false] at hi
      subst hi
      refine stepZl (o := { dst := none, op := _, type := _, pos := _, after := _, guard := _ }) rfl (fun K hK => ?_)
      have e0 := hS
      have f0 := HFZ.out
      go_simp
      refine hK _ _ ?_
      clear hK e0 f0
      (try simp only [Act.put])
      refine wpAnyZ_done (by kernel_rfl) ?_ _
      go_wp2_with fail
      go_meet
      exact ⟨rfl, gw, c', HTC.out, HLQ.out⟩
    case rest =>
    obtain ⟨rfl, gw, cw, hT, hL⟩ := hcut
    have HT5 := Lib.hid hT
    have HL5 := Lib.hid hL
    clear hT hL HT4 HL4 HB4 HCAP
    obtain ⟨w5, hw5⟩ : ∃ x, x = wc := ⟨_, rfl⟩
    rw [← hw5] at HT5 HL5 ⊢
    clear hw5
    go_upto_region 23 with fail
    have HIC := Lib.hid (show (i : Int) ≤ (ec : Int) from by have := HIL.out; have := HLEN.out; have := HCAE.out; omega)
    have HI1 := Lib.hid (show (i : Int) + 1 ≤ (s.2.2.enc.length : Int) from by have := HIL.out; have := HLEN.out; omega)
    obtain ⟨o2, hA2, hHA⟩ : ∃ o2, (if ec = i + 1 then (some ⟨ge, 0, none⟩ : Option Addr) else some ⟨ge, (i + 1), none⟩) = some ⟨ge, o2, none⟩ ∧ ∀ W, Has W (some ⟨ge, 0, none⟩) (ein s.2.2.enc) → Has W (some ⟨ge, o2, none⟩) (ein (s.2.2.enc.drop (i + 1))) := by
      by_cases h : ec = i + 1
      · refine ⟨0, if_pos h, fun W _ => .inl ?_⟩
        rw [List.drop_eq_nil_of_le (by have := HCAE.out; omega)]; rfl
      · refine ⟨(i + 1), if_neg h, fun W hh => ?_⟩
        rw [show ein (s.2.2.enc.drop (i + 1)) = (ein s.2.2.enc).drop (i + 1) from List.map_drop]; exact has_drop hh _
    have HA2 := Lib.hid hA2
    have HHA := Lib.hid hHA
    have HNS := Lib.hid (show i + (s.2.2.enc.length - (i + 1)) = (s.2.2.enc.eraseIdx i).length from by rw [eraseIdx_len _ _ (by have := HIL.out; have := HLEN.out; omega)]; have := HIL.out; have := HLEN.out; omega)
    have HN0 := Lib.hid (show 0 < i + (s.2.2.enc.length - (i + 1)) from by have := HIL.out; have := HLEN.out; have := HN2.out; omega)
    clear hA2 hHA
    refine wp_region_Z (S := (fun W : World => W.cell? ⟨gm, 3, none⟩ = some (.slice (some ⟨ge, 0, none⟩) s.2.2.enc.length ec))) 17 (by kernel_rfl) ?_
    obtain ⟨y0, hy0⟩ : ∃ x, (w5).drew = x := ⟨_, rfl⟩
    have ly0 : Later w5 y0 := hy0 ▸ (Later.refl w5).drew
    have hS : (fun W : World => W.cell? ⟨gm, 3, none⟩ = some (.slice (some ⟨ge, 0, none⟩) s.2.2.enc.length ec)) y0 := (HT5.out.later ly0).bl.cell 3 _ rfl
    have HTY := Lib.hid (HT5.out.later ly0)
    have HLY := Lib.hid (HL5.out.trans ly0)
    have hiw : IntKind.i64.wrap ((i : Int) + 1) = (i : Int) + 1 := IntWalk.i64_in _ ⟨by omega, by have := HIL.out; have := HN6.out; omega⟩
    rw [hy0]
    clear hy0
    refine wpAnyZ_take (i := 0) (oi := { dst := some 172, op := _, type := _, pos := _, after := _, guard := _ }) (v := ?_) rfl (by kernel_rfl) (by kernel_rfl) (by kernel_rfl) (by kernel_rfl) (fun _ _ _ h => h) (Or.inl ⟨by rfl, ?_⟩) hS ?_
    rotate_left
    focus ((intro w hSw; (try dsimp only at hSw); have d0 := hSw; go_simp); (try with_reducible rfl))
    (try simp only [Act.put, List.setIfInBounds_toArray, List.set_cons_zero, List.set_cons_succ])
    refine wpAnyZ_take (i := 1) (oi := { dst := some 173, op := _, type := _, pos := _, after := _, guard := _ }) (v := ?_) rfl (by kernel_rfl) (by kernel_rfl) (by kernel_rfl) (by kernel_rfl) (fun _ _ _ h => h) (Or.inl ⟨by rfl, ?_⟩) hS ?_
    rotate_left
    focus ((intro w hSw; (try dsimp only at hSw); have d0 := hSw; go_simp); (try with_reducible rfl))
    (try simp only [Act.put, List.setIfInBounds_toArray, List.set_cons_zero, List.set_cons_succ])
    refine wpAnyZ_take (i := 2) (oi := { dst := some 174, op := _, type := _, pos := _, after := _, guard := _ }) (v := ?_) rfl (by kernel_rfl) (by kernel_rfl) (by kernel_rfl) (by kernel_rfl) (fun _ _ _ h => h) (Or.inl ⟨by rfl, ?_⟩) hS ?_
    rotate_left
    focus ((intro w hSw; (try dsimp only at hSw); have d0 := hSw; go_simp); (try with_reducible rfl))
    (try simp only [Act.put, List.setIfInBounds_toArray, List.set_cons_zero, List.set_cons_succ])
    refine wpAnyZ_take (i := 3) (oi := { dst := some 175, op := _, type := _, pos := _, after := _, guard := _ }) (v := ?_) rfl (by kernel_rfl) (by kernel_rfl) (by kernel_rfl) (by kernel_rfl) (fun _ _ _ h => h) (Or.inl ⟨by rfl, ?_⟩) hS ?_
    rotate_left
    focus ((intro w hSw; (try dsimp only at hSw); have d0 := hSw; go_simp); (try with_reducible rfl))
    (try simp only [Act.put, List.setIfInBounds_toArray, List.set_cons_zero, List.set_cons_succ])
    refine wpAnyZ_take (i := 4) (oi := { dst := some 176, op := _, type := _, pos := _, after := _, guard := _ }) (v := ?_) rfl (by kernel_rfl) (by kernel_rfl) (by kernel_rfl) (by kernel_rfl) (fun _ _ _ h => h) (Or.inl ⟨by rfl, ?_⟩) hS ?_
    rotate_left
    focus ((intro w hSw; (try dsimp only at hSw); have d0 := hSw; go_simp); (try with_reducible rfl))
    (try simp only [Act.put, List.setIfInBounds_toArray, List.set_cons_zero, List.set_cons_succ])
    refine wpAnyZ_take (i := 5) (oi := { dst := some 177, op := _, type := _, pos := _, after := _, guard := _ }) (v := ?_) rfl (by kernel_rfl) (by kernel_rfl) (by kernel_rfl) (by kernel_rfl) (fun _ _ _ h => h) (Or.inl ⟨by rfl, ?_⟩) hS ?_
    rotate_left
    focus ((intro w hSw; (try dsimp only at hSw); have d0 := hSw; go_simp); (try with_reducible rfl))
    (try simp only [Act.put, List.setIfInBounds_toArray, List.set_cons_zero, List.set_cons_succ])
    refine wpAnyZ_take (i := 6) (oi := { dst := some 178, op := _, type := _, pos := _, after := _, guard := _ }) (v := ?_) rfl (by kernel_rfl) (by kernel_rfl) (by kernel_rfl) (by kernel_rfl) (fun _ _ _ h => h) (Or.inl ⟨by rfl, ?_⟩) hS ?_
    rotate_left
    focus ((intro w hSw; (try dsimp only at hSw); have d0 := hSw; have hi0 : (0 : Int) ≤ (i : Int) := Int.natCast_nonneg i; have hic := HIC.out; go_simp); (try with_reducible rfl))
    (try simp only [Act.put, List.setIfInBounds_toArray, List.set_cons_zero, List.set_cons_succ])
    refine wpAnyZ_take (i := 7) (oi := { dst := some 179, op := _, type := _, pos := _, after := _, guard := _ }) (v := ?_) rfl (by kernel_rfl) (by kernel_rfl) (by kernel_rfl) (by kernel_rfl) (fun _ _ _ h => h) (Or.inl ⟨by rfl, ?_⟩) hS ?_
    rotate_left
    focus ((intro w hSw; (try dsimp only at hSw); have d0 := hSw; go_simp); (try with_reducible rfl))
    (try simp only [Act.put, List.setIfInBounds_toArray, List.set_cons_zero, List.set_cons_succ])
    refine wpAnyZ_take (i := 8) (oi := { dst := some 180, op := _, type := _, pos := _, after := _, guard := _ }) (v := ?_) rfl (by kernel_rfl) (by kernel_rfl) (by kernel_rfl) (by kernel_rfl) (fun _ _ _ h => h) (Or.inl ⟨by rfl, ?_⟩) hS ?_
    rotate_left
    focus ((intro w hSw; (try dsimp only at hSw); have d0 := hSw; go_simp); (try with_reducible rfl))
    (try simp only [Act.put, List.setIfInBounds_toArray, List.set_cons_zero, List.set_cons_succ])
    refine wpAnyZ_take (i := 9) (oi := { dst := some 181, op := _, type := _, pos := _, after := _, guard := _ }) (v := ?_) rfl (by kernel_rfl) (by kernel_rfl) (by kernel_rfl) (by kernel_rfl) (fun _ _ _ h => h) (Or.inl ⟨by rfl, ?_⟩) hS ?_
    rotate_left
    focus ((intro w hSw; (try dsimp only at hSw); have d0 := hSw; go_simp); (try with_reducible rfl))
    (try simp only [Act.put, List.setIfInBounds_toArray, List.set_cons_zero, List.set_cons_succ])
    refine wpAnyZ_take (i := 10) (oi := { dst := some 182, op := _, type := _, pos := _, after := _, guard := _ }) (v := ?_) rfl (by kernel_rfl) (by kernel_rfl) (by kernel_rfl) (by kernel_rfl) (fun _ _ _ h => h) (Or.inl ⟨by rfl, ?_⟩) hS ?_
    rotate_left
    focus ((intro w hSw; (try dsimp only at hSw); have d0 := hSw; go_simp); (try with_reducible rfl))
    (try simp only [Act.put, List.setIfInBounds_toArray, List.set_cons_zero, List.set_cons_succ])
    refine wpAnyZ_take (i := 11) (oi := { dst := some 183, op := _, type := _, pos := _, after := _, guard := _ }) (v := ?_) rfl (by kernel_rfl) (by kernel_rfl) (by kernel_rfl) (by kernel_rfl) (fun _ _ _ h => h) (Or.inl ⟨by rfl, ?_⟩) hS ?_
    rotate_left
    focus ((intro w hSw; (try dsimp only at hSw); have d0 := hSw; go_simp); (try with_reducible rfl))
    (try simp only [Act.put, List.setIfInBounds_toArray, List.set_cons_zero, List.set_cons_succ])
    refine wpAnyZ_take (i := 12) (oi := { dst := some 184, op := _, type := _, pos := _, after := _, guard := _ }) (v := ?_) rfl (by kernel_rfl) (by kernel_rfl) (by kernel_rfl) (by kernel_rfl) (fun _ _ _ h => h) (Or.inl ⟨by rfl, ?_⟩) hS ?_
    rotate_left
    focus ((intro w hSw; (try dsimp only at hSw); have d0 := hSw; have hw := hiw; go_simp); (try with_reducible rfl))
    (try simp only [Act.put, List.setIfInBounds_toArray, List.set_cons_zero, List.set_cons_succ])
    refine wpAnyZ_take (i := 13) (oi := { dst := some 185, op := _, type := _, pos := _, after := _, guard := _ }) (v := ?_) rfl (by kernel_rfl) (by kernel_rfl) (by kernel_rfl) (by kernel_rfl) (fun _ _ _ h => h) (Or.inl ⟨by rfl, ?_⟩) hS ?_
    rotate_left
    focus ((intro w hSw; (try dsimp only at hSw); have hi1 := HI1.out; have hi2 : (0 : Int) ≤ (i : Int) + 1 := (by omega); have ha2 := HA2.out; go_simp); (try with_reducible rfl))
    (try simp only [Act.put, List.setIfInBounds_toArray, List.set_cons_zero, List.set_cons_succ])
    refine wpAnyZ_all (rs := [14]) (by kernel_rfl) (by simp) (fun i hi => ?_)
    simp only [List.mem_cons, List.not_mem_nil, or_false] at hi
    subst hi
    refine stepZ (o := { dst := some 186, op := _, type := _, pos := _, after := _, guard := _ }) rfl (fun K hK => ?_)
    refine step_append_x rfl (.tmp 178) (.tmp 185) 25 rfl W0.heap.size 3 _ 1 8 Tryd.underlying25 info_e rfl (by decide) (.slice (some ⟨ge, 0, none⟩) i ec) i (ein (s.2.2.enc.take i)) rfl (by rw [show ein (s.2.2.enc.take i) = (ein s.2.2.enc).take (i * 1) from by rw [Nat.mul_one]; exact List.map_take]; exact own_cut HTY.out.oe (show i ≤ s.2.2.enc.length from by have := HIL.out; have := HLEN.out; omega)) ge o2 (s.2.2.enc.length - (i + 1)) (ec - (i + 1)) (ein (s.2.2.enc.drop (i + 1))) rfl (HHA.out _ (Has.ownG HTY.out.oe)) (by rw [ein_len, List.length_drop, Nat.mul_one]) (fun u hu => by obtain ⟨z, _, rfl⟩ := List.mem_map.1 hu; rfl) (by unfold maxLen; have := HN6.out; have := HLEN.out; have := HIL.out; omega) (by have := HN6.out; have := HLEN.out; have := HIL.out; omega) HLY.out.size ?_
    rintro A' c' wq ho hgr hbl _ _
    obtain ⟨gw, rfl⟩ := own_some ho HN0.out
    obtain ⟨cv, hcv⟩ := own_typ HTY.out.oe
    have n1 : gm ≠ ge := ne_typ HTY.out.bl hcv (by decide)
    have hb1 := (hgr.block gm HTY.out.bl.lt (fun e => by injection e with e; exact n1 e)).trans HTY.out.bl
    rw [show ein (s.2.2.enc.take i) ++ ein (s.2.2.enc.drop (i + 1)) = ein (s.2.2.enc.eraseIdx i) from by unfold ein; rw [← List.map_append, erase_split]] at ho
    have HTC := Lib.hid (HTY.out.encs (ge' := gw) (ec' := c') (s.2.2.enc.eraseIdx i) (by rw [← HNS.out]; exact ho) hgr hcv)
    rw [← HNS.out] at HTC
    have HLQ := Lib.hid (show Later W0 (wq.setCell ⟨gm, 3, none⟩ (.slice (some ⟨gw, 0, none⟩) (i + (s.2.2.enc.length - (i + 1))) c')) from lsetB gm 3 _ HTY.out.hb.2 (grow_later HLY.out hgr HTY.out.elo))
    replace hS : (fun W : World => W.cell? ⟨gm, 3, none⟩ = some (.slice (some ⟨ge, 0, none⟩) s.2.2.enc.length ec)) wq := Blk.cell hb1 3 _ rfl
    have HFZ := Lib.hid (Blk.frozen hb1 3)
    refine hK _ _ hS ?_
    clear hK ho hgr hbl hb1
    (try simp only [Act.put, List.setIfInBounds_toArray, List.set_cons_zero, List.set_cons_succ])
    refine wpAnyZ_all (rs := [15]) (by kernel_rfl) (by simp) (fun i hi => ?_)
    simp only [List.mem_cons, List.not_mem_nil, or_false] at hi
    subst hi
    refine stepZ (o := { dst := some 187, op := _, type := _, pos := _, after := _, guard := _ }) rfl (fun K hK => ?_)
    go_simp
    refine hK _ _ hS ?_
    clear hK 
    (try simp only [Act.put, List.setIfInBounds_toArray, List.set_cons_zero, List.set_cons_succ])
    refine wpAnyZ_take (i := 16) (oi := { dst := some 188, op := _, type := _, pos := _, after := _, guard := _ }) (v := ?_) rfl (by kernel_rfl) (by kernel_rfl) (by kernel_rfl) (by kernel_rfl) (fun _ _ _ h => h) (Or.inl ⟨by rfl, ?_⟩) hS ?_
    rotate_left
    focus ((intro w hSw; (try dsimp only at hSw); skip; go_simp); (try with_reducible rfl))
    (try simp only [Act.put, List.setIfInBounds_toArray, List.set_cons_zero, List.set_cons_succ])
    refine wpAnyZ_all (rs := [17]) (by kernel_rfl) (by simp) (fun i hi => ?_)
    simp only [List.mem_cons, List.not_mem_nil, or_false] at hi
    subst hi
    refine stepZl (o := { dst := none, op := _, type := _, pos := _, after := _, guard := _ }) rfl (fun K hK => ?_)
    have e0 := hS
    have f0 := HFZ.out
    go_simp
    refine hK _ _ ?_
    clear hK e0 f0
    (try simp only [Act.put])
    refine wpAnyZ_done (by kernel_rfl) ?_ _
    go_wp2_with fail
    go_ret
    exact RTurnP.yes HX.out HTC.out HLQ.out
  by_cases k3 : kind = 3
  · subst k3
    have HY2 := Lib.hid (HYI.out.trans ((if_neg (by omega)).trans (if_pos rfl)))
    clear HYI hkk
    have HYR := Lib.hid (show R = if ¬ NameL name then .error 1 else if fo.isSome = true ∧ fo ≠ some i then .error 9 else .ok (nameAt s.1 i name, s.2) from HY2.out.trans (by unfold renameM; rw [HCN.out.1, HFO.out]))
    clear HY2
    have kn : w4.cell? ⟨q, 2, none⟩ = some (.string name) := HB4.out.cell 2 _ rfl
    have HC1 := Lib.hid (refMayName_any name w4 HNM.out)
    by_cases h1 : NameL name
    rotate_left
    · have HX := Lib.hid (HYR.out.trans (if_pos h1))
      have HH := Lib.hid h1
      clear h1
      go_wp2_with fail
      refine HC1.out.mono ?_
      rintro e w5 ht
      obtain ⟨rfl, l5⟩ := ht.no HH.out
      have HL5 := Lib.hid (HL4.out.trans l5)
      clear ht l5 HC1
      go_wp2_with fail
      go_ret
      exact RTurnP.no 1 HX.out (by decide) HL5.out
    have HYS := Lib.hid (HYR.out.trans (if_neg fun h => h h1))
    have HH := Lib.hid h1
    clear h1 HYR
    go_wp2_with fail
    refine HC1.out.mono ?_
    rintro e w5 ht
    obtain ⟨rfl, l5⟩ := ht.yes HH.out
    have HL5 := Lib.hid (HL4.out.trans l5)
    have HT5 := Lib.hid (HT4.out.later l5)
    have HB5 := Lib.hid (HB4.out.later l5)
    clear ht l5 HC1 k0 t0 t1 kn HL4 HT4 HB4
    rcases hfo2 : fo with _ | j
    · have HX := Lib.hid (HYS.out.trans (if_neg fun h => by have := h.1; rw [hfo2] at this; cases this))
      simp only [Option.getD_none, Option.isSome_none]
      clear hfo2 HYS
      go_upto_region 29 with fail
      refine wp_region_Z (S := (fun W : World => W.cell? ⟨gt, 0, none⟩ = some (.slice (some ⟨gv, 0, none⟩) s.1.length vc) ∧ W.cell? ⟨q, 2, none⟩ = some (.string name))) 9 (by kernel_rfl) ?_
      obtain ⟨y0, hy0⟩ : ∃ x, (w5).drew = x := ⟨_, rfl⟩
      have ly0 : Later w5 y0 := hy0 ▸ (Later.refl w5).drew
      have hS : (fun W : World => W.cell? ⟨gt, 0, none⟩ = some (.slice (some ⟨gv, 0, none⟩) s.1.length vc) ∧ W.cell? ⟨q, 2, none⟩ = some (.string name)) y0 := ⟨(HT5.out.later ly0).bs.cell 0 _ rfl, (HB5.out.later ly0).cell 2 _ rfl⟩
      have HTY := Lib.hid (HT5.out.later ly0)
      have HLY := Lib.hid (HL5.out.trans ly0)
      have hii : (i : Int) < (s.1.length : Int) := Int.ofNat_lt.2 HIL.out
      rw [hy0]
      clear hy0
      refine wpAnyZ_take (i := 0) (oi := { dst := some 201, op := _, type := _, pos := _, after := _, guard := _ }) (v := ?_) rfl (by kernel_rfl) (by kernel_rfl) (by kernel_rfl) (by kernel_rfl) (fun _ _ _ h => h) (Or.inl ⟨by rfl, ?_⟩) hS ?_
      rotate_left
      focus ((intro w hSw; (try dsimp only at hSw); obtain ⟨d0, d2⟩ := hSw; go_simp); (try with_reducible rfl))
      (try simp only [Act.put, List.setIfInBounds_toArray, List.set_cons_zero, List.set_cons_succ])
      refine wpAnyZ_take (i := 1) (oi := { dst := some 202, op := _, type := _, pos := _, after := _, guard := _ }) (v := ?_) rfl (by kernel_rfl) (by kernel_rfl) (by kernel_rfl) (by kernel_rfl) (fun _ _ _ h => h) (Or.inl ⟨by rfl, ?_⟩) hS ?_
      rotate_left
      focus ((intro w hSw; (try dsimp only at hSw); obtain ⟨d0, d2⟩ := hSw; go_simp); (try with_reducible rfl))
      (try simp only [Act.put, List.setIfInBounds_toArray, List.set_cons_zero, List.set_cons_succ])
      refine wpAnyZ_take (i := 2) (oi := { dst := some 203, op := _, type := _, pos := _, after := _, guard := _ }) (v := ?_) rfl (by kernel_rfl) (by kernel_rfl) (by kernel_rfl) (by kernel_rfl) (fun _ _ _ h => h) (Or.inl ⟨by rfl, ?_⟩) hS ?_
      rotate_left
      focus ((intro w hSw; (try dsimp only at hSw); obtain ⟨d0, d2⟩ := hSw; go_simp); (try with_reducible rfl))
      (try simp only [Act.put, List.setIfInBounds_toArray, List.set_cons_zero, List.set_cons_succ])
      refine wpAnyZ_take (i := 3) (oi := { dst := some 204, op := _, type := _, pos := _, after := _, guard := _ }) (v := ?_) rfl (by kernel_rfl) (by kernel_rfl) (by kernel_rfl) (by kernel_rfl) (fun _ _ _ h => h) (Or.inl ⟨by rfl, ?_⟩) hS ?_
      rotate_left
      focus ((intro w hSw; (try dsimp only at hSw); obtain ⟨d0, d2⟩ := hSw; go_simp); (try with_reducible rfl))
      (try simp only [Act.put, List.setIfInBounds_toArray, List.set_cons_zero, List.set_cons_succ])
      refine wpAnyZ_take (i := 4) (oi := { dst := some 205, op := _, type := _, pos := _, after := _, guard := _ }) (v := ?_) rfl (by kernel_rfl) (by kernel_rfl) (by kernel_rfl) (by kernel_rfl) (fun _ _ _ h => h) (Or.inl ⟨by rfl, ?_⟩) hS ?_
      rotate_left
      focus ((intro w hSw; (try dsimp only at hSw); obtain ⟨d0, d2⟩ := hSw; go_simp); (try with_reducible rfl))
      (try simp only [Act.put, List.setIfInBounds_toArray, List.set_cons_zero, List.set_cons_succ])
      refine wpAnyZ_take (i := 5) (oi := { dst := some 206, op := _, type := _, pos := _, after := _, guard := _ }) (v := ?_) rfl (by kernel_rfl) (by kernel_rfl) (by kernel_rfl) (by kernel_rfl) (fun _ _ _ h => h) (Or.inl ⟨by rfl, ?_⟩) hS ?_
      rotate_left
      focus ((intro w hSw; (try dsimp only at hSw); obtain ⟨d0, d2⟩ := hSw; go_simp); (try with_reducible rfl))
      (try simp only [Act.put, List.setIfInBounds_toArray, List.set_cons_zero, List.set_cons_succ])
      refine wpAnyZ_take (i := 6) (oi := { dst := some 207, op := _, type := _, pos := _, after := _, guard := _ }) (v := ?_) rfl (by kernel_rfl) (by kernel_rfl) (by kernel_rfl) (by kernel_rfl) (fun _ _ _ h => h) (Or.inl ⟨by rfl, ?_⟩) hS ?_
      rotate_left
      focus ((intro w hSw; (try dsimp only at hSw); obtain ⟨d0, d2⟩ := hSw; go_simp); (try with_reducible rfl))
      (try simp only [Act.put, List.setIfInBounds_toArray, List.set_cons_zero, List.set_cons_succ])
      refine wpAnyZ_all (rs := [7]) (by kernel_rfl) (by simp) (fun i hi => ?_)
      simp only [List.mem_cons, List.not_mem_nil, or_false] at hi
      subst hi
      refine stepZ (o := { dst := some 208, op := _, type := _, pos := _, after := _, guard := _ }) rfl (fun K hK => ?_)
      go_simp
      refine hK _ _ hS ?_
      clear hK 
      (try simp only [Act.put, List.setIfInBounds_toArray, List.set_cons_zero, List.set_cons_succ])
      refine wpAnyZ_take (i := 8) (oi := { dst := some 209, op := _, type := _, pos := _, after := _, guard := _ }) (v := ?_) rfl (by kernel_rfl) (by kernel_rfl) (by kernel_rfl) (by kernel_rfl) (fun _ _ _ h => h) (Or.inl ⟨by rfl, ?_⟩) hS ?_
      rotate_left
      focus ((intro w hSw; (try dsimp only at hSw); skip; go_simp); (try with_reducible rfl))
      (try simp only [Act.put, List.setIfInBounds_toArray, List.set_cons_zero, List.set_cons_succ])
      refine wpAnyZ_all (rs := [9]) (by kernel_rfl) (by simp) (fun i hi => ?_)
      simp only [List.mem_cons, List.not_mem_nil, or_false] at hi
      subst hi
      refine stepZl (o := { dst := none, op := _, type := _, pos := _, after := _, guard := _ }) rfl (fun K hK => ?_)
      have e0 := (HTY.out.col i HIL.out).2.1
      have f0 := (HTY.out.col i HIL.out).2.2.2.1
      go_simp
      refine hK _ _ ?_
      clear hK e0 f0
      (try simp only [Act.put])
      refine wpAnyZ_done (by kernel_rfl) ?_ _
      go_wp2_with fail
      go_ret
      exact RTurnP.yes HX.out (HTY.out.colSet (i * 3 + 1) (.string name) (nameAt s.1 i name) (nameAt_len' _ _ _) (fc_set1 _ _ _ HIL.out)) (lsetB gv (i * 3 + 1) _ HTY.out.vlo HLY.out)
    · simp only [Option.getD_some, Option.isSome_some]
      by_cases hji : j = i
      rotate_left
      · have HX := Lib.hid (HYS.out.trans (if_pos ⟨by rw [hfo2]; rfl, by rw [hfo2]; intro e; injection e with e; exact hji e⟩))
        have hne : ((j : Int) != (i : Int)) = true := by simp; omega
        clear hji hfo2 HYS
        go_wp2_with fail
        go_ret
        exact RTurnP.no 9 HX.out (by decide) HL5.out
      have HX := Lib.hid (HYS.out.trans (if_neg fun h => h.2 (by rw [hfo2, hji])))
      have hne : ((j : Int) != (i : Int)) = false := by simp [hji]
      clear hji hfo2 HYS
      go_upto_region 29 with fail
      refine wp_region_Z (S := (fun W : World => W.cell? ⟨gt, 0, none⟩ = some (.slice (some ⟨gv, 0, none⟩) s.1.length vc) ∧ W.cell? ⟨q, 2, none⟩ = some (.string name))) 9 (by kernel_rfl) ?_
      obtain ⟨y0, hy0⟩ : ∃ x, (w5).drew = x := ⟨_, rfl⟩
      have ly0 : Later w5 y0 := hy0 ▸ (Later.refl w5).drew
      have hS : (fun W : World => W.cell? ⟨gt, 0, none⟩ = some (.slice (some ⟨gv, 0, none⟩) s.1.length vc) ∧ W.cell? ⟨q, 2, none⟩ = some (.string name)) y0 := ⟨(HT5.out.later ly0).bs.cell 0 _ rfl, (HB5.out.later ly0).cell 2 _ rfl⟩
      have HTY := Lib.hid (HT5.out.later ly0)
      have HLY := Lib.hid (HL5.out.trans ly0)
      have hii : (i : Int) < (s.1.length : Int) := Int.ofNat_lt.2 HIL.out
      rw [hy0]
      clear hy0
      refine wpAnyZ_take (i := 0) (oi := { dst := some 201, op := _, type := _, pos := _, after := _, guard := _ }) (v := ?_) rfl (by kernel_rfl) (by kernel_rfl) (by kernel_rfl) (by kernel_rfl) (fun _ _ _ h => h) (Or.inl ⟨by rfl, ?_⟩) hS ?_
      rotate_left
      focus ((intro w hSw; (try dsimp only at hSw); obtain ⟨d0, d2⟩ := hSw; go_simp); (try with_reducible rfl))
      (try simp only [Act.put, List.setIfInBounds_toArray, List.set_cons_zero, List.set_cons_succ])
      refine wpAnyZ_take (i := 1) (oi := { dst := some 202, op := _, type := _, pos := _, after := _, guard := _ }) (v := ?_) rfl (by kernel_rfl) (by kernel_rfl) (by kernel_rfl) (by kernel_rfl) (fun _ _ _ h => h) (Or.inl ⟨by rfl, ?_⟩) hS ?_
      rotate_left
      focus ((intro w hSw; (try dsimp only at hSw); obtain ⟨d0, d2⟩ := hSw; go_simp); (try with_reducible rfl))
      (try simp only [Act.put, List.setIfInBounds_toArray, List.set_cons_zero, List.set_cons_succ])
      refine wpAnyZ_take (i := 2) (oi := { dst := some 203, op := _, type := _, pos := _, after := _, guard := _ }) (v := ?_) rfl (by kernel_rfl) (by kernel_rfl) (by kernel_rfl) (by kernel_rfl) (fun _ _ _ h => h) (Or.inl ⟨by rfl, ?_⟩) hS ?_
      rotate_left
      focus ((intro w hSw; (try dsimp only at hSw); obtain ⟨d0, d2⟩ := hSw; go_simp); (try with_reducible rfl))
      (try simp only [Act.put, List.setIfInBounds_toArray, List.set_cons_zero, List.set_cons_succ])
      refine wpAnyZ_take (i := 3) (oi := { dst := some 204, op := _, type := _, pos := _, after := _, guard := _ }) (v := ?_) rfl (by kernel_rfl) (by kernel_rfl) (by kernel_rfl) (by kernel_rfl) (fun _ _ _ h => h) (Or.inl ⟨by rfl, ?_⟩) hS ?_
      rotate_left
      focus ((intro w hSw; (try dsimp only at hSw); obtain ⟨d0, d2⟩ := hSw; go_simp); (try with_reducible rfl))
      (try simp only [Act.put, List.setIfInBounds_toArray, List.set_cons_zero, List.set_cons_succ])
      refine wpAnyZ_take (i := 4) (oi := { dst := some 205, op := _, type := _, pos := _, after := _, guard := _ }) (v := ?_) rfl (by kernel_rfl) (by kernel_rfl) (by kernel_rfl) (by kernel_rfl) (fun _ _ _ h => h) (Or.inl ⟨by rfl, ?_⟩) hS ?_
      rotate_left
      focus ((intro w hSw; (try dsimp only at hSw); obtain ⟨d0, d2⟩ := hSw; go_simp); (try with_reducible rfl))
      (try simp only [Act.put, List.setIfInBounds_toArray, List.set_cons_zero, List.set_cons_succ])
      refine wpAnyZ_take (i := 5) (oi := { dst := some 206, op := _, type := _, pos := _, after := _, guard := _ }) (v := ?_) rfl (by kernel_rfl) (by kernel_rfl) (by kernel_rfl) (by kernel_rfl) (fun _ _ _ h => h) (Or.inl ⟨by rfl, ?_⟩) hS ?_
      rotate_left
      focus ((intro w hSw; (try dsimp only at hSw); obtain ⟨d0, d2⟩ := hSw; go_simp); (try with_reducible rfl))
      (try simp only [Act.put, List.setIfInBounds_toArray, List.set_cons_zero, List.set_cons_succ])
      refine wpAnyZ_take (i := 6) (oi := { dst := some 207, op := _, type := _, pos := _, after := _, guard := _ }) (v := ?_) rfl (by kernel_rfl) (by kernel_rfl) (by kernel_rfl) (by kernel_rfl) (fun _ _ _ h => h) (Or.inl ⟨by rfl, ?_⟩) hS ?_
      rotate_left
      focus ((intro w hSw; (try dsimp only at hSw); obtain ⟨d0, d2⟩ := hSw; go_simp); (try with_reducible rfl))
      (try simp only [Act.put, List.setIfInBounds_toArray, List.set_cons_zero, List.set_cons_succ])
      refine wpAnyZ_all (rs := [7]) (by kernel_rfl) (by simp) (fun i hi => ?_)
      simp only [List.mem_cons, List.not_mem_nil, or_false] at hi
      subst hi
      refine stepZ (o := { dst := some 208, op := _, type := _, pos := _, after := _, guard := _ }) rfl (fun K hK => ?_)
      go_simp
      refine hK _ _ hS ?_
      clear hK 
      (try simp only [Act.put, List.setIfInBounds_toArray, List.set_cons_zero, List.set_cons_succ])
      refine wpAnyZ_take (i := 8) (oi := { dst := some 209, op := _, type := _, pos := _, after := _, guard := _ }) (v := ?_) rfl (by kernel_rfl) (by kernel_rfl) (by kernel_rfl) (by kernel_rfl) (fun _ _ _ h => h) (Or.inl ⟨by rfl, ?_⟩) hS ?_
      rotate_left
      focus ((intro w hSw; (try dsimp only at hSw); skip; go_simp); (try with_reducible rfl))
      (try simp only [Act.put, List.setIfInBounds_toArray, List.set_cons_zero, List.set_cons_succ])
      refine wpAnyZ_all (rs := [9]) (by kernel_rfl) (by simp) (fun i hi => ?_)
      simp only [List.mem_cons, List.not_mem_nil, or_false] at hi
      subst hi
      refine stepZl (o := { dst := none, op := _, type := _, pos := _, after := _, guard := _ }) rfl (fun K hK => ?_)
      have e0 := (HTY.out.col i HIL.out).2.1
      have f0 := (HTY.out.col i HIL.out).2.2.2.1
      go_simp
      refine hK _ _ ?_
      clear hK e0 f0
      (try simp only [Act.put])
      refine wpAnyZ_done (by kernel_rfl) ?_ _
      go_wp2_with fail
      go_ret
      exact RTurnP.yes HX.out (HTY.out.colSet (i * 3 + 1) (.string name) (nameAt s.1 i name) (nameAt_len' _ _ _) (fc_set1 _ _ _ HIL.out)) (lsetB gv (i * 3 + 1) _ HTY.out.vlo HLY.out)
  by_cases k4 : kind = 4
  · subst k4
    have HY2 := Lib.hid (HYI.out.trans ((if_neg (by omega)).trans ((if_neg (by omega)).trans (if_pos rfl))))
    clear HYI hkk
    obtain ⟨tv, htv⟩ : ∃ x, (s.1[i]'HIL.out).2.2 = x := ⟨_, rfl⟩
    have c2 := (HT4.out.col i HIL.out).2.2.1
    have f2 := (HT4.out.col i HIL.out).2.2.2.2
    rw [htv] at c2
    have HYW := Lib.hid (show R = if tv = 3 then .ok (typeAt s.1 i 1, s.2) else if tv = 1 then .ok (typeAt s.1 i 2, s.2) else .error 4 from HY2.out.trans (by unfold widenM; rw [typOf_at HIL.out, htv]))
    have hii : (i : Int) < (s.1.length : Int) := Int.ofNat_lt.2 HIL.out
    have hi0 : (0 : Int) ≤ (i : Int) := Int.natCast_nonneg i
    clear htv HY2
    by_cases y3 : tv = 3
    · have HX := Lib.hid (HYW.out.trans (if_pos y3))
      subst y3
      go_wp2_with fail
      go_ret
      exact RTurnP.yes HX.out (HT4.out.colSet (i * 3 + 2) (.int .i64 1) (typeAt s.1 i 1) (typeAt_len' _ _ _) (fc_set2 _ _ _ HIL.out)) (lsetB gv (i * 3 + 2) _ HT4.out.vlo HL4.out)
    have z3 : (tv == 3) = false := by simp [y3]
    by_cases y1 : tv = 1
    · have HX := Lib.hid (HYW.out.trans ((if_neg y3).trans (if_pos y1)))
      subst y1
      go_wp2_with fail
      go_ret
      exact RTurnP.yes HX.out (HT4.out.colSet (i * 3 + 2) (.int .i64 2) (typeAt s.1 i 2) (typeAt_len' _ _ _) (fc_set2 _ _ _ HIL.out)) (lsetB gv (i * 3 + 2) _ HT4.out.vlo HL4.out)
    have z1 : (tv == 1) = false := by simp [y1]
    have HX := Lib.hid (HYW.out.trans ((if_neg y3).trans (if_neg y1)))
    clear y3 y1
    go_wp2_with fail
    go_ret
    exact RTurnP.no 4 HX.out (by decide) HL4.out
  obtain rfl : kind = 5 := by omega
  have HY2 := Lib.hid (HYI.out.trans ((if_neg (by omega)).trans ((if_neg (by omega)).trans (if_neg (by omega)))))
  clear HYI hkk k2 k3 k4
  obtain ⟨tv, htv⟩ : ∃ x, (s.1[i]'HIL.out).2.2 = x := ⟨_, rfl⟩
  have c2 := (HT4.out.col i HIL.out).2.2.1
  rw [htv] at c2
  have hii : (i : Int) < (s.1.length : Int) := Int.ofNat_lt.2 HIL.out
  have hi0 : (0 : Int) ≤ (i : Int) := Int.natCast_nonneg i
  by_cases y4 : tv = 4
  rotate_left
  · have HX := Lib.hid (show R = .error 4 from HY2.out.trans (by unfold splitM; exact if_pos (by rw [typOf_at HIL.out, htv]; exact y4)))
    have z4 : (tv != 4) = true := by simp [y4]
    clear htv HY2 y4
    go_wp2_with fail
    go_ret
    exact RTurnP.no 4 HX.out (by decide) HL4.out
  have HY3 := Lib.hid (show R = if heldM s ch then .error 1 else addM s ch 4 (0, 0, ⟨#[]⟩) (i + 1) from HY2.out.trans (by unfold splitM; rw [if_neg (by rw [typOf_at HIL.out, htv]; exact fun h => h y4)]))
  subst y4
  clear htv HY2
  rcases hdd : hd with _ | _
  rotate_left
  · have HX := Lib.hid (show R = .error 1 from HY3.out.trans (if_pos (HHE.out.1 hdd)))
    subst hdd
    go_wp2_with fail
    go_ret
    exact RTurnP.no 1 HX.out (by decide) HL4.out
  have HAD := Lib.hid (show R = (if ¬ (NameL name ∧ TypL 4) then .error 1 else if fo.isSome = true then .error 9 else if ¬ FitsV 4 (0, 0, ⟨#[]⟩) then .error 4 else if 6 ≤ s.1.length ∨ 10000 ≤ s.2.1 then .error 6 else .ok (insA s.1 (i + 1) (s.2.1 + 1, name, 4), s.2.1 + 1, { s.2.2 with enc := insA s.2.2.enc (i + 1) 1 })) from (HY3.out.trans (if_neg fun h => by have := HHE.out.2 h; rw [hdd] at this; cases this)).trans (by unfold addM; rw [HCN.out.1, HFO.out]))
  subst hdd
  clear HY3
  have kn : w4.cell? ⟨q, 2, none⟩ = some (.string name) := HB4.out.cell 2 _ rfl
  have HC1 := Lib.hid (refMayName_any name w4 HNM.out)
  by_cases h1 : NameL name
  rotate_left
  · have HX := Lib.hid (HAD.out.trans (if_pos fun h => h1 h.1))
    have HH := Lib.hid h1
    clear h1
    go_wp2_with fail
    refine HC1.out.mono ?_
    rintro e w5 ht
    obtain ⟨rfl, l5⟩ := ht.no HH.out
    have HL5 := Lib.hid (HL4.out.trans l5)
    clear ht l5 HC1
    go_wp2_with fail
    go_ret
    exact RTurnP.no 1 HX.out (by decide) HL5.out
  have HA2 := Lib.hid (HAD.out.trans (if_neg fun h => h ⟨h1, by decide⟩))
  have HH := Lib.hid h1
  clear h1 HAD
  go_wp2_with fail
  refine HC1.out.mono ?_
  rintro e w5 ht
  obtain ⟨rfl, l5⟩ := ht.yes HH.out
  have HL5 := Lib.hid (HL4.out.trans l5)
  have HT5 := Lib.hid (HT4.out.later l5)
  have HB5 := Lib.hid (HB4.out.later l5)
  clear ht l5 HC1 k0 t0 t1 kn c2 HL4 HT4 HB4
  obtain ⟨fb, hfb⟩ : ∃ x, fo.isSome = x := ⟨_, rfl⟩
  rw [hfb] at HA2 ⊢
  clear hfb
  rcases fb with _ | _
  rotate_left
  · have HX := Lib.hid (show R = .error 9 from HA2.out.trans (if_pos rfl))
    go_wp2_with fail
    go_ret
    exact RTurnP.no 9 HX.out (by decide) HL5.out
  have HA4 := Lib.hid ((HA2.out.trans (if_neg (fun h => by cases h))).trans (if_neg fun h => h (by decide)))
  clear HA2
  have t0 := HT5.out.bs.cell 0 _ rfl
  have t1 := HT5.out.bs.cell 1 _ rfl
  have g1 := HT5.out.bs.frozen 1
  by_cases h4 : (6 : Int) ≤ (s.1.length : Int)
  · have HX := Lib.hid (show R = .error 6 from HA4.out.trans (if_pos (.inl (by omega))))
    go_wp2_with fail
    go_ret
    exact RTurnP.no 6 HX.out (by decide) HL5.out
  by_cases h5 : (10000 : Int) ≤ s.2.1
  · have HX := Lib.hid (show R = .error 6 from HA4.out.trans (if_pos (.inr h5)))
    go_wp2_with fail
    go_ret
    exact RTurnP.no 6 HX.out (by decide) HL5.out
  have HX := Lib.hid (HA4.out.trans (if_neg (fun h => by omega)))
  have hw9 : IntKind.i64.wrap (s.2.1 + 1) = s.2.1 + 1 := IntWalk.i64_in _ ⟨by have := HLA.out; omega, by have := HLA.out; omega⟩
  have HS6 := Lib.hid (show s.1.length ≤ 5 from by omega)
  go_upto_region 16 with fail
  obtain ⟨w6, hw6⟩ : ∃ x, w5.setCell ⟨gt, 1, none⟩ (.int .i64 (s.2.1 + 1)) = x := ⟨_, rfl⟩
  have HT6 := Lib.hid (hw6 ▸ HT5.out.last (s.2.1 + 1) : TB W0.heap.size gt gm w6 (s.1, s.2.1 + 1, s.2.2) gv vc ge ec)
  have HL6 := Lib.hid (hw6 ▸ lsetB gt 1 (.int .i64 (s.2.1 + 1)) HT5.out.hb.1 HL5.out : Later W0 w6)
  have HB6 := Lib.hid (hw6 ▸ HB5.out.far (p := ⟨gt, 1, none⟩) (ne_typ HB5.out HT5.out.bs (by decide)) _ : Blk w6 q #[.int .i64 5, .int .i64 col, .string name, .int .i64 typ, .int .i64 v0, .int .i64 v1, .string v2, .int .u8 sep, .int .i64 num] 31)
  rw [hw6]
  clear hw6 HT5 HL5 HB5 t0 t1 g1 h4 h5 HA4 hw9 HLA
  go_cut [12] from 92 to 98 (fun pv wx => ∃ gx, pv = .pointer (some ⟨gx, 0, none⟩) ∧ Blk wx gx #[.int .i64 (s.2.1 + 1), .string name, .int .i64 4] 59 ∧ gx ≠ gv ∧ Later w6 wx)
  case first => as_aux_lemma =>
    refine wp_region_K (S := (fun W : World => Later w6 W)) (R := fun a b => a = b) (fun _ => rfl) (by kernel_rfl) ?_
    obtain ⟨y0, hy0⟩ : ∃ x, (w6).drew = x := ⟨_, rfl⟩
    have ly0 : Later w6 y0 := hy0 ▸ (Later.refl w6).drew
    have hS : (fun W : World => Later w6 W) y0 := ly0
    
    rw [hy0]
    clear hy0
    refine wpAnyK_take (fun _ => rfl) (fun _ _ _ h k => h.trans k) (fun _ _ h k => k ▸ h) (i := 0) (oi := { dst := some 92, op := _, type := _, pos := _, after := _, guard := _ }) (v := ?_) rfl (by kernel_rfl) (by kernel_rfl) (by kernel_rfl) (fun _ _ _ h => h) (Or.inl (Or.inl ⟨by rfl, ?_⟩)) hS ?_
    rotate_left
    focus ((intro w hSw; (try dsimp only at hSw); have d1 := (HT6.out.later hSw).bs.cell 1 _ rfl; have d2 := (HB6.out.later hSw).cell 2 _ rfl; go_simp); (try with_reducible rfl))
    intro wq hwq
    subst hwq
    (try simp only [Act.put, List.setIfInBounds_toArray, List.set_cons_zero, List.set_cons_succ])
    refine wpAnyK_take (fun _ => rfl) (fun _ _ _ h k => h.trans k) (fun _ _ h k => k ▸ h) (i := 1) (oi := { dst := some 93, op := _, type := _, pos := _, after := _, guard := _ }) (v := ?_) rfl (by kernel_rfl) (by kernel_rfl) (by kernel_rfl) (fun _ _ _ h => h) (Or.inl (Or.inl ⟨by rfl, ?_⟩)) hS ?_
    rotate_left
    focus ((intro w hSw; (try dsimp only at hSw); have d1 := (HT6.out.later hSw).bs.cell 1 _ rfl; have d2 := (HB6.out.later hSw).cell 2 _ rfl; go_simp); (try with_reducible rfl))
    intro wq hwq
    subst hwq
    (try simp only [Act.put, List.setIfInBounds_toArray, List.set_cons_zero, List.set_cons_succ])
    refine wpAnyK_take (fun _ => rfl) (fun _ _ _ h k => h.trans k) (fun _ _ h k => k ▸ h) (i := 2) (oi := { dst := some 94, op := _, type := _, pos := _, after := _, guard := _ }) (v := ?_) rfl (by kernel_rfl) (by kernel_rfl) (by kernel_rfl) (fun _ _ _ h => h) (Or.inl (Or.inl ⟨by rfl, ?_⟩)) hS ?_
    rotate_left
    focus ((intro w hSw; (try dsimp only at hSw); have d1 := (HT6.out.later hSw).bs.cell 1 _ rfl; have d2 := (HB6.out.later hSw).cell 2 _ rfl; go_simp); (try with_reducible rfl))
    intro wq hwq
    subst hwq
    (try simp only [Act.put, List.setIfInBounds_toArray, List.set_cons_zero, List.set_cons_succ])
    refine wpAnyK_take (fun _ => rfl) (fun _ _ _ h k => h.trans k) (fun _ _ h k => k ▸ h) (i := 3) (oi := { dst := some 95, op := _, type := _, pos := _, after := _, guard := _ }) (v := ?_) rfl (by kernel_rfl) (by kernel_rfl) (by kernel_rfl) (fun _ _ _ h => h) (Or.inl (Or.inl ⟨by rfl, ?_⟩)) hS ?_
    rotate_left
    focus ((intro w hSw; (try dsimp only at hSw); have d1 := (HT6.out.later hSw).bs.cell 1 _ rfl; have d2 := (HB6.out.later hSw).cell 2 _ rfl; go_simp); (try with_reducible rfl))
    intro wq hwq
    subst hwq
    (try simp only [Act.put, List.setIfInBounds_toArray, List.set_cons_zero, List.set_cons_succ])
    refine wpAnyK_take (fun _ => rfl) (fun _ _ _ h k => h.trans k) (fun _ _ h k => k ▸ h) (i := 4) (oi := { dst := some 96, op := _, type := _, pos := _, after := _, guard := _ }) (v := ?_) rfl (by kernel_rfl) (by kernel_rfl) (by kernel_rfl) (fun _ _ _ h => h) (Or.inl (Or.inl ⟨by rfl, ?_⟩)) hS ?_
    rotate_left
    focus ((intro w hSw; (try dsimp only at hSw); have d1 := (HT6.out.later hSw).bs.cell 1 _ rfl; have d2 := (HB6.out.later hSw).cell 2 _ rfl; go_simp); (try with_reducible rfl))
    intro wq hwq
    subst hwq
    (try simp only [Act.put, List.setIfInBounds_toArray, List.set_cons_zero, List.set_cons_succ])
    refine wpAnyK_take (fun _ => rfl) (fun _ _ _ h k => h.trans k) (fun _ _ h k => k ▸ h) (i := 5) (oi := { dst := some 97, op := _, type := _, pos := _, after := _, guard := _ }) (v := ?_) rfl (by kernel_rfl) (by kernel_rfl) (by kernel_rfl) (fun _ _ _ h => h) (Or.inl (Or.inl ⟨by rfl, ?_⟩)) hS ?_
    rotate_left
    focus ((intro w hSw; (try dsimp only at hSw); have d1 := (HT6.out.later hSw).bs.cell 1 _ rfl; have d2 := (HB6.out.later hSw).cell 2 _ rfl; go_simp); (try with_reducible rfl))
    intro wq hwq
    subst hwq
    (try simp only [Act.put, List.setIfInBounds_toArray, List.set_cons_zero, List.set_cons_succ])
    refine wpAnyK_take (fun _ => rfl) (fun _ _ _ h k => h.trans k) (fun _ _ h k => k ▸ h) (i := 6) (oi := { dst := some 98, op := _, type := _, pos := _, after := _, guard := _ }) (v := ?_) rfl (by kernel_rfl) (by kernel_rfl) (by kernel_rfl) (fun _ _ _ h => h) (Or.inl (Or.inl ⟨by rfl, ?_⟩)) hS ?_
    rotate_left
    focus ((intro w hSw; (try dsimp only at hSw); have d1 := (HT6.out.later hSw).bs.cell 1 _ rfl; have d2 := (HB6.out.later hSw).cell 2 _ rfl; go_simp); (try with_reducible rfl))
    intro wq hwq
    subst hwq
    (try simp only [Act.put, List.setIfInBounds_toArray, List.set_cons_zero, List.set_cons_succ])
    refine wpAnyK_all (rs := [7]) (by kernel_rfl) (by simp) (fun i hi => ?_)
    simp only [List.mem_cons, List.not_mem_nil, or_false] at hi
    subst hi
    refine stepK (o := { dst := some 12, op := _, type := _, pos := _, after := _, guard := _ }) rfl (fun K hK => ?_)
    go_simp
    obtain ⟨ga, hgg⟩ : ∃ x, y0.heap.size = x := ⟨_, rfl⟩
    obtain ⟨y1, hyy⟩ : ∃ x, y0.alloc (.cells #[.int .i64 0, .string ⟨#[]⟩, .int .i64 0] 59) = x := ⟨_, rfl⟩
    have lc : Later y0 y1 := hyy ▸ Later.new _ _
    have hA : Blk y1 ga #[.int .i64 0, .string ⟨#[]⟩, .int .i64 0] 59 := hyy ▸ Blk.new _ _ _ _ hgg.symm
    have hGA : w6.heap.size ≤ ga := hgg ▸ Later.size hS
    replace hS : (fun W : World => Later w6 W) y1 := Later.trans hS lc
    try rw [hgg]
    rw [hyy]
    refine hK _ _ hS fun wq hwq => ?_
    subst hwq
    clear hK lc hyy hgg
    (try simp only [Act.put, List.setIfInBounds_toArray, List.set_cons_zero, List.set_cons_succ])
    refine wpAnyK_all (rs := [8]) (by kernel_rfl) (by simp) (fun i hi => ?_)
    simp only [List.mem_cons, List.not_mem_nil, or_false] at hi
    subst hi
    refine stepK (o := { dst := none, op := _, type := _, pos := _, after := _, guard := _ }) rfl (fun K hK => ?_)
    rw [if_pos (by rfl)]
    refine wp_store_mid 59 _ _ rfl ga 0 #[.int .i64 (s.2.1 + 1), .string name, .int .i64 4] rfl rfl (fun j hj => by rw [Nat.zero_add]; have hj2 : j < 3 := hj; exact ⟨by rw [cell_of_row y1 ga j _ _ _ hA, Array.getElem?_eq_getElem (by exact hj2)]; rfl, hA.frozen j⟩) (by kernel_rfl) (by simp [Value.oneCell']) ?_
    have hA2 := Blk.fill [.int .i64 0, .string ⟨#[]⟩, .int .i64 0] [.int .i64 (s.2.1 + 1), .string name, .int .i64 4] hA rfl
    have hS2 : (fun W : World => Later w6 W) (y1.setCells ga 0 [.int .i64 (s.2.1 + 1), .string name, .int .i64 4]) := Later.fill hS hGA 0 _
    refine hK _ _ hS2 fun wq hwq => ?_
    obtain ⟨z1, hz1⟩ : ∃ x, y1.setCells ga 0 [.int .i64 (s.2.1 + 1), .string name, .int .i64 4] = x := ⟨_, rfl⟩
    rw [hz1] at hA2 hS2
    have hz2 : z1 = wq := hz1.symm.trans hwq
    subst hz2
    clear hK hwq hz1
    (try simp only [Act.put])
    refine wpAnyK_done (by kernel_rfl) ?_ _
    go_wp2_with fail
    go_meet
    exact ⟨ga, rfl, hA2, (by have := (own_capG HT6.out.ov).2.2.2.1; omega), hS2⟩
  case rest =>
  obtain ⟨gx, rfl, hxb, hxv, lx⟩ := hcut
  have HX6 := Lib.hid hxb
  have HXV := Lib.hid hxv
  have HT7 := Lib.hid (HT6.out.later lx)
  have HL7 := Lib.hid (HL6.out.trans lx)
  clear hxb hxv lx HT6 HL6 HB6
  obtain ⟨w7, hw7⟩ : ∃ x, x = wc := ⟨_, rfl⟩
  rw [← hw7] at HX6 HT7 HL7 ⊢
  clear hw7
  go_upto_region 17 with fail
  go_cut [6] from 99 to 121 (fun pv wx => pv = .int .i64 0 ∧ ∃ gw cw, TB W0.heap.size gt gm wx (insA s.1 (i + 1) (s.2.1 + 1, name, 4), s.2.1 + 1, s.2.2) gw cw ge ec ∧ Later W0 wx)
  case first => as_aux_lemma =>
    have HIC := Lib.hid (show (i : Int) + 1 ≤ (vc : Int) from by have := HIL.out; have := HLEN.out; have := HCAP.out; omega)
    have HI1 := Lib.hid (show (i : Int) + 1 ≤ (s.1.length : Int) from by have := HIL.out; have := HLEN.out; omega)
    obtain ⟨o2, hA2, hHA⟩ : ∃ o2, (if vc = i + 1 then (some ⟨gv, 0, none⟩ : Option Addr) else some ⟨gv, (i + 1) * 3, none⟩) = some ⟨gv, o2, none⟩ ∧ ∀ W, Has W (some ⟨gv, 0, none⟩) (fc s.1) → Has W (some ⟨gv, o2, none⟩) (fc (s.1.drop (i + 1))) := by
      by_cases h : vc = i + 1
      · refine ⟨0, if_pos h, fun W _ => .inl ?_⟩
        rw [List.drop_eq_nil_of_le (by have := HCAP.out; omega)]; rfl
      · refine ⟨(i + 1) * 3, if_neg h, fun W hh => ?_⟩
        rw [fc_drop]; exact has_drop hh _
    have HA2 := Lib.hid hA2
    have HHA := Lib.hid hHA
    have HN6B := Lib.hid (show s.1.length ≤ 6 ∧ i < s.1.length from by have := HIL.out; have := HLEN.out; have := HN6.out; omega)
    have HNS := Lib.hid (show i + 1 + 1 + (s.1.length - (i + 1)) = (insA s.1 (i + 1) (s.2.1 + 1, name, 4)).length from by rw [insA_len]; have := HN6B.out; omega)
    clear hA2 hHA
    refine wp_region_Z (S := (fun W : World => W.cell? ⟨gt, 0, none⟩ = some (.slice (some ⟨gv, 0, none⟩) s.1.length vc) ∧ W.cell? ⟨gx, 0, none⟩ = some (.int .i64 (s.2.1 + 1)) ∧ W.cell? ⟨gx, 1, none⟩ = some (.string name) ∧ W.cell? ⟨gx, 2, none⟩ = some (.int .i64 4))) 23 (by kernel_rfl) ?_
    obtain ⟨y0, hy0⟩ : ∃ x, (w7).drew = x := ⟨_, rfl⟩
    have ly0 : Later w7 y0 := hy0 ▸ (Later.refl w7).drew
    have hS : (fun W : World => W.cell? ⟨gt, 0, none⟩ = some (.slice (some ⟨gv, 0, none⟩) s.1.length vc) ∧ W.cell? ⟨gx, 0, none⟩ = some (.int .i64 (s.2.1 + 1)) ∧ W.cell? ⟨gx, 1, none⟩ = some (.string name) ∧ W.cell? ⟨gx, 2, none⟩ = some (.int .i64 4)) y0 := ⟨(HT7.out.later ly0).bs.cell 0 _ rfl, (HX6.out.later ly0).cell 0 _ rfl, (HX6.out.later ly0).cell 1 _ rfl, (HX6.out.later ly0).cell 2 _ rfl⟩
    have HTY := Lib.hid (HT7.out.later ly0)
    have HLY := Lib.hid (HL7.out.trans ly0)
    have HGV := Lib.hid (own_capG (HT7.out.later ly0).ov).2.2.2.1
    have hiw : IntKind.i64.wrap ((i : Int) + 1) = (i : Int) + 1 := IntWalk.i64_in _ ⟨by omega, by have := HN6B.out; omega⟩
    have HXB := Lib.hid (HX6.out.later ly0)
    have HXL := Lib.hid (HX6.out.later ly0).lt
    rw [hy0]
    clear hy0
    obtain ⟨N0, hN0⟩ : ∃ x, y0.heap.size = x := ⟨_, rfl⟩
    rw [hN0] at HGV HXL
    have HZZ := Lib.hid (show N0 ≤ y0.heap.size from by omega)
    clear hN0
    refine wpAnyZ_take (i := 0) (oi := { dst := some 99, op := _, type := _, pos := _, after := _, guard := _ }) (v := ?_) rfl (by kernel_rfl) (by kernel_rfl) (by kernel_rfl) (by kernel_rfl) (fun _ _ _ h => h) (Or.inl ⟨by rfl, ?_⟩) hS ?_
    rotate_left
    focus ((intro w hSw; (try dsimp only at hSw); obtain ⟨d0, d1, d2, d3⟩ := hSw; go_simp); (try with_reducible rfl))
    (try simp only [Act.put, List.setIfInBounds_toArray, List.set_cons_zero, List.set_cons_succ])
    refine wpAnyZ_take (i := 2) (oi := { dst := some 101, op := _, type := _, pos := _, after := _, guard := _ }) (v := ?_) rfl (by kernel_rfl) (by kernel_rfl) (by kernel_rfl) (by kernel_rfl) (fun _ _ _ h => h) (Or.inl ⟨by rfl, ?_⟩) hS ?_
    rotate_left
    focus ((intro w hSw; (try dsimp only at hSw); obtain ⟨d0, d1, d2, d3⟩ := hSw; go_simp); (try with_reducible rfl))
    (try simp only [Act.put, List.setIfInBounds_toArray, List.set_cons_zero, List.set_cons_succ])
    refine wpAnyZ_take (i := 3) (oi := { dst := some 102, op := _, type := _, pos := _, after := _, guard := _ }) (v := ?_) rfl (by kernel_rfl) (by kernel_rfl) (by kernel_rfl) (by kernel_rfl) (fun _ _ _ h => h) (Or.inl ⟨by rfl, ?_⟩) hS ?_
    rotate_left
    focus ((intro w hSw; (try dsimp only at hSw); obtain ⟨d0, d1, d2, d3⟩ := hSw; go_simp); (try with_reducible rfl))
    (try simp only [Act.put, List.setIfInBounds_toArray, List.set_cons_zero, List.set_cons_succ])
    refine wpAnyZ_take (i := 4) (oi := { dst := some 103, op := _, type := _, pos := _, after := _, guard := _ }) (v := ?_) rfl (by kernel_rfl) (by kernel_rfl) (by kernel_rfl) (by kernel_rfl) (fun _ _ _ h => h) (Or.inl ⟨by rfl, ?_⟩) hS ?_
    rotate_left
    focus ((intro w hSw; (try dsimp only at hSw); obtain ⟨d0, d1, d2, d3⟩ := hSw; go_simp); (try with_reducible rfl))
    (try simp only [Act.put, List.setIfInBounds_toArray, List.set_cons_zero, List.set_cons_succ])
    refine wpAnyZ_take (i := 5) (oi := { dst := some 104, op := _, type := _, pos := _, after := _, guard := _ }) (v := ?_) rfl (by kernel_rfl) (by kernel_rfl) (by kernel_rfl) (by kernel_rfl) (fun _ _ _ h => h) (Or.inl ⟨by rfl, ?_⟩) hS ?_
    rotate_left
    focus ((intro w hSw; (try dsimp only at hSw); obtain ⟨d0, d1, d2, d3⟩ := hSw; go_simp); (try with_reducible rfl))
    (try simp only [Act.put, List.setIfInBounds_toArray, List.set_cons_zero, List.set_cons_succ])
    refine wpAnyZ_take (i := 6) (oi := { dst := some 105, op := _, type := _, pos := _, after := _, guard := _ }) (v := ?_) rfl (by kernel_rfl) (by kernel_rfl) (by kernel_rfl) (by kernel_rfl) (fun _ _ _ h => h) (Or.inl ⟨by rfl, ?_⟩) hS ?_
    rotate_left
    focus ((intro w hSw; (try dsimp only at hSw); obtain ⟨d0, d1, d2, d3⟩ := hSw; go_simp); (try with_reducible rfl))
    (try simp only [Act.put, List.setIfInBounds_toArray, List.set_cons_zero, List.set_cons_succ])
    refine wpAnyZ_take (i := 7) (oi := { dst := some 106, op := _, type := _, pos := _, after := _, guard := _ }) (v := ?_) rfl (by kernel_rfl) (by kernel_rfl) (by kernel_rfl) (by kernel_rfl) (fun _ _ _ h => h) (Or.inl ⟨by rfl, ?_⟩) hS ?_
    rotate_left
    focus ((intro w hSw; (try dsimp only at hSw); obtain ⟨d0, d1, d2, d3⟩ := hSw; have hw := hiw; go_simp); (try with_reducible rfl))
    (try simp only [Act.put, List.setIfInBounds_toArray, List.set_cons_zero, List.set_cons_succ])
    refine wpAnyZ_take (i := 8) (oi := { dst := some 107, op := _, type := _, pos := _, after := _, guard := _ }) (v := ?_) rfl (by kernel_rfl) (by kernel_rfl) (by kernel_rfl) (by kernel_rfl) (fun _ _ _ h => h) (Or.inl ⟨by rfl, ?_⟩) hS ?_
    rotate_left
    focus ((intro w hSw; (try dsimp only at hSw); obtain ⟨d0, d1, d2, d3⟩ := hSw; have hi2 : (0 : Int) ≤ (i : Int) + 1 := (by omega); have hic := HIC.out; go_simp); (try with_reducible rfl))
    (try simp only [Act.put, List.setIfInBounds_toArray, List.set_cons_zero, List.set_cons_succ])
    refine wpAnyZ_take (i := 10) (oi := { dst := some 109, op := _, type := _, pos := _, after := _, guard := _ }) (v := ?_) rfl (by kernel_rfl) (by kernel_rfl) (by kernel_rfl) (by kernel_rfl) (fun _ _ _ h => h) (Or.inl ⟨by rfl, ?_⟩) hS ?_
    rotate_left
    focus ((intro w hSw; (try dsimp only at hSw); obtain ⟨d0, d1, d2, d3⟩ := hSw; go_simp); (try with_reducible rfl))
    (try simp only [Act.put, List.setIfInBounds_toArray, List.set_cons_zero, List.set_cons_succ])
    refine wpAnyZ_take (i := 13) (oi := { dst := some 112, op := _, type := _, pos := _, after := _, guard := _ }) (v := ?_) rfl (by kernel_rfl) (by kernel_rfl) (by kernel_rfl) (by kernel_rfl) (fun _ _ _ h => h) (Or.inl ⟨by rfl, ?_⟩) hS ?_
    rotate_left
    focus ((intro w hSw; (try dsimp only at hSw); obtain ⟨d0, d1, d2, d3⟩ := hSw; go_simp); (try with_reducible rfl))
    (try simp only [Act.put, List.setIfInBounds_toArray, List.set_cons_zero, List.set_cons_succ])
    refine wpAnyZ_take (i := 14) (oi := { dst := some 113, op := _, type := _, pos := _, after := _, guard := _ }) (v := ?_) rfl (by kernel_rfl) (by kernel_rfl) (by kernel_rfl) (by kernel_rfl) (fun _ _ _ h => h) (Or.inl ⟨by rfl, ?_⟩) hS ?_
    rotate_left
    focus ((intro w hSw; (try dsimp only at hSw); obtain ⟨d0, d1, d2, d3⟩ := hSw; go_simp); (try with_reducible rfl))
    (try simp only [Act.put, List.setIfInBounds_toArray, List.set_cons_zero, List.set_cons_succ])
    refine wpAnyZ_take (i := 15) (oi := { dst := some 114, op := _, type := _, pos := _, after := _, guard := _ }) (v := ?_) rfl (by kernel_rfl) (by kernel_rfl) (by kernel_rfl) (by kernel_rfl) (fun _ _ _ h => h) (Or.inl ⟨by rfl, ?_⟩) hS ?_
    rotate_left
    focus ((intro w hSw; (try dsimp only at hSw); obtain ⟨d0, d1, d2, d3⟩ := hSw; go_simp); (try with_reducible rfl))
    (try simp only [Act.put, List.setIfInBounds_toArray, List.set_cons_zero, List.set_cons_succ])
    refine wpAnyZ_take (i := 16) (oi := { dst := some 115, op := _, type := _, pos := _, after := _, guard := _ }) (v := ?_) rfl (by kernel_rfl) (by kernel_rfl) (by kernel_rfl) (by kernel_rfl) (fun _ _ _ h => h) (Or.inl ⟨by rfl, ?_⟩) hS ?_
    rotate_left
    focus ((intro w hSw; (try dsimp only at hSw); obtain ⟨d0, d1, d2, d3⟩ := hSw; go_simp); (try with_reducible rfl))
    (try simp only [Act.put, List.setIfInBounds_toArray, List.set_cons_zero, List.set_cons_succ])
    refine wpAnyZ_take (i := 17) (oi := { dst := some 116, op := _, type := _, pos := _, after := _, guard := _ }) (v := ?_) rfl (by kernel_rfl) (by kernel_rfl) (by kernel_rfl) (by kernel_rfl) (fun _ _ _ h => h) (Or.inl ⟨by rfl, ?_⟩) hS ?_
    rotate_left
    focus ((intro w hSw; (try dsimp only at hSw); obtain ⟨d0, d1, d2, d3⟩ := hSw; go_simp); (try with_reducible rfl))
    (try simp only [Act.put, List.setIfInBounds_toArray, List.set_cons_zero, List.set_cons_succ])
    refine wpAnyZ_take (i := 18) (oi := { dst := some 117, op := _, type := _, pos := _, after := _, guard := _ }) (v := ?_) rfl (by kernel_rfl) (by kernel_rfl) (by kernel_rfl) (by kernel_rfl) (fun _ _ _ h => h) (Or.inl ⟨by rfl, ?_⟩) hS ?_
    rotate_left
    focus ((intro w hSw; (try dsimp only at hSw); obtain ⟨d0, d1, d2, d3⟩ := hSw; have hw := hiw; go_simp); (try with_reducible rfl))
    (try simp only [Act.put, List.setIfInBounds_toArray, List.set_cons_zero, List.set_cons_succ])
    refine wpAnyZ_take (i := 19) (oi := { dst := some 118, op := _, type := _, pos := _, after := _, guard := _ }) (v := ?_) rfl (by kernel_rfl) (by kernel_rfl) (by kernel_rfl) (by kernel_rfl) (fun _ _ _ h => h) (Or.inl ⟨by rfl, ?_⟩) hS ?_
    rotate_left
    focus ((intro w hSw; (try dsimp only at hSw); have hi1 := HI1.out; have hi2 : (0 : Int) ≤ (i : Int) + 1 := (by omega); have ha2 := HA2.out; go_simp); (try with_reducible rfl))
    (try simp only [Act.put, List.setIfInBounds_toArray, List.set_cons_zero, List.set_cons_succ])
    refine wpAnyZ_all (rs := [1, 11]) (by kernel_rfl) (by simp) (fun i hi => ?_)
    simp only [List.mem_cons, List.not_mem_nil, or_false] at hi
    rcases hi with rfl | rfl
    · refine stepZ (o := { dst := some 100, op := _, type := _, pos := _, after := _, guard := _ }) rfl (fun K hK => ?_)
      go_simp
      obtain ⟨gz, hgl⟩ : ∃ x, y0.heap.size = x := ⟨_, rfl⟩
      obtain ⟨y1, hwl⟩ : ∃ x, y0.alloc (.cells #[] 59) = x := ⟨_, rfl⟩
      have ll : Later y0 y1 := hwl ▸ Later.new _ _
      have hbn : Blk y1 gz #[] 59 := hwl ▸ Blk.new _ _ _ _ hgl.symm
      try rw [hgl]
      rw [hwl]
      have HGZ := Lib.hid (show N0 ≤ gz from hgl ▸ HZZ.out)
      have hWZ : W0.heap.size ≤ gz := hgl ▸ HLY.out.size
      have HTY := Lib.hid (HTY.out.later ll)
      have HLY := Lib.hid (HLY.out.trans ll)
      have HZZ := Lib.hid (Nat.le_trans HZZ.out ll.size)
      have HXB := Lib.hid (HXB.out.later ll)
      have HOZ := Lib.hid (Blk.ownG (cs := []) (size := 3) (n := 0) hbn hWZ rfl (by decide))
      replace hS : (fun W : World => W.cell? ⟨gt, 0, none⟩ = some (.slice (some ⟨gv, 0, none⟩) s.1.length vc) ∧ W.cell? ⟨gx, 0, none⟩ = some (.int .i64 (s.2.1 + 1)) ∧ W.cell? ⟨gx, 1, none⟩ = some (.string name) ∧ W.cell? ⟨gx, 2, none⟩ = some (.int .i64 4)) y1 := ⟨HTY.out.bs.cell 0 _ rfl, HXB.out.cell 0 _ rfl, HXB.out.cell 1 _ rfl, HXB.out.cell 2 _ rfl⟩
      refine hK _ _ hS ?_
      clear hK hwl hgl ll hbn hWZ
      (try simp only [Act.put, List.setIfInBounds_toArray, List.set_cons_zero, List.set_cons_succ])
      refine wpAnyZ_all (rs := [9, 11]) (by kernel_rfl) (by simp) (fun i hi => ?_)
      simp only [List.mem_cons, List.not_mem_nil, or_false] at hi
      rcases hi with rfl | rfl
      · refine stepZ (o := { dst := some 108, op := _, type := _, pos := _, after := _, guard := _ }) rfl (fun K hK => ?_)
        refine step_append_x rfl (.tmp 100) (.tmp 107) 22 rfl W0.heap.size 59 _ 3 32 Tryd.underlying22 info_c rfl (by decide) (.slice (some ⟨gz, 0, none⟩) 0 0) 0 [] rfl HOZ.out gv 0 (i + 1) vc (fc (s.1.take (i + 1))) rfl (show Has _ _ _ from by rw [fc_take]; exact has_take (Has.ownG HTY.out.ov) _) (by rw [fc_length, List.length_take]; have := HN6B.out; omega) (fc_one _) (by unfold maxLen; have := HN6B.out; omega) (by have := HN6B.out; omega) HLY.out.size ?_
        rintro A' c' y2 ho hgr hbl hat _
        (try simp only [Nat.zero_add])
        rw [Nat.zero_add] at ho
        obtain ⟨gw, rfl⟩ := own_some ho (by omega)
        obtain ⟨cv, hcv⟩ := own_typ HOZ.out
        have hdg : gv ≠ gz := by have h1 := HGV.out; have h2 := HGZ.out; omega
        have hwd : W0.heap.size ≤ gz := (own_capG HOZ.out).2.2.1
        have HG1 := Lib.hid (show N0 ≤ gw from by
          have h2 := HGZ.out
          have h3 := HZZ.out
          rcases hat with e | e
          · have e : some gw = some gz := e
            injection e with e; omega
          · have e : some gw = some _ := e
            injection e with e; omega)
        have HXB := Lib.hid (grown_blk (d := gz) hgr HXB.out (by have h1 := HXL.out; have h2 := HGZ.out; omega))
        have HTY := Lib.hid (HTY.out.app hgr hcv hdg)
        have HLY := Lib.hid (grow_later HLY.out hgr hwd)
        have HZZ := Lib.hid (Nat.le_trans HZZ.out hgr.size)
        have HO1 := Lib.hid ho
        obtain ⟨g1, hgn⟩ : ∃ x, x = gw := ⟨_, rfl⟩
        obtain ⟨c1, hcn⟩ : ∃ x, x = c' := ⟨_, rfl⟩
        rw [← hgn] at HO1 HG1 ⊢
        rw [← hcn] at HO1 ⊢
        replace hS : (fun W : World => W.cell? ⟨gt, 0, none⟩ = some (.slice (some ⟨gv, 0, none⟩) s.1.length vc) ∧ W.cell? ⟨gx, 0, none⟩ = some (.int .i64 (s.2.1 + 1)) ∧ W.cell? ⟨gx, 1, none⟩ = some (.string name) ∧ W.cell? ⟨gx, 2, none⟩ = some (.int .i64 4)) y2 := ⟨HTY.out.bs.cell 0 _ rfl, HXB.out.cell 0 _ rfl, HXB.out.cell 1 _ rfl, HXB.out.cell 2 _ rfl⟩
        refine hK _ _ hS ?_
        clear hK ho hgr hbl hat hgn hcn hcv hdg hwd
        (try simp only [Act.put, List.setIfInBounds_toArray, List.set_cons_zero, List.set_cons_succ])
        refine wpAnyZ_all (rs := [11]) (by kernel_rfl) (by simp) (fun i hi => ?_)
        simp only [List.mem_cons, List.not_mem_nil, or_false] at hi
        subst hi
        refine stepZ (o := { dst := some 110, op := _, type := _, pos := _, after := _, guard := _ }) rfl (fun K hK => ?_)
        go_simp
        obtain ⟨gl, hgl⟩ : ∃ x, y2.heap.size = x := ⟨_, rfl⟩
        obtain ⟨y3, hwl⟩ : ∃ x, y2.alloc (.cells #[.int .i64 (s.2.1 + 1), .string name, .int .i64 4] 59) = x := ⟨_, rfl⟩
        have ll : Later y2 y3 := hwl ▸ Later.new _ _
        have hbn : Blk y3 gl #[.int .i64 (s.2.1 + 1), .string name, .int .i64 4] 59 := hwl ▸ Blk.new _ _ _ _ hgl.symm
        try rw [hgl]
        rw [hwl]
        have HTY := Lib.hid (HTY.out.later ll)
        have HLY := Lib.hid (HLY.out.trans ll)
        have HZZ := Lib.hid (Nat.le_trans HZZ.out ll.size)
        have HXB := Lib.hid (HXB.out.later ll)
        have HO1 := Lib.hid (own_later HO1.out ll)
        have HLB := Lib.hid hbn
        replace hS : (fun W : World => W.cell? ⟨gt, 0, none⟩ = some (.slice (some ⟨gv, 0, none⟩) s.1.length vc) ∧ W.cell? ⟨gx, 0, none⟩ = some (.int .i64 (s.2.1 + 1)) ∧ W.cell? ⟨gx, 1, none⟩ = some (.string name) ∧ W.cell? ⟨gx, 2, none⟩ = some (.int .i64 4)) y3 := ⟨HTY.out.bs.cell 0 _ rfl, HXB.out.cell 0 _ rfl, HXB.out.cell 1 _ rfl, HXB.out.cell 2 _ rfl⟩
        refine hK _ _ hS ?_
        clear hK hwl hgl ll hbn
        (try simp only [Act.put, List.setIfInBounds_toArray, List.set_cons_zero, List.set_cons_succ])
        refine wpAnyZ_all (rs := [12]) (by kernel_rfl) (by simp) (fun i hi => ?_)
        simp only [List.mem_cons, List.not_mem_nil, or_false] at hi
        subst hi
        refine stepZ (o := { dst := some 111, op := _, type := _, pos := _, after := _, guard := _ }) rfl (fun K hK => ?_)
        refine step_append_x rfl (.tmp 108) (.tmp 110) 22 rfl W0.heap.size 59 _ 3 32 Tryd.underlying22 info_c rfl (by decide) (.slice (some ⟨g1, 0, none⟩) (i + 1) c1) (i + 1) ([] ++ fc (s.1.take (i + 1))) rfl HO1.out gl 0 1 1 (fc [(s.2.1 + 1, name, 4)]) rfl (Blk.has (cs := fc [(s.2.1 + 1, name, 4)]) HLB.out) (rfl) (fc_one _) (by unfold maxLen; have := HN6B.out; omega) (by have := HN6B.out; omega) HLY.out.size ?_
        rintro A' c' y3a ho hgr hbl hat _
        skip
        skip
        obtain ⟨gw, rfl⟩ := own_some ho (by omega)
        obtain ⟨cv, hcv⟩ := own_typ HO1.out
        have hdg : gv ≠ g1 := by have h1 := HGV.out; have h2 := HG1.out; omega
        have hwd : W0.heap.size ≤ g1 := (own_capG HO1.out).2.2.1
        have HG2 := Lib.hid (show N0 ≤ gw from by
          have h2 := HG1.out
          have h3 := HZZ.out
          rcases hat with e | e
          · have e : some gw = some g1 := e
            injection e with e; omega
          · have e : some gw = some _ := e
            injection e with e; omega)
        have HXB := Lib.hid (grown_blk (d := g1) hgr HXB.out (by have h1 := HXL.out; have h2 := HG1.out; omega))
        have HTY := Lib.hid (HTY.out.app hgr hcv hdg)
        have HLY := Lib.hid (grow_later HLY.out hgr hwd)
        have HZZ := Lib.hid (Nat.le_trans HZZ.out hgr.size)
        have HO2 := Lib.hid ho
        obtain ⟨g2, hgn⟩ : ∃ x, x = gw := ⟨_, rfl⟩
        obtain ⟨c2, hcn⟩ : ∃ x, x = c' := ⟨_, rfl⟩
        rw [← hgn] at HO2 HG2 ⊢
        rw [← hcn] at HO2 ⊢
        replace hS : (fun W : World => W.cell? ⟨gt, 0, none⟩ = some (.slice (some ⟨gv, 0, none⟩) s.1.length vc) ∧ W.cell? ⟨gx, 0, none⟩ = some (.int .i64 (s.2.1 + 1)) ∧ W.cell? ⟨gx, 1, none⟩ = some (.string name) ∧ W.cell? ⟨gx, 2, none⟩ = some (.int .i64 4)) y3a := ⟨HTY.out.bs.cell 0 _ rfl, HXB.out.cell 0 _ rfl, HXB.out.cell 1 _ rfl, HXB.out.cell 2 _ rfl⟩
        refine hK _ _ hS ?_
        clear hK ho hgr hbl hat hgn hcn hcv hdg hwd
        (try simp only [Act.put, List.setIfInBounds_toArray, List.set_cons_zero, List.set_cons_succ])
        refine wpAnyZ_all (rs := [20]) (by kernel_rfl) (by simp) (fun i hi => ?_)
        simp only [List.mem_cons, List.not_mem_nil, or_false] at hi
        subst hi
        refine stepZ (o := { dst := some 119, op := _, type := _, pos := _, after := _, guard := _ }) rfl (fun K hK => ?_)
        refine step_append_x rfl (.tmp 111) (.tmp 118) 22 rfl W0.heap.size 59 _ 3 32 Tryd.underlying22 info_c rfl (by decide) (.slice (some ⟨g2, 0, none⟩) (i + 1 + 1) c2) (i + 1 + 1) ([] ++ fc (s.1.take (i + 1)) ++ fc [(s.2.1 + 1, name, 4)]) rfl HO2.out gv o2 (s.1.length - (i + 1)) (vc - (i + 1)) (fc (s.1.drop (i + 1))) rfl (HHA.out _ (Has.ownG HTY.out.ov)) (by rw [fc_length, List.length_drop]) (fc_one _) (by unfold maxLen; have := HN6B.out; omega) (by have := HN6B.out; omega) HLY.out.size ?_
        rintro A' c' y3b ho hgr hbl hat _
        skip
        skip
        obtain ⟨gw, rfl⟩ := own_some ho (by omega)
        obtain ⟨cv, hcv⟩ := own_typ HO2.out
        have hdg : gv ≠ g2 := by have h1 := HGV.out; have h2 := HG2.out; omega
        have hwd : W0.heap.size ≤ g2 := (own_capG HO2.out).2.2.1
        have n1 : gt ≠ g2 := ne_typ HTY.out.bs hcv (by decide)
        have hb1 := grown_blk (d := g2) hgr HTY.out.bs n1
        rw [show [] ++ fc (s.1.take (i + 1)) ++ fc [(s.2.1 + 1, name, 4)] ++ fc (s.1.drop (i + 1)) = fc (insA s.1 (i + 1) (s.2.1 + 1, name, 4)) from by unfold insA; rw [List.nil_append, ← fc_append, ← fc_append, List.append_assoc]; rfl] at ho
        have HTC := Lib.hid (HTY.out.cols (gv' := gw) (vc' := c') (insA s.1 (i + 1) (s.2.1 + 1, name, 4)) (by rw [← HNS.out]; exact ho) hgr hcv)
        rw [← HNS.out] at HTC
        have HLQ := Lib.hid (show Later W0 (y3b.setCell ⟨gt, 0, none⟩ (.slice (some ⟨gw, 0, none⟩) (i + 1 + 1 + (s.1.length - (i + 1))) c')) from lsetB gt 0 _ HTY.out.hb.1 (grow_later HLY.out hgr hwd))
        have hx2 := grown_blk (d := g2) hgr HXB.out (by have h1 := HXL.out; have h2 := HG2.out; omega)
        replace hS : (fun W : World => W.cell? ⟨gt, 0, none⟩ = some (.slice (some ⟨gv, 0, none⟩) s.1.length vc) ∧ W.cell? ⟨gx, 0, none⟩ = some (.int .i64 (s.2.1 + 1)) ∧ W.cell? ⟨gx, 1, none⟩ = some (.string name) ∧ W.cell? ⟨gx, 2, none⟩ = some (.int .i64 4)) y3b := ⟨Blk.cell hb1 0 _ rfl, (show Blk _ gx _ _ from hx2).cell 0 _ rfl, (show Blk _ gx _ _ from hx2).cell 1 _ rfl, (show Blk _ gx _ _ from hx2).cell 2 _ rfl⟩
        have HFZ := Lib.hid (Blk.frozen hb1 0)
        refine hK _ _ hS ?_
        clear hK ho hgr hbl hat hb1 hcv hdg hwd
        (try simp only [Act.put, List.setIfInBounds_toArray, List.set_cons_zero, List.set_cons_succ])
        refine wpAnyZ_all (rs := [21]) (by kernel_rfl) (by simp) (fun i hi => ?_)
        simp only [List.mem_cons, List.not_mem_nil, or_false] at hi
        subst hi
        refine stepZ (o := { dst := some 120, op := _, type := _, pos := _, after := _, guard := _ }) rfl (fun K hK => ?_)
        go_simp
        refine hK _ _ hS ?_
        clear hK 
        (try simp only [Act.put, List.setIfInBounds_toArray, List.set_cons_zero, List.set_cons_succ])
        refine wpAnyZ_take (i := 22) (oi := { dst := some 121, op := _, type := _, pos := _, after := _, guard := _ }) (v := ?_) rfl (by kernel_rfl) (by kernel_rfl) (by kernel_rfl) (by kernel_rfl) (fun _ _ _ h => h) (Or.inl ⟨by rfl, ?_⟩) hS ?_
        rotate_left
        focus ((intro w hSw; (try dsimp only at hSw); skip; go_simp); (try with_reducible rfl))
        (try simp only [Act.put, List.setIfInBounds_toArray, List.set_cons_zero, List.set_cons_succ])
        refine wpAnyZ_all (rs := [23]) (by kernel_rfl) (by simp) (fun i hi => ?_)
        simp only [List.mem_cons, List.not_mem_nil, or_false] at hi
        subst hi
        refine stepZl (o := { dst := none, op := _, type := _, pos := _, after := _, guard := _ }) rfl (fun K hK => ?_)
        have e0 := hS.1
        have f0 := HFZ.out
        go_simp
        refine hK _ _ ?_
        clear hK e0 f0
        (try simp only [Act.put])
        refine wpAnyZ_done (by kernel_rfl) ?_ _
        go_wp2_with fail
        go_meet
        exact ⟨rfl, gw, c', HTC.out, HLQ.out⟩
      · refine stepZ (o := { dst := some 110, op := _, type := _, pos := _, after := _, guard := _ }) rfl (fun K hK => ?_)
        go_simp
        obtain ⟨gl, hgl⟩ : ∃ x, y1.heap.size = x := ⟨_, rfl⟩
        obtain ⟨y2, hwl⟩ : ∃ x, y1.alloc (.cells #[.int .i64 (s.2.1 + 1), .string name, .int .i64 4] 59) = x := ⟨_, rfl⟩
        have ll : Later y1 y2 := hwl ▸ Later.new _ _
        have hbn : Blk y2 gl #[.int .i64 (s.2.1 + 1), .string name, .int .i64 4] 59 := hwl ▸ Blk.new _ _ _ _ hgl.symm
        try rw [hgl]
        rw [hwl]
        have HNZ := Lib.hid (show gl ≠ gz from by have := (own_capG HOZ.out).2.2.2.1; omega)
        have HTY := Lib.hid (HTY.out.later ll)
        have HLY := Lib.hid (HLY.out.trans ll)
        have HZZ := Lib.hid (Nat.le_trans HZZ.out ll.size)
        have HXB := Lib.hid (HXB.out.later ll)
        have HOZ := Lib.hid (own_later HOZ.out ll)
        have HLB := Lib.hid hbn
        replace hS : (fun W : World => W.cell? ⟨gt, 0, none⟩ = some (.slice (some ⟨gv, 0, none⟩) s.1.length vc) ∧ W.cell? ⟨gx, 0, none⟩ = some (.int .i64 (s.2.1 + 1)) ∧ W.cell? ⟨gx, 1, none⟩ = some (.string name) ∧ W.cell? ⟨gx, 2, none⟩ = some (.int .i64 4)) y2 := ⟨HTY.out.bs.cell 0 _ rfl, HXB.out.cell 0 _ rfl, HXB.out.cell 1 _ rfl, HXB.out.cell 2 _ rfl⟩
        refine hK _ _ hS ?_
        clear hK hwl hgl ll hbn
        (try simp only [Act.put, List.setIfInBounds_toArray, List.set_cons_zero, List.set_cons_succ])
        refine wpAnyZ_all (rs := [9]) (by kernel_rfl) (by simp) (fun i hi => ?_)
        simp only [List.mem_cons, List.not_mem_nil, or_false] at hi
        subst hi
        refine stepZ (o := { dst := some 108, op := _, type := _, pos := _, after := _, guard := _ }) rfl (fun K hK => ?_)
        refine step_append_x rfl (.tmp 100) (.tmp 107) 22 rfl W0.heap.size 59 _ 3 32 Tryd.underlying22 info_c rfl (by decide) (.slice (some ⟨gz, 0, none⟩) 0 0) 0 [] rfl HOZ.out gv 0 (i + 1) vc (fc (s.1.take (i + 1))) rfl (show Has _ _ _ from by rw [fc_take]; exact has_take (Has.ownG HTY.out.ov) _) (by rw [fc_length, List.length_take]; have := HN6B.out; omega) (fc_one _) (by unfold maxLen; have := HN6B.out; omega) (by have := HN6B.out; omega) HLY.out.size ?_
        rintro A' c' y3 ho hgr hbl hat _
        (try simp only [Nat.zero_add])
        rw [Nat.zero_add] at ho
        obtain ⟨gw, rfl⟩ := own_some ho (by omega)
        obtain ⟨cv, hcv⟩ := own_typ HOZ.out
        have hdg : gv ≠ gz := by have h1 := HGV.out; have h2 := HGZ.out; omega
        have hwd : W0.heap.size ≤ gz := (own_capG HOZ.out).2.2.1
        have HG1 := Lib.hid (show N0 ≤ gw from by
          have h2 := HGZ.out
          have h3 := HZZ.out
          rcases hat with e | e
          · have e : some gw = some gz := e
            injection e with e; omega
          · have e : some gw = some _ := e
            injection e with e; omega)
        have HLB := Lib.hid (grown_blk (d := gz) hgr HLB.out HNZ.out)
        have HXB := Lib.hid (grown_blk (d := gz) hgr HXB.out (by have h1 := HXL.out; have h2 := HGZ.out; omega))
        have HTY := Lib.hid (HTY.out.app hgr hcv hdg)
        have HLY := Lib.hid (grow_later HLY.out hgr hwd)
        have HZZ := Lib.hid (Nat.le_trans HZZ.out hgr.size)
        have HO1 := Lib.hid ho
        obtain ⟨g1, hgn⟩ : ∃ x, x = gw := ⟨_, rfl⟩
        obtain ⟨c1, hcn⟩ : ∃ x, x = c' := ⟨_, rfl⟩
        rw [← hgn] at HO1 HG1 ⊢
        rw [← hcn] at HO1 ⊢
        replace hS : (fun W : World => W.cell? ⟨gt, 0, none⟩ = some (.slice (some ⟨gv, 0, none⟩) s.1.length vc) ∧ W.cell? ⟨gx, 0, none⟩ = some (.int .i64 (s.2.1 + 1)) ∧ W.cell? ⟨gx, 1, none⟩ = some (.string name) ∧ W.cell? ⟨gx, 2, none⟩ = some (.int .i64 4)) y3 := ⟨HTY.out.bs.cell 0 _ rfl, HXB.out.cell 0 _ rfl, HXB.out.cell 1 _ rfl, HXB.out.cell 2 _ rfl⟩
        refine hK _ _ hS ?_
        clear hK ho hgr hbl hat hgn hcn hcv hdg hwd
        (try simp only [Act.put, List.setIfInBounds_toArray, List.set_cons_zero, List.set_cons_succ])
        refine wpAnyZ_all (rs := [12]) (by kernel_rfl) (by simp) (fun i hi => ?_)
        simp only [List.mem_cons, List.not_mem_nil, or_false] at hi
        subst hi
        refine stepZ (o := { dst := some 111, op := _, type := _, pos := _, after := _, guard := _ }) rfl (fun K hK => ?_)
        refine step_append_x rfl (.tmp 108) (.tmp 110) 22 rfl W0.heap.size 59 _ 3 32 Tryd.underlying22 info_c rfl (by decide) (.slice (some ⟨g1, 0, none⟩) (i + 1) c1) (i + 1) ([] ++ fc (s.1.take (i + 1))) rfl HO1.out gl 0 1 1 (fc [(s.2.1 + 1, name, 4)]) rfl (Blk.has (cs := fc [(s.2.1 + 1, name, 4)]) HLB.out) (rfl) (fc_one _) (by unfold maxLen; have := HN6B.out; omega) (by have := HN6B.out; omega) HLY.out.size ?_
        rintro A' c' y3a ho hgr hbl hat _
        skip
        skip
        obtain ⟨gw, rfl⟩ := own_some ho (by omega)
        obtain ⟨cv, hcv⟩ := own_typ HO1.out
        have hdg : gv ≠ g1 := by have h1 := HGV.out; have h2 := HG1.out; omega
        have hwd : W0.heap.size ≤ g1 := (own_capG HO1.out).2.2.1
        have HG2 := Lib.hid (show N0 ≤ gw from by
          have h2 := HG1.out
          have h3 := HZZ.out
          rcases hat with e | e
          · have e : some gw = some g1 := e
            injection e with e; omega
          · have e : some gw = some _ := e
            injection e with e; omega)
        have HXB := Lib.hid (grown_blk (d := g1) hgr HXB.out (by have h1 := HXL.out; have h2 := HG1.out; omega))
        have HTY := Lib.hid (HTY.out.app hgr hcv hdg)
        have HLY := Lib.hid (grow_later HLY.out hgr hwd)
        have HZZ := Lib.hid (Nat.le_trans HZZ.out hgr.size)
        have HO2 := Lib.hid ho
        obtain ⟨g2, hgn⟩ : ∃ x, x = gw := ⟨_, rfl⟩
        obtain ⟨c2, hcn⟩ : ∃ x, x = c' := ⟨_, rfl⟩
        rw [← hgn] at HO2 HG2 ⊢
        rw [← hcn] at HO2 ⊢
        replace hS : (fun W : World => W.cell? ⟨gt, 0, none⟩ = some (.slice (some ⟨gv, 0, none⟩) s.1.length vc) ∧ W.cell? ⟨gx, 0, none⟩ = some (.int .i64 (s.2.1 + 1)) ∧ W.cell? ⟨gx, 1, none⟩ = some (.string name) ∧ W.cell? ⟨gx, 2, none⟩ = some (.int .i64 4)) y3a := ⟨HTY.out.bs.cell 0 _ rfl, HXB.out.cell 0 _ rfl, HXB.out.cell 1 _ rfl, HXB.out.cell 2 _ rfl⟩
        refine hK _ _ hS ?_
        clear hK ho hgr hbl hat hgn hcn hcv hdg hwd
        (try simp only [Act.put, List.setIfInBounds_toArray, List.set_cons_zero, List.set_cons_succ])
        refine wpAnyZ_all (rs := [20]) (by kernel_rfl) (by simp) (fun i hi => ?_)
        simp only [List.mem_cons, List.not_mem_nil, or_false] at hi
        subst hi
        refine stepZ (o := { dst := some 119, op := _, type := _, pos := _, after := _, guard := _ }) rfl (fun K hK => ?_)
        refine step_append_x rfl (.tmp 111) (.tmp 118) 22 rfl W0.heap.size 59 _ 3 32 Tryd.underlying22 info_c rfl (by decide) (.slice (some ⟨g2, 0, none⟩) (i + 1 + 1) c2) (i + 1 + 1) ([] ++ fc (s.1.take (i + 1)) ++ fc [(s.2.1 + 1, name, 4)]) rfl HO2.out gv o2 (s.1.length - (i + 1)) (vc - (i + 1)) (fc (s.1.drop (i + 1))) rfl (HHA.out _ (Has.ownG HTY.out.ov)) (by rw [fc_length, List.length_drop]) (fc_one _) (by unfold maxLen; have := HN6B.out; omega) (by have := HN6B.out; omega) HLY.out.size ?_
        rintro A' c' y3b ho hgr hbl hat _
        skip
        skip
        obtain ⟨gw, rfl⟩ := own_some ho (by omega)
        obtain ⟨cv, hcv⟩ := own_typ HO2.out
        have hdg : gv ≠ g2 := by have h1 := HGV.out; have h2 := HG2.out; omega
        have hwd : W0.heap.size ≤ g2 := (own_capG HO2.out).2.2.1
        have n1 : gt ≠ g2 := ne_typ HTY.out.bs hcv (by decide)
        have hb1 := grown_blk (d := g2) hgr HTY.out.bs n1
        rw [show [] ++ fc (s.1.take (i + 1)) ++ fc [(s.2.1 + 1, name, 4)] ++ fc (s.1.drop (i + 1)) = fc (insA s.1 (i + 1) (s.2.1 + 1, name, 4)) from by unfold insA; rw [List.nil_append, ← fc_append, ← fc_append, List.append_assoc]; rfl] at ho
        have HTC := Lib.hid (HTY.out.cols (gv' := gw) (vc' := c') (insA s.1 (i + 1) (s.2.1 + 1, name, 4)) (by rw [← HNS.out]; exact ho) hgr hcv)
        rw [← HNS.out] at HTC
        have HLQ := Lib.hid (show Later W0 (y3b.setCell ⟨gt, 0, none⟩ (.slice (some ⟨gw, 0, none⟩) (i + 1 + 1 + (s.1.length - (i + 1))) c')) from lsetB gt 0 _ HTY.out.hb.1 (grow_later HLY.out hgr hwd))
        have hx2 := grown_blk (d := g2) hgr HXB.out (by have h1 := HXL.out; have h2 := HG2.out; omega)
        replace hS : (fun W : World => W.cell? ⟨gt, 0, none⟩ = some (.slice (some ⟨gv, 0, none⟩) s.1.length vc) ∧ W.cell? ⟨gx, 0, none⟩ = some (.int .i64 (s.2.1 + 1)) ∧ W.cell? ⟨gx, 1, none⟩ = some (.string name) ∧ W.cell? ⟨gx, 2, none⟩ = some (.int .i64 4)) y3b := ⟨Blk.cell hb1 0 _ rfl, (show Blk _ gx _ _ from hx2).cell 0 _ rfl, (show Blk _ gx _ _ from hx2).cell 1 _ rfl, (show Blk _ gx _ _ from hx2).cell 2 _ rfl⟩
        have HFZ := Lib.hid (Blk.frozen hb1 0)
        refine hK _ _ hS ?_
        clear hK ho hgr hbl hat hb1 hcv hdg hwd
        (try simp only [Act.put, List.setIfInBounds_toArray, List.set_cons_zero, List.set_cons_succ])
        refine wpAnyZ_all (rs := [21]) (by kernel_rfl) (by simp) (fun i hi => ?_)
        simp only [List.mem_cons, List.not_mem_nil, or_false] at hi
        subst hi
        refine stepZ (o := { dst := some 120, op := _, type := _, pos := _, after := _, guard := _ }) rfl (fun K hK => ?_)
        go_simp
        refine hK _ _ hS ?_
        clear hK 
        (try simp only [Act.put, List.setIfInBounds_toArray, List.set_cons_zero, List.set_cons_succ])
        refine wpAnyZ_take (i := 22) (oi := { dst := some 121, op := _, type := _, pos := _, after := _, guard := _ }) (v := ?_) rfl (by kernel_rfl) (by kernel_rfl) (by kernel_rfl) (by kernel_rfl) (fun _ _ _ h => h) (Or.inl ⟨by rfl, ?_⟩) hS ?_
        rotate_left
        focus ((intro w hSw; (try dsimp only at hSw); skip; go_simp); (try with_reducible rfl))
        (try simp only [Act.put, List.setIfInBounds_toArray, List.set_cons_zero, List.set_cons_succ])
        refine wpAnyZ_all (rs := [23]) (by kernel_rfl) (by simp) (fun i hi => ?_)
        simp only [List.mem_cons, List.not_mem_nil, or_false] at hi
        subst hi
        refine stepZl (o := { dst := none, op := _, type := _, pos := _, after := _, guard := _ }) rfl (fun K hK => ?_)
        have e0 := hS.1
        have f0 := HFZ.out
        go_simp
        refine hK _ _ ?_
        clear hK e0 f0
        (try simp only [Act.put])
        refine wpAnyZ_done (by kernel_rfl) ?_ _
        go_wp2_with fail
        go_meet
        exact ⟨rfl, gw, c', HTC.out, HLQ.out⟩
    · refine stepZ (o := { dst := some 110, op := _, type := _, pos := _, after := _, guard := _ }) rfl (fun K hK => ?_)
      go_simp
      obtain ⟨gl, hgl⟩ : ∃ x, y0.heap.size = x := ⟨_, rfl⟩
      obtain ⟨y1, hwl⟩ : ∃ x, y0.alloc (.cells #[.int .i64 (s.2.1 + 1), .string name, .int .i64 4] 59) = x := ⟨_, rfl⟩
      have ll : Later y0 y1 := hwl ▸ Later.new _ _
      have hbn : Blk y1 gl #[.int .i64 (s.2.1 + 1), .string name, .int .i64 4] 59 := hwl ▸ Blk.new _ _ _ _ hgl.symm
      try rw [hgl]
      rw [hwl]
      have HTY := Lib.hid (HTY.out.later ll)
      have HLY := Lib.hid (HLY.out.trans ll)
      have HZZ := Lib.hid (Nat.le_trans HZZ.out ll.size)
      have HXB := Lib.hid (HXB.out.later ll)
      have HLB := Lib.hid hbn
      replace hS : (fun W : World => W.cell? ⟨gt, 0, none⟩ = some (.slice (some ⟨gv, 0, none⟩) s.1.length vc) ∧ W.cell? ⟨gx, 0, none⟩ = some (.int .i64 (s.2.1 + 1)) ∧ W.cell? ⟨gx, 1, none⟩ = some (.string name) ∧ W.cell? ⟨gx, 2, none⟩ = some (.int .i64 4)) y1 := ⟨HTY.out.bs.cell 0 _ rfl, HXB.out.cell 0 _ rfl, HXB.out.cell 1 _ rfl, HXB.out.cell 2 _ rfl⟩
      refine hK _ _ hS ?_
      clear hK hwl hgl ll hbn
      (try simp only [Act.put, List.setIfInBounds_toArray, List.set_cons_zero, List.set_cons_succ])
      refine wpAnyZ_all (rs := [1]) (by kernel_rfl) (by simp) (fun i hi => ?_)
      simp only [List.mem_cons, List.not_mem_nil, or_false] at hi
      subst hi
      refine stepZ (o := { dst := some 100, op := _, type := _, pos := _, after := _, guard := _ }) rfl (fun K hK => ?_)
      go_simp
      obtain ⟨gz, hgl⟩ : ∃ x, y1.heap.size = x := ⟨_, rfl⟩
      obtain ⟨y2, hwl⟩ : ∃ x, y1.alloc (.cells #[] 59) = x := ⟨_, rfl⟩
      have ll : Later y1 y2 := hwl ▸ Later.new _ _
      have hbn : Blk y2 gz #[] 59 := hwl ▸ Blk.new _ _ _ _ hgl.symm
      try rw [hgl]
      rw [hwl]
      have HGZ := Lib.hid (show N0 ≤ gz from hgl ▸ HZZ.out)
      have hWZ : W0.heap.size ≤ gz := hgl ▸ HLY.out.size
      have HNZ := Lib.hid (show gl ≠ gz from by have := HLB.out.lt; omega)
      have HTY := Lib.hid (HTY.out.later ll)
      have HLY := Lib.hid (HLY.out.trans ll)
      have HZZ := Lib.hid (Nat.le_trans HZZ.out ll.size)
      have HXB := Lib.hid (HXB.out.later ll)
      have HLB := Lib.hid (HLB.out.later ll)
      have HOZ := Lib.hid (Blk.ownG (cs := []) (size := 3) (n := 0) hbn hWZ rfl (by decide))
      replace hS : (fun W : World => W.cell? ⟨gt, 0, none⟩ = some (.slice (some ⟨gv, 0, none⟩) s.1.length vc) ∧ W.cell? ⟨gx, 0, none⟩ = some (.int .i64 (s.2.1 + 1)) ∧ W.cell? ⟨gx, 1, none⟩ = some (.string name) ∧ W.cell? ⟨gx, 2, none⟩ = some (.int .i64 4)) y2 := ⟨HTY.out.bs.cell 0 _ rfl, HXB.out.cell 0 _ rfl, HXB.out.cell 1 _ rfl, HXB.out.cell 2 _ rfl⟩
      refine hK _ _ hS ?_
      clear hK hwl hgl ll hbn hWZ
      (try simp only [Act.put, List.setIfInBounds_toArray, List.set_cons_zero, List.set_cons_succ])
      refine wpAnyZ_all (rs := [9]) (by kernel_rfl) (by simp) (fun i hi => ?_)
      simp only [List.mem_cons, List.not_mem_nil, or_false] at hi
      subst hi
      refine stepZ (o := { dst := some 108, op := _, type := _, pos := _, after := _, guard := _ }) rfl (fun K hK => ?_)
      refine step_append_x rfl (.tmp 100) (.tmp 107) 22 rfl W0.heap.size 59 _ 3 32 Tryd.underlying22 info_c rfl (by decide) (.slice (some ⟨gz, 0, none⟩) 0 0) 0 [] rfl HOZ.out gv 0 (i + 1) vc (fc (s.1.take (i + 1))) rfl (show Has _ _ _ from by rw [fc_take]; exact has_take (Has.ownG HTY.out.ov) _) (by rw [fc_length, List.length_take]; have := HN6B.out; omega) (fc_one _) (by unfold maxLen; have := HN6B.out; omega) (by have := HN6B.out; omega) HLY.out.size ?_
      rintro A' c' y3 ho hgr hbl hat _
      (try simp only [Nat.zero_add])
      rw [Nat.zero_add] at ho
      obtain ⟨gw, rfl⟩ := own_some ho (by omega)
      obtain ⟨cv, hcv⟩ := own_typ HOZ.out
      have hdg : gv ≠ gz := by have h1 := HGV.out; have h2 := HGZ.out; omega
      have hwd : W0.heap.size ≤ gz := (own_capG HOZ.out).2.2.1
      have HG1 := Lib.hid (show N0 ≤ gw from by
        have h2 := HGZ.out
        have h3 := HZZ.out
        rcases hat with e | e
        · have e : some gw = some gz := e
          injection e with e; omega
        · have e : some gw = some _ := e
          injection e with e; omega)
      have HLB := Lib.hid (grown_blk (d := gz) hgr HLB.out HNZ.out)
      have HXB := Lib.hid (grown_blk (d := gz) hgr HXB.out (by have h1 := HXL.out; have h2 := HGZ.out; omega))
      have HTY := Lib.hid (HTY.out.app hgr hcv hdg)
      have HLY := Lib.hid (grow_later HLY.out hgr hwd)
      have HZZ := Lib.hid (Nat.le_trans HZZ.out hgr.size)
      have HO1 := Lib.hid ho
      obtain ⟨g1, hgn⟩ : ∃ x, x = gw := ⟨_, rfl⟩
      obtain ⟨c1, hcn⟩ : ∃ x, x = c' := ⟨_, rfl⟩
      rw [← hgn] at HO1 HG1 ⊢
      rw [← hcn] at HO1 ⊢
      replace hS : (fun W : World => W.cell? ⟨gt, 0, none⟩ = some (.slice (some ⟨gv, 0, none⟩) s.1.length vc) ∧ W.cell? ⟨gx, 0, none⟩ = some (.int .i64 (s.2.1 + 1)) ∧ W.cell? ⟨gx, 1, none⟩ = some (.string name) ∧ W.cell? ⟨gx, 2, none⟩ = some (.int .i64 4)) y3 := ⟨HTY.out.bs.cell 0 _ rfl, HXB.out.cell 0 _ rfl, HXB.out.cell 1 _ rfl, HXB.out.cell 2 _ rfl⟩
      refine hK _ _ hS ?_
      clear hK ho hgr hbl hat hgn hcn hcv hdg hwd
      (try simp only [Act.put, List.setIfInBounds_toArray, List.set_cons_zero, List.set_cons_succ])
      refine wpAnyZ_all (rs := [12]) (by kernel_rfl) (by simp) (fun i hi => ?_)
      simp only [List.mem_cons, List.not_mem_nil, or_false] at hi
      subst hi
      refine stepZ (o := { dst := some 111, op := _, type := _, pos := _, after := _, guard := _ }) rfl (fun K hK => ?_)
      refine step_append_x rfl (.tmp 108) (.tmp 110) 22 rfl W0.heap.size 59 _ 3 32 Tryd.underlying22 info_c rfl (by decide) (.slice (some ⟨g1, 0, none⟩) (i + 1) c1) (i + 1) ([] ++ fc (s.1.take (i + 1))) rfl HO1.out gl 0 1 1 (fc [(s.2.1 + 1, name, 4)]) rfl (Blk.has (cs := fc [(s.2.1 + 1, name, 4)]) HLB.out) (rfl) (fc_one _) (by unfold maxLen; have := HN6B.out; omega) (by have := HN6B.out; omega) HLY.out.size ?_
      rintro A' c' y3a ho hgr hbl hat _
      skip
      skip
      obtain ⟨gw, rfl⟩ := own_some ho (by omega)
      obtain ⟨cv, hcv⟩ := own_typ HO1.out
      have hdg : gv ≠ g1 := by have h1 := HGV.out; have h2 := HG1.out; omega
      have hwd : W0.heap.size ≤ g1 := (own_capG HO1.out).2.2.1
      have HG2 := Lib.hid (show N0 ≤ gw from by
        have h2 := HG1.out
        have h3 := HZZ.out
        rcases hat with e | e
        · have e : some gw = some g1 := e
          injection e with e; omega
        · have e : some gw = some _ := e
          injection e with e; omega)
      have HXB := Lib.hid (grown_blk (d := g1) hgr HXB.out (by have h1 := HXL.out; have h2 := HG1.out; omega))
      have HTY := Lib.hid (HTY.out.app hgr hcv hdg)
      have HLY := Lib.hid (grow_later HLY.out hgr hwd)
      have HZZ := Lib.hid (Nat.le_trans HZZ.out hgr.size)
      have HO2 := Lib.hid ho
      obtain ⟨g2, hgn⟩ : ∃ x, x = gw := ⟨_, rfl⟩
      obtain ⟨c2, hcn⟩ : ∃ x, x = c' := ⟨_, rfl⟩
      rw [← hgn] at HO2 HG2 ⊢
      rw [← hcn] at HO2 ⊢
      replace hS : (fun W : World => W.cell? ⟨gt, 0, none⟩ = some (.slice (some ⟨gv, 0, none⟩) s.1.length vc) ∧ W.cell? ⟨gx, 0, none⟩ = some (.int .i64 (s.2.1 + 1)) ∧ W.cell? ⟨gx, 1, none⟩ = some (.string name) ∧ W.cell? ⟨gx, 2, none⟩ = some (.int .i64 4)) y3a := ⟨HTY.out.bs.cell 0 _ rfl, HXB.out.cell 0 _ rfl, HXB.out.cell 1 _ rfl, HXB.out.cell 2 _ rfl⟩
      refine hK _ _ hS ?_
      clear hK ho hgr hbl hat hgn hcn hcv hdg hwd
      (try simp only [Act.put, List.setIfInBounds_toArray, List.set_cons_zero, List.set_cons_succ])
      refine wpAnyZ_all (rs := [20]) (by kernel_rfl) (by simp) (fun i hi => ?_)
      simp only [List.mem_cons, List.not_mem_nil, or_false] at hi
      subst hi
      refine stepZ (o := { dst := some 119, op := _, type := _, pos := _, after := _, guard := _ }) rfl (fun K hK => ?_)
      refine step_append_x rfl (.tmp 111) (.tmp 118) 22 rfl W0.heap.size 59 _ 3 32 Tryd.underlying22 info_c rfl (by decide) (.slice (some ⟨g2, 0, none⟩) (i + 1 + 1) c2) (i + 1 + 1) ([] ++ fc (s.1.take (i + 1)) ++ fc [(s.2.1 + 1, name, 4)]) rfl HO2.out gv o2 (s.1.length - (i + 1)) (vc - (i + 1)) (fc (s.1.drop (i + 1))) rfl (HHA.out _ (Has.ownG HTY.out.ov)) (by rw [fc_length, List.length_drop]) (fc_one _) (by unfold maxLen; have := HN6B.out; omega) (by have := HN6B.out; omega) HLY.out.size ?_
      rintro A' c' y3b ho hgr hbl hat _
      skip
      skip
      obtain ⟨gw, rfl⟩ := own_some ho (by omega)
      obtain ⟨cv, hcv⟩ := own_typ HO2.out
      have hdg : gv ≠ g2 := by have h1 := HGV.out; have h2 := HG2.out; omega
      have hwd : W0.heap.size ≤ g2 := (own_capG HO2.out).2.2.1
      have n1 : gt ≠ g2 := ne_typ HTY.out.bs hcv (by decide)
      have hb1 := grown_blk (d := g2) hgr HTY.out.bs n1
      rw [show [] ++ fc (s.1.take (i + 1)) ++ fc [(s.2.1 + 1, name, 4)] ++ fc (s.1.drop (i + 1)) = fc (insA s.1 (i + 1) (s.2.1 + 1, name, 4)) from by unfold insA; rw [List.nil_append, ← fc_append, ← fc_append, List.append_assoc]; rfl] at ho
      have HTC := Lib.hid (HTY.out.cols (gv' := gw) (vc' := c') (insA s.1 (i + 1) (s.2.1 + 1, name, 4)) (by rw [← HNS.out]; exact ho) hgr hcv)
      rw [← HNS.out] at HTC
      have HLQ := Lib.hid (show Later W0 (y3b.setCell ⟨gt, 0, none⟩ (.slice (some ⟨gw, 0, none⟩) (i + 1 + 1 + (s.1.length - (i + 1))) c')) from lsetB gt 0 _ HTY.out.hb.1 (grow_later HLY.out hgr hwd))
      have hx2 := grown_blk (d := g2) hgr HXB.out (by have h1 := HXL.out; have h2 := HG2.out; omega)
      replace hS : (fun W : World => W.cell? ⟨gt, 0, none⟩ = some (.slice (some ⟨gv, 0, none⟩) s.1.length vc) ∧ W.cell? ⟨gx, 0, none⟩ = some (.int .i64 (s.2.1 + 1)) ∧ W.cell? ⟨gx, 1, none⟩ = some (.string name) ∧ W.cell? ⟨gx, 2, none⟩ = some (.int .i64 4)) y3b := ⟨Blk.cell hb1 0 _ rfl, (show Blk _ gx _ _ from hx2).cell 0 _ rfl, (show Blk _ gx _ _ from hx2).cell 1 _ rfl, (show Blk _ gx _ _ from hx2).cell 2 _ rfl⟩
      have HFZ := Lib.hid (Blk.frozen hb1 0)
      refine hK _ _ hS ?_
      clear hK ho hgr hbl hat hb1 hcv hdg hwd
      (try simp only [Act.put, List.setIfInBounds_toArray, List.set_cons_zero, List.set_cons_succ])
      refine wpAnyZ_all (rs := [21]) (by kernel_rfl) (by simp) (fun i hi => ?_)
      simp only [List.mem_cons, List.not_mem_nil, or_false] at hi
      subst hi
      refine stepZ (o := { dst := some 120, op := _, type := _, pos := _, after := _, guard := _ }) rfl (fun K hK => ?_)
      go_simp
      refine hK _ _ hS ?_
      clear hK 
      (try simp only [Act.put, List.setIfInBounds_toArray, List.set_cons_zero, List.set_cons_succ])
      refine wpAnyZ_take (i := 22) (oi := { dst := some 121, op := _, type := _, pos := _, after := _, guard := _ }) (v := ?_) rfl (by kernel_rfl) (by kernel_rfl) (by kernel_rfl) (by kernel_rfl) (fun _ _ _ h => h) (Or.inl ⟨by rfl, ?_⟩) hS ?_
      rotate_left
      focus ((intro w hSw; (try dsimp only at hSw); skip; go_simp); (try with_reducible rfl))
      (try simp only [Act.put, List.setIfInBounds_toArray, List.set_cons_zero, List.set_cons_succ])
      refine wpAnyZ_all (rs := [23]) (by kernel_rfl) (by simp) (fun i hi => ?_)
      simp only [List.mem_cons, List.not_mem_nil, or_false] at hi
      subst hi
      refine stepZl (o := { dst := none, op := _, type := _, pos := _, after := _, guard := _ }) rfl (fun K hK => ?_)
      have e0 := hS.1
      have f0 := HFZ.out
      go_simp
      refine hK _ _ ?_
      clear hK e0 f0
      (try simp only [Act.put])
      refine wpAnyZ_done (by kernel_rfl) ?_ _
      go_wp2_with fail
      go_meet
      exact ⟨rfl, gw, c', HTC.out, HLQ.out⟩
  case rest =>
  obtain ⟨rfl, gw, cw, hT, hL⟩ := hcut
  have HT8 := Lib.hid hT
  have HL8 := Lib.hid hL
  clear hT hL HT7 HL7 HX6 HXV HCAP
  obtain ⟨w8, hw8⟩ : ∃ x, x = wc := ⟨_, rfl⟩
  rw [← hw8] at HT8 HL8 ⊢
  clear hw8
  go_upto_region 18 with fail
  have HIC := Lib.hid (show (i : Int) + 1 ≤ (ec : Int) from by have := HIL.out; have := HLEN.out; have := HCAE.out; omega)
  have HI1 := Lib.hid (show (i : Int) + 1 ≤ (s.2.2.enc.length : Int) from by have := HIL.out; have := HLEN.out; omega)
  obtain ⟨o2, hA2, hHA⟩ : ∃ o2, (if ec = i + 1 then (some ⟨ge, 0, none⟩ : Option Addr) else some ⟨ge, (i + 1), none⟩) = some ⟨ge, o2, none⟩ ∧ ∀ W, Has W (some ⟨ge, 0, none⟩) (ein s.2.2.enc) → Has W (some ⟨ge, o2, none⟩) (ein (s.2.2.enc.drop (i + 1))) := by
    by_cases h : ec = i + 1
    · refine ⟨0, if_pos h, fun W _ => .inl ?_⟩
      rw [List.drop_eq_nil_of_le (by have := HCAE.out; omega)]; rfl
    · refine ⟨(i + 1), if_neg h, fun W hh => ?_⟩
      rw [show ein (s.2.2.enc.drop (i + 1)) = (ein s.2.2.enc).drop (i + 1) from List.map_drop]; exact has_drop hh _
  have HA2 := Lib.hid hA2
  have HHA := Lib.hid hHA
  have HN6B := Lib.hid (show s.2.2.enc.length ≤ 6 ∧ i < s.2.2.enc.length from by have := HIL.out; have := HLEN.out; have := HN6.out; omega)
  have HNS := Lib.hid (show i + 1 + 1 + (s.2.2.enc.length - (i + 1)) = (insA s.2.2.enc (i + 1) (1 : Int)).length from by rw [insA_len]; have := HN6B.out; omega)
  clear hA2 hHA
  refine wp_region_Z (S := (fun W : World => W.cell? ⟨gm, 3, none⟩ = some (.slice (some ⟨ge, 0, none⟩) s.2.2.enc.length ec))) 22 (by kernel_rfl) ?_
  obtain ⟨y0, hy0⟩ : ∃ x, (w8).drew = x := ⟨_, rfl⟩
  have ly0 : Later w8 y0 := hy0 ▸ (Later.refl w8).drew
  have hS : (fun W : World => W.cell? ⟨gm, 3, none⟩ = some (.slice (some ⟨ge, 0, none⟩) s.2.2.enc.length ec)) y0 := (HT8.out.later ly0).bl.cell 3 _ rfl
  have HTY := Lib.hid (HT8.out.later ly0)
  have HLY := Lib.hid (HL8.out.trans ly0)
  have HGV := Lib.hid (own_capG (HT8.out.later ly0).oe).2.2.2.1
  have hiw : IntKind.i64.wrap ((i : Int) + 1) = (i : Int) + 1 := IntWalk.i64_in _ ⟨by omega, by have := HN6B.out; omega⟩
  rw [hy0]
  clear hy0
  obtain ⟨N0, hN0⟩ : ∃ x, y0.heap.size = x := ⟨_, rfl⟩
  rw [hN0] at HGV
  have HZZ := Lib.hid (show N0 ≤ y0.heap.size from by omega)
  clear hN0
  refine wpAnyZ_take (i := 0) (oi := { dst := some 122, op := _, type := _, pos := _, after := _, guard := _ }) (v := ?_) rfl (by kernel_rfl) (by kernel_rfl) (by kernel_rfl) (by kernel_rfl) (fun _ _ _ h => h) (Or.inl ⟨by rfl, ?_⟩) hS ?_
  rotate_left
  focus ((intro w hSw; (try dsimp only at hSw); have d0 := hSw; go_simp); (try with_reducible rfl))
  (try simp only [Act.put, List.setIfInBounds_toArray, List.set_cons_zero, List.set_cons_succ])
  refine wpAnyZ_take (i := 2) (oi := { dst := some 124, op := _, type := _, pos := _, after := _, guard := _ }) (v := ?_) rfl (by kernel_rfl) (by kernel_rfl) (by kernel_rfl) (by kernel_rfl) (fun _ _ _ h => h) (Or.inl ⟨by rfl, ?_⟩) hS ?_
  rotate_left
  focus ((intro w hSw; (try dsimp only at hSw); have d0 := hSw; go_simp); (try with_reducible rfl))
  (try simp only [Act.put, List.setIfInBounds_toArray, List.set_cons_zero, List.set_cons_succ])
  refine wpAnyZ_take (i := 3) (oi := { dst := some 125, op := _, type := _, pos := _, after := _, guard := _ }) (v := ?_) rfl (by kernel_rfl) (by kernel_rfl) (by kernel_rfl) (by kernel_rfl) (fun _ _ _ h => h) (Or.inl ⟨by rfl, ?_⟩) hS ?_
  rotate_left
  focus ((intro w hSw; (try dsimp only at hSw); have d0 := hSw; go_simp); (try with_reducible rfl))
  (try simp only [Act.put, List.setIfInBounds_toArray, List.set_cons_zero, List.set_cons_succ])
  refine wpAnyZ_take (i := 4) (oi := { dst := some 126, op := _, type := _, pos := _, after := _, guard := _ }) (v := ?_) rfl (by kernel_rfl) (by kernel_rfl) (by kernel_rfl) (by kernel_rfl) (fun _ _ _ h => h) (Or.inl ⟨by rfl, ?_⟩) hS ?_
  rotate_left
  focus ((intro w hSw; (try dsimp only at hSw); have d0 := hSw; go_simp); (try with_reducible rfl))
  (try simp only [Act.put, List.setIfInBounds_toArray, List.set_cons_zero, List.set_cons_succ])
  refine wpAnyZ_take (i := 5) (oi := { dst := some 127, op := _, type := _, pos := _, after := _, guard := _ }) (v := ?_) rfl (by kernel_rfl) (by kernel_rfl) (by kernel_rfl) (by kernel_rfl) (fun _ _ _ h => h) (Or.inl ⟨by rfl, ?_⟩) hS ?_
  rotate_left
  focus ((intro w hSw; (try dsimp only at hSw); have d0 := hSw; go_simp); (try with_reducible rfl))
  (try simp only [Act.put, List.setIfInBounds_toArray, List.set_cons_zero, List.set_cons_succ])
  refine wpAnyZ_take (i := 6) (oi := { dst := some 128, op := _, type := _, pos := _, after := _, guard := _ }) (v := ?_) rfl (by kernel_rfl) (by kernel_rfl) (by kernel_rfl) (by kernel_rfl) (fun _ _ _ h => h) (Or.inl ⟨by rfl, ?_⟩) hS ?_
  rotate_left
  focus ((intro w hSw; (try dsimp only at hSw); have d0 := hSw; go_simp); (try with_reducible rfl))
  (try simp only [Act.put, List.setIfInBounds_toArray, List.set_cons_zero, List.set_cons_succ])
  refine wpAnyZ_take (i := 7) (oi := { dst := some 129, op := _, type := _, pos := _, after := _, guard := _ }) (v := ?_) rfl (by kernel_rfl) (by kernel_rfl) (by kernel_rfl) (by kernel_rfl) (fun _ _ _ h => h) (Or.inl ⟨by rfl, ?_⟩) hS ?_
  rotate_left
  focus ((intro w hSw; (try dsimp only at hSw); have d0 := hSw; have hw := hiw; go_simp); (try with_reducible rfl))
  (try simp only [Act.put, List.setIfInBounds_toArray, List.set_cons_zero, List.set_cons_succ])
  refine wpAnyZ_take (i := 8) (oi := { dst := some 130, op := _, type := _, pos := _, after := _, guard := _ }) (v := ?_) rfl (by kernel_rfl) (by kernel_rfl) (by kernel_rfl) (by kernel_rfl) (fun _ _ _ h => h) (Or.inl ⟨by rfl, ?_⟩) hS ?_
  rotate_left
  focus ((intro w hSw; (try dsimp only at hSw); have d0 := hSw; have hi2 : (0 : Int) ≤ (i : Int) + 1 := (by omega); have hic := HIC.out; go_simp); (try with_reducible rfl))
  (try simp only [Act.put, List.setIfInBounds_toArray, List.set_cons_zero, List.set_cons_succ])
  refine wpAnyZ_take (i := 12) (oi := { dst := some 134, op := _, type := _, pos := _, after := _, guard := _ }) (v := ?_) rfl (by kernel_rfl) (by kernel_rfl) (by kernel_rfl) (by kernel_rfl) (fun _ _ _ h => h) (Or.inl ⟨by rfl, ?_⟩) hS ?_
  rotate_left
  focus ((intro w hSw; (try dsimp only at hSw); have d0 := hSw; go_simp); (try with_reducible rfl))
  (try simp only [Act.put, List.setIfInBounds_toArray, List.set_cons_zero, List.set_cons_succ])
  refine wpAnyZ_take (i := 13) (oi := { dst := some 135, op := _, type := _, pos := _, after := _, guard := _ }) (v := ?_) rfl (by kernel_rfl) (by kernel_rfl) (by kernel_rfl) (by kernel_rfl) (fun _ _ _ h => h) (Or.inl ⟨by rfl, ?_⟩) hS ?_
  rotate_left
  focus ((intro w hSw; (try dsimp only at hSw); have d0 := hSw; go_simp); (try with_reducible rfl))
  (try simp only [Act.put, List.setIfInBounds_toArray, List.set_cons_zero, List.set_cons_succ])
  refine wpAnyZ_take (i := 14) (oi := { dst := some 136, op := _, type := _, pos := _, after := _, guard := _ }) (v := ?_) rfl (by kernel_rfl) (by kernel_rfl) (by kernel_rfl) (by kernel_rfl) (fun _ _ _ h => h) (Or.inl ⟨by rfl, ?_⟩) hS ?_
  rotate_left
  focus ((intro w hSw; (try dsimp only at hSw); have d0 := hSw; go_simp); (try with_reducible rfl))
  (try simp only [Act.put, List.setIfInBounds_toArray, List.set_cons_zero, List.set_cons_succ])
  refine wpAnyZ_take (i := 15) (oi := { dst := some 137, op := _, type := _, pos := _, after := _, guard := _ }) (v := ?_) rfl (by kernel_rfl) (by kernel_rfl) (by kernel_rfl) (by kernel_rfl) (fun _ _ _ h => h) (Or.inl ⟨by rfl, ?_⟩) hS ?_
  rotate_left
  focus ((intro w hSw; (try dsimp only at hSw); have d0 := hSw; go_simp); (try with_reducible rfl))
  (try simp only [Act.put, List.setIfInBounds_toArray, List.set_cons_zero, List.set_cons_succ])
  refine wpAnyZ_take (i := 16) (oi := { dst := some 138, op := _, type := _, pos := _, after := _, guard := _ }) (v := ?_) rfl (by kernel_rfl) (by kernel_rfl) (by kernel_rfl) (by kernel_rfl) (fun _ _ _ h => h) (Or.inl ⟨by rfl, ?_⟩) hS ?_
  rotate_left
  focus ((intro w hSw; (try dsimp only at hSw); have d0 := hSw; go_simp); (try with_reducible rfl))
  (try simp only [Act.put, List.setIfInBounds_toArray, List.set_cons_zero, List.set_cons_succ])
  refine wpAnyZ_take (i := 17) (oi := { dst := some 139, op := _, type := _, pos := _, after := _, guard := _ }) (v := ?_) rfl (by kernel_rfl) (by kernel_rfl) (by kernel_rfl) (by kernel_rfl) (fun _ _ _ h => h) (Or.inl ⟨by rfl, ?_⟩) hS ?_
  rotate_left
  focus ((intro w hSw; (try dsimp only at hSw); have d0 := hSw; have hw := hiw; go_simp); (try with_reducible rfl))
  (try simp only [Act.put, List.setIfInBounds_toArray, List.set_cons_zero, List.set_cons_succ])
  refine wpAnyZ_take (i := 18) (oi := { dst := some 140, op := _, type := _, pos := _, after := _, guard := _ }) (v := ?_) rfl (by kernel_rfl) (by kernel_rfl) (by kernel_rfl) (by kernel_rfl) (fun _ _ _ h => h) (Or.inl ⟨by rfl, ?_⟩) hS ?_
  rotate_left
  focus ((intro w hSw; (try dsimp only at hSw); have hi1 := HI1.out; have hi2 : (0 : Int) ≤ (i : Int) + 1 := (by omega); have ha2 := HA2.out; go_simp); (try with_reducible rfl))
  (try simp only [Act.put, List.setIfInBounds_toArray, List.set_cons_zero, List.set_cons_succ])
  refine wpAnyZ_all (rs := [1, 10]) (by kernel_rfl) (by simp) (fun i hi => ?_)
  simp only [List.mem_cons, List.not_mem_nil, or_false] at hi
  rcases hi with rfl | rfl
  · refine stepZ (o := { dst := some 123, op := _, type := _, pos := _, after := _, guard := _ }) rfl (fun K hK => ?_)
    go_simp
    obtain ⟨gz, hgl⟩ : ∃ x, y0.heap.size = x := ⟨_, rfl⟩
    obtain ⟨y1, hwl⟩ : ∃ x, y0.alloc (.cells #[] 3) = x := ⟨_, rfl⟩
    have ll : Later y0 y1 := hwl ▸ Later.new _ _
    have hbn : Blk y1 gz #[] 3 := hwl ▸ Blk.new _ _ _ _ hgl.symm
    try rw [hgl]
    rw [hwl]
    have HGZ := Lib.hid (show N0 ≤ gz from hgl ▸ HZZ.out)
    have hWZ : W0.heap.size ≤ gz := hgl ▸ HLY.out.size
    have HTY := Lib.hid (HTY.out.later ll)
    have HLY := Lib.hid (HLY.out.trans ll)
    have HZZ := Lib.hid (Nat.le_trans HZZ.out ll.size)
    have HOZ := Lib.hid (Blk.ownG (cs := []) (size := 1) (n := 0) hbn hWZ rfl (by decide))
    replace hS : (fun W : World => W.cell? ⟨gm, 3, none⟩ = some (.slice (some ⟨ge, 0, none⟩) s.2.2.enc.length ec)) y1 := HTY.out.bl.cell 3 _ rfl
    refine hK _ _ hS ?_
    clear hK hwl hgl ll hbn hWZ
    (try simp only [Act.put, List.setIfInBounds_toArray, List.set_cons_zero, List.set_cons_succ])
    refine wpAnyZ_all (rs := [9, 10]) (by kernel_rfl) (by simp) (fun i hi => ?_)
    simp only [List.mem_cons, List.not_mem_nil, or_false] at hi
    rcases hi with rfl | rfl
    · refine stepZ (o := { dst := some 131, op := _, type := _, pos := _, after := _, guard := _ }) rfl (fun K hK => ?_)
      refine step_append_x rfl (.tmp 123) (.tmp 130) 25 rfl W0.heap.size 3 _ 1 8 Tryd.underlying25 info_e rfl (by decide) (.slice (some ⟨gz, 0, none⟩) 0 0) 0 [] rfl HOZ.out ge 0 (i + 1) ec (ein (s.2.2.enc.take (i + 1))) rfl (show Has _ _ _ from by rw [show ein (s.2.2.enc.take (i + 1)) = (ein s.2.2.enc).take (i + 1) from List.map_take]; exact has_take (Has.ownG HTY.out.oe) _) (by rw [ein_len, List.length_take]; have := HN6B.out; omega) (fun u hu => by obtain ⟨z, _, rfl⟩ := List.mem_map.1 hu; rfl) (by unfold maxLen; have := HN6B.out; omega) (by have := HN6B.out; omega) HLY.out.size ?_
      rintro A' c' y2 ho hgr hbl hat _
      (try simp only [Nat.zero_add])
      rw [Nat.zero_add] at ho
      obtain ⟨gw, rfl⟩ := own_some ho (by omega)
      obtain ⟨cv, hcv⟩ := own_typ HOZ.out
      have hdg : ge ≠ gz := by have h1 := HGV.out; have h2 := HGZ.out; omega
      have hwd : W0.heap.size ≤ gz := (own_capG HOZ.out).2.2.1
      have HG1 := Lib.hid (show N0 ≤ gw from by
        have h2 := HGZ.out
        have h3 := HZZ.out
        rcases hat with e | e
        · have e : some gw = some gz := e
          injection e with e; omega
        · have e : some gw = some _ := e
          injection e with e; omega)
      have HTY := Lib.hid (HTY.out.appE hgr hcv hdg)
      have HLY := Lib.hid (grow_later HLY.out hgr hwd)
      have HZZ := Lib.hid (Nat.le_trans HZZ.out hgr.size)
      have HO1 := Lib.hid ho
      obtain ⟨g1, hgn⟩ : ∃ x, x = gw := ⟨_, rfl⟩
      obtain ⟨c1, hcn⟩ : ∃ x, x = c' := ⟨_, rfl⟩
      rw [← hgn] at HO1 HG1 ⊢
      rw [← hcn] at HO1 ⊢
      replace hS : (fun W : World => W.cell? ⟨gm, 3, none⟩ = some (.slice (some ⟨ge, 0, none⟩) s.2.2.enc.length ec)) y2 := HTY.out.bl.cell 3 _ rfl
      refine hK _ _ hS ?_
      clear hK ho hgr hbl hat hgn hcn hcv hdg hwd
      (try simp only [Act.put, List.setIfInBounds_toArray, List.set_cons_zero, List.set_cons_succ])
      refine wpAnyZ_all (rs := [10]) (by kernel_rfl) (by simp) (fun i hi => ?_)
      simp only [List.mem_cons, List.not_mem_nil, or_false] at hi
      subst hi
      refine stepZ (o := { dst := some 132, op := _, type := _, pos := _, after := _, guard := _ }) rfl (fun K hK => ?_)
      go_simp
      obtain ⟨gl, hgl⟩ : ∃ x, y2.heap.size = x := ⟨_, rfl⟩
      obtain ⟨y3, hwl⟩ : ∃ x, y2.alloc (.cells #[.int .i64 1] 3) = x := ⟨_, rfl⟩
      have ll : Later y2 y3 := hwl ▸ Later.new _ _
      have hbn : Blk y3 gl #[.int .i64 1] 3 := hwl ▸ Blk.new _ _ _ _ hgl.symm
      try rw [hgl]
      rw [hwl]
      have HTY := Lib.hid (HTY.out.later ll)
      have HLY := Lib.hid (HLY.out.trans ll)
      have HZZ := Lib.hid (Nat.le_trans HZZ.out ll.size)
      have HO1 := Lib.hid (own_later HO1.out ll)
      have HLB := Lib.hid hbn
      replace hS : (fun W : World => W.cell? ⟨gm, 3, none⟩ = some (.slice (some ⟨ge, 0, none⟩) s.2.2.enc.length ec)) y3 := HTY.out.bl.cell 3 _ rfl
      refine hK _ _ hS ?_
      clear hK hwl hgl ll hbn
      (try simp only [Act.put, List.setIfInBounds_toArray, List.set_cons_zero, List.set_cons_succ])
      refine wpAnyZ_all (rs := [11]) (by kernel_rfl) (by simp) (fun i hi => ?_)
      simp only [List.mem_cons, List.not_mem_nil, or_false] at hi
      subst hi
      refine stepZ (o := { dst := some 133, op := _, type := _, pos := _, after := _, guard := _ }) rfl (fun K hK => ?_)
      refine step_append_x rfl (.tmp 131) (.tmp 132) 25 rfl W0.heap.size 3 _ 1 8 Tryd.underlying25 info_e rfl (by decide) (.slice (some ⟨g1, 0, none⟩) (i + 1) c1) (i + 1) ([] ++ ein (s.2.2.enc.take (i + 1))) rfl HO1.out gl 0 1 1 (ein [(1 : Int)]) rfl (Blk.has (cs := ein [(1 : Int)]) HLB.out) (rfl) (fun u hu => by obtain ⟨z, _, rfl⟩ := List.mem_map.1 hu; rfl) (by unfold maxLen; have := HN6B.out; omega) (by have := HN6B.out; omega) HLY.out.size ?_
      rintro A' c' y3a ho hgr hbl hat _
      skip
      skip
      obtain ⟨gw, rfl⟩ := own_some ho (by omega)
      obtain ⟨cv, hcv⟩ := own_typ HO1.out
      have hdg : ge ≠ g1 := by have h1 := HGV.out; have h2 := HG1.out; omega
      have hwd : W0.heap.size ≤ g1 := (own_capG HO1.out).2.2.1
      have HG2 := Lib.hid (show N0 ≤ gw from by
        have h2 := HG1.out
        have h3 := HZZ.out
        rcases hat with e | e
        · have e : some gw = some g1 := e
          injection e with e; omega
        · have e : some gw = some _ := e
          injection e with e; omega)
      have HTY := Lib.hid (HTY.out.appE hgr hcv hdg)
      have HLY := Lib.hid (grow_later HLY.out hgr hwd)
      have HZZ := Lib.hid (Nat.le_trans HZZ.out hgr.size)
      have HO2 := Lib.hid ho
      obtain ⟨g2, hgn⟩ : ∃ x, x = gw := ⟨_, rfl⟩
      obtain ⟨c2, hcn⟩ : ∃ x, x = c' := ⟨_, rfl⟩
      rw [← hgn] at HO2 HG2 ⊢
      rw [← hcn] at HO2 ⊢
      replace hS : (fun W : World => W.cell? ⟨gm, 3, none⟩ = some (.slice (some ⟨ge, 0, none⟩) s.2.2.enc.length ec)) y3a := HTY.out.bl.cell 3 _ rfl
      refine hK _ _ hS ?_
      clear hK ho hgr hbl hat hgn hcn hcv hdg hwd
      (try simp only [Act.put, List.setIfInBounds_toArray, List.set_cons_zero, List.set_cons_succ])
      refine wpAnyZ_all (rs := [19]) (by kernel_rfl) (by simp) (fun i hi => ?_)
      simp only [List.mem_cons, List.not_mem_nil, or_false] at hi
      subst hi
      refine stepZ (o := { dst := some 141, op := _, type := _, pos := _, after := _, guard := _ }) rfl (fun K hK => ?_)
      refine step_append_x rfl (.tmp 133) (.tmp 140) 25 rfl W0.heap.size 3 _ 1 8 Tryd.underlying25 info_e rfl (by decide) (.slice (some ⟨g2, 0, none⟩) (i + 1 + 1) c2) (i + 1 + 1) ([] ++ ein (s.2.2.enc.take (i + 1)) ++ ein [(1 : Int)]) rfl HO2.out ge o2 (s.2.2.enc.length - (i + 1)) (ec - (i + 1)) (ein (s.2.2.enc.drop (i + 1))) rfl (HHA.out _ (Has.ownG HTY.out.oe)) (by rw [ein_len, List.length_drop, Nat.mul_one]) (fun u hu => by obtain ⟨z, _, rfl⟩ := List.mem_map.1 hu; rfl) (by unfold maxLen; have := HN6B.out; omega) (by have := HN6B.out; omega) HLY.out.size ?_
      rintro A' c' y3b ho hgr hbl hat _
      skip
      skip
      obtain ⟨gw, rfl⟩ := own_some ho (by omega)
      obtain ⟨cv, hcv⟩ := own_typ HO2.out
      have hdg : ge ≠ g2 := by have h1 := HGV.out; have h2 := HG2.out; omega
      have hwd : W0.heap.size ≤ g2 := (own_capG HO2.out).2.2.1
      have n1 : gm ≠ g2 := ne_typ HTY.out.bl hcv (by decide)
      have hb1 := grown_blk (d := g2) hgr HTY.out.bl n1
      rw [show [] ++ ein (s.2.2.enc.take (i + 1)) ++ ein [(1 : Int)] ++ ein (s.2.2.enc.drop (i + 1)) = ein (insA s.2.2.enc (i + 1) 1) from by unfold insA ein; rw [List.nil_append, ← List.map_append, ← List.map_append, List.append_assoc]; rfl] at ho
      have HTC := Lib.hid (HTY.out.encs (ge' := gw) (ec' := c') (insA s.2.2.enc (i + 1) (1 : Int)) (by rw [← HNS.out]; exact ho) hgr hcv)
      rw [← HNS.out] at HTC
      have HLQ := Lib.hid (show Later W0 (y3b.setCell ⟨gm, 3, none⟩ (.slice (some ⟨gw, 0, none⟩) (i + 1 + 1 + (s.2.2.enc.length - (i + 1))) c')) from lsetB gm 3 _ HTY.out.hb.2 (grow_later HLY.out hgr hwd))
      replace hS : (fun W : World => W.cell? ⟨gm, 3, none⟩ = some (.slice (some ⟨ge, 0, none⟩) s.2.2.enc.length ec)) y3b := Blk.cell hb1 3 _ rfl
      have HFZ := Lib.hid (Blk.frozen hb1 3)
      refine hK _ _ hS ?_
      clear hK ho hgr hbl hat hb1 hcv hdg hwd
      (try simp only [Act.put, List.setIfInBounds_toArray, List.set_cons_zero, List.set_cons_succ])
      refine wpAnyZ_all (rs := [20]) (by kernel_rfl) (by simp) (fun i hi => ?_)
      simp only [List.mem_cons, List.not_mem_nil, or_false] at hi
      subst hi
      refine stepZ (o := { dst := some 142, op := _, type := _, pos := _, after := _, guard := _ }) rfl (fun K hK => ?_)
      go_simp
      refine hK _ _ hS ?_
      clear hK 
      (try simp only [Act.put, List.setIfInBounds_toArray, List.set_cons_zero, List.set_cons_succ])
      refine wpAnyZ_take (i := 21) (oi := { dst := some 143, op := _, type := _, pos := _, after := _, guard := _ }) (v := ?_) rfl (by kernel_rfl) (by kernel_rfl) (by kernel_rfl) (by kernel_rfl) (fun _ _ _ h => h) (Or.inl ⟨by rfl, ?_⟩) hS ?_
      rotate_left
      focus ((intro w hSw; (try dsimp only at hSw); skip; go_simp); (try with_reducible rfl))
      (try simp only [Act.put, List.setIfInBounds_toArray, List.set_cons_zero, List.set_cons_succ])
      refine wpAnyZ_all (rs := [22]) (by kernel_rfl) (by simp) (fun i hi => ?_)
      simp only [List.mem_cons, List.not_mem_nil, or_false] at hi
      subst hi
      refine stepZl (o := { dst := none, op := _, type := _, pos := _, after := _, guard := _ }) rfl (fun K hK => ?_)
      have e0 := hS
      have f0 := HFZ.out
      go_simp
      refine hK _ _ ?_
      clear hK e0 f0
      (try simp only [Act.put])
      refine wpAnyZ_done (by kernel_rfl) ?_ _
      go_wp2_with fail
      go_ret
      exact RTurnP.yes HX.out HTC.out HLQ.out
    · refine stepZ (o := { dst := some 132, op := _, type := _, pos := _, after := _, guard := _ }) rfl (fun K hK => ?_)
      go_simp
      obtain ⟨gl, hgl⟩ : ∃ x, y1.heap.size = x := ⟨_, rfl⟩
      obtain ⟨y2, hwl⟩ : ∃ x, y1.alloc (.cells #[.int .i64 1] 3) = x := ⟨_, rfl⟩
      have ll : Later y1 y2 := hwl ▸ Later.new _ _
      have hbn : Blk y2 gl #[.int .i64 1] 3 := hwl ▸ Blk.new _ _ _ _ hgl.symm
      try rw [hgl]
      rw [hwl]
      have HNZ := Lib.hid (show gl ≠ gz from by have := (own_capG HOZ.out).2.2.2.1; omega)
      have HTY := Lib.hid (HTY.out.later ll)
      have HLY := Lib.hid (HLY.out.trans ll)
      have HZZ := Lib.hid (Nat.le_trans HZZ.out ll.size)
      have HOZ := Lib.hid (own_later HOZ.out ll)
      have HLB := Lib.hid hbn
      replace hS : (fun W : World => W.cell? ⟨gm, 3, none⟩ = some (.slice (some ⟨ge, 0, none⟩) s.2.2.enc.length ec)) y2 := HTY.out.bl.cell 3 _ rfl
      refine hK _ _ hS ?_
      clear hK hwl hgl ll hbn
      (try simp only [Act.put, List.setIfInBounds_toArray, List.set_cons_zero, List.set_cons_succ])
      refine wpAnyZ_all (rs := [9]) (by kernel_rfl) (by simp) (fun i hi => ?_)
      simp only [List.mem_cons, List.not_mem_nil, or_false] at hi
      subst hi
      refine stepZ (o := { dst := some 131, op := _, type := _, pos := _, after := _, guard := _ }) rfl (fun K hK => ?_)
      refine step_append_x rfl (.tmp 123) (.tmp 130) 25 rfl W0.heap.size 3 _ 1 8 Tryd.underlying25 info_e rfl (by decide) (.slice (some ⟨gz, 0, none⟩) 0 0) 0 [] rfl HOZ.out ge 0 (i + 1) ec (ein (s.2.2.enc.take (i + 1))) rfl (show Has _ _ _ from by rw [show ein (s.2.2.enc.take (i + 1)) = (ein s.2.2.enc).take (i + 1) from List.map_take]; exact has_take (Has.ownG HTY.out.oe) _) (by rw [ein_len, List.length_take]; have := HN6B.out; omega) (fun u hu => by obtain ⟨z, _, rfl⟩ := List.mem_map.1 hu; rfl) (by unfold maxLen; have := HN6B.out; omega) (by have := HN6B.out; omega) HLY.out.size ?_
      rintro A' c' y3 ho hgr hbl hat _
      (try simp only [Nat.zero_add])
      rw [Nat.zero_add] at ho
      obtain ⟨gw, rfl⟩ := own_some ho (by omega)
      obtain ⟨cv, hcv⟩ := own_typ HOZ.out
      have hdg : ge ≠ gz := by have h1 := HGV.out; have h2 := HGZ.out; omega
      have hwd : W0.heap.size ≤ gz := (own_capG HOZ.out).2.2.1
      have HG1 := Lib.hid (show N0 ≤ gw from by
        have h2 := HGZ.out
        have h3 := HZZ.out
        rcases hat with e | e
        · have e : some gw = some gz := e
          injection e with e; omega
        · have e : some gw = some _ := e
          injection e with e; omega)
      have HLB := Lib.hid (grown_blk (d := gz) hgr HLB.out HNZ.out)
      have HTY := Lib.hid (HTY.out.appE hgr hcv hdg)
      have HLY := Lib.hid (grow_later HLY.out hgr hwd)
      have HZZ := Lib.hid (Nat.le_trans HZZ.out hgr.size)
      have HO1 := Lib.hid ho
      obtain ⟨g1, hgn⟩ : ∃ x, x = gw := ⟨_, rfl⟩
      obtain ⟨c1, hcn⟩ : ∃ x, x = c' := ⟨_, rfl⟩
      rw [← hgn] at HO1 HG1 ⊢
      rw [← hcn] at HO1 ⊢
      replace hS : (fun W : World => W.cell? ⟨gm, 3, none⟩ = some (.slice (some ⟨ge, 0, none⟩) s.2.2.enc.length ec)) y3 := HTY.out.bl.cell 3 _ rfl
      refine hK _ _ hS ?_
      clear hK ho hgr hbl hat hgn hcn hcv hdg hwd
      (try simp only [Act.put, List.setIfInBounds_toArray, List.set_cons_zero, List.set_cons_succ])
      refine wpAnyZ_all (rs := [11]) (by kernel_rfl) (by simp) (fun i hi => ?_)
      simp only [List.mem_cons, List.not_mem_nil, or_false] at hi
      subst hi
      refine stepZ (o := { dst := some 133, op := _, type := _, pos := _, after := _, guard := _ }) rfl (fun K hK => ?_)
      refine step_append_x rfl (.tmp 131) (.tmp 132) 25 rfl W0.heap.size 3 _ 1 8 Tryd.underlying25 info_e rfl (by decide) (.slice (some ⟨g1, 0, none⟩) (i + 1) c1) (i + 1) ([] ++ ein (s.2.2.enc.take (i + 1))) rfl HO1.out gl 0 1 1 (ein [(1 : Int)]) rfl (Blk.has (cs := ein [(1 : Int)]) HLB.out) (rfl) (fun u hu => by obtain ⟨z, _, rfl⟩ := List.mem_map.1 hu; rfl) (by unfold maxLen; have := HN6B.out; omega) (by have := HN6B.out; omega) HLY.out.size ?_
      rintro A' c' y3a ho hgr hbl hat _
      skip
      skip
      obtain ⟨gw, rfl⟩ := own_some ho (by omega)
      obtain ⟨cv, hcv⟩ := own_typ HO1.out
      have hdg : ge ≠ g1 := by have h1 := HGV.out; have h2 := HG1.out; omega
      have hwd : W0.heap.size ≤ g1 := (own_capG HO1.out).2.2.1
      have HG2 := Lib.hid (show N0 ≤ gw from by
        have h2 := HG1.out
        have h3 := HZZ.out
        rcases hat with e | e
        · have e : some gw = some g1 := e
          injection e with e; omega
        · have e : some gw = some _ := e
          injection e with e; omega)
      have HTY := Lib.hid (HTY.out.appE hgr hcv hdg)
      have HLY := Lib.hid (grow_later HLY.out hgr hwd)
      have HZZ := Lib.hid (Nat.le_trans HZZ.out hgr.size)
      have HO2 := Lib.hid ho
      obtain ⟨g2, hgn⟩ : ∃ x, x = gw := ⟨_, rfl⟩
      obtain ⟨c2, hcn⟩ : ∃ x, x = c' := ⟨_, rfl⟩
      rw [← hgn] at HO2 HG2 ⊢
      rw [← hcn] at HO2 ⊢
      replace hS : (fun W : World => W.cell? ⟨gm, 3, none⟩ = some (.slice (some ⟨ge, 0, none⟩) s.2.2.enc.length ec)) y3a := HTY.out.bl.cell 3 _ rfl
      refine hK _ _ hS ?_
      clear hK ho hgr hbl hat hgn hcn hcv hdg hwd
      (try simp only [Act.put, List.setIfInBounds_toArray, List.set_cons_zero, List.set_cons_succ])
      refine wpAnyZ_all (rs := [19]) (by kernel_rfl) (by simp) (fun i hi => ?_)
      simp only [List.mem_cons, List.not_mem_nil, or_false] at hi
      subst hi
      refine stepZ (o := { dst := some 141, op := _, type := _, pos := _, after := _, guard := _ }) rfl (fun K hK => ?_)
      refine step_append_x rfl (.tmp 133) (.tmp 140) 25 rfl W0.heap.size 3 _ 1 8 Tryd.underlying25 info_e rfl (by decide) (.slice (some ⟨g2, 0, none⟩) (i + 1 + 1) c2) (i + 1 + 1) ([] ++ ein (s.2.2.enc.take (i + 1)) ++ ein [(1 : Int)]) rfl HO2.out ge o2 (s.2.2.enc.length - (i + 1)) (ec - (i + 1)) (ein (s.2.2.enc.drop (i + 1))) rfl (HHA.out _ (Has.ownG HTY.out.oe)) (by rw [ein_len, List.length_drop, Nat.mul_one]) (fun u hu => by obtain ⟨z, _, rfl⟩ := List.mem_map.1 hu; rfl) (by unfold maxLen; have := HN6B.out; omega) (by have := HN6B.out; omega) HLY.out.size ?_
      rintro A' c' y3b ho hgr hbl hat _
      skip
      skip
      obtain ⟨gw, rfl⟩ := own_some ho (by omega)
      obtain ⟨cv, hcv⟩ := own_typ HO2.out
      have hdg : ge ≠ g2 := by have h1 := HGV.out; have h2 := HG2.out; omega
      have hwd : W0.heap.size ≤ g2 := (own_capG HO2.out).2.2.1
      have n1 : gm ≠ g2 := ne_typ HTY.out.bl hcv (by decide)
      have hb1 := grown_blk (d := g2) hgr HTY.out.bl n1
      rw [show [] ++ ein (s.2.2.enc.take (i + 1)) ++ ein [(1 : Int)] ++ ein (s.2.2.enc.drop (i + 1)) = ein (insA s.2.2.enc (i + 1) 1) from by unfold insA ein; rw [List.nil_append, ← List.map_append, ← List.map_append, List.append_assoc]; rfl] at ho
      have HTC := Lib.hid (HTY.out.encs (ge' := gw) (ec' := c') (insA s.2.2.enc (i + 1) (1 : Int)) (by rw [← HNS.out]; exact ho) hgr hcv)
      rw [← HNS.out] at HTC
      have HLQ := Lib.hid (show Later W0 (y3b.setCell ⟨gm, 3, none⟩ (.slice (some ⟨gw, 0, none⟩) (i + 1 + 1 + (s.2.2.enc.length - (i + 1))) c')) from lsetB gm 3 _ HTY.out.hb.2 (grow_later HLY.out hgr hwd))
      replace hS : (fun W : World => W.cell? ⟨gm, 3, none⟩ = some (.slice (some ⟨ge, 0, none⟩) s.2.2.enc.length ec)) y3b := Blk.cell hb1 3 _ rfl
      have HFZ := Lib.hid (Blk.frozen hb1 3)
      refine hK _ _ hS ?_
      clear hK ho hgr hbl hat hb1 hcv hdg hwd
      (try simp only [Act.put, List.setIfInBounds_toArray, List.set_cons_zero, List.set_cons_succ])
      refine wpAnyZ_all (rs := [20]) (by kernel_rfl) (by simp) (fun i hi => ?_)
      simp only [List.mem_cons, List.not_mem_nil, or_false] at hi
      subst hi
      refine stepZ (o := { dst := some 142, op := _, type := _, pos := _, after := _, guard := _ }) rfl (fun K hK => ?_)
      go_simp
      refine hK _ _ hS ?_
      clear hK 
      (try simp only [Act.put, List.setIfInBounds_toArray, List.set_cons_zero, List.set_cons_succ])
      refine wpAnyZ_take (i := 21) (oi := { dst := some 143, op := _, type := _, pos := _, after := _, guard := _ }) (v := ?_) rfl (by kernel_rfl) (by kernel_rfl) (by kernel_rfl) (by kernel_rfl) (fun _ _ _ h => h) (Or.inl ⟨by rfl, ?_⟩) hS ?_
      rotate_left
      focus ((intro w hSw; (try dsimp only at hSw); skip; go_simp); (try with_reducible rfl))
      (try simp only [Act.put, List.setIfInBounds_toArray, List.set_cons_zero, List.set_cons_succ])
      refine wpAnyZ_all (rs := [22]) (by kernel_rfl) (by simp) (fun i hi => ?_)
      simp only [List.mem_cons, List.not_mem_nil, or_false] at hi
      subst hi
      refine stepZl (o := { dst := none, op := _, type := _, pos := _, after := _, guard := _ }) rfl (fun K hK => ?_)
      have e0 := hS
      have f0 := HFZ.out
      go_simp
      refine hK _ _ ?_
      clear hK e0 f0
      (try simp only [Act.put])
      refine wpAnyZ_done (by kernel_rfl) ?_ _
      go_wp2_with fail
      go_ret
      exact RTurnP.yes HX.out HTC.out HLQ.out
  · refine stepZ (o := { dst := some 132, op := _, type := _, pos := _, after := _, guard := _ }) rfl (fun K hK => ?_)
    go_simp
    obtain ⟨gl, hgl⟩ : ∃ x, y0.heap.size = x := ⟨_, rfl⟩
    obtain ⟨y1, hwl⟩ : ∃ x, y0.alloc (.cells #[.int .i64 1] 3) = x := ⟨_, rfl⟩
    have ll : Later y0 y1 := hwl ▸ Later.new _ _
    have hbn : Blk y1 gl #[.int .i64 1] 3 := hwl ▸ Blk.new _ _ _ _ hgl.symm
    try rw [hgl]
    rw [hwl]
    have HTY := Lib.hid (HTY.out.later ll)
    have HLY := Lib.hid (HLY.out.trans ll)
    have HZZ := Lib.hid (Nat.le_trans HZZ.out ll.size)
    have HLB := Lib.hid hbn
    replace hS : (fun W : World => W.cell? ⟨gm, 3, none⟩ = some (.slice (some ⟨ge, 0, none⟩) s.2.2.enc.length ec)) y1 := HTY.out.bl.cell 3 _ rfl
    refine hK _ _ hS ?_
    clear hK hwl hgl ll hbn
    (try simp only [Act.put, List.setIfInBounds_toArray, List.set_cons_zero, List.set_cons_succ])
    refine wpAnyZ_all (rs := [1]) (by kernel_rfl) (by simp) (fun i hi => ?_)
    simp only [List.mem_cons, List.not_mem_nil, or_false] at hi
    subst hi
    refine stepZ (o := { dst := some 123, op := _, type := _, pos := _, after := _, guard := _ }) rfl (fun K hK => ?_)
    go_simp
    obtain ⟨gz, hgl⟩ : ∃ x, y1.heap.size = x := ⟨_, rfl⟩
    obtain ⟨y2, hwl⟩ : ∃ x, y1.alloc (.cells #[] 3) = x := ⟨_, rfl⟩
    have ll : Later y1 y2 := hwl ▸ Later.new _ _
    have hbn : Blk y2 gz #[] 3 := hwl ▸ Blk.new _ _ _ _ hgl.symm
    try rw [hgl]
    rw [hwl]
    have HGZ := Lib.hid (show N0 ≤ gz from hgl ▸ HZZ.out)
    have hWZ : W0.heap.size ≤ gz := hgl ▸ HLY.out.size
    have HNZ := Lib.hid (show gl ≠ gz from by have := HLB.out.lt; omega)
    have HTY := Lib.hid (HTY.out.later ll)
    have HLY := Lib.hid (HLY.out.trans ll)
    have HZZ := Lib.hid (Nat.le_trans HZZ.out ll.size)
    have HLB := Lib.hid (HLB.out.later ll)
    have HOZ := Lib.hid (Blk.ownG (cs := []) (size := 1) (n := 0) hbn hWZ rfl (by decide))
    replace hS : (fun W : World => W.cell? ⟨gm, 3, none⟩ = some (.slice (some ⟨ge, 0, none⟩) s.2.2.enc.length ec)) y2 := HTY.out.bl.cell 3 _ rfl
    refine hK _ _ hS ?_
    clear hK hwl hgl ll hbn hWZ
    (try simp only [Act.put, List.setIfInBounds_toArray, List.set_cons_zero, List.set_cons_succ])
    refine wpAnyZ_all (rs := [9]) (by kernel_rfl) (by simp) (fun i hi => ?_)
    simp only [List.mem_cons, List.not_mem_nil, or_false] at hi
    subst hi
    refine stepZ (o := { dst := some 131, op := _, type := _, pos := _, after := _, guard := _ }) rfl (fun K hK => ?_)
    refine step_append_x rfl (.tmp 123) (.tmp 130) 25 rfl W0.heap.size 3 _ 1 8 Tryd.underlying25 info_e rfl (by decide) (.slice (some ⟨gz, 0, none⟩) 0 0) 0 [] rfl HOZ.out ge 0 (i + 1) ec (ein (s.2.2.enc.take (i + 1))) rfl (show Has _ _ _ from by rw [show ein (s.2.2.enc.take (i + 1)) = (ein s.2.2.enc).take (i + 1) from List.map_take]; exact has_take (Has.ownG HTY.out.oe) _) (by rw [ein_len, List.length_take]; have := HN6B.out; omega) (fun u hu => by obtain ⟨z, _, rfl⟩ := List.mem_map.1 hu; rfl) (by unfold maxLen; have := HN6B.out; omega) (by have := HN6B.out; omega) HLY.out.size ?_
    rintro A' c' y3 ho hgr hbl hat _
    (try simp only [Nat.zero_add])
    rw [Nat.zero_add] at ho
    obtain ⟨gw, rfl⟩ := own_some ho (by omega)
    obtain ⟨cv, hcv⟩ := own_typ HOZ.out
    have hdg : ge ≠ gz := by have h1 := HGV.out; have h2 := HGZ.out; omega
    have hwd : W0.heap.size ≤ gz := (own_capG HOZ.out).2.2.1
    have HG1 := Lib.hid (show N0 ≤ gw from by
      have h2 := HGZ.out
      have h3 := HZZ.out
      rcases hat with e | e
      · have e : some gw = some gz := e
        injection e with e; omega
      · have e : some gw = some _ := e
        injection e with e; omega)
    have HLB := Lib.hid (grown_blk (d := gz) hgr HLB.out HNZ.out)
    have HTY := Lib.hid (HTY.out.appE hgr hcv hdg)
    have HLY := Lib.hid (grow_later HLY.out hgr hwd)
    have HZZ := Lib.hid (Nat.le_trans HZZ.out hgr.size)
    have HO1 := Lib.hid ho
    obtain ⟨g1, hgn⟩ : ∃ x, x = gw := ⟨_, rfl⟩
    obtain ⟨c1, hcn⟩ : ∃ x, x = c' := ⟨_, rfl⟩
    rw [← hgn] at HO1 HG1 ⊢
    rw [← hcn] at HO1 ⊢
    replace hS : (fun W : World => W.cell? ⟨gm, 3, none⟩ = some (.slice (some ⟨ge, 0, none⟩) s.2.2.enc.length ec)) y3 := HTY.out.bl.cell 3 _ rfl
    refine hK _ _ hS ?_
    clear hK ho hgr hbl hat hgn hcn hcv hdg hwd
    (try simp only [Act.put, List.setIfInBounds_toArray, List.set_cons_zero, List.set_cons_succ])
    refine wpAnyZ_all (rs := [11]) (by kernel_rfl) (by simp) (fun i hi => ?_)
    simp only [List.mem_cons, List.not_mem_nil, or_false] at hi
    subst hi
    refine stepZ (o := { dst := some 133, op := _, type := _, pos := _, after := _, guard := _ }) rfl (fun K hK => ?_)
    refine step_append_x rfl (.tmp 131) (.tmp 132) 25 rfl W0.heap.size 3 _ 1 8 Tryd.underlying25 info_e rfl (by decide) (.slice (some ⟨g1, 0, none⟩) (i + 1) c1) (i + 1) ([] ++ ein (s.2.2.enc.take (i + 1))) rfl HO1.out gl 0 1 1 (ein [(1 : Int)]) rfl (Blk.has (cs := ein [(1 : Int)]) HLB.out) (rfl) (fun u hu => by obtain ⟨z, _, rfl⟩ := List.mem_map.1 hu; rfl) (by unfold maxLen; have := HN6B.out; omega) (by have := HN6B.out; omega) HLY.out.size ?_
    rintro A' c' y3a ho hgr hbl hat _
    skip
    skip
    obtain ⟨gw, rfl⟩ := own_some ho (by omega)
    obtain ⟨cv, hcv⟩ := own_typ HO1.out
    have hdg : ge ≠ g1 := by have h1 := HGV.out; have h2 := HG1.out; omega
    have hwd : W0.heap.size ≤ g1 := (own_capG HO1.out).2.2.1
    have HG2 := Lib.hid (show N0 ≤ gw from by
      have h2 := HG1.out
      have h3 := HZZ.out
      rcases hat with e | e
      · have e : some gw = some g1 := e
        injection e with e; omega
      · have e : some gw = some _ := e
        injection e with e; omega)
    have HTY := Lib.hid (HTY.out.appE hgr hcv hdg)
    have HLY := Lib.hid (grow_later HLY.out hgr hwd)
    have HZZ := Lib.hid (Nat.le_trans HZZ.out hgr.size)
    have HO2 := Lib.hid ho
    obtain ⟨g2, hgn⟩ : ∃ x, x = gw := ⟨_, rfl⟩
    obtain ⟨c2, hcn⟩ : ∃ x, x = c' := ⟨_, rfl⟩
    rw [← hgn] at HO2 HG2 ⊢
    rw [← hcn] at HO2 ⊢
    replace hS : (fun W : World => W.cell? ⟨gm, 3, none⟩ = some (.slice (some ⟨ge, 0, none⟩) s.2.2.enc.length ec)) y3a := HTY.out.bl.cell 3 _ rfl
    refine hK _ _ hS ?_
    clear hK ho hgr hbl hat hgn hcn hcv hdg hwd
    (try simp only [Act.put, List.setIfInBounds_toArray, List.set_cons_zero, List.set_cons_succ])
    refine wpAnyZ_all (rs := [19]) (by kernel_rfl) (by simp) (fun i hi => ?_)
    simp only [List.mem_cons, List.not_mem_nil, or_false] at hi
    subst hi
    refine stepZ (o := { dst := some 141, op := _, type := _, pos := _, after := _, guard := _ }) rfl (fun K hK => ?_)
    refine step_append_x rfl (.tmp 133) (.tmp 140) 25 rfl W0.heap.size 3 _ 1 8 Tryd.underlying25 info_e rfl (by decide) (.slice (some ⟨g2, 0, none⟩) (i + 1 + 1) c2) (i + 1 + 1) ([] ++ ein (s.2.2.enc.take (i + 1)) ++ ein [(1 : Int)]) rfl HO2.out ge o2 (s.2.2.enc.length - (i + 1)) (ec - (i + 1)) (ein (s.2.2.enc.drop (i + 1))) rfl (HHA.out _ (Has.ownG HTY.out.oe)) (by rw [ein_len, List.length_drop, Nat.mul_one]) (fun u hu => by obtain ⟨z, _, rfl⟩ := List.mem_map.1 hu; rfl) (by unfold maxLen; have := HN6B.out; omega) (by have := HN6B.out; omega) HLY.out.size ?_
    rintro A' c' y3b ho hgr hbl hat _
    skip
    skip
    obtain ⟨gw, rfl⟩ := own_some ho (by omega)
    obtain ⟨cv, hcv⟩ := own_typ HO2.out
    have hdg : ge ≠ g2 := by have h1 := HGV.out; have h2 := HG2.out; omega
    have hwd : W0.heap.size ≤ g2 := (own_capG HO2.out).2.2.1
    have n1 : gm ≠ g2 := ne_typ HTY.out.bl hcv (by decide)
    have hb1 := grown_blk (d := g2) hgr HTY.out.bl n1
    rw [show [] ++ ein (s.2.2.enc.take (i + 1)) ++ ein [(1 : Int)] ++ ein (s.2.2.enc.drop (i + 1)) = ein (insA s.2.2.enc (i + 1) 1) from by unfold insA ein; rw [List.nil_append, ← List.map_append, ← List.map_append, List.append_assoc]; rfl] at ho
    have HTC := Lib.hid (HTY.out.encs (ge' := gw) (ec' := c') (insA s.2.2.enc (i + 1) (1 : Int)) (by rw [← HNS.out]; exact ho) hgr hcv)
    rw [← HNS.out] at HTC
    have HLQ := Lib.hid (show Later W0 (y3b.setCell ⟨gm, 3, none⟩ (.slice (some ⟨gw, 0, none⟩) (i + 1 + 1 + (s.2.2.enc.length - (i + 1))) c')) from lsetB gm 3 _ HTY.out.hb.2 (grow_later HLY.out hgr hwd))
    replace hS : (fun W : World => W.cell? ⟨gm, 3, none⟩ = some (.slice (some ⟨ge, 0, none⟩) s.2.2.enc.length ec)) y3b := Blk.cell hb1 3 _ rfl
    have HFZ := Lib.hid (Blk.frozen hb1 3)
    refine hK _ _ hS ?_
    clear hK ho hgr hbl hat hb1 hcv hdg hwd
    (try simp only [Act.put, List.setIfInBounds_toArray, List.set_cons_zero, List.set_cons_succ])
    refine wpAnyZ_all (rs := [20]) (by kernel_rfl) (by simp) (fun i hi => ?_)
    simp only [List.mem_cons, List.not_mem_nil, or_false] at hi
    subst hi
    refine stepZ (o := { dst := some 142, op := _, type := _, pos := _, after := _, guard := _ }) rfl (fun K hK => ?_)
    go_simp
    refine hK _ _ hS ?_
    clear hK 
    (try simp only [Act.put, List.setIfInBounds_toArray, List.set_cons_zero, List.set_cons_succ])
    refine wpAnyZ_take (i := 21) (oi := { dst := some 143, op := _, type := _, pos := _, after := _, guard := _ }) (v := ?_) rfl (by kernel_rfl) (by kernel_rfl) (by kernel_rfl) (by kernel_rfl) (fun _ _ _ h => h) (Or.inl ⟨by rfl, ?_⟩) hS ?_
    rotate_left
    focus ((intro w hSw; (try dsimp only at hSw); skip; go_simp); (try with_reducible rfl))
    (try simp only [Act.put, List.setIfInBounds_toArray, List.set_cons_zero, List.set_cons_succ])
    refine wpAnyZ_all (rs := [22]) (by kernel_rfl) (by simp) (fun i hi => ?_)
    simp only [List.mem_cons, List.not_mem_nil, or_false] at hi
    subst hi
    refine stepZl (o := { dst := none, op := _, type := _, pos := _, after := _, guard := _ }) rfl (fun K hK => ?_)
    have e0 := hS
    have f0 := HFZ.out
    go_simp
    refine hK _ _ ?_
    clear hK e0 f0
    (try simp only [Act.put])
    refine wpAnyZ_done (by kernel_rfl) ?_ _
    go_wp2_with fail
    go_ret
    exact RTurnP.yes HX.out HTC.out HLQ.out
end Go.Proofs.YtklohbglkbhjhaaDoor
